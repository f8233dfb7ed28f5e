/- Layer 35, reading: the reference's way through a call's parts (no program). -/
import Derived.Test.YtdgplijnhkgeiaaDoorRtxY
namespace Go.Proofs.YtdgplijnhkgeiaaDoor
open Go.RowKit
set_option linter.unusedVariables false
set_option linter.unusedSimpArgs false
theorem rowc {w : World} {q i : Nat} {A : Array Value} {T : TypeId} (h : w.heap[q]? = some (.cells A T (0, 0))) (v : Value) (hv : A[i]? = some v) : w.cell? ⟨q, i, none⟩ = some v := by rw [cell_of_row _ _ _ _ _ (0, 0) h]; exact hv
theorem VB.up {B B' : Nat} {w : World} (h : VB B w) (k : B ≤ B') : VB B' w := by
  refine ⟨fun w2 h2 => h.pow w2 (h2.mono k), ?_, ?_⟩
  · obtain ⟨t, p, h1⟩ := h.syn
    exact ⟨t, p, fun w2 h2 => h1 w2 (h2.mono k)⟩
  · obtain ⟨t, p, h1⟩ := h.rng
    exact ⟨t, p, fun w2 h2 => h1 w2 (h2.mono k)⟩
def callP : Except Int Ca → Ca × Int
  | .ok c => (c, 0)
  | .error y => (⟨0, 0, 0, 0, 0⟩, y)
def ansP : Except Int An → An × Int
  | .ok a => (a, 0)
  | .error y => (⟨0, 0, 0, 0, []⟩, y)
/-- The last of f's words below i that is s. -/
def fnd (f : Nat → ByteArray) (s : ByteArray) : Nat → Int
  | 0 => -1
  | i + 1 => if f i = s then (i : Int) else fnd f s i
theorem fnd_ways (f : Nat → ByteArray) (s : ByteArray) : ∀ n, (∃ k, k < n ∧ f k = s ∧ fnd f s n = (k : Int)) ∨ ((∀ k, k < n → f k ≠ s) ∧ fnd f s n = -1)
  | 0 => .inr ⟨fun k hk => absurd hk (Nat.not_lt_zero k), rfl⟩
  | n + 1 => by
    by_cases h : f n = s
    · exact .inl ⟨n, by omega, h, by rw [fnd, if_pos h]⟩
    · rcases fnd_ways f s n with ⟨k, h1, h2, h3⟩ | ⟨h1, h2⟩
      · exact .inl ⟨k, by omega, h2, by rw [fnd, if_neg h, h3]⟩
      · refine .inr ⟨fun k hk => ?_, by rw [fnd, if_neg h, h2]⟩
        rcases (by omega : k < n ∨ k = n) with h3 | rfl
        · exact h1 k h3
        · exact h
theorem fnd_op (s : ByteArray) : fnd wordAt s 15 = (match opI s with | some k => (k : Int) | none => -1) := by
  rcases fnd_ways wordAt s 15 with ⟨k, h1, h2, h3⟩ | ⟨h1, h2⟩
  · rw [h3, op_at h1 h2]
  · rw [h2, op_none h1]
theorem fnd_kd (s : ByteArray) : fnd kindAt s 9 = (match kdI s with | some k => (k : Int) | none => -1) := by
  rcases fnd_ways kindAt s 9 with ⟨k, h1, h2, h3⟩ | ⟨h1, h2⟩
  · rw [h3, kd_at h1 h2]
  · rw [h2, kd_none h1]
/-- How many parts a call has below i. -/
def kN (op : Int) : Nat → Nat
  | 0 => 0
  | i + 1 => kN op i + (if hasN op i = true then 1 else 0)
theorem kN_y {op : Int} {i : Nat} (h : hasN op i = true) : kN op (i + 1) = kN op i + 1 := by rw [kN, if_pos h]
theorem kN_n {op : Int} {i : Nat} (h : hasN op i = false) : kN op (i + 1) = kN op i := by rw [kN, if_neg (by rw [h]; decide)]; rfl
theorem kN_at (op : Int) {i : Nat} (hi : i < 4) (h : hasN op i = true) : (partsL op)[kN op i]? = some (i : Int) := by
  rcases op_ways op with rfl | rfl | rfl | rfl | rfl | rfl | rfl | rfl | rfl | hh
  case inr.inr.inr.inr.inr.inr.inr.inr.inr =>
    have hN := partsL_none hh
    unfold hasN at h
    rw [hN] at h
    simp at h
  all_goals
    rcases (by omega : i = 0 ∨ i = 1 ∨ i = 2 ∨ i = 3) with rfl | rfl | rfl | rfl
    all_goals first
      | (exfalso; revert h; decide)
      | decide
theorem kN_all (op : Int) : kN op 4 = (partsL op).length := by
  rcases op_ways op with rfl | rfl | rfl | rfl | rfl | rfl | rfl | rfl | rfl | hh
  case inr.inr.inr.inr.inr.inr.inr.inr.inr =>
    have hN := partsL_none hh
    simp [kN, hasN, hN]
  all_goals decide
theorem kN_len (op : Int) : kN op 4 ≤ 3 := by
  rcases op_ways op with rfl | rfl | rfl | rfl | rfl | rfl | rfl | rfl | rfl | hh
  case inr.inr.inr.inr.inr.inr.inr.inr.inr =>
    have hN := partsL_none hh
    simp [kN, hasN, hN]
  all_goals decide
theorem kN_mono (op : Int) : ∀ {i j : Nat}, i ≤ j → kN op i ≤ kN op j
  | i, 0, h => by have : i = 0 := by omega
                  subst this; exact Nat.le_refl _
  | i, j + 1, h => by
    rcases (by omega : i ≤ j ∨ i = j + 1) with h1 | rfl
    · have := kN_mono op h1
      rw [kN]; omega
    · exact Nat.le_refl _
theorem kN_take (op : Int) {i : Nat} (hi : i < 4) (h : hasN op i = true) : (partsL op).take (kN op (i + 1)) = (partsL op).take (kN op i) ++ [(i : Int)] := by
  rw [kN_y h, List.take_add_one, kN_at op hi h]; rfl
/-- The array of the parts, as the reference fills it. -/
def nA (c : Ca) : Array Value := #[.int .i64 c.key, .int .i64 c.val, .int .i64 c.hi, .int .i64 c.lim]
theorem nA_set (c : Ca) {i : Nat} (hi : i < 4) (n : Int) : (nA c).setIfInBounds i (.int .i64 n) = nA (withI c i n) := by
  rcases (by omega : i = 0 ∨ i = 1 ∨ i = 2 ∨ i = 3) with rfl | rfl | rfl | rfl <;> rfl
theorem nA_get (c : Ca) {i : Nat} (hi : i < 4) : ∃ z, (nA c)[i]? = some (.int .i64 z) := by
  rcases (by omega : i = 0 ∨ i = 1 ∨ i = 2 ∨ i = 3) with rfl | rfl | rfl | rfl <;> exact ⟨_, rfl⟩
theorem withI_op (c : Ca) (p n : Int) : (withI c p n).op = c.op := by unfold withI; split <;> (try split) <;> (try split) <;> rfl
theorem withL_op : ∀ (ps ns : List Int) (c : Ca), (withL c ps ns).op = c.op
  | [], _, c => by unfold withL; rfl
  | p :: ps, [], c => by unfold withL; rfl
  | p :: ps, n :: ns, c => by rw [withL, withL_op ps ns, withI_op]
end Go.Proofs.YtdgplijnhkgeiaaDoor
