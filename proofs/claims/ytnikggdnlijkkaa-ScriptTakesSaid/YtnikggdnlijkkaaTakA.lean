/- Layer 14: rows of bytes that are read; a number read off a row of bytes. -/
import Derived.Test.YtnikggdnlijkkaaScrW
import Derived.Recover
namespace Go.Proofs.Ytnikggdnlijkkaa
open Go.RowKit WordM
set_option linter.unusedVariables false
set_option linter.unusedSimpArgs false
/-- A row of bytes. -/
inductive BR (w : World) : Value → Nat → (Nat → Int) → Prop
  | nil (D) : BR w (.slice none 0 0) 0 D
  | odd (a : Addr) (c : Nat) (D) : c ≤ 9223372036854775807 → BR w (.slice (some a) 0 c) 0 D
  | row (g o n c : Nat) (D) : n ≤ c → c ≤ 9223372036854775807 → (∀ i, i < n → w.cell? ⟨g, o + i, none⟩ = some (.int .u8 (D i))) → BR w (.slice (some ⟨g, o, none⟩) n c) n D
theorem BR.below {w w' : World} {v : Value} {n : Nat} {D : Nat → Int} (h : BR w v n D) (k : Below w.heap.size w w') : BR w' v n D := by
  cases h with
  | nil => exact .nil _
  | odd a c _ h1 => exact .odd a c _ h1
  | row g o _ c _ h1 h2 h3 => exact .row g o n c D h1 h2 fun i hi => Ext.cell ⟨w', k⟩ (h3 i hi)
theorem BR.slice {w : World} {v : Value} {n : Nat} {D : Nat → Int} (h : BR w v n D) : ∃ p c, v = .slice p n c ∧ n ≤ c ∧ c ≤ 9223372036854775807 := by
  cases h with
  | nil => exact ⟨_, _, rfl, Nat.le_refl _, by decide⟩
  | odd a c _ h1 => exact ⟨_, _, rfl, Nat.zero_le _, h1⟩
  | row g o _ c _ h1 h2 h3 => exact ⟨_, _, rfl, h1, h2⟩
theorem BR.parts {w : World} {v : Value} {n : Nat} {D : Nat → Int} (h : BR w v n D) (h0 : 0 < n) : ∃ g o c, v = .slice (some ⟨g, o, none⟩) n c ∧ n ≤ c ∧ c ≤ 9223372036854775807 ∧ ∀ i, i < n → w.cell? ⟨g, o + i, none⟩ = some (.int .u8 (D i)) := by
  cases h with
  | nil => omega
  | odd a c _ h1 => omega
  | row g o _ c _ h1 h2 h3 => exact ⟨_, _, _, rfl, h1, h2, h3⟩
/-- What is left of a row. -/
def dropD (D : Nat → Int) (m : Nat) : Nat → Int := fun j => D (m + j)
theorem dropD_drop (D : Nat → Int) (a b : Nat) : dropD (dropD D a) b = dropD D (a + b) := by
  funext j; unfold dropD; rw [Nat.add_assoc]
def BY (D : Nat → Int) : Prop := ∀ i, 0 ≤ D i ∧ D i ≤ 255
theorem BY.drop {D : Nat → Int} (h : BY D) (m : Nat) : BY (dropD D m) := fun i => h (m + i)
/-- The number of so many bytes. -/
def numB (D : Nat → Int) : Nat → Int
  | 0 => 0
  | m + 1 => numB D m + ((256 ^ m : Nat) : Int) * D m
theorem num_bd {D : Nat → Int} (h : BY D) : ∀ m, 0 ≤ numB D m ∧ numB D m < ((256 ^ m : Nat) : Int)
  | 0 => by simp [numB]
  | m + 1 => by
    obtain ⟨a, b⟩ := num_bd h m
    obtain ⟨c, d⟩ := h m
    rw [numB, Nat.pow_succ]
    generalize 256 ^ m = p at *
    have h1 : (0 : Int) ≤ (p : Int) * D m := Int.mul_nonneg (by omega) c
    have h2 : (p : Int) * D m ≤ (p : Int) * 255 := Int.mul_le_mul_of_nonneg_left d (by omega)
    refine ⟨by omega, ?_⟩
    rw [Int.natCast_mul]
    omega
theorem num_max {D : Nat → Int} (h : BY D) {m : Nat} (hm : m ≤ 8) : 0 ≤ numB D m ∧ numB D m < 18446744073709551616 := by
  obtain ⟨a, b⟩ := num_bd h m
  refine ⟨a, Int.lt_of_lt_of_le b ?_⟩
  have : 256 ^ m ≤ 256 ^ 8 := Nat.pow_le_pow_right (by decide) hm
  omega
theorem num_with {D : Nat → Int} (h : BY D) {m : Nat} (hm : m < 8) : withI (numB D m) ((m : Int) * 8) 8 (D m) = numB D (m + 1) := by
  obtain ⟨a, b⟩ := num_bd h m
  obtain ⟨c, d⟩ := h m
  rw [with_eq (may_mk (by omega)) a c]
  have e : ((m : Int) * 8).toNat = 8 * m := by omega
  have e8 : (8 : Int).toNat = 8 := rfl
  rw [e, e8]
  have e2 : (2 : Int) ^ (8 * m) = ((256 ^ m : Nat) : Int) := by
    rw [show (2 : Int) = ((2 : Nat) : Int) from rfl, ← Int.natCast_pow, Nat.pow_mul]
  have e3 : (2 : Int) ^ (8 * m + 8) = ((256 ^ m : Nat) : Int) * 256 := by
    rw [Int.pow_add, e2]; rfl
  rw [e2, e3, numB]
  generalize ((256 ^ m : Nat) : Int) = p at *
  generalize numB D m = x at *
  have h1 : x / (p * 256) = 0 := Int.ediv_eq_zero_of_lt a (by omega)
  have h2 : x % p = x := Int.emod_eq_of_lt a b
  have h3 : D m % (2 : Int) ^ 8 = D m := Int.emod_eq_of_lt c (by have : (2 : Int) ^ 8 = 256 := rfl; omega)
  rw [h1, h2, h3]
  omega
abbrev EB (w : World) (e : Nat) (lv rv : Value) : Prop := w.heap[e]? = some (.cells #[lv, rv] 48 (0, 0))
theorem EB.c0 {w : World} {e : Nat} {lv rv : Value} (h : EB w e lv rv) : w.cell? ⟨e, 0, none⟩ = some lv := by rw [cell_of_row _ _ _ _ _ (0, 0) h]; rfl
theorem EB.c1 {w : World} {e : Nat} {lv rv : Value} (h : EB w e lv rv) : w.cell? ⟨e, 1, none⟩ = some rv := by rw [cell_of_row _ _ _ _ _ (0, 0) h]; rfl
theorem EB.fr {w : World} {e : Nat} {lv rv : Value} (h : EB w e lv rv) (i : Nat) : w.frozen? ⟨e, i, none⟩ = false := frozen_of_row _ _ _ _ _ h
theorem EB.set0 {w : World} {e : Nat} {lv rv : Value} (h : EB w e lv rv) (v : Value) : EB (w.setCell ⟨e, 0, none⟩ v) e v rv := heap_setCell_same w e 0 _ _ v h
theorem EB.set1 {w : World} {e : Nat} {lv rv : Value} (h : EB w e lv rv) (v : Value) : EB (w.setCell ⟨e, 1, none⟩ v) e lv v := heap_setCell_same w e 1 _ _ v h
theorem EB.lt {w : World} {e : Nat} {lv rv : Value} (h : EB w e lv rv) : e < w.heap.size := (Array.getElem?_eq_some_iff.1 h).1
set_option maxHeartbeats 2000000 in
/-- There are less bytes than are read. -/
theorem snumber_no (W0 : World) (D : Nat → Int) (n m : Nat) (lv rv : Value) (e : Nat) (w : World) (hL : BR W0 lv n D) (he : EB w e lv rv) (hn : n < m) :
    Calls Try.prog 23 #[.pointer (some ⟨e, 0, none⟩), .int .i64 m] w fun E w' => E = .panicked [{ v := .iface 41 (.agg #[]), recovered := false }] ∧ w' = w := by
  refine Calls.veil fun Q HQ => ?_
  obtain ⟨p, c, rfl, a1, a2⟩ := hL.slice
  have c0 := he.c0
  clear hL he
  go_enter Try.func23, Try.ntmps23
  go_wp2_with fail
  rw [HQ.out]
  exact ⟨rfl, rfl, rfl⟩
set_option maxHeartbeats 2000000 in
theorem snumber (W0 : World) (D : Nat → Int) (n m : Nat) (lv rv : Value) (e : Nat) (w : World) (hL : BR W0 lv n D) (hb : Below W0.heap.size W0 w) (he : EB w e lv rv) (hn : m ≤ n) (hm : 0 < m ∧ m ≤ 8) (hD : BY D) :
    Calls Try.prog 23 #[.pointer (some ⟨e, 0, none⟩), .int .i64 m] w fun E w' => E = .returned (.int .u64 (numB D m)) ∧ ∃ lv', BR W0 lv' (n - m) (dropD D m) ∧ w' = w.setCell ⟨e, 0, none⟩ lv' := by
  refine Calls.veil fun Q HQ => ?_
  obtain ⟨g, o, c, rfl, a1, a2, hC⟩ := hL.parts (by omega)
  have c0 := he.c0
  have HZ := he.fr 0
  have HC : Hid (∀ i, i < n → w.cell? ⟨g, o + i, none⟩ = some (.int .u8 (D i))) := Lib.hid fun i hi => Ext.cell ⟨w, hb⟩ (hC i hi)
  have HC0 := Lib.hid hC
  obtain ⟨m1, m2⟩ := hm
  have hdn : decide (n < m) = false := decide_eq_false (by omega)
  have hdi : decide ((n : Int) < (m : Int)) = false := decide_eq_false (by omega)
  clear hL he hb hC
  go_enter Try.func23, Try.ntmps23
  go_wp2_with fail
  go_loopw [5, 17] (fun nv iv wr => ∃ i : Nat, i ≤ m ∧ iv = .int .i64 i ∧ nv = .int .u64 (numB D i) ∧ wr = w)
    (fun _ iv _ => m - (intOf iv).toNat)
  case atStart => exact ⟨0, by omega, rfl, rfl, rfl⟩
  case round =>
    obtain ⟨i, hi', rfl, rfl, rfl⟩ := hrel
    rcases (by omega : i < m ∨ i = m) with hlt | heq
    · have ci := HC.out i (by omega)
      have HW := Lib.hid (num_with hD (m := i) (by omega))
      obtain ⟨x1, x2⟩ := num_max hD (m := i) (by omega)
      obtain ⟨d1, d2⟩ := hD i
      have hq := uw_id (D i) d1 (by omega)
      generalize D i = d at *
      generalize numB D i = x at *
      go_wp2_with fail
      refine (with_calls x _ 8 d _ x1 x2 d1).mono ?_; rintro _ _ ⟨rfl, rfl⟩
      go_wp2_with fail
      go_roundw
      case rel => exact ⟨i + 1, by omega, by go_num, by rw [HW.out], by first | rfl | trivial⟩
      case measure => simp [intOf]; omega
    · have HE := Lib.hid heq
      have hge : m ≤ i := by omega
      have HN := Lib.hid (show numB D i = numB D m by rw [heq])
      clear heq
      rcases (by omega : c = m ∨ m < c) with hc | hc
      · subst hc
        go_wp2_with fail
        rw [HQ.out, HN.out]
        have hz : n - c = 0 := by omega
        rw [hz]
        exact ⟨rfl, _, .odd _ 0 _ (by decide), rfl⟩
      · go_wp2_with fail
        rw [HQ.out, HN.out]
        exact ⟨rfl, _, .row g (o + m) (n - m) (c - m) _ (by omega) (by omega) (fun j hj => by rw [Nat.add_assoc]; exact HC0.out (m + j) (by omega)), rfl⟩
end Go.Proofs.Ytnikggdnlijkkaa
