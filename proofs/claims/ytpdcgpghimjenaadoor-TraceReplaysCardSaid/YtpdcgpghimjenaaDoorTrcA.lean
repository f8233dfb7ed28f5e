/- Layer 40: rows of words; rows of changes. -/
import Derived.Test.YtpdcgpghimjenaaDoorPlanA
import Derived.Test.YtpdcgpghimjenaaDoorMix
import Derived.Laws.AppendOwn
import Derived.Laws.AppendOwnNone
import Derived.OwnWalk
import Derived.Lib.LazyBuf
namespace Go.Proofs.YtpdcgpghimjenaaDoor
open Go.RowKit
set_option linter.unusedVariables false
set_option linter.unusedSimpArgs false
theorem Calls.veil {P : Program} {f : FuncId} {args : Array Value} {w : World} {R : Ending → World → Prop} (h : ∀ Q : Ending → World → Prop, Hid (Q = R) → Calls P f args w Q) : Calls P f args w R := h R rfl
theorem addP (g o j : Nat) : ((⟨g, o, none⟩ : Addr).add j) = ⟨g, o + j, none⟩ := by simp only [Addr.add]; split <;> simp_all
/-- A slice of words. -/
inductive UR (w : World) : Value → Nat → (Nat → Int) → Prop
  | nil (f) : UR w (.slice none 0 0) 0 f
  | odd (a : Addr) (c : Nat) (f) : c ≤ 9223372036854775807 → UR w (.slice (some a) 0 c) 0 f
  | row (g o n c : Nat) (f) : n ≤ c → c ≤ 9223372036854775807 → (∀ i, i < n → w.cell? ⟨g, o + i, none⟩ = some (.int .u64 (f i))) → UR w (.slice (some ⟨g, o, none⟩) n c) n f
theorem UR.below {w w' : World} {v : Value} {n : Nat} {f : Nat → Int} (h : UR w v n f) (k : Below w.heap.size w w') : UR w' v n f := by
  cases h with
  | nil => exact .nil _
  | odd a c _ h1 => exact .odd a c _ h1
  | row g o _ c _ h1 h2 h3 => exact .row g o n c f h1 h2 fun i hi => Ext.cell ⟨w', k⟩ (h3 i hi)
theorem UR.parts {w : World} {v : Value} {n : Nat} {f : Nat → Int} (h : UR w v n f) : ∃ p c, v = .slice p n c ∧ n ≤ c ∧ c ≤ 9223372036854775807 ∧ Hid (0 < n → ∃ g o, p = some ⟨g, o, none⟩ ∧ ∀ i, i < n → w.cell? ⟨g, o + i, none⟩ = some (.int .u64 (f i))) := by
  cases h with
  | nil => exact ⟨_, _, rfl, Nat.le_refl _, by decide, fun h => by omega⟩
  | odd a c _ h1 => exact ⟨_, _, rfl, Nat.zero_le _, h1, fun h => by omega⟩
  | row g o _ c _ h1 h2 h3 => exact ⟨_, _, rfl, h1, h2, fun _ => ⟨g, o, rfl, h3⟩⟩
def ucells (n : Nat) (f : Nat → Int) : List Value := (List.range n).map fun i => .int .u64 (f i)
theorem ucells_len (n : Nat) (f : Nat → Int) : (ucells n f).length = n := by simp [ucells]
theorem ucells_get {n : Nat} {f : Nat → Int} {i : Nat} (h : i < n) : (ucells n f)[i]? = some (.int .u64 (f i)) := by simp [ucells, List.getElem?_range h]
abbrev OwnU (w : World) (B : Nat) (v : Value) (n : Nat) (f : Nat → Int) : Prop := w.ownsRow B 22 1 v n (ucells n f)
theorem uUL : Tryd.prog.underlying 42 = some (.slice 22) := by kernel_rfl
theorem infoU : (Tryd.prog.info? 22).map (fun i => (i.zero, i.size, i.bytes)) = some (some (.int .u64 0), 1, 8) := by kernel_rfl
theorem ownU_none (w : World) (f : Nat → Int) : OwnU (w.alloc (.cells #[] 22)) w.heap.size (.slice (some ⟨w.heap.size, 0, none⟩) 0 0) 0 f :=
  ⟨rfl, .inr ⟨w.heap.size, 0, #[], rfl, Nat.le_refl _, heap_alloc_new w _, Nat.le_refl _, by decide, rfl, rfl⟩⟩
theorem ownU_nil (w : World) (B : Nat) (f : Nat → Int) : OwnU w B (.slice none 0 0) 0 f := ⟨rfl, .inl ⟨rfl, rfl⟩⟩
theorem ownU_UR {w : World} {B : Nat} {v : Value} {n : Nat} {f : Nat → Int} (h : OwnU w B v n f) : UR w v n f := by
  rcases h.2 with ⟨rfl, rfl⟩ | ⟨g, cap, cur, hv, hg, hh, hc, hm, hs, ht⟩
  · exact .nil _
  · subst hv
    refine .row g 0 n cap f hc hm fun i hi => ?_
    have h1 := ucells_get (f := f) hi
    rw [← ht, List.getElem?_take_of_lt (by omega)] at h1
    rw [Nat.zero_add, cell_of_row _ g _ _ _ (0, 0) hh]; simpa using h1
theorem ownU_kept {w w' : World} {B : Nat} {v : Value} {n : Nat} {f : Nat → Int} (h : OwnU w B v n f) (k : Below w.heap.size w w') : OwnU w' B v n f := by
  refine ⟨h.1, ?_⟩
  rcases h.2 with hn | ⟨g, cap, cur, rfl, hb, hgg, rest⟩
  · exact .inl hn
  · exact .inr ⟨g, cap, cur, rfl, hb, by rw [k.block g (Array.getElem?_eq_some_iff.1 hgg).1]; exact hgg, rest⟩
theorem own_geU {w : World} {B : Nat} {v : Value} {n : Nat} {f : Nat → Int} (h : OwnU w B v n f) : ∀ k, v.ownBlock = some k → B ≤ k := by
  intro k hk
  rcases h.2 with ⟨rfl, _⟩ | ⟨g, cap, cur, rfl, hb, _⟩
  · cases hk
  · simp only [Value.ownBlock, Option.some.injEq] at hk; omega
theorem ownU_parts {w : World} {B : Nat} {v : Value} {n : Nat} {f : Nat → Int} (h : OwnU w B v n f) : (v = .slice none 0 0 ∧ n = 0) ∨ ∃ g c, v = .slice (some ⟨g, 0, none⟩) n c ∧ n ≤ c ∧ c ≤ 9223372036854775807 ∧ B ≤ g ∧ g < w.heap.size := by
  rcases h.2 with ⟨rfl, h0⟩ | ⟨g, cap, cur, rfl, hb, hh, h1, h2, _⟩
  · exact .inl ⟨rfl, h0⟩
  · exact .inr ⟨g, cap, rfl, h1, h2, hb, (Array.getElem?_eq_some_iff.1 hh).1⟩
theorem ownU_slice {w : World} {B : Nat} {v : Value} {n : Nat} {f : Nat → Int} (h : OwnU w B v n f) : ∃ p c, v = .slice p n c ∧ n ≤ c ∧ c ≤ 9223372036854775807 := by
  rcases ownU_parts h with ⟨rfl, rfl⟩ | ⟨g, c, rfl, h1, h2, _⟩
  · exact ⟨none, 0, rfl, Nat.le_refl _, by decide⟩
  · exact ⟨_, _, rfl, h1, h2⟩
/-- A word of an own row. -/
theorem ownU_cell {w : World} {B g c n : Nat} {f : Nat → Int} (h : OwnU w B (.slice (some ⟨g, 0, none⟩) n c) n f) {i : Nat} (hi : i < n) : w.cell? ⟨g, i, none⟩ = some (.int .u64 (f i)) := by
  have h2 := ownU_UR h
  cases h2 with
  | odd => omega
  | row _ _ _ _ _ _ _ h3 => have := h3 i hi; rwa [Nat.zero_add] at this
theorem ownU_free {w : World} {B g c n : Nat} {f : Nat → Int} (h : OwnU w B (.slice (some ⟨g, 0, none⟩) n c) n f) (i : Nat) : w.frozen? ⟨g, i, none⟩ = false := by
  rcases h.2 with ⟨hv, _⟩ | ⟨g', cap, cur, hv, _, hh, _⟩
  · cases hv
  · simp only [Value.slice.injEq, Option.some.injEq, Addr.mk.injEq, true_and, and_true] at hv
    obtain ⟨rfl, _⟩ := hv
    exact frozen_of_row _ _ _ _ _ hh
def upd (f : Nat → Int) (a : Nat) (v : Int) : Nat → Int := fun i => if i = a then v else f i
theorem ownU_set {w : World} {B g c n : Nat} {f : Nat → Int} (h : OwnU w B (.slice (some ⟨g, 0, none⟩) n c) n f) {a : Nat} (ha : a < n) (x : Int) : OwnU (w.setCell ⟨g, a, none⟩ (.int .u64 x)) B (.slice (some ⟨g, 0, none⟩) n c) n (upd f a x) := by
  refine ⟨by simp [ucells], ?_⟩
  rcases h.2 with ⟨hv, _⟩ | ⟨g', cap, cur, hv, hb, hh, h1, h2, h3, h4⟩
  · cases hv
  · have hv' := hv
    simp only [Value.slice.injEq, Option.some.injEq, Addr.mk.injEq, true_and, and_true] at hv
    obtain ⟨rfl, rfl⟩ := hv
    refine .inr ⟨g, c, cur.setIfInBounds a (.int .u64 x), rfl, hb, ?_, h1, h2, by simpa using h3, ?_⟩
    · rw [heap_setCell_same w g a _ _ _ hh]
    · rw [Array.toList_setIfInBounds, List.take_set, h4]
      apply List.ext_getElem?
      intro j
      rw [List.getElem?_set]
      simp only [ucells_len]
      by_cases hj : j < n
      · rw [ucells_get hj]
        by_cases e : a = j
        · subst e; simp [upd, ha, ucells_get hj]
        · rw [if_neg e, ucells_get hj]; simp [upd, Ne.symm e]
      · have h5 : ∀ k : Nat → Int, (ucells n k)[j]? = none := fun k => by rw [List.getElem?_eq_none (by rw [ucells_len]; omega)]
        rw [h5, h5, if_neg (by omega : ¬ a = j)]
/-- A row of words appended to an empty one. -/
theorem wpList_append_u {w : World} {ops : Array Oper} {rest : List Oper} {o : Oper} {a : Act} {Q : Exit → Act → World → Prop} (hgd : o.guard = none) (s x : Operand)
    (ho : o.op = .call { callee := .builtin .append, args := #[s, x], argTypes := #[42, 42] })
    (B : Nat) (v : Value) (n : Nat) (f : Nat → Int) (u : Value) (hs : a.eval s = v) (hown : OwnU w B v 0 f) (hx : a.eval x = u) (hu : UR w u n f) (hlen : n ≤ 1000000) (hB : B ≤ w.heap.size)
    (h : ∀ v' w', OwnU w' B v' n f → w.grownBy w' v.ownBlock → wpList Tryd.prog ops Q rest (a.put o.dst v') w') : wpList Tryd.prog ops Q (o :: rest) a w := by
  obtain ⟨i0, hi, hz0, hz1, hz2⟩ := info_parts infoU
  cases hu with
  | nil => exact wpList_append_own_none hgd s x 42 ho B 22 i0 1 uUL hi v 0 (ucells 0 f) hs hown hx (h v w hown ⟨rfl, rfl, rfl, Nat.le_refl _, fun _ _ _ => rfl⟩)
  | odd ad c _ hc0 =>
    refine wpList_append_own _ hgd s x 42 ho B 22 i0 (.int .u64 0) 1 8 uUL hi hz0 hz1 hz2 rfl (by decide) v 0 (ucells 0 f) hs hown ad 0 c [] hx rfl (fun j u hu => by simp at hu) (fun u hu => by simp at hu) (by decide) (by decide) hB ?_
    intro v' w' h4 h5 _
    exact h v' w' h4 h5
  | row g o' _ c _ h1 h2 h3 =>
    refine wpList_append_own _ hgd s x 42 ho B 22 i0 (.int .u64 0) 1 8 uUL hi hz0 hz1 hz2 rfl (by decide) v 0 (ucells 0 f) hs hown ⟨g, o', none⟩ n c (ucells n f) hx (by rw [ucells_len, Nat.mul_one]) ?_ ?_ (by unfold maxLen; omega) (by omega) hB ?_
    · intro j u hu
      have hj : j < n := by
        rcases Nat.lt_or_ge j n with h | h
        · exact h
        · rw [List.getElem?_eq_none (by rw [ucells_len]; omega)] at hu; cases hu
      rw [ucells_get hj] at hu
      cases hu
      rw [addP]; exact h3 j hj
    · intro u hu
      simp only [ucells, List.mem_map] at hu
      obtain ⟨_, _, rfl⟩ := hu
      rfl
    · intro v' w' h4 h5 _
      refine h v' w' ?_ h5
      have h6 := h4
      rw [Nat.zero_add] at h6
      exact h6
/-- A change. -/
structure Ch where
  at_ : Int
  was : Int
  is_ : Int
inductive CR (w : World) : Value → Nat → (Nat → Ch) → Prop
  | nil (L) : CR w (.slice none 0 0) 0 L
  | odd (a : Addr) (c : Nat) (L) : c ≤ 9223372036854775807 → CR w (.slice (some a) 0 c) 0 L
  | row (g o n c : Nat) (L) : n ≤ c → c ≤ 9223372036854775807 → (∀ i, i < n → w.cell? ⟨g, o + i * 3, none⟩ = some (.int .i64 (L i).at_) ∧ w.cell? ⟨g, o + i * 3 + 1, none⟩ = some (.int .u64 (L i).was) ∧ w.cell? ⟨g, o + i * 3 + 2, none⟩ = some (.int .u64 (L i).is_)) → CR w (.slice (some ⟨g, o, none⟩) n c) n L
theorem CR.below {w w' : World} {v : Value} {n : Nat} {L : Nat → Ch} (h : CR w v n L) (k : Below w.heap.size w w') : CR w' v n L := by
  cases h with
  | nil => exact .nil _
  | odd a c _ h1 => exact .odd a c _ h1
  | row g o _ c _ h1 h2 h3 => exact .row g o n c L h1 h2 fun i hi => ⟨Ext.cell ⟨w', k⟩ (h3 i hi).1, Ext.cell ⟨w', k⟩ (h3 i hi).2.1, Ext.cell ⟨w', k⟩ (h3 i hi).2.2⟩
theorem CR.parts {w : World} {v : Value} {n : Nat} {L : Nat → Ch} (h : CR w v n L) : ∃ p c, v = .slice p n c ∧ n ≤ c ∧ c ≤ 9223372036854775807 ∧ Hid (0 < n → ∃ g o, p = some ⟨g, o, none⟩ ∧ ∀ i, i < n → w.cell? ⟨g, o + i * 3, none⟩ = some (.int .i64 (L i).at_) ∧ w.cell? ⟨g, o + i * 3 + 1, none⟩ = some (.int .u64 (L i).was) ∧ w.cell? ⟨g, o + i * 3 + 2, none⟩ = some (.int .u64 (L i).is_)) := by
  cases h with
  | nil => exact ⟨_, _, rfl, Nat.le_refl _, by decide, fun h => by omega⟩
  | odd a c _ h1 => exact ⟨_, _, rfl, Nat.zero_le _, h1, fun h => by omega⟩
  | row g o _ c _ h1 h2 h3 => exact ⟨_, _, rfl, h1, h2, fun _ => ⟨g, o, rfl, h3⟩⟩
/-- The words with so many changes made. -/
def hits (n : Nat) (f : Nat → Int) (c : Ch) : Bool := decide (0 ≤ c.at_ ∧ c.at_ < n ∧ f c.at_.toNat = c.was)
def rp1 (n : Nat) (f : Nat → Int) (c : Ch) : Nat → Int := if hits n f c = true then upd f c.at_.toNat c.is_ else f
def rpN (n : Nat) (f : Nat → Int) (L : Nat → Ch) : Nat → Nat → Int
  | 0 => f
  | k + 1 => rp1 n (rpN n f L k) (L k)
theorem hits_true {n : Nat} {f : Nat → Int} {c : Ch} (h : hits n f c = true) : 0 ≤ c.at_ ∧ c.at_ < n ∧ f c.at_.toNat = c.was := of_decide_eq_true h
theorem hits_false {n : Nat} {f : Nat → Int} {c : Ch} (h : hits n f c = false) : ¬ (0 ≤ c.at_ ∧ c.at_ < n ∧ f c.at_.toNat = c.was) := of_decide_eq_false h
end Go.Proofs.YtpdcgpghimjenaaDoor
