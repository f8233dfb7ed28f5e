/- Layer 40: names of words (no program in it). -/
import Derived.Test.YtilcihmoghhndaaDoorNumU
import Derived.Test.YtilcihmoghhndaaDoorPlanN
namespace Go.Proofs.YtilcihmoghhndaaDoor
open Go.RowKit
set_option linter.unusedVariables false
set_option linter.unusedSimpArgs false
open Go.Lib (itoa)
def aloneW : List (List UInt8) := [[99, 108, 111, 99, 107], [101, 112, 111, 99, 104], [102, 114, 101, 101]]
def fieldW : List (List UInt8) := [[108, 105, 110, 107], [103, 101, 110], [105, 110, 102, 111], [107, 101, 121], [108, 101, 102, 116], [114, 105, 103, 104, 116], [100, 105, 101, 100]]
def namT (k i j : Int) : List UInt8 :=
  if k = 0 then aloneW.getD i.toNat [] else if k = 1 then [97, 99, 116, 105, 118, 101, 32] ++ itoa i else if k = 2 then [118, 105, 99, 116, 105, 109, 32] ++ itoa i else if k = 3 then [115, 116, 97, 109, 112, 32] ++ (itoa i ++ 32 :: itoa j) else if k = 4 then [98, 97, 103, 32] ++ (itoa i ++ 32 :: itoa j) else [115, 108, 111, 116, 32] ++ (itoa i ++ 32 :: fieldW.getD j.toNat [])
/-- What words there are. -/
def InW (k i j : Int) : Prop := (k = 0 ∧ (i = 0 ∨ i = 1 ∨ i = 2) ∧ j = 0) ∨ (k = 1 ∧ (0 ≤ i ∧ i ≤ 5) ∧ j = 0) ∨ (k = 2 ∧ (0 ≤ i ∧ i ≤ 5) ∧ j = 0) ∨ (k = 3 ∧ (0 ≤ i ∧ i ≤ 5) ∧ 0 ≤ j ∧ j ≤ 2) ∨ (k = 4 ∧ (0 ≤ i ∧ i ≤ 5) ∧ 0 ≤ j ∧ j ≤ 2) ∨ (k = 5 ∧ (1 ≤ i ∧ i ≤ 250) ∧ 0 ≤ j ∧ j ≤ 6)
theorem w_in {T S a : Int} (t1 : 1 ≤ T) (t2 : T ≤ 6) (s2 : S ≤ 250) (h0 : 0 ≤ a) (h1 : a < wordsI T S) : InW (wk T a) (wi T a) (wj T a) := by
  unfold wordsI at h1
  unfold wk wi wj InW
  by_cases c1 : a < 3
  · simp only [if_pos c1]; exact .inl ⟨trivial, by omega, trivial⟩
  by_cases c2 : 3 + T * 8 ≤ a
  · simp only [if_neg c1, if_pos c2]; exact .inr (.inr (.inr (.inr (.inr ⟨trivial, by omega, by omega⟩))))
  · simp only [if_neg c1, if_neg c2]
    by_cases c3 : (a - 3) % 8 = 0
    · simp only [if_pos c3]; exact .inr (.inl ⟨trivial, by omega, trivial⟩)
    by_cases c4 : (a - 3) % 8 = 1
    · simp only [if_neg c3, if_pos c4]; exact .inr (.inr (.inl ⟨trivial, by omega, trivial⟩))
    by_cases c5 : (a - 3) % 8 < 5
    · simp only [if_neg c3, if_neg c4, if_pos c5]; exact .inr (.inr (.inr (.inl ⟨trivial, by omega, by omega⟩)))
    · simp only [if_neg c3, if_neg c4, if_neg c5]; exact .inr (.inr (.inr (.inr (.inl ⟨trivial, by omega, by omega⟩))))
theorem field_inj {i j : Int} (hi : 0 ≤ i ∧ i ≤ 6) (hj : 0 ≤ j ∧ j ≤ 6) (h : fieldW.getD i.toNat [] = fieldW.getD j.toNat []) : i = j := by
  have k : ∀ a, a < 7 → ∀ b, b < 7 → fieldW.getD a [] = fieldW.getD b [] → a = b := by decide
  have := k i.toNat (by omega) j.toNat (by omega) h
  omega
theorem num_no (n : Int) : ∀ c ∈ itoa n, (c != 32) = true := itoa_no (by decide) (.inl (by decide))
theorem nam0 (i j : Int) : namT 0 i j = aloneW.getD i.toNat [] := rfl
theorem nam1 (i j : Int) : namT 1 i j = [97, 99, 116, 105, 118, 101, 32] ++ itoa i := rfl
theorem nam2 (i j : Int) : namT 2 i j = [118, 105, 99, 116, 105, 109, 32] ++ itoa i := rfl
theorem nam3 (i j : Int) : namT 3 i j = [115, 116, 97, 109, 112, 32] ++ (itoa i ++ 32 :: itoa j) := rfl
theorem nam4 (i j : Int) : namT 4 i j = [98, 97, 103, 32] ++ (itoa i ++ 32 :: itoa j) := rfl
theorem nam5 (i j : Int) : namT 5 i j = [115, 108, 111, 116, 32] ++ (itoa i ++ 32 :: fieldW.getD j.toNat []) := rfl
theorem nam_inj {k i j k' i' j' : Int} (h1 : InW k i j) (h2 : InW k' i' j') (h : namT k i j = namT k' i' j') : k = k' ∧ i = i' ∧ j = j' := by
  rcases h1 with ⟨rfl, a1, rfl⟩ | ⟨rfl, a1, rfl⟩ | ⟨rfl, a1, rfl⟩ | ⟨rfl, a1, a2⟩ | ⟨rfl, a1, a2⟩ | ⟨rfl, a1, a2⟩ <;> rcases h2 with ⟨rfl, b1, rfl⟩ | ⟨rfl, b1, rfl⟩ | ⟨rfl, b1, rfl⟩ | ⟨rfl, b1, b2⟩ | ⟨rfl, b1, b2⟩ | ⟨rfl, b1, b2⟩ <;>
    simp only [nam0, nam1, nam2, nam3, nam4, nam5] at h
  case inl.inl =>
    rcases a1 with rfl | rfl | rfl <;> rcases b1 with rfl | rfl | rfl <;> first | exact ⟨rfl, rfl, rfl⟩ | (exfalso; simp [aloneW] at h)
  case inr.inl.inr.inl => exact ⟨rfl, itoa_inj (List.append_cancel_left h), rfl⟩
  case inr.inr.inl.inr.inr.inl => exact ⟨rfl, itoa_inj (List.append_cancel_left h), rfl⟩
  case inr.inr.inr.inl.inr.inr.inr.inl =>
    obtain ⟨e1, e2⟩ := spc (num_no i) (num_no i') (List.append_cancel_left h)
    exact ⟨rfl, itoa_inj e1, itoa_inj e2⟩
  case inr.inr.inr.inr.inl.inr.inr.inr.inr.inl =>
    obtain ⟨e1, e2⟩ := spc (num_no i) (num_no i') (List.append_cancel_left h)
    exact ⟨rfl, itoa_inj e1, itoa_inj e2⟩
  case inr.inr.inr.inr.inr.inr.inr.inr.inr.inr =>
    obtain ⟨e1, e2⟩ := spc (num_no i) (num_no i') (List.append_cancel_left h)
    exact ⟨rfl, itoa_inj e1, field_inj a2 b2 e2⟩
  all_goals
    exfalso
    first
      | (simp at h; done)
      | (rcases a1 with rfl | rfl | rfl <;> simp [aloneW] at h; done)
      | (rcases b1 with rfl | rfl | rfl <;> simp [aloneW] at h; done)
def nameT (T a : Int) : List UInt8 := namT (wk T a) (wi T a) (wj T a)
/-- The first word with a name, of so many. -/
def fstN (T : Int) (s : List UInt8) : Nat → Option Nat
  | 0 => none
  | n + 1 => match fstN T s n with
    | some k => some k
    | none => if nameT T (n : Int) = s then some n else none
theorem fstN_none {T : Int} {s : List UInt8} : ∀ {n : Nat}, (∀ a, a < n → nameT T (a : Int) ≠ s) → fstN T s n = none
  | 0, _ => rfl
  | n + 1, h => by rw [fstN, fstN_none (n := n) fun a ha => h a (by omega)]; simp only; rw [if_neg (h n (by omega))]
theorem fstN_some {T : Int} {s : List UInt8} {k : Nat} (h : ∀ a, a < k → nameT T (a : Int) ≠ s) (hk : nameT T (k : Int) = s) : ∀ {n : Nat}, k < n → fstN T s n = some k
  | 0, h => by omega
  | n + 1, hn => by
    rcases (by omega : k < n ∨ k = n) with h1 | rfl
    · rw [fstN, fstN_some h hk h1]
    · rw [fstN, fstN_none h]; simp only; rw [if_pos hk]
theorem name_ne {T S : Int} (t1 : 1 ≤ T) (t2 : T ≤ 6) (s2 : S ≤ 250) {a b : Nat} (ha : (a : Int) < wordsI T S) (hb : (b : Int) < wordsI T S) (hab : a ≠ b) (ap : ∀ a b : Int, 0 ≤ a → a < wordsI T S → 0 ≤ b → b < wordsI T S → wk T a = wk T b → wi T a = wi T b → wj T a = wj T b → a = b) : nameT T (a : Int) ≠ nameT T (b : Int) := fun h => by
  obtain ⟨e1, e2, e3⟩ := nam_inj (w_in t1 t2 s2 (by omega) ha) (w_in t1 t2 s2 (by omega) hb) h
  have := ap a b (by omega) ha (by omega) hb e1 e2 e3
  omega
theorem nam_len {k i j : Int} (h : InW k i j) : (namT k i j).length ≤ 100 := by
  have f : ∀ b, b < 7 → (fieldW.getD b []).length ≤ 5 := by decide
  rcases h with ⟨rfl, a1, rfl⟩ | ⟨rfl, a1, rfl⟩ | ⟨rfl, a1, rfl⟩ | ⟨rfl, a1, a2⟩ | ⟨rfl, a1, a2⟩ | ⟨rfl, a1, a2⟩
  · rcases a1 with rfl | rfl | rfl <;> decide
  · have h1 := Lib.itoa_length_le i (by omega) (by omega); rw [nam1]; simp; omega
  · have h1 := Lib.itoa_length_le i (by omega) (by omega); rw [nam2]; simp; omega
  · have h1 := Lib.itoa_length_le i (by omega) (by omega); have h2 := Lib.itoa_length_le j (by omega) (by omega); rw [nam3]; simp; omega
  · have h1 := Lib.itoa_length_le i (by omega) (by omega); have h2 := Lib.itoa_length_le j (by omega) (by omega); rw [nam4]; simp; omega
  · have h1 := Lib.itoa_length_le i (by omega) (by omega); have h2 := f j.toNat (by omega); rw [nam5]; simp only [List.length_append, List.length_cons, List.length_nil]; omega
end Go.Proofs.YtilcihmoghhndaaDoor
