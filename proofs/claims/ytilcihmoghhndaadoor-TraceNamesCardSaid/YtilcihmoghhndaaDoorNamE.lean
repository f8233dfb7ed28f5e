/- Layer 40: the walk of TraceNames. -/
import Derived.Test.YtilcihmoghhndaaDoorNamD
import Derived.Test.YtilcihmoghhndaaDoorFrame
namespace Go.Proofs.YtilcihmoghhndaaDoor
open Go.RowKit
set_option linter.unusedVariables false
set_option linter.unusedSimpArgs false
open Go.Lib (itoa decDigits)
theorem itoa_one : itoa 1 = [49] := by rw [itoa_pos (by decide), show (1 : Int).toNat = 1 from rfl, dec_small (by decide)]; rfl
theorem nm_ex : nmT 1 7 13 = [115, 108, 111, 116, 32, 49, 32, 105, 110, 102, 111] := by
  rw [nm_yes (by decide)]
  unfold nameT
  rw [show wk 1 13 = 5 by decide, show wi 1 13 = 1 by decide, show wj 1 13 = 2 by decide, nam5, itoa_one]
  rfl
set_option maxHeartbeats 1000000 in
theorem lives40_calls {w : World} (ht : Pow w.heap.size w) : Calls Tryd.prog 5 #[] w fun e w' => e = .returned (.bool true) ∧ Below w.heap.size w w' := by
  refine Calls.veil fun Q HQ => ?_
  have HT := Lib.hid ht
  clear ht
  go_enter Tryd.func5, Tryd.ntmps5
  go_wp2_with fail
  refine (pnew_yes 1 7 5 _ (by decide)).mono ?_; rintro _ z1 ⟨b, rfl, _, hh, hb1⟩
  have x0 : z1.cell? ⟨b, 0, none⟩ = some (.int .i64 1) := by rw [cell_of_row _ _ _ _ _ (0, 0) hh]; rfl
  have x1 : z1.cell? ⟨b, 1, none⟩ = some (.int .i64 7) := by rw [cell_of_row _ _ _ _ _ (0, 0) hh]; rfl
  have HB1 := Lib.hid hb1
  have NM := tname 13 (w := z1) x0 x1 (by decide) (by decide) (by decide) (by decide) (HT.out.up HB1.out)
  rw [nm_ex] at NM
  have NM := Lib.hid NM
  clear hh hb1 x0 x1
  go_wp2_with fail
  refine NM.out.mono ?_; rintro _ z2 ⟨rfl, hb2⟩
  have HF := Lib.hid (below_on HB1.out hb2)
  clear hb2
  go_wp2_with fail
  (try go_ret)
  rw [HQ.out]
  exact ⟨rfl, HF.out⟩
theorem fst_up {T : Int} {s : List UInt8} {i k : Nat} (h : fstN T s i = some k) : ∀ {n : Nat}, i ≤ n → fstN T s n = some k
  | 0, hn => by obtain rfl : i = 0 := by omega
                exact h
  | n + 1, hn => by
    rcases (by omega : i ≤ n ∨ i = n + 1) with h1 | rfl
    · rw [fstN, fst_up h h1]
    · exact h
theorem fst_next {T : Int} {s : List UInt8} {i : Nat} (h : fstN T s i = none) (b : Bool) (hb : (nameT T (i : Int) == s) = b) : fstN T s (i + 1) = if b = true then some i else none := by
  rw [fstN, h]; simp only
  rw [← hb]; simp
theorem w_apart (T S a b : Int) (t1 : 1 ≤ T) (t2 : T ≤ 6) (a0 : 0 ≤ a) (a1 : a < wordsI T S) (b0 : 0 ≤ b) (b1 : b < wordsI T S) (hk : wk T a = wk T b) (hi : wi T a = wi T b) (hj : wj T a = wj T b) : a = b := by
  unfold wordsI at a1 b1
  unfold wk at hk; unfold wi at hi; unfold wj at hj
  by_cases c1 : a < 3
  · simp only [if_pos c1] at hk hi hj
    by_cases d1 : b < 3
    · simp only [if_pos d1] at hi; exact hi
    · simp only [if_neg d1] at hk; (repeat' split at hk) <;> omega
  by_cases d1 : b < 3
  · simp only [if_pos d1, if_neg c1] at hk; (repeat' split at hk) <;> omega
  simp only [if_neg c1, if_neg d1] at hk hi hj
  by_cases c2 : 3 + T * 8 ≤ a <;> by_cases d2 : 3 + T * 8 ≤ b
  · simp only [if_pos c2, if_pos d2] at hi hj; omega
  · simp only [if_pos c2, if_neg d2] at hk; (repeat' split at hk) <;> omega
  · simp only [if_neg c2, if_pos d2] at hk; (repeat' split at hk) <;> omega
  · simp only [if_neg c2, if_neg d2] at hk hi hj
    by_cases c3 : (a - 3) % 8 = 0 <;> by_cases d3 : (b - 3) % 8 = 0
    · omega
    · simp only [if_pos c3, if_neg d3] at hk; (repeat' split at hk) <;> omega
    · simp only [if_neg c3, if_pos d3] at hk; (repeat' split at hk) <;> omega
    simp only [if_neg c3, if_neg d3] at hk hj
    by_cases c4 : (a - 3) % 8 = 1 <;> by_cases d4 : (b - 3) % 8 = 1
    · omega
    · simp only [if_pos c4, if_neg d4] at hk; (repeat' split at hk) <;> omega
    · simp only [if_neg c4, if_pos d4] at hk; (repeat' split at hk) <;> omega
    simp only [if_neg c4, if_neg d4] at hk hj
    by_cases c5 : (a - 3) % 8 < 5 <;> by_cases d5 : (b - 3) % 8 < 5
    · simp only [if_pos c5, if_pos d5] at hj; omega
    · simp only [if_pos c5, if_neg d5] at hk; omega
    · simp only [if_neg c5, if_pos d5] at hk; omega
    · simp only [if_neg c5, if_neg d5] at hj; omega
theorem fst_own {T S : Int} {n k : Nat} (t1 : 1 ≤ T) (t2 : T ≤ 6) (s2 : S ≤ 250) (hn : wordsI T S = n) (hk : k < n) : fstN T (nameT T (k : Int)) n = some k :=
  fstN_some (fun a ha => name_ne t1 t2 s2 (by omega) (by omega) (by omega) (fun a b a0 a1 b0 b1 h1 h2 h3 => w_apart T S a b t1 t2 a0 a1 b0 b1 h1 h2 h3)) rfl hk
end Go.Proofs.YtilcihmoghhndaaDoor
