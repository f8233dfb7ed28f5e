/- Layer 9's contracts: the reference's Fits. (gen_calld.py) -/
import Derived.Test.YtdgkgfapajlidaaCallC
namespace Go.Proofs.Ytdgkgfapajlidaa
open Go.RowKit
set_option linter.unusedVariables false
set_option linter.unusedSimpArgs false

theorem told_iff (k ak av n : Int) (l : PL) : toldB k ak av n l = decide ((k = 1 ∨ (ak = 0 ∧ av = 0)) ∧ (k = 2 ∨ n = 0) ∧ (k = 3 ∨ l.length = 0)) := by
  unfold toldB; refine decide_eq_decide.2 ?_
  rw [List.length_eq_zero_iff]
section
variable {op key hi limit k ak av n : Int} {l : PL}
theorem fits_bad (h : toldB k ak av n l = false) : fitsB op key hi limit k ak av n l = false := by unfold fitsB; rw [h]; rfl
theorem fits_8 (h : toldB 8 ak av n l = true) : fitsB op key hi limit 8 ak av n l = true := by unfold fitsB; rw [h]; rfl
theorem fits_off (h : toldB k ak av n l = true) (h8 : k ≠ 8) (hm : mayB op key hi limit = false) : fitsB op key hi limit k ak av n l = false := by unfold fitsB; rw [h, hm, decide_eq_false h8]; rfl
theorem fits_on (h : toldB k ak av n l = true) (h8 : k ≠ 8) (hm : mayB op key hi limit = true) : fitsB op key hi limit k ak av n l = (kindB op k && fieldsB op key hi limit k ak n l) := by unfold fitsB; rw [h, hm, decide_eq_false h8]; rfl
end
theorem kf_t {p q : Prop} [Decidable p] [Decidable q] (h : p ∧ q) : true = (decide p && decide q) := by simp [h.1, h.2]
theorem kf_f {p q : Prop} [Decidable p] [Decidable q] (h : ¬ (p ∧ q)) : false = (decide p && decide q) := by
  symm; rw [Bool.eq_false_iff]; intro e; simp at e; exact h e
theorem kf_i {p q r : Prop} [Decidable p] [Decidable q] [Decidable r] (h : p ↔ (q ∧ r)) : decide p = (decide q && decide r) := by rw [Bool.eq_iff_iff]; simp [h]

set_option maxHeartbeats 1000000 in
theorem rwithin (l : PL) (v : Value) (lo hi : Int) (w : World) (h : PR w v l) (hn : l.length ≤ 100000) :
    Calls Try.prog 24 #[v, .int .i64 lo, .int .i64 hi] w fun e w' => e = .returned (.bool (withinB l lo hi)) ∧ Below w.heap.size w w' := by
  have HP := Lib.hid h
  refine Calls.veil fun Q HQ => ?_
  obtain ⟨p, c, rfl, h1, h2, H3⟩ := h.parts
  clear h
  go_enter Try.func24, Try.ntmps24
  go_wp2_with fail
  go_loopw [7] (fun iv wr => ∃ i : Nat, i ≤ l.length ∧ iv = .int .i64 i ∧ Hid (∀ j, j < i → lo ≤ ky l j ∧ ky l j ≤ hi) ∧ Below w.heap.size w wr)
    (fun iv _ => l.length - (intOf iv).toNat)
  case atStart => exact ⟨0, by omega, rfl, Lib.hid (by omega), Below.refl _ _⟩
  case round =>
    obtain ⟨i, hi', rfl, HK, hbel⟩ := hrel
    rcases (by omega : i < l.length ∨ i = l.length) with hlt | heq
    · obtain ⟨g, o, rfl, c0, c1⟩ := H3.out i hlt
      have c0 := Ext.cell ⟨wr, hbel⟩ c0
      simp only at c0
      clear c1
      have HB := Lib.hid hbel
      clear hbel
      rcases (by omega : ky l i < lo ∨ (lo ≤ ky l i ∧ hi < ky l i) ∨ (lo ≤ ky l i ∧ ky l i ≤ hi)) with q | ⟨q, q'⟩ | ⟨q, q'⟩
      · have HQ1 := Lib.hid q
        go_wp2_with fail
        (try go_ret)
        rw [HQ.out]
        have e : withinB l lo hi = false := by unfold withinB; rw [decide_eq_false (fun h => by have := (h i hlt).1; have := HQ1.out; omega)]; rfl
        exact ⟨ret_bool e.symm, HB.out⟩
      · have HQ1 := Lib.hid q'
        go_wp2_with fail
        (try go_ret)
        rw [HQ.out]
        have e : withinB l lo hi = false := by unfold withinB; rw [decide_eq_false (fun h => by have := (h i hlt).2; have := HQ1.out; omega)]; rfl
        exact ⟨ret_bool e.symm, HB.out⟩
      · have HQ1 := Lib.hid (And.intro q q')
        go_wp2_with fail
        go_roundw
        case rel => exact ⟨i + 1, by omega, by go_num, Lib.hid (fun j hj => by rcases (by omega : j < i ∨ j = i) with h | rfl; exact HK.out j h; exact HQ1.out), HB.out⟩
        case measure => simp [intOf]; omega
    · have HE := Lib.hid heq
      have hge : l.length ≤ i := by omega
      clear heq
      go_wp2_with fail
      refine (rrises l _ wr (HP.out.below hbel) hn).mono ?_; rintro _ w1 ⟨rfl, hb⟩
      have hb := below_on hbel hb
      go_wp2_with fail
      (try go_ret)
      rw [HQ.out]
      have e : withinB l lo hi = riseB l := by unfold withinB; rw [decide_eq_true (fun j hj => HK.out j (by rw [HE.out]; exact hj))]; rfl
      exact ⟨ret_bool e.symm, hb⟩
end Go.Proofs.Ytdgkgfapajlidaa
