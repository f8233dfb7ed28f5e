/- Layer 9's contracts: the reference's Fits, a part. (gen_calld.py) -/
import Derived.Test.YtdgkgfapajlidaaCallD
namespace Go.Proofs.Ytdgkgfapajlidaa
open Go.RowKit
set_option linter.unusedVariables false
set_option linter.unusedSimpArgs false
set_option maxHeartbeats 2000000 in
set_option maxRecDepth 100000 in
theorem rfits_t2 (op key val hi limit : Int) (n : Int) (p : Option Addr) (c nn : Nat) (l : PL) (w : World) (HP : Hid (PR w (.slice p l.length c) l)) (HN : Hid (nn ≤ 100000)) (HNN : Hid (nn = l.length)) (hz : nn = 0) :
    Calls Try.prog 16 #[callV op key val hi limit, ansV 2 0 0 n (.slice p nn c)] w fun e w' => e = .returned (.bool (fitsB op key hi limit 2 0 0 n l)) ∧ Below w.heap.size w w' := by
  have HTI := Lib.hid (told_iff 2 0 0 n l)
  rw [← HNN.out] at HTI
  refine Calls.veil fun Q HQ => ?_
  have HT : Hid (toldB 2 0 0 n l = true) := by rw [HTI.out]; exact Lib.hid (decide_eq_true (by omega))
  have HFE : Hid (∀ o : Int, fieldsB o key hi limit 2 0 n l = decide (0 ≤ n)) := Lib.hid (fun _ => rfl)
  subst hz
  go_enter Try.func16, Try.ntmps16
  go_wp2_with fail
  generalize hW : World.alloc (World.alloc w _) _ = W
  have hBW : Below w.heap.size w W := by rw [← hW]; (repeat (first | exact Below.refl _ _ | assumption | refine below_new ?_ _ | refine Below.drew ?_ | refine below_drewN ?_ _ | refine below_on ?_ (by assumption)))
  have C0 := Lib.hid (And.intro (Ext.made1_in hW (Below.refl _ _) 0 (.int .i64 op) rfl) (And.intro (Ext.made1_in hW (Below.refl _ _) 1 (.int .i64 key) rfl) (And.intro (Ext.made1_in hW (Below.refl _ _) 2 (.int .i64 val) rfl) (And.intro (Ext.made1_in hW (Below.refl _ _) 3 (.int .i64 hi) rfl) (Ext.made1_in hW (Below.refl _ _) 4 (.int .i64 limit) rfl)))))
  have hs : ∀ o, (World.alloc w o).heap.size = w.heap.size + 1 := fun o => by simp
  have A0 := Lib.hid (And.intro (Ext.made_in hW (Below.refl _ _) 0 (.int .i64 2) rfl) (And.intro (Ext.made_in hW (Below.refl _ _) 1 (.int .i64 0) rfl) (And.intro (Ext.made_in hW (Below.refl _ _) 2 (.int .i64 0) rfl) (And.intro (Ext.made_in hW (Below.refl _ _) 3 (.int .i64 n) rfl) (Ext.made_in hW (Below.refl _ _) 4 (.slice p 0 c) rfl)))))
  simp only [hs] at A0
  clear hW hs
  refine (rmay op key val hi limit W).mono ?_; rintro _ w1 ⟨rfl, hb⟩
  obtain ⟨x0, x1, x2, x3, x4⟩ := C0.out
  obtain ⟨y0, y1, y2, y3, y4⟩ := A0.out
  have x0 := Ext.cell ⟨w1, hb⟩ x0; have x1 := Ext.cell ⟨w1, hb⟩ x1; have x2 := Ext.cell ⟨w1, hb⟩ x2; have x3 := Ext.cell ⟨w1, hb⟩ x3; have x4 := Ext.cell ⟨w1, hb⟩ x4
  have y0 := Ext.cell ⟨w1, hb⟩ y0; have y1 := Ext.cell ⟨w1, hb⟩ y1; have y2 := Ext.cell ⟨w1, hb⟩ y2; have y3 := Ext.cell ⟨w1, hb⟩ y3; have y4 := Ext.cell ⟨w1, hb⟩ y4
  simp only at x0 x1 x2 x3 x4 y0 y1 y2 y3 y4
  have HB := Lib.hid (below_on hBW hb)
  clear hBW hb C0 A0
  cases hm : mayB op key hi limit
  · have HM := Lib.hid hm
    clear hm
    go_wp2_with fail
    (try go_ret)
    rw [HQ.out, fits_off HT.out (by omega) HM.out]
    exact ⟨ret_bool rfl, HB.out⟩
  · have HM := Lib.hid hm
    clear hm
    rcases (by omega : (op = 4 ∧ n < 0) ∨ (op = 4 ∧ 0 ≤ n) ∨ op ≠ 4) with ⟨rfl, he⟩ | ⟨rfl, he⟩ | n4
    · go_wp2_with fail
      (try go_ret)
      rw [HQ.out, fits_on HT.out (by omega) HM.out, HFE.out]
      exact ⟨ret_bool (by first | exact kf_f (by omega) | (rw [decide_eq_false (show ¬ (0 ≤ n) by omega)]; simp)), HB.out⟩
    · go_wp2_with fail
      (try go_ret)
      rw [HQ.out, fits_on HT.out (by omega) HM.out, HFE.out]
      exact ⟨ret_bool (by first | exact kf_t (by omega) | (rw [decide_eq_true (show 0 ≤ n by omega)]; simp [kindB])), HB.out⟩
    · have z4 := neq_b n4
      have N := Lib.hid n4
      clear n4
      go_wp2_with fail
      (try go_ret)
      rw [HQ.out, fits_on HT.out (by omega) HM.out, HFE.out]
      exact ⟨ret_bool (by have N := N.out; exact kf_f (by omega)), HB.out⟩
set_option maxHeartbeats 2000000 in
set_option maxRecDepth 100000 in
theorem rfits_t3 (op key val hi limit : Int)  (p : Option Addr) (c nn : Nat) (l : PL) (w : World) (HP : Hid (PR w (.slice p l.length c) l)) (HN : Hid (nn ≤ 100000)) (HNN : Hid (nn = l.length))  :
    Calls Try.prog 16 #[callV op key val hi limit, ansV 3 0 0 0 (.slice p nn c)] w fun e w' => e = .returned (.bool (fitsB op key hi limit 3 0 0 0 l)) ∧ Below w.heap.size w w' := by
  have HTI := Lib.hid (told_iff 3 0 0 0 l)
  rw [← HNN.out] at HTI
  refine Calls.veil fun Q HQ => ?_
  have HT : Hid (toldB 3 0 0 0 l = true) := by rw [HTI.out]; exact Lib.hid (decide_eq_true (by omega))
  have HFE : Hid (∀ o : Int, fieldsB o key hi limit 3 0 0 l = listB key hi limit l) := Lib.hid (fun _ => rfl)
  go_enter Try.func16, Try.ntmps16
  go_wp2_with fail
  generalize hW : World.alloc (World.alloc w _) _ = W
  have hBW : Below w.heap.size w W := by rw [← hW]; (repeat (first | exact Below.refl _ _ | assumption | refine below_new ?_ _ | refine Below.drew ?_ | refine below_drewN ?_ _ | refine below_on ?_ (by assumption)))
  have C0 := Lib.hid (And.intro (Ext.made1_in hW (Below.refl _ _) 0 (.int .i64 op) rfl) (And.intro (Ext.made1_in hW (Below.refl _ _) 1 (.int .i64 key) rfl) (And.intro (Ext.made1_in hW (Below.refl _ _) 2 (.int .i64 val) rfl) (And.intro (Ext.made1_in hW (Below.refl _ _) 3 (.int .i64 hi) rfl) (Ext.made1_in hW (Below.refl _ _) 4 (.int .i64 limit) rfl)))))
  have hs : ∀ o, (World.alloc w o).heap.size = w.heap.size + 1 := fun o => by simp
  have A0 := Lib.hid (And.intro (Ext.made_in hW (Below.refl _ _) 0 (.int .i64 3) rfl) (And.intro (Ext.made_in hW (Below.refl _ _) 1 (.int .i64 0) rfl) (And.intro (Ext.made_in hW (Below.refl _ _) 2 (.int .i64 0) rfl) (And.intro (Ext.made_in hW (Below.refl _ _) 3 (.int .i64 0) rfl) (Ext.made_in hW (Below.refl _ _) 4 (.slice p nn c) rfl)))))
  simp only [hs] at A0
  clear hW hs
  refine (rmay op key val hi limit W).mono ?_; rintro _ w1 ⟨rfl, hb⟩
  obtain ⟨x0, x1, x2, x3, x4⟩ := C0.out
  obtain ⟨y0, y1, y2, y3, y4⟩ := A0.out
  have x0 := Ext.cell ⟨w1, hb⟩ x0; have x1 := Ext.cell ⟨w1, hb⟩ x1; have x2 := Ext.cell ⟨w1, hb⟩ x2; have x3 := Ext.cell ⟨w1, hb⟩ x3; have x4 := Ext.cell ⟨w1, hb⟩ x4
  have y0 := Ext.cell ⟨w1, hb⟩ y0; have y1 := Ext.cell ⟨w1, hb⟩ y1; have y2 := Ext.cell ⟨w1, hb⟩ y2; have y3 := Ext.cell ⟨w1, hb⟩ y3; have y4 := Ext.cell ⟨w1, hb⟩ y4
  simp only at x0 x1 x2 x3 x4 y0 y1 y2 y3 y4
  have HB := Lib.hid (below_on hBW hb)
  clear hBW hb C0 A0
  cases hm : mayB op key hi limit
  · have HM := Lib.hid hm
    clear hm
    go_wp2_with fail
    (try go_ret)
    rw [HQ.out, fits_off HT.out (by omega) HM.out]
    exact ⟨ret_bool rfl, HB.out⟩
  · have HM := Lib.hid hm
    clear hm
    rcases (by omega : op = 3 ∨ op ≠ 3) with rfl | n4
    · go_wp2_with fail
      refine (rwithin l _ key hi w1 (PR.cast (HP.out.below HB.out) HNN.out.symm) (by rw [← HNN.out]; exact HN.out)).mono ?_; rintro _ w2 ⟨rfl, hb⟩
      have HB2 := Lib.hid (below_on HB.out hb)
      have x0 := Ext.cell ⟨w2, hb⟩ x0; have x1 := Ext.cell ⟨w2, hb⟩ x1; have x2 := Ext.cell ⟨w2, hb⟩ x2; have x3 := Ext.cell ⟨w2, hb⟩ x3; have x4 := Ext.cell ⟨w2, hb⟩ x4
      have y0 := Ext.cell ⟨w2, hb⟩ y0; have y1 := Ext.cell ⟨w2, hb⟩ y1; have y2 := Ext.cell ⟨w2, hb⟩ y2; have y3 := Ext.cell ⟨w2, hb⟩ y3; have y4 := Ext.cell ⟨w2, hb⟩ y4
      simp only at x0 x1 x2 x3 x4 y0 y1 y2 y3 y4
      clear hb
      have HW : Hid (listB key hi limit l = (withinB l key hi && decide ((nn : Int) ≤ limit))) := by
        rw [within_list, HNN.out]; unfold listB; rw [Bool.and_right_comm]; exact Lib.hid rfl
      cases hw : withinB l key hi
      · have HWB := Lib.hid hw
        clear hw
        go_wp2_with fail
        (try go_ret)
        rw [HQ.out, fits_on HT.out (by omega) HM.out, HFE.out, HW.out, HWB.out]
        exact ⟨ret_bool (by simp), HB2.out⟩
      · have HWB := Lib.hid hw
        clear hw
        cases hl : decide ((nn : Int) ≤ limit)
        all_goals
          have HL := Lib.hid hl
          go_wp2_with fail
          (try go_ret)
          rw [HQ.out, fits_on HT.out (by omega) HM.out, HFE.out, HW.out, HWB.out, HL.out]
          exact ⟨ret_bool rfl, HB2.out⟩
    · have z4 := neq_b n4
      have N := Lib.hid n4
      clear n4
      have HK := Lib.hid (show kindB op 3 = false from decide_eq_false (by have := N.out; omega))
      go_wp2_with fail
      (try go_ret)
      rw [HQ.out, fits_on HT.out (by omega) HM.out, HFE.out, HK.out]
      exact ⟨ret_bool rfl, HB.out⟩
end Go.Proofs.Ytdgkgfapajlidaa
