/- Layer 9's contracts: the reference's Fits, a part. (gen_calld.py) -/
import Derived.Test.YtdgkgfapajlidaaCallD
namespace Go.Proofs.Ytdgkgfapajlidaa
open Go.RowKit
set_option linter.unusedVariables false
set_option linter.unusedSimpArgs false
set_option maxHeartbeats 2000000 in
set_option maxRecDepth 100000 in
theorem rfits_t4 (op key val hi limit : Int) (k : Int) (p : Option Addr) (c nn : Nat) (l : PL) (w : World) (HP : Hid (PR w (.slice p l.length c) l)) (HN : Hid (nn ≤ 100000)) (HNN : Hid (nn = l.length)) (n1 : k ≠ 1) (n2 : k ≠ 2) (n3 : k ≠ 3) (hz : nn = 0) :
    Calls Try.prog 16 #[callV op key val hi limit, ansV k 0 0 0 (.slice p nn c)] w fun e w' => e = .returned (.bool (fitsB op key hi limit k 0 0 0 l)) ∧ Below w.heap.size w w' := by
  have HTI := Lib.hid (told_iff k 0 0 0 l)
  rw [← HNN.out] at HTI
  refine Calls.veil fun Q HQ => ?_
  have HT : Hid (toldB k 0 0 0 l = true) := by rw [HTI.out]; exact Lib.hid (decide_eq_true (by omega))
  have N := Lib.hid (And.intro n1 (And.intro n2 n3))
  have z1 := neq_b n1; have z2 := neq_b n2; have z3 := neq_b n3
  have u1 : (k != 1) = true := by rw [bne_iff_ne]; exact n1
  have u2 : (k != 2) = true := by rw [bne_iff_ne]; exact n2
  have u3 : (k != 3) = true := by rw [bne_iff_ne]; exact n3
  have HFB : Hid (∀ op key hi limit : Int, fieldsB op key hi limit k 0 0 l = true) := Lib.hid (fun _ _ _ _ => by unfold fieldsB; rw [if_neg n1, if_neg n2, if_neg n3])
  subst hz
  clear n1 n2 n3
  rcases (by omega : k = 8 ∨ k ≠ 8) with rfl | n8
  · go_enter Try.func16, Try.ntmps16
    go_wp2_with fail
    (try go_ret)
    rw [HQ.out, fits_8 HT.out]
    exact ⟨ret_bool rfl, by (repeat (first | exact Below.refl _ _ | assumption | refine below_new ?_ _ | refine Below.drew ?_ | refine below_drewN ?_ _ | refine below_on ?_ (by assumption)))⟩
  · have z8 := neq_b n8
    have N8 := Lib.hid n8
    clear n8
    go_enter Try.func16, Try.ntmps16
    go_wp2_with fail
    generalize hW : World.alloc (World.alloc w _) _ = W
    have hBW : Below w.heap.size w W := by rw [← hW]; (repeat (first | exact Below.refl _ _ | assumption | refine below_new ?_ _ | refine Below.drew ?_ | refine below_drewN ?_ _ | refine below_on ?_ (by assumption)))
    have C0 := Lib.hid (And.intro (Ext.made1_in hW (Below.refl _ _) 0 (.int .i64 op) rfl) (And.intro (Ext.made1_in hW (Below.refl _ _) 1 (.int .i64 key) rfl) (And.intro (Ext.made1_in hW (Below.refl _ _) 2 (.int .i64 val) rfl) (And.intro (Ext.made1_in hW (Below.refl _ _) 3 (.int .i64 hi) rfl) (Ext.made1_in hW (Below.refl _ _) 4 (.int .i64 limit) rfl)))))
    have hs : ∀ o, (World.alloc w o).heap.size = w.heap.size + 1 := fun o => by simp
    have A0 := Lib.hid (And.intro (Ext.made_in hW (Below.refl _ _) 0 (.int .i64 k) rfl) (And.intro (Ext.made_in hW (Below.refl _ _) 1 (.int .i64 0) rfl) (And.intro (Ext.made_in hW (Below.refl _ _) 2 (.int .i64 0) rfl) (And.intro (Ext.made_in hW (Below.refl _ _) 3 (.int .i64 0) rfl) (Ext.made_in hW (Below.refl _ _) 4 (.slice p 0 c) rfl)))))
    simp only [hs] at A0
    clear hW hs
    refine (rmay op key val hi limit W).mono ?_; rintro _ w1 ⟨rfl, hb⟩
    obtain ⟨x0, x1, x2, x3, x4⟩ := C0.out
    obtain ⟨y0, y1, y2, y3, y4⟩ := A0.out
    have x0 := Ext.cell ⟨w1, hb⟩ x0; have x1 := Ext.cell ⟨w1, hb⟩ x1; have x2 := Ext.cell ⟨w1, hb⟩ x2; have x3 := Ext.cell ⟨w1, hb⟩ x3; have x4 := Ext.cell ⟨w1, hb⟩ x4
    have y0 := Ext.cell ⟨w1, hb⟩ y0; have y1 := Ext.cell ⟨w1, hb⟩ y1; have y2 := Ext.cell ⟨w1, hb⟩ y2; have y3 := Ext.cell ⟨w1, hb⟩ y3; have y4 := Ext.cell ⟨w1, hb⟩ y4
    simp only at x0 x1 x2 x3 x4 y0 y1 y2 y3 y4
    have HB := Lib.hid (below_on hBW hb)
    clear hBW hb C0 A0
    cases hm : mayB op key hi limit
    · have HM := Lib.hid hm
      clear hm
      go_wp2_with fail
      (try go_ret)
      rw [HQ.out, fits_off HT.out (N8.out) HM.out]
      exact ⟨ret_bool rfl, HB.out⟩
    · have HM := Lib.hid hm
      clear hm
      have HON := Lib.hid (show fitsB op key hi limit k 0 0 0 l = kindB op k by rw [fits_on HT.out N8.out HM.out, HFB.out, Bool.and_true])
      have HOP : Hid (0 ≤ op ∧ op ≤ 14) := by
        have := HM.out
        unfold mayB at this
        have := of_decide_eq_true this
        exact Lib.hid (by omega)
      clear HFB
      rcases (by omega : k = 0 ∨ k = 4 ∨ k = 5 ∨ k = 6 ∨ k = 7 ∨ (k ≠ 0 ∧ k ≠ 4 ∧ k ≠ 5 ∧ k ≠ 6 ∧ k ≠ 7)) with rfl | rfl | rfl | rfl | rfl | ⟨m0, m4, m5, m6, m7⟩
      · rcases (by omega : op = 0 ∨ op = 9 ∨ (op ≠ 0 ∧ op ≠ 9 ∧ 10 < op) ∨ (op ≠ 0 ∧ op ≠ 9 ∧ op ≤ 10)) with rfl | rfl | ⟨o0, o9, o10⟩ | ⟨o0, o9, o10⟩
        all_goals
          first | (have v0 := neq_b o0; have v9 := neq_b o9; have NO := Lib.hid (And.intro o0 o9); clear o0 o9) | skip
          go_wp2_with fail
          (try go_ret)
          rw [HQ.out, HON.out]
          (try have NO := NO.out)
          have hop := HOP.out
          exact ⟨ret_bool (by first | exact (decide_eq_true (by omega)).symm | exact (decide_eq_false (by omega)).symm | exact decide_eq_decide.2 (by omega)), HB.out⟩
      · go_wp2_with fail
        refine (rpair op w1).mono ?_; rintro _ w2 ⟨rfl, hb⟩
        have HB2 := Lib.hid (below_on HB.out hb)
        clear hb x0 x1 x2 x3 x4 y0 y1 y2 y3 y4
        go_wp2_with fail
        (try go_ret)
        rw [HQ.out, HON.out]
        exact ⟨ret_bool (by exact decide_eq_decide.2 (by omega)), HB2.out⟩
      · rcases (by omega : op = 0 ∨ op ≠ 0) with rfl | o0
        all_goals
          first | (have v0 := neq_b o0; have NO := Lib.hid o0; clear o0) | skip
          go_wp2_with fail
          (try go_ret)
          rw [HQ.out, HON.out]
          (try have NO := NO.out)
          exact ⟨ret_bool (by first | exact (decide_eq_true (by omega)).symm | exact (decide_eq_false (by omega)).symm), HB.out⟩
      · rcases (by omega : op = 0 ∨ op ≠ 0) with rfl | o0
        all_goals
          first | (have v0 := neq_b o0; have NO := Lib.hid o0; clear o0) | skip
          go_wp2_with fail
          (try go_ret)
          rw [HQ.out, HON.out]
          (try have NO := NO.out)
          exact ⟨ret_bool (by first | exact (decide_eq_true (by omega)).symm | exact (decide_eq_false (by omega)).symm), HB.out⟩
      · go_wp2_with fail
        refine (rreads op w1).mono ?_; rintro _ w2 ⟨rfl, hb⟩
        have HB2 := Lib.hid (below_on HB.out hb)
        clear hb x0 x1 x2 x3 x4 y0 y1 y2 y3 y4
        go_wp2_with fail
        (try go_ret)
        rw [HQ.out, HON.out]
        exact ⟨ret_bool (by exact decide_eq_decide.2 (by omega)), HB2.out⟩
      · have v0 := neq_b m0; have v4 := neq_b m4; have v5 := neq_b m5; have v6 := neq_b m6; have v7 := neq_b m7
        have NM := Lib.hid (And.intro m0 (And.intro m4 (And.intro m5 (And.intro m6 m7))))
        clear m0 m4 m5 m6 m7
        go_wp2_with fail
        (try go_ret)
        rw [HQ.out, HON.out]
        have NM := NM.out; have N := N.out
        exact ⟨ret_bool (decide_eq_false (by omega)).symm, HB.out⟩
end Go.Proofs.Ytdgkgfapajlidaa
