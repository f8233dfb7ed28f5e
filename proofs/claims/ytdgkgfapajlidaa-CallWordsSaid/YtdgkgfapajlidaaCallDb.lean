/- Layer 9's contracts: the reference's Fits, a part. (gen_calld.py) -/
import Derived.Test.YtdgkgfapajlidaaCallD
namespace Go.Proofs.Ytdgkgfapajlidaa
open Go.RowKit
set_option linter.unusedVariables false
set_option linter.unusedSimpArgs false
set_option maxHeartbeats 2000000 in
set_option maxRecDepth 100000 in
theorem rfits_t1 (op key val hi limit : Int) (ak av : Int) (p : Option Addr) (c nn : Nat) (l : PL) (w : World) (HP : Hid (PR w (.slice p l.length c) l)) (HN : Hid (nn ≤ 100000)) (HNN : Hid (nn = l.length)) (hz : nn = 0) :
    Calls Try.prog 16 #[callV op key val hi limit, ansV 1 ak av 0 (.slice p nn c)] w fun e w' => e = .returned (.bool (fitsB op key hi limit 1 ak av 0 l)) ∧ Below w.heap.size w w' := by
  have HTI := Lib.hid (told_iff 1 ak av 0 l)
  rw [← HNN.out] at HTI
  refine Calls.veil fun Q HQ => ?_
  have HT : Hid (toldB 1 ak av 0 l = true) := by rw [HTI.out]; exact Lib.hid (decide_eq_true (by omega))
  have HFE : Hid (∀ o : Int, fieldsB o key hi limit 1 ak 0 l = keyB o key ak) := Lib.hid (fun _ => rfl)
  subst hz
  go_enter Try.func16, Try.ntmps16
  go_wp2_with fail
  generalize hW : World.alloc (World.alloc w _) _ = W
  have hBW : Below w.heap.size w W := by rw [← hW]; (repeat (first | exact Below.refl _ _ | assumption | refine below_new ?_ _ | refine Below.drew ?_ | refine below_drewN ?_ _ | refine below_on ?_ (by assumption)))
  have C0 := Lib.hid (And.intro (Ext.made1_in hW (Below.refl _ _) 0 (.int .i64 op) rfl) (And.intro (Ext.made1_in hW (Below.refl _ _) 1 (.int .i64 key) rfl) (And.intro (Ext.made1_in hW (Below.refl _ _) 2 (.int .i64 val) rfl) (And.intro (Ext.made1_in hW (Below.refl _ _) 3 (.int .i64 hi) rfl) (Ext.made1_in hW (Below.refl _ _) 4 (.int .i64 limit) rfl)))))
  have hs : ∀ o, (World.alloc w o).heap.size = w.heap.size + 1 := fun o => by simp
  have A0 := Lib.hid (And.intro (Ext.made_in hW (Below.refl _ _) 0 (.int .i64 1) rfl) (And.intro (Ext.made_in hW (Below.refl _ _) 1 (.int .i64 ak) rfl) (And.intro (Ext.made_in hW (Below.refl _ _) 2 (.int .i64 av) rfl) (And.intro (Ext.made_in hW (Below.refl _ _) 3 (.int .i64 0) rfl) (Ext.made_in hW (Below.refl _ _) 4 (.slice p 0 c) rfl)))))
  simp only [hs] at A0
  clear hW hs
  refine (rmay op key val hi limit W).mono ?_; rintro _ w1 ⟨rfl, hb⟩
  obtain ⟨x0, x1, x2, x3, x4⟩ := C0.out
  obtain ⟨y0, y1, y2, y3, y4⟩ := A0.out
  have x0 := Ext.cell ⟨w1, hb⟩ x0; have x1 := Ext.cell ⟨w1, hb⟩ x1; have x2 := Ext.cell ⟨w1, hb⟩ x2; have x3 := Ext.cell ⟨w1, hb⟩ x3; have x4 := Ext.cell ⟨w1, hb⟩ x4
  have y0 := Ext.cell ⟨w1, hb⟩ y0; have y1 := Ext.cell ⟨w1, hb⟩ y1; have y2 := Ext.cell ⟨w1, hb⟩ y2; have y3 := Ext.cell ⟨w1, hb⟩ y3; have y4 := Ext.cell ⟨w1, hb⟩ y4
  simp only at x0 x1 x2 x3 x4 y0 y1 y2 y3 y4
  have HB := Lib.hid (below_on hBW hb)
  clear hBW hb C0 A0
  cases hm : mayB op key hi limit
  · have HM := Lib.hid hm
    clear hm
    go_wp2_with fail
    (try go_ret)
    rw [HQ.out, fits_off HT.out (by omega) HM.out]
    exact ⟨ret_bool rfl, HB.out⟩
  · have HM := Lib.hid hm
    clear hm
    rcases (by omega : op = 1 ∨ op = 2 ∨ op = 7 ∨ op = 8 ∨ (op ≠ 1 ∧ op ≠ 2 ∧ op ≠ 7 ∧ op ≠ 8)) with rfl | rfl | rfl | rfl | ⟨n1, n2, n7, n8⟩
    · cases he : (ak == key)
      · have he2 : (ak != key) = true := by rw [bne_iff_ne]; simpa using he
        have HE := Lib.hid he
        go_wp2_with fail
        (try go_ret)
        rw [HQ.out, fits_on HT.out (by omega) HM.out, HFE.out]
        have he := HE.out
        simp only [beq_eq_false_iff_ne] at he
        exact ⟨ret_bool (kf_f (by omega)), HB.out⟩
      · have he2 : (ak != key) = false := by simpa [bne] using he
        have HE := Lib.hid he
        go_wp2_with fail
        refine (rpair 1 w1).mono ?_; rintro _ w2 ⟨rfl, hb⟩
        have HB2 := Lib.hid (below_on HB.out hb)
        clear hb x0 x1 x2 x3 x4 y0 y1 y2 y3 y4 he he2
        go_wp2_with fail
        (try go_ret)
        rw [HQ.out, fits_on HT.out (by omega) HM.out, HFE.out]
        have he := HE.out
        simp only [beq_iff_eq] at he
        exact ⟨ret_bool (kf_i (by omega)), HB2.out⟩
    · cases he : (ak == key)
      · have he2 : (ak != key) = true := by rw [bne_iff_ne]; simpa using he
        have HE := Lib.hid he
        go_wp2_with fail
        (try go_ret)
        rw [HQ.out, fits_on HT.out (by omega) HM.out, HFE.out]
        have he := HE.out
        simp only [beq_eq_false_iff_ne] at he
        exact ⟨ret_bool (kf_f (by omega)), HB.out⟩
      · have he2 : (ak != key) = false := by simpa [bne] using he
        have HE := Lib.hid he
        go_wp2_with fail
        refine (rpair 2 w1).mono ?_; rintro _ w2 ⟨rfl, hb⟩
        have HB2 := Lib.hid (below_on HB.out hb)
        clear hb x0 x1 x2 x3 x4 y0 y1 y2 y3 y4 he he2
        go_wp2_with fail
        (try go_ret)
        rw [HQ.out, fits_on HT.out (by omega) HM.out, HFE.out]
        have he := HE.out
        simp only [beq_iff_eq] at he
        exact ⟨ret_bool (kf_i (by omega)), HB2.out⟩
    · rcases (by omega : key < ak ∨ ak ≤ key) with he | he
      · have HE := Lib.hid he
        go_wp2_with fail
        (try go_ret)
        rw [HQ.out, fits_on HT.out (by omega) HM.out, HFE.out]
        have he := HE.out
        exact ⟨ret_bool (kf_f (by omega)), HB.out⟩
      · have HE := Lib.hid he
        go_wp2_with fail
        refine (rpair 7 w1).mono ?_; rintro _ w2 ⟨rfl, hb⟩
        have HB2 := Lib.hid (below_on HB.out hb)
        clear hb x0 x1 x2 x3 x4 y0 y1 y2 y3 y4 he
        go_wp2_with fail
        (try go_ret)
        rw [HQ.out, fits_on HT.out (by omega) HM.out, HFE.out]
        have he := HE.out
        exact ⟨ret_bool (kf_i (by omega)), HB2.out⟩
    · rcases (by omega : ak < key ∨ key ≤ ak) with he | he
      · have HE := Lib.hid he
        go_wp2_with fail
        (try go_ret)
        rw [HQ.out, fits_on HT.out (by omega) HM.out, HFE.out]
        have he := HE.out
        exact ⟨ret_bool (kf_f (by omega)), HB.out⟩
      · have HE := Lib.hid he
        go_wp2_with fail
        refine (rpair 8 w1).mono ?_; rintro _ w2 ⟨rfl, hb⟩
        have HB2 := Lib.hid (below_on HB.out hb)
        clear hb x0 x1 x2 x3 x4 y0 y1 y2 y3 y4 he
        go_wp2_with fail
        (try go_ret)
        rw [HQ.out, fits_on HT.out (by omega) HM.out, HFE.out]
        have he := HE.out
        exact ⟨ret_bool (kf_i (by omega)), HB2.out⟩
    · have z1 := neq_b n1; have z2 := neq_b n2; have z7 := neq_b n7; have z8 := neq_b n8
      have N := Lib.hid (And.intro n1 (And.intro n2 (And.intro n7 n8)))
      clear n1 n2 n7 n8
      go_wp2_with fail
      refine (rpair op w1).mono ?_; rintro _ w2 ⟨rfl, hb⟩
      have HB2 := Lib.hid (below_on HB.out hb)
      clear hb x0 x1 x2 x3 x4 y0 y1 y2 y3 y4
      go_wp2_with fail
      (try go_ret)
      rw [HQ.out, fits_on HT.out (by omega) HM.out, HFE.out]
      exact ⟨ret_bool (by have N := N.out; exact kf_i (by omega)), HB2.out⟩
end Go.Proofs.Ytdgkgfapajlidaa
