/- Layer 8: the walks. -/
import Derived.Test.YtjeoiieglecdbaaPairL
namespace Go.Proofs.Ytjeoiieglecdbaa
open Go.RowKit
set_option linter.unusedVariables false
set_option linter.unusedSimpArgs false

set_option maxHeartbeats 4000000 in
set_option maxRecDepth 100000 in
theorem pairsFinds_walk (v0 v1 : Value) (w : World) (s0 : Fr.ok1 w (.slice [.int .i64, .int .i64]) v0) (s1 : Fr.ok1 w (.int .i64) v1) :
    Calls Try.prog 4 #[v0, v1] w fun e w' => e = .returned (.bool true) ∧ Below w.heap.size w w' := by
  obtain ⟨key, rfl, _⟩ := Fr.get_int s1
  obtain ⟨l, hP⟩ := pairs_open s0
  have HP := Lib.hid hP
  obtain ⟨p, c, rfl, hc1, hc2⟩ := hP.slice
  clear s0 s1 hP
  refine Calls.veil fun Q HQ => ?_
  rcases (by omega : 300 < l.length ∨ l.length ≤ 300) with hl | hl
  · go_enter Try.func4, Try.ntmps4
    go_wp2_with fail
    refine (lives8_calls _).mono ?_; rintro _ w2 ⟨rfl, hb⟩
    go_wp2_with fail
    (try go_ret)
    rw [HQ.out]
    exact ⟨ret_bool rfl, hb⟩
  · cases hr : riseB l
    · go_enter Try.func4, Try.ntmps4
      have HR := Lib.hid hr
      clear hr
      go_wp2_with fail
      refine (rrises l _ w HP.out (by omega)).mono ?_; rintro _ w1 ⟨rfl, hb1⟩
      rw [HR.out]
      go_wp2_with fail
      refine (lives8_calls _).mono ?_; rintro _ w2 ⟨rfl, hb⟩
      have hb := below_on hb1 hb
      go_wp2_with fail
      (try go_ret)
      rw [HQ.out]
      exact ⟨ret_bool rfl, hb⟩
    · go_enter Try.func4, Try.ntmps4
      have HR := Lib.hid hr
      clear hr
      go_wp2_with fail
      refine (rrises l _ w HP.out (by omega)).mono ?_; rintro _ w1 ⟨rfl, hb1⟩
      rw [HR.out]
      have HB := Lib.hid hb1
      clear hb1
      go_wp2_with fail
      refine (pfind l _ key w1 (HP.out.below HB.out) HR.out (by omega)).mono ?_; rintro _ w2 ⟨rfl, hb⟩
      have HB := Lib.hid (below_on HB.out hb)
      clear hb
      generalize hx : lbN l key = x
      generalize hy : hereB l key = y
      have HXY := Lib.hid (And.intro hx hy)
      clear hx hy
      go_wp2_with fail
      refine (rat l _ key w2 (HP.out.below HB.out) (by omega)).mono ?_; rintro _ w3 ⟨rfl, hb⟩
      have HB := Lib.hid (below_on HB.out hb)
      clear hb
      rw [HXY.out.1, HXY.out.2]
      go_wp2_with fail
      refine (pfloor l _ key w3 (HP.out.below HB.out) HR.out (by omega)).mono ?_; rintro _ w4 ⟨rfl, hb⟩
      have HB := Lib.hid (below_on HB.out hb)
      clear hb
      generalize hf1 : (opt (floorL l key)).1 = f1
      generalize hf2 : (opt (floorL l key)).2 = f2
      generalize hf3 : (floorL l key).isSome = f3
      have HF := Lib.hid (And.intro hf1 (And.intro hf2 hf3))
      clear hf1 hf2 hf3
      go_wp2_with fail
      generalize hW : World.alloc w4 _ = W4
      have hBW : Below w4.heap.size w4 W4 := by rw [← hW]; (repeat (first | exact Below.refl _ _ | assumption | refine below_new ?_ _ | refine Below.drew ?_ | refine below_drewN ?_ _ | refine below_on ?_ (by assumption)))
      have hA := Lib.hid (show Cell2 W4 w4.heap.size f1 f2 by rw [← hW]; exact Cell2.new w4 f1 f2 _)
      have HB := Lib.hid (below_on HB.out hBW)
      clear hW hBW
      refine (rfloor l _ key W4 (HP.out.below HB.out) (by omega)).mono ?_; rintro _ w5 ⟨rfl, hb⟩
      have hA := Lib.hid (hA.out.below hb)
      have HB := Lib.hid (below_on HB.out hb)
      clear hb
      rw [HF.out.1, HF.out.2.1, HF.out.2.2]
      go_wp2_with fail
      generalize hW : World.alloc w5 _ = W5
      have hBW : Below w5.heap.size w5 W5 := by rw [← hW]; (repeat (first | exact Below.refl _ _ | assumption | refine below_new ?_ _ | refine Below.drew ?_ | refine below_drewN ?_ _ | refine below_on ?_ (by assumption)))
      have hC := Lib.hid (show Cell2 W5 w5.heap.size f1 f2 by rw [← hW]; exact Cell2.new w5 f1 f2 _)
      have hA := Lib.hid (hA.out.below hBW)
      have HB := Lib.hid (below_on HB.out hBW)
      clear hW hBW
      refine (pceil l _ key W5 (HP.out.below HB.out) HR.out (by omega)).mono ?_; rintro _ w6 ⟨rfl, hb⟩
      have hA := Lib.hid (hA.out.below hb)
      have hC := Lib.hid (hC.out.below hb)
      have HB := Lib.hid (below_on HB.out hb)
      clear hb
      generalize hg1 : (opt (ceilL l key)).1 = g1
      generalize hg2 : (opt (ceilL l key)).2 = g2
      generalize hg3 : (ceilL l key).isSome = g3
      have HG := Lib.hid (And.intro hg1 (And.intro hg2 hg3))
      clear hg1 hg2 hg3
      go_wp2_with fail
      generalize hW : World.alloc w6 _ = W6
      have hBW : Below w6.heap.size w6 W6 := by rw [← hW]; (repeat (first | exact Below.refl _ _ | assumption | refine below_new ?_ _ | refine Below.drew ?_ | refine below_drewN ?_ _ | refine below_on ?_ (by assumption)))
      have hD := Lib.hid (show Cell2 W6 w6.heap.size g1 g2 by rw [← hW]; exact Cell2.new w6 g1 g2 _)
      have hA := Lib.hid (hA.out.below hBW)
      have hC := Lib.hid (hC.out.below hBW)
      have HB := Lib.hid (below_on HB.out hBW)
      clear hW hBW
      refine (rceil l _ key W6 (HP.out.below HB.out) (by omega)).mono ?_; rintro _ w7 ⟨rfl, hb⟩
      have hA := Lib.hid (hA.out.below hb)
      have hC := Lib.hid (hC.out.below hb)
      have hD := Lib.hid (hD.out.below hb)
      have HB := Lib.hid (below_on HB.out hb)
      clear hb
      rw [HG.out.1, HG.out.2.1, HG.out.2.2]
      have a0 := Ext.on hA.out.c0; have a1 := Ext.on hA.out.c1
      have b0 := Ext.on hC.out.c0; have b1 := Ext.on hC.out.c1
      have d0 := Ext.on hD.out.c0; have d1 := Ext.on hD.out.c1
      go_wp2_with fail
      refine (lives8_calls _).mono ?_; rintro _ w8 ⟨rfl, hb⟩
      have HB := Lib.hid (below_on (below_new HB.out _) hb)
      clear hb
      go_wp2_with fail
      (try go_ret)
      rw [HQ.out]
      exact ⟨ret_bool rfl, HB.out⟩
end Go.Proofs.Ytjeoiieglecdbaa
