/- Layer 8: the walk of PairsPuts. -/
import Derived.Test.YtjeoiieglecdbaaPairL
namespace Go.Proofs.Ytjeoiieglecdbaa
open Go.RowKit
set_option linter.unusedVariables false
set_option linter.unusedSimpArgs false

theorem same_self (a : PL) : sameB a a = true := decide_eq_true rfl
theorem put_len (l : PL) (p : Int × Int) : (putL l p).length ≤ l.length + 1 := by
  unfold putL; split
  · omega
  · simp; omega
theorem drop_len (l : PL) (k : Int) : (dropL l k).length ≤ l.length := by
  unfold dropL; split
  · simp; omega
  · omega
set_option maxHeartbeats 4000000 in
set_option maxRecDepth 100000 in
theorem pairsPuts_walk (v0 v1 : Value) (w : World) (s0 : Fr.ok1 w (.slice [.int .i64, .int .i64]) v0) (s1 : Fr.okN w [.int .i64, .int .i64] v1) :
    Calls Try.prog 3 #[v0, v1] w fun e w' => e = .returned (.bool true) ∧ Below w.heap.size w w' := by
  obtain ⟨cs, rfl, hcs⟩ := s1
  obtain ⟨k, x, rfl⟩ := pair_cells hcs
  obtain ⟨l, hP⟩ := pairs_open s0
  have HP := Lib.hid hP
  obtain ⟨p, c, rfl, hc1, hc2⟩ := hP.slice
  clear s0 hP hcs
  show Calls Try.prog _ #[_, .agg #[.int .i64 k, .int .i64 x]] w _
  refine Calls.veil fun Q HQ => ?_
  rcases (by omega : 300 < l.length ∨ l.length ≤ 300) with hl | hl
  · go_enter Try.func3, Try.ntmps3
    go_wp2_with fail
    refine (lives8_calls _).mono ?_; rintro _ w2 ⟨rfl, hb⟩
    have hb := below_on (below_new (Below.refl w.heap.size w) _) hb
    go_wp2_with fail
    (try go_ret)
    rw [HQ.out]
    exact ⟨ret_bool rfl, hb⟩
  · cases hr : riseB l
    all_goals
      have HR := Lib.hid hr
      clear hr
      go_enter Try.func3, Try.ntmps3
      go_wp2_with fail
      generalize hW : World.alloc w _ = W
      have hBW : Below w.heap.size w W := by rw [← hW]; (repeat (first | exact Below.refl _ _ | assumption | refine below_new ?_ _ | refine Below.drew ?_ | refine below_drewN ?_ _ | refine below_on ?_ (by assumption)))
      have HC := Lib.hid (show Cell2 W w.heap.size k x by rw [← hW]; exact Cell2.new w k x _)
      have HB := Lib.hid hBW
      clear hW hBW
      refine (prises l _ W (HP.out.below HB.out) (by omega)).mono ?_; rintro _ w1 ⟨rfl, hb⟩
      have HC := Lib.hid (HC.out.below hb)
      have HB := Lib.hid (below_on HB.out hb)
      rw [HR.out]
      clear hb
      go_wp2_with fail
      refine (rrises l _ w1 (HP.out.below HB.out) (by omega)).mono ?_; rintro _ w2 ⟨rfl, hb⟩
      have HC := Lib.hid (HC.out.below hb)
      have HB := Lib.hid (below_on HB.out hb)
      rw [HR.out]
      clear hb
      go_wp2_with fail
      refine (psame l l _ _ w2 (HP.out.below HB.out) (HP.out.below HB.out) (by omega)).mono ?_; rintro _ w3 ⟨rfl, hb⟩
      have HC := Lib.hid (HC.out.below hb)
      have HB := Lib.hid (below_on HB.out hb)
      rw [same_self]
      clear hb
      go_wp2_with fail
      refine (rrises l _ w3 (HP.out.below HB.out) (by omega)).mono ?_; rintro _ w4 ⟨rfl, hb⟩
      have HC := Lib.hid (HC.out.below hb)
      have HB := Lib.hid (below_on HB.out hb)
      rw [HR.out]
      clear hb
    · go_wp2_with fail
      refine (lives8_calls _).mono ?_; rintro _ w5 ⟨rfl, hb⟩
      have HB := Lib.hid (below_on HB.out hb)
      clear hb
      go_wp2_with fail
      (try go_ret)
      rw [HQ.out]
      exact ⟨ret_bool rfl, HB.out⟩
    · go_wp2_with (at_builtin; refine wpList_append_pr rfl (.tmp 33) (.tmp 34) rfl w4.heap.size _ [] rfl (own_none w4) _ l rfl ((HP.out.below HB.out).alloc _) (by simp; omega) (by simp) ?_)
      intro v1 w5 hown hg
      have hb := grow_step (W := w4) (own_none w4) (by (repeat (first | exact Below.refl _ _ | assumption | refine below_new ?_ _ | refine Below.drew ?_ | refine below_drewN ?_ _ | refine below_on ?_ (by assumption)))) (Nat.le_refl _) hg
      have HWas := Lib.hid (show PR w5 v1 l from own_PR hown)
      have HC := Lib.hid (HC.out.below hb)
      have HB := Lib.hid (below_on HB.out hb)
      have z0 := HC.out.c0; have z1 := HC.out.c1
      clear hb hown hg
      go_wp2_with fail
      refine (pput l _ k x w5 (HP.out.below HB.out) HR.out (by omega)).mono ?_; rintro _ w6 ⟨va, rfl, hA, hb⟩
      have HA := Lib.hid hA
      have HWas := Lib.hid (HWas.out.below hb)
      have HC := Lib.hid (HC.out.below hb)
      have HB := Lib.hid (below_on HB.out hb)
      clear hb hA z0 z1
      generalize hy : hereB l k = y
      have HY := Lib.hid hy
      clear hy
      have z0 := HC.out.c0; have z1 := HC.out.c1
      go_wp2_with fail
      refine (rput l _ k x w6 HWas.out (by omega)).mono ?_; rintro _ w7 ⟨vb, rfl, hA, hb⟩
      have HBb := Lib.hid hA
      have HA := Lib.hid (HA.out.below hb)
      have HWas := Lib.hid (HWas.out.below hb)
      have HC := Lib.hid (HC.out.below hb)
      have HB := Lib.hid (below_on HB.out hb)
      rw [HY.out]
      clear hb hA z0 z1
      have z0 := HC.out.c0; have z1 := HC.out.c1
      go_wp2_with fail
      refine (pdrop l _ k w7 (HP.out.below HB.out) HR.out (by omega)).mono ?_; rintro _ w8 ⟨vc, rfl, hA, hb⟩
      have HCc := Lib.hid hA
      have HA := Lib.hid (HA.out.below hb)
      have HBb := Lib.hid (HBb.out.below hb)
      have HWas := Lib.hid (HWas.out.below hb)
      have HC := Lib.hid (HC.out.below hb)
      have HB := Lib.hid (below_on HB.out hb)
      rw [HY.out]
      clear hb hA z0 z1
      have z0 := HC.out.c0; have z1 := HC.out.c1
      go_wp2_with fail
      refine (rdrop l _ k w8 HWas.out HR.out (by omega)).mono ?_; rintro _ w9 ⟨vd, rfl, hA, hb⟩
      have HDd := Lib.hid hA
      have HA := Lib.hid (HA.out.below hb)
      have HBb := Lib.hid (HBb.out.below hb)
      have HCc := Lib.hid (HCc.out.below hb)
      have HWas := Lib.hid (HWas.out.below hb)
      have HB := Lib.hid (below_on HB.out hb)
      rw [HY.out]
      clear hb hA z0 z1 HC
      have HL := Lib.hid (show (putL l (k, x)).length ≤ 100000 ∧ (dropL l k).length ≤ 100000 by have := put_len l (k, x); have := drop_len l k; omega)
      have step : ∀ W : World, Below w9.heap.size w9 W → Hid (PR W va (putL l (k, x)) ∧ PR W vb (putL l (k, x)) ∧ PR W vc (dropL l k) ∧ PR W vd (dropL l k) ∧ PR W v1 l ∧ PR W _ l) := fun W h => Lib.hid ⟨HA.out.below h, HBb.out.below h, HCc.out.below h, HDd.out.below h, HWas.out.below h, (HP.out.below HB.out).below h⟩
      have HS := Lib.hid step
      clear step
      go_wp2_with fail
      refine (rsame _ _ _ _ w9 HA.out HBb.out HL.out.1).mono ?_; rintro _ w10 ⟨rfl, hb⟩
      rw [same_self]
      have HX := Lib.hid hb
      clear hb
      go_wp2_with fail
      refine (rsame _ _ _ _ w10 (HS.out _ HX.out).out.2.2.1 (HS.out _ HX.out).out.2.2.2.1 HL.out.2).mono ?_; rintro _ w11 ⟨rfl, hb⟩
      rw [same_self]
      have HX := Lib.hid (below_on HX.out hb)
      clear hb
      go_wp2_with fail
      refine (rsame _ _ _ _ w11 (HS.out _ HX.out).out.2.2.2.2.2 (HS.out _ HX.out).out.2.2.2.2.1 (by omega)).mono ?_; rintro _ w12 ⟨rfl, hb⟩
      rw [same_self]
      have HX := Lib.hid (below_on HX.out hb)
      clear hb
      go_wp2_with fail
      refine (psame _ _ _ _ w12 (HS.out _ HX.out).out.1 (HS.out _ HX.out).out.2.2.1 HL.out.1).mono ?_; rintro _ w13 ⟨rfl, hb⟩
      have HX := Lib.hid (below_on HX.out hb)
      clear hb
      generalize hz : sameB (putL l (k, x)) (dropL l k) = z
      have HZ := Lib.hid hz
      clear hz
      go_wp2_with fail
      refine (rsame _ _ _ _ w13 (HS.out _ HX.out).out.2.1 (HS.out _ HX.out).out.2.2.2.1 HL.out.1).mono ?_; rintro _ w14 ⟨rfl, hb⟩
      have HX := Lib.hid (below_on HX.out hb)
      clear hb
      rw [HZ.out]
      go_wp2_with fail
      refine (lives8_calls _).mono ?_; rintro _ w15 ⟨rfl, hb⟩
      have HB := Lib.hid (below_on HB.out (below_on HX.out hb))
      clear hb
      go_wp2_with fail
      (try go_ret)
      rw [HQ.out]
      exact ⟨ret_bool rfl, HB.out⟩
end Go.Proofs.Ytjeoiieglecdbaa
