/- Layer 16: lives, and the walk of CoreLays. -/
import Derived.Test.YtokeokgmopboiaaCorJ
import Derived.Test.YtokeokgmopboiaaFrame
namespace Go.Proofs.Ytokeokgmopboiaa
open Go.RowKit WordM EdgeM
set_option linter.unusedVariables false
set_option linter.unusedSimpArgs false
theorem lv1 : Mm.ldI (3 + 8 * 1 + 7 * 7) (partF 1 3 7) (nodeI (1 : Nat) (7 : Nat) (1 % 4096) 4) = 2 := by decide
theorem lv2 : (false || !Mm.okA (3 + 8 * 1 + 7 * 7) (nodeI (1 : Nat) (7 : Nat) (1 % 4096) 4)) = false := by decide
theorem lv3 : Gd.leadsB 7 (fun i => decide (i < 5)) (fun _ => 0) 1 = true := by decide
theorem lv4 : mayC (1 : Nat) (7 : Nat) 5 = true := by decide
theorem lv5 : makeI 1 0 = 1 := by decide
set_option maxRecDepth 8000 in
set_option maxHeartbeats 1000000 in
theorem lives16_calls (w : World) : Calls Try.prog 5 #[] w fun e w' => e = .returned (.bool true) ∧ Below w.heap.size w w' := by
  refine Calls.veil fun Q HQ => ?_
  have D : Calls Try.prog 4 #[.agg #[.int .i64 1, .int .i64 7, .int .u64 5]] w _ := cnew (t := 1) (s := 7) (K := 5) w lv4
  have D := Lib.hid D
  go_enter Try.func5, Try.ntmps5
  go_wp2_with fail
  refine D.out.mono ?_; rintro _ w1 ⟨q, pl, mb, mg, C, gq, gg, gm, fv, tq, rfl, hm, hb⟩
  have HM := Lib.hid hm; have HB := Lib.hid hb
  clear D hm hb
  go_wp2_with fail
  refine (emake_calls _ _ _ (by omega)).mono ?_; rintro _ _ ⟨rfl, rfl⟩
  rw [lv5]
  go_wp2_with fail
  refine (rread HM.out 1 4 (by omega) (by omega) lv3 (by omega) (by omega)).mono ?_; rintro _ w2 ⟨rfl, hm2, ho2⟩
  rw [lv2] at hm2
  rw [lv1]
  have HM2 := Lib.hid hm2
  have HB2 := Lib.hid (show Below w.heap.size w w2 from by
    have h2 := HM.out.o2; have h1 := HM.out.o1
    exact ⟨ho2.os.trans HB.out.os, ho2.tape.trans HB.out.tape, ho2.output.trans HB.out.output, Nat.le_trans HB.out.size ho2.size, fun j hj => (ho2.block j (Nat.lt_of_lt_of_le hj HB.out.size) (by omega) (by omega)).trans (HB.out.block j hj)⟩)
  clear hm2 ho2 HM HB
  go_wp2_with fail
  refine (gFault0 HM2.out).mono ?_; rintro _ w3 ⟨rfl, hb3⟩
  have HB3 := Lib.hid (below_on HB2.out hb3)
  clear hb3
  go_wp2_with fail
  (try go_ret)
  rw [HQ.out]
  exact ⟨by simp, HB3.out⟩
end Go.Proofs.Ytokeokgmopboiaa
