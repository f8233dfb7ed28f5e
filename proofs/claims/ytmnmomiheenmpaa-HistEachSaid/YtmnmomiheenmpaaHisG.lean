/- Layer 11: the laws' lives. -/
import Derived.Test.YtmnmomiheenmpaaHisE
namespace Go.Proofs.Ytmnmomiheenmpaa
open Go.RowKit
set_option linter.unusedVariables false
set_option linter.unusedSimpArgs false
def L3 : Nat → Ev := fun i => if i = 0 then ev0 else if i = 1 then { ev0 with bk := true } else { ev0 with th := 1 }
theorem L3_may : mayH L3 3 = true := by decide
theorem L3_opers : (stO L3 3).1 = [⟨0, ⟨0, 0, 0, 0, 0⟩, ⟨0, 0, 0, 0, []⟩, 0, 1⟩, ⟨1, ⟨0, 0, 0, 0, 0⟩, ⟨0, 0, 0, 0, []⟩, 2, -1⟩] := rfl
theorem L3_VR (w : World) (T : TypeId) : VR (w.alloc (.cells #[.int .i64 0, .bool false, .int .i64 0, .int .i64 0, .int .i64 0, .int .i64 0, .int .i64 0, .int .i64 0, .int .i64 0, .int .i64 0, .int .i64 0, .slice none 0 0, .int .i64 0, .bool true, .int .i64 0, .int .i64 0, .int .i64 0, .int .i64 0, .int .i64 0, .int .i64 0, .int .i64 0, .int .i64 0, .int .i64 0, .slice none 0 0, .int .i64 1, .bool false, .int .i64 0, .int .i64 0, .int .i64 0, .int .i64 0, .int .i64 0, .int .i64 0, .int .i64 0, .int .i64 0, .int .i64 0, .slice none 0 0] T)) (.slice (some ⟨w.heap.size, 0, none⟩) 3 3) 3 L3 := by
  refine .row _ 0 3 3 _ (Nat.le_refl _) (by decide) fun i hi => ⟨.slice none 0 0, fun j hj => ?_, ?_⟩
  · rw [cell_of_row _ _ _ _ _ (0, 0) (heap_alloc_new w _)]
    rcases (by omega : i = 0 ∨ i = 1 ∨ i = 2) with rfl | rfl | rfl <;> rcases (by omega : j = 0 ∨ j = 1 ∨ j = 2 ∨ j = 3 ∨ j = 4 ∨ j = 5 ∨ j = 6 ∨ j = 7 ∨ j = 8 ∨ j = 9 ∨ j = 10 ∨ j = 11) with rfl | rfl | rfl | rfl | rfl | rfl | rfl | rfl | rfl | rfl | rfl | rfl <;> rfl
  · rcases (by omega : i = 0 ∨ i = 1 ∨ i = 2) with rfl | rfl | rfl <;> exact .nil
set_option maxHeartbeats 4000000 in
theorem lives11_calls (w : World) : Calls Try.prog 7 #[] w fun e w' => e = .returned (.bool true) ∧ Below w.heap.size w w' := by
  refine Calls.veil fun Q HQ => ?_
  go_enter Try.func7, Try.ntmps7
  go_wp2_with fail
  generalize hV : World.alloc w _ = V
  have HVR := Lib.hid (show VR V (.slice (some ⟨w.heap.size, 0, none⟩) 3 3) 3 L3 by rw [← hV]; exact L3_VR w _)
  have HB := Lib.hid (show Below w.heap.size w V by rw [← hV]; (repeat (first | exact Below.refl _ _ | assumption | refine below_new ?_ _ | refine Below.drew ?_ | refine below_drewN ?_ _ | refine below_on ?_ (by assumption))))
  clear hV
  refine (hopers 3 L3 _ V HVR.out (by omega) (fun i hi => by rcases (by omega : i = 0 ∨ i = 1 ∨ i = 2) with rfl | rfl | rfl <;> simp [L3, ev0]) L3_may).mono ?_
  rintro _ w1 ⟨v1, l, rfl, hl, ho, hp, hb1⟩
  rw [L3_opers] at hl
  rcases l with _ | ⟨⟨x, vx⟩, _ | ⟨⟨y, vy⟩, _ | ⟨z, l⟩⟩⟩ <;> simp only [List.map_nil, List.map_cons, List.cons.injEq, reduceCtorEq, and_false, and_true] at hl
  obtain ⟨rfl, rfl⟩ := hl
  rcases own_sliceO ho with ⟨_, h0⟩ | ⟨g, c, rfl, hc1, hc2, _, _⟩
  · cases h0
  have hx := own_OpC ho 0 _ _ rfl
  have hy := own_OpC ho 1 _ _ rfl
  have hpa := (hp _ (List.mem_cons_self ..)).1
  have hpb := (hp _ (List.mem_cons_of_mem _ (List.mem_cons_self ..))).1
  simp only at hpa hpb
  obtain ⟨pa, ca, rfl, _, _⟩ := hpa.slice
  obtain ⟨pb, cb, rfl, _, _⟩ := hpb.slice
  obtain ⟨x0, x1, x2, x3, x4, x5, x6, x7, x8, x9, x10, x11, x12⟩ := hx
  obtain ⟨y0, y1, y2, y3, y4, y5, y6, y7, y8, y9, y10, y11, y12⟩ := hy
  simp only [Nat.zero_mul, Nat.one_mul, Nat.zero_add, List.length_nil, List.length_cons, Nat.reduceAdd] at x0 x1 x2 x3 x4 x5 x6 x7 x8 x9 x10 x11 x12 y0 y1 y2 y3 y4 y5 y6 y7 y8 y9 y10 y11 y12 hc1
  have x0 := Ext.cells x0; have x1 := Ext.cells x1; have x2 := Ext.cells x2; have x3 := Ext.cells x3; have x4 := Ext.cells x4; have x5 := Ext.cells x5; have x6 := Ext.cells x6; have x7 := Ext.cells x7; have x8 := Ext.cells x8; have x9 := Ext.cells x9; have x10 := Ext.cells x10; have x11 := Ext.cells x11; have x12 := Ext.cells x12
  have y0 := Ext.cells y0; have y1 := Ext.cells y1; have y2 := Ext.cells y2; have y3 := Ext.cells y3; have y4 := Ext.cells y4; have y5 := Ext.cells y5; have y6 := Ext.cells y6; have y7 := Ext.cells y7; have y8 := Ext.cells y8; have y9 := Ext.cells y9; have y10 := Ext.cells y10; have y11 := Ext.cells y11; have y12 := Ext.cells y12
  have HB1 := Lib.hid (show Below w.heap.size w w1 from below_on HB.out hb1)
  clear ho hp hb1 hpa hpb
  go_upto_region 2 with fail
  (with_reducible refine wp_region_mix (fun w' => ∃ y : Ext w1, w' = y.w) ?_ ?_ ?_ ?_; kernel_rfl; kernel_rfl; exact ⟨⟨w1.drew, (Below.refl _ _).drew⟩, rfl⟩)
  repeat (first | ((with_reducible refine mix_plain (by kernel_rfl) ?_); (first | go_big_quiet_skip | (go_big_quiet_want; go_big_quiet_op; go_big_quiet_on)); (with_reducible refine mix_on ?_)) | ((with_reducible refine mix_skip (by kernel_rfl) ?_); go_big_quiet_skip; (with_reducible refine mix_on ?_)))
  ((with_reducible refine wpMix_chain (by kernel_rfl) (by kernel_rfl) (fun K HK => ?_)); go_step)
  refine (hahead ⟨0, ⟨0, 0, 0, 0, 0⟩, ⟨0, 0, 0, 0, []⟩, 0, 1⟩ ⟨1, ⟨0, 0, 0, 0, 0⟩, ⟨0, 0, 0, 0, []⟩, 2, -1⟩ _ _ _).mono ?_; rintro _ z1 ⟨rfl, hb1⟩
  have HZ1 := Lib.hid (show Below w1.heap.size w1 z1 from below_on (Below.refl _ _).drew hb1)
  refine HK.out _ _ ⟨⟨z1, HZ1.out⟩, rfl⟩ ?_
  clear HK K hb1
  rw [show aheadB (⟨0, ⟨0, 0, 0, 0, 0⟩, ⟨0, 0, 0, 0, []⟩, 0, 1⟩ : Opr) ⟨1, ⟨0, 0, 0, 0, 0⟩, ⟨0, 0, 0, 0, []⟩, 2, -1⟩ = true from rfl]
  repeat (first | ((with_reducible refine mix_plain (by kernel_rfl) ?_); (first | go_big_quiet_skip | (go_big_quiet_want; go_big_quiet_op; go_big_quiet_on)); (with_reducible refine mix_on ?_)) | ((with_reducible refine mix_skip (by kernel_rfl) ?_); go_big_quiet_skip; (with_reducible refine mix_on ?_)))
  ((with_reducible refine wpMix_chain (by kernel_rfl) (by kernel_rfl) (fun K HK => ?_)); go_step)
  refine (hahead ⟨1, ⟨0, 0, 0, 0, 0⟩, ⟨0, 0, 0, 0, []⟩, 2, -1⟩ ⟨0, ⟨0, 0, 0, 0, 0⟩, ⟨0, 0, 0, 0, []⟩, 0, 1⟩ _ _ _).mono ?_; rintro _ z2 ⟨rfl, hb1⟩
  have HZ2 := Lib.hid (show Below w1.heap.size w1 z2 from below_on HZ1.out hb1)
  refine HK.out _ _ ⟨⟨z2, HZ2.out⟩, rfl⟩ ?_
  clear HK K hb1
  rw [show aheadB (⟨1, ⟨0, 0, 0, 0, 0⟩, ⟨0, 0, 0, 0, []⟩, 2, -1⟩ : Opr) ⟨0, ⟨0, 0, 0, 0, 0⟩, ⟨0, 0, 0, 0, []⟩, 0, 1⟩ = false from rfl]
  repeat (first | ((with_reducible refine mix_plain (by kernel_rfl) ?_); (first | go_big_quiet_skip | (go_big_quiet_want; go_big_quiet_op; go_big_quiet_on)); (with_reducible refine mix_on ?_)) | ((with_reducible refine mix_skip (by kernel_rfl) ?_); go_big_quiet_skip; (with_reducible refine mix_on ?_)))
  refine wpMix_nil ?_
  go_wp2_with fail
  (try go_ret)
  rw [HQ.out]
  exact ⟨rfl, below_on HB1.out HZ2.out⟩
end Go.Proofs.Ytmnmomiheenmpaa
