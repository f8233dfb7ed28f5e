/- Layer 14: the chapter's example. -/
import Derived.Test.YtnikggdnlijkkaaScrE
import Derived.Laws.IdiomStrings
namespace Go.Proofs.Ytnikggdnlijkkaa
open Go.RowKit WordM
set_option linter.unusedVariables false
set_option linter.unusedSimpArgs false
theorem eindex0 (f : Value) (w : World) : Calls Try.prog 36 #[.slice none 0 0, f] w fun e w' => e = .returned (.int .i64 (-1)) ∧ Below w.heap.size w w' := by
  refine Calls.veil fun Q HQ => ?_
  go_enter Try.func36, Try.ntmps36
  go_wp2_with fail
  refine wp_loop_rounds 1 ?_
  rw [rounds_succ]
  go_wp2_with fail
  (try go_ret)
  rw [HQ.out]
  exact ⟨rfl, by (repeat (first | exact Below.refl _ _ | assumption | refine below_new ?_ _ | refine Below.drew ?_ | refine below_drewN ?_ _ | refine below_on ?_ (by assumption)))⟩
theorem econt0 (f : Value) (w : World) : Calls Try.prog 28 #[.slice none 0 0, f] w fun e w' => e = .returned (.bool false) ∧ Below w.heap.size w w' := by
  refine Calls.veil fun Q HQ => ?_
  go_enter Try.func28, Try.ntmps28
  go_wp2_with fail
  refine (eindex0 _ _).mono ?_; rintro _ w1 ⟨rfl, hb⟩
  go_wp2_with fail
  (try go_ret)
  rw [HQ.out]
  exact ⟨rfl, by first | exact hb | (repeat (first | exact Below.refl _ _ | assumption | refine below_new ?_ _ | refine Below.drew ?_ | refine below_drewN ?_ _ | refine below_on ?_ (by assumption)))⟩
set_option maxHeartbeats 1000000 in
theorem smay0 (w : World) : Calls Try.prog 18 #[.agg #[.int .i64 1, .int .i64 7, .int .u64 1, .slice none 0 0]] w fun e w' => e = .returned (.bool true) ∧ Below w.heap.size w w' := by
  refine Calls.veil fun Q HQ => ?_
  go_enter Try.func18, Try.ntmps18
  go_wp2_with fail
  generalize hV : World.alloc w _ = V
  have z3 : ∀ x : Ext V, x.w.cell? ⟨w.heap.size, 3, none⟩ = some (.slice none 0 0) := Ext.made hV 3 _ rfl
  have HB := Lib.hid (show Below w.heap.size w V by rw [← hV]; (repeat (first | exact Below.refl _ _ | assumption | refine below_new ?_ _ | refine Below.drew ?_ | refine below_drewN ?_ _ | refine below_on ?_ (by assumption))))
  clear hV
  refine (pmay_calls 1 7 1 _).mono ?_; rintro _ w1 ⟨rfl, hb⟩
  rw [show mayC 1 7 1 = true from by decide]
  have c3 := z3 ⟨w1, hb⟩
  simp only at c3
  have HB1 := Lib.hid (below_on HB.out hb)
  clear z3 hb
  go_wp2_with fail
  refine (econt0 _ _).mono ?_; rintro _ w2 ⟨rfl, hb2⟩
  have HB2 := Lib.hid (below_on HB1.out hb2)
  clear hb2 c3
  go_wp2_with fail
  (try go_ret)
  rw [HQ.out]
  exact ⟨rfl, HB2.out⟩
set_option maxHeartbeats 2000000 in
theorem sput_ex (w : World) : Calls Try.prog 9 #[.agg #[.int .i64 1, .int .i64 7, .int .u64 1, .slice none 0 0]] w fun e w' => ∃ B v', e = .returned (.tuple #[v', .int .i64 0]) ∧ OwnB w' B v' [1, 7, 0, 1, 0, 0, 0, 0, 0, 0, 0] ∧ Below w.heap.size w w' := by
  refine Calls.veil fun Q HQ => ?_
  go_enter Try.func9, Try.ntmps9
  go_wp2_with fail
  generalize hV : World.alloc w _ = V
  have z0 : ∀ x : Ext V, x.w.cell? ⟨w.heap.size, 0, none⟩ = some (.int .i64 1) := Ext.made hV 0 _ rfl
  have z1 : ∀ x : Ext V, x.w.cell? ⟨w.heap.size, 1, none⟩ = some (.int .i64 7) := Ext.made hV 1 _ rfl
  have z2 : ∀ x : Ext V, x.w.cell? ⟨w.heap.size, 2, none⟩ = some (.int .u64 1) := Ext.made hV 2 _ rfl
  have z3 : ∀ x : Ext V, x.w.cell? ⟨w.heap.size, 3, none⟩ = some (.slice none 0 0) := Ext.made hV 3 _ rfl
  have HB := Lib.hid (show Below w.heap.size w V by rw [← hV]; (repeat (first | exact Below.refl _ _ | assumption | refine below_new ?_ _ | refine Below.drew ?_ | refine below_drewN ?_ _ | refine below_on ?_ (by assumption))))
  clear hV
  refine (smay0 _).mono ?_; rintro _ w1 ⟨rfl, hb1⟩
  have c0 := z0 ⟨w1, hb1⟩
  simp only at c0
  go_wp2_with fail
  refine (sput [] 1 1 (.slice none 0 0) w1 w1.heap.size ⟨rfl, .inl ⟨rfl, rfl⟩⟩ (Nat.le_refl _) (by decide) (by decide) (by decide) (by decide)).mono ?_; rintro _ w2 ⟨v1, rfl, o1, hb2⟩
  have hv2 := below_on hb1 hb2
  have c1 := z1 ⟨w2, hv2⟩
  simp only at c1
  clear c0
  go_wp2_with fail
  refine (sput _ 2 7 v1 w2 w1.heap.size o1 hb2.size (by decide) (by decide) (by decide) (by decide)).mono ?_; rintro _ w3 ⟨v2, rfl, o2, hb3⟩
  have hb3 := hb2.trans hb3
  have hv3 := below_on hb1 hb3
  have c2 := z2 ⟨w3, hv3⟩
  simp only at c2
  clear c1
  go_wp2_with fail
  refine (sput _ 8 1 v2 w3 w1.heap.size o2 hb3.size (by decide) (by decide) (by decide) (by decide)).mono ?_; rintro _ w4 ⟨v3, rfl, o3, hb4⟩
  have hb4 := hb3.trans hb4
  have hv4 := below_on hb1 hb4
  have c3 := z3 ⟨w4, hv4⟩
  simp only at c3
  have HO := Lib.hid (show OwnB w4 w1.heap.size v3 [1, 7, 0, 1, 0, 0, 0, 0, 0, 0, 0] from o3)
  have HF := Lib.hid (below_on HB.out hv4)
  clear c2 z0 z1 z2 z3 o1 o2 o3 hb1 hb2 hb3 hb4 hv2 hv3 hv4
  go_wp2_with fail
  refine wp_loop_rounds 1 ?_
  rw [rounds_succ]
  go_wp2_with fail
  (try go_ret2)
  rw [HQ.out]
  exact ⟨_, _, rfl, HO.out, HF.out⟩
end Go.Proofs.Ytnikggdnlijkkaa
