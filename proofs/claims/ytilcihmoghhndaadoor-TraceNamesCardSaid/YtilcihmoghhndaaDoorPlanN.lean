/- Layer 5: a plan that isn't there; the reference's May. -/
import Derived.Test.YtilcihmoghhndaaDoorPlanC
import Derived.Deep.Cut
namespace Go.Proofs.YtilcihmoghhndaaDoor
open Go.RowKit
set_option linter.unusedVariables false
set_option linter.unusedSimpArgs false

theorem pnwords_calls (w : World) : Calls Tryd.prog 23 #[.pointer none] w fun e w' => e = .returned (.int .i64 0) ∧ Below w.heap.size w w' := by
  go_enter Tryd.func23, Tryd.ntmps23
  go_wp2
  go_ret
  exact ⟨rfl, by (repeat (first | exact Below.refl _ _ | assumption | refine below_new ?_ _ | refine Below.drew ?_ | refine below_drewN ?_ _ | refine below_on ?_ (by assumption)))⟩
theorem pnwhat_calls (a : Int) (w : World) : Calls Tryd.prog 13 #[.pointer none, .int .i64 a] w fun e w' => e = .returned (.tuple #[.agg #[.int .i64 0, .int .i64 0, .int .i64 0], .bool false]) ∧ Below w.heap.size w w' := by
  rcases (by omega : a < 0 ∨ 0 ≤ a) with h | h
  all_goals
    go_enter Tryd.func13, Tryd.ntmps13
    go_upto_region 1 with (fail)
    generalize hV : World.alloc w _ = V
    have hBV : Below w.heap.size w V := by rw [← hV]; (repeat (first | exact Below.refl _ _ | assumption | refine below_new ?_ _ | refine Below.drew ?_ | refine below_drewN ?_ _ | refine below_on ?_ (by assumption)))
    have f0 := Ext.made_free hV 0; have f1 := Ext.made_free hV 1; have f2 := Ext.made_free hV 2
    have c0 : ∀ x : Ext V, x.w.cell? ⟨w.heap.size, 0, none⟩ = some (.int .i64 0) := Ext.made hV 0 _ rfl
    have c1 : ∀ x : Ext V, x.w.cell? ⟨w.heap.size, 1, none⟩ = some (.int .i64 0) := Ext.made hV 1 _ rfl
    have c2 : ∀ x : Ext V, x.w.cell? ⟨w.heap.size, 2, none⟩ = some (.int .i64 0) := Ext.made hV 2 _ rfl
    clear hV
    obtain ⟨x, hx⟩ : ∃ x : Ext V, x.w = V := ⟨⟨V, Below.refl _ _⟩, rfl⟩; rw [← hx]; clear hx
    go_wp2_with (first | (go_at_call 23; refine (Ext.step (pnwords_calls _)).mono ?_; rintro _ _ ⟨rfl, _, rfl⟩) | (go_at_call 13; refine (Ext.step (pnwhat_calls _ _)).mono ?_; rintro _ _ ⟨rfl, _, rfl⟩) | (go_at_call 7; refine (Ext.step (rmay_calls _ _ _ _)).mono ?_; rintro _ _ ⟨rfl, _, rfl⟩) | (with_reducible refine ext_region _ ?_ ?_ ?_; kernel_rfl; kernel_rfl; (repeat (go_big_quiet_step (first | (go_at_call 23; refine Ext.call (pnwords_calls _) <;> omega) | (go_at_call 13; refine Ext.call (pnwhat_calls _ _) <;> omega) | (go_at_call 7; refine Ext.call (rmay_calls _ _ _ _) <;> omega)))); refine wpQuiet_nil ?_; rintro _ ⟨_, rfl⟩))
    exact bodyPost_ret (v := .tuple #[.agg #[.int .i64 0, .int .i64 0, .int .i64 0], .bool false]) (by simp [results, Tryd.results13, go_sem, c0, c1, c2, World.cell?_setCell_same, World.cell?_setCell_other]) rfl ⟨rfl, below_set (below_set (below_set (Ext.below hBV _) (by omega) _) (by omega) _) (by omega) _⟩
theorem rmay_calls (T S K : Int) (w : World) : Calls Tryd.prog 7 #[.agg #[.int .i64 T, .int .i64 S, .int .u64 K]] w fun e w' => e = .returned (.bool (mayC T S K)) ∧ Below w.heap.size w w' := by
  rcases (by omega : T < 1 ∨ (1 ≤ T ∧ 6 < T) ∨ (1 ≤ T ∧ T ≤ 6 ∧ S < 7) ∨ (1 ≤ T ∧ T ≤ 6 ∧ 7 ≤ S ∧ 250 < S) ∨ (1 ≤ T ∧ T ≤ 6 ∧ 7 ≤ S ∧ S ≤ 250 ∧ K < 1) ∨ (1 ≤ T ∧ T ≤ 6 ∧ 7 ≤ S ∧ S ≤ 250 ∧ 1 ≤ K ∧ 1099511627776 < K) ∨ (1 ≤ T ∧ T ≤ 6 ∧ 7 ≤ S ∧ S ≤ 250 ∧ 1 ≤ K ∧ K ≤ 1099511627776)) with h1 | ⟨h1, h2⟩ | ⟨h1, h2, h3⟩ | ⟨h1, h2, h3, h4⟩ | ⟨h1, h2, h3, h4, h5⟩ | ⟨h1, h2, h3, h4, h5, h6⟩ | ⟨h1, h2, h3, h4, h5, h6⟩
  all_goals
    first
      | have HM := Lib.hid (show mayC T S K = true from decide_eq_true ⟨h1, h2, h3, h4, h5, h6⟩)
      | have HM := Lib.hid (show mayC T S K = false from decide_eq_false (by omega))
    go_enter Tryd.func7, Tryd.ntmps7
    go_wp2
    go_ret
    exact ⟨by rw [HM.out]; first | rfl | (simp; done) | (simp; omega), by (repeat (first | exact Below.refl _ _ | assumption | refine below_new ?_ _ | refine Below.drew ?_ | refine below_drewN ?_ _ | refine below_on ?_ (by assumption)))⟩
end Go.Proofs.YtilcihmoghhndaaDoor
