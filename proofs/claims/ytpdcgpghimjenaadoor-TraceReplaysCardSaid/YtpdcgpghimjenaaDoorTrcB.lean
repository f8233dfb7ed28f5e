/- Layer 40: the chapter's example. -/
import Derived.Test.YtpdcgpghimjenaaDoorTrcA
import Derived.Test.YtpdcgpghimjenaaDoorFrame
import Derived.Deep.Cut
namespace Go.Proofs.YtpdcgpghimjenaaDoor
open Go.RowKit
set_option linter.unusedVariables false
set_option linter.unusedSimpArgs false
theorem pwhat_yes (T S : Int) (b : Nat) (a : Int) (w : World) (h : isW T S a = true) (x0 : w.cell? ⟨b, 0, none⟩ = some (.int .i64 T)) (x1 : w.cell? ⟨b, 1, none⟩ = some (.int .i64 S)) (t1 : 1 ≤ T) (t2 : T ≤ 6) (s1 : 7 ≤ S) (s2 : S ≤ 250) :
    Calls Tryd.prog 16 #[.pointer (some ⟨b, 0, none⟩), .int .i64 a] w fun e w' => e = .returned (.tuple #[.agg #[.int .i64 (wk T a), .int .i64 (wi T a), .int .i64 (wj T a)], .bool true]) ∧ Below w.heap.size w w' := by
  have := pwhat_calls T S b a w x0 x1 t1 t2 s1 s2
  rw [h] at this; simpa only [if_true] using this
theorem small_12 (i : Int) (h : i = 1 ∨ i = 2) (w : World) : Calls Tryd.prog 35 #[.int .i64 i] w fun e w' => e = .returned (.string ⟨#[48 + i.toNat.toUInt8]⟩) ∧ Below w.heap.size w w' := by
  rcases h with rfl | rfl
  · go_enter Tryd.func35, Tryd.ntmps35
    go_wp2_with fail
    (try go_ret)
    exact ⟨rfl, Below.refl _ _⟩
  · go_enter Tryd.func35, Tryd.ntmps35
    go_wp2_with fail
    (try go_ret)
    exact ⟨rfl, Below.refl _ _⟩
theorem fmt_12 (i : Int) (h : i = 1 ∨ i = 2) (w : World) : Calls Tryd.prog 33 #[.int .i64 i, .int .i64 10] w fun e w' => e = .returned (.string ⟨#[48 + i.toNat.toUInt8]⟩) ∧ Below w.heap.size w w' := by
  have S := Lib.hid (small_12 i h)
  have h0 : 0 ≤ i := by omega
  have h1 : i < 100 := by omega
  clear h
  go_enter Tryd.func33, Tryd.ntmps33
  go_wp2_with fail
  refine (S.out _).mono ?_; rintro _ z ⟨rfl, hb⟩
  go_wp2_with fail
  (try go_ret)
  exact ⟨rfl, hb⟩
theorem itoa_12 (i : Int) (h : i = 1 ∨ i = 2) (w : World) : Calls Tryd.prog 17 #[.int .i64 i] w fun e w' => e = .returned (.string ⟨#[48 + i.toNat.toUInt8]⟩) ∧ Below w.heap.size w w' := by
  go_enter Tryd.func17, Tryd.ntmps17
  go_wp2_with fail
  have I : Calls Tryd.prog 30 #[.int .i64 i] w fun e w' => e = .returned (.string ⟨#[48 + i.toNat.toUInt8]⟩) ∧ Below w.heap.size w w' := by
    go_enter Tryd.func30, Tryd.ntmps30
    go_wp2_with fail
    refine (fmt_12 i h _).mono ?_; rintro _ z ⟨rfl, hb⟩
    go_wp2_with fail
    (try go_ret)
    exact ⟨rfl, hb⟩
  refine I.mono ?_; rintro _ z ⟨rfl, hb⟩
  go_wp2_with fail
  (try go_ret)
  exact ⟨rfl, hb⟩
theorem field_2 (w : World) : Calls Tryd.prog 18 #[.int .i64 2] w fun e w' => e = .returned (.string ⟨#[105, 110, 102, 111]⟩) ∧ Below w.heap.size w w' := by
  go_enter Tryd.func18, Tryd.ntmps18
  go_wp2_with fail
  (try go_ret)
  exact ⟨rfl, by (repeat (first | exact Below.refl _ _ | assumption | refine below_new ?_ _ | refine Below.drew ?_ | refine below_drewN ?_ _ | refine below_on ?_ (by assumption)))⟩
set_option maxHeartbeats 2000000 in
theorem name_13 (b : Nat) (w : World) (x0 : w.cell? ⟨b, 0, none⟩ = some (.int .i64 1)) (x1 : w.cell? ⟨b, 1, none⟩ = some (.int .i64 7)) :
    Calls Tryd.prog 5 #[.pointer (some ⟨b, 0, none⟩), .int .i64 13] w fun e w' => e = .returned (.string ⟨#[115, 108, 111, 116, 32, 49, 32, 105, 110, 102, 111]⟩) ∧ Below w.heap.size w w' := by
  refine Calls.veil fun Q HQ => ?_
  go_enter Tryd.func5, Tryd.ntmps5
  go_wp2_with fail
  refine (pwhat_yes 1 7 b 13 _ (by decide) x0 x1 (by decide) (by decide) (by decide) (by decide)).mono ?_; rintro _ z1 ⟨rfl, hb1⟩
  have e1 : wk 1 13 = 5 := by decide
  have e2 : wi 1 13 = 1 := by decide
  have e3 : wj 1 13 = 2 := by decide
  rw [e1, e2, e3]
  have HB1 := Lib.hid hb1
  clear hb1 e1 e2 e3 x0 x1
  go_upto_region 4 with fail
  generalize hV : World.alloc z1 _ = V
  have HBV := Lib.hid (show Below w.heap.size w V by rw [← hV]; exact below_new HB1.out _)
  have y0 : V.cell? ⟨z1.heap.size, 0, none⟩ = some (.int .i64 5) := Ext.made hV 0 _ rfl ⟨V, Below.refl _ _⟩
  have y1 : V.cell? ⟨z1.heap.size, 1, none⟩ = some (.int .i64 1) := Ext.made hV 1 _ rfl ⟨V, Below.refl _ _⟩
  have y2 : V.cell? ⟨z1.heap.size, 2, none⟩ = some (.int .i64 2) := Ext.made hV 2 _ rfl ⟨V, Below.refl _ _⟩
  clear hV
  have y0 := Ext.cells y0; have y1 := Ext.cells y1; have y2 := Ext.cells y2
  (with_reducible refine wp_region_mix (fun w' => ∃ y : Ext V, w' = y.w) ?_ ?_ ?_ ?_; kernel_rfl; kernel_rfl; exact ⟨⟨V.drew, (Below.refl _ _).drew⟩, rfl⟩)
  repeat (first | ((with_reducible refine mix_skip (by kernel_rfl) ?_); go_big_quiet_skip; (with_reducible refine mix_on ?_)) | ((with_reducible refine mix_plain (by kernel_rfl) ?_); (first | go_big_quiet_skip | (go_big_quiet_want; go_big_quiet_op; go_big_quiet_on)); (with_reducible refine mix_on ?_)))
  ((with_reducible refine wpMix_chain (by kernel_rfl) (by kernel_rfl) (fun K HK => ?_)); go_step)
  refine (itoa_12 1 (.inl rfl) _).mono ?_; rintro _ z8 ⟨rfl, hb2⟩
  have HZ8 := Lib.hid (show Below V.heap.size V z8 from below_on (Below.refl _ _).drew hb2)
  refine HK.out _ _ ⟨⟨z8, HZ8.out⟩, rfl⟩ ?_
  clear HK K hb2
  repeat (first | ((with_reducible refine mix_skip (by kernel_rfl) ?_); go_big_quiet_skip; (with_reducible refine mix_on ?_)) | ((with_reducible refine mix_plain (by kernel_rfl) ?_); (first | go_big_quiet_skip | (go_big_quiet_want; go_big_quiet_op; go_big_quiet_on)); (with_reducible refine mix_on ?_)))
  ((with_reducible refine wpMix_chain (by kernel_rfl) (by kernel_rfl) (fun K HK => ?_)); go_step)
  refine (itoa_12 2 (.inr rfl) _).mono ?_; rintro _ z9 ⟨rfl, hb2⟩
  have HZ9 := Lib.hid (show Below V.heap.size V z9 from below_on HZ8.out hb2)
  refine HK.out _ _ ⟨⟨z9, HZ9.out⟩, rfl⟩ ?_
  clear HK K hb2
  repeat (first | ((with_reducible refine mix_skip (by kernel_rfl) ?_); go_big_quiet_skip; (with_reducible refine mix_on ?_)) | ((with_reducible refine mix_plain (by kernel_rfl) ?_); (first | go_big_quiet_skip | (go_big_quiet_want; go_big_quiet_op; go_big_quiet_on)); (with_reducible refine mix_on ?_)))
  refine wpMix_nil ?_
  have y0 := y0 ⟨z9, HZ9.out⟩; have y1 := y1 ⟨z9, HZ9.out⟩; have y2 := y2 ⟨z9, HZ9.out⟩
  simp only at y0 y1 y2
  go_wp2_with fail
  refine (field_2 _).mono ?_; rintro _ z10 ⟨rfl, hb2⟩
  have HF := Lib.hid (below_on (below_on HBV.out HZ9.out) hb2)
  clear hb2
  go_wp2_with fail
  trace_state
  (try go_ret)
  rw [HQ.out]
  exact ⟨rfl, HF.out⟩
theorem lives40_calls (w : World) : Calls Tryd.prog 6 #[] w fun e w' => e = .returned (.bool true) ∧ Below w.heap.size w w' := by
  refine Calls.veil fun Q HQ => ?_
  go_enter Tryd.func6, Tryd.ntmps6
  go_wp2_with fail
  refine (pnew_yes 1 7 5 _ (by decide)).mono ?_; rintro _ z1 ⟨b, rfl, _, hh, hb1⟩
  have x0 : z1.cell? ⟨b, 0, none⟩ = some (.int .i64 1) := by rw [cell_of_row _ _ _ _ _ (0, 0) hh]; rfl
  have x1 : z1.cell? ⟨b, 1, none⟩ = some (.int .i64 7) := by rw [cell_of_row _ _ _ _ _ (0, 0) hh]; rfl
  have HB1 := Lib.hid hb1
  have NM := Lib.hid (name_13 b z1 x0 x1)
  clear hh hb1 x0 x1
  go_wp2_with fail
  refine (NM.out).mono ?_; rintro _ z2 ⟨rfl, hb2⟩
  have HF := Lib.hid (below_on HB1.out hb2)
  clear hb2
  go_wp2_with fail
  (try go_ret)
  rw [HQ.out]
  exact ⟨rfl, HF.out⟩
end Go.Proofs.YtpdcgpghimjenaaDoor
