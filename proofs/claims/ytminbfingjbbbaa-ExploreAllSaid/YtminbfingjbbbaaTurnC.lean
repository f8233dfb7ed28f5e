/- Layer 36: the chapter's example, a schedule. -/
import Derived.Test.YtminbfingjbbbaaTurnB
namespace Go.Proofs.Ytminbfingjbbbaa
open Go.RowKit
set_option linter.unusedVariables false
set_option linter.unusedSimpArgs false
theorem PR.first {w : World} {g c : Nat} {k x : Int} {l : PL} {n : Nat} (h : PR w (.slice (some ⟨g, 0, none⟩) n c) ((k, x) :: l)) : w.cell? ⟨g, 0, none⟩ = some (.int .i64 k) ∧ w.cell? ⟨g, 1, none⟩ = some (.int .i64 x) := by
  cases h with
  | row _ _ _ _ _ _ h3 => have := h3 0 (by simp); simpa [ky, vl] using this
set_option maxHeartbeats 2000000 in
theorem eat (w : World) : Calls Try.prog 11 #[.int .i64 2, .int .i64 1, .int .i64 2, .int .i64 1] w fun e w' => ∃ v, e = .returned (.tuple #[v, .bool true]) ∧ PR w' v [(1, 1), (0, 1)] ∧ Below w.heap.size w w' := by
  refine Calls.veil fun Q HQ => ?_
  go_enter Try.func11, Try.ntmps11
  go_wp2_with fail
  refine (ecount w).mono ?_; rintro _ _ ⟨rfl, rfl⟩
  go_wp2_with fail
  refine wp_loop_rounds 3 ?_
  rw [rounds_succ]
  go_wp2_with fail
  refine (ebehind1 _).mono ?_; rintro _ w0 ⟨rfl, rfl⟩
  go_upto_region 8 with fail
  (with_reducible refine wp_region_mix (fun _ => True) ?_ ?_ ?_ ?_; kernel_rfl; kernel_rfl; exact trivial)
  repeat (first | ((with_reducible refine mix_plain (by kernel_rfl) ?_); (first | go_big_quiet_skip | (go_big_quiet_want; go_big_quiet_op; go_big_quiet_on)); (with_reducible refine mix_on ?_)) | ((with_reducible refine mix_skip (by kernel_rfl) ?_); go_big_quiet_skip; (with_reducible refine mix_on ?_)))
  ((with_reducible refine wpMix_chain (by kernel_rfl) (by kernel_rfl) (fun K HK => ?_)); go_step)
  refine HK.out _ _ trivial ?_
  clear HK K
  repeat (first | ((with_reducible refine mix_plain (by kernel_rfl) ?_); (first | go_big_quiet_skip | (go_big_quiet_want; go_big_quiet_op; go_big_quiet_on)); (with_reducible refine mix_on ?_)) | ((with_reducible refine mix_skip (by kernel_rfl) ?_); go_big_quiet_skip; (with_reducible refine mix_on ?_)))
  ((with_reducible refine wpMix_chain (by kernel_rfl) (by kernel_rfl) (fun K HK => ?_)); go_step)
  refine HK.out _ _ trivial ?_
  clear HK K
  refine wpMix_nil ?_
  generalize hV : World.drew _ = V
  have HVC := Lib.hid (show V.heap[w0.heap.size]? = some (.cells #[.int .i64 1, .int .i64 1] 39 (0, 0)) by rw [← hV]; exact heap_alloc_new w0 _)
  have HVB := Lib.hid (show Below w0.heap.size w0 V by rw [← hV]; exact ((Below.refl _ _).alloc (Nat.le_refl _) _).drew)
  clear hV
  generalize hpb : w0.heap.size = pb at HVC
  clear hpb
  go_upto_region 11 with fail
  (with_reducible refine wp_region_mix (fun _ => True) ?_ ?_ ?_ ?_; kernel_rfl; kernel_rfl; exact trivial)
  repeat (first | ((with_reducible refine mix_plain (by kernel_rfl) ?_); (first | go_big_quiet_skip | (go_big_quiet_want; go_big_quiet_op; go_big_quiet_on)); (with_reducible refine mix_on ?_)) | ((with_reducible refine mix_skip (by kernel_rfl) ?_); go_big_quiet_skip; (with_reducible refine mix_on ?_)))
  refine wpMix_nil ?_
  have HVC2 := Lib.hid (show V.drew.heap[pb]? = some (.cells #[.int .i64 1, .int .i64 1] 39 (0, 0)) from HVC.out)
  have HVB2 := Lib.hid (show Below w0.heap.size w0 V.drew from HVB.out.drew)
  generalize V.drew = U at *
  clear HVC HVB
  have c0 : U.cell? ⟨pb, 0, none⟩ = some (.int .i64 1) := by rw [cell_of_row _ pb _ _ _ (0, 0) HVC2.out]; rfl
  have c1 : U.cell? ⟨pb, 1, none⟩ = some (.int .i64 1) := by rw [cell_of_row _ pb _ _ _ (0, 0) HVC2.out]; rfl
  go_wp2_with (at_builtin; go_loud (refine wpList_append_pr rfl (.tmp 69) (.tmp 71) rfl w0.heap.size _ [] rfl (own_nil _ _) _ [(1, 1)] rfl PR.single (by simp) (by have := HVB2.out.size; simp; omega) ?_))
  intro v1 w1 hown hg
  have HB1 := Lib.hid (grow_step (W := w0) (own_nil _ _) (HVB2.out.alloc HVB2.out.size _) (Nat.le_refl _) hg)
  obtain ⟨g, cp, rfl⟩ : ∃ g c, v1 = .slice (some ⟨g, 0, none⟩) 1 c := by
    rcases hown.2 with ⟨rfl, h0⟩ | ⟨g, cap, cur, hv, _⟩
    · simp at h0
    · exact ⟨g, cap, hv⟩
  have HO1 := Lib.hid hown
  clear hown hg c0 c1 HVC2 HVB2
  go_wp2_with fail
  rw [rounds_succ]
  go_wp2_with fail
  refine (ebehind0 _).mono ?_; rintro _ w2 ⟨rfl, rfl⟩
  go_upto_region 8 with fail
  (with_reducible refine wp_region_mix (fun _ => True) ?_ ?_ ?_ ?_; kernel_rfl; kernel_rfl; exact trivial)
  repeat (first | ((with_reducible refine mix_plain (by kernel_rfl) ?_); (first | go_big_quiet_skip | (go_big_quiet_want; go_big_quiet_op; go_big_quiet_on)); (with_reducible refine mix_on ?_)) | ((with_reducible refine mix_skip (by kernel_rfl) ?_); go_big_quiet_skip; (with_reducible refine mix_on ?_)))
  ((with_reducible refine wpMix_chain (by kernel_rfl) (by kernel_rfl) (fun K HK => ?_)); go_step)
  refine HK.out _ _ trivial ?_
  clear HK K
  repeat (first | ((with_reducible refine mix_plain (by kernel_rfl) ?_); (first | go_big_quiet_skip | (go_big_quiet_want; go_big_quiet_op; go_big_quiet_on)); (with_reducible refine mix_on ?_)) | ((with_reducible refine mix_skip (by kernel_rfl) ?_); go_big_quiet_skip; (with_reducible refine mix_on ?_)))
  ((with_reducible refine wpMix_chain (by kernel_rfl) (by kernel_rfl) (fun K HK => ?_)); go_step)
  refine HK.out _ _ trivial ?_
  clear HK K
  refine wpMix_nil ?_
  generalize hV : World.drew _ = V
  have HVC := Lib.hid (show V.heap[w2.heap.size]? = some (.cells #[.int .i64 0, .int .i64 1] 39 (0, 0)) by rw [← hV]; exact heap_alloc_new w2 _)
  have HVB := Lib.hid (show Below w0.heap.size w0 V by rw [← hV]; exact (HB1.out.alloc HB1.out.size _).drew)
  have HO2 := Lib.hid (show OwnP V w0.heap.size (.slice (some ⟨g, 0, none⟩) 1 cp) [(1, 1)] by rw [← hV]; exact HO1.out.alloc _)
  clear hV
  generalize hpb : w2.heap.size = pb2 at HVC
  clear hpb
  obtain ⟨d0, d1⟩ := (own_PR HO2.out).first
  have z0 : ∀ y : Ext V, y.w.cell? ⟨pb2, 0, none⟩ = some (.int .i64 0) := Ext.cells (by rw [cell_of_row _ pb2 _ _ _ (0, 0) HVC.out]; rfl)
  have z1 : ∀ y : Ext V, y.w.cell? ⟨g, 0, none⟩ = some (.int .i64 1) := Ext.cells d0
  clear d0 d1
  go_upto_region 11 with fail
  (with_reducible refine wp_region_mix (fun w' => ∃ y : Ext V, w' = y.w) ?_ ?_ ?_ ?_; kernel_rfl; kernel_rfl; exact ⟨⟨V.drew, (Below.refl _ _).drew⟩, rfl⟩)
  repeat (first | ((with_reducible refine mix_plain (by kernel_rfl) ?_); (first | go_big_quiet_skip | (go_big_quiet_want; go_big_quiet_op; go_big_quiet_on)); (with_reducible refine mix_on ?_)) | ((with_reducible refine mix_skip (by kernel_rfl) ?_); go_big_quiet_skip; (with_reducible refine mix_on ?_)))
  refine wpMix_nil ?_
  clear z0 z1
  have HVC2 := Lib.hid (show V.drew.heap[pb2]? = some (.cells #[.int .i64 0, .int .i64 1] 39 (0, 0)) from HVC.out)
  have HVB2 := Lib.hid (show Below w0.heap.size w0 V.drew from HVB.out.drew)
  have HO3 := Lib.hid (show OwnP V.drew w0.heap.size (.slice (some ⟨g, 0, none⟩) 1 cp) [(1, 1)] from HO2.out)
  generalize V.drew = U2 at *
  clear HVC HVB HO2 HO1
  have c0 : U2.cell? ⟨pb2, 0, none⟩ = some (.int .i64 0) := by rw [cell_of_row _ pb2 _ _ _ (0, 0) HVC2.out]; rfl
  have c1 : U2.cell? ⟨pb2, 1, none⟩ = some (.int .i64 1) := by rw [cell_of_row _ pb2 _ _ _ (0, 0) HVC2.out]; rfl
  go_wp2_with (at_builtin; go_loud (refine wpList_append_pr rfl (.tmp 69) (.tmp 71) rfl w0.heap.size _ [(1, 1)] rfl (HO3.out.alloc _) _ [(0, 1)] rfl PR.single (by simp) (by have := HVB2.out.size; simp; omega) ?_))
  intro v2 w3 hown hg
  have HB3 := Lib.hid (grow_step (W := w0) (HO3.out.alloc _) (HVB2.out.alloc HVB2.out.size _) (Nat.le_refl _) hg)
  have HP := Lib.hid (own_PR hown)
  clear hown hg c0 c1
  go_wp2_with fail
  rw [rounds_succ]
  go_wp2_with fail
  (try go_ret)
  rw [HQ.out]
  exact ⟨_, rfl, HP.out, HB3.out⟩
end Go.Proofs.Ytminbfingjbbbaa
