/- Layer 8: the walk of PairsCuts. -/
import Derived.Test.YtjeoiieglecdbaaPairL
namespace Go.Proofs.Ytjeoiieglecdbaa
open Go.RowKit
set_option linter.unusedVariables false
set_option linter.unusedSimpArgs false

set_option maxHeartbeats 4000000 in
set_option maxRecDepth 100000 in
theorem pairsCuts_walk (v0 v1 v2 : Value) (w : World) (s0 : Fr.ok1 w (.slice [.int .i64, .int .i64]) v0) (s1 : Fr.okN w [.int .i64, .int .i64] v1) (s2 : Fr.ok1 w (.int .i64) v2) :
    Calls Try.prog 5 #[v0, v1, v2] w fun e w' => e = .returned (.bool true) ∧ Below w.heap.size w w' := by
  obtain ⟨limit, rfl, _⟩ := Fr.get_int s2
  obtain ⟨cs, rfl, hcs⟩ := s1
  obtain ⟨lo, hi, rfl⟩ := pair_cells hcs
  obtain ⟨l, hP⟩ := pairs_open s0
  have HP := Lib.hid hP
  obtain ⟨p, c, rfl, hc1, hc2⟩ := hP.slice
  clear s0 s2 hP hcs
  show Calls Try.prog _ #[_, .agg #[.int .i64 lo, .int .i64 hi], _] w _
  refine Calls.veil fun Q HQ => ?_
  rcases (by omega : 300 < l.length ∨ l.length ≤ 300) with hl | hl
  · go_enter Try.func5, Try.ntmps5
    go_wp2_with fail
    refine (lives8_calls _).mono ?_; rintro _ w2 ⟨rfl, hb⟩
    have hb := below_on (below_new (Below.refl w.heap.size w) _) hb
    go_wp2_with fail
    (try go_ret)
    rw [HQ.out]
    exact ⟨ret_bool rfl, hb⟩
  · cases hr : riseB l
    · go_enter Try.func5, Try.ntmps5
      have HR := Lib.hid hr
      clear hr
      go_wp2_with fail
      refine (rrises l _ _ (HP.out.alloc _) (by omega)).mono ?_; rintro _ w1 ⟨rfl, hb1⟩
      rw [HR.out]
      have hb1 := below_on (below_new (Below.refl w.heap.size w) _) hb1
      go_wp2_with fail
      refine (lives8_calls _).mono ?_; rintro _ w2 ⟨rfl, hb⟩
      have hb := below_on hb1 hb
      go_wp2_with fail
      (try go_ret)
      rw [HQ.out]
      exact ⟨ret_bool rfl, hb⟩
    · go_enter Try.func5, Try.ntmps5
      have HR := Lib.hid hr
      clear hr
      go_wp2_with fail
      generalize hW : World.alloc w _ = W
      have hBW : Below w.heap.size w W := by rw [← hW]; (repeat (first | exact Below.refl _ _ | assumption | refine below_new ?_ _ | refine Below.drew ?_ | refine below_drewN ?_ _ | refine below_on ?_ (by assumption)))
      have hC : Cell2 W w.heap.size lo hi := by rw [← hW]; exact Cell2.new w lo hi _
      clear hW
      refine (rrises l _ W (HP.out.below hBW) (by omega)).mono ?_; rintro _ w1 ⟨rfl, hb1⟩
      rw [HR.out]
      have hC := hC.below hb1
      have z0 : ∀ y : Ext w1, y.w.cell? ⟨w.heap.size, 0, none⟩ = some (.int .i64 lo) := Ext.cells hC.c0
      have z1 : ∀ y : Ext w1, y.w.cell? ⟨w.heap.size, 1, none⟩ = some (.int .i64 hi) := Ext.cells hC.c1
      have HB := Lib.hid (below_on hBW hb1)
      clear hBW hb1 hC
      go_wp2_with fail
      (with_reducible refine wp_region_mix (fun w' => ∃ y : Ext w1, w' = y.w) ?_ ?_ ?_ ?_; kernel_rfl; kernel_rfl; exact ⟨⟨w1.drew, (Below.refl _ _).drew⟩, rfl⟩)
      repeat (first | ((with_reducible refine mix_plain (by kernel_rfl) ?_); (first | go_big_quiet_skip | (go_big_quiet_want; go_big_quiet_op; go_big_quiet_on)); (with_reducible refine mix_on ?_)) | ((with_reducible refine mix_skip (by kernel_rfl) ?_); go_big_quiet_skip; (with_reducible refine mix_on ?_)))
      ((with_reducible refine wpMix_chain (by kernel_rfl) (by kernel_rfl) (fun K HK => ?_)); go_step)
      have hd : Below w1.heap.size w1 w1.drew := (Below.refl _ _).drew
      refine (pcut l _ lo hi limit w1.drew ((HP.out.below HB.out).below hd) HR.out (by omega)).mono ?_; rintro _ w2 ⟨va, rfl, hA, hb2⟩
      have hb2 := below_on hd hb2
      have HA := Lib.hid hA
      refine HK.out _ _ ⟨⟨w2, hb2⟩, rfl⟩ ?_
      clear HK K hd hA
      repeat (first | ((with_reducible refine mix_plain (by kernel_rfl) ?_); (first | go_big_quiet_skip | (go_big_quiet_want; go_big_quiet_op; go_big_quiet_on)); (with_reducible refine mix_on ?_)) | ((with_reducible refine mix_skip (by kernel_rfl) ?_); go_big_quiet_skip; (with_reducible refine mix_on ?_)))
      ((with_reducible refine wpMix_chain (by kernel_rfl) (by kernel_rfl) (fun K HK => ?_)); go_step)
      refine (rcut l _ lo hi limit w2 ((HP.out.below HB.out).below hb2) (by omega)).mono ?_; rintro _ w3 ⟨vb, rfl, hB, hb3⟩
      have HA := Lib.hid (HA.out.below hb3)
      have hb3 := below_on hb2 hb3
      have HB' := Lib.hid hB
      refine HK.out _ _ ⟨⟨w3, hb3⟩, rfl⟩ ?_
      clear HK K hb2 hB
      repeat (first | ((with_reducible refine mix_plain (by kernel_rfl) ?_); (first | go_big_quiet_skip | (go_big_quiet_want; go_big_quiet_op; go_big_quiet_on)); (with_reducible refine mix_on ?_)) | ((with_reducible refine mix_skip (by kernel_rfl) ?_); go_big_quiet_skip; (with_reducible refine mix_on ?_)))
      ((with_reducible refine wpMix_chain (by kernel_rfl) (by kernel_rfl) (fun K HK => ?_)); go_step)
      refine (rsame _ _ _ _ w3 HA.out HB'.out (by have := cut_len l lo hi limit; omega)).mono ?_; rintro _ w4 ⟨rfl, hb4⟩
      have hb4 := below_on hb3 hb4
      rw [show sameB (cutL l lo hi limit) (cutL l lo hi limit) = true from decide_eq_true rfl]
      refine HK.out _ _ ⟨⟨w4, hb4⟩, rfl⟩ ?_
      clear HK K hb3
      repeat (first | ((with_reducible refine mix_plain (by kernel_rfl) ?_); (first | go_big_quiet_skip | (go_big_quiet_want; go_big_quiet_op; go_big_quiet_on)); (with_reducible refine mix_on ?_)) | ((with_reducible refine mix_skip (by kernel_rfl) ?_); go_big_quiet_skip; (with_reducible refine mix_on ?_)))
      ((with_reducible refine wpMix_chain (by kernel_rfl) (by kernel_rfl) (fun K HK => ?_)); go_step)
      refine (lives8_calls _).mono ?_; rintro _ w5 ⟨rfl, hb5⟩
      have hb5 := below_on hb4 hb5
      refine HK.out _ _ ⟨⟨w5, hb5⟩, rfl⟩ ?_
      clear HK K hb4
      repeat (first | ((with_reducible refine mix_plain (by kernel_rfl) ?_); (first | go_big_quiet_skip | (go_big_quiet_want; go_big_quiet_op; go_big_quiet_on)); (with_reducible refine mix_on ?_)) | ((with_reducible refine mix_skip (by kernel_rfl) ?_); go_big_quiet_skip; (with_reducible refine mix_on ?_)))
      refine wpMix_nil ?_
      have HF := Lib.hid (below_on HB.out hb5)
      clear z0 z1 hb5
      go_wp2_with fail
      (try go_ret)
      rw [HQ.out]
      exact ⟨ret_bool rfl, HF.out⟩
end Go.Proofs.Ytjeoiieglecdbaa
