/- Layer 16: the walk of CoreLays. -/
import Derived.Test.YtkkdehniheajeaaCorK
namespace Go.Proofs.Ytkkdehniheajeaa
open Go.RowKit WordM EdgeM
set_option linter.unusedVariables false
set_option linter.unusedSimpArgs false
set_option maxRecDepth 16000 in
set_option maxHeartbeats 8000000 in
theorem coreLays_walk (v0 v1 : Value) (w : World) (s0 : Fr.okN w [.int .i64, .int .i64, .int .u64] v0) (s1 : Fr.ok1 w (.int .i64) v1) :
    Calls Try.prog 3 #[v0, v1] w fun e w' => e = .returned (.bool true) ∧ Below w.heap.size w w' := by
  obtain ⟨cs, rfl, h⟩ := s0
  obtain ⟨_, _, rfl, k0, h⟩ := Fr.get_cons h
  obtain ⟨_, _, rfl, k1, h⟩ := Fr.get_cons h
  obtain ⟨_, _, rfl, k2, h⟩ := Fr.get_cons h
  obtain rfl := Fr.get_nil h
  obtain ⟨T, rfl, _⟩ := Fr.get_int k0
  obtain ⟨S, rfl, _⟩ := Fr.get_int k1
  obtain ⟨Kc, rfl, _⟩ := Fr.get_int k2
  obtain ⟨i, rfl, _⟩ := Fr.get_int s1
  clear k0 k1 k2 h s1
  show Calls Try.prog _ #[.agg #[.int .i64 T, .int .i64 S, .int .u64 Kc], _] w _
  refine Calls.veil fun Q HQ => ?_
  go_enter Try.func3, Try.ntmps3
  go_upto_region 1 with fail
  generalize hV : World.alloc _ _ = U
  obtain ⟨u0, hbu⟩ := Th.heapnewE hV
  obtain ⟨cb, hcb⟩ : ∃ cb, cb = w.heap.size := ⟨_, rfl⟩
  rw [← hcb] at u0 ⊢
  have HC := Lib.hid u0; have HBU := Lib.hid hbu
  clear hV u0 hbu hcb
  go_wp2_with fail
  refine (z_plan _).mono ?_; rintro _ w1 ⟨rfl, hb⟩
  have HB1 := Lib.hid (hb)
  clear hb
  go_wp2_with fail
  refine (z_mem _).mono ?_; rintro _ w2 ⟨rfl, hb⟩
  have HB2 := Lib.hid (below_on HB1.out hb)
  clear hb HB1
  go_wp2_with fail
  refine (z_guard _).mono ?_; rintro _ w3 ⟨rfl, hb⟩
  have HB3 := Lib.hid (below_on HB2.out hb)
  clear hb HB2
  go_wp2_with fail
  refine (z_thread _ i).mono ?_; rintro _ w4 ⟨rfl, hb⟩
  have HB4 := Lib.hid (below_on HB3.out hb)
  clear hb HB3
  go_wp2_with fail
  refine (z_threads _).mono ?_; rintro _ w5 ⟨rfl, hb⟩
  have HB5 := Lib.hid (below_on HB4.out hb)
  clear hb HB4
  go_wp2_with fail
  refine (z_steps _).mono ?_; rintro _ w6 ⟨rfl, hb⟩
  have HB6 := Lib.hid (below_on HB5.out hb)
  clear hb HB5
  go_wp2_with fail
  refine (z_fault _).mono ?_; rintro _ w7 ⟨rfl, hb⟩
  have HB7 := Lib.hid (below_on HB6.out hb)
  clear hb HB6
  go_wp2_with fail
  refine (z_clone _).mono ?_; rintro _ w8 ⟨rfl, hb⟩
  have HB8 := Lib.hid (below_on HB7.out hb)
  clear hb HB7
  go_wp2_with fail
  refine (z_step _ i _).mono ?_; rintro _ w9 ⟨rfl, hb⟩
  have HB9 := Lib.hid (below_on HB8.out hb)
  clear hb HB8
  have HC9 := Lib.hid (Th.up HB9.out HC.out)
  have HU9 := Lib.hid (below_on HBU.out HB9.out)
  have o0 := Th.newcell HC9.out 0 _ rfl; have o1 := Th.newcell HC9.out 1 _ rfl; have o2 := Th.newcell HC9.out 2 _ rfl
  clear HB9 HC HBU
  cases hmay : mayC T S Kc with
  | false =>
    have HM := Lib.hid hmay
    clear hmay
    go_wp2_with fail
    refine (cnew_no _ _ _ _ HM.out).mono ?_; rintro _ w10 ⟨rfl, hb⟩
    have o0 := Ext.use (Ext.cells o0) hb; have o1 := Ext.use (Ext.cells o1) hb; have o2 := Ext.use (Ext.cells o2) hb
    have HB10 := Lib.hid (below_on HU9.out hb)
    clear hb
    go_wp2_with fail
    refine (rmay_calls _ _ _ _).mono ?_; rintro _ w11 ⟨rfl, hb⟩
    rw [HM.out]
    have HB11 := Lib.hid (below_on HB10.out hb)
    clear hb o0 o1 o2
    go_wp2_with fail
    refine (lives16_calls _).mono ?_; rintro _ w12 ⟨rfl, hb⟩
    go_wp2_with fail
    (try go_ret)
    rw [HQ.out]
    exact ⟨by simp, below_on HB11.out hb⟩
  | true =>
    have hm := mayC_true hmay
    obtain ⟨t, rfl⟩ : ∃ t : Nat, T = t := ⟨T.toNat, by omega⟩
    obtain ⟨s, rfl⟩ : ∃ s : Nat, S = s := ⟨S.toNat, by omega⟩
    have HM := Lib.hid hmay
    have HBD := Lib.hid (show (1 ≤ t ∧ t ≤ 6) ∧ (7 ≤ s ∧ s ≤ 250) by omega)
    clear hmay hm
    go_wp2_with fail
    refine (cnew _ HM.out).mono ?_; rintro _ w10 ⟨q, pl, mb, mg, C, gq, gg, gm, fv, tq, rfl, hmi, hb⟩
    have HMI := Lib.hid hmi
    have o0 := Ext.use (Ext.cells o0) hb; have o1 := Ext.use (Ext.cells o1) hb; have o2 := Ext.use (Ext.cells o2) hb
    have HB10 := Lib.hid (below_on HU9.out hb)
    clear hb hmi HU9 HC9
    go_wp2_with fail
    refine (rmay_calls _ _ _ _).mono ?_; rintro _ w11 ⟨rfl, hb⟩
    rw [HM.out]
    have HMI11 := Lib.hid (HMI.out.below hb)
    have HB11 := Lib.hid (below_on HB10.out hb)
    have o0 : ∀ y : Ext w11, _ := Ext.cells (Ext.use (Ext.cells o0) hb); have o1 : ∀ y : Ext w11, _ := Ext.cells (Ext.use (Ext.cells o1) hb); have o2 : ∀ y : Ext w11, _ := Ext.cells (Ext.use (Ext.cells o2) hb)
    clear hb HMI HB10
    go_upto_region 7 with fail
    have hcq : ∀ w : World, (binOp .neq 24 (.agg #[.int .i64 t, .int .i64 s, .int .u64 Kc]) (.agg #[.int .i64 t, .int .i64 s, .int .u64 Kc])).run Try.prog w = .ok (.bool false) w := fun w => by clear o0 o1 o2; go_simp
    (with_reducible refine wp_region_mix (fun w' => ∃ y : Ext w11, w' = y.w) ?_ ?_ ?_ ?_; kernel_rfl; kernel_rfl; exact ⟨⟨w11.drew, (Below.refl _ _).drew⟩, rfl⟩)
    obtain ⟨y0, hy0⟩ : ∃ y : Ext w11, y.w = w11.drew := ⟨⟨w11.drew, (Below.refl _ _).drew⟩, rfl⟩
    rw [← hy0]
    clear hy0
    repeat (first | ((with_reducible refine mix_plain (by kernel_rfl) ?_); (first | go_big_quiet_skip | (go_big_quiet_want; go_big_quiet_op; go_big_quiet_on)); (with_reducible refine mix_on ?_)) | ((with_reducible refine mix_skip (by kernel_rfl) ?_); go_big_quiet_skip; (with_reducible refine mix_on ?_)))
    ((with_reducible refine wpMix_chain (by kernel_rfl) (by kernel_rfl) (fun K HK => ?_)); go_step)
    refine (crnew _ HM.out).mono ?_; rintro _ w12 ⟨wv, gb, gc, rfl, hwv, hsr, c1, c2, c3, hb12⟩
    have HWV := Lib.hid hwv; have HSR := Lib.hid hsr
    have hb12 := below_on y0.h hb12
    refine HK.out _ _ ⟨⟨w12, hb12⟩, rfl⟩ ?_
    clear HK K hwv hsr c3
    repeat (first | ((with_reducible refine mix_plain (by kernel_rfl) ?_); (first | go_big_quiet_skip | (go_big_quiet_want; go_big_quiet_op; go_big_quiet_on)); (with_reducible refine mix_on ?_)) | ((with_reducible refine mix_skip (by kernel_rfl) ?_); go_big_quiet_skip; (with_reducible refine mix_on ?_)))
    ((with_reducible refine wpMix_chain (by kernel_rfl) (by kernel_rfl) (fun K HK => ?_)); go_step)
    refine (lsame0 (HMI11.out.below hb12) HWV.out HSR.out c1 c2).mono ?_; rintro _ w13 ⟨rfl, hb13⟩
    have hb13 := below_on hb12 hb13
    obtain ⟨y1, hy1⟩ : ∃ y : Ext w11, y.w = w13 := ⟨⟨w13, hb13⟩, rfl⟩
    rw [← hy1]
    refine HK.out _ _ ⟨y1, rfl⟩ ?_
    clear HK K hb12 hb13 hy1 HWV HSR c1 c2
    repeat (first | ((with_reducible refine mix_plain (by kernel_rfl) ?_); (first | go_big_quiet_skip | (go_big_quiet_want; go_big_quiet_op; go_big_quiet_on)); (with_reducible refine mix_on ?_)) | ((with_reducible refine mix_skip (by kernel_rfl) ?_); go_big_quiet_skip; (with_reducible refine mix_on ?_)))
    ((with_reducible refine wpMix_chain (by kernel_rfl) (by kernel_rfl) (fun K HK => ?_)); go_step)
    refine (gThreads (HMI11.out.below y1.h)).mono ?_; rintro _ w6 ⟨rfl, hw6⟩
    rw [← hw6]
    refine HK.out _ _ ⟨y1, rfl⟩ ?_
    clear HK K hw6
    repeat (first | ((with_reducible refine mix_plain (by kernel_rfl) ?_); (first | go_big_quiet_skip | (go_big_quiet_want; go_big_quiet_op; go_big_quiet_on)); (with_reducible refine mix_on ?_)) | ((with_reducible refine mix_skip (by kernel_rfl) ?_); go_big_quiet_skip; (with_reducible refine mix_on ?_)))
    ((with_reducible refine wpMix_chain (by kernel_rfl) (by kernel_rfl) (fun K HK => ?_)); go_step)
    refine (gPlan (HMI11.out.below y1.h)).mono ?_; rintro _ w6 ⟨rfl, hw6⟩
    rw [← hw6]
    refine HK.out _ _ ⟨y1, rfl⟩ ?_
    clear HK K hw6
    repeat (first | ((with_reducible refine mix_plain (by kernel_rfl) ?_); (first | go_big_quiet_skip | (go_big_quiet_want; go_big_quiet_op; go_big_quiet_on)); (with_reducible refine mix_on ?_)) | ((with_reducible refine mix_skip (by kernel_rfl) ?_); go_big_quiet_skip; (with_reducible refine mix_on ?_)))
    ((with_reducible refine wpMix_chain (by kernel_rfl) (by kernel_rfl) (fun K HK => ?_)); go_step)
    refine (pconf_calls t s Kc pl _ (HMI11.out.below y1.h).p0 (HMI11.out.below y1.h).p1 (HMI11.out.below y1.h).p2).mono ?_; rintro _ w14 ⟨rfl, hb14⟩
    have hb14 := below_on y1.h hb14
    obtain ⟨y2, hy2⟩ : ∃ y : Ext w11, y.w = w14 := ⟨⟨w14, hb14⟩, rfl⟩
    rw [← hy2]
    refine HK.out _ _ ⟨y2, rfl⟩ ?_
    clear HK K hb14 hy2
    repeat (first | ((with_reducible refine mix_plain (by kernel_rfl) ?_); (first | go_big_quiet_skip | (go_big_quiet_want; go_big_quiet_op; go_big_quiet_on)); (with_reducible refine mix_on ?_)) | ((with_reducible refine mix_skip (by kernel_rfl) ?_); go_big_quiet_skip; (with_reducible refine mix_on ?_)))
    ((with_reducible refine wpMix_chain (by kernel_rfl) (by kernel_rfl) (fun K HK => ?_)); go_step)
    refine (gSteps (HMI11.out.below y2.h)).mono ?_; rintro _ w6 ⟨rfl, hw6⟩
    rw [← hw6]
    refine HK.out _ _ ⟨y2, rfl⟩ ?_
    clear HK K hw6
    repeat (first | ((with_reducible refine mix_plain (by kernel_rfl) ?_); (first | go_big_quiet_skip | (go_big_quiet_want; go_big_quiet_op; go_big_quiet_on)); (with_reducible refine mix_on ?_)) | ((with_reducible refine mix_skip (by kernel_rfl) ?_); go_big_quiet_skip; (with_reducible refine mix_on ?_)))
    refine wpMix_nil ?_
    obtain ⟨wz, hwz⟩ : ∃ wz, wz = y2.w := ⟨_, rfl⟩
    have o0 := o0 y2
    have HZ := Lib.hid (HMI11.out.below y2.h); have HBZ := Lib.hid (below_on HB11.out y2.h)
    rw [← hwz] at o0 HZ HBZ ⊢
    clear o1 o2 hcq hwz HMI11 HB11
    by_cases hi : 0 ≤ i ∧ i < t
    · obtain ⟨k, rfl⟩ : ∃ k : Nat, i = k := ⟨i.toNat, by omega⟩
      have hk : k < t := by omega
      have hk1 : ¬ (k : Int) < 0 := by omega
      have hk2 : ¬ (t : Int) ≤ k := by omega
      clear hi
      go_wp2_with fail
      refine (gThread_yes HZ.out k hk).mono ?_; rintro _ w15 ⟨rfl, hb15⟩
      have o0 := Ext.use (Ext.cells o0) hb15
      have HTB := Lib.hid ((HZ.out.below hb15).thr k hk).2
      have HB15 := Lib.hid (below_on HBZ.out hb15)
      clear hb15
      go_wp2_with fail
      refine (Th.fdepth (HTB.out.tha (Nat.zero_le _))).mono ?_; rintro _ _ ⟨rfl, rfl⟩
      have cj : w15.cell? ⟨tq k, 12, none⟩ = some (.bool false) := HTB.out.get (i := 12) (by omega)
      have hz0 : (Th.T0.nf : Int) = 0 := rfl
      rw [hz0]
      clear hz0
      go_wp2_with fail
      refine (lives16_calls _).mono ?_; rintro _ w16 ⟨rfl, hb16⟩
      go_wp2_with fail
      (try go_ret)
      rw [HQ.out]
      exact ⟨by simp, below_on HB15.out hb16⟩
    · go_wp2_with fail
      refine (gThread_no HZ.out i hi).mono ?_; rintro _ w15 ⟨rfl, hb15⟩
      have o0 := Ext.use (Ext.cells o0) hb15
      have HB15 := Lib.hid (below_on HBZ.out hb15)
      clear hb15
      rcases (by omega : i < 0 ∨ (¬ i < 0 ∧ (t : Int) ≤ i)) with h1 | ⟨h1, h2⟩
      all_goals
        clear hi
        go_wp2_with fail
        refine (lives16_calls _).mono ?_; rintro _ w16 ⟨rfl, hb16⟩
        go_wp2_with fail
        (try go_ret)
        rw [HQ.out]
        exact ⟨by simp, below_on HB15.out hb16⟩
end Go.Proofs.Ytkkdehniheajeaa
