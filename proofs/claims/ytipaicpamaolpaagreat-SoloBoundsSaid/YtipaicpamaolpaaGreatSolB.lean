/- Layer 34: the walk of SoloBounds. -/
import Derived.Test.YtipaicpamaolpaaGreatSolA
import Derived.Test.YtipaicpamaolpaaGreatMix
namespace Go.Proofs.YtipaicpamaolpaaGreat
open Go.RowKit
set_option linter.unusedVariables false
set_option linter.unusedSimpArgs false
theorem Calls.veil {P : Program} {f : FuncId} {args : Array Value} {w : World} {R : Ending → World → Prop} (h : ∀ Q : Ending → World → Prop, Hid (Q = R) → Calls P f args w Q) : Calls P f args w R := h R rfl
theorem lives34_calls (w : World) : Calls Tryz.prog 10 #[] w fun e w' => e = .returned (.bool true) ∧ Below w.heap.size w w' := by
  refine Calls.veil fun Q HQ => ?_
  have e1 : boundI 1 11 5 = 1210 := by decide
  have e2 : leastI 1 11 5 = 0 := by decide
  have B := Lib.hid (fun W => sbound 1 11 5 W)
  have L := Lib.hid (fun W => sleast34 1 11 5 W)
  rw [e1] at B; rw [e2] at L
  clear e1 e2
  go_enter Tryz.func10, Tryz.ntmps10
  go_upto_region 2 with fail
  generalize hV : World.alloc w _ = V
  obtain ⟨hh, hbv⟩ := heapnewE hV
  have x0 := newcell hh 0 _ rfl; have x1 := newcell hh 1 _ rfl; have x2 := newcell hh 2 _ rfl
  have HBV := Lib.hid hbv
  clear hV hbv hh
  generalize w.heap.size = Z at x0 x1 x2 ⊢
  go_wp2_with fail
  refine (B.out _).mono ?_; rintro _ w1 ⟨rfl, hb⟩
  have x0 := Ext.use (Ext.cells x0) hb; have x1 := Ext.use (Ext.cells x1) hb; have x2 := Ext.use (Ext.cells x2) hb
  have HBW := Lib.hid (below_on HBV.out hb)
  clear hb
  go_wp2_with fail
  refine (L.out _).mono ?_; rintro _ w2 ⟨rfl, hb⟩
  have HBW := Lib.hid (below_on HBW.out hb)
  go_wp2_with fail
  (try go_ret)
  rw [HQ.out]
  exact ⟨rfl, HBW.out⟩
set_option maxHeartbeats 2000000 in
theorem soloBounds_walk (v0 v1 v2 : Value) (w : World) (s0 : Fr.okN w [.int .i64, .int .i64, .int .u64] v0) (s1 : Fr.ok1 w (.int .i64) v1) (s2 : Fr.ok1 w (.int .i64) v2) :
    Calls Tryz.prog 3 #[v0, v1, v2] w fun e w' => e = .returned (.bool true) ∧ Below w.heap.size w w' := by
  obtain ⟨cs, rfl, hcs⟩ := s0
  obtain ⟨_, _, rfl, k0, hcs⟩ := Fr.get_cons hcs
  obtain ⟨_, _, rfl, k1, hcs⟩ := Fr.get_cons hcs
  obtain ⟨_, _, rfl, k2, hcs⟩ := Fr.get_cons hcs
  obtain rfl := Fr.get_nil hcs
  obtain ⟨T, rfl, _⟩ := Fr.get_int k0
  obtain ⟨S, rfl, _⟩ := Fr.get_int k1
  obtain ⟨K, rfl, _⟩ := Fr.get_int k2
  obtain ⟨t, rfl, _⟩ := Fr.get_int s1
  obtain ⟨m, rfl, _⟩ := Fr.get_int s2
  clear k0 k1 k2 hcs
  refine Calls.veil fun Q HQ => ?_
  have B1 := Lib.hid (fun W => sbound T S K W)
  have B2 := Lib.hid (fun W => rbound T S K W)
  have L1 := Lib.hid (fun W => sleast34 T S K W)
  have L2 := Lib.hid (fun W => rleast34 T S K W)
  generalize boundI T S K = b at B1 B2
  generalize leastI T S K = l at L1 L2
  go_enter Tryz.func3, Tryz.ntmps3
  go_upto_region 1 with fail
  generalize hV : World.alloc w _ = V
  obtain ⟨hh, hbv⟩ := heapnewE hV
  have x0 := newcell hh 0 _ rfl; have x1 := newcell hh 1 _ rfl; have x2 := newcell hh 2 _ rfl
  have HBV := Lib.hid hbv
  clear hV hbv hh
  generalize w.heap.size = Z at x0 x1 x2 ⊢
  go_wp2_with fail
  refine (salone t m _).mono ?_; rintro _ w1 ⟨rfl, hb⟩
  have x0 := Ext.use (Ext.cells x0) hb; have x1 := Ext.use (Ext.cells x1) hb; have x2 := Ext.use (Ext.cells x2) hb
  have HBW := Lib.hid (below_on HBV.out hb)
  clear hb
  go_wp2_with fail
  refine (sworst m _).mono ?_; rintro _ w2 ⟨rfl, hb⟩
  have x0 := Ext.cells (Ext.use (Ext.cells x0) hb); have x1 := Ext.cells (Ext.use (Ext.cells x1) hb); have x2 := Ext.cells (Ext.use (Ext.cells x2) hb)
  have HBW := Lib.hid (below_on HBW.out hb)
  clear hb HBV
  go_upto_region 3 with fail
  (with_reducible refine wp_region_mix (fun w' => ∃ y : Ext w2, w' = y.w) ?_ ?_ ?_ ?_; kernel_rfl; kernel_rfl; exact ⟨⟨w2.drew, (Below.refl _ _).drew⟩, rfl⟩)
  have hd : Below w2.heap.size w2 w2.drew := (Below.refl _ _).drew
  repeat (first | ((with_reducible refine mix_plain (by kernel_rfl) ?_); (first | go_big_quiet_skip | (go_big_quiet_want; go_big_quiet_op; go_big_quiet_on)); (with_reducible refine mix_on ?_)) | ((with_reducible refine mix_skip (by kernel_rfl) ?_); go_big_quiet_skip; (with_reducible refine mix_on ?_)))
  ((with_reducible refine wpMix_chain (by kernel_rfl) (by kernel_rfl) (fun K HK => ?_)); go_step)
  refine (B1.out _).mono ?_; rintro _ w4 ⟨rfl, hb4⟩
  have hb4 := below_on hd hb4
  refine HK.out _ _ ⟨⟨w4, hb4⟩, rfl⟩ ?_
  clear HK K hd
  repeat (first | ((with_reducible refine mix_plain (by kernel_rfl) ?_); (first | go_big_quiet_skip | (go_big_quiet_want; go_big_quiet_op; go_big_quiet_on)); (with_reducible refine mix_on ?_)) | ((with_reducible refine mix_skip (by kernel_rfl) ?_); go_big_quiet_skip; (with_reducible refine mix_on ?_)))
  ((with_reducible refine wpMix_chain (by kernel_rfl) (by kernel_rfl) (fun K HK => ?_)); go_step)
  refine (B2.out _).mono ?_; rintro _ w5 ⟨rfl, hb5⟩
  have hb5 := below_on hb4 hb5
  refine HK.out _ _ ⟨⟨w5, hb5⟩, rfl⟩ ?_
  clear HK K hb4
  repeat (first | ((with_reducible refine mix_plain (by kernel_rfl) ?_); (first | go_big_quiet_skip | (go_big_quiet_want; go_big_quiet_op; go_big_quiet_on)); (with_reducible refine mix_on ?_)) | ((with_reducible refine mix_skip (by kernel_rfl) ?_); go_big_quiet_skip; (with_reducible refine mix_on ?_)))
  ((with_reducible refine wpMix_chain (by kernel_rfl) (by kernel_rfl) (fun K HK => ?_)); go_step)
  refine (L1.out _).mono ?_; rintro _ w6 ⟨rfl, hb6⟩
  have hb6 := below_on hb5 hb6
  refine HK.out _ _ ⟨⟨w6, hb6⟩, rfl⟩ ?_
  clear HK K hb5
  repeat (first | ((with_reducible refine mix_plain (by kernel_rfl) ?_); (first | go_big_quiet_skip | (go_big_quiet_want; go_big_quiet_op; go_big_quiet_on)); (with_reducible refine mix_on ?_)) | ((with_reducible refine mix_skip (by kernel_rfl) ?_); go_big_quiet_skip; (with_reducible refine mix_on ?_)))
  ((with_reducible refine wpMix_chain (by kernel_rfl) (by kernel_rfl) (fun K HK => ?_)); go_step)
  refine (L2.out _).mono ?_; rintro _ w7 ⟨rfl, hb7⟩
  have hb7 := below_on hb6 hb7
  refine HK.out _ _ ⟨⟨w7, hb7⟩, rfl⟩ ?_
  clear HK K hb6
  repeat (first | ((with_reducible refine mix_plain (by kernel_rfl) ?_); (first | go_big_quiet_skip | (go_big_quiet_want; go_big_quiet_op; go_big_quiet_on)); (with_reducible refine mix_on ?_)) | ((with_reducible refine mix_skip (by kernel_rfl) ?_); go_big_quiet_skip; (with_reducible refine mix_on ?_)))
  ((with_reducible refine wpMix_chain (by kernel_rfl) (by kernel_rfl) (fun K HK => ?_)); go_step)
  refine (lives34_calls _).mono ?_; rintro _ w8 ⟨rfl, hb8⟩
  have hb8 := below_on hb7 hb8
  refine HK.out _ _ ⟨⟨w8, hb8⟩, rfl⟩ ?_
  clear HK K hb7
  repeat (first | ((with_reducible refine mix_plain (by kernel_rfl) ?_); (first | go_big_quiet_skip | (go_big_quiet_want; go_big_quiet_op; go_big_quiet_on)); (with_reducible refine mix_on ?_)) | ((with_reducible refine mix_skip (by kernel_rfl) ?_); go_big_quiet_skip; (with_reducible refine mix_on ?_)))
  refine wpMix_nil ?_
  have HB8 := Lib.hid (below_on HBW.out hb8)
  clear hb8 x0 x1 x2
  go_wp2_with fail
  (try go_ret)
  rw [HQ.out]
  exact ⟨rfl, HB8.out⟩
end Go.Proofs.YtipaicpamaolpaaGreat
