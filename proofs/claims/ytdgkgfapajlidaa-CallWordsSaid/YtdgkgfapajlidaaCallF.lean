/- Layer 9: the walk of CallFits. -/
import Derived.Test.YtdgkgfapajlidaaCallDz
namespace Go.Proofs.Ytdgkgfapajlidaa
open Go.RowKit
set_option linter.unusedVariables false
set_option linter.unusedSimpArgs false

abbrev ansSh : List Fr.Sh := [.int .i64, .int .i64, .int .i64, .int .i64, .slice [.int .i64, .int .i64]]
theorem ans_open {w : World} {cs : List Value} (h : Fr.Sh.oks w ansSh cs) : ∃ (k key val n : Int) (v : Value) (l : PL), cs = [.int .i64 k, .int .i64 key, .int .i64 val, .int .i64 n, v] ∧ PR w v l := by
  obtain ⟨_, _, rfl, k0, h⟩ := Fr.get_cons h
  obtain ⟨_, _, rfl, k1, h⟩ := Fr.get_cons h
  obtain ⟨_, _, rfl, k2, h⟩ := Fr.get_cons h
  obtain ⟨_, _, rfl, k3, h⟩ := Fr.get_cons h
  obtain ⟨_, _, rfl, k4, h⟩ := Fr.get_cons h
  obtain rfl := Fr.get_nil h
  obtain ⟨k, rfl, _⟩ := Fr.get_int k0
  obtain ⟨key, rfl, _⟩ := Fr.get_int k1
  obtain ⟨val, rfl, _⟩ := Fr.get_int k2
  obtain ⟨n, rfl, _⟩ := Fr.get_int k3
  obtain ⟨l, hP⟩ := pairs_open k4
  exact ⟨k, key, val, n, _, l, rfl, hP⟩
theorem call_open {w : World} {cs : List Value} (h : Fr.Sh.oks w [.int .i64, .int .i64, .int .i64, .int .i64, .int .i64] cs) : ∃ (op key val hi limit : Int), cs = [.int .i64 op, .int .i64 key, .int .i64 val, .int .i64 hi, .int .i64 limit] := by
  obtain ⟨_, _, rfl, k0, h⟩ := Fr.get_cons h
  obtain ⟨_, _, rfl, k1, h⟩ := Fr.get_cons h
  obtain ⟨_, _, rfl, k2, h⟩ := Fr.get_cons h
  obtain ⟨_, _, rfl, k3, h⟩ := Fr.get_cons h
  obtain ⟨_, _, rfl, k4, h⟩ := Fr.get_cons h
  obtain rfl := Fr.get_nil h
  obtain ⟨op, rfl, _⟩ := Fr.get_int k0
  obtain ⟨key, rfl, _⟩ := Fr.get_int k1
  obtain ⟨val, rfl, _⟩ := Fr.get_int k2
  obtain ⟨hi, rfl, _⟩ := Fr.get_int k3
  obtain ⟨limit, rfl, _⟩ := Fr.get_int k4
  exact ⟨op, key, val, hi, limit, rfl⟩
theorem sameA_self (k key val n : Int) (l : PL) : sameAB k key val n l k key val n l = true := by simp [sameAB, sameB]
set_option maxHeartbeats 4000000 in
set_option maxRecDepth 100000 in
theorem callFits_walk (v0 v1 v2 : Value) (w : World) (s0 : Fr.okN w [.int .i64, .int .i64, .int .i64, .int .i64, .int .i64] v0) (s1 : Fr.okN w [.int .i64, .int .i64, .int .i64, .int .i64, .slice [.int .i64, .int .i64]] v1) (s2 : Fr.okN w [.int .i64, .int .i64, .int .i64, .int .i64, .slice [.int .i64, .int .i64]] v2) :
    Calls Try.prog 4 #[v0, v1, v2] w fun e w' => e = .returned (.bool true) ∧ Below w.heap.size w w' := by
  obtain ⟨cs, rfl, hcs⟩ := s0
  obtain ⟨op, key, val, hi, limit, rfl⟩ := call_open hcs
  obtain ⟨as1, rfl, has⟩ := s1
  obtain ⟨k, ak, av, n, va, l, rfl, hP⟩ := ans_open has
  obtain ⟨bs, rfl, hbs⟩ := s2
  obtain ⟨k', ak', av', n', vb, l', rfl, hP'⟩ := ans_open hbs
  have HP := Lib.hid hP; have HP' := Lib.hid hP'
  obtain ⟨p, c, rfl, _, _⟩ := hP.slice
  obtain ⟨p', c', rfl, _, _⟩ := hP'.slice
  clear hcs has hbs hP hP'
  show Calls Try.prog _ #[callV op key val hi limit, ansV k ak av n (.slice p l.length c), ansV k' ak' av' n' (.slice p' l'.length c')] w _
  refine Calls.veil fun Q HQ => ?_
  rcases (by omega : 1500 < l.length ∨ (l.length ≤ 1500 ∧ 1500 < l'.length) ∨ (l.length ≤ 1500 ∧ l'.length ≤ 1500)) with hl | ⟨hl, hl'⟩ | ⟨hl, hl'⟩
  · go_enter Try.func4, Try.ntmps4
    go_wp2_with fail
    refine (lives9_calls _).mono ?_; rintro _ w2 ⟨rfl, hb⟩
    have hb := below_on (below_new (below_new (below_new (Below.refl w.heap.size w) _) _) _) hb
    go_wp2_with fail
    (try go_ret)
    rw [HQ.out]
    exact ⟨ret_bool rfl, hb⟩
  · go_enter Try.func4, Try.ntmps4
    go_wp2_with fail
    refine (lives9_calls _).mono ?_; rintro _ w2 ⟨rfl, hb⟩
    have hb := below_on (below_new (below_new (below_new (Below.refl w.heap.size w) _) _) _) hb
    go_wp2_with fail
    (try go_ret)
    rw [HQ.out]
    exact ⟨ret_bool rfl, hb⟩
  · go_enter Try.func4, Try.ntmps4
    go_wp2_with fail
    generalize hW : World.alloc (World.alloc (World.alloc w _) _) _ = W
    have hBW : Below w.heap.size w W := by rw [← hW]; (repeat (first | exact Below.refl _ _ | assumption | refine below_new ?_ _ | refine Below.drew ?_ | refine below_drewN ?_ _ | refine below_on ?_ (by assumption)))
    generalize hU : World.alloc (World.alloc w _) _ = U at hW
    have hBU : Below U.heap.size U W := by rw [← hW]; (repeat (first | exact Below.refl _ _ | assumption | refine below_new ?_ _ | refine Below.drew ?_ | refine below_drewN ?_ _ | refine below_on ?_ (by assumption)))
    have hs : U.heap.size = w.heap.size + 2 := by rw [← hU]; simp
    have b0 := Ext.cells (Ext.made_in hW (Below.refl _ _) 0 (.int .i64 k') rfl); have b1 := Ext.cells (Ext.made_in hW (Below.refl _ _) 1 (.int .i64 ak') rfl); have b2 := Ext.cells (Ext.made_in hW (Below.refl _ _) 2 (.int .i64 av') rfl)
    have b3 := Ext.cells (Ext.made_in hW (Below.refl _ _) 3 (.int .i64 n') rfl); have b4 := Ext.cells (Ext.made_in hW (Below.refl _ _) 4 (.slice p' l'.length c') rfl)
    have hs1 : ∀ o, (World.alloc w o).heap.size = w.heap.size + 1 := fun o => by simp
    have a0 := Ext.cells (Ext.cell ⟨W, hBU⟩ (Ext.made_in hU (Below.refl _ _) 0 (.int .i64 k) rfl)); have a1 := Ext.cells (Ext.cell ⟨W, hBU⟩ (Ext.made_in hU (Below.refl _ _) 1 (.int .i64 ak) rfl)); have a2 := Ext.cells (Ext.cell ⟨W, hBU⟩ (Ext.made_in hU (Below.refl _ _) 2 (.int .i64 av) rfl))
    have a3 := Ext.cells (Ext.cell ⟨W, hBU⟩ (Ext.made_in hU (Below.refl _ _) 3 (.int .i64 n) rfl)); have a4 := Ext.cells (Ext.cell ⟨W, hBU⟩ (Ext.made_in hU (Below.refl _ _) 4 (.slice p l.length c) rfl))
    have c0 := Ext.cells (Ext.cell ⟨W, hBU⟩ (Ext.made1_in hU (Below.refl _ _) 0 (.int .i64 op) rfl)); have c1 := Ext.cells (Ext.cell ⟨W, hBU⟩ (Ext.made1_in hU (Below.refl _ _) 1 (.int .i64 key) rfl)); have c2 := Ext.cells (Ext.cell ⟨W, hBU⟩ (Ext.made1_in hU (Below.refl _ _) 2 (.int .i64 val) rfl))
    have c3 := Ext.cells (Ext.cell ⟨W, hBU⟩ (Ext.made1_in hU (Below.refl _ _) 3 (.int .i64 hi) rfl)); have c4 := Ext.cells (Ext.cell ⟨W, hBU⟩ (Ext.made1_in hU (Below.refl _ _) 4 (.int .i64 limit) rfl))
    simp only [hs, hs1] at a0 a1 a2 a3 a4 b0 b1 b2 b3 b4 c0 c1 c2 c3 c4
    clear hW hU hs hs1 hBU
    have HB := Lib.hid hBW
    clear hBW
    (with_reducible refine wp_region_mix (fun w' => ∃ y : Ext W, w' = y.w) ?_ ?_ ?_ ?_; kernel_rfl; kernel_rfl; exact ⟨⟨W.drew, (Below.refl _ _).drew⟩, rfl⟩)
    have hd : Below W.heap.size W W.drew := (Below.refl _ _).drew
    repeat (first | ((with_reducible refine mix_plain (by kernel_rfl) ?_); (first | go_big_quiet_skip | (go_big_quiet_want; go_big_quiet_op; go_big_quiet_on)); (with_reducible refine mix_on ?_)) | ((with_reducible refine mix_skip (by kernel_rfl) ?_); go_big_quiet_skip; (with_reducible refine mix_on ?_)))
    ((with_reducible refine wpMix_chain (by kernel_rfl) (by kernel_rfl) (fun K HK => ?_)); go_step)
    refine (cfits op key val hi limit k ak av n _ l W.drew (HP.out.below (below_on HB.out hd)) (by omega)).mono ?_; rintro _ w2 ⟨rfl, hb2⟩
    have hb2 := below_on hd hb2
    refine HK.out _ _ ⟨⟨w2, hb2⟩, rfl⟩ ?_
    clear HK K hd
    generalize hf : fitsB op key hi limit k ak av n l = f
    have HF := Lib.hid hf
    clear hf
    repeat (first | ((with_reducible refine mix_plain (by kernel_rfl) ?_); (first | go_big_quiet_skip | (go_big_quiet_want; go_big_quiet_op; go_big_quiet_on)); (with_reducible refine mix_on ?_)) | ((with_reducible refine mix_skip (by kernel_rfl) ?_); go_big_quiet_skip; (with_reducible refine mix_on ?_)))
    ((with_reducible refine wpMix_chain (by kernel_rfl) (by kernel_rfl) (fun K HK => ?_)); go_step)
    refine (rfits op key val hi limit k ak av n _ l w2 (HP.out.below (below_on HB.out hb2)) (by omega)).mono ?_; rintro _ w3 ⟨rfl, hb3⟩
    have hb3 := below_on hb2 hb3
    rw [HF.out]
    refine HK.out _ _ ⟨⟨w3, hb3⟩, rfl⟩ ?_
    clear HK K hb2
    repeat (first | ((with_reducible refine mix_plain (by kernel_rfl) ?_); (first | go_big_quiet_skip | (go_big_quiet_want; go_big_quiet_op; go_big_quiet_on)); (with_reducible refine mix_on ?_)) | ((with_reducible refine mix_skip (by kernel_rfl) ?_); go_big_quiet_skip; (with_reducible refine mix_on ?_)))
    ((with_reducible refine wpMix_chain (by kernel_rfl) (by kernel_rfl) (fun K HK => ?_)); go_step)
    refine (csame k ak av n _ l k' ak' av' n' _ l' w3 (HP.out.below (below_on HB.out hb3)) (HP'.out.below (below_on HB.out hb3)) (by omega)).mono ?_; rintro _ w4 ⟨rfl, hb4⟩
    have hb4 := below_on hb3 hb4
    refine HK.out _ _ ⟨⟨w4, hb4⟩, rfl⟩ ?_
    clear HK K hb3
    generalize hf : sameAB k ak av n l k' ak' av' n' l' = g
    have HG := Lib.hid hf
    clear hf
    repeat (first | ((with_reducible refine mix_plain (by kernel_rfl) ?_); (first | go_big_quiet_skip | (go_big_quiet_want; go_big_quiet_op; go_big_quiet_on)); (with_reducible refine mix_on ?_)) | ((with_reducible refine mix_skip (by kernel_rfl) ?_); go_big_quiet_skip; (with_reducible refine mix_on ?_)))
    ((with_reducible refine wpMix_chain (by kernel_rfl) (by kernel_rfl) (fun K HK => ?_)); go_step)
    refine (rsame9 k ak av n _ l k' ak' av' n' _ l' w4 (HP.out.below (below_on HB.out hb4)) (HP'.out.below (below_on HB.out hb4)) (by omega)).mono ?_; rintro _ w5 ⟨rfl, hb5⟩
    have hb5 := below_on hb4 hb5
    rw [HG.out]
    refine HK.out _ _ ⟨⟨w5, hb5⟩, rfl⟩ ?_
    clear HK K hb4
    repeat (first | ((with_reducible refine mix_plain (by kernel_rfl) ?_); (first | go_big_quiet_skip | (go_big_quiet_want; go_big_quiet_op; go_big_quiet_on)); (with_reducible refine mix_on ?_)) | ((with_reducible refine mix_skip (by kernel_rfl) ?_); go_big_quiet_skip; (with_reducible refine mix_on ?_)))
    ((with_reducible refine wpMix_chain (by kernel_rfl) (by kernel_rfl) (fun K HK => ?_)); go_step)
    refine (csame k ak av n _ l k ak av n _ l w5 (HP.out.below (below_on HB.out hb5)) (HP.out.below (below_on HB.out hb5)) (by omega)).mono ?_; rintro _ w6 ⟨rfl, hb6⟩
    have hb6 := below_on hb5 hb6
    rw [sameA_self]
    refine HK.out _ _ ⟨⟨w6, hb6⟩, rfl⟩ ?_
    clear HK K hb5
    repeat (first | ((with_reducible refine mix_plain (by kernel_rfl) ?_); (first | go_big_quiet_skip | (go_big_quiet_want; go_big_quiet_op; go_big_quiet_on)); (with_reducible refine mix_on ?_)) | ((with_reducible refine mix_skip (by kernel_rfl) ?_); go_big_quiet_skip; (with_reducible refine mix_on ?_)))
    ((with_reducible refine wpMix_chain (by kernel_rfl) (by kernel_rfl) (fun K HK => ?_)); go_step)
    refine (lives9_calls _).mono ?_; rintro _ w7 ⟨rfl, hb7⟩
    have hb7 := below_on hb6 hb7
    refine HK.out _ _ ⟨⟨w7, hb7⟩, rfl⟩ ?_
    clear HK K hb6
    repeat (first | ((with_reducible refine mix_plain (by kernel_rfl) ?_); (first | go_big_quiet_skip | (go_big_quiet_want; go_big_quiet_op; go_big_quiet_on)); (with_reducible refine mix_on ?_)) | ((with_reducible refine mix_skip (by kernel_rfl) ?_); go_big_quiet_skip; (with_reducible refine mix_on ?_)))
    refine wpMix_nil ?_
    have HE := Lib.hid (below_on HB.out hb7)
    clear a0 a1 a2 a3 a4 b0 b1 b2 b3 b4 c0 c1 c2 c3 c4 hb7
    go_wp2_with fail
    (try go_ret)
    rw [HQ.out]
    exact ⟨ret_bool rfl, HE.out⟩
end Go.Proofs.Ytdgkgfapajlidaa
