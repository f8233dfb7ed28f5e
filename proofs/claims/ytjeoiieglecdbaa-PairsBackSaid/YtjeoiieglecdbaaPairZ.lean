/- Layer 8: the walk of PairsBack. -/
import Derived.Test.YtjeoiieglecdbaaPairY
namespace Go.Proofs.Ytjeoiieglecdbaa
open Go.RowKit
set_option linter.unusedVariables false
set_option linter.unusedSimpArgs false

theorem put_ky {l : PL} {p : Int × Int} (h : hereB l p.1 = false) (i : Nat) : ky (putL l p) i = (if i < lbN l p.1 then ky l i else if i = lbN l p.1 then p.1 else ky l (i - 1)) ∧ vl (putL l p) i = (if i < lbN l p.1 then vl l i else if i = lbN l p.1 then p.2 else vl l (i - 1)) := by
  have hle := lbN_le l p.1
  have hl : (l.take (lbN l p.1)).length = lbN l p.1 := by simp; omega
  rw [putL_new h, List.append_assoc]
  by_cases h1 : i < lbN l p.1
  · rw [if_pos h1, if_pos h1, ky_app_l (by omega), vl_app_l (by omega), ky_take h1, vl_take h1]; exact ⟨rfl, rfl⟩
  · rw [if_neg h1, if_neg h1, ky_app_r (by omega), vl_app_r (by omega), hl]
    by_cases h2 : i = lbN l p.1
    · rw [if_pos h2, if_pos h2, h2, Nat.sub_self]; exact ⟨rfl, rfl⟩
    · rw [if_neg h2, if_neg h2, ky_app_r (by simp; omega), vl_app_r (by simp; omega), ky_drop, vl_drop]
      have : lbN l p.1 + (i - lbN l p.1 - [p].length) = i - 1 := by simp; omega
      rw [this]; exact ⟨rfl, rfl⟩
theorem put_length {l : PL} {p : Int × Int} (h : hereB l p.1 = false) : (putL l p).length = l.length + 1 := by
  have hle := lbN_le l p.1
  rw [putL_new h]; simp; omega
theorem put_rise {l : PL} {p : Int × Int} (hr : riseB l = true) : riseB (putL l p) = true := by
  cases h : hereB l p.1
  · obtain ⟨s1, s2⟩ := lbN_spec hr p.1
    refine rise_of fun i hi => ?_
    rw [put_length h] at hi
    rw [(put_ky h i).1, (put_ky h (i + 1)).1]
    rcases (by omega : i + 1 < lbN l p.1 ∨ i + 1 = lbN l p.1 ∨ i = lbN l p.1 ∨ lbN l p.1 < i) with h1 | h1 | h1 | h1
    · rw [if_pos (by omega), if_pos h1]; exact rise_next hr (by have := lbN_le l p.1; omega)
    · rw [if_pos (by omega), if_neg (by omega), if_pos h1]; exact s1 i (by omega)
    · rw [if_neg (by omega), if_pos h1, if_neg (by omega), if_neg (by omega)]
      have h2 := s2 (i + 1 - 1) (by omega) (by omega)
      rcases (by omega : p.1 = ky l (i + 1 - 1) ∨ p.1 < ky l (i + 1 - 1)) with e | e
      · rw [here_iff.2 ⟨_, by omega, e.symm⟩] at h; cases h
      · exact e
    · rw [if_neg (by omega), if_neg (by omega), if_neg (by omega), if_neg (by omega)]
      exact rise_lt hr (by omega) (by omega)
  · rw [putL_old h]; exact hr
theorem put_here {l : PL} {p : Int × Int} (h : hereB l p.1 = false) (hr : riseB l = true) : hereB (putL l p) p.1 = true ∧ lbN (putL l p) p.1 = lbN l p.1 := by
  obtain ⟨s1, s2⟩ := lbN_spec hr p.1
  have hle := lbN_le l p.1
  refine ⟨here_iff.2 ⟨lbN l p.1, by rw [put_length h]; omega, by rw [(put_ky h _).1, if_neg (by omega), if_pos rfl]⟩, lbN_is (by rw [put_length h]; omega) (fun k hk => ?_) (fun k h1 h2 => ?_)⟩
  · rw [(put_ky h _).1, if_pos hk]; exact s1 k hk
  · rw [put_length h] at h2
    rw [(put_ky h _).1, if_neg (by omega)]
    by_cases e : k = lbN l p.1
    · rw [if_pos e]; omega
    · rw [if_neg e]; exact s2 _ (by omega) (by omega)
theorem drop_put {l : PL} {p : Int × Int} (h : hereB l p.1 = false) (hr : riseB l = true) : dropL (putL l p) p.1 = l := by
  obtain ⟨h1, h2⟩ := put_here h hr
  have hle := lbN_le l p.1
  have hl : (l.take (lbN l p.1)).length = lbN l p.1 := by simp; omega
  rw [dropL_here h1, h2, putL_new h, List.append_assoc, List.take_left' hl, List.drop_append, hl]
  rw [List.drop_eq_nil_of_le (by omega), show lbN l p.1 + 1 - lbN l p.1 = 1 by omega]
  simp
theorem drop_length {l : PL} {k : Int} (h : hereB l k = true) (hr : riseB l = true) : (dropL l k).length + 1 = l.length ∧ lbN l k < l.length ∧ ky l (lbN l k) = k := by
  have := here_at hr k
  rw [h] at this
  have := this.symm
  simp only [Bool.and_eq_true, decide_eq_true_eq, beq_iff_eq] at this
  rw [dropL_here h]
  refine ⟨?_, this⟩
  simp; omega
/-- Floor and ceiling of a key that is not there are no one pair. -/
theorem fc_not {l : PL} {k : Int} (h : hereB l k = false) (hr : riseB l = true) : ((floorL l k).isSome && (ceilL l k).isSome && ((opt (floorL l k)).1 == (opt (ceilL l k)).1)) = false := by
  obtain ⟨s1, s2⟩ := lbN_spec hr k
  have hle := lbN_le l k
  rcases Nat.eq_zero_or_pos (lbN l k) with h0 | h0
  · rw [floor_zero hr h h0]; rfl
  · obtain ⟨r, hr2⟩ : ∃ r, lbN l k = r + 1 := ⟨lbN l k - 1, by omega⟩
    rw [floor_pos hr h hr2]
    rcases (by omega : lbN l k < l.length ∨ lbN l k = l.length) with h3 | h3
    · rw [ceil_at h3 s1 (s2 _ (Nat.le_refl _) h3)]
      have := rise_lt hr (show r < lbN l k by omega) h3
      simp [opt]; omega
    · rw [ceil_none (fun j hj => s1 j (by omega))]; rfl
theorem fc_here {l : PL} {k : Int} (h : hereB l k = true) (hr : riseB l = true) : ∃ x, floorL l k = some x ∧ ceilL l k = some x := by
  obtain ⟨s1, s2⟩ := lbN_spec hr k
  obtain ⟨_, h1, h2⟩ := drop_length h hr
  exact ⟨_, floor_here hr h, ceil_at h1 s1 (by omega)⟩

set_option maxHeartbeats 4000000 in
set_option maxRecDepth 100000 in
theorem pairsBack_walk (v0 v1 : Value) (w : World) (s0 : Fr.ok1 w (.slice [.int .i64, .int .i64]) v0) (s1 : Fr.okN w [.int .i64, .int .i64] v1) :
    Calls Try.prog 6 #[v0, v1] w fun e w' => e = .returned (.bool true) ∧ Below w.heap.size w w' := by
  obtain ⟨cs, rfl, hcs⟩ := s1
  obtain ⟨k, x, rfl⟩ := pair_cells hcs
  obtain ⟨l, hP⟩ := pairs_open s0
  have HP := Lib.hid hP
  obtain ⟨p, c, rfl, hc1, hc2⟩ := hP.slice
  clear s0 hP hcs
  show Calls Try.prog _ #[_, .agg #[.int .i64 k, .int .i64 x]] w _
  refine Calls.veil fun Q HQ => ?_
  rcases (by omega : 300 < l.length ∨ l.length ≤ 300) with hl | hl
  · go_enter Try.func6, Try.ntmps6
    go_wp2_with fail
    refine (lives8_calls _).mono ?_; rintro _ w2 ⟨rfl, hb⟩
    have hb := below_on (below_new (Below.refl w.heap.size w) _) hb
    go_wp2_with fail
    (try go_ret)
    rw [HQ.out]
    exact ⟨ret_bool rfl, hb⟩
  · cases hr : riseB l
    · go_enter Try.func6, Try.ntmps6
      have HR := Lib.hid hr
      clear hr
      go_wp2_with fail
      refine (prises l _ _ (HP.out.alloc _) (by omega)).mono ?_; rintro _ w1 ⟨rfl, hb1⟩
      rw [HR.out]
      have hb1 := below_on (below_new (Below.refl w.heap.size w) _) hb1
      go_wp2_with fail
      refine (lives8_calls _).mono ?_; rintro _ w2 ⟨rfl, hb⟩
      have hb := below_on hb1 hb
      go_wp2_with fail
      (try go_ret)
      rw [HQ.out]
      exact ⟨ret_bool rfl, hb⟩
    · have HR := Lib.hid hr
      clear hr
      go_enter Try.func6, Try.ntmps6
      go_wp2_with fail
      generalize hW : World.alloc w _ = W
      have hBW : Below w.heap.size w W := by rw [← hW]; (repeat (first | exact Below.refl _ _ | assumption | refine below_new ?_ _ | refine Below.drew ?_ | refine below_drewN ?_ _ | refine below_on ?_ (by assumption)))
      have HC := Lib.hid (show Cell2 W w.heap.size k x by rw [← hW]; exact Cell2.new w k x _)
      have HB := Lib.hid hBW
      clear hW hBW
      refine (prises l _ W (HP.out.below HB.out) (by omega)).mono ?_; rintro _ w1 ⟨rfl, hb⟩
      have HC := Lib.hid (HC.out.below hb)
      have HB := Lib.hid (below_on HB.out hb)
      rw [HR.out]
      clear hb
      have z0 := HC.out.c0; have z1 := HC.out.c1
      go_wp2_with fail
      refine (pput l _ k x w1 (HP.out.below HB.out) HR.out (by omega)).mono ?_; rintro _ w2 ⟨va, rfl, hA, hb⟩
      have HA := Lib.hid hA
      have HC := Lib.hid (HC.out.below hb)
      have HB := Lib.hid (below_on HB.out hb)
      clear hb hA z0 z1
      have HLA := Lib.hid (put_len l (k, x))
      have HRA := Lib.hid (put_rise (p := (k, x)) HR.out)
      have z0 := HC.out.c0; have z1 := HC.out.c1
      cases hh : hereB l k
      all_goals
        have HH := Lib.hid hh
        clear hh
        go_wp2_with fail
        refine (pfind (putL l (k, x)) _ k w2 HA.out HRA.out (by have := HLA.out; omega)).mono ?_; rintro _ w3 ⟨rfl, hb⟩
        have HC3 := Lib.hid (HC.out.below hb)
        have HA3 := Lib.hid (HA.out.below hb)
        have HB3 := Lib.hid (below_on HB.out hb)
        clear hb z0 z1
      · obtain ⟨e1, e2⟩ := put_here (p := (k, x)) HH.out HR.out
        rw [show hereB (putL l (k, x)) k = true from e1, show lbN (putL l (k, x)) k = lbN l k from e2]
        have HHA := Lib.hid (show hereB (putL l (k, x)) k = true from e1)
        have HDP := Lib.hid (show dropL (putL l (k, x)) k = l from drop_put (p := (k, x)) HH.out HR.out)
        have hlen := put_length (p := (k, x)) HH.out
        have hle := lbN_le l k
        obtain ⟨r, hr2⟩ : ∃ r, r = lbN l k := ⟨_, rfl⟩
        obtain ⟨m, hm⟩ : ∃ m, m = (putL l (k, x)).length := ⟨_, rfl⟩
        rw [← hr2] at hle ⊢
        have hrm : r < m := by omega
        have hm3 : m ≤ 301 := by omega
        obtain ⟨g, o, ca, rfl, k1, k2, K3⟩ := HA3.out.opened (by omega)
        obtain ⟨q0, q1⟩ := K3.out r (by omega)
        obtain ⟨t1, t2⟩ := put_ky (p := (k, x)) HH.out r
        rw [if_neg (by simp only; omega), if_pos hr2] at t1 t2
        rw [t1] at q0
        rw [t2] at q1
        simp only at q0 q1
        rw [← hm] at k1 ⊢
        have HRR := Lib.hid hr2
        have HM := Lib.hid hm
        clear e1 e2 hlen hr2 t1 t2 K3
        rw [← HM.out] at HA3
        have hge : decide (m ≤ r) = false := decide_eq_false (by omega)
        clear hm
        have q0 : ∀ y : Ext w3, y.w.cell? ⟨g, o + r * 2, none⟩ = some (.int .i64 k) := Ext.cells q0
        have q1 : ∀ y : Ext w3, y.w.cell? ⟨g, o + r * 2 + 1, none⟩ = some (.int .i64 x) := Ext.cells q1
        have z0 : ∀ y : Ext w3, y.w.cell? ⟨w.heap.size, 0, none⟩ = some (.int .i64 k) := Ext.cells HC3.out.c0
        have z1 : ∀ y : Ext w3, y.w.cell? ⟨w.heap.size, 1, none⟩ = some (.int .i64 x) := Ext.cells HC3.out.c1
        have hri : (r : Int) < (m : Int) := by omega
        go_wp2_with fail
        (with_reducible refine wp_region_mix (fun w' => ∃ y : Ext w3, w' = y.w) ?_ ?_ ?_ ?_; kernel_rfl; kernel_rfl; exact ⟨⟨w3.drew, (Below.refl _ _).drew⟩, rfl⟩)
        repeat (first | ((with_reducible refine mix_plain (by kernel_rfl) ?_); (first | go_big_quiet_skip | (go_big_quiet_want; go_big_quiet_op; go_big_quiet_on)); (with_reducible refine mix_on ?_)) | ((with_reducible refine mix_skip (by kernel_rfl) ?_); go_big_quiet_skip; (with_reducible refine mix_on ?_)))
        ((with_reducible refine wpMix_chain (by kernel_rfl) (by kernel_rfl) (fun K HK => ?_)); go_step)
        have hd : Below w3.heap.size w3 w3.drew := (Below.refl _ _).drew
        refine (prises _ _ w3.drew (HA3.out.below hd) (by have := HLA.out; omega)).mono ?_; rintro _ w4 ⟨rfl, hb4⟩
        rw [HRA.out]
        have hb4 := below_on hd hb4
        refine HK.out _ _ ⟨⟨w4, hb4⟩, rfl⟩ ?_
        clear HK K hd
        repeat (first | ((with_reducible refine mix_plain (by kernel_rfl) ?_); (first | go_big_quiet_skip | (go_big_quiet_want; go_big_quiet_op; go_big_quiet_on)); (with_reducible refine mix_on ?_)) | ((with_reducible refine mix_skip (by kernel_rfl) ?_); go_big_quiet_skip; (with_reducible refine mix_on ?_)))
        refine wpMix_nil ?_
        have HA4 := Lib.hid (HA3.out.below hb4)
        have HC4 := Lib.hid (HC3.out.below hb4)
        have HB4 := Lib.hid (below_on HB3.out hb4)
        clear z0 z1 q0 q1 hb4 hge
        have z0 := HC4.out.c0
        go_wp2_with fail
        refine (pdrop _ _ k w4 HA4.out HRA.out (by have := HLA.out; omega)).mono ?_; rintro _ w5 ⟨vd, rfl, hD, hb5⟩
        have HB5 := Lib.hid (below_on HB4.out hb5)
        have HC5 := Lib.hid (HC4.out.below hb5)
        have HD5 := Lib.hid hD
        clear hD hb5 z0
        rw [HHA.out]
        rw [HDP.out] at HD5
        go_wp2_with fail
        refine (psame l l _ _ w5 HD5.out (HP.out.below HB5.out) (by omega)).mono ?_; rintro _ w6 ⟨rfl, hb6⟩
        rw [same_self]
        have HC6 := Lib.hid (HC5.out.below hb6)
        have HB6 := Lib.hid (below_on HB5.out hb6)
        clear hb6
        have z0 := HC6.out.c0
        go_wp2_with fail
        refine (pfloor l _ k w6 (HP.out.below HB6.out) HR.out (by omega)).mono ?_; rintro _ w7 ⟨rfl, hb⟩
        have HC7 := Lib.hid (HC6.out.below hb)
        have HB7 := Lib.hid (below_on HB6.out hb)
        clear hb z0
        have zz := Ext.on HC7.out.c0
        have hfc := fc_not HH.out HR.out
        have HFC := Lib.hid hfc
        clear hfc
        generalize hf1 : (opt (floorL l k)).1 = f1 at *
        generalize hf2 : (opt (floorL l k)).2 = f2 at *
        generalize hf3 : (floorL l k).isSome = f3 at *
        clear hf1 hf2 hf3
        go_wp2_with fail
        generalize hW : World.alloc w7 _ = W7
        have hBW : Below w7.heap.size w7 W7 := by rw [← hW]; (repeat (first | exact Below.refl _ _ | assumption | refine below_new ?_ _ | refine Below.drew ?_ | refine below_drewN ?_ _ | refine below_on ?_ (by assumption)))
        have HF7 := Lib.hid (show Cell2 W7 w7.heap.size f1 f2 by rw [← hW]; exact Cell2.new w7 f1 f2 _)
        have HC7 := Lib.hid (HC7.out.below hBW)
        have HB7 := Lib.hid (below_on HB7.out hBW)
        clear hW hBW zz
        refine (pceil l _ k W7 (HP.out.below HB7.out) HR.out (by omega)).mono ?_; rintro _ w8 ⟨rfl, hb⟩
        have HF8 := Lib.hid (HF7.out.below hb)
        have HB8 := Lib.hid (below_on HB7.out hb)
        clear hb
        generalize hg1 : (opt (ceilL l k)).1 = g1 at *
        generalize hg2 : (opt (ceilL l k)).2 = g2 at *
        generalize hg3 : (ceilL l k).isSome = g3 at *
        clear hg1 hg2 hg3
        have a0 := Ext.on HF8.out.c0; have a1 := Ext.on HF8.out.c1
        cases f3
        · go_wp2_with fail
          refine (lives8_calls _).mono ?_; rintro _ w9 ⟨rfl, hb⟩
          have HB9 := Lib.hid (below_on (below_new HB8.out _) hb)
          clear hb
          go_wp2_with fail
          (try go_ret)
          rw [HQ.out]
          exact ⟨ret_bool rfl, HB9.out⟩
        · cases g3
          · go_wp2_with fail
            refine (lives8_calls _).mono ?_; rintro _ w9 ⟨rfl, hb⟩
            have HB9 := Lib.hid (below_on (below_new HB8.out _) hb)
            clear hb
            go_wp2_with fail
            (try go_ret)
            rw [HQ.out]
            exact ⟨ret_bool rfl, HB9.out⟩
          · have hne : (f1 == g1) = false := by simpa using HFC.out
            go_wp2_with fail
            refine (lives8_calls _).mono ?_; rintro _ w9 ⟨rfl, hb⟩
            have HB9 := Lib.hid (below_on (below_new HB8.out _) hb)
            clear hb
            go_wp2_with fail
            (try go_ret)
            rw [HQ.out]
            exact ⟨ret_bool rfl, HB9.out⟩
      · have HPO := Lib.hid (show putL l (k, x) = l from putL_old (p := (k, x)) HH.out)
        obtain ⟨d1, d2, d3⟩ := drop_length HH.out HR.out
        rw [HPO.out] at HA3 HRA HLA ⊢
        have HHA := HH
        rw [HH.out]
        obtain ⟨r, hr2⟩ : ∃ r, r = lbN l k := ⟨_, rfl⟩
        rw [← hr2] at d2 d3 ⊢
        obtain ⟨m, hm⟩ : ∃ m, m = l.length := ⟨_, rfl⟩
        have hrm : r < m := by omega
        have hm3 : m ≤ 300 := by omega
        obtain ⟨g, o, ca, rfl, k1, k2, K3⟩ := HA3.out.opened (by omega)
        obtain ⟨q0, q1⟩ := K3.out r (by omega)
        rw [d3] at q0
        have HRR := Lib.hid hr2
        clear hr2 d3 K3
        rw [← hm] at k1
        have hge : decide (l.length ≤ r) = false := decide_eq_false (by omega)
        have q0 : ∀ y : Ext w3, y.w.cell? ⟨g, o + r * 2, none⟩ = some (.int .i64 k) := Ext.cells q0
        have z0 : ∀ y : Ext w3, y.w.cell? ⟨w.heap.size, 0, none⟩ = some (.int .i64 k) := Ext.cells HC3.out.c0
        have z1 : ∀ y : Ext w3, y.w.cell? ⟨w.heap.size, 1, none⟩ = some (.int .i64 x) := Ext.cells HC3.out.c1
        have hri : (r : Int) < (l.length : Int) := by omega
        clear hm
        go_wp2_with fail
        (with_reducible refine wp_region_mix (fun w' => ∃ y : Ext w3, w' = y.w) ?_ ?_ ?_ ?_; kernel_rfl; kernel_rfl; exact ⟨⟨w3.drew, (Below.refl _ _).drew⟩, rfl⟩)
        repeat (first | ((with_reducible refine mix_plain (by kernel_rfl) ?_); (first | go_big_quiet_skip | (go_big_quiet_want; go_big_quiet_op; go_big_quiet_on)); (with_reducible refine mix_on ?_)) | ((with_reducible refine mix_skip (by kernel_rfl) ?_); go_big_quiet_skip; (with_reducible refine mix_on ?_)))
        ((with_reducible refine wpMix_chain (by kernel_rfl) (by kernel_rfl) (fun K HK => ?_)); go_step)
        have hd : Below w3.heap.size w3 w3.drew := (Below.refl _ _).drew
        refine (prises _ _ w3.drew (HA3.out.below hd) (by have := HLA.out; omega)).mono ?_; rintro _ w4 ⟨rfl, hb4⟩
        rw [HRA.out]
        have hb4 := below_on hd hb4
        refine HK.out _ _ ⟨⟨w4, hb4⟩, rfl⟩ ?_
        clear HK K hd
        repeat (first | ((with_reducible refine mix_plain (by kernel_rfl) ?_); (first | go_big_quiet_skip | (go_big_quiet_want; go_big_quiet_op; go_big_quiet_on)); (with_reducible refine mix_on ?_)) | ((with_reducible refine mix_skip (by kernel_rfl) ?_); go_big_quiet_skip; (with_reducible refine mix_on ?_)))
        refine wpMix_nil ?_
        have HA4 := Lib.hid (HA3.out.below hb4)
        have HC4 := Lib.hid (HC3.out.below hb4)
        have HB4 := Lib.hid (below_on HB3.out hb4)
        clear z0 z1 q0 q1 hb4 hge
        have z0 := HC4.out.c0
        go_wp2_with fail
        refine (pdrop _ _ k w4 HA4.out HRA.out (by have := HLA.out; omega)).mono ?_; rintro _ w5 ⟨vd, rfl, hD, hb5⟩
        have HB5 := Lib.hid (below_on HB4.out hb5)
        have HC5 := Lib.hid (HC4.out.below hb5)
        have HD5 := Lib.hid hD
        clear hD hb5 z0
        rw [HHA.out]
        obtain ⟨pd, cd, rfl, _, _⟩ := HD5.out.slice
        obtain ⟨m', hm'⟩ : ∃ m', m' = (dropL l k).length := ⟨_, rfl⟩
        rw [← hm'] at d1 ⊢
        have hA : IntKind.i64.wrap ((l.length : Int) - 1) = (m' : Int) := by rw [show (l.length : Int) - 1 = m' by omega]; exact IntWalk.i64_in _ (by omega)
        have hA2 : (l.length : Int) - 1 = (m' : Int) := by omega
        have HM' := Lib.hid hm'
        clear hm'
        have HC6 := HC5
        have HB6 := HB5
        obtain ⟨w6, hw6⟩ : ∃ w6, w6 = w5 := ⟨_, rfl⟩
        rw [← hw6] at HB6 HC6 HD5 ⊢
        clear hw6
        obtain ⟨xx, t1, t2⟩ := fc_here HH.out HR.out
        have z0 := HC6.out.c0
        go_wp2_with fail
        refine (pfloor l _ k w6 (HP.out.below HB6.out) HR.out (by omega)).mono ?_; rintro _ w7 ⟨rfl, hb⟩
        have HC7 := Lib.hid (HC6.out.below hb)
        have HB7 := Lib.hid (below_on HB6.out hb)
        clear hb z0
        have zz := Ext.on HC7.out.c0
        rw [t1]
        obtain ⟨f1, f2⟩ := xx
        simp only [show (opt (some (f1, f2))) = (f1, f2) from rfl, Option.isSome_some]
        clear hA hA2 d1
        go_wp2_with fail
        generalize hW : World.alloc w7 _ = W7
        have hBW : Below w7.heap.size w7 W7 := by rw [← hW]; (repeat (first | exact Below.refl _ _ | assumption | refine below_new ?_ _ | refine Below.drew ?_ | refine below_drewN ?_ _ | refine below_on ?_ (by assumption)))
        have HF7 := Lib.hid (show Cell2 W7 w7.heap.size f1 f2 by rw [← hW]; exact Cell2.new w7 f1 f2 _)
        have HC7 := Lib.hid (HC7.out.below hBW)
        have HB7 := Lib.hid (below_on HB7.out hBW)
        clear hW hBW zz
        refine (pceil l _ k W7 (HP.out.below HB7.out) HR.out (by omega)).mono ?_; rintro _ w8 ⟨rfl, hb⟩
        have HF8 := Lib.hid (HF7.out.below hb)
        have HB8 := Lib.hid (below_on HB7.out hb)
        clear hb
        rw [t2]
        simp only [show (opt (some (f1, f2))) = (f1, f2) from rfl, Option.isSome_some]
        clear t1 t2
        have a0 := Ext.on HF8.out.c0; have a1 := Ext.on HF8.out.c1
        go_wp2_with fail
        refine (lives8_calls _).mono ?_; rintro _ w9 ⟨rfl, hb⟩
        have HB9 := Lib.hid (below_on (below_new HB8.out _) hb)
        clear hb
        go_wp2_with fail
        (try go_ret)
        rw [HQ.out]
        exact ⟨ret_bool rfl, HB9.out⟩
end Go.Proofs.Ytjeoiieglecdbaa
