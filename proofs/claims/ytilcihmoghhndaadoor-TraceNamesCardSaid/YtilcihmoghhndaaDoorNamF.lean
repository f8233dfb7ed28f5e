/- Layer 40: the walk of TraceNames. -/
import Derived.Test.YtilcihmoghhndaaDoorNamE
namespace Go.Proofs.YtilcihmoghhndaaDoor
open Go.RowKit
set_option linter.unusedVariables false
set_option linter.unusedSimpArgs false
open Go.Lib (itoa decDigits)
theorem three_open {w : World} {v : Value} (h : Fr.okN w [.int .i64, .int .i64, .int .u64] v) : ∃ x y z : Int, v = .agg #[.int .i64 x, .int .i64 y, .int .u64 z] := by
  obtain ⟨cs, rfl, h⟩ := h
  obtain ⟨_, _, rfl, k0, h⟩ := Fr.get_cons h
  obtain ⟨_, _, rfl, k1, h⟩ := Fr.get_cons h
  obtain ⟨_, _, rfl, k2, h⟩ := Fr.get_cons h
  obtain rfl := Fr.get_nil h
  obtain ⟨x, rfl, _⟩ := Fr.get_int k0
  obtain ⟨y, rfl, _⟩ := Fr.get_int k1
  obtain ⟨z, rfl, _⟩ := Fr.get_int k2
  exact ⟨x, y, z, rfl⟩
theorem wfU {n : Int} (h : (Lit.int .u64 n).wf = true) : ∃ u : Nat, n = u ∧ u < 18446744073709551616 := by
  simp [Lit.wf, IntKind.min, IntKind.max, IntKind.signed, IntKind.bits] at h
  exact ⟨n.toNat, by omega, by omega⟩
theorem change_open {w : World} {v : Value} (h : Fr.okN w [.int .i64, .int .u64, .int .u64] v) : ∃ (x : Int) (u t : Nat), v = .agg #[.int .i64 x, .int .u64 u, .int .u64 t] ∧ u < 18446744073709551616 ∧ t < 18446744073709551616 := by
  obtain ⟨cs, rfl, h⟩ := h
  obtain ⟨_, _, rfl, k0, h⟩ := Fr.get_cons h
  obtain ⟨_, _, rfl, k1, h⟩ := Fr.get_cons h
  obtain ⟨_, _, rfl, k2, h⟩ := Fr.get_cons h
  obtain rfl := Fr.get_nil h
  obtain ⟨x, rfl, _⟩ := Fr.get_int k0
  obtain ⟨y, rfl, h1⟩ := Fr.get_int k1
  obtain ⟨z, rfl, h2⟩ := Fr.get_int k2
  obtain ⟨u, rfl, h3⟩ := wfU h1
  obtain ⟨t, rfl, h4⟩ := wfU h2
  exact ⟨x, u, t, rfl, h3, h4⟩
set_option maxRecDepth 16000 in
set_option maxHeartbeats 8000000 in
theorem traceNames_walk (v0 v1 v2 : Value) (w : World) (s0 : Fr.okN w [.int .i64, .int .i64, .int .u64] v0) (s1 : Fr.okN w [.int .i64, .int .u64, .int .u64] v1) (s2 : Fr.ok1 w .str v2) (hpow : Pow w.heap.size w) :
    Calls Tryd.prog 3 #[v0, v1, v2] w fun e w' => e = .returned (.bool true) ∧ Below w.heap.size w w' := by
  refine Calls.veil fun Q HQ => ?_
  obtain ⟨T, S, K, rfl⟩ := three_open s0
  obtain ⟨at_, u, v, rfl, hu, hv⟩ := change_open s1
  obtain ⟨⟨⟨sl⟩⟩, rfl, hsz⟩ := Fr.get_str s2
  have HT := Lib.hid hpow; have HUV := Lib.hid (And.intro hu hv)
  clear s0 s1 s2 hpow hsz hu hv
  go_enter Tryd.func3, Tryd.ntmps3
  go_upto_region 1 with fail
  generalize hV : World.alloc (World.alloc w _) _ = V
  have hbV : Below w.heap.size w V := by rw [← hV]; (repeat (first | exact Below.refl _ _ | assumption | refine below_new ?_ _ | refine Below.drew ?_ | refine below_drewN ?_ _ | refine below_on ?_ (by assumption)))
  have e : w.heap.size + 1 = (w.alloc (.cells #[.int .i64 T, .int .i64 S, .int .u64 K] 24)).heap.size := by simp
  have x0 : V.cell? ⟨w.heap.size, 0, none⟩ = some (.int .i64 T) := by rw [← hV]; exact Ext.made1 rfl 0 _ rfl ⟨_, Below.refl _ _⟩
  have x1 : V.cell? ⟨w.heap.size, 1, none⟩ = some (.int .i64 S) := by rw [← hV]; exact Ext.made1 rfl 1 _ rfl ⟨_, Below.refl _ _⟩
  have x2 : V.cell? ⟨w.heap.size, 2, none⟩ = some (.int .u64 K) := by rw [← hV]; exact Ext.made1 rfl 2 _ rfl ⟨_, Below.refl _ _⟩
  have y0 : V.cell? ⟨w.heap.size + 1, 0, none⟩ = some (.int .i64 at_) := by rw [← hV, e]; exact Ext.made rfl 0 _ rfl ⟨_, Below.refl _ _⟩
  have y1 : V.cell? ⟨w.heap.size + 1, 1, none⟩ = some (.int .u64 u) := by rw [← hV, e]; exact Ext.made rfl 1 _ rfl ⟨_, Below.refl _ _⟩
  have y2 : V.cell? ⟨w.heap.size + 1, 2, none⟩ = some (.int .u64 v) := by rw [← hV, e]; exact Ext.made rfl 2 _ rfl ⟨_, Below.refl _ _⟩
  have HBV := Lib.hid hbV
  have HX := Lib.hid (And.intro x0 (And.intro x1 (And.intro x2 (And.intro y0 (And.intro y1 y2)))))
  generalize w.heap.size + 1 = Y at y0 y1 y2 HX ⊢
  generalize w.heap.size = X at x0 x1 x2 HX ⊢
  clear hV hbV e
  go_wp2_with fail
  refine (tname_nil at_ _).mono ?_; rintro _ z1 ⟨rfl, hb1⟩
  have HZ1 := Lib.hid hb1
  have x0 := Ext.cell ⟨z1, hb1⟩ HX.out.1; have x1 := Ext.cell ⟨z1, hb1⟩ HX.out.2.1; have x2 := Ext.cell ⟨z1, hb1⟩ HX.out.2.2.1; have y0 := Ext.cell ⟨z1, hb1⟩ HX.out.2.2.2.1; have y1 := Ext.cell ⟨z1, hb1⟩ HX.out.2.2.2.2.1; have y2 := Ext.cell ⟨z1, hb1⟩ HX.out.2.2.2.2.2
  simp only at x0 x1 x2 y0 y1 y2
  have HW1 := Lib.hid (below_on HBV.out hb1)
  clear hb1
  rcases (by omega : 100 < sl.length ∨ sl.length ≤ 100) with j | j
  · have jj : (100 : Int) < (sl.length : Int) := by omega
    go_wp2_with fail
    refine (lives40_calls (HT.out.up (HW1.out))).mono ?_; rintro _ z9 ⟨rfl, hb⟩
    go_wp2_with fail
    (try go_ret)
    rw [HQ.out]
    exact ⟨rfl, below_on (HW1.out) hb⟩
  have jj : ¬ (100 : Int) < (sl.length : Int) := by omega
  cases hm : mayC T S K with
  | false =>
    have HM := Lib.hid hm
    clear hm
    go_wp2_with fail
    refine (pnew_no T S K _ HM.out).mono ?_; rintro _ z2 ⟨rfl, hb2⟩
    have x0 := Ext.cell ⟨z2, below_on HZ1.out hb2⟩ HX.out.1; have x1 := Ext.cell ⟨z2, below_on HZ1.out hb2⟩ HX.out.2.1; have x2 := Ext.cell ⟨z2, below_on HZ1.out hb2⟩ HX.out.2.2.1; have y0 := Ext.cell ⟨z2, below_on HZ1.out hb2⟩ HX.out.2.2.2.1; have y1 := Ext.cell ⟨z2, below_on HZ1.out hb2⟩ HX.out.2.2.2.2.1; have y2 := Ext.cell ⟨z2, below_on HZ1.out hb2⟩ HX.out.2.2.2.2.2
    simp only at x0 x1 x2 y0 y1 y2
    have HZ2 := Lib.hid (below_on HW1.out hb2)
    clear hb2
    go_wp2_with fail
    refine (rmay_calls T S K _).mono ?_; rintro _ z3 ⟨rfl, hb3⟩
    rw [HM.out]
    have HZ3 := Lib.hid (below_on HZ2.out hb3)
    clear hb3
    go_wp2_with fail
    refine (lives40_calls (HT.out.up (HZ3.out))).mono ?_; rintro _ z9 ⟨rfl, hb⟩
    go_wp2_with fail
    (try go_ret)
    rw [HQ.out]
    exact ⟨rfl, below_on (HZ3.out) hb⟩
  | true =>
  have HM := Lib.hid hm
  clear hm
  go_wp2_with fail
  refine (pnew_yes T S K _ HM.out).mono ?_; rintro _ z2 ⟨b, rfl, _, hh, hb2⟩
  have c0 : z2.cell? ⟨b, 0, none⟩ = some (.int .i64 T) := by rw [cell_of_row _ _ _ _ _ (0, 0) hh]; rfl
  have c1 : z2.cell? ⟨b, 1, none⟩ = some (.int .i64 S) := by rw [cell_of_row _ _ _ _ _ (0, 0) hh]; rfl
  have HC := Lib.hid (And.intro c0 c1)
  have x0 := Ext.cell ⟨z2, below_on HZ1.out hb2⟩ HX.out.1; have x1 := Ext.cell ⟨z2, below_on HZ1.out hb2⟩ HX.out.2.1; have x2 := Ext.cell ⟨z2, below_on HZ1.out hb2⟩ HX.out.2.2.1; have y0 := Ext.cell ⟨z2, below_on HZ1.out hb2⟩ HX.out.2.2.2.1; have y1 := Ext.cell ⟨z2, below_on HZ1.out hb2⟩ HX.out.2.2.2.2.1; have y2 := Ext.cell ⟨z2, below_on HZ1.out hb2⟩ HX.out.2.2.2.2.2
  simp only at x0 x1 x2 y0 y1 y2
  have HZ2 := Lib.hid (below_on HZ1.out hb2)
  clear hb2 c0 c1 hh
  go_wp2_with fail
  refine (rmay_calls T S K _).mono ?_; rintro _ z3 ⟨rfl, hb3⟩
  rw [HM.out]
  have HB23 := Lib.hid hb3
  have x0 := Ext.cell ⟨z3, below_on HZ2.out hb3⟩ HX.out.1; have x1 := Ext.cell ⟨z3, below_on HZ2.out hb3⟩ HX.out.2.1; have x2 := Ext.cell ⟨z3, below_on HZ2.out hb3⟩ HX.out.2.2.1; have y0 := Ext.cell ⟨z3, below_on HZ2.out hb3⟩ HX.out.2.2.2.1; have y1 := Ext.cell ⟨z3, below_on HZ2.out hb3⟩ HX.out.2.2.2.2.1; have y2 := Ext.cell ⟨z3, below_on HZ2.out hb3⟩ HX.out.2.2.2.2.2
  simp only at x0 x1 x2 y0 y1 y2
  have HZ3 := Lib.hid (below_on HZ2.out hb3)
  have HW3 := Lib.hid (below_on HBV.out HZ3.out)
  clear hb3
  rcases (by omega : 60 < S ∨ S ≤ 60) with j6 | j6
  · go_wp2_with fail
    refine (lives40_calls (HT.out.up (HW3.out))).mono ?_; rintro _ z9 ⟨rfl, hb⟩
    go_wp2_with fail
    (try go_ret)
    rw [HQ.out]
    exact ⟨rfl, below_on (HW3.out) hb⟩
  have hj6 : ¬ 60 < S := by omega
  have hmc := mayC_true HM.out
  obtain ⟨t, rfl⟩ := Int.eq_ofNat_of_zero_le (show 0 ≤ T by omega)
  obtain ⟨s, rfl⟩ := Int.eq_ofNat_of_zero_le (show 0 ≤ S by omega)
  have ht1 : 1 ≤ t := by omega
  have ht2 : t ≤ 6 := by omega
  have hs1 : 7 ≤ s := by omega
  have hs2 : s ≤ 60 := by omega
  have HTS := Lib.hid (And.intro (And.intro ht1 ht2) (And.intro hs1 hs2))
  have HC3 := Lib.hid (And.intro (Ext.cell ⟨z3, HB23.out⟩ HC.out.1) (Ext.cell ⟨z3, HB23.out⟩ HC.out.2))
  have HNA := Lib.hid (fun (a : Int) (W : World) (k : Below z3.heap.size z3 W) => tname a (w := W) (Ext.cell ⟨W, k⟩ HC3.out.1) (Ext.cell ⟨W, k⟩ HC3.out.2) (by omega) (by omega) (by omega) (by omega) (HT.out.up (below_on HW3.out k)))
  have HRN := Lib.hid (fun (a : Int) (W : World) => rname (t := t) (s := s) (K := K) a (w := W) ht1 ht2 hs1 (by omega))
  have HLN := Lib.hid (fun (W : World) (k : Below z3.heap.size z3 W) => tline at_ u v (w := W) HUV.out.1 HUV.out.2 (Ext.cell ⟨W, k⟩ HC3.out.1) (Ext.cell ⟨W, k⟩ HC3.out.2) (by omega) (by omega) (by omega) (by omega) (HT.out.up (below_on HW3.out k)))
  have HRL := Lib.hid (fun (W : World) => rline (t := t) (s := s) (K := K) at_ u v (w := W) HUV.out.1 HUV.out.2 ht1 ht2 hs1 (by omega))
  obtain ⟨n, hn⟩ : ∃ n, n = 3 + 8 * t + 7 * s := ⟨_, rfl⟩
  have HNW := Lib.hid (show wordsI t s = n by unfold wordsI; omega)
  have HPL := Lib.hid (fun (sl : List UInt8) (W : World) (k : Below z3.heap.size z3 W) => tplace (T := t) (S := s) (n := n) sl (w := W) HNW.out (Ext.cell ⟨W, k⟩ HC3.out.1) (Ext.cell ⟨W, k⟩ HC3.out.2) (by omega) (by omega) (by omega) (by omega) (HT.out.up (below_on HW3.out k)))
  have HRW := Lib.hid (fun (W : World) => rwords_calls t s K W ht1 ht2 hs1 (by omega))
  rw [← hn] at HRW
  have hn0 : 0 < n := by omega
  have hn9 : n ≤ 1801 := by omega
  obtain ⟨nm, hnm⟩ : ∃ x, x = nmT t s at_ := ⟨_, rfl⟩
  obtain ⟨ln, hln⟩ : ∃ x, x = lineT t s at_ u v := ⟨_, rfl⟩
  have HNM := Lib.hid hnm
  have HN1 := Lib.hid (HNA.out at_); have HR1 := Lib.hid (HRN.out at_)
  rw [← hnm] at HN1 HR1; rw [← hln] at HLN HRL
  clear hmc ht1 ht2 hs1 hs2 hn hnm hln j6
  go_upto_region 8 with fail
  have w0 := Ext.cells x0; have w1 := Ext.cells x1; have w2 := Ext.cells x2; have v0 := Ext.cells y0; have v1 := Ext.cells y1; have v2 := Ext.cells y2
  (with_reducible refine wp_region_mix (fun w' => ∃ y : Ext z3, w' = y.w) ?_ ?_ ?_ ?_; kernel_rfl; kernel_rfl; exact ⟨⟨z3.drew, (Below.refl _ _).drew⟩, rfl⟩)
  have HP0 := Lib.hid ((Below.refl z3.heap.size z3).drew)
  repeat (first | ((with_reducible refine mix_skip (by kernel_rfl) ?_); go_big_quiet_skip; (with_reducible refine mix_on ?_)) | ((with_reducible refine mix_plain (by kernel_rfl) ?_); (first | go_big_quiet_skip | (go_big_quiet_want; go_big_quiet_op; go_big_quiet_on)); (with_reducible refine mix_on ?_)))
  ((with_reducible refine wpMix_chain (by kernel_rfl) (by kernel_rfl) (fun K HK => ?_)); go_step)
  refine (HN1.out _ HP0.out).mono ?_; rintro _ q0 ⟨rfl, hb1⟩
  have HP1 := Lib.hid (below_on HP0.out hb1)
  refine HK.out _ _ ⟨⟨q0, HP1.out⟩, rfl⟩ ?_
  clear HK hb1
  repeat (first | ((with_reducible refine mix_skip (by kernel_rfl) ?_); go_big_quiet_skip; (with_reducible refine mix_on ?_)) | ((with_reducible refine mix_plain (by kernel_rfl) ?_); (first | go_big_quiet_skip | (go_big_quiet_want; go_big_quiet_op; go_big_quiet_on)); (with_reducible refine mix_on ?_)))
  ((with_reducible refine wpMix_chain (by kernel_rfl) (by kernel_rfl) (fun K HK => ?_)); go_step)
  refine (HR1.out _).mono ?_; rintro _ q1 ⟨rfl, hb1⟩
  have HP2 := Lib.hid (below_on HP1.out hb1)
  refine HK.out _ _ ⟨⟨q1, HP2.out⟩, rfl⟩ ?_
  clear HK hb1
  repeat (first | ((with_reducible refine mix_skip (by kernel_rfl) ?_); go_big_quiet_skip; (with_reducible refine mix_on ?_)) | ((with_reducible refine mix_plain (by kernel_rfl) ?_); (first | go_big_quiet_skip | (go_big_quiet_want; go_big_quiet_op; go_big_quiet_on)); (with_reducible refine mix_on ?_)))
  ((with_reducible refine wpMix_chain (by kernel_rfl) (by kernel_rfl) (fun K HK => ?_)); go_step)
  refine (HLN.out _ HP2.out).mono ?_; rintro _ q2 ⟨rfl, hb1⟩
  have HP3 := Lib.hid (below_on HP2.out hb1)
  refine HK.out _ _ ⟨⟨q2, HP3.out⟩, rfl⟩ ?_
  clear HK hb1
  repeat (first | ((with_reducible refine mix_skip (by kernel_rfl) ?_); go_big_quiet_skip; (with_reducible refine mix_on ?_)) | ((with_reducible refine mix_plain (by kernel_rfl) ?_); (first | go_big_quiet_skip | (go_big_quiet_want; go_big_quiet_op; go_big_quiet_on)); (with_reducible refine mix_on ?_)))
  ((with_reducible refine wpMix_chain (by kernel_rfl) (by kernel_rfl) (fun K HK => ?_)); go_step)
  refine (HRL.out _).mono ?_; rintro _ q3 ⟨rfl, hb1⟩
  have HP4 := Lib.hid (below_on HP3.out hb1)
  refine HK.out _ _ ⟨⟨q3, HP4.out⟩, rfl⟩ ?_
  clear HK hb1
  repeat (first | ((with_reducible refine mix_skip (by kernel_rfl) ?_); go_big_quiet_skip; (with_reducible refine mix_on ?_)) | ((with_reducible refine mix_plain (by kernel_rfl) ?_); (first | go_big_quiet_skip | (go_big_quiet_want; go_big_quiet_op; go_big_quiet_on)); (with_reducible refine mix_on ?_)))
  refine wpMix_nil ?_
  have x0 := w0 ⟨q3, HP4.out⟩; have x1 := w1 ⟨q3, HP4.out⟩; have x2 := w2 ⟨q3, HP4.out⟩; have y0 := v0 ⟨q3, HP4.out⟩; have y1 := v1 ⟨q3, HP4.out⟩; have y2 := v2 ⟨q3, HP4.out⟩
  simp only at x0 x1 x2 y0 y1 y2
  clear w0 w1 w2 v0 v1 v2
  go_wp2_with fail
  refine (HRW.out _).mono ?_; rintro _ q4 ⟨wv, rfl, hown, hb⟩
  obtain ⟨g, cap, rfl, _, _, _, _, _⟩ := own_cells hown hn0
  have HP5 := Lib.hid (below_on HP4.out hb)
  clear hown hb
  have x0 := Ext.cell ⟨q4, below_on HZ3.out HP5.out⟩ HX.out.1; have x1 := Ext.cell ⟨q4, below_on HZ3.out HP5.out⟩ HX.out.2.1; have x2 := Ext.cell ⟨q4, below_on HZ3.out HP5.out⟩ HX.out.2.2.1; have y0 := Ext.cell ⟨q4, below_on HZ3.out HP5.out⟩ HX.out.2.2.2.1; have y1 := Ext.cell ⟨q4, below_on HZ3.out HP5.out⟩ HX.out.2.2.2.2.1; have y2 := Ext.cell ⟨q4, below_on HZ3.out HP5.out⟩ HX.out.2.2.2.2.2
  simp only at x0 x1 x2 y0 y1 y2
  go_wp2_with fail
  have HP5W := Lib.hid (below_on HZ3.out HP5.out)
  have HN9 := Lib.hid hn9
  clear x0 x1 x2 y0 y1 y2 hn0 hn9 j jj hj6
  go_loopw [10, 11, 12] (fun wv sv iv wr => ∃ i : Nat, i ≤ n ∧ iv = .int .i64 i ∧ wv = .int .i64 ((fstN t sl i).getD 0 : Nat) ∧ sv = .bool (fstN t sl i).isSome ∧ Hid (Below z3.heap.size z3 wr)) (fun _ _ iv _ => n - (intOf iv).toNat)
  case atStart => exact ⟨0, Nat.zero_le _, rfl, rfl, rfl, HP5⟩
  case round =>
    obtain ⟨i, hi, rfl, rfl, rfl, HQW⟩ := hrel
    cases hf : fstN t sl i with
    | some k =>
      have HFN := Lib.hid (fst_up hf hi)
      simp only [Option.getD_some, Option.isSome_some]
      have x0 := Ext.cell ⟨wr, below_on HZ3.out HQW.out⟩ HX.out.1; have x1 := Ext.cell ⟨wr, below_on HZ3.out HQW.out⟩ HX.out.2.1; have x2 := Ext.cell ⟨wr, below_on HZ3.out HQW.out⟩ HX.out.2.2.1; have y0 := Ext.cell ⟨wr, below_on HZ3.out HQW.out⟩ HX.out.2.2.2.1; have y1 := Ext.cell ⟨wr, below_on HZ3.out HQW.out⟩ HX.out.2.2.2.2.1; have y2 := Ext.cell ⟨wr, below_on HZ3.out HQW.out⟩ HX.out.2.2.2.2.2
      simp only at x0 x1 x2 y0 y1 y2
      clear hf
      rcases (by omega : i < n ∨ i = n) with hlt | heq
      · have hii : (i : Int) < n := by omega
        go_wp2_with fail
        refine (HPL.out sl _ HQW.out).mono ?_; rintro _ q6 ⟨rfl, hb6⟩
        rw [HFN.out]
        simp only [Option.getD_some, Option.isSome_some, Option.getD_none, Option.isSome_none]
        have HQ6 := Lib.hid (below_on HQW.out hb6)
        have x0 := Ext.cell ⟨q6, below_on HZ3.out HQ6.out⟩ HX.out.1; have x1 := Ext.cell ⟨q6, below_on HZ3.out HQ6.out⟩ HX.out.2.1; have x2 := Ext.cell ⟨q6, below_on HZ3.out HQ6.out⟩ HX.out.2.2.1; have y0 := Ext.cell ⟨q6, below_on HZ3.out HQ6.out⟩ HX.out.2.2.2.1; have y1 := Ext.cell ⟨q6, below_on HZ3.out HQ6.out⟩ HX.out.2.2.2.2.1; have y2 := Ext.cell ⟨q6, below_on HZ3.out HQ6.out⟩ HX.out.2.2.2.2.2
        simp only at x0 x1 x2 y0 y1 y2
        clear hb6
        rcases (by omega : at_ < 0 ∨ (0 ≤ at_ ∧ (n : Int) ≤ at_) ∨ (0 ≤ at_ ∧ at_ < n)) with ha | ⟨ha, ha2⟩ | ⟨ha, ha2⟩
        · go_wp2_with fail
          refine (lives40_calls (HT.out.up (below_on HW3.out HQ6.out))).mono ?_; rintro _ z9 ⟨rfl, hb⟩
          go_wp2_with fail
          (try go_ret)
          rw [HQ.out]
          exact ⟨rfl, below_on (below_on HW3.out HQ6.out) hb⟩

        · have ha3 : ¬ at_ < 0 := by omega
          go_wp2_with fail
          refine (lives40_calls (HT.out.up (below_on HW3.out HQ6.out))).mono ?_; rintro _ z9 ⟨rfl, hb⟩
          go_wp2_with fail
          (try go_ret)
          rw [HQ.out]
          exact ⟨rfl, below_on (below_on HW3.out HQ6.out) hb⟩

        · obtain ⟨an, rfl⟩ := Int.eq_ofNat_of_zero_le ha
          have han : an < n := by omega
          have HNX := Lib.hid (show nm = nameT t (an : Int) by rw [HNM.out]; exact nm_yes (decide_eq_true (by have := HNW.out; omega)))
          have HFO := Lib.hid (show fstN t nm n = some an by rw [HNX.out]; exact fst_own (T := t) (S := s) (by have := HTS.out; omega) (by have := HTS.out; omega) (by have := HTS.out; omega) HNW.out han)
          have ha3 : ¬ (an : Int) < 0 := by omega
          have ha4 : ¬ (n : Int) ≤ an := by omega
          go_wp2_with fail
          refine (HR1.out _).mono ?_; rintro _ q7 ⟨rfl, hb7⟩
          have HQ7 := Lib.hid (below_on HQ6.out hb7)
          clear hb7
          go_wp2_with fail
          refine (HPL.out nm _ HQ7.out).mono ?_; rintro _ q8 ⟨rfl, hb8⟩
          rw [HFO.out]
          simp only [Option.getD_some, Option.isSome_some]
          have HQ8 := Lib.hid (below_on HQ7.out hb8)
          have y0 := Ext.cell ⟨q8, below_on HZ3.out HQ8.out⟩ HX.out.2.2.2.1
          simp only at y0
          clear hb8 x0 x1 x2 y1 y2
          go_wp2_with fail
          refine (lives40_calls (HT.out.up (below_on HW3.out HQ8.out))).mono ?_; rintro _ z9 ⟨rfl, hb⟩
          go_wp2_with fail
          (try go_ret)
          rw [HQ.out]
          exact ⟨rfl, below_on (below_on HW3.out HQ8.out) hb⟩
      · have hge : ¬ (i : Int) < n := by omega
        go_wp2_with fail
        refine (HPL.out sl _ HQW.out).mono ?_; rintro _ q6 ⟨rfl, hb6⟩
        rw [HFN.out]
        simp only [Option.getD_some, Option.isSome_some, Option.getD_none, Option.isSome_none]
        have HQ6 := Lib.hid (below_on HQW.out hb6)
        have x0 := Ext.cell ⟨q6, below_on HZ3.out HQ6.out⟩ HX.out.1; have x1 := Ext.cell ⟨q6, below_on HZ3.out HQ6.out⟩ HX.out.2.1; have x2 := Ext.cell ⟨q6, below_on HZ3.out HQ6.out⟩ HX.out.2.2.1; have y0 := Ext.cell ⟨q6, below_on HZ3.out HQ6.out⟩ HX.out.2.2.2.1; have y1 := Ext.cell ⟨q6, below_on HZ3.out HQ6.out⟩ HX.out.2.2.2.2.1; have y2 := Ext.cell ⟨q6, below_on HZ3.out HQ6.out⟩ HX.out.2.2.2.2.2
        simp only at x0 x1 x2 y0 y1 y2
        clear hb6
        rcases (by omega : at_ < 0 ∨ (0 ≤ at_ ∧ (n : Int) ≤ at_) ∨ (0 ≤ at_ ∧ at_ < n)) with ha | ⟨ha, ha2⟩ | ⟨ha, ha2⟩
        · go_wp2_with fail
          refine (lives40_calls (HT.out.up (below_on HW3.out HQ6.out))).mono ?_; rintro _ z9 ⟨rfl, hb⟩
          go_wp2_with fail
          (try go_ret)
          rw [HQ.out]
          exact ⟨rfl, below_on (below_on HW3.out HQ6.out) hb⟩

        · have ha3 : ¬ at_ < 0 := by omega
          go_wp2_with fail
          refine (lives40_calls (HT.out.up (below_on HW3.out HQ6.out))).mono ?_; rintro _ z9 ⟨rfl, hb⟩
          go_wp2_with fail
          (try go_ret)
          rw [HQ.out]
          exact ⟨rfl, below_on (below_on HW3.out HQ6.out) hb⟩

        · obtain ⟨an, rfl⟩ := Int.eq_ofNat_of_zero_le ha
          have han : an < n := by omega
          have HNX := Lib.hid (show nm = nameT t (an : Int) by rw [HNM.out]; exact nm_yes (decide_eq_true (by have := HNW.out; omega)))
          have HFO := Lib.hid (show fstN t nm n = some an by rw [HNX.out]; exact fst_own (T := t) (S := s) (by have := HTS.out; omega) (by have := HTS.out; omega) (by have := HTS.out; omega) HNW.out han)
          have ha3 : ¬ (an : Int) < 0 := by omega
          have ha4 : ¬ (n : Int) ≤ an := by omega
          go_wp2_with fail
          refine (HR1.out _).mono ?_; rintro _ q7 ⟨rfl, hb7⟩
          have HQ7 := Lib.hid (below_on HQ6.out hb7)
          clear hb7
          go_wp2_with fail
          refine (HPL.out nm _ HQ7.out).mono ?_; rintro _ q8 ⟨rfl, hb8⟩
          rw [HFO.out]
          simp only [Option.getD_some, Option.isSome_some]
          have HQ8 := Lib.hid (below_on HQ7.out hb8)
          have y0 := Ext.cell ⟨q8, below_on HZ3.out HQ8.out⟩ HX.out.2.2.2.1
          simp only at y0
          clear hb8 x0 x1 x2 y1 y2
          go_wp2_with fail
          refine (lives40_calls (HT.out.up (below_on HW3.out HQ8.out))).mono ?_; rintro _ z9 ⟨rfl, hb⟩
          go_wp2_with fail
          (try go_ret)
          rw [HQ.out]
          exact ⟨rfl, below_on (below_on HW3.out HQ8.out) hb⟩
    | none =>
      have HFI := Lib.hid hf
      simp only [Option.getD_none, Option.isSome_none]
      have x0 := Ext.cell ⟨wr, below_on HZ3.out HQW.out⟩ HX.out.1; have x1 := Ext.cell ⟨wr, below_on HZ3.out HQW.out⟩ HX.out.2.1; have x2 := Ext.cell ⟨wr, below_on HZ3.out HQW.out⟩ HX.out.2.2.1; have y0 := Ext.cell ⟨wr, below_on HZ3.out HQW.out⟩ HX.out.2.2.2.1; have y1 := Ext.cell ⟨wr, below_on HZ3.out HQW.out⟩ HX.out.2.2.2.2.1; have y2 := Ext.cell ⟨wr, below_on HZ3.out HQW.out⟩ HX.out.2.2.2.2.2
      simp only at x0 x1 x2 y0 y1 y2
      clear hf
      rcases (by omega : i < n ∨ i = n) with hlt | heq
      · have hii : (i : Int) < n := by omega
        have HNY := Lib.hid (show nmT t s (i : Int) = nameT t (i : Int) from nm_yes (decide_eq_true (by have := HNW.out; omega)))
        go_wp2_with fail
        refine (HRN.out (i : Int) _).mono ?_; rintro _ q6 ⟨rfl, hb6⟩
        rw [HNY.out]
        have HQ6 := Lib.hid (below_on HQW.out hb6)
        have HFX := Lib.hid (fun (b : Bool) (hb : (nameT t (i : Int) == sl) = b) => fst_next HFI.out b hb)
        generalize nameT t (i : Int) = nt at HFX ⊢
        obtain ⟨bq, hbq⟩ : ∃ x, x = (nt == sl) := ⟨_, rfl⟩
        have HFY := Lib.hid (HFX.out bq hbq.symm)
        have hbz := hbq.symm
        have hi9 : (i : Int) < 2000 := by have := HN9.out; omega
        clear hb6 hbq
        cases bq with
        | true =>
          go_wp2_with fail
          go_roundw
          case rel => exact ⟨i + 1, by omega, by go_num, by rw [HFY.out]; rfl, by rw [HFY.out]; rfl, HQ6⟩
          case measure => simp [intOf]; omega
        | false =>
          go_wp2_with fail
          go_roundw
          case rel => exact ⟨i + 1, by omega, by go_num, by rw [HFY.out]; rfl, by rw [HFY.out]; rfl, HQ6⟩
          case measure => simp [intOf]; omega
      · have hge : ¬ (i : Int) < n := by omega
        have HFN := Lib.hid (show fstN t sl n = none by rw [← heq]; exact HFI.out)
        go_wp2_with fail
        refine (HPL.out sl _ HQW.out).mono ?_; rintro _ q6 ⟨rfl, hb6⟩
        rw [HFN.out]
        simp only [Option.getD_some, Option.isSome_some, Option.getD_none, Option.isSome_none]
        have HQ6 := Lib.hid (below_on HQW.out hb6)
        have x0 := Ext.cell ⟨q6, below_on HZ3.out HQ6.out⟩ HX.out.1; have x1 := Ext.cell ⟨q6, below_on HZ3.out HQ6.out⟩ HX.out.2.1; have x2 := Ext.cell ⟨q6, below_on HZ3.out HQ6.out⟩ HX.out.2.2.1; have y0 := Ext.cell ⟨q6, below_on HZ3.out HQ6.out⟩ HX.out.2.2.2.1; have y1 := Ext.cell ⟨q6, below_on HZ3.out HQ6.out⟩ HX.out.2.2.2.2.1; have y2 := Ext.cell ⟨q6, below_on HZ3.out HQ6.out⟩ HX.out.2.2.2.2.2
        simp only at x0 x1 x2 y0 y1 y2
        clear hb6
        rcases (by omega : at_ < 0 ∨ (0 ≤ at_ ∧ (n : Int) ≤ at_) ∨ (0 ≤ at_ ∧ at_ < n)) with ha | ⟨ha, ha2⟩ | ⟨ha, ha2⟩
        · go_wp2_with fail
          refine (lives40_calls (HT.out.up (below_on HW3.out HQ6.out))).mono ?_; rintro _ z9 ⟨rfl, hb⟩
          go_wp2_with fail
          (try go_ret)
          rw [HQ.out]
          exact ⟨rfl, below_on (below_on HW3.out HQ6.out) hb⟩

        · have ha3 : ¬ at_ < 0 := by omega
          go_wp2_with fail
          refine (lives40_calls (HT.out.up (below_on HW3.out HQ6.out))).mono ?_; rintro _ z9 ⟨rfl, hb⟩
          go_wp2_with fail
          (try go_ret)
          rw [HQ.out]
          exact ⟨rfl, below_on (below_on HW3.out HQ6.out) hb⟩

        · obtain ⟨an, rfl⟩ := Int.eq_ofNat_of_zero_le ha
          have han : an < n := by omega
          have HNX := Lib.hid (show nm = nameT t (an : Int) by rw [HNM.out]; exact nm_yes (decide_eq_true (by have := HNW.out; omega)))
          have HFO := Lib.hid (show fstN t nm n = some an by rw [HNX.out]; exact fst_own (T := t) (S := s) (by have := HTS.out; omega) (by have := HTS.out; omega) (by have := HTS.out; omega) HNW.out han)
          have ha3 : ¬ (an : Int) < 0 := by omega
          have ha4 : ¬ (n : Int) ≤ an := by omega
          go_wp2_with fail
          refine (HR1.out _).mono ?_; rintro _ q7 ⟨rfl, hb7⟩
          have HQ7 := Lib.hid (below_on HQ6.out hb7)
          clear hb7
          go_wp2_with fail
          refine (HPL.out nm _ HQ7.out).mono ?_; rintro _ q8 ⟨rfl, hb8⟩
          rw [HFO.out]
          simp only [Option.getD_some, Option.isSome_some]
          have HQ8 := Lib.hid (below_on HQ7.out hb8)
          have y0 := Ext.cell ⟨q8, below_on HZ3.out HQ8.out⟩ HX.out.2.2.2.1
          simp only at y0
          clear hb8 x0 x1 x2 y1 y2
          go_wp2_with fail
          refine (lives40_calls (HT.out.up (below_on HW3.out HQ8.out))).mono ?_; rintro _ z9 ⟨rfl, hb⟩
          go_wp2_with fail
          (try go_ret)
          rw [HQ.out]
          exact ⟨rfl, below_on (below_on HW3.out HQ8.out) hb⟩
end Go.Proofs.YtilcihmoghhndaaDoor
