/- Layer 35: an answer as text, of the reference. -/
import Derived.Test.YtgamkbinajilgaaDoorTxwC
namespace Go.Proofs.YtgamkbinajilgaaDoor
open Go.RowKit
set_option linter.unusedVariables false
set_option linter.unusedSimpArgs false
open Go.Lib (itoa)
theorem answerT_eq (a : An) : answerT a = kS a.kind ++ restT a := by
  unfold answerT
  split
  · rfl
  · rename_i h
    unfold kS restT
    rw [if_neg h, if_neg (by omega), if_neg (by omega), if_neg (by omega)]; rfl
set_option maxRecDepth 8000 in
set_option maxHeartbeats 4000000 in
theorem ranswer {w : World} (a : An) {av : Value} (hp : PR w av a.ps) (hi : Ints a.ps) (hl : a.ps.length ≤ 200) (h1 : I64 a.key) (h2 : I64 a.val) (h3 : I64 a.n) :
    Calls Tryd.prog 9 #[.agg #[.int .i64 a.kind, .int .i64 a.key, .int .i64 a.val, .int .i64 a.n, av]] w fun e w' => e = .returned (.string ⟨(answerT a).toArray⟩) ∧ Below w.heap.size w w' := by
  refine Calls.veil fun Q HQ => ?_
  obtain ⟨p, k, rfl, hk1, hk2, HA⟩ := hp.parts
  obtain ⟨kind, key, val, n, ps⟩ := a
  obtain ⟨AT, hAT⟩ : ∃ x, x = answerT ⟨kind, key, val, n, ps⟩ := ⟨_, rfl⟩
  have HATT := Lib.hid (hAT.trans (answerT_eq _))
  rw [← hAT] at HQ
  have HKI := Lib.hid (And.intro h1 (And.intro h2 h3)); have HI := Lib.hid hi; have HL := Lib.hid hl; have HP := Lib.hid hp
  simp only at HKI HI HL HA HP hk1 HATT ⊢
  have HKC := Lib.hid hk2; have HKB := Lib.hid hk1
  clear hp hi hl h1 h2 h3 hAT hk1 hk2
  go_enter Tryd.func9, Tryd.ntmps9
  go_upto_region 1 with fail
  generalize hV : World.alloc w _ = V
  have hbV : Below w.heap.size w V := by rw [← hV]; exact below_new (Below.refl _ _) _
  have x0 : V.cell? ⟨w.heap.size, 0, none⟩ = some (.int .i64 kind) := by rw [← hV]; exact Ext.made rfl 0 _ rfl ⟨_, Below.refl _ _⟩
  have x1 : V.cell? ⟨w.heap.size, 1, none⟩ = some (.int .i64 key) := by rw [← hV]; exact Ext.made rfl 1 _ rfl ⟨_, Below.refl _ _⟩
  have x2 : V.cell? ⟨w.heap.size, 2, none⟩ = some (.int .i64 val) := by rw [← hV]; exact Ext.made rfl 2 _ rfl ⟨_, Below.refl _ _⟩
  have x3 : V.cell? ⟨w.heap.size, 3, none⟩ = some (.int .i64 n) := by rw [← hV]; exact Ext.made rfl 3 _ rfl ⟨_, Below.refl _ _⟩
  have x4 : V.cell? ⟨w.heap.size, 4, none⟩ = some (.slice p ps.length k) := by rw [← hV]; exact Ext.made rfl 4 _ rfl ⟨_, Below.refl _ _⟩
  have HBV := Lib.hid hbV
  have HX := Lib.hid (And.intro x0 (And.intro x1 (And.intro x2 (And.intro x3 x4))))
  generalize w.heap.size = X at x0 x1 x2 x3 x4 HX ⊢
  have HAV := Lib.hid (show ∀ i, i < ps.length → ∃ g o, p = some ⟨g, o, none⟩ ∧ V.cell? ⟨g, o + i * 2, none⟩ = some (.int .i64 (ky ps i)) ∧ V.cell? ⟨g, o + i * 2 + 1, none⟩ = some (.int .i64 (vl ps i)) from fun i hi => by
    obtain ⟨g, o, e, c0, c1⟩ := HA.out i hi
    exact ⟨g, o, e, Ext.cell ⟨V, hbV⟩ c0, Ext.cell ⟨V, hbV⟩ c1⟩)
  obtain ⟨m, hm⟩ : ∃ m, m = ps.length := ⟨_, rfl⟩
  have HM := Lib.hid hm
  have hm200 : m ≤ 200 := by have := HL.out; omega
  rw [← hm] at HX HKB ⊢
  clear hV hbV x1 x2 x3 x4 HA HP hm
  go_wp2_with fail
  refine (rkind kind _).mono ?_; rintro _ z1 ⟨rfl, hb1⟩
  have HZ1 := Lib.hid hb1
  have x0 := Ext.cell ⟨z1, hb1⟩ HX.out.1; have x1 := Ext.cell ⟨z1, hb1⟩ HX.out.2.1; have x2 := Ext.cell ⟨z1, hb1⟩ HX.out.2.2.1; have x3 := Ext.cell ⟨z1, hb1⟩ HX.out.2.2.2.1; have x4 := Ext.cell ⟨z1, hb1⟩ HX.out.2.2.2.2
  simp only at x0 x1 x2 x3 x4
  have HKL := Lib.hid (kS_len kind)
  generalize kS kind = ks at HATT HKL ⊢
  clear hb1
  rcases (by omega : kind = 1 ∨ kind = 2 ∨ kind = 3 ∨ (kind ≠ 1 ∧ kind ≠ 2 ∧ kind ≠ 3)) with rfl | rfl | rfl | ⟨hc1, hc2, hc3⟩
  · have HAT := Lib.hid (show AT = ks ++ (32 :: (itoa key ++ 32 :: itoa val)) from HATT.out)
    clear HATT
    go_upto_region 3 with fail
    have y0 := Ext.cells x0; have y1 := Ext.cells x1; have y2 := Ext.cells x2; have y4 := Ext.cells x4
    have hk21 := Lib.itoa_length_le key HKI.out.1.1 HKI.out.1.2
    have hu21 := Lib.itoa_length_le val HKI.out.2.1.1 HKI.out.2.1.2
    obtain ⟨js, hjs⟩ : ∃ x, x = itoa key := ⟨_, rfl⟩
    obtain ⟨us, hus⟩ : ∃ x, x = itoa val := ⟨_, rfl⟩
    rw [← hjs, ← hus] at HAT; rw [← hjs] at hk21; rw [← hus] at hu21
    have HJS := Lib.hid hjs; have HUS := Lib.hid hus; have HJ := Lib.hid hk21; have HU := Lib.hid hu21
    clear hjs hus hk21 hu21 x0 x1 x2 x3 x4
    have q0 : ¬ 9223372036854775807 < ks.length + 1 := by have h1 := HKL.out; omega
    have q1 : ¬ 9223372036854775807 < ks.length + 1 + js.length := by have h1 := HKL.out; have := HJ.out; omega
    have q2 : ¬ 9223372036854775807 < ks.length + 1 + js.length + 1 := by have h1 := HKL.out; have := HJ.out; omega
    have q3 : ¬ 9223372036854775807 < ks.length + 1 + js.length + 1 + us.length := by have h1 := HKL.out; have := HJ.out; have := HU.out; omega
    (with_reducible refine wp_region_mix (fun w' => ∃ y : Ext z1, w' = y.w) ?_ ?_ ?_ ?_; kernel_rfl; kernel_rfl; exact ⟨⟨z1.drew, (Below.refl _ _).drew⟩, rfl⟩)
    repeat (first | ((with_reducible refine mix_skip (by kernel_rfl) ?_); go_big_quiet_skip; (with_reducible refine mix_on ?_)) | ((with_reducible refine mix_plain (by kernel_rfl) ?_); (first | go_big_quiet_skip | (go_big_quiet_want; go_big_quiet_op; go_big_quiet_on)); (with_reducible refine mix_on ?_)))
    ((with_reducible refine wpMix_chain (by kernel_rfl) (by kernel_rfl) (fun K HK => ?_)); go_step)
    refine (rnum key HKI.out.1 _).mono ?_; rintro _ y3 ⟨rfl, hb1⟩
    have HZ3 := Lib.hid (below_on (Below.refl z1.heap.size z1).drew hb1)
    rw [← HJS.out]
    refine HK.out _ _ ⟨⟨y3, HZ3.out⟩, rfl⟩ ?_
    clear HK K hb1
    repeat (first | ((with_reducible refine mix_skip (by kernel_rfl) ?_); go_big_quiet_skip; (with_reducible refine mix_on ?_)) | ((with_reducible refine mix_plain (by kernel_rfl) ?_); (first | go_big_quiet_skip | (go_big_quiet_want; go_big_quiet_op; go_big_quiet_on)); (with_reducible refine mix_on ?_)))
    ((with_reducible refine wpMix_chain (by kernel_rfl) (by kernel_rfl) (fun K HK => ?_)); go_step)
    refine (rnum val HKI.out.2.1 _).mono ?_; rintro _ z2 ⟨rfl, hb1⟩
    have HZ4 := Lib.hid (below_on HZ3.out hb1)
    rw [← HUS.out]
    refine HK.out _ _ ⟨⟨z2, HZ4.out⟩, rfl⟩ ?_
    clear HK K hb1
    repeat (first | ((with_reducible refine mix_skip (by kernel_rfl) ?_); go_big_quiet_skip; (with_reducible refine mix_on ?_)) | ((with_reducible refine mix_plain (by kernel_rfl) ?_); (first | go_big_quiet_skip | (go_big_quiet_want; go_big_quiet_op; go_big_quiet_on)); (with_reducible refine mix_on ?_)))
    refine wpMix_nil ?_
    have HZ2 := Lib.hid (below_on HZ1.out HZ4.out)
    have HSE := Lib.hid (show Value.string (({ data := ks.toArray } : ByteArray) ++ { data := #[32] } ++ { data := js.toArray } ++ { data := #[32] } ++ { data := us.toArray }) = .string ⟨AT.toArray⟩ by rw [HAT.out]; exact strE (by simp))
    generalize (({ data := ks.toArray } : ByteArray) ++ { data := #[32] } ++ { data := js.toArray } ++ { data := #[32] } ++ { data := us.toArray }) = str at *
    have x0 := y0 ⟨z2, HZ4.out⟩; have x4 := y4 ⟨z2, HZ4.out⟩
    simp only at x0 x4
    clear y0 y1 y2 y4 q0 q1 q2 q3
    go_wp2_with fail
    go_loopw [3, 4] (fun sv iv wr => sv = .string str ∧ iv = .int .i64 0 ∧ Hid (Below z2.heap.size z2 wr)) (fun _ iv _ => 0)
    case atStart => exact ⟨rfl, rfl, Lib.hid (Below.refl _ _)⟩
    case round =>
      obtain ⟨rfl, rfl, HW⟩ := hrel
      have x0 := Ext.cell ⟨wr, HW.out⟩ x0; have x4 := Ext.cell ⟨wr, HW.out⟩ x4
      simp only at x0 x4
      rcases (by omega : m = 0 ∨ 0 < m) with h0 | h0
      · have hq : ¬ (0 : Int) < (m : Int) := by omega
        go_wp2_with fail
        (try go_ret)
        rw [HQ.out, ← HSE.out]
        exact ⟨rfl, below_on HBV.out (below_on HZ2.out HW.out)⟩
      · have hq : (0 : Int) < (m : Int) := by omega
        go_wp2_with fail
        (try go_ret)
        rw [HQ.out, ← HSE.out]
        exact ⟨rfl, below_on HBV.out (below_on HZ2.out HW.out)⟩
  · have HAT := Lib.hid (show AT = ks ++ (32 :: itoa n) from HATT.out)
    clear HATT
    have q0 : ¬ 9223372036854775807 < ks.length + 1 := by have h1 := HKL.out; omega
    go_wp2_with fail
    refine (rnum n HKI.out.2.2 _).mono ?_; rintro _ z2 ⟨rfl, hb1⟩
    have HZ4 := Lib.hid hb1
    have HZ2 := Lib.hid (below_on HZ1.out hb1)
    have x0 := Ext.cell ⟨z2, hb1⟩ x0; have x4 := Ext.cell ⟨z2, hb1⟩ x4
    simp only at x0 x4
    have HJ := Lib.hid (Lib.itoa_length_le n HKI.out.2.2.1 HKI.out.2.2.2)
    generalize itoa n = js at HAT HJ ⊢
    have q1 : ¬ 9223372036854775807 < ks.length + 1 + js.length := by have h1 := HKL.out; have := HJ.out; omega
    have HSE := Lib.hid (show Value.string (({ data := ks.toArray } : ByteArray) ++ { data := #[32] } ++ { data := js.toArray }) = .string ⟨AT.toArray⟩ by rw [HAT.out]; exact strE (by simp))
    clear hb1 x1 x2 x3
    go_wp2_with fail
    go_loopw [3, 4] (fun sv iv wr => sv = .string (({ data := ks.toArray } : ByteArray) ++ { data := #[32] } ++ { data := js.toArray }) ∧ iv = .int .i64 0 ∧ Hid (Below z2.heap.size z2 wr)) (fun _ iv _ => 0)
    case atStart => exact ⟨rfl, rfl, Lib.hid (Below.refl _ _)⟩
    case round =>
      obtain ⟨rfl, rfl, HW⟩ := hrel
      have x0 := Ext.cell ⟨wr, HW.out⟩ x0; have x4 := Ext.cell ⟨wr, HW.out⟩ x4
      simp only at x0 x4
      rcases (by omega : m = 0 ∨ 0 < m) with h0 | h0
      · have hq : ¬ (0 : Int) < (m : Int) := by omega
        go_wp2_with fail
        (try go_ret)
        rw [HQ.out, ← HSE.out]
        exact ⟨rfl, below_on HBV.out (below_on HZ2.out HW.out)⟩
      · have hq : (0 : Int) < (m : Int) := by omega
        go_wp2_with fail
        (try go_ret)
        rw [HQ.out, ← HSE.out]
        exact ⟨rfl, below_on HBV.out (below_on HZ2.out HW.out)⟩
  · have HAT := Lib.hid (show AT = ks ++ prsT ps from HATT.out)
    clear HATT x1 x2 x3
    go_wp2_with fail
    go_loopw [3, 4] (fun sv iv wr => ∃ i : Nat, i ≤ m ∧ iv = .int .i64 i ∧ sv = .string ⟨(ks ++ prsT (ps.take i)).toArray⟩ ∧ Hid (Below z1.heap.size z1 wr)) (fun _ iv _ => m - (intOf iv).toNat)
    case atStart => exact ⟨0, Nat.zero_le _, rfl, by simp [prsT], Lib.hid (Below.refl _ _)⟩
    case round =>
      obtain ⟨i, hi, rfl, rfl, HW⟩ := hrel
      have x0 := Ext.cell ⟨wr, HW.out⟩ x0; have x4 := Ext.cell ⟨wr, HW.out⟩ x4
      simp only at x0 x4
      rcases (by omega : i < m ∨ i = m) with hlt | heq
      · have hli : i < ps.length := by have := HM.out; omega
        obtain ⟨gp, o, rfl, c0, c1⟩ := HAV.out i hli
        have c0 := Ext.cell ⟨wr, below_on HZ1.out HW.out⟩ c0
        have c1 := Ext.cell ⟨wr, below_on HZ1.out HW.out⟩ c1
        simp only at c0 c1
        have hkv := HI.out.ky hli
        have HTL := Lib.hid (show (prsT (ps.take i)).length ≤ 8800 by have h1 := prsT_tlen HI.out i; have h2 := HL.out; omega)
        obtain ⟨kk, hk⟩ : ∃ k, k = ky ps i := ⟨_, rfl⟩
        obtain ⟨u, hu⟩ : ∃ u, u = vl ps i := ⟨_, rfl⟩
        rw [← hk] at c0 hkv; rw [← hu] at c1 hkv
        have HKV := Lib.hid hkv
        have HE := Lib.hid (show prsT (ps.take (i + 1)) = prsT (ps.take i) ++ prT (kk, u) by rw [hk, hu]; exact prsT_take hli)
        generalize prsT (ps.take i) = ta at HE HTL ⊢
        clear hk hu hkv hli
        have hii : (i : Int) < m := by omega
        have hk21 := Lib.itoa_length_le kk HKV.out.1.1 HKV.out.1.2
        have hu21 := Lib.itoa_length_le u HKV.out.2.1 HKV.out.2.2
        obtain ⟨js, hjs⟩ : ∃ x, x = itoa kk := ⟨_, rfl⟩
        obtain ⟨us, hus⟩ : ∃ x, x = itoa u := ⟨_, rfl⟩
        have HPR := Lib.hid (show prT (kk, u) = 32 :: (js ++ 58 :: us) by rw [hjs, hus]; rfl)
        rw [← hjs] at hk21; rw [← hus] at hu21
        have HJS := Lib.hid hjs; have HUS := Lib.hid hus; have HJ := Lib.hid hk21; have HU := Lib.hid hu21
        clear hjs hus hk21 hu21
        go_upto_region 9 with fail
        have y4 := Ext.cells x4; have d0 := Ext.cells c0; have d1 := Ext.cells c1
        clear x0 x4 c0 c1
        have q0 : ¬ 9223372036854775807 < ks.length + ta.length + 1 := by have h1 := HKL.out; have := HTL.out; omega
        have q1 : ¬ 9223372036854775807 < ks.length + ta.length + 1 + js.length := by have h1 := HKL.out; have := HTL.out; have := HJ.out; omega
        have q2 : ¬ 9223372036854775807 < ks.length + ta.length + 1 + js.length + 1 := by have h1 := HKL.out; have := HTL.out; have := HJ.out; omega
        have q3 : ¬ 9223372036854775807 < ks.length + ta.length + 1 + js.length + 1 + us.length := by have h1 := HKL.out; have := HTL.out; have := HJ.out; have := HU.out; omega
        (with_reducible refine wp_region_mix (fun w' => ∃ y : Ext wr, w' = y.w) ?_ ?_ ?_ ?_; kernel_rfl; kernel_rfl; exact ⟨⟨wr.drew, (Below.refl _ _).drew⟩, rfl⟩)
        repeat (first | ((with_reducible refine mix_skip (by kernel_rfl) ?_); go_big_quiet_skip; (with_reducible refine mix_on ?_)) | ((with_reducible refine mix_plain (by kernel_rfl) ?_); (first | go_big_quiet_skip | (go_big_quiet_want; go_big_quiet_op; go_big_quiet_on)); (with_reducible refine mix_on ?_)))
        ((with_reducible refine wpMix_chain (by kernel_rfl) (by kernel_rfl) (fun K HK => ?_)); go_step)
        refine (rnum kk HKV.out.1 _).mono ?_; rintro _ y3 ⟨rfl, hb1⟩
        have HZ3 := Lib.hid (below_on (Below.refl wr.heap.size wr).drew hb1)
        rw [← HJS.out]
        refine HK.out _ _ ⟨⟨y3, HZ3.out⟩, rfl⟩ ?_
        clear HK K hb1
        repeat (first | ((with_reducible refine mix_skip (by kernel_rfl) ?_); go_big_quiet_skip; (with_reducible refine mix_on ?_)) | ((with_reducible refine mix_plain (by kernel_rfl) ?_); (first | go_big_quiet_skip | (go_big_quiet_want; go_big_quiet_op; go_big_quiet_on)); (with_reducible refine mix_on ?_)))
        ((with_reducible refine wpMix_chain (by kernel_rfl) (by kernel_rfl) (fun K HK => ?_)); go_step)
        refine (rnum u HKV.out.2 _).mono ?_; rintro _ z2 ⟨rfl, hb1⟩
        have HZ4 := Lib.hid (below_on HZ3.out hb1)
        rw [← HUS.out]
        refine HK.out _ _ ⟨⟨z2, HZ4.out⟩, rfl⟩ ?_
        clear HK K hb1
        repeat (first | ((with_reducible refine mix_skip (by kernel_rfl) ?_); go_big_quiet_skip; (with_reducible refine mix_on ?_)) | ((with_reducible refine mix_plain (by kernel_rfl) ?_); (first | go_big_quiet_skip | (go_big_quiet_want; go_big_quiet_op; go_big_quiet_on)); (with_reducible refine mix_on ?_)))
        refine wpMix_nil ?_
        clear y4 d0 d1 q0 q1 q2 q3
        go_wp2_with fail
        go_roundw
        case rel => exact ⟨i + 1, by omega, by go_num, by rw [HE.out, HPR.out]; exact strE (by simp), Lib.hid (below_on HW.out HZ4.out)⟩
        case measure => simp [intOf]; omega
      · have hge : ¬ (i : Int) < m := by omega
        subst heq
        have HET := Lib.hid (show ps.take i = ps by rw [List.take_of_length_le (by have := HM.out; omega)])
        go_wp2_with fail
        (try go_ret)
        rw [HQ.out, HAT.out, HET.out]
        exact ⟨rfl, below_on HBV.out (below_on HZ1.out HW.out)⟩
  · have HAT := Lib.hid (show AT = ks by rw [HATT.out]; unfold restT; simp only; rw [if_neg hc1, if_neg hc2, if_neg hc3, List.append_nil])
    have e1 := neq_b hc1; have e2 := neq_b hc2; have e3 := neq_b hc3
    clear HATT x1 x2 x3 hc1 hc2 hc3
    go_wp2_with fail
    go_loopw [3, 4] (fun sv iv wr => sv = .string ⟨ks.toArray⟩ ∧ iv = .int .i64 0 ∧ Hid (Below z1.heap.size z1 wr)) (fun _ iv _ => 0)
    case atStart => exact ⟨rfl, rfl, Lib.hid (Below.refl _ _)⟩
    case round =>
      obtain ⟨rfl, rfl, HW⟩ := hrel
      have x0 := Ext.cell ⟨wr, HW.out⟩ x0; have x4 := Ext.cell ⟨wr, HW.out⟩ x4
      simp only at x0 x4
      rcases (by omega : m = 0 ∨ 0 < m) with h0 | h0
      · have hq : ¬ (0 : Int) < (m : Int) := by omega
        go_wp2_with fail
        (try go_ret)
        rw [HQ.out, HAT.out]
        exact ⟨rfl, below_on HBV.out (below_on HZ1.out HW.out)⟩
      · have hq : (0 : Int) < (m : Int) := by omega
        go_wp2_with fail
        (try go_ret)
        rw [HQ.out, HAT.out]
        exact ⟨rfl, below_on HBV.out (below_on HZ1.out HW.out)⟩
end Go.Proofs.YtgamkbinajilgaaDoor
