/- Layer 10: whether an answer may be told: the reference. -/
import Derived.Test.YtcbdbfmlkkpndaaModW
namespace Go.Proofs.Ytcbdbfmlkkpndaa
open Go.RowKit
set_option linter.unusedVariables false
set_option linter.unusedSimpArgs false
theorem s5_mk {W w : World} {B Y : Nat} {b : Nat} {a0 a1 a2 a3 a4 : Value} (k : KX [b] W w) (z0 : W.cell? ⟨B, 0, none⟩ = some a0) (z1 : W.cell? ⟨B, 1, none⟩ = some a1) (c0 : W.cell? ⟨B + 1, 0, none⟩ = some a2) (e0 : W.cell? ⟨B + 1 + 1, 0, none⟩ = some a3) (d0 : W.cell? ⟨Y + 1, 0, none⟩ = some a4) (h0 : B ∉ [b]) (h1 : B + 1 ∉ [b]) (h2 : B + 1 + 1 ∉ [b]) (h3 : Y + 1 ∉ [b]) :
    KX [b] W w ∧ w.cell? ⟨B, 0, none⟩ = some a0 ∧ w.cell? ⟨B, 1, none⟩ = some a1 ∧ w.cell? ⟨B + 1, 0, none⟩ = some a2 ∧ w.cell? ⟨B + 1 + 1, 0, none⟩ = some a3 ∧ w.cell? ⟨Y + 1, 0, none⟩ = some a4 :=
  ⟨k, k.cell z0 h0, k.cell z1 h0, k.cell c0 h1, k.cell e0 h2, k.cell d0 h3⟩
set_option maxRecDepth 16000 in
set_option maxHeartbeats 4000000 in
theorem rtold {w : World} {st : Sm} {mv tv av : Value} (hp : PO w mv st.mp) (ht : TR w tv st.n st.th) (ok : OkS st) (t : Int) (c : Ca) (a : An) (ha : PR w av a.ps) (hal : a.ps.length ≤ 2000) :
    Calls Try.prog 15 #[.agg #[mv, tv], .int .i64 t, caV c, anV a av] w (ToP w (toldA st t c a)) := by
  refine Calls.veil fun Q HQ => ?_
  have HP := Lib.hid hp; have HT := Lib.hid ht; have HOK := Lib.hid ok; have HA := Lib.hid ha
  have HAL := Lib.hid (show a.ps.length ≤ 100000 by omega)
  obtain ⟨op, key, val, hi, lim⟩ := c
  obtain ⟨ak, aky, avl, an, aps⟩ := a
  obtain ⟨st', hst⟩ : ∃ x, x = (doA st t ⟨op, key, val, hi, lim⟩).1 := ⟨_, rfl⟩
  obtain ⟨m, hm⟩ : ∃ x, x = (doA st t ⟨op, key, val, hi, lim⟩).2 := ⟨_, rfl⟩
  obtain ⟨s, hs⟩ : ∃ s, s = sameAB ak aky avl an aps m.kind m.key m.val m.n m.ps := ⟨_, rfl⟩
  have HT1 := Lib.hid (show s = true → toldA st t ⟨op, key, val, hi, lim⟩ ⟨ak, aky, avl, an, aps⟩ = (st', true) from fun h => by unfold toldA; simp only; rw [← hm, ← hst, ← hs, if_pos h])
  have HT2 := Lib.hid (show s = false → toldA st t ⟨op, key, val, hi, lim⟩ ⟨ak, aky, avl, an, aps⟩ = (st, fullB op m ⟨ak, aky, avl, an, aps⟩ || spentB op m ⟨ak, aky, avl, an, aps⟩) from fun h => by unfold toldA; simp only; rw [← hm, ← hs, h, if_neg (by decide)])
  have HST := Lib.hid (And.intro hst hm)
  have HS := Lib.hid hs
  obtain ⟨p, pc, rfl, _, _⟩ := hp.1.slice
  obtain ⟨q, qc, rfl, _, _, _⟩ := ht.slice
  obtain ⟨r, rc, rfl, _, _⟩ := ha.slice
  unfold caV anV
  simp only at HA HAL ⊢
  clear hp ht ok ha hal hst hm hs
  go_enter Try.func15, Try.ntmps15
  go_upto_region 1 with fail
  generalize hU : World.alloc _ _ = U
  obtain ⟨u0, u1, u2, u3, us, hbu⟩ := heap4e hU
  obtain ⟨B, hB⟩ : ∃ B, B = w.heap.size := ⟨_, rfl⟩
  rw [← hB] at u0 u1 u2 u3 us ⊢
  have HU0 := Lib.hid u0; have HU1 := Lib.hid u1; have HU2 := Lib.hid u2; have HU3 := Lib.hid u3; have HUS := Lib.hid us; have HBU := Lib.hid hbu
  have HWB := Lib.hid (show w.heap.size ≤ B by rw [hB]; exact Nat.le_refl _)
  have z0 := newcell u0 0 _ rfl; have z1 := newcell u0 1 _ rfl
  have c0 := newcell u1 0 _ rfl; have c1 := newcell u1 1 _ rfl; have c2 := newcell u1 2 _ rfl; have c3 := newcell u1 3 _ rfl; have c4 := newcell u1 4 _ rfl
  clear hU hB u0 u1 u2 u3 us hbu
  go_wp2_with fail
  have C := rdo (HP.out.below HBU.out) (HT.out.below HBU.out) HOK.out t ⟨op, key, val, hi, lim⟩
  rw [← HST.out.1, ← HST.out.2] at C
  refine C.mono ?_; rintro _ w1 ⟨mv1, tv1, av1, rfl, hp1, ht1, ha1, hb1⟩
  obtain ⟨p1, pc1, rfl, _, _⟩ := hp1.1.slice
  obtain ⟨q1, qc1, rfl, _, _, _⟩ := ht1.slice
  obtain ⟨r1, rc1, rfl, _, _⟩ := ha1.1.slice
  unfold anV
  have HP1 := Lib.hid hp1; have HTT := Lib.hid ht1; have HA1 := Lib.hid ha1; have HB1 := Lib.hid hb1
  clear C hp1 ht1 ha1 hb1 z0 z1 c0 c1 c2 c3 c4
  go_upto_region 2 with fail
  generalize hV : World.alloc _ _ = V
  obtain ⟨v0, v1, hbv⟩ := heap2e hV
  obtain ⟨Y, hY⟩ : ∃ Y, Y = w1.heap.size := ⟨_, rfl⟩
  rw [← hY] at v0 v1 ⊢
  have HV0 := Lib.hid v0; have HV1 := Lib.hid v1
  have HBV := Lib.hid (below_on HB1.out hbv)
  have HYB := Lib.hid (show B + 4 ≤ Y by have := HB1.out.size; have := HUS.out; omega)
  have HPV := Lib.hid (HP1.out.below hbv); have HTV := Lib.hid (HTT.out.below hbv); have HAV := Lib.hid (HA1.out.below hbv)
  have d0 := newcell v1 0 _ rfl; have d1 := newcell v1 1 _ rfl; have d2 := newcell v1 2 _ rfl; have d3 := newcell v1 3 _ rfl; have d4 := newcell v1 4 _ rfl
  have a2 := up HBV.out HU2.out
  have e0 := newcell a2 0 _ rfl; have e1 := newcell a2 1 _ rfl; have e2 := newcell a2 2 _ rfl; have e3 := newcell a2 3 _ rfl; have e4 := newcell a2 4 _ rfl
  clear hV hY v0 v1 hbv a2 HP1 HTT HA1
  have HBX := Lib.hid (below_on HBU.out HBV.out)
  go_wp2_with fail
  refine (rsame9 ak aky avl an _ aps m.kind m.key m.val m.n _ m.ps V (HA.out.below HBX.out) HAV.out.1 HAL.out).mono ?_; rintro _ w2 ⟨rfl, hb2⟩
  rw [← HS.out]
  have HB2 := Lib.hid hb2
  have HB2X := Lib.hid (below_on HBV.out hb2)
  have HBW := Lib.hid (below_on HBX.out hb2)
  clear d0 d1 d2 d3 d4 e0 e1 e2 e3 e4 hb2
  have hne : Y ≠ B + 1 + 1 + 1 := by have := HYB.out; omega
  have hne' : B + 1 + 1 + 1 ≠ Y := by have := HYB.out; omega
  cases s with
  | true =>
    have k3 := up HB2X.out HU3.out; have k0 := up HB2.out HV0.out
    have K3 := Lib.hid k3
    have y0 := newcell k0 0 _ rfl; have y1 := newcell k0 1 _ rfl
    have f0 := newcell k3 0 _ rfl; have f1 := newcell k3 1 _ rfl; have ff := newfree k3
    clear k3 k0
    go_wp2_with fail
    refine bodyPost_ret (v := .tuple #[.agg #[.slice p1 st'.mp.length pc1, .slice q1 st'.n qc1], .bool true]) (by simp [results, Try.results15, go_sem, f0, f1, y0, y1, World.cell?_setCell_same, World.cell?_setCell_other]) rfl ?_
    rw [HQ.out, HT1.out (by simp)]
    obtain ⟨x1, x2, x3⟩ := st_ret (w := w) (T := 31) (by decide) K3.out (by have := HWB.out; omega) HBW.out (HPV.out.below HB2.out) (HTV.out.below HB2.out)
    exact ⟨_, _, rfl, x1, x2, x3⟩
  | false =>
    go_upto_region 4 with fail
    have k2 := up HB2X.out HU2.out
    have e1 := newcell k2 1 _ rfl; have e2 := newcell k2 2 _ rfl; have e3 := newcell k2 3 _ rfl; have e4 := newcell k2 4 _ rfl
    clear k2
    have HBE := Lib.hid (fun k => bare_len (a := ⟨ak, aky, avl, an, aps⟩) (k := k))
    go_cut [3, 12] from 13 to 76 (fun p3 p12 wc => p3 = .agg #[.int .i64 ak, .int .i64 aky, .int .i64 avl, .int .i64 an, .slice r aps.length rc] ∧ ∃ b, p12 = .bool b ∧ (b = true → ∀ k, bareB ⟨ak, aky, avl, an, aps⟩ k = decide (ak = k)) ∧ (b = false → ∀ k, bareB ⟨ak, aky, avl, an, aps⟩ k = false) ∧ wc = w2)
    case first =>
      rcases (by omega : aky ≠ 0 ∨ (aky = 0 ∧ avl ≠ 0) ∨ (aky = 0 ∧ avl = 0 ∧ an ≠ 0) ∨ (aky = 0 ∧ avl = 0 ∧ an = 0 ∧ aps.length ≠ 0) ∨ (aky = 0 ∧ avl = 0 ∧ an = 0 ∧ aps.length = 0)) with h1 | ⟨h1, h2⟩ | ⟨h1, h2, h3⟩ | ⟨h1, h2, h3, h4⟩ | ⟨h1, h2, h3, h4⟩
      · have HN := Lib.hid (fun k => bare_not (a := ⟨ak, aky, avl, an, aps⟩) (fun h => h1 h.1) k)
        go_wp2_with fail
        go_meet
        case rel => exact ⟨rfl, false, rfl, (fun h => by cases h), (fun _ => HN.out), rfl⟩
      · have HN := Lib.hid (fun k => bare_not (a := ⟨ak, aky, avl, an, aps⟩) (fun h => h2 h.2.1) k)
        go_wp2_with fail
        go_meet
        case rel => exact ⟨by rw [h1], false, rfl, (fun h => by cases h), (fun _ => HN.out), rfl⟩
      · have HN := Lib.hid (fun k => bare_not (a := ⟨ak, aky, avl, an, aps⟩) (fun h => h3 h.2.2.1) k)
        go_wp2_with fail
        go_meet
        case rel => exact ⟨by rw [h1, h2], false, rfl, (fun h => by cases h), (fun _ => HN.out), rfl⟩
      · have HN := Lib.hid (fun k => bare_not (a := ⟨ak, aky, avl, an, aps⟩) (fun h => h4 h.2.2.2) k)
        go_wp2_with fail
        go_meet
        case rel => exact ⟨by rw [h1, h2, h3], false, by first | rfl | simp [h4], (fun h => by cases h), (fun _ => HN.out), rfl⟩
      · have HN := Lib.hid (fun k => bare_len (a := ⟨ak, aky, avl, an, aps⟩) (by simp [h1, h2, h3, h4]) k)
        go_wp2_with fail
        go_meet
        case rel => exact ⟨by rw [h1, h2, h3, h4], true, by first | rfl | simp [h4], (fun _ => HN.out), fun h => (by cases h), rfl⟩
    case rest =>
    obtain ⟨rfl, bb, rfl, hbt, hbf, rfl⟩ := hcut
    have HBT := Lib.hid hbt; have HBF := Lib.hid hbf
    clear e1 e2 e3 e4 hbt hbf HBE
    have HBC := HBW
    go_upto_region 5 with fail
    have k1 := up HB2X.out HU1.out; have k4 := up HB2.out HV1.out; have k2 := up HB2X.out HU2.out; have k0 := up HB2X.out HU0.out; have k3 := up HB2X.out HU3.out
    have K3 := Lib.hid k3
    have c0 : wc.cell? ⟨B + 1, 0, none⟩ = some (.int .i64 op) := newcell k1 0 _ rfl
    have d0 : wc.cell? ⟨Y + 1, 0, none⟩ = some (.int .i64 m.kind) := newcell k4 0 _ rfl
    have e0 : wc.cell? ⟨B + 1 + 1, 0, none⟩ = some (.int .i64 ak) := newcell k2 0 _ rfl
    have z0 : wc.cell? ⟨B, 0, none⟩ = some (.slice p st.mp.length pc) := newcell k0 0 _ rfl
    have z1 : wc.cell? ⟨B, 1, none⟩ = some (.slice q st.n qc) := newcell k0 1 _ rfl
    have f0 : wc.cell? ⟨B + 1 + 1 + 1, 0, none⟩ = some (.slice none 0 0) := newcell k3 0 _ rfl
    have f1 : wc.cell? ⟨B + 1 + 1 + 1, 1, none⟩ = some (.slice none 0 0) := newcell k3 1 _ rfl
    have ff := newfree k3
    clear k0 k1 k2 k3 k4
    have hB0 : B ∉ [B + 1 + 1 + 1] := by simp; omega
    have hB1 : B + 1 ∉ [B + 1 + 1 + 1] := by simp
    have hB2 : B + 1 + 1 ∉ [B + 1 + 1 + 1] := by simp
    have hY1 : Y + 1 ∉ [B + 1 + 1 + 1] := by have := HYB.out; simp; omega
    have hBm : B + 1 + 1 + 1 ∈ [B + 1 + 1 + 1] := by simp
    have HBS := Lib.hid (And.intro hB0 (And.intro hB1 (And.intro hB2 (And.intro hY1 hBm))))
    clear hB0 hB1 hB2 hY1 hBm
    cases bb with
    | false =>
      have HE := Lib.hid (show (fullB op m ⟨ak, aky, avl, an, aps⟩ || spentB op m ⟨ak, aky, avl, an, aps⟩) = false by
        have h := HBF.out (by simp)
        unfold fullB spentB; rw [h, h]; simp)
      go_upto_region 7 with fail
      have z0x : ∀ x : E4 wc [B + 1 + 1 + 1], x.w.cell? ⟨B, 0, none⟩ = some (.slice p st.mp.length pc) := E4.cells z0 HBS.out.1
      have z1x : ∀ x : E4 wc [B + 1 + 1 + 1], x.w.cell? ⟨B, 1, none⟩ = some (.slice q st.n qc) := E4.cells z1 HBS.out.1
      have c0x : ∀ x : E4 wc [B + 1 + 1 + 1], x.w.cell? ⟨B + 1, 0, none⟩ = some (.int .i64 op) := E4.cells c0 HBS.out.2.1
      have e0x : ∀ x : E4 wc [B + 1 + 1 + 1], x.w.cell? ⟨B + 1 + 1, 0, none⟩ = some (.int .i64 ak) := E4.cells e0 HBS.out.2.2.1
      have d0x : ∀ x : E4 wc [B + 1 + 1 + 1], x.w.cell? ⟨Y + 1, 0, none⟩ = some (.int .i64 m.kind) := E4.cells d0 HBS.out.2.2.2.1
      clear z0 z1 c0 e0 d0 f0 f1 ff
      (with_reducible refine wp_region_mix (fun w' => ∃ x : E4 wc [B + 1 + 1 + 1], w' = x.w) ?_ ?_ ?_ ?_; kernel_rfl; kernel_rfl; exact ⟨⟨wc.drew, .of_below (Below.refl _ _).drew⟩, rfl⟩)
      obtain ⟨wd, hwd⟩ : ∃ wd, wd = wc.drew := ⟨_, rfl⟩
      have hbd : Below wc.heap.size wc wd := by rw [hwd]; exact (Below.refl _ _).drew
      rw [← hwd]
      clear hwd
      have k3 := up hbd K3.out
      have f0 : wd.cell? ⟨B + 1 + 1 + 1, 0, none⟩ = some (.slice none 0 0) := newcell k3 0 _ rfl
      have f1 : wd.cell? ⟨B + 1 + 1 + 1, 1, none⟩ = some (.slice none 0 0) := newcell k3 1 _ rfl
      have ff := newfree k3
      have HK3 := Lib.hid k3
      have HBQ := Lib.hid (below_on HBC.out hbd)
      have HBD := Lib.hid hbd
      clear k3 hbd
      repeat (first | ((with_reducible refine mix_skip (by kernel_rfl) ?_); go_big_quiet_skip; (with_reducible refine mix_on ?_)) | ((with_reducible refine mix_plain (by kernel_rfl) ?_); (first | go_big_quiet_skip | (go_big_quiet_want; go_big_quiet_op; go_big_quiet_on)); (with_reducible refine mix_on ?_)))
      ((with_reducible refine wpMix_chain (by kernel_rfl) (by kernel_rfl) (fun K HK => ?_)); go_step)
      refine HK.out _ _ ⟨⟨_, ((KX.of_below HBD.out).trans (KX.set HBS.out.2.2.2.2)).trans (KX.set HBS.out.2.2.2.2)⟩, rfl⟩ ?_
      clear HK K
      repeat (first | ((with_reducible refine mix_skip (by kernel_rfl) ?_); go_big_quiet_skip; (with_reducible refine mix_on ?_)) | ((with_reducible refine mix_plain (by kernel_rfl) ?_); (first | go_big_quiet_skip | (go_big_quiet_want; go_big_quiet_op; go_big_quiet_on)); (with_reducible refine mix_on ?_)))
      refine wpMix_nil ?_
      clear z0x z1x c0x e0x d0x
      go_wp2_with fail
      refine bodyPost_ret (v := .tuple #[.agg #[.slice p st.mp.length pc, .slice q st.n qc], .bool false]) (by simp [results, Try.results15, go_sem, f0, f1, World.cell?_setCell_same, World.cell?_setCell_other]) rfl ?_
      rw [HQ.out, HT2.out (by simp)]
      obtain ⟨x1, x2, x3⟩ := st_ret (w := w) (T := 31) (by decide) HK3.out (by have := HWB.out; omega) HBQ.out (HP.out.below HBQ.out) (HT.out.below HBQ.out)
      exact ⟨_, _, by rw [HE.out], x1, x2, x3⟩
    | true =>
      have hb6 := HBT.out (by simp) 6
      have hb7 := HBT.out (by simp) 7
      rcases (by omega : (ak = 6 ∧ op = 0 ∧ m.kind = 0) ∨ (ak = 6 ∧ op = 0 ∧ m.kind ≠ 0) ∨ (ak = 6 ∧ op ≠ 0) ∨ (ak ≠ 6 ∧ ak ≠ 7) ∨ (ak ≠ 6 ∧ ak = 7)) with ⟨h1, h2, h3⟩ | ⟨h1, h2, h3⟩ | ⟨h1, h2⟩ | ⟨h1, h2⟩ | ⟨h1, h2⟩
      · have HE := Lib.hid (show (fullB op m ⟨ak, aky, avl, an, aps⟩ || spentB op m ⟨ak, aky, avl, an, aps⟩) = true by unfold fullB spentB; rw [hb6]; simp [h1, h2, h3])
        clear hb6 hb7
        go_wp2_with fail
        refine bodyPost_ret (v := .tuple #[.agg #[.slice p st.mp.length pc, .slice q st.n qc], .bool true]) (by simp [results, Try.results15, go_sem, f0, f1, z0, z1, World.cell?_setCell_same, World.cell?_setCell_other]) rfl ?_
        rw [HQ.out, HT2.out (by simp)]
        obtain ⟨x1, x2, x3⟩ := st_ret (w := w) (T := 31) (by decide) K3.out (by have := HWB.out; omega) HBC.out (HP.out.below HBC.out) (HT.out.below HBC.out)
        exact ⟨_, _, by rw [HE.out], x1, x2, x3⟩
      · have HE := Lib.hid (show (fullB op m ⟨ak, aky, avl, an, aps⟩ || spentB op m ⟨ak, aky, avl, an, aps⟩) = false by unfold fullB spentB; rw [hb6, hb7]; simp [h1, h2, h3])
        clear hb6 hb7
        go_upto_region 7 with fail
        have z0x : ∀ x : E4 wc [B + 1 + 1 + 1], x.w.cell? ⟨B, 0, none⟩ = some (.slice p st.mp.length pc) := E4.cells z0 HBS.out.1
        have z1x : ∀ x : E4 wc [B + 1 + 1 + 1], x.w.cell? ⟨B, 1, none⟩ = some (.slice q st.n qc) := E4.cells z1 HBS.out.1
        have c0x : ∀ x : E4 wc [B + 1 + 1 + 1], x.w.cell? ⟨B + 1, 0, none⟩ = some (.int .i64 op) := E4.cells c0 HBS.out.2.1
        have e0x : ∀ x : E4 wc [B + 1 + 1 + 1], x.w.cell? ⟨B + 1 + 1, 0, none⟩ = some (.int .i64 ak) := E4.cells e0 HBS.out.2.2.1
        have d0x : ∀ x : E4 wc [B + 1 + 1 + 1], x.w.cell? ⟨Y + 1, 0, none⟩ = some (.int .i64 m.kind) := E4.cells d0 HBS.out.2.2.2.1
        clear z0 z1 c0 e0 d0 f0 f1 ff
        (with_reducible refine wp_region_mix (fun w' => ∃ x : E4 wc [B + 1 + 1 + 1], w' = x.w) ?_ ?_ ?_ ?_; kernel_rfl; kernel_rfl; exact ⟨⟨wc.drew, .of_below (Below.refl _ _).drew⟩, rfl⟩)
        obtain ⟨wd, hwd⟩ : ∃ wd, wd = wc.drew := ⟨_, rfl⟩
        have hbd : Below wc.heap.size wc wd := by rw [hwd]; exact (Below.refl _ _).drew
        rw [← hwd]
        clear hwd
        have k3 := up hbd K3.out
        have f0 : wd.cell? ⟨B + 1 + 1 + 1, 0, none⟩ = some (.slice none 0 0) := newcell k3 0 _ rfl
        have f1 : wd.cell? ⟨B + 1 + 1 + 1, 1, none⟩ = some (.slice none 0 0) := newcell k3 1 _ rfl
        have ff := newfree k3
        have HK3 := Lib.hid k3
        have HBQ := Lib.hid (below_on HBC.out hbd)
        have HBD := Lib.hid hbd
        clear k3 hbd
        repeat (first | ((with_reducible refine mix_skip (by kernel_rfl) ?_); go_big_quiet_skip; (with_reducible refine mix_on ?_)) | ((with_reducible refine mix_plain (by kernel_rfl) ?_); (first | go_big_quiet_skip | (go_big_quiet_want; go_big_quiet_op; go_big_quiet_on)); (with_reducible refine mix_on ?_)))
        ((with_reducible refine wpMix_chain (by kernel_rfl) (by kernel_rfl) (fun K HK => ?_)); go_step)
        refine HK.out _ _ ⟨⟨_, ((KX.of_below HBD.out).trans (KX.set HBS.out.2.2.2.2)).trans (KX.set HBS.out.2.2.2.2)⟩, rfl⟩ ?_
        clear HK K
        repeat (first | ((with_reducible refine mix_skip (by kernel_rfl) ?_); go_big_quiet_skip; (with_reducible refine mix_on ?_)) | ((with_reducible refine mix_plain (by kernel_rfl) ?_); (first | go_big_quiet_skip | (go_big_quiet_want; go_big_quiet_op; go_big_quiet_on)); (with_reducible refine mix_on ?_)))
        refine wpMix_nil ?_
        clear z0x z1x c0x e0x d0x
        go_wp2_with fail
        refine bodyPost_ret (v := .tuple #[.agg #[.slice p st.mp.length pc, .slice q st.n qc], .bool false]) (by simp [results, Try.results15, go_sem, f0, f1, World.cell?_setCell_same, World.cell?_setCell_other]) rfl ?_
        rw [HQ.out, HT2.out (by simp)]
        obtain ⟨x1, x2, x3⟩ := st_ret (w := w) (T := 31) (by decide) HK3.out (by have := HWB.out; omega) HBQ.out (HP.out.below HBQ.out) (HT.out.below HBQ.out)
        exact ⟨_, _, by rw [HE.out], x1, x2, x3⟩
      · have HE := Lib.hid (show (fullB op m ⟨ak, aky, avl, an, aps⟩ || spentB op m ⟨ak, aky, avl, an, aps⟩) = false by unfold fullB spentB; rw [hb6, hb7]; simp [h1, h2])
        clear hb6 hb7
        go_upto_region 7 with fail
        have z0x : ∀ x : E4 wc [B + 1 + 1 + 1], x.w.cell? ⟨B, 0, none⟩ = some (.slice p st.mp.length pc) := E4.cells z0 HBS.out.1
        have z1x : ∀ x : E4 wc [B + 1 + 1 + 1], x.w.cell? ⟨B, 1, none⟩ = some (.slice q st.n qc) := E4.cells z1 HBS.out.1
        have c0x : ∀ x : E4 wc [B + 1 + 1 + 1], x.w.cell? ⟨B + 1, 0, none⟩ = some (.int .i64 op) := E4.cells c0 HBS.out.2.1
        have e0x : ∀ x : E4 wc [B + 1 + 1 + 1], x.w.cell? ⟨B + 1 + 1, 0, none⟩ = some (.int .i64 ak) := E4.cells e0 HBS.out.2.2.1
        have d0x : ∀ x : E4 wc [B + 1 + 1 + 1], x.w.cell? ⟨Y + 1, 0, none⟩ = some (.int .i64 m.kind) := E4.cells d0 HBS.out.2.2.2.1
        clear z0 z1 c0 e0 d0 f0 f1 ff
        (with_reducible refine wp_region_mix (fun w' => ∃ x : E4 wc [B + 1 + 1 + 1], w' = x.w) ?_ ?_ ?_ ?_; kernel_rfl; kernel_rfl; exact ⟨⟨wc.drew, .of_below (Below.refl _ _).drew⟩, rfl⟩)
        obtain ⟨wd, hwd⟩ : ∃ wd, wd = wc.drew := ⟨_, rfl⟩
        have hbd : Below wc.heap.size wc wd := by rw [hwd]; exact (Below.refl _ _).drew
        rw [← hwd]
        clear hwd
        have k3 := up hbd K3.out
        have f0 : wd.cell? ⟨B + 1 + 1 + 1, 0, none⟩ = some (.slice none 0 0) := newcell k3 0 _ rfl
        have f1 : wd.cell? ⟨B + 1 + 1 + 1, 1, none⟩ = some (.slice none 0 0) := newcell k3 1 _ rfl
        have ff := newfree k3
        have HK3 := Lib.hid k3
        have HBQ := Lib.hid (below_on HBC.out hbd)
        have HBD := Lib.hid hbd
        clear k3 hbd
        repeat (first | ((with_reducible refine mix_skip (by kernel_rfl) ?_); go_big_quiet_skip; (with_reducible refine mix_on ?_)) | ((with_reducible refine mix_plain (by kernel_rfl) ?_); (first | go_big_quiet_skip | (go_big_quiet_want; go_big_quiet_op; go_big_quiet_on)); (with_reducible refine mix_on ?_)))
        ((with_reducible refine wpMix_chain (by kernel_rfl) (by kernel_rfl) (fun K HK => ?_)); go_step)
        refine HK.out _ _ ⟨⟨_, ((KX.of_below HBD.out).trans (KX.set HBS.out.2.2.2.2)).trans (KX.set HBS.out.2.2.2.2)⟩, rfl⟩ ?_
        clear HK K
        repeat (first | ((with_reducible refine mix_skip (by kernel_rfl) ?_); go_big_quiet_skip; (with_reducible refine mix_on ?_)) | ((with_reducible refine mix_plain (by kernel_rfl) ?_); (first | go_big_quiet_skip | (go_big_quiet_want; go_big_quiet_op; go_big_quiet_on)); (with_reducible refine mix_on ?_)))
        refine wpMix_nil ?_
        clear z0x z1x c0x e0x d0x
        go_wp2_with fail
        refine bodyPost_ret (v := .tuple #[.agg #[.slice p st.mp.length pc, .slice q st.n qc], .bool false]) (by simp [results, Try.results15, go_sem, f0, f1, World.cell?_setCell_same, World.cell?_setCell_other]) rfl ?_
        rw [HQ.out, HT2.out (by simp)]
        obtain ⟨x1, x2, x3⟩ := st_ret (w := w) (T := 31) (by decide) HK3.out (by have := HWB.out; omega) HBQ.out (HP.out.below HBQ.out) (HT.out.below HBQ.out)
        exact ⟨_, _, by rw [HE.out], x1, x2, x3⟩
      · have HE := Lib.hid (show (fullB op m ⟨ak, aky, avl, an, aps⟩ || spentB op m ⟨ak, aky, avl, an, aps⟩) = false by unfold fullB spentB; rw [hb6, hb7]; simp [h1, h2])
        clear hb6 hb7
        go_upto_region 7 with fail
        have z0x : ∀ x : E4 wc [B + 1 + 1 + 1], x.w.cell? ⟨B, 0, none⟩ = some (.slice p st.mp.length pc) := E4.cells z0 HBS.out.1
        have z1x : ∀ x : E4 wc [B + 1 + 1 + 1], x.w.cell? ⟨B, 1, none⟩ = some (.slice q st.n qc) := E4.cells z1 HBS.out.1
        have c0x : ∀ x : E4 wc [B + 1 + 1 + 1], x.w.cell? ⟨B + 1, 0, none⟩ = some (.int .i64 op) := E4.cells c0 HBS.out.2.1
        have e0x : ∀ x : E4 wc [B + 1 + 1 + 1], x.w.cell? ⟨B + 1 + 1, 0, none⟩ = some (.int .i64 ak) := E4.cells e0 HBS.out.2.2.1
        have d0x : ∀ x : E4 wc [B + 1 + 1 + 1], x.w.cell? ⟨Y + 1, 0, none⟩ = some (.int .i64 m.kind) := E4.cells d0 HBS.out.2.2.2.1
        clear z0 z1 c0 e0 d0 f0 f1 ff
        (with_reducible refine wp_region_mix (fun w' => ∃ x : E4 wc [B + 1 + 1 + 1], w' = x.w) ?_ ?_ ?_ ?_; kernel_rfl; kernel_rfl; exact ⟨⟨wc.drew, .of_below (Below.refl _ _).drew⟩, rfl⟩)
        obtain ⟨wd, hwd⟩ : ∃ wd, wd = wc.drew := ⟨_, rfl⟩
        have hbd : Below wc.heap.size wc wd := by rw [hwd]; exact (Below.refl _ _).drew
        rw [← hwd]
        clear hwd
        have k3 := up hbd K3.out
        have f0 : wd.cell? ⟨B + 1 + 1 + 1, 0, none⟩ = some (.slice none 0 0) := newcell k3 0 _ rfl
        have f1 : wd.cell? ⟨B + 1 + 1 + 1, 1, none⟩ = some (.slice none 0 0) := newcell k3 1 _ rfl
        have ff := newfree k3
        have HK3 := Lib.hid k3
        have HBQ := Lib.hid (below_on HBC.out hbd)
        have HBD := Lib.hid hbd
        clear k3 hbd
        repeat (first | ((with_reducible refine mix_skip (by kernel_rfl) ?_); go_big_quiet_skip; (with_reducible refine mix_on ?_)) | ((with_reducible refine mix_plain (by kernel_rfl) ?_); (first | go_big_quiet_skip | (go_big_quiet_want; go_big_quiet_op; go_big_quiet_on)); (with_reducible refine mix_on ?_)))
        (try rw [show decide (ak = 7) = false from decide_eq_false h2])
        (try rw [show (ak == 7) = false from beq_eq_false_iff_ne.2 h2])
        repeat (first | ((with_reducible refine mix_skip (by kernel_rfl) ?_); go_big_quiet_skip; (with_reducible refine mix_on ?_)) | ((with_reducible refine mix_plain (by kernel_rfl) ?_); (first | go_big_quiet_skip | (go_big_quiet_want; go_big_quiet_op; go_big_quiet_on)); (with_reducible refine mix_on ?_)))
        ((with_reducible refine wpMix_chain (by kernel_rfl) (by kernel_rfl) (fun K HK => ?_)); go_step)
        refine HK.out _ _ ⟨⟨_, ((KX.of_below HBD.out).trans (KX.set HBS.out.2.2.2.2)).trans (KX.set HBS.out.2.2.2.2)⟩, rfl⟩ ?_
        clear HK K
        repeat (first | ((with_reducible refine mix_skip (by kernel_rfl) ?_); go_big_quiet_skip; (with_reducible refine mix_on ?_)) | ((with_reducible refine mix_plain (by kernel_rfl) ?_); (first | go_big_quiet_skip | (go_big_quiet_want; go_big_quiet_op; go_big_quiet_on)); (with_reducible refine mix_on ?_)))
        refine wpMix_nil ?_
        clear z0x z1x c0x e0x d0x
        go_wp2_with fail
        refine bodyPost_ret (v := .tuple #[.agg #[.slice p st.mp.length pc, .slice q st.n qc], .bool false]) (by simp [results, Try.results15, go_sem, f0, f1, World.cell?_setCell_same, World.cell?_setCell_other]) rfl ?_
        rw [HQ.out, HT2.out (by simp)]
        obtain ⟨x1, x2, x3⟩ := st_ret (w := w) (T := 31) (by decide) HK3.out (by have := HWB.out; omega) HBQ.out (HP.out.below HBQ.out) (HT.out.below HBQ.out)
        exact ⟨_, _, by rw [HE.out], x1, x2, x3⟩
      · rcases (show (readsB op = false) ∨ (readsB op = true ∧ m.kind = 8) ∨ (readsB op = true ∧ m.kind ≠ 8) by cases readsB op <;> simp <;> omega) with h3 | ⟨h3, h4⟩ | ⟨h3, h4⟩
        · have HE := Lib.hid (show (fullB op m ⟨ak, aky, avl, an, aps⟩ || spentB op m ⟨ak, aky, avl, an, aps⟩) = false by unfold fullB spentB; rw [hb6, hb7]; simp [h1, h2, h3])
          clear hb6 hb7
          go_upto_region 7 with fail
          have z0x : ∀ x : E4 wc [B + 1 + 1 + 1], x.w.cell? ⟨B, 0, none⟩ = some (.slice p st.mp.length pc) := E4.cells z0 HBS.out.1
          have z1x : ∀ x : E4 wc [B + 1 + 1 + 1], x.w.cell? ⟨B, 1, none⟩ = some (.slice q st.n qc) := E4.cells z1 HBS.out.1
          have c0x : ∀ x : E4 wc [B + 1 + 1 + 1], x.w.cell? ⟨B + 1, 0, none⟩ = some (.int .i64 op) := E4.cells c0 HBS.out.2.1
          have e0x : ∀ x : E4 wc [B + 1 + 1 + 1], x.w.cell? ⟨B + 1 + 1, 0, none⟩ = some (.int .i64 ak) := E4.cells e0 HBS.out.2.2.1
          have d0x : ∀ x : E4 wc [B + 1 + 1 + 1], x.w.cell? ⟨Y + 1, 0, none⟩ = some (.int .i64 m.kind) := E4.cells d0 HBS.out.2.2.2.1
          clear z0 z1 c0 e0 d0 f0 f1 ff
          (with_reducible refine wp_region_mix (fun w' => ∃ x : E4 wc [B + 1 + 1 + 1], w' = x.w) ?_ ?_ ?_ ?_; kernel_rfl; kernel_rfl; exact ⟨⟨wc.drew, .of_below (Below.refl _ _).drew⟩, rfl⟩)
          obtain ⟨wd, hwd⟩ : ∃ wd, wd = wc.drew := ⟨_, rfl⟩
          have hbd : Below wc.heap.size wc wd := by rw [hwd]; exact (Below.refl _ _).drew
          rw [← hwd]
          clear hwd
          repeat (first | ((with_reducible refine mix_skip (by kernel_rfl) ?_); go_big_quiet_skip; (with_reducible refine mix_on ?_)) | ((with_reducible refine mix_plain (by kernel_rfl) ?_); (first | go_big_quiet_skip | (go_big_quiet_want; go_big_quiet_op; go_big_quiet_on)); (with_reducible refine mix_on ?_)))
          ((with_reducible refine wpMix_chain (by kernel_rfl) (by kernel_rfl) (fun K HK => ?_)); go_step)
          refine (rreads op wd).mono ?_; rintro _ w5 ⟨rfl, hb5⟩
          rw [h3]
          have hbd := below_on hbd hb5
          refine HK.out _ _ ⟨⟨w5, .of_below hbd⟩, rfl⟩ ?_
          clear HK K hb5
          have k3 := up hbd K3.out
          have f0 : w5.cell? ⟨B + 1 + 1 + 1, 0, none⟩ = some (.slice none 0 0) := newcell k3 0 _ rfl
          have f1 : w5.cell? ⟨B + 1 + 1 + 1, 1, none⟩ = some (.slice none 0 0) := newcell k3 1 _ rfl
          have ff := newfree k3
          have HK3 := Lib.hid k3
          have HBQ := Lib.hid (below_on HBC.out hbd)
          have HBD := Lib.hid hbd
          clear k3 hbd
          repeat (first | ((with_reducible refine mix_skip (by kernel_rfl) ?_); go_big_quiet_skip; (with_reducible refine mix_on ?_)) | ((with_reducible refine mix_plain (by kernel_rfl) ?_); (first | go_big_quiet_skip | (go_big_quiet_want; go_big_quiet_op; go_big_quiet_on)); (with_reducible refine mix_on ?_)))
          ((with_reducible refine wpMix_chain (by kernel_rfl) (by kernel_rfl) (fun K HK => ?_)); go_step)
          refine HK.out _ _ ⟨⟨_, ((KX.of_below HBD.out).trans (KX.set HBS.out.2.2.2.2)).trans (KX.set HBS.out.2.2.2.2)⟩, rfl⟩ ?_
          clear HK K
          repeat (first | ((with_reducible refine mix_skip (by kernel_rfl) ?_); go_big_quiet_skip; (with_reducible refine mix_on ?_)) | ((with_reducible refine mix_plain (by kernel_rfl) ?_); (first | go_big_quiet_skip | (go_big_quiet_want; go_big_quiet_op; go_big_quiet_on)); (with_reducible refine mix_on ?_)))
          refine wpMix_nil ?_
          clear z0x z1x c0x e0x d0x
          go_wp2_with fail
          refine bodyPost_ret (v := .tuple #[.agg #[.slice p st.mp.length pc, .slice q st.n qc], .bool false]) (by simp [results, Try.results15, go_sem, f0, f1, World.cell?_setCell_same, World.cell?_setCell_other]) rfl ?_
          rw [HQ.out, HT2.out (by simp)]
          obtain ⟨x1, x2, x3⟩ := st_ret (w := w) (T := 31) (by decide) HK3.out (by have := HWB.out; omega) HBQ.out (HP.out.below HBQ.out) (HT.out.below HBQ.out)
          exact ⟨_, _, by rw [HE.out], x1, x2, x3⟩
        · have HE := Lib.hid (show (fullB op m ⟨ak, aky, avl, an, aps⟩ || spentB op m ⟨ak, aky, avl, an, aps⟩) = false by unfold fullB spentB; rw [hb6, hb7]; simp [h1, h2, h3, h4])
          clear hb6 hb7
          go_upto_region 7 with fail
          have z0x : ∀ x : E4 wc [B + 1 + 1 + 1], x.w.cell? ⟨B, 0, none⟩ = some (.slice p st.mp.length pc) := E4.cells z0 HBS.out.1
          have z1x : ∀ x : E4 wc [B + 1 + 1 + 1], x.w.cell? ⟨B, 1, none⟩ = some (.slice q st.n qc) := E4.cells z1 HBS.out.1
          have c0x : ∀ x : E4 wc [B + 1 + 1 + 1], x.w.cell? ⟨B + 1, 0, none⟩ = some (.int .i64 op) := E4.cells c0 HBS.out.2.1
          have e0x : ∀ x : E4 wc [B + 1 + 1 + 1], x.w.cell? ⟨B + 1 + 1, 0, none⟩ = some (.int .i64 ak) := E4.cells e0 HBS.out.2.2.1
          have d0x : ∀ x : E4 wc [B + 1 + 1 + 1], x.w.cell? ⟨Y + 1, 0, none⟩ = some (.int .i64 m.kind) := E4.cells d0 HBS.out.2.2.2.1
          clear z0 z1 c0 e0 d0 f0 f1 ff
          (with_reducible refine wp_region_mix (fun w' => ∃ x : E4 wc [B + 1 + 1 + 1], w' = x.w) ?_ ?_ ?_ ?_; kernel_rfl; kernel_rfl; exact ⟨⟨wc.drew, .of_below (Below.refl _ _).drew⟩, rfl⟩)
          obtain ⟨wd, hwd⟩ : ∃ wd, wd = wc.drew := ⟨_, rfl⟩
          have hbd : Below wc.heap.size wc wd := by rw [hwd]; exact (Below.refl _ _).drew
          rw [← hwd]
          clear hwd
          repeat (first | ((with_reducible refine mix_skip (by kernel_rfl) ?_); go_big_quiet_skip; (with_reducible refine mix_on ?_)) | ((with_reducible refine mix_plain (by kernel_rfl) ?_); (first | go_big_quiet_skip | (go_big_quiet_want; go_big_quiet_op; go_big_quiet_on)); (with_reducible refine mix_on ?_)))
          ((with_reducible refine wpMix_chain (by kernel_rfl) (by kernel_rfl) (fun K HK => ?_)); go_step)
          refine (rreads op wd).mono ?_; rintro _ w5 ⟨rfl, hb5⟩
          rw [h3]
          have hbd := below_on hbd hb5
          refine HK.out _ _ ⟨⟨w5, .of_below hbd⟩, rfl⟩ ?_
          clear HK K hb5
          have k3 := up hbd K3.out
          have f0 : w5.cell? ⟨B + 1 + 1 + 1, 0, none⟩ = some (.slice none 0 0) := newcell k3 0 _ rfl
          have f1 : w5.cell? ⟨B + 1 + 1 + 1, 1, none⟩ = some (.slice none 0 0) := newcell k3 1 _ rfl
          have ff := newfree k3
          have HK3 := Lib.hid k3
          have HBQ := Lib.hid (below_on HBC.out hbd)
          have HBD := Lib.hid hbd
          clear k3 hbd
          repeat (first | ((with_reducible refine mix_skip (by kernel_rfl) ?_); go_big_quiet_skip; (with_reducible refine mix_on ?_)) | ((with_reducible refine mix_plain (by kernel_rfl) ?_); (first | go_big_quiet_skip | (go_big_quiet_want; go_big_quiet_op; go_big_quiet_on)); (with_reducible refine mix_on ?_)))
          ((with_reducible refine wpMix_chain (by kernel_rfl) (by kernel_rfl) (fun K HK => ?_)); go_step)
          refine HK.out _ _ ⟨⟨_, ((KX.of_below HBD.out).trans (KX.set HBS.out.2.2.2.2)).trans (KX.set HBS.out.2.2.2.2)⟩, rfl⟩ ?_
          clear HK K
          repeat (first | ((with_reducible refine mix_skip (by kernel_rfl) ?_); go_big_quiet_skip; (with_reducible refine mix_on ?_)) | ((with_reducible refine mix_plain (by kernel_rfl) ?_); (first | go_big_quiet_skip | (go_big_quiet_want; go_big_quiet_op; go_big_quiet_on)); (with_reducible refine mix_on ?_)))
          refine wpMix_nil ?_
          clear z0x z1x c0x e0x d0x
          go_wp2_with fail
          refine bodyPost_ret (v := .tuple #[.agg #[.slice p st.mp.length pc, .slice q st.n qc], .bool false]) (by simp [results, Try.results15, go_sem, f0, f1, World.cell?_setCell_same, World.cell?_setCell_other]) rfl ?_
          rw [HQ.out, HT2.out (by simp)]
          obtain ⟨x1, x2, x3⟩ := st_ret (w := w) (T := 31) (by decide) HK3.out (by have := HWB.out; omega) HBQ.out (HP.out.below HBQ.out) (HT.out.below HBQ.out)
          exact ⟨_, _, by rw [HE.out], x1, x2, x3⟩
        · have HE := Lib.hid (show (fullB op m ⟨ak, aky, avl, an, aps⟩ || spentB op m ⟨ak, aky, avl, an, aps⟩) = true by unfold fullB spentB; rw [hb6, hb7]; simp [h1, h2, h3, h4])
          clear hb6 hb7
          go_upto_region 7 with fail
          have z0x : ∀ x : E4 wc [B + 1 + 1 + 1], x.w.cell? ⟨B, 0, none⟩ = some (.slice p st.mp.length pc) := E4.cells z0 HBS.out.1
          have z1x : ∀ x : E4 wc [B + 1 + 1 + 1], x.w.cell? ⟨B, 1, none⟩ = some (.slice q st.n qc) := E4.cells z1 HBS.out.1
          have c0x : ∀ x : E4 wc [B + 1 + 1 + 1], x.w.cell? ⟨B + 1, 0, none⟩ = some (.int .i64 op) := E4.cells c0 HBS.out.2.1
          have e0x : ∀ x : E4 wc [B + 1 + 1 + 1], x.w.cell? ⟨B + 1 + 1, 0, none⟩ = some (.int .i64 ak) := E4.cells e0 HBS.out.2.2.1
          have d0x : ∀ x : E4 wc [B + 1 + 1 + 1], x.w.cell? ⟨Y + 1, 0, none⟩ = some (.int .i64 m.kind) := E4.cells d0 HBS.out.2.2.2.1
          clear z0 z1 c0 e0 d0 f0 f1 ff
          (with_reducible refine wp_region_mix (fun w' => ∃ x : E4 wc [B + 1 + 1 + 1], w' = x.w) ?_ ?_ ?_ ?_; kernel_rfl; kernel_rfl; exact ⟨⟨wc.drew, .of_below (Below.refl _ _).drew⟩, rfl⟩)
          obtain ⟨wd, hwd⟩ : ∃ wd, wd = wc.drew := ⟨_, rfl⟩
          have hbd : Below wc.heap.size wc wd := by rw [hwd]; exact (Below.refl _ _).drew
          rw [← hwd]
          clear hwd
          repeat (first | ((with_reducible refine mix_skip (by kernel_rfl) ?_); go_big_quiet_skip; (with_reducible refine mix_on ?_)) | ((with_reducible refine mix_plain (by kernel_rfl) ?_); (first | go_big_quiet_skip | (go_big_quiet_want; go_big_quiet_op; go_big_quiet_on)); (with_reducible refine mix_on ?_)))
          ((with_reducible refine wpMix_chain (by kernel_rfl) (by kernel_rfl) (fun K HK => ?_)); go_step)
          refine (rreads op wd).mono ?_; rintro _ w5 ⟨rfl, hb5⟩
          rw [h3]
          have hbd := below_on hbd hb5
          refine HK.out _ _ ⟨⟨w5, .of_below hbd⟩, rfl⟩ ?_
          clear HK K hb5
          have k3 := up hbd K3.out
          have f0 : w5.cell? ⟨B + 1 + 1 + 1, 0, none⟩ = some (.slice none 0 0) := newcell k3 0 _ rfl
          have f1 : w5.cell? ⟨B + 1 + 1 + 1, 1, none⟩ = some (.slice none 0 0) := newcell k3 1 _ rfl
          have ff := newfree k3
          have HK3 := Lib.hid k3
          have HBQ := Lib.hid (below_on HBC.out hbd)
          have HBD := Lib.hid hbd
          clear k3 hbd
          repeat (first | ((with_reducible refine mix_skip (by kernel_rfl) ?_); go_big_quiet_skip; (with_reducible refine mix_on ?_)) | ((with_reducible refine mix_plain (by kernel_rfl) ?_); (first | go_big_quiet_skip | (go_big_quiet_want; go_big_quiet_op; go_big_quiet_on)); (with_reducible refine mix_on ?_)))
          ((with_reducible refine wpMix_chain (by kernel_rfl) (by kernel_rfl) (fun K HK => ?_)); go_step)
          refine HK.out _ _ ⟨⟨_, ((KX.of_below HBD.out).trans (KX.set HBS.out.2.2.2.2)).trans (KX.set HBS.out.2.2.2.2)⟩, rfl⟩ ?_
          clear HK K
          repeat (first | ((with_reducible refine mix_skip (by kernel_rfl) ?_); go_big_quiet_skip; (with_reducible refine mix_on ?_)) | ((with_reducible refine mix_plain (by kernel_rfl) ?_); (first | go_big_quiet_skip | (go_big_quiet_want; go_big_quiet_op; go_big_quiet_on)); (with_reducible refine mix_on ?_)))
          refine wpMix_nil ?_
          clear z0x z1x c0x e0x d0x
          go_wp2_with fail
          refine bodyPost_ret (v := .tuple #[.agg #[.slice p st.mp.length pc, .slice q st.n qc], .bool true]) (by simp [results, Try.results15, go_sem, h4, f0, f1, World.cell?_setCell_same, World.cell?_setCell_other]) rfl ?_
          rw [HQ.out, HT2.out (by simp)]
          obtain ⟨x1, x2, x3⟩ := st_ret (w := w) (T := 31) (by decide) HK3.out (by have := HWB.out; omega) HBQ.out (HP.out.below HBQ.out) (HT.out.below HBQ.out)
          exact ⟨_, _, by rw [HE.out], x1, x2, x3⟩
end Go.Proofs.Ytcbdbfmlkkpndaa
