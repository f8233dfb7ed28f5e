/- Layer 7: the walk of GuardNone. -/
import Derived.Test.YtlgongddgbfdpaaGrdS
import Derived.Deep.CutRange
import Derived.Deep.RegionWith
namespace Go.Proofs.Ytlgongddgbfdpaa
open Go.RowKit Go.Maps WordM EdgeM
set_option linter.unusedVariables false
set_option linter.unusedSimpArgs false

theorem GB.apart {w w' : World} {q g m b n c r t u : Nat} {H : Nat → Bool} {G : Nat → Int} {s : Int} (h : GB w q g m b n c H G s) (k : K3 w w' r t u) (hb : b ≠ r ∧ b ≠ t ∧ b ≠ u) (hq : q ≠ r ∧ q ≠ t ∧ q ≠ u) (hg : g ≠ r ∧ g ≠ t ∧ g ≠ u) (hm : m ≠ r ∧ m ≠ t ∧ m ≠ u) : GB w' q g m b n c H G s := by
  obtain ⟨l1, l2, l3⟩ := h.ga.lt
  obtain ⟨D, ⟨es, clock, d1, F, hs, hD⟩, d2⟩ := h.ga.held
  exact ⟨⟨h.ga.obj.of (k.block _ l1 hq.1 hq.2.1 hq.2.2), h.ga.gens.of (k.block _ l2 hg.1 hg.2.1 hg.2.2), ⟨D, ⟨es, clock, (k.block _ l3 hm.1 hm.2.1 hm.2.2).trans d1, F, hs, hD⟩, d2⟩, h.ga.g1, h.ga.g2, h.ga.g3, h.ga.n0, h.ga.n1, h.ga.gb, h.ga.sb⟩, h.sr.k3 k hb.1 hb.2.1 hb.2.2, h.bq, h.bg, h.bm, h.nc, h.cc⟩

set_option maxHeartbeats 4000000 in
set_option maxRecDepth 16000 in
theorem guardNone_walk (v0 v1 v2 : Value) (w : World) (s0 : Fr.ok1 w (.int .i64) v0) (s1 : Fr.ok1 w (.slice [.int .i64, .int .i64, .int .u64]) v1) (s2 : Fr.okN w [.int .i64, .int .i64, .int .u64] v2) :
    Calls Try.prog 4 #[v0, v1, v2] w fun e w' => e = .returned (.bool true) ∧ Below w.heap.size w w' := by
  obtain ⟨slots, rfl, -⟩ := Fr.get_int s0
  obtain ⟨ao, len, cap, rfl, hlc, hcap, hops⟩ := ops7_open s1
  obtain ⟨cs, rfl, hcs⟩ := s2
  obtain ⟨kk, sl, ee, rfl, ree⟩ := op7_cells hcs
  have HEE := Lib.hid ree
  have HOP := Lib.hid hops
  clear s0 s1 hcs hops ree
  refine Calls.veil fun Q HQ => ?_
  show Calls Try.prog _ #[_, _, .agg #[.int .i64 kk, .int .i64 sl, .int .u64 ee]] w _
  go_enter Try.func4, Try.ntmps4
  go_wp2_with fail
  generalize hW : World.alloc w _ = W
  obtain ⟨O, hO⟩ : ∃ O, O = w.heap.size := ⟨_, rfl⟩
  have hBW : Below w.heap.size w W := by rw [← hW]; (repeat (first | exact Below.refl _ _ | assumption | refine below_new ?_ _ | refine Below.drew ?_ | refine below_drewN ?_ _ | refine below_on ?_ (by assumption)))
  have p0 : W.cell? ⟨O, 0, none⟩ = some (.int .i64 kk) := by rw [hO]; exact Ext.made_in hW (Below.refl _ _) 0 _ rfl
  have p1 : W.cell? ⟨O, 1, none⟩ = some (.int .i64 sl) := by rw [hO]; exact Ext.made_in hW (Below.refl _ _) 1 _ rfl
  have p2 : W.cell? ⟨O, 2, none⟩ = some (.int .u64 ee) := by rw [hO]; exact Ext.made_in hW (Below.refl _ _) 2 _ rfl
  have HBw := Lib.hid hBW
  rw [← hO]
  clear hW hBW hO
  refine (gtake0 sl W).mono ?_; rintro _ W1 ⟨rfl, hb⟩
  have p0 := Ext.use (Ext.cells p0) hb; have p1 := Ext.use (Ext.cells p1) hb; have p2 := Ext.use (Ext.cells p2) hb
  have HBw := Lib.hid (HBw.out.trans (hb.mono HBw.out.size)); clear hb
  go_wp2_with fail
  refine (gdrop0 ee W1 HEE.out.1 HEE.out.2).mono ?_; rintro _ W2 ⟨rfl, hb⟩
  have p0 := Ext.use (Ext.cells p0) hb; have p1 := Ext.use (Ext.cells p1) hb; have p2 := Ext.use (Ext.cells p2) hb
  have HBw := Lib.hid (HBw.out.trans (hb.mono HBw.out.size)); clear hb
  go_wp2_with fail
  refine (gleads0 ee W2 HEE.out.1 HEE.out.2).mono ?_; rintro _ W0 ⟨rfl, hb⟩
  have p0 := Ext.use (Ext.cells p0) hb; have p1 := Ext.use (Ext.cells p1) hb; have p2 := Ext.use (Ext.cells p2) hb
  have HBw := Lib.hid (HBw.out.trans (hb.mono HBw.out.size)); clear hb
  go_wp2_with fail
  refine (gedge0 sl W0).mono ?_; rintro _ _ ⟨rfl, rfl⟩
  go_wp2_with fail
  refine (gheld0 W0).mono ?_; rintro _ _ ⟨rfl, rfl⟩
  go_wp2_with fail
  refine (gslips0 W0).mono ?_; rintro _ _ ⟨rfl, rfl⟩
  go_wp2_with fail
  refine (gclone0 W0).mono ?_; rintro _ _ ⟨rfl, rfl⟩
  have HPP := Lib.hid (And.intro p0 (And.intro p1 p2))
  have HOP := Lib.hid (show ∀ (i : Nat), i < len → ∃ g off, ao = some ⟨g, off, none⟩ ∧ ∃ k a e, Op7 W0 g (off + i * 3) k a e from fun i hi => by
    obtain ⟨g, off, e, k, a, e1, h⟩ := HOP.out i hi
    exact ⟨g, off, e, k, a, e1, h.below HBw.out⟩)
  clear p0 p1 p2
  by_cases hr : 1 ≤ slots ∧ slots ≤ 250
  · obtain ⟨n, rfl⟩ : ∃ n : Nat, slots = n := ⟨slots.toNat, by omega⟩
    have n0 : 0 < n := by omega
    have n1 : n ≤ 250 := by omega
    have hn0 : ((n : Int) == 0) = false := by rw [beq_eq_false_iff_ne]; omega
    have HR := Lib.hid hr
    clear hr
    go_wp2_with fail
    refine (gnew_yes n W0 n0 n1).mono ?_; rintro _ w1 ⟨q, g, m, rfl, hq, hg, hm, h, hB⟩
    have HM := Lib.hid h
    have HB := Lib.hid hB
    have HQ3 := Lib.hid (And.intro hq (And.intro hg hm))
    clear h hB hq hg hm
    go_wp2_with fail
    refine (rnew7 n w1 n0 n1).mono ?_; rintro _ w2 ⟨b, rfl, hS, hb0, hb1⟩
    have HG2 := Lib.hid (show GB w2 q g m b n n (fun _ => false) (fun _ => 0) 0 from ⟨HM.out.below hb1, hS, by have := HM.out.lt; omega, by have := HM.out.lt; omega, by have := HM.out.lt; omega, Nat.le_refl _, by omega⟩)
    have HB2 := Lib.hid (show Below W0.heap.size W0 w2 from HB.out.trans (hb1.mono HB.out.size))
    have HQ4 := Lib.hid (And.intro HQ3.out (show W0.heap.size ≤ b by have := HB.out.size; omega))
    clear hS hb0 hb1
    unfold xV
    go_upto_region 6 with fail
    generalize hV : World.alloc w2 _ = V
    obtain ⟨X, hX⟩ : ∃ X, X = w2.heap.size := ⟨_, rfl⟩
    have xB : XB V X b n n 0 := by unfold XB; rw [← hV, hX]; exact heap_alloc_new _ _
    have hbV : Below w2.heap.size w2 V := by rw [← hV]; (repeat (first | exact Below.refl _ _ | assumption | refine below_new ?_ _ | refine Below.drew ?_ | refine below_drewN ?_ _ | refine below_on ?_ (by assumption)))
    have HX := Lib.hid xB
    have HG := Lib.hid (HG2.out.below hbV)
    have HBV := Lib.hid (show Below W0.heap.size W0 V from HB2.out.trans (hbV.mono HB2.out.size))
    have HN := Lib.hid (show (X ≠ q ∧ X ≠ g ∧ X ≠ m) ∧ b ≠ X ∧ W0.heap.size ≤ X by have := HG2.out.ga.lt; have := HG2.out.lt; have := HB2.out.size; omega)
    have x0 := xB.c0
    rw [← hX]
    clear hV hX xB hbV
    rcases (by omega : 60 < len ∨ len ≤ 60) with j | j
    · go_wp2_with fail
      refine (lives7_calls _).mono ?_; rintro _ w3 ⟨rfl, hb⟩
      go_wp2_with fail
      (try go_ret)
      rw [HQ.out]
      exact ⟨rfl, HBw.out.trans ((HBV.out.trans (hb.mono HBV.out.size)).mono HBw.out.size)⟩
    go_wp2_with fail
    clear x0
    have HXQ := Lib.hid HN.out.1
    have HXW := Lib.hid HN.out.2.2
    go_loopw [10] (fun iv wr => ∃ i : Nat, i ≤ len ∧ iv = .int .i64 i ∧ ∃ (b c : Nat) (H : Nat → Bool) (G : Nat → Int) (s : Int), GB wr q g m b n c H G s ∧ XB wr X b n c s ∧ b ≠ X ∧ 0 ≤ s ∧ s ≤ i ∧ Below W0.heap.size W0 wr)
      (fun iv _ => len - (intOf iv).toNat)
    case atStart => exact ⟨0, Nat.zero_le _, rfl, _, _, _, _, _, HG.out, HX.out, HN.out.2.1, by omega, by omega, HBV.out⟩
    case round =>
      have HF := Lib.hid (show W0.heap.size ≤ q ∧ W0.heap.size ≤ g ∧ W0.heap.size ≤ m ∧ W0.heap.size ≤ X from ⟨HQ3.out.1, HQ3.out.2.1, HQ3.out.2.2, HXW.out⟩)
      clear HG HX HB HB2 HBV HM HG2 HQ4
      obtain ⟨i, hi, rfl, b, c, H, G, s, hG, hX, hbX, hs0, hs1, hbw⟩ := hrel
      have HG := Lib.hid hG
      have HX := Lib.hid hX
      have HBW := Lib.hid hbw
      clear hG hX hbw
      rcases (by omega : len ≤ i ∨ i < len) with hge | hlt
      · have HL1 := Lib.hid HG.out.ga.lt
        have HXL := Lib.hid HX.out.lt
        have HSS := Lib.hid (show s < 1000000 by omega)
        have HSD := Lib.hid HF.out
        obtain ⟨q0, q1, q2⟩ := HPP.out
        have q0 := Ext.use (Ext.cells q0) HBW.out; have q1 := Ext.use (Ext.cells q1) HBW.out; have q2 := Ext.use (Ext.cells q2) HBW.out
        have HOl := Lib.hid (World.block_lt_of_cell? wr ⟨O, 0, none⟩ q0)
        have HW0 := Lib.hid (World.block_lt_of_cell? W0 ⟨O, 0, none⟩ HPP.out.1)
        go_wp2_with fail
        refine (gclone HG.out.ga).mono ?_; rintro _ w5 ⟨r, t, u, rfl, hr1, ht1, hu1, hGc, hb5⟩
        have HQ2 := Lib.hid (And.intro hr1 (And.intro ht1 hu1))
        have HB5 := Lib.hid hb5
        have HGc := Lib.hid (show GB w5 r t u b n c H G s from ⟨hGc, HG.out.sr.below hb5, by have := HG.out.lt; omega, by have := HG.out.lt; omega, by have := HG.out.lt; omega, HG.out.nc, HG.out.cc⟩)
        have HG5 := Lib.hid (HG.out.below hb5)
        have HX5 := Lib.hid (HX.out.below hb5)
        have q0 := Ext.use (Ext.cells q0) hb5; have q1 := Ext.use (Ext.cells q1) hb5; have q2 := Ext.use (Ext.cells q2) hb5
        have x0 := HX5.out.c0; have x1 := HX5.out.c1
        clear hr1 ht1 hu1 hGc hb5
        go_wp2_with fail
        have S1 := lsame7 HGc.out sl ee HEE.out.1 HEE.out.2
        unfold xV at S1
        refine S1.mono ?_; rintro _ w6 ⟨rfl, hb6⟩
        clear S1
        have HGc := Lib.hid (HGc.out.below hb6)
        have HG5 := Lib.hid (HG5.out.below hb6)
        have HX5 := Lib.hid (HX5.out.below hb6)
        have q0 := Ext.use (Ext.cells q0) hb6; have q1 := Ext.use (Ext.cells q1) hb6; have q2 := Ext.use (Ext.cells q2) hb6
        have HB6 := Lib.hid (HB5.out.trans (hb6.mono HB5.out.size))
        have x0 := HX5.out.c0; have x1 := HX5.out.c1
        clear hb6
        go_wp2_with fail
        have S2 := ldo HGc.out kk sl ee HEE.out.1 HEE.out.2 HSS.out
        unfold xV DoPost at S2
        unfold xV at S2
        generalize doH kk sl ee n H G = H2 at S2
        generalize doG kk sl ee n H G = G2 at S2
        generalize doS kk sl ee n H G s = s2 at S2
        refine S2.mono ?_; rintro _ w7 ⟨b2, c2, rfl, hG7, hk7, hp7⟩
        clear S2
        have HG7 := Lib.hid hG7
        have HK7 := Lib.hid hk7
        have HN7 := Lib.hid (show b ≠ r ∧ b ≠ t ∧ b ≠ u ∧ X ≠ r ∧ X ≠ t ∧ X ≠ u ∧ O ≠ r ∧ O ≠ t ∧ O ≠ u ∧ q ≠ r ∧ q ≠ t ∧ q ≠ u ∧ g ≠ r ∧ g ≠ t ∧ g ≠ u ∧ m ≠ r ∧ m ≠ t ∧ m ≠ u by
          have := HG.out.lt; have := HQ2.out; have := HL1.out; have := HXL.out; have := HOl.out; omega)
        have HG6 := Lib.hid (show GB w7 q g m b n c H G s by
          obtain ⟨h1, h2, h3, h4, h5, h6, h7, h8, h9, k1, k2, k3, k4, k5, k6, k7, k8, k9⟩ := HN7.out
          exact HG5.out.apart hk7 ⟨h1, h2, h3⟩ ⟨k1, k2, k3⟩ ⟨k4, k5, k6⟩ ⟨k7, k8, k9⟩)
        have HX7 := Lib.hid (show XB w7 X b n c s by
          obtain ⟨h1, h2, h3, h4, h5, h6, h7, h8, h9, k1, k2, k3, k4, k5, k6, k7, k8, k9⟩ := HN7.out
          exact (hk7.block _ HX5.out.lt h4 h5 h6).trans HX5.out)
        have q0 : w7.cell? ⟨O, 0, none⟩ = some (.int .i64 kk) := hk7.cell q0 HN7.out.2.2.2.2.2.2.1 HN7.out.2.2.2.2.2.2.2.1 HN7.out.2.2.2.2.2.2.2.2.1
        have q1 : w7.cell? ⟨O, 1, none⟩ = some (.int .i64 sl) := hk7.cell q1 HN7.out.2.2.2.2.2.2.1 HN7.out.2.2.2.2.2.2.2.1 HN7.out.2.2.2.2.2.2.2.2.1
        have q2 : w7.cell? ⟨O, 2, none⟩ = some (.int .u64 ee) := hk7.cell q2 HN7.out.2.2.2.2.2.2.1 HN7.out.2.2.2.2.2.2.2.1 HN7.out.2.2.2.2.2.2.2.2.1
        have x0 := HX7.out.c0; have x1 := HX7.out.c1
        clear hG7 hk7 hp7
        go_upto_region 17 with fail
        generalize hV : World.alloc w7 _ = V
        obtain ⟨Y, hY⟩ : ∃ Y, Y = w7.heap.size := ⟨_, rfl⟩
        have hbV : Below w7.heap.size w7 V := by rw [← hV]; (repeat (first | exact Below.refl _ _ | assumption | refine below_new ?_ _ | refine Below.drew ?_ | refine below_drewN ?_ _ | refine below_on ?_ (by assumption)))
        have y0 : V.cell? ⟨Y, 0, none⟩ = some (.slice (some ⟨b2, 0, none⟩) n c2) := by rw [hY]; exact Ext.made_in hV (Below.refl _ _) 0 _ rfl
        have y1 : V.cell? ⟨Y, 1, none⟩ = some (.int .i64 s2) := by rw [hY]; exact Ext.made_in hV (Below.refl _ _) 1 _ rfl
        have x0 := Ext.use (Ext.cells x0) hbV; have x1 := Ext.use (Ext.cells x1) hbV
        have q1 := Ext.use (Ext.cells q1) hbV; have q2 := Ext.use (Ext.cells q2) hbV
        have HBV7 := Lib.hid hbV
        rw [← hY]
        clear hV hbV q0 hY
        go_wp2_with fail
        have S3 := lsame7 (HG6.out.below HBV7.out) sl ee HEE.out.1 HEE.out.2
        unfold xV at S3
        refine S3.mono ?_; rintro _ w8 ⟨rfl, hb8⟩
        clear S3
        have y0 := Ext.use (Ext.cells y0) hb8; have y1 := Ext.use (Ext.cells y1) hb8
        have q1 := Ext.use (Ext.cells q1) hb8; have q2 := Ext.use (Ext.cells q2) hb8
        have HB8 := Lib.hid (HBV7.out.trans (hb8.mono HBV7.out.size))
        clear hb8 x0 x1
        go_wp2_with fail
        have S4 := lsame7 (HG7.out.below HB8.out) sl ee HEE.out.1 HEE.out.2
        unfold xV at S4
        refine S4.mono ?_; rintro _ w9 ⟨rfl, hb9⟩
        clear S4
        have HB9 := Lib.hid (HB8.out.trans (hb9.mono HB8.out.size))
        clear hb9 y0 y1 q1 q2
        go_wp2_with fail
        refine (lives7_calls _).mono ?_; rintro _ w10 ⟨rfl, hb⟩
        go_wp2_with fail
        (try go_ret)
        rw [HQ.out]
        have hb0 := HBw.out
        have hb1 := hb0.trans (HBW.out.mono hb0.size)
        have hb6 := hb1.trans (HB6.out.mono hb1.size)
        have h2 := HQ2.out
        have h3 := hb1.size
        have hb7 : Below w.heap.size w w7 := below_k3 hb6 HK7.out (by omega) (by omega) (by omega)
        have hb9 := hb7.trans (HB9.out.mono hb7.size)
        exact ⟨rfl, hb9.trans (hb.mono hb9.size)⟩
      have hX := HX.out
      have hGB := HG.out
      have hl1 := hGB.ga.lt
      have hl2 := hX.lt
      obtain ⟨go, off, rfl, k, a, e, hop⟩ := HOP.out i hlt
      have hop := hop.below HBW.out
      have hgo : go < W0.heap.size := by
        obtain ⟨_, _, hh, _, _, _, h9⟩ := HOP.out i hlt
        cases hh
        exact h9.lt
      obtain ⟨o0, o1, o2, o3, o4⟩ := hop
      obtain ⟨f1, f2, f3, f4⟩ := HF.out
      have hXq : X ≠ q ∧ X ≠ g ∧ X ≠ m := HN.out.1
      have x0 := hX.c0
      have x1 := hX.c1
      have x0a := Ext.on x0
      have x1a := Ext.on x1
      have o0a := Ext.on o0
      have o1a := Ext.on o1
      have o2a := Ext.on o2
      have HO := Lib.hid (And.intro o0 (And.intro o1 o2))
      have HE := Lib.hid (And.intro o3 o4)
      have HS1 := Lib.hid (show s < 1000000 by omega)
      have HBX := Lib.hid (show b ≠ X from hbX)
      have HGO := Lib.hid hgo
      have HXQ := Lib.hid hXq
      have HFF := Lib.hid (And.intro f1 (And.intro f2 (And.intro f3 f4)))
      have HL1 := Lib.hid hl1
      have HLB := Lib.hid hGB.lt
      have hii : (i : Int) < len := by omega
      have HSD := Lib.hid (doS_le k a e n H G s)
      have RDd := ldo (HG.out.below (Below.refl _ _).drew) k a e o3 o4 HS1.out
      have RDa := fun (o : Obj) => ldo (HG.out.below ((Below.refl _ _).alloc (Nat.le_refl _) o).drew) k a e o3 o4 HS1.out
      unfold xV DoPost at RDd RDa
      unfold xV at RDd RDa
      generalize doH k a e n H G = H2 at RDd RDa
      generalize doG k a e n H G = G2 at RDd RDa
      generalize doS k a e n H G s = s2 at RDd RDa HSD
      have RDd := Lib.hid RDd
      have RDa := Lib.hid RDa
      clear hX hGB hl1 hl2 hgo hbX hXq f1 f2 f3 f4 o3 o4
      go_upto_region 11 with fail
      go_cut [11, 12] from 73 to 82 (fun p10 v11 wc => CutD wr q g m b n H2 G2 s2 p10 v11 wc)
      case first =>
        go_region_with (first
          | (go_at_call 9; (with_reducible refine (RDd.out).mono ?_); rintro _ W9 ⟨b2, c2, rfl, hG9, hk9, hp9⟩; have H9 := Lib.hid hG9; have K9 := Lib.hid hk9; have P9 := Lib.hid hp9; clear hG9 hk9 hp9)
          | (go_at_call 9; (with_reducible refine (RDa.out _).mono ?_); rintro _ W9 ⟨b2, c2, rfl, hG9, hk9, hp9⟩; have yh := k3_new hk9 HL1.out; have yf : ∀ i, W9.frozen? ⟨wr.heap.size, i, none⟩ = false := (fun i => frozen_of_row _ _ _ _ _ yh); have yc0 : W9.cell? ⟨wr.heap.size, 0, none⟩ = some (.slice none 0 0) := (by rw [cell_of_row _ _ _ _ _ (0, 0) yh]; rfl); have yc1 : W9.cell? ⟨wr.heap.size, 1, none⟩ = some (.int .i64 0) := (by rw [cell_of_row _ _ _ _ _ (0, 0) yh]; rfl); have YH := Lib.hid yh; have H9 := Lib.hid hG9; have K9 := Lib.hid hk9; have P9 := Lib.hid hp9; clear hG9 hk9 hp9 yh))
        all_goals
          go_wp2_with fail
          go_meet
          case rel => first | (with_reducible exact cutD_a H9.out K9.out P9.out) | (with_reducible exact cutD_b H9.out K9.out P9.out HL1.out HLB.out YH.out)
      case rest =>
      obtain ⟨Y, b2, c2, rfl, rfl, uh, hG9, hk9, hp9, hY, hY2⟩ := hcut
      have H9 := Lib.hid hG9
      have K9 := Lib.hid hk9
      have P9 := Lib.hid hp9
      have HUX := Lib.hid uh
      have u0 := uh.c0
      have u1 := uh.c1
      have hXU : XB wc X b n c s := by
        have h1 := HXQ.out
        exact (hk9.block _ HX.out.lt h1.1 h1.2.1 h1.2.2).trans HX.out
      have xf := hXU.fr
      have xc0 := hXU.c0
      have xc1 := hXU.c1
      have HXU := Lib.hid hXU
      clear hXU x0 x1 o0 o1 o2 x0a x1a o0a o1a o2a uh hG9 hk9 hp9 hY hY2
      go_upto_region 10 with fail
      generalize hT : World.setCell _ _ _ = T
      have tX : XB T X b2 n c2 s2 := by rw [← hT]; exact HXU.out.set b2 c2 s2
      have HNE := Lib.hid (show q ≠ X ∧ g ≠ X ∧ m ≠ X ∧ b2 ≠ X by
        have h1 := HXQ.out
        have h2 := HX.out.lt
        refine ⟨h1.1.symm, h1.2.1.symm, h1.2.2.symm, ?_⟩
        rcases P9.out with rfl | hp
        · exact HBX.out
        · omega)
      have tG : GB T q g m b2 n c2 H2 G2 s2 := by
        obtain ⟨h1, h2, h3, h4⟩ := HNE.out
        rw [← hT]; exact (H9.out.setOther h1 h2 h3 h4 _).setOther h1 h2 h3 h4 _
      have tB : Below W0.heap.size W0 T := by
        obtain ⟨f1, f2, f3, f4⟩ := HFF.out
        have h1 := below_k3 HBW.out K9.out f1 f2 f3
        rw [← hT]
        exact below_setC (below_setC h1 f4 _) f4 _
      have TX := Lib.hid tX
      have TG := Lib.hid tG
      have TB := Lib.hid tB
      clear hT tX tG tB xf xc0 xc1 u0 u1
      go_wp2_with fail
      go_roundw
      case rel =>
        have := HSD.out
        exact ⟨i + 1, by omega, by go_num, b2, c2, H2, G2, s2, TG.out, TX.out, HNE.out.2.2.2, by omega, by omega, TB.out⟩
      case measure => simp [intOf]; omega
  · have HR := Lib.hid hr
    go_wp2_with fail
    refine (gnew_no slots W0 HR.out).mono ?_; rintro _ w1 ⟨rfl, hB⟩
    have HB := Lib.hid hB
    clear hB
    go_wp2_with fail
    refine (rnew7_no slots w1 HR.out).mono ?_; rintro _ w2 ⟨rfl, hb⟩
    have HB2 := Lib.hid (show Below W0.heap.size W0 w2 from HB.out.trans (hb.mono HB.out.size))
    clear hb hr
    go_wp2_with fail
    refine (lives7_calls _).mono ?_; rintro _ w3 ⟨rfl, hb⟩
    go_wp2_with fail
    (try go_ret)
    rw [HQ.out]
    exact ⟨rfl, HBw.out.trans (((below_new HB2.out _).trans (hb.mono (below_new HB2.out _).size)).mono HBw.out.size)⟩
end Go.Proofs.Ytlgongddgbfdpaa
