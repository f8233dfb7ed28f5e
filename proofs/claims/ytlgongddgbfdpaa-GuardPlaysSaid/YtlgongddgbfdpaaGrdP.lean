/- Layer 7: the walk of GuardPlays. -/
import Derived.Test.YtlgongddgbfdpaaGrdM
import Derived.Deep.CutRange
import Derived.Deep.RegionWith
namespace Go.Proofs.Ytlgongddgbfdpaa
open Go.RowKit Go.Maps WordM EdgeM
set_option linter.unusedVariables false
set_option linter.unusedSimpArgs false

set_option maxHeartbeats 4000000 in
set_option maxRecDepth 16000 in
theorem guardPlays_walk (v0 v1 v2 : Value) (w : World) (s0 : Fr.ok1 w (.int .i64) v0) (s1 : Fr.ok1 w (.slice [.int .i64, .int .i64, .int .u64]) v1) (s2 : Fr.ok1 w (.int .u64) v2) :
    Calls Try.prog 3 #[v0, v1, v2] w fun e w' => e = .returned (.bool true) ∧ Below w.heap.size w w' := by
  obtain ⟨slots, rfl, _⟩ := Fr.get_int s0
  obtain ⟨ao, len, cap, rfl, hlc, hcap, hops⟩ := ops7_open s1
  obtain ⟨ee, rfl, wee⟩ := Fr.get_int s2
  have HEE := Lib.hid (wfu64g wee)
  have HOP := Lib.hid hops
  clear s0 s1 s2 hops wee
  refine Calls.veil fun Q HQ => ?_
  by_cases hr : 1 ≤ slots ∧ slots ≤ 250
  · obtain ⟨n, rfl⟩ : ∃ n : Nat, slots = n := ⟨slots.toNat, by omega⟩
    have n0 : 0 < n := by omega
    have n1 : n ≤ 250 := by omega
    have hn0 : ((n : Int) == 0) = false := by rw [beq_eq_false_iff_ne]; omega
    have HR := Lib.hid hr
    clear hr
    go_enter Try.func3, Try.ntmps3
    go_wp2_with fail
    refine (gnew_yes n w n0 n1).mono ?_; rintro _ w1 ⟨q, g, m, rfl, hq, hg, hm, h, hB⟩
    have HM := Lib.hid h
    have HB := Lib.hid hB
    have HQ3 := Lib.hid (And.intro hq (And.intro hg hm))
    clear h hB hq hg hm
    go_wp2_with fail
    refine (rnew7 n w1 n0 n1).mono ?_; rintro _ w2 ⟨b, rfl, hS, hb0, hb1⟩
    have HG2 := Lib.hid (show GB w2 q g m b n n (fun _ => false) (fun _ => 0) 0 from ⟨HM.out.below hb1, hS, by have := HM.out.lt; omega, by have := HM.out.lt; omega, by have := HM.out.lt; omega, Nat.le_refl _, by omega⟩)
    have HB2 := Lib.hid (show Below w.heap.size w w2 from HB.out.trans (hb1.mono HB.out.size))
    have HQ4 := Lib.hid (And.intro HQ3.out (show w.heap.size ≤ b by have := HB.out.size; omega))
    clear hS hb0 hb1
    unfold xV
    go_upto_region 3 with fail
    generalize hV : World.alloc w2 _ = V
    obtain ⟨X, hX⟩ : ∃ X, X = w2.heap.size := ⟨_, rfl⟩
    have xB : XB V X b n n 0 := by unfold XB; rw [← hV, hX]; exact heap_alloc_new _ _
    have hbV : Below w2.heap.size w2 V := by rw [← hV]; (repeat (first | exact Below.refl _ _ | assumption | refine below_new ?_ _ | refine Below.drew ?_ | refine below_drewN ?_ _ | refine below_on ?_ (by assumption)))
    have HX := Lib.hid xB
    have HG := Lib.hid (HG2.out.below hbV)
    have HBV := Lib.hid (show Below w.heap.size w V from HB2.out.trans (hbV.mono HB2.out.size))
    have HN := Lib.hid (show (X ≠ q ∧ X ≠ g ∧ X ≠ m) ∧ b ≠ X ∧ w.heap.size ≤ X by have := HG2.out.ga.lt; have := HG2.out.lt; have := HB2.out.size; omega)
    have x0 := xB.c0
    rw [← hX]
    clear hV hX xB hbV
    rcases (by omega : 60 < len ∨ len ≤ 60) with j | j
    · go_wp2_with fail
      refine (lives7_calls _).mono ?_; rintro _ w3 ⟨rfl, hb⟩
      go_wp2_with fail
      (try go_ret)
      rw [HQ.out]
      exact ⟨rfl, HBV.out.trans (hb.mono HBV.out.size)⟩
    go_wp2_with fail
    clear x0
    have HXQ := Lib.hid HN.out.1
    have HXW := Lib.hid HN.out.2.2
    go_loopw [9] (fun iv wr => ∃ i : Nat, i ≤ len ∧ iv = .int .i64 i ∧ ∃ (b c : Nat) (H : Nat → Bool) (G : Nat → Int) (s : Int), GB wr q g m b n c H G s ∧ XB wr X b n c s ∧ b ≠ X ∧ 0 ≤ s ∧ s ≤ i ∧ Below w.heap.size w wr)
      (fun iv _ => len - (intOf iv).toNat)
    case atStart => exact ⟨0, Nat.zero_le _, rfl, _, _, _, _, _, HG.out, HX.out, HN.out.2.1, by omega, by omega, HBV.out⟩
    case round =>
      have HF := Lib.hid (show w.heap.size ≤ q ∧ w.heap.size ≤ g ∧ w.heap.size ≤ m ∧ w.heap.size ≤ X from ⟨HQ3.out.1, HQ3.out.2.1, HQ3.out.2.2, HXW.out⟩)
      clear HG HX HB HB2 HBV HM HG2 HQ4
      obtain ⟨i, hi, rfl, b, c, H, G, s, hG, hX, hbX, hs0, hs1, hbw⟩ := hrel
      have HG := Lib.hid hG
      have HX := Lib.hid hX
      have HBW := Lib.hid hbw
      clear hG hX hbw
      rcases (by omega : len ≤ i ∨ i < len) with hge | hlt
      · go_wp2_with fail
        refine (lives7_calls _).mono ?_; rintro _ w3 ⟨rfl, hb⟩
        go_wp2_with fail
        (try go_ret)
        rw [HQ.out]
        exact ⟨rfl, HBW.out.trans (hb.mono HBW.out.size)⟩
      have hX := HX.out
      have hGB := HG.out
      have hl1 := hGB.ga.lt
      have hl2 := hX.lt
      obtain ⟨go, off, rfl, k, a, e, hop⟩ := HOP.out i hlt
      have hop := hop.below HBW.out
      have hgo : go < w.heap.size := by
        obtain ⟨_, _, hh, _, _, _, h9⟩ := HOP.out i hlt
        cases hh
        exact h9.lt
      obtain ⟨o0, o1, o2, o3, o4⟩ := hop
      obtain ⟨f1, f2, f3, f4⟩ := HF.out
      have hXq : X ≠ q ∧ X ≠ g ∧ X ≠ m := HN.out.1
      have x0 := hX.c0
      have x1 := hX.c1
      have x0a := Ext.on x0
      have x1a := Ext.on x1
      have o0a := Ext.on o0
      have o1a := Ext.on o1
      have o2a := Ext.on o2
      have HO := Lib.hid (And.intro o0 (And.intro o1 o2))
      have HE := Lib.hid (And.intro o3 o4)
      have HS1 := Lib.hid (show s < 1000000 by omega)
      have HBX := Lib.hid (show b ≠ X from hbX)
      have HGO := Lib.hid hgo
      have HXQ := Lib.hid hXq
      have HFF := Lib.hid (And.intro f1 (And.intro f2 (And.intro f3 f4)))
      have HL1 := Lib.hid hl1
      have HLB := Lib.hid hGB.lt
      have hii : (i : Int) < len := by omega
      have HSD := Lib.hid (doS_le k a e n H G s)
      have RDd := ldo (HG.out.below (Below.refl _ _).drew) k a e o3 o4 HS1.out
      have RDa := fun (o : Obj) => ldo (HG.out.below ((Below.refl _ _).alloc (Nat.le_refl _) o).drew) k a e o3 o4 HS1.out
      unfold xV DoPost at RDd RDa
      unfold xV at RDd RDa
      generalize doH k a e n H G = H2 at RDd RDa
      generalize doG k a e n H G = G2 at RDd RDa
      generalize doS k a e n H G s = s2 at RDd RDa HSD
      have RDd := Lib.hid RDd
      have RDa := Lib.hid RDa
      clear hX hGB hl1 hl2 hgo hbX hXq f1 f2 f3 f4 o3 o4
      go_upto_region 10 with fail
      go_cut [10, 11] from 38 to 73 (fun p10 v11 wc => CutD wr q g m b n H2 G2 s2 p10 v11 wc)
      case first =>
        go_region_with (first
          | (go_at_call 9; (with_reducible refine (RDd.out).mono ?_); rintro _ W9 ⟨b2, c2, rfl, hG9, hk9, hp9⟩; have H9 := Lib.hid hG9; have K9 := Lib.hid hk9; have P9 := Lib.hid hp9; clear hG9 hk9 hp9)
          | (go_at_call 9; (with_reducible refine (RDa.out _).mono ?_); rintro _ W9 ⟨b2, c2, rfl, hG9, hk9, hp9⟩; have yh := k3_new hk9 HL1.out; have yf : ∀ i, W9.frozen? ⟨wr.heap.size, i, none⟩ = false := (fun i => frozen_of_row _ _ _ _ _ yh); have yc0 : W9.cell? ⟨wr.heap.size, 0, none⟩ = some (.slice none 0 0) := (by rw [cell_of_row _ _ _ _ _ (0, 0) yh]; rfl); have yc1 : W9.cell? ⟨wr.heap.size, 1, none⟩ = some (.int .i64 0) := (by rw [cell_of_row _ _ _ _ _ (0, 0) yh]; rfl); have YH := Lib.hid yh; have H9 := Lib.hid hG9; have K9 := Lib.hid hk9; have P9 := Lib.hid hp9; clear hG9 hk9 hp9 yh))
        all_goals
          go_wp2_with fail
          go_meet
          case rel => first | (with_reducible exact cutD_a H9.out K9.out P9.out) | (with_reducible exact cutD_b H9.out K9.out P9.out HL1.out HLB.out YH.out)
      case rest =>
      obtain ⟨Y, b2, c2, rfl, rfl, uh, hG9, hk9, hp9, hY, hY2⟩ := hcut
      have H9 := Lib.hid hG9
      have K9 := Lib.hid hk9
      have P9 := Lib.hid hp9
      have HUX := Lib.hid uh
      have u0 := uh.c0
      have u1 := uh.c1
      have hXU : XB wc X b n c s := by
        have h1 := HXQ.out
        exact (hk9.block _ HX.out.lt h1.1 h1.2.1 h1.2.2).trans HX.out
      have xf := hXU.fr
      have xc0 := hXU.c0
      have xc1 := hXU.c1
      have HXU := Lib.hid hXU
      clear hXU x0 x1 o0 o1 o2 x0a x1a o0a o1a o2a uh hG9 hk9 hp9 hY hY2
      go_upto_region 12 with fail
      generalize hT : World.setCell _ _ _ = T
      have tX : XB T X b2 n c2 s2 := by rw [← hT]; exact HXU.out.set b2 c2 s2
      have HNE := Lib.hid (show q ≠ X ∧ g ≠ X ∧ m ≠ X ∧ b2 ≠ X by
        have h1 := HXQ.out
        have h2 := HX.out.lt
        refine ⟨h1.1.symm, h1.2.1.symm, h1.2.2.symm, ?_⟩
        rcases P9.out with rfl | hp
        · exact HBX.out
        · omega)
      have tG : GB T q g m b2 n c2 H2 G2 s2 := by
        obtain ⟨h1, h2, h3, h4⟩ := HNE.out
        rw [← hT]; exact (H9.out.setOther h1 h2 h3 h4 _).setOther h1 h2 h3 h4 _
      have tB : Below w.heap.size w T := by
        obtain ⟨f1, f2, f3, f4⟩ := HFF.out
        have h1 := below_k3 HBW.out K9.out f1 f2 f3
        rw [← hT]
        exact below_setC (below_setC h1 f4 _) f4 _
      have TX := Lib.hid tX
      have TG := Lib.hid tG
      have TB := Lib.hid tB
      clear hT tX tG tB xf xc0 xc1 u0 u1
      have tx0 : ∀ y : Ext T, y.w.cell? ⟨X, 0, none⟩ = some (.slice (some ⟨b2, 0, none⟩) n c2) := Ext.cells TX.out.c0
      have tx1 : ∀ y : Ext T, y.w.cell? ⟨X, 1, none⟩ = some (.int .i64 s2) := Ext.cells TX.out.c1
      have ht : Op7 T go (off + i * 3) k a e := by
        obtain ⟨_, _, hh, k', a', e', h9⟩ := HOP.out i hlt
        cases hh
        obtain ⟨c0, c1, c2, _⟩ := h9.below HBW.out
        have d0 := HO.out.1
        have d1 := HO.out.2.1
        have d2 := HO.out.2.2
        rw [c0] at d0; rw [c1] at d1; rw [c2] at d2
        simp only [Option.some.injEq, Value.int.injEq, true_and] at d0 d1 d2
        subst d0; subst d1; subst d2
        exact h9.below TB.out
      have to1 : ∀ y : Ext T, y.w.cell? ⟨go, off + i * 3 + 1, none⟩ = some (.int .i64 a) := Ext.cells ht.2.1
      have to2 : ∀ y : Ext T, y.w.cell? ⟨go, off + i * 3 + 2, none⟩ = some (.int .u64 e) := Ext.cells ht.2.2.1
      have S1 := fun (y : Ext T) => lsame7 (TG.out.below y.h) a ee HEE.out.1 HEE.out.2
      have S2 := fun (y : Ext T) => lsame7 (TG.out.below y.h) i e HE.out.1 HE.out.2
      unfold xV at S1 S2
      have S1 := Lib.hid S1
      have S2 := Lib.hid S2
      clear ht
      obtain ⟨x, hx⟩ : ∃ x : Ext T, x.w = T := ⟨⟨T, Below.refl _ _⟩, rfl⟩; rw [← hx]; clear hx
      (with_reducible refine ext_region _ ?_ ?_ ?_; kernel_rfl; kernel_rfl)
      repeat (go_big_quiet_step (first | (go_at_call 10; first | with_reducible refine Ext.call (S1.out _) | with_reducible refine Ext.call (S2.out _))))
      refine wpQuiet_nil ?_
      rintro _ ⟨y, rfl⟩
      go_wp2_with fail
      go_roundw
      case rel =>
        have := HSD.out
        exact ⟨i + 1, by omega, by go_num, b2, c2, H2, G2, s2, TG.out.below y.h, TX.out.below y.h, HNE.out.2.2.2, by omega, by omega, TB.out.trans (y.h.mono TB.out.size)⟩
      case measure => simp [intOf]; omega
  · go_enter Try.func3, Try.ntmps3
    have HR := Lib.hid hr
    go_wp2_with fail
    refine (gnew_no slots w HR.out).mono ?_; rintro _ w1 ⟨rfl, hB⟩
    have HB := Lib.hid hB
    clear hB
    go_wp2_with fail
    refine (rnew7_no slots w1 HR.out).mono ?_; rintro _ w2 ⟨rfl, hb⟩
    have HB2 := Lib.hid (show Below w.heap.size w w2 from HB.out.trans (hb.mono HB.out.size))
    clear hb hr
    go_wp2_with fail
    refine (lives7_calls _).mono ?_; rintro _ w3 ⟨rfl, hb⟩
    go_wp2_with fail
    (try go_ret)
    rw [HQ.out]
    exact ⟨rfl, (below_new HB2.out _).trans (hb.mono (below_new HB2.out _).size)⟩
end Go.Proofs.Ytlgongddgbfdpaa
