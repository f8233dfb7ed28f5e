/- Layer 7: the walk of GuardLeaves. -/
import Derived.Test.YtlgongddgbfdpaaGrdQ
import Derived.Deep.CutRange
import Derived.Deep.RegionWith
namespace Go.Proofs.Ytlgongddgbfdpaa
open Go.RowKit Go.Maps WordM EdgeM
set_option linter.unusedVariables false
set_option linter.unusedSimpArgs false

set_option maxHeartbeats 4000000 in
set_option maxRecDepth 100000 in
theorem guardLeaves_walk (v0 v1 v2 : Value) (w : World) (s0 : Fr.ok1 w (.int .i64) v0) (s1 : Fr.ok1 w (.int .i64) v1) (s2 : Fr.ok1 w (.slice [.int .i64, .int .i64, .int .u64]) v2) :
    Calls Try.prog 5 #[v0, v1, v2] w fun e w' => e = .returned (.bool true) ∧ Below w.heap.size w w' := by
  obtain ⟨slots, rfl, -⟩ := Fr.get_int s0
  obtain ⟨slot, rfl, -⟩ := Fr.get_int s1
  obtain ⟨ao, len, cap, rfl, hlc, hcap, hops⟩ := ops7_open s2
  have HOP := Lib.hid hops
  clear s0 s1 s2 hops
  refine Calls.veil fun Q HQ => ?_
  by_cases hr : 1 ≤ slots ∧ slots ≤ 250
  · obtain ⟨n, rfl⟩ : ∃ n : Nat, slots = n := ⟨slots.toNat, by omega⟩
    have n0 : 0 < n := by omega
    have n1 : n ≤ 250 := by omega
    have hn0 : ((n : Int) == 0) = false := by rw [beq_eq_false_iff_ne]; omega
    have HR := Lib.hid hr
    clear hr
    go_enter Try.func5, Try.ntmps5
    go_wp2_with fail
    refine (gnew_yes n w n0 n1).mono ?_; rintro _ w1 ⟨q, g, m, rfl, hq, hg, hm, h, hB⟩
    have HM := Lib.hid h
    have HB := Lib.hid hB
    have HQ3 := Lib.hid (And.intro hq (And.intro hg hm))
    clear h hB hq hg hm
    have HB0 := Lib.hid HB.out
    rcases (by omega : 60 < len ∨ (len ≤ 60 ∧ slot < 1) ∨ (len ≤ 60 ∧ 1 ≤ slot ∧ n < slot) ∨ (len ≤ 60 ∧ 1 ≤ slot ∧ slot ≤ n)) with jj | ⟨jj, j2⟩ | ⟨jj, j2, j3⟩ | ⟨jj, j2, j3⟩
    iterate 3
      case _ =>
        go_wp2_with fail
        refine (lives7_calls _).mono ?_; rintro _ w3 ⟨rfl, hb⟩
        go_wp2_with fail
        (try go_ret)
        rw [HQ.out]
        exact ⟨rfl, HB.out.trans (hb.mono HB.out.size)⟩
    obtain ⟨j, rfl⟩ : ∃ j : Nat, slot = (j : Int) + 1 := ⟨slot.toNat - 1, by omega⟩
    have HJ := Lib.hid (show j < n by omega)
    have d1 : decide ((j : Int) + 1 < 1) = false := decide_eq_false (by omega)
    have d2 : decide ((n : Int) < (j : Int) + 1) = false := decide_eq_false (by omega)
    have d3 : decide ((60 : Int) < len) = false := decide_eq_false (by omega)
    have HJJ := Lib.hid jj
    have HN1 := Lib.hid n1
    clear j2 j3 jj n1
    go_wp2_with fail
    refine (rnew7 n w1 n0 HN1.out).mono ?_; rintro _ w2 ⟨b, rfl, hS, hb0, hb1⟩
    have HG2 := Lib.hid (show GB w2 q g m b n n (fun _ => false) (fun _ => 0) 0 from ⟨HM.out.below hb1, hS, by have := HM.out.lt; omega, by have := HM.out.lt; omega, by have := HM.out.lt; omega, Nat.le_refl _, by have := HN1.out; omega⟩)
    have HB2 := Lib.hid (show Below w.heap.size w w2 from HB.out.trans (hb1.mono HB.out.size))
    have HQ4 := Lib.hid (And.intro HQ3.out (show w.heap.size ≤ b by have := HB.out.size; omega))
    clear hS hb0 hb1
    unfold xV
    go_upto_region 5 with fail
    generalize hV : World.alloc w2 _ = V
    obtain ⟨X, hX⟩ : ∃ X, X = w2.heap.size := ⟨_, rfl⟩
    have xB : XB V X b n n 0 := by unfold XB; rw [← hV, hX]; exact heap_alloc_new _ _
    have hbV : Below w2.heap.size w2 V := by rw [← hV]; (repeat (first | exact Below.refl _ _ | assumption | refine below_new ?_ _ | refine Below.drew ?_ | refine below_drewN ?_ _ | refine below_on ?_ (by assumption)))
    have HX := Lib.hid xB
    have HG := Lib.hid (HG2.out.below hbV)
    have HBV := Lib.hid (show Below w.heap.size w V from HB2.out.trans (hbV.mono HB2.out.size))
    have HN := Lib.hid (show (X ≠ q ∧ X ≠ g ∧ X ≠ m) ∧ b ≠ X ∧ w.heap.size ≤ X by have := HG2.out.ga.lt; have := HG2.out.lt; have := HB2.out.size; omega)
    have x0 := xB.c0
    rw [← hX]
    clear hV hX xB hbV
    go_wp2_with fail
    clear x0
    have HXQ := Lib.hid HN.out.1
    have HXW := Lib.hid HN.out.2.2
    go_loopw [9] (fun iv wr => ∃ i : Nat, i ≤ len ∧ iv = .int .i64 i ∧ ∃ (b c : Nat) (H : Nat → Bool) (G : Nat → Int) (s : Int), GB wr q g m b n c H G s ∧ XB wr X b n c s ∧ b ≠ X ∧ 0 ≤ s ∧ s ≤ i ∧ Below w.heap.size w wr)
      (fun iv _ => len - (intOf iv).toNat)
    case atStart => exact ⟨0, Nat.zero_le _, rfl, _, _, _, _, _, HG.out, HX.out, HN.out.2.1, by omega, by omega, HBV.out⟩
    case round =>
      have HF := Lib.hid (show w.heap.size ≤ q ∧ w.heap.size ≤ g ∧ w.heap.size ≤ m ∧ w.heap.size ≤ X from ⟨HQ3.out.1, HQ3.out.2.1, HQ3.out.2.2, HXW.out⟩)
      clear HG HX HB HB2 HBV HM HG2 HQ4
      obtain ⟨i, hi, rfl, b, c, H, G, s, hG, hX, hbX, hs0, hs1, hbw⟩ := hrel
      have jj := HJJ.out
      have n1 := HN1.out
      have HG := Lib.hid hG
      have HX := Lib.hid hX
      have HBW := Lib.hid hbw
      clear hG hX hbw
      rcases (by omega : len ≤ i ∨ i < len) with hge | hlt
      · have hGA := HG.out.ga
        have hHJ := HJ.out
        have hgb := hGA.gb j
        have HGA := Lib.hid hGA
        clear hGA
        obtain ⟨E0, hE0⟩ : ∃ E0, edgeN n G ((j : Int) + 1) = E0 := ⟨_, rfl⟩
        have hE1 : E0 = ((j : Int) + 1) + 4096 * G j := by rw [← hE0, edgeN_at hHJ, edge_val (by omega) hgb]
        have HE0 := Lib.hid hE0
        have HEB := Lib.hid (show 0 ≤ E0 ∧ E0 < 18446744073709551616 by omega)
        have HL0 := Lib.hid (show leadsB n H G E0 = H j by
          rw [leads_at hHJ (show E0 % 4096 = (j : Int) + 1 by omega), show E0 / 4096 % 1125899906842624 = G j by omega]; simp)
        have HE4 := Lib.hid (show E0 % 4096 = (j : Int) + 1 by omega)
        have HK := Lib.hid (K3.of_below (Below.refl wr.heap.size wr) q g m)
        have hS60 := Lib.hid (show s ≤ 60 by omega)
        have hs60 : s ≤ 60 := hS60.out
        clear hE0 hE1 jj n1 hs1 hgb d1 d2 d3
        cases hh : H j with
        | true =>
          have HL0 := Lib.hid (HL0.out.trans hh)
          have hd := drop_at hHJ HE4.out HL0.out
          have HD := Lib.hid hd
          have HHH := Lib.hid hh
          clear hd hh hHJ
          go_wp2_with fail
          refine (gedge HGA.out ((j : Int) + 1)).mono ?_; rintro _ _ ⟨rfl, rfl⟩
          rw [HE0.out]
          go_wp2_with fail
          refine (gleads HGA.out E0 HEB.out.1 HEB.out.2).mono ?_; rintro _ z ⟨rfl, hb⟩
          have HGA := Lib.hid (HGA.out.below hb); have HK := Lib.hid (HK.out.trans (K3.of_below hb q g m)); clear hb
          rw [HL0.out]
          go_wp2_with fail
          refine (gdrop HGA.out E0 HEB.out.1 HEB.out.2 (by have := hS60.out; omega)).mono ?_; rintro _ z ⟨rfl, h1, h2⟩
          rw [HD.out.1, HD.out.2, HL0.out] at h1
          rw [HL0.out]
          simp only [if_true] at h1
          have HH1 := Lib.hid (setB_at H j false)
          generalize setB H j false = Hn at h1 HH1
          generalize updI G j ((G j + 1) % 1125899906842624) = Gn at h1
          have HGA := Lib.hid h1; have HK := Lib.hid (HK.out.trans h2); clear h1 h2 HD HL0 HE0 HE4 HEB
          rename_i H_old G_old
          obtain ⟨E, H2, H3, H4, G3, hE, hL⟩ := Lv.mk' HJ.out HN1.out HH1.out (HGA.out.gb j)
          have HE := Lib.hid hE
          have HL := Lib.hid hL
          clear hE hL
          have HEF := Lib.hid (flaggedI_bd HL.out.e0)
          have HET := Lib.hid (taggedI_bd HL.out.e0)
          have HCN := Lib.hid (cntB_le Hn n)
          go_wp2_with fail
          refine (gheld HGA.out).mono ?_; rintro _ _ ⟨rfl, rfl⟩
          obtain ⟨cn, hcn⟩ : ∃ cn : Int, ((cntB Hn n : Nat) : Int) = cn := ⟨_, rfl⟩; rw [hcn]; have hc0 : 0 ≤ cn := (by omega); have hc1 : cn ≤ 250 := (by have := HCN.out; have := HN1.out; omega); have HCN2 := Lib.hid hcn; clear hcn
          go_wp2_with fail
          refine (gslips HGA.out).mono ?_; rintro _ _ ⟨rfl, rfl⟩
          go_wp2_with fail
          refine (gedge HGA.out ((j : Int) + 1)).mono ?_; rintro _ _ ⟨rfl, rfl⟩
          rw [HE.out]
          go_wp2_with fail
          refine (gleads HGA.out E HL.out.e0 (by have := HL.out.e1; omega)).mono ?_; rintro _ z ⟨rfl, hb⟩
          have HGA := Lib.hid (HGA.out.below hb); have HK := Lib.hid (HK.out.trans (K3.of_below hb q g m)); clear hb
          rw [HL.out.l0]
          go_wp2_with fail
          refine (gtake HGA.out ((j : Int) + 1) (by have := hS60.out; omega)).mono ?_; rintro _ z ⟨rfl, h1, h2⟩
          rw [HL.out.t1h] at h1; rw [HL.out.t1] at h1; rw [HL.out.t1]; simp only [Bool.false_eq_true, if_false, if_true] at h1; have HGA := Lib.hid h1; have HK := Lib.hid (HK.out.trans h2); clear h1 h2
          go_wp2_with fail
          refine (gleads HGA.out E HL.out.e0 (by have := HL.out.e1; omega)).mono ?_; rintro _ z ⟨rfl, hb⟩
          have HGA := Lib.hid (HGA.out.below hb); have HK := Lib.hid (HK.out.trans (K3.of_below hb q g m)); clear hb
          rw [HL.out.l1]
          go_wp2_with fail
          refine (eflagged_calls E _ HL.out.e0 (by have := HL.out.e1; omega)).mono ?_; rintro _ _ ⟨rfl, rfl⟩
          go_wp2_with fail
          refine (gleads HGA.out (flaggedI E) HEF.out.1 HEF.out.2).mono ?_; rintro _ z ⟨rfl, hb⟩
          have HGA := Lib.hid (HGA.out.below hb); have HK := Lib.hid (HK.out.trans (K3.of_below hb q g m)); clear hb
          rw [HL.out.l2]
          go_wp2_with fail
          refine (etagged_calls E _ HL.out.e0 (by have := HL.out.e1; omega)).mono ?_; rintro _ _ ⟨rfl, rfl⟩
          go_wp2_with fail
          refine (gleads HGA.out (taggedI E) HET.out.1 HET.out.2).mono ?_; rintro _ z ⟨rfl, hb⟩
          have HGA := Lib.hid (HGA.out.below hb); have HK := Lib.hid (HK.out.trans (K3.of_below hb q g m)); clear hb
          rw [HL.out.l3]
          go_wp2_with fail
          refine (gheld HGA.out).mono ?_; rintro _ _ ⟨rfl, rfl⟩
          rw [show ((cntB H2 n : Nat) : Int) = cn + 1 by have := HCN2.out; rw [HL.out.h2]; omega]
          go_wp2_with fail
          refine (gtake HGA.out ((j : Int) + 1) (by have := hS60.out; omega)).mono ?_; rintro _ z ⟨rfl, h1, h2⟩
          rw [HL.out.t2h] at h1; rw [HL.out.t2] at h1; rw [HL.out.t2]; simp only [Bool.false_eq_true, if_false, if_true] at h1; have HGA := Lib.hid h1; have HK := Lib.hid (HK.out.trans h2); clear h1 h2
          go_wp2_with fail
          refine (etagged_calls E _ HL.out.e0 (by have := HL.out.e1; omega)).mono ?_; rintro _ _ ⟨rfl, rfl⟩
          go_wp2_with fail
          refine (gdrop HGA.out (taggedI E) HET.out.1 HET.out.2 (by have := hS60.out; omega)).mono ?_; rintro _ z ⟨rfl, h1, h2⟩
          rw [HL.out.d3h] at h1; rw [HL.out.d3g] at h1; rw [HL.out.l3] at h1; rw [HL.out.l3]; simp only [Bool.false_eq_true, if_false, if_true] at h1; have HGA := Lib.hid h1; have HK := Lib.hid (HK.out.trans h2); clear h1 h2
          go_wp2_with fail
          refine (gleads HGA.out E HL.out.e0 (by have := HL.out.e1; omega)).mono ?_; rintro _ z ⟨rfl, hb⟩
          have HGA := Lib.hid (HGA.out.below hb); have HK := Lib.hid (HK.out.trans (K3.of_below hb q g m)); clear hb
          rw [HL.out.l4]
          go_wp2_with fail
          refine (gdrop HGA.out E HL.out.e0 (by have := HL.out.e1; omega) (by have := hS60.out; omega)).mono ?_; rintro _ z ⟨rfl, h1, h2⟩
          rw [HL.out.d4h] at h1; rw [HL.out.d4g] at h1; rw [HL.out.l4] at h1; rw [HL.out.l4]; simp only [Bool.false_eq_true, if_false, if_true] at h1; have HGA := Lib.hid h1; have HK := Lib.hid (HK.out.trans h2); clear h1 h2
          go_wp2_with fail
          refine (gheld HGA.out).mono ?_; rintro _ _ ⟨rfl, rfl⟩
          rw [show ((cntB H3 n : Nat) : Int) = cn by rw [HL.out.h3]; exact HCN2.out]
          go_wp2_with fail
          refine (gslips HGA.out).mono ?_; rintro _ _ ⟨rfl, rfl⟩
          rw [show s + 1 + 1 = s + 2 by omega]
          go_wp2_with fail
          refine (gtake HGA.out ((j : Int) + 1) (by have := hS60.out; omega)).mono ?_; rintro _ z ⟨rfl, h1, h2⟩
          rw [HL.out.t3h] at h1; rw [HL.out.t3] at h1; rw [HL.out.t3]; simp only [Bool.false_eq_true, if_false, if_true] at h1; have HGA := Lib.hid h1; have HK := Lib.hid (HK.out.trans h2); clear h1 h2
          go_wp2_with fail
          refine (gleads HGA.out E HL.out.e0 (by have := HL.out.e1; omega)).mono ?_; rintro _ z ⟨rfl, hb⟩
          have HGA := Lib.hid (HGA.out.below hb); have HK := Lib.hid (HK.out.trans (K3.of_below hb q g m)); clear hb
          rw [HL.out.l5]
          go_wp2_with fail
          refine (lives7_calls _).mono ?_; rintro _ w3 ⟨rfl, hb⟩
          go_wp2_with fail
          (try go_ret)
          rw [HQ.out]
          obtain ⟨f1, f2, f3, f4⟩ := HF.out
          have h1 := below_k3 HBW.out HK.out f1 f2 f3
          exact ⟨rfl, h1.trans (hb.mono h1.size)⟩
        | false =>
          have HL0 := Lib.hid (HL0.out.trans hh)
          have HHH := Lib.hid hh
          clear hh hHJ
          go_wp2_with fail
          refine (gedge HGA.out ((j : Int) + 1)).mono ?_; rintro _ _ ⟨rfl, rfl⟩
          rw [HE0.out]
          go_wp2_with fail
          refine (gleads HGA.out E0 HEB.out.1 HEB.out.2).mono ?_; rintro _ z ⟨rfl, hb⟩
          have HGA := Lib.hid (HGA.out.below hb); have HK := Lib.hid (HK.out.trans (K3.of_below hb q g m)); clear hb
          rw [HL0.out]
          obtain ⟨E, H2, H3, H4, G3, hE, hL⟩ := Lv.mk' HJ.out HN1.out HHH.out (HGA.out.gb j)
          have HE := Lib.hid hE
          have HL := Lib.hid hL
          clear hE hL HL0 HE0 HE4 HEB
          have HEF := Lib.hid (flaggedI_bd HL.out.e0)
          have HET := Lib.hid (taggedI_bd HL.out.e0)
          have HCN := Lib.hid (cntB_le H n)
          go_wp2_with fail
          refine (gheld HGA.out).mono ?_; rintro _ _ ⟨rfl, rfl⟩
          obtain ⟨cn, hcn⟩ : ∃ cn : Int, ((cntB H n : Nat) : Int) = cn := ⟨_, rfl⟩; rw [hcn]; have hc0 : 0 ≤ cn := (by omega); have hc1 : cn ≤ 250 := (by have := HCN.out; have := HN1.out; omega); have HCN2 := Lib.hid hcn; clear hcn
          go_wp2_with fail
          refine (gslips HGA.out).mono ?_; rintro _ _ ⟨rfl, rfl⟩
          go_wp2_with fail
          refine (gedge HGA.out ((j : Int) + 1)).mono ?_; rintro _ _ ⟨rfl, rfl⟩
          rw [HE.out]
          go_wp2_with fail
          refine (gleads HGA.out E HL.out.e0 (by have := HL.out.e1; omega)).mono ?_; rintro _ z ⟨rfl, hb⟩
          have HGA := Lib.hid (HGA.out.below hb); have HK := Lib.hid (HK.out.trans (K3.of_below hb q g m)); clear hb
          rw [HL.out.l0]
          go_wp2_with fail
          refine (gtake HGA.out ((j : Int) + 1) (by have := hS60.out; omega)).mono ?_; rintro _ z ⟨rfl, h1, h2⟩
          rw [HL.out.t1h] at h1; rw [HL.out.t1] at h1; rw [HL.out.t1]; simp only [Bool.false_eq_true, if_false, if_true] at h1; have HGA := Lib.hid h1; have HK := Lib.hid (HK.out.trans h2); clear h1 h2
          go_wp2_with fail
          refine (gleads HGA.out E HL.out.e0 (by have := HL.out.e1; omega)).mono ?_; rintro _ z ⟨rfl, hb⟩
          have HGA := Lib.hid (HGA.out.below hb); have HK := Lib.hid (HK.out.trans (K3.of_below hb q g m)); clear hb
          rw [HL.out.l1]
          go_wp2_with fail
          refine (eflagged_calls E _ HL.out.e0 (by have := HL.out.e1; omega)).mono ?_; rintro _ _ ⟨rfl, rfl⟩
          go_wp2_with fail
          refine (gleads HGA.out (flaggedI E) HEF.out.1 HEF.out.2).mono ?_; rintro _ z ⟨rfl, hb⟩
          have HGA := Lib.hid (HGA.out.below hb); have HK := Lib.hid (HK.out.trans (K3.of_below hb q g m)); clear hb
          rw [HL.out.l2]
          go_wp2_with fail
          refine (etagged_calls E _ HL.out.e0 (by have := HL.out.e1; omega)).mono ?_; rintro _ _ ⟨rfl, rfl⟩
          go_wp2_with fail
          refine (gleads HGA.out (taggedI E) HET.out.1 HET.out.2).mono ?_; rintro _ z ⟨rfl, hb⟩
          have HGA := Lib.hid (HGA.out.below hb); have HK := Lib.hid (HK.out.trans (K3.of_below hb q g m)); clear hb
          rw [HL.out.l3]
          go_wp2_with fail
          refine (gheld HGA.out).mono ?_; rintro _ _ ⟨rfl, rfl⟩
          rw [show ((cntB H2 n : Nat) : Int) = cn + 1 by have := HCN2.out; rw [HL.out.h2]; omega]
          go_wp2_with fail
          refine (gtake HGA.out ((j : Int) + 1) (by have := hS60.out; omega)).mono ?_; rintro _ z ⟨rfl, h1, h2⟩
          rw [HL.out.t2h] at h1; rw [HL.out.t2] at h1; rw [HL.out.t2]; simp only [Bool.false_eq_true, if_false, if_true] at h1; have HGA := Lib.hid h1; have HK := Lib.hid (HK.out.trans h2); clear h1 h2
          go_wp2_with fail
          refine (etagged_calls E _ HL.out.e0 (by have := HL.out.e1; omega)).mono ?_; rintro _ _ ⟨rfl, rfl⟩
          go_wp2_with fail
          refine (gdrop HGA.out (taggedI E) HET.out.1 HET.out.2 (by have := hS60.out; omega)).mono ?_; rintro _ z ⟨rfl, h1, h2⟩
          rw [HL.out.d3h] at h1; rw [HL.out.d3g] at h1; rw [HL.out.l3] at h1; rw [HL.out.l3]; simp only [Bool.false_eq_true, if_false, if_true] at h1; have HGA := Lib.hid h1; have HK := Lib.hid (HK.out.trans h2); clear h1 h2
          go_wp2_with fail
          refine (gleads HGA.out E HL.out.e0 (by have := HL.out.e1; omega)).mono ?_; rintro _ z ⟨rfl, hb⟩
          have HGA := Lib.hid (HGA.out.below hb); have HK := Lib.hid (HK.out.trans (K3.of_below hb q g m)); clear hb
          rw [HL.out.l4]
          go_wp2_with fail
          refine (gdrop HGA.out E HL.out.e0 (by have := HL.out.e1; omega) (by have := hS60.out; omega)).mono ?_; rintro _ z ⟨rfl, h1, h2⟩
          rw [HL.out.d4h] at h1; rw [HL.out.d4g] at h1; rw [HL.out.l4] at h1; rw [HL.out.l4]; simp only [Bool.false_eq_true, if_false, if_true] at h1; have HGA := Lib.hid h1; have HK := Lib.hid (HK.out.trans h2); clear h1 h2
          go_wp2_with fail
          refine (gheld HGA.out).mono ?_; rintro _ _ ⟨rfl, rfl⟩
          rw [show ((cntB H3 n : Nat) : Int) = cn by rw [HL.out.h3]; exact HCN2.out]
          go_wp2_with fail
          refine (gslips HGA.out).mono ?_; rintro _ _ ⟨rfl, rfl⟩
          rw [show s + 1 + 1 = s + 2 by omega]
          go_wp2_with fail
          refine (gtake HGA.out ((j : Int) + 1) (by have := hS60.out; omega)).mono ?_; rintro _ z ⟨rfl, h1, h2⟩
          rw [HL.out.t3h] at h1; rw [HL.out.t3] at h1; rw [HL.out.t3]; simp only [Bool.false_eq_true, if_false, if_true] at h1; have HGA := Lib.hid h1; have HK := Lib.hid (HK.out.trans h2); clear h1 h2
          go_wp2_with fail
          refine (gleads HGA.out E HL.out.e0 (by have := HL.out.e1; omega)).mono ?_; rintro _ z ⟨rfl, hb⟩
          have HGA := Lib.hid (HGA.out.below hb); have HK := Lib.hid (HK.out.trans (K3.of_below hb q g m)); clear hb
          rw [HL.out.l5]
          go_wp2_with fail
          refine (lives7_calls _).mono ?_; rintro _ w3 ⟨rfl, hb⟩
          go_wp2_with fail
          (try go_ret)
          rw [HQ.out]
          obtain ⟨f1, f2, f3, f4⟩ := HF.out
          have h1 := below_k3 HBW.out HK.out f1 f2 f3
          exact ⟨rfl, h1.trans (hb.mono h1.size)⟩
      have hX := HX.out
      have hGB := HG.out
      have hl1 := hGB.ga.lt
      have hl2 := hX.lt
      obtain ⟨go, off, rfl, k, a, e, hop⟩ := HOP.out i hlt
      have hop := hop.below HBW.out
      have hgo : go < w.heap.size := by
        obtain ⟨_, _, hh, _, _, _, h9⟩ := HOP.out i hlt
        cases hh
        exact h9.lt
      obtain ⟨o0, o1, o2, o3, o4⟩ := hop
      obtain ⟨f1, f2, f3, f4⟩ := HF.out
      have hXq : X ≠ q ∧ X ≠ g ∧ X ≠ m := HN.out.1
      have x0 := hX.c0
      have x1 := hX.c1
      have x0a := Ext.on x0
      have x1a := Ext.on x1
      have o0a := Ext.on o0
      have o1a := Ext.on o1
      have o2a := Ext.on o2
      have HO := Lib.hid (And.intro o0 (And.intro o1 o2))
      have HE := Lib.hid (And.intro o3 o4)
      have HS1 := Lib.hid (show s < 1000000 by omega)
      have HBX := Lib.hid (show b ≠ X from hbX)
      have HGO := Lib.hid hgo
      have HXQ := Lib.hid hXq
      have HFF := Lib.hid (And.intro f1 (And.intro f2 (And.intro f3 f4)))
      have HL1 := Lib.hid hl1
      have HLB := Lib.hid hGB.lt
      have hii : (i : Int) < len := by omega
      have HSD := Lib.hid (doS_le k a e n H G s)
      have RDd := ldo (HG.out.below (Below.refl _ _).drew) k a e o3 o4 HS1.out
      have RDa := fun (o : Obj) => ldo (HG.out.below ((Below.refl _ _).alloc (Nat.le_refl _) o).drew) k a e o3 o4 HS1.out
      unfold xV DoPost at RDd RDa
      unfold xV at RDd RDa
      generalize doH k a e n H G = H2 at RDd RDa
      generalize doG k a e n H G = G2 at RDd RDa
      generalize doS k a e n H G s = s2 at RDd RDa HSD
      have RDd := Lib.hid RDd
      have RDa := Lib.hid RDa
      clear hX hGB hl1 hl2 hgo hbX hXq f1 f2 f3 f4 o3 o4
      go_upto_region 8 with fail
      go_cut [10, 11] from 43 to 52 (fun p10 v11 wc => CutD wr q g m b n H2 G2 s2 p10 v11 wc)
      case first =>
        go_region_with (first
          | (go_at_call 9; (with_reducible refine (RDd.out).mono ?_); rintro _ W9 ⟨b2, c2, rfl, hG9, hk9, hp9⟩; have H9 := Lib.hid hG9; have K9 := Lib.hid hk9; have P9 := Lib.hid hp9; clear hG9 hk9 hp9)
          | (go_at_call 9; (with_reducible refine (RDa.out _).mono ?_); rintro _ W9 ⟨b2, c2, rfl, hG9, hk9, hp9⟩; have yh := k3_new hk9 HL1.out; have yf : ∀ i, W9.frozen? ⟨wr.heap.size, i, none⟩ = false := (fun i => frozen_of_row _ _ _ _ _ yh); have yc0 : W9.cell? ⟨wr.heap.size, 0, none⟩ = some (.slice none 0 0) := (by rw [cell_of_row _ _ _ _ _ (0, 0) yh]; rfl); have yc1 : W9.cell? ⟨wr.heap.size, 1, none⟩ = some (.int .i64 0) := (by rw [cell_of_row _ _ _ _ _ (0, 0) yh]; rfl); have YH := Lib.hid yh; have H9 := Lib.hid hG9; have K9 := Lib.hid hk9; have P9 := Lib.hid hp9; clear hG9 hk9 hp9 yh))
        all_goals
          go_wp2_with fail
          go_meet
          case rel => first | (with_reducible exact cutD_a H9.out K9.out P9.out) | (with_reducible exact cutD_b H9.out K9.out P9.out HL1.out HLB.out YH.out)
      case rest =>
      obtain ⟨Y, b2, c2, rfl, rfl, uh, hG9, hk9, hp9, hY, hY2⟩ := hcut
      have H9 := Lib.hid hG9
      have K9 := Lib.hid hk9
      have P9 := Lib.hid hp9
      have HUX := Lib.hid uh
      have u0 := uh.c0
      have u1 := uh.c1
      have hXU : XB wc X b n c s := by
        have h1 := HXQ.out
        exact (hk9.block _ HX.out.lt h1.1 h1.2.1 h1.2.2).trans HX.out
      have xf := hXU.fr
      have xc0 := hXU.c0
      have xc1 := hXU.c1
      have HXU := Lib.hid hXU
      clear hXU x0 x1 o0 o1 o2 x0a x1a o0a o1a o2a uh hG9 hk9 hp9 hY hY2
      go_upto_region 7 with fail
      generalize hT : World.setCell _ _ _ = T
      have tX : XB T X b2 n c2 s2 := by rw [← hT]; exact HXU.out.set b2 c2 s2
      have HNE := Lib.hid (show q ≠ X ∧ g ≠ X ∧ m ≠ X ∧ b2 ≠ X by
        have h1 := HXQ.out
        have h2 := HX.out.lt
        refine ⟨h1.1.symm, h1.2.1.symm, h1.2.2.symm, ?_⟩
        rcases P9.out with rfl | hp
        · exact HBX.out
        · omega)
      have tG : GB T q g m b2 n c2 H2 G2 s2 := by
        obtain ⟨h1, h2, h3, h4⟩ := HNE.out
        rw [← hT]; exact (H9.out.setOther h1 h2 h3 h4 _).setOther h1 h2 h3 h4 _
      have tB : Below w.heap.size w T := by
        obtain ⟨f1, f2, f3, f4⟩ := HFF.out
        have h1 := below_k3 HBW.out K9.out f1 f2 f3
        rw [← hT]
        exact below_setC (below_setC h1 f4 _) f4 _
      have TX := Lib.hid tX
      have TG := Lib.hid tG
      have TB := Lib.hid tB
      clear hT tX tG tB xf xc0 xc1 u0 u1
      go_wp2_with fail
      go_roundw
      case rel =>
        have := HSD.out
        exact ⟨i + 1, by omega, by go_num, b2, c2, H2, G2, s2, TG.out, TX.out, HNE.out.2.2.2, by omega, by omega, TB.out⟩
      case measure => simp [intOf]; omega
  · go_enter Try.func5, Try.ntmps5
    have HR := Lib.hid hr
    go_wp2_with fail
    refine (gnew_no slots w HR.out).mono ?_; rintro _ w1 ⟨rfl, hB⟩
    have HB := Lib.hid hB
    clear hB
    go_wp2_with fail
    refine (lives7_calls _).mono ?_; rintro _ w3 ⟨rfl, hb⟩
    go_wp2_with fail
    (try go_ret)
    rw [HQ.out]
    exact ⟨rfl, HB.out.trans (hb.mono HB.out.size)⟩
end Go.Proofs.Ytlgongddgbfdpaa
