/- Layer 11: HistOrders. -/
import Derived.Test.YtmnmomiheenmpaaHisG
import Derived.Test.YtmnmomiheenmpaaHisF
import Derived.Deep.CutRange
namespace Go.Proofs.Ytmnmomiheenmpaa
open Go.RowKit
set_option linter.unusedVariables false
set_option linter.unusedSimpArgs false
theorem own_partsO {w : World} {B : Nat} {v : Value} {l : List (Opr × Value)} {O : List Opr} (h : OwnO w B v l) (hp : ∀ x ∈ l, PO w x.2 x.1.an.ps) (hl : l.map (·.1) = O) :
    ∃ p c, v = .slice p O.length c ∧ O.length ≤ c ∧ c ≤ 9223372036854775807 ∧ Hid (0 < O.length → ∃ g, p = some ⟨g, 0, none⟩ ∧ ∀ (i : Nat) (x : Opr), O[i]? = some x → ∃ q t c', OpC w g (i * 13) x (.slice q t c')) := by
  have hlen : O.length = l.length := by rw [← hl, List.length_map]
  rcases own_sliceO h with ⟨rfl, rfl⟩ | ⟨g, c, rfl, h1, h2, _⟩
  · refine ⟨none, 0, by rw [hlen]; rfl, by rw [hlen]; exact Nat.le_refl _, by decide, fun h0 => by rw [hlen] at h0; simp at h0⟩
  · refine ⟨_, c, by rw [hlen], by omega, h2, fun _ => ⟨g, rfl, fun i x hx => ?_⟩⟩
    rw [← hl, List.getElem?_map] at hx
    cases h3 : l[i]? with
    | none => rw [h3] at hx; cases hx
    | some y =>
      rw [h3] at hx
      simp only [Option.map_some, Option.some.injEq] at hx
      subst hx
      obtain ⟨q, c', e, _, _⟩ := (hp y (List.mem_of_getElem? h3)).1.slice
      exact ⟨q, _, c', e ▸ own_OpC h i y.1 y.2 h3⟩
set_option maxRecDepth 8000 in
set_option maxHeartbeats 16000000 in
theorem horders (n : Nat) (L : Nat → Ev) (v : Value) (w : World) (h : VR w v n L) : Calls Try.prog 5 #[v] w fun e w' => e = .returned (.bool true) ∧ Below w.heap.size w w' := by
  refine Calls.veil fun Q HQ => ?_
  obtain ⟨p, c, rfl, a1, a2, A3⟩ := h.parts
  have HV := Lib.hid h
  clear h
  go_enter Try.func5, Try.ntmps5
  go_wp2_with fail
  refine (hgreat n L _ _ HV.out).mono ?_; rintro _ z1 ⟨b, rfl, hg, hb1⟩
  have HZ1 := Lib.hid hb1
  clear hb1
  cases b with
  | true =>
    clear hg
    go_wp2_with fail
    refine (lives11_calls _).mono ?_; rintro _ z2 ⟨rfl, hb2⟩
    have HF := Lib.hid (below_on HZ1.out hb2)
    clear hb2
    go_wp2_with fail
    (try go_ret)
    rw [HQ.out]
    exact ⟨rfl, HF.out⟩
  | false =>
    obtain ⟨hn, hps⟩ := hg rfl
    have HN := Lib.hid hn
    have HPS := Lib.hid hps
    clear hg hn hps
    go_wp2_with fail
    refine (hmay n L _ _ (HV.out.below HZ1.out) (by have := HN.out; omega)).mono ?_; rintro _ z2 ⟨rfl, hb1⟩
    have HZ2 := Lib.hid (show Below w.heap.size w z2 from below_on HZ1.out hb1)
    clear hb1
    cases hm : mayH L n with
    | false =>
      clear hm
      go_wp2_with fail
      refine (lives11_calls _).mono ?_; rintro _ z3 ⟨rfl, hb2⟩
      have HF := Lib.hid (below_on HZ2.out hb2)
      clear hb2
      go_wp2_with fail
      (try go_ret)
      rw [HQ.out]
      exact ⟨rfl, HF.out⟩
    | true =>
      have HM := Lib.hid hm
      clear hm
      go_wp2_with fail
      refine (hopers n L _ _ (HV.out.below HZ2.out) (by have := HN.out; omega) (fun i hi => by have := HPS.out i hi; omega) HM.out).mono ?_; rintro _ W ⟨v1, l, rfl, hl, ho, hp, hb2⟩
      have HW := Lib.hid (show Below w.heap.size w W from below_on HZ2.out hb2)
      obtain ⟨p1, c1, rfl, d1, d2, D3⟩ := own_partsO ho hp hl
      clear ho hp hl hb2
      have HI := oinv HM.out n (Nat.le_refl _)
      have HA := Lib.hid HI.a
      have HB := Lib.hid HI.b
      have HC := Lib.hid HI.c
      have HCN := Lib.hid (stO_cnt L)
      have HLE := Lib.hid (stO_len L n)
      have HST0 := Lib.hid (show (stO L 0).1.length = 0 from rfl)
      clear HI
      obtain ⟨cn, hcn⟩ : ∃ cn : Nat → Nat, cn = fun i => (stO L i).1.length := ⟨_, rfl⟩
      have HCN := Lib.hid (show ∀ i, cn (i + 1) = if (L i).bk then cn i else cn i + 1 by rw [hcn]; exact HCN.out)
      have HCL := Lib.hid (show ∀ i, cn i ≤ i by rw [hcn]; exact stO_len L)
      have HC0 := Lib.hid (show cn 0 = 0 by rw [hcn]; rfl)
      have HCE := Lib.hid (show cn n = (stO L n).1.length by rw [hcn])
      clear hcn HST0
      generalize (stO L n).1 = O at *
      obtain ⟨m, hm⟩ : ∃ m, m = O.length := ⟨_, rfl⟩
      rw [← hm] at d1 D3 HLE HCE
      have HOM := Lib.hid hm
      rw [← hm]
      clear hm
      go_wp2_with fail
      go_loopw [4, 5] (fun cv iv wr => ∃ i : Nat, i ≤ n ∧ iv = .int .i64 i ∧ ∃ k : Nat, k ≤ i ∧ cv = .int .i64 k ∧ Hid (k = cn i) ∧ wr = W)
        (fun _ iv _ => n - (intOf iv).toNat)
      case atStart => exact ⟨0, by omega, rfl, 0, by omega, rfl, Lib.hid HC0.out.symm, rfl⟩
      case round =>
        obtain ⟨i, hi, rfl, k, hki, rfl, HKC, hWR⟩ := hrel
        have hWR := hWR.symm
        subst hWR
        rcases (by omega : i < n ∨ i = n) with hlt | hEQ
        · obtain ⟨g, o, rfl, hA⟩ := A3.out (by omega)
          obtain ⟨pv, hCC, _⟩ := (hA.below HW.out).cells i hlt
          have x1 := hCC.c1
          have HCI := Lib.hid (HCN.out i)
          have hin : i < 120 := by have := HN.out; omega
          have HIN := Lib.hid hin
          have HCLI := Lib.hid (HCL.out (i + 1))
          clear hA hCC hin
          generalize (L i).bk = bk at *
          cases bk
          · go_wp2_with fail
            go_roundw
            case rel => exact ⟨i + 1, by omega, by go_num, k + 1, by omega, by go_num, Lib.hid (by rw [HCI.out, HKC.out]; rfl), by trivial⟩
            case measure => simp [intOf]; omega
          · go_wp2_with fail
            go_roundw
            case rel => exact ⟨i + 1, by omega, by go_num, k, by omega, by go_num, Lib.hid (by rw [HCI.out, HKC.out]; rfl), by trivial⟩
            case measure => simp [intOf]; omega
        · have hge : ¬ i < n := by omega
          have hkm : k = m := by rw [HKC.out, hEQ, HCE.out]
          subst hkm
          have D3' := D3
          clear hEQ hki hi D3 HKC HCL HCN HC0 HCE
          have D3 := D3'
          go_wp2_with fail
          go_loopw [6] (fun iv wr => ∃ i : Nat, i ≤ k ∧ iv = .int .i64 i ∧ Below W.heap.size W wr)
            (fun iv _ => k - (intOf iv).toNat)
          case atStart => exact ⟨0, by omega, rfl, Below.refl _ _⟩
          case round =>
            obtain ⟨i, hi, rfl, hbx⟩ := hrel
            have HX1 := Lib.hid hbx
            clear hbx
            rcases (by omega : i < k ∨ i = k) with hlt | hEQ
            · obtain ⟨g, rfl, hD⟩ := D3.out (by omega)
              obtain ⟨x, hx⟩ : ∃ x, O[i]? = some x := ⟨_, List.getElem?_eq_getElem (by have := HOM.out; omega)⟩
              obtain ⟨qx, tx, sx, hCx⟩ := hD i x hx
              have HDD := Lib.hid hD
              obtain ⟨hf1, hf2, hf3⟩ := HA.out i x hx
              have haa : aheadB x x = false := by unfold aheadB; by_cases h0 : 0 ≤ x.to; · rw [decide_eq_false (p := x.to < x.fr) (by omega)]; simp
                                                  · rw [decide_eq_false h0]; rfl
              have HXI := Lib.hid hx
              have HF := Lib.hid (And.intro hf1 (And.intro hf2 hf3))
              have hg1 : ¬ x.fr < 0 := by omega
              have hg2 : ¬ (n : Int) ≤ x.fr := by omega
              clear hf1 hf2 hf3 hx hD
              obtain ⟨x0, x1, x2, x3, x4, x5, x6, x7, x8, x9, x10, x11, x12⟩ := hCx
              have x0 := Ext.cells x0; have x1 := Ext.cells x1; have x2 := Ext.cells x2; have x3 := Ext.cells x3; have x4 := Ext.cells x4; have x5 := Ext.cells x5; have x6 := Ext.cells x6; have x7 := Ext.cells x7; have x8 := Ext.cells x8; have x9 := Ext.cells x9; have x10 := Ext.cells x10; have x11 := Ext.cells x11; have x12 := Ext.cells x12
              go_upto_region 15 with fail
              (with_reducible refine wp_region_mix (fun w' => ∃ y : Ext W, w' = y.w) ?_ ?_ ?_ ?_; kernel_rfl; kernel_rfl; exact ⟨⟨wr.drew, HX1.out.drew⟩, rfl⟩)
              repeat (first | ((with_reducible refine mix_skip (by kernel_rfl) ?_); go_big_quiet_skip; (with_reducible refine mix_on ?_)) | ((with_reducible refine mix_plain (by kernel_rfl) ?_); (first | go_big_quiet_skip | (go_big_quiet_want; go_big_quiet_op; go_big_quiet_on)); (with_reducible refine mix_on ?_)))
              ((with_reducible refine wpMix_chain (by kernel_rfl) (by kernel_rfl) (fun K HK => ?_)); go_step)
              refine (hahead x x _ _ _).mono ?_; rintro _ y1 ⟨rfl, hb1⟩
              have HY1 := Lib.hid (show Below W.heap.size W y1 from below_on HX1.out.drew hb1)
              refine HK.out _ _ ⟨⟨y1, HY1.out⟩, rfl⟩ ?_
              clear HK K hb1
              rw [haa]
              repeat (first | ((with_reducible refine mix_skip (by kernel_rfl) ?_); go_big_quiet_skip; (with_reducible refine mix_on ?_)) | ((with_reducible refine mix_plain (by kernel_rfl) ?_); (first | go_big_quiet_skip | (go_big_quiet_want; go_big_quiet_op; go_big_quiet_on)); (with_reducible refine mix_on ?_)))
              refine wpMix_nil ?_
              go_wp2_with fail
              go_loopw [7] (fun kv wr => ∃ r : Nat, r ≤ i ∧ kv = .int .i64 r ∧ Below W.heap.size W wr)
                (fun kv _ => i - (intOf kv).toNat)
              case atStart => exact ⟨0, by omega, rfl, HY1.out⟩
              case round =>
                obtain ⟨r, hr, rfl, hbx⟩ := hrel
                have HX2 := Lib.hid hbx
                clear hbx
                rcases (by omega : r < i ∨ r = i) with hlr | hEQ2
                · obtain ⟨y, hy⟩ : ∃ y, O[r]? = some y := ⟨_, List.getElem?_eq_getElem (by have := HOM.out; omega)⟩
                  obtain ⟨qy, ty, sy, hCy⟩ := HDD.out r y hy
                  have hb5 := HB.out r i y x hlr hy HXI.out
                  have hg3 : ¬ x.fr ≤ y.fr := by omega
                  have HYX := Lib.hid (fun e => HC.out r i y x hlr hy HXI.out e)
                  have HFY := Lib.hid (HA.out r y hy)
                  have HYI := Lib.hid hy
                  have hrk : r < k := by omega
                  clear hb5 hy
                  obtain ⟨y0, y1, y2, y3, y4, y5, y6, y7, y8, y9, y10, y11, y12⟩ := hCy
                  have y0 := Ext.cells y0; have y1 := Ext.cells y1; have y2 := Ext.cells y2; have y3 := Ext.cells y3; have y4 := Ext.cells y4; have y5 := Ext.cells y5; have y6 := Ext.cells y6; have y7 := Ext.cells y7; have y8 := Ext.cells y8; have y9 := Ext.cells y9; have y10 := Ext.cells y10; have y11 := Ext.cells y11; have y12 := Ext.cells y12
                  go_upto_region 20 with fail
                  go_cut [110] from 70 to 151 (fun u wx => u = .bool false ∧ Below W.heap.size W wx)
                  case first =>
                    by_cases hth : y.th = x.th
                    · have hyx : aheadB y x = true := by unfold aheadB; have := HYX.out hth; rw [decide_eq_true this.1, decide_eq_true this.2]; rfl
                      have heq : (y.th == x.th) = true := by rw [hth]; exact beq_self_eq_true _
                      clear hth
                      (with_reducible refine wp_region_mix (fun w' => ∃ y : Ext W, w' = y.w) ?_ ?_ ?_ ?_; kernel_rfl; kernel_rfl; exact ⟨⟨wr.drew, HX2.out.drew⟩, rfl⟩)
                      repeat (first | ((with_reducible refine mix_skip (by kernel_rfl) ?_); go_big_quiet_skip; (with_reducible refine mix_on ?_)) | ((with_reducible refine mix_plain (by kernel_rfl) ?_); (first | go_big_quiet_skip | (go_big_quiet_want; go_big_quiet_op; go_big_quiet_on)); (with_reducible refine mix_on ?_)))
                      ((with_reducible refine wpMix_chain (by kernel_rfl) (by kernel_rfl) (fun K HK => ?_)); go_step)
                      refine (hahead y x _ _ _).mono ?_; rintro _ y2 ⟨rfl, hb1⟩
                      have HY2 := Lib.hid (show Below W.heap.size W y2 from below_on HX2.out.drew hb1)
                      refine HK.out _ _ ⟨⟨y2, HY2.out⟩, rfl⟩ ?_
                      clear HK K hb1
                      rw [hyx]
                      repeat (first | ((with_reducible refine mix_skip (by kernel_rfl) ?_); go_big_quiet_skip; (with_reducible refine mix_on ?_)) | ((with_reducible refine mix_plain (by kernel_rfl) ?_); (first | go_big_quiet_skip | (go_big_quiet_want; go_big_quiet_op; go_big_quiet_on)); (with_reducible refine mix_on ?_)))
                      refine wpMix_nil ?_
                      go_wp2_with fail
                      go_meet
                      case rel => exact ⟨rfl, HY2.out⟩
                    · have heq : (y.th == x.th) = false := by rw [beq_eq_false_iff_ne]; exact hth
                      clear hth
                      (with_reducible refine wp_region_mix (fun w' => ∃ y : Ext W, w' = y.w) ?_ ?_ ?_ ?_; kernel_rfl; kernel_rfl; exact ⟨⟨wr.drew, HX2.out.drew⟩, rfl⟩)
                      repeat (first | ((with_reducible refine mix_skip (by kernel_rfl) ?_); go_big_quiet_skip; (with_reducible refine mix_on ?_)) | ((with_reducible refine mix_plain (by kernel_rfl) ?_); (first | go_big_quiet_skip | (go_big_quiet_want; go_big_quiet_op; go_big_quiet_on)); (with_reducible refine mix_on ?_)))
                      refine wpMix_nil ?_
                      go_wp2_with fail
                      go_meet
                      case rel => exact ⟨rfl, HX2.out.drew⟩
                  case rest =>
                    obtain ⟨rfl, hb6⟩ := hcut
                    have HX3 := Lib.hid hb6
                    clear hb6
                    have HRI := Lib.hid (And.intro hr hrk)
                    clear hrk
                    go_wp2_with fail
                    go_loopw [8] (fun jv wr => ∃ t : Nat, t ≤ r ∧ jv = .int .i64 t ∧ Below W.heap.size W wr)
                      (fun jv _ => r - (intOf jv).toNat)
                    case atStart => exact ⟨0, by omega, rfl, HX3.out⟩
                    case round =>
                      obtain ⟨t, ht, rfl, hbx⟩ := hrel
                      have HX4 := Lib.hid hbx
                      clear hbx
                      have h30 : (t < r ∧ decide ((i : Int) < 30) = true) ∨ (t < r ∧ decide ((i : Int) < 30) = false) ∨ t = r := by
                        rcases (by omega : t < r ∨ t = r) with h | h
                        · cases hd : decide ((i : Int) < 30)
                          · exact .inr (.inl ⟨h, rfl⟩)
                          · exact .inl ⟨h, rfl⟩
                        · exact .inr (.inr h)
                      rcases h30 with ⟨hlt4, hd30⟩ | ⟨hlt4, hd30⟩ | hEQ3
                      · obtain ⟨z, hz⟩ : ∃ z, O[t]? = some z := ⟨_, List.getElem?_eq_getElem (by have := HOM.out; have := HRI.out; omega)⟩
                        obtain ⟨qz, tz, sz, hCz⟩ := HDD.out t z hz
                        have HFZ := Lib.hid (HA.out t z hz)
                        have htk : t < k := by have := HRI.out; omega
                        have hrk : r < k := HRI.out.2
                        have HTR := Lib.hid (show aheadB z y = true → aheadB y x = true → aheadB z x = true by
                          have h1 := HFY.out
                          unfold aheadB
                          simp only [Bool.and_eq_true, decide_eq_true_eq]
                          intro h2 h3
                          omega)
                        clear hz
                        obtain ⟨z0, z1, z2, z3, z4, z5, z6, z7, z8, z9, z10, z11, z12⟩ := hCz
                        have z0 := Ext.cells z0; have z1 := Ext.cells z1; have z2 := Ext.cells z2; have z3 := Ext.cells z3; have z4 := Ext.cells z4; have z5 := Ext.cells z5; have z6 := Ext.cells z6; have z7 := Ext.cells z7; have z8 := Ext.cells z8; have z9 := Ext.cells z9; have z10 := Ext.cells z10; have z11 := Ext.cells z11; have z12 := Ext.cells z12
                        go_upto_region 25 with fail
                        go_cut [151] from 111 to 151 (fun u wx => u = .bool false ∧ Below W.heap.size W wx)
                        case first =>
                          (with_reducible refine wp_region_mix (fun w' => ∃ y : Ext W, w' = y.w) ?_ ?_ ?_ ?_; kernel_rfl; kernel_rfl; exact ⟨⟨wr.drew, HX4.out.drew⟩, rfl⟩)
                          repeat (first | ((with_reducible refine mix_skip (by kernel_rfl) ?_); go_big_quiet_skip; (with_reducible refine mix_on ?_)) | ((with_reducible refine mix_plain (by kernel_rfl) ?_); (first | go_big_quiet_skip | (go_big_quiet_want; go_big_quiet_op; go_big_quiet_on)); (with_reducible refine mix_on ?_)))
                          ((with_reducible refine wpMix_chain (by kernel_rfl) (by kernel_rfl) (fun K HK => ?_)); go_step)
                          refine (hahead z y _ _ _).mono ?_; rintro _ y2 ⟨rfl, hb1⟩
                          have HY2 := Lib.hid (show Below W.heap.size W y2 from below_on HX4.out.drew hb1)
                          refine HK.out _ _ ⟨⟨y2, HY2.out⟩, rfl⟩ ?_
                          clear HK K hb1
                          cases hzy : aheadB z y
                          · repeat (first | ((with_reducible refine mix_skip (by kernel_rfl) ?_); go_big_quiet_skip; (with_reducible refine mix_on ?_)) | ((with_reducible refine mix_plain (by kernel_rfl) ?_); (first | go_big_quiet_skip | (go_big_quiet_want; go_big_quiet_op; go_big_quiet_on)); (with_reducible refine mix_on ?_)))
                            refine wpMix_nil ?_
                            go_wp2_with fail
                            go_meet
                            case rel => exact ⟨rfl, HY2.out⟩
                          · repeat (first | ((with_reducible refine mix_skip (by kernel_rfl) ?_); go_big_quiet_skip; (with_reducible refine mix_on ?_)) | ((with_reducible refine mix_plain (by kernel_rfl) ?_); (first | go_big_quiet_skip | (go_big_quiet_want; go_big_quiet_op; go_big_quiet_on)); (with_reducible refine mix_on ?_)))
                            ((with_reducible refine wpMix_chain (by kernel_rfl) (by kernel_rfl) (fun K HK => ?_)); go_step)
                            refine (hahead y x _ _ _).mono ?_; rintro _ y3 ⟨rfl, hb1⟩
                            have HY3 := Lib.hid (show Below W.heap.size W y3 from below_on HY2.out hb1)
                            refine HK.out _ _ ⟨⟨y3, HY3.out⟩, rfl⟩ ?_
                            clear HK K hb1
                            cases hyx : aheadB y x
                            · repeat (first | ((with_reducible refine mix_skip (by kernel_rfl) ?_); go_big_quiet_skip; (with_reducible refine mix_on ?_)) | ((with_reducible refine mix_plain (by kernel_rfl) ?_); (first | go_big_quiet_skip | (go_big_quiet_want; go_big_quiet_op; go_big_quiet_on)); (with_reducible refine mix_on ?_)))
                              refine wpMix_nil ?_
                              go_wp2_with fail
                              go_meet
                              case rel => exact ⟨rfl, HY3.out⟩
                            · have hzx := HTR.out hzy hyx
                              repeat (first | ((with_reducible refine mix_skip (by kernel_rfl) ?_); go_big_quiet_skip; (with_reducible refine mix_on ?_)) | ((with_reducible refine mix_plain (by kernel_rfl) ?_); (first | go_big_quiet_skip | (go_big_quiet_want; go_big_quiet_op; go_big_quiet_on)); (with_reducible refine mix_on ?_)))
                              ((with_reducible refine wpMix_chain (by kernel_rfl) (by kernel_rfl) (fun K HK => ?_)); go_step)
                              refine (hahead z x _ _ _).mono ?_; rintro _ y4 ⟨rfl, hb1⟩
                              have HY4 := Lib.hid (show Below W.heap.size W y4 from below_on HY3.out hb1)
                              refine HK.out _ _ ⟨⟨y4, HY4.out⟩, rfl⟩ ?_
                              clear HK K hb1
                              rw [hzx]
                              repeat (first | ((with_reducible refine mix_skip (by kernel_rfl) ?_); go_big_quiet_skip; (with_reducible refine mix_on ?_)) | ((with_reducible refine mix_plain (by kernel_rfl) ?_); (first | go_big_quiet_skip | (go_big_quiet_want; go_big_quiet_op; go_big_quiet_on)); (with_reducible refine mix_on ?_)))
                              refine wpMix_nil ?_
                              go_wp2_with fail
                              go_meet
                              case rel => exact ⟨rfl, HY4.out⟩
                        case rest =>
                          obtain ⟨rfl, hb6⟩ := hcut
                          have HX5 := Lib.hid hb6
                          clear hb6
                          go_wp2_with fail
                          go_roundw
                          case rel => exact ⟨t + 1, by omega, by go_num, HX5.out⟩
                          case measure => simp [intOf]; omega
                      · go_wp2_with fail
                        go_roundw
                        case rel => exact ⟨r + 1, by omega, by go_num, HX4.out⟩
                        case measure => simp [intOf]; omega
                      · have hnt : ¬ t < r := by omega
                        clear hEQ3 ht
                        go_wp2_with fail
                        go_roundw
                        case rel => exact ⟨r + 1, by omega, by go_num, HX4.out⟩
                        case measure => simp [intOf]; omega
                · have hnr : ¬ r < i := by omega
                  clear hEQ2 hr hg1 hg2 haa x0 x1 x2 x3 x4 x5 x6 x7 x8 x9 x10 x11 x12
                  go_wp2_with fail
                  go_roundw
                  case rel => exact ⟨i + 1, by omega, by go_num, HX2.out⟩
                  case measure => simp [intOf]; omega
            · have hni : ¬ i < k := by omega
              clear hEQ hi
              go_wp2_with fail
              refine (lives11_calls _).mono ?_; rintro _ z3 ⟨rfl, hb2⟩
              have HF := Lib.hid (below_on HW.out (below_on HX1.out hb2))
              clear hb2
              go_wp2_with fail
              (try go_ret)
              rw [HQ.out]
              exact ⟨rfl, HF.out⟩
end Go.Proofs.Ytmnmomiheenmpaa
