/- Layer 19: the walk of LimboCrowd. -/
import Derived.Test.YtaaciolfgplnoaaGBI
import Derived.Deep.CutRange
namespace Go.Proofs.Ytaaciolfgplnoaa.Lb
open Go.RowKit WordM EdgeM Sl
set_option linter.unusedVariables false
set_option linter.unusedSimpArgs false
set_option maxRecDepth 16000 in
set_option maxHeartbeats 16000000 in
theorem limboCrowd_walk (v0 v1 : Value) (w : World) (s0 : Fr.okN w [.int .i64, .int .i64, .int .u64] v0) (s1 : Fr.ok1 w (.slice [.int .i64, .int .i64]) v1) :
    Calls Try.prog 3 #[v0, v1] w fun e w' => e = .returned (.bool true) ∧ Below w.heap.size w w' := by
  obtain ⟨cs, rfl, h⟩ := s0
  obtain ⟨_, _, rfl, k0, h⟩ := Fr.get_cons h
  obtain ⟨_, _, rfl, k1, h⟩ := Fr.get_cons h
  obtain ⟨_, _, rfl, k2, h⟩ := Fr.get_cons h
  obtain rfl := Fr.get_nil h
  obtain ⟨T, rfl, _⟩ := Fr.get_int k0
  obtain ⟨S, rfl, _⟩ := Fr.get_int k1
  obtain ⟨Kc, rfl, _⟩ := Fr.get_int k2
  obtain ⟨pa, pn, pc, rfl, p1, p2, hp⟩ := d2_open s1
  clear k0 k1 k2 h s1
  show Calls Try.prog _ #[.agg #[.int .i64 T, .int .i64 S, .int .u64 Kc], _] w _
  cases hmay : mayC T S Kc with
  | false => exact limboCrowd_no T S Kc _ w hmay
  | true =>
  by_cases hpn : 1200 < pn
  · exact limboCrowd_big T S Kc pa pn pc w hmay hpn
  have HP := Lib.hid hp
  clear hp
  refine Calls.veil fun Q HQ => ?_
  have hm := mayC_true hmay
  obtain ⟨t, rfl⟩ : ∃ t : Nat, T = t := ⟨T.toNat, by omega⟩
  obtain ⟨s, rfl⟩ : ∃ s : Nat, S = s := ⟨S.toNat, by omega⟩
  have HM := Lib.hid hmay
  have t1 : 1 ≤ t := by omega
  have t6 : t ≤ 6 := by omega
  have s1 : 7 ≤ s := by omega
  have s2 : s ≤ 250 := by omega
  clear hmay hm
  go_enter Try.func3, Try.ntmps3
  go_upto_region 1 with fail
  generalize hV : World.alloc _ _ = U
  obtain ⟨u0, hbu⟩ := Th.heapnewE hV
  obtain ⟨cb, hcb⟩ : ∃ cb, cb = w.heap.size := ⟨_, rfl⟩
  rw [← hcb] at u0 ⊢
  have HC := Lib.hid u0; have HBU := Lib.hid hbu
  clear hV u0 hbu hcb
  have o0 := Th.newcell HC.out 0 _ rfl; have o1 := Th.newcell HC.out 1 _ rfl; have o2 := Th.newcell HC.out 2 _ rfl
  go_wp2_with fail
  refine (rmay_calls t s Kc _).mono ?_; rintro _ w1 ⟨rfl, hb⟩
  have HC1 := Lib.hid (Th.up hb HC.out)
  have HB1 := Lib.hid (below_on HBU.out hb)
  clear hb HC HBU o0 o1 o2
  rw [HM.out]
  have hp2 : ¬ (1200 : Int) < pn := by omega
  have HPN := Lib.hid hpn
  have o0 := Th.newcell HC1.out 0 _ rfl; have o1 := Th.newcell HC1.out 1 _ rfl; have o2 := Th.newcell HC1.out 2 _ rfl
  clear hpn
  go_wp2_with fail
  refine (cnewI (t := t) (s := s) _ HM.out).mono ?_; rintro _ w2 ⟨q, pl, mb, mg, C, gq, gg, gm, fv, tq, rfl, hmi, hb, hin⟩
  have hm0 := MM.init hmi hin
  obtain ⟨P, hP⟩ : ∃ P : Pc, P = ⟨w1.heap.size, q, pl, mb, mg, C, gq, gg, gm, fv, tq, t, s, Kc, w2.heap.size⟩ := ⟨_, rfl⟩
  rw [← hP] at hm0
  have eq1 : q = P.q := by rw [hP]
  have HE := Lib.hid (show P.t = t ∧ P.s = s ∧ P.B = w1.heap.size ∧ P.N = w2.heap.size ∧ P.K = Kc from by rw [hP]; exact ⟨rfl, rfl, rfl, rfl, rfl⟩)
  rw [eq1]
  obtain ⟨σ0, hσ⟩ : ∃ σ0, σ0 = sgInit t s := ⟨_, rfl⟩
  rw [← hσ] at hm0
  obtain ⟨g0, hg0⟩ : ∃ g0 : Gh, g0 = ⟨fun a => if a ≤ 5 then 1 else 0, fun _ => -1, fun _ => [], frees s⟩ := ⟨_, rfl⟩
  have HI2 := Lib.hid (show XS P σ0 g0 0 from by rw [hσ, hg0]; exact XS.init P HE.out.1 HE.out.2.1 s1 s2)
  have HG0 := Lib.hid (show ∀ j, g0.X j = [] from fun j => by rw [hg0])
  have HM2 := Lib.hid hm0
  have HC2 := Lib.hid (Th.up hb HC1.out); have HB2 := Lib.hid (below_on HB1.out hb)
  have HBN := Lib.hid (show cb < w1.heap.size ∧ w1.heap.size ≤ w2.heap.size ∧ w.heap.size ≤ w1.heap.size from ⟨Th.blk_lt HC1.out, hb.size, HB1.out.size⟩)
  clear hmi hb hin hP eq1 hm0 o0 o1 o2 HC1 hσ hg0
  have o0 := Th.newcell HC2.out 0 _ rfl; have o1 := Th.newcell HC2.out 1 _ rfl; have o2 := Th.newcell HC2.out 2 _ rfl
  have hms := run_hands t (by omega)
  go_upto_region 7 with fail
  clear hms o0 o1 o2
  generalize hV : World.alloc _ _ = V
  obtain ⟨u0, hbv⟩ := Th.heapnewE hV
  obtain ⟨hb, hhb⟩ : ∃ z, z = w2.heap.size := ⟨_, rfl⟩
  rw [← hhb] at u0 ⊢
  have HM5 := Lib.hid (HM2.out.below hbv)
  have HL5 := Lib.hid (show LH w P cb hb V (fun _ => .slice none 0 0) (fun j => g0.X (10 * j + 2)) from by
    have hB := HBN.out
    refine ⟨?_, ?_, fun j _ => by rw [HG0.out]; exact ownA_nil _ _, fun i j _ _ _ b e => by simp [Value.ownBlock] at e, ?_, below_on HB2.out hbv, ?_, ?_⟩
    · rw [HE.out.1, HE.out.2.1, HE.out.2.2.2.2]; exact Th.up hbv HC2.out
    · rw [made_c] at u0; unfold Th.Blk; rw [HE.out.1]; exact u0
    · rw [HE.out.2.2.1, HE.out.2.2.2.1]; omega
    · rw [HE.out.2.2.1]; omega
    · rw [HE.out.2.2.1, HE.out.2.2.2.1]; exact ⟨hbv.size, by omega⟩)
  have HGL := Lib.hid (show ∀ j, j < P.t → (g0.X (10 * j + 2)).length ≤ 0 from fun j _ => by rw [HG0.out]; exact Nat.le_refl _)
  clear hV u0 hbv hhb HM2 HB2 HC2 HBN HG0
  go_wp2_with fail
  go_loopw [8, 9] (fun av iv wr => ∃ i : Nat, i ≤ pn ∧ iv = .int .i64 i ∧ ∃ (σ : Sg) (g : Gh) (A : List (Int × Int)) (v : Nat → Value), Hid (MM wr P σ) ∧ Hid (XS P σ g (2 * i)) ∧ Hid (LH w P cb hb wr v fun j => g.X (10 * j + 2)) ∧ Hid (AR wr P.N av A) ∧ Hid (AW P σ g A (2 * i)) ∧ Hid (A.length ≤ i) ∧ Hid (∀ j, j < P.t → (g.X (10 * j + 2)).length ≤ i)) (fun _ iv _ => pn - (intOf iv).toNat)
  case atStart => exact ⟨0, Nat.zero_le _, rfl, σ0, g0, [], _, HM5, HI2, HL5, Lib.hid (AR_nil _ _), Lib.hid (AW.nil _), Lib.hid (Nat.le_refl _), HGL⟩
  case round =>
    clear HM5 HI2 HL5 HGL σ0 g0
    obtain ⟨i, hi, rfl, σ, g, A, v, HM4, HI4, HL4, HA4, HW4, HAL, HEL⟩ := hrel
    rcases (by omega : i < pn ∨ i = pn) with hlt | heq
    · obtain ⟨pg, po, rfl, k, x, hk⟩ := HP.out i hlt
      obtain ⟨ap, ac, rfl, _, _⟩ := HA4.out.slice
      have hpi : i ≤ 1200 := by have := HPN.out; omega
      have d0 : wr.cell? ⟨pg, po + i * 2, none⟩ = some (.int .i64 k) := Ext.use (Ext.cells hk.1) HL4.out.bl
      have d1 : wr.cell? ⟨pg, po + i * 2 + 1, none⟩ = some (.int .i64 x) := Ext.use (Ext.cells hk.2) HL4.out.bl
      have HDD := Lib.hid hk
      have hii : (i : Int) < pn := by omega
      clear hk
      go_upto_region 12 with fail
      go_wp2_with fail
      by_cases hkt : 0 ≤ k ∧ k < t
      · obtain ⟨k, rfl⟩ : ∃ j : Nat, k = j := ⟨k.toNat, by omega⟩
        have HKP := Lib.hid (show k < P.t by rw [HE.out.1]; omega)
        have HKT := Lib.hid (show k < t by omega)
        clear hkt
        refine (cThread_yes HM4.out.c k HKP.out).mono ?_; rintro _ wa ⟨rfl, hb9⟩
        have HM6 := Lib.hid (HM4.out.below hb9); have HL6 := Lib.hid (HL4.out.below hb9); have HA6 := Lib.hid (HA4.out.below hb9)
        clear hb9 HM4 HL4 HA4 d0 d1
        go_wp2_with fail
        refine (cMem HM6.out.c).mono ?_; rintro _ _ ⟨rfl, rfl⟩
        go_wp2_with fail
        refine (mnow HM6.out HI4.out.ac.1 (by have := HI4.out.ac; omega)).mono ?_; rintro _ wb ⟨rfl, hm7, hk7⟩
        obtain ⟨σa, hσa⟩ : ∃ σa : Sg, σa = { σ with acc := σ.acc + 1 } := ⟨_, rfl⟩
        rw [← hσa] at hm7
        obtain ⟨now, hnow⟩ : ∃ now, now = σ.f 1 := ⟨_, rfl⟩
        rw [← hnow]
        have HNOW := Lib.hid (show σa.f 1 = now by rw [hσa, hnow])
        have HNB := Lib.hid (show 3 ≤ now ∧ now ≤ 10000 by have := HI4.out.ep; omega)
        have HI7 := Lib.hid (show XS P σa g (2 * i + 1) by rw [hσa]; exact HI4.out.load)
        have HW7 := Lib.hid (show AW P σa g A (2 * i + 1) from (HW4.out.le (by omega)).same (by rw [hσa]) (by rw [hσa]))
        have HM7 := Lib.hid hm7; have HL7 := Lib.hid (HL6.out.ka hk7); have HA7 := Lib.hid (HA6.out.ka hk7 (Nat.le_refl _))
        clear hm7 hk7 hσa hnow HM6 HL6 HA6 HI4 HW4
        go_wp2_with fail
        refine (mdepth HM7.out HKP.out).mono ?_; rintro _ _ ⟨rfl, rfl⟩
        obtain ⟨nf, hnf⟩ : ∃ nf, (σa.Ts k).nf = nf := ⟨_, rfl⟩
        rw [hnf]
        by_cases hcon : nf = 0 ∧ x = 1 ∧ g.X (10 * k + 2) = []
        · as_aux_lemma =>
            obtain ⟨hc1, hc2, hc3⟩ := hcon
            have d1 : wb.cell? ⟨pg, po + i * 2 + 1, none⟩ = some (.int .i64 x) := Ext.use (Ext.cells HDD.out.2) HL7.out.bl
            rw [hc2] at d1
            have hv0 : wb.cell? ⟨hb, k, none⟩ = some (v k) := HL7.out.gh HKP.out
            have hown := HL7.out.rw k HKP.out
            simp only [hc3] at hown
            obtain ⟨ph, ch, hve, _, _⟩ := ownA_slice hown
            rw [hve] at hv0
            have hkt : (k : Int) < t := by have := HKT.out; omega
            rw [hc1]
            clear hc1 hc2 hc3 hve hown
            go_wp2_with fail
            clear hv0 hkt d1
            go_roundw
            case rel => exact ⟨i + 1, by omega, by go_num, σa, g, A, v, HM7, Lib.hid (HI7.out.le (by omega)), HL7, HA7, Lib.hid (HW7.out.le (by omega)), Lib.hid (Nat.le_succ_of_le HAL.out), Lib.hid (fun j hj => Nat.le_succ_of_le (HEL.out j hj))⟩
            case measure => simp [intOf]; omega
        have HCON := Lib.hid (show ¬ ((σa.Ts k).nf = 0 ∧ x = 1 ∧ g.X (10 * k + 2) = []) from by rw [hnf]; exact hcon)
        have HNF := Lib.hid hnf
        clear hnf hcon
        obtain ⟨z, hz⟩ : ∃ z : Bool, ((nf : Int) == 0) = z := ⟨_, rfl⟩
        have HZ := Lib.hid hz
        go_upto_if 62 with fail
        go_cut [8] from 63 to 185 (fun v8 wx => ∃ (σ1 : Sg) (g1 : Gh) (A1 : List (Int × Int)) (v1 : Nat → Value), Hid (AR wx P.N v8 A1) ∧ Hid (MM wx P σ1) ∧ Hid (XS P σ1 g1 (2 * i + 1)) ∧ Hid (0 < (σ1.Ts k).nf) ∧ Hid (σ1.f 1 = now) ∧ Hid (LH w P cb hb wx v1 fun j => g1.X (10 * j + 2)) ∧ Hid (AW P σ1 g1 A1 (2 * i + 1)) ∧ Hid (A1.length ≤ i + 1) ∧ Hid (∀ j, j < P.t → (g1.X (10 * j + 2)).length ≤ i))
        case first =>
          cases z with
          | false =>
            as_aux_lemma =>
              have h1 : 0 < (σa.Ts k).nf := by
                have h0 := HZ.out
                have h3 := HNF.out
                rcases Nat.eq_zero_or_pos nf with h4 | h4
                · rw [h4] at h0; simp at h0
                · omega
              have HN9 := Lib.hid h1
              clear h1
              go_wp2_with fail
              go_meet
              case rel => exact ⟨σa, g, A, v, HA7, HM7, HI7, HN9, HNOW, HL7, HW7, Lib.hid (Nat.le_succ_of_le HAL.out), HEL⟩
          | true =>
            have hnf0 : nf = 0 := by have h0 := HZ.out; simpa using h0
            subst hnf0
            by_cases hx0 : x = 0
            · as_aux_lemma =>
                have d1 : wb.cell? ⟨pg, po + i * 2 + 1, none⟩ = some (.int .i64 x) := Ext.use (Ext.cells HDD.out.2) HL7.out.bl
                rw [hx0] at d1
                go_wp2_with fail
                clear d1
                refine (mcall (n := 0) (L := fun _ => 0) HM7.out HKP.out 1 (Th.UR.nil _) (by rw [HNF.out]; omega)).mono ?_; rintro _ wc2 ⟨rfl, hm8, hk8⟩
                have HI9 := Lib.hid (HI7.out.callT HKP.out HNF.out (fun _ => 0))
                have HN9 := Lib.hid (show 0 < ((σa.thr k (Th.callT (σa.Ts k) 1 0 fun _ => 0)).Ts k).nf by rw [thr_k]; show 0 < (σa.Ts k).nf + 1; omega)
                have HM9 := Lib.hid hm8; have HL9 := Lib.hid (HL7.out.ka hk8); have HA9 := Lib.hid (HA7.out.ka hk8 (Nat.le_refl _))
                have HW9 := Lib.hid (HW7.out.same (σ' := σa.thr k (Th.callT (σa.Ts k) 1 0 fun _ => 0)) rfl rfl)
                clear hm8 hk8 HM7 HL7 HA7 HI7 HW7
                go_wp2_with fail
                go_meet
                case rel => exact ⟨_, g, A, v, HA9, HM9, HI9, HN9, HNOW, HL9, HW9, Lib.hid (Nat.le_succ_of_le HAL.out), HEL⟩
            · by_cases hx1 : x = 1
              · as_aux_lemma =>
                  obtain ⟨e, B, heB⟩ : ∃ e B, g.X (10 * k + 2) = e :: B := by
                    have h1 := HCON.out
                    cases hX : g.X (10 * k + 2) with
                    | nil => exact absurd ⟨HNF.out, hx1, hX⟩ h1
                    | cons e B => exact ⟨e, B, rfl⟩
                  have d1 : wb.cell? ⟨pg, po + i * 2 + 1, none⟩ = some (.int .i64 x) := Ext.use (Ext.cells HDD.out.2) HL7.out.bl
                  rw [hx1] at d1
                  have hown : ownA wb P.N (v k) (e :: B) := by
                    have h9 : ownA wb P.N (v k) (g.X (10 * k + 2)) := HL7.out.rw k HKP.out
                    rw [heB] at h9; exact h9
                  have hv0 : wb.cell? ⟨hb, k, none⟩ = some (v k) := HL7.out.gh HKP.out
                  obtain ⟨gh, oh, ch, hve, q1, q2, hc0, _⟩ := ownA_cons hown
                  rw [hve] at hv0
                  have HVE := Lib.hid hve
                  have HBE := Lib.hid heB
                  have hlen : B.length ≤ 1200 := by have h9 := HEL.out k HKP.out; rw [heB] at h9; simp at h9; omega
                  have hkt : (k : Int) < t := by have := HKT.out; omega
                  have hz1 : ((B.length : Int) + 1 == 0) = false := by simp; omega
                  have HQ12 := Lib.hid (And.intro q1 q2)
                  clear hve heB hown q1 q2
                  go_wp2_with fail
                  generalize hU : World.alloc wb _ = U
                  obtain ⟨u0, hbu⟩ := Th.heapnewE hU
                  have HM8 := Lib.hid (HM7.out.below hbu); have HL8 := Lib.hid (HL7.out.below hbu); have HA8 := Lib.hid (HA7.out.below hbu)
                  have hur : Th.UR U (.slice (some ⟨wb.heap.size, 0, none⟩) 1 1) 1 (fun _ => e) := Th.UR.row _ 0 1 1 _ (by omega) (by omega) (fun i0 hi0 => by rw [show i0 = 0 by omega]; exact Th.newcell u0 0 _ rfl)
                  clear hU u0 hbu hv0 hc0 d1 HM7 HL7 HA7
                  refine (mcall (n := 1) (L := fun _ => e) HM8.out HKP.out 20 hur (by rw [HNF.out]; omega)).mono ?_; rintro _ wc2 ⟨rfl, hm9, hk9⟩
                  have HI9 := Lib.hid (show XS P (σa.thr k (Th.callT (σa.Ts k) 20 1 fun _ => e)) (rg g k e B now) (2 * i + 1) from by
                    have h9 := HI7.out.callR HKP.out HNF.out HBE.out (fun _ => e) rfl
                    rw [HNOW.out] at h9; exact h9)
                  have HN9 := Lib.hid (show 0 < ((σa.thr k (Th.callT (σa.Ts k) 20 1 fun _ => e)).Ts k).nf by rw [thr_k]; show 0 < (σa.Ts k).nf + 1; omega)
                  have HW9 := Lib.hid (show AW P (σa.thr k (Th.callT (σa.Ts k) 20 1 fun _ => e)) (rg g k e B now) (A ++ [(e, now)]) (2 * i + 1) from by
                    have h9 := HW7.out.callR (σ' := σa.thr k (Th.callT (σa.Ts k) 20 1 fun _ => e)) HI7.out HKP.out HBE.out rfl rfl
                    rw [HNOW.out] at h9; exact h9)
                  have HM9 := Lib.hid hm9; have HL9 := Lib.hid (HL8.out.ka hk9); have HA9 := Lib.hid (HA8.out.ka hk9 (Nat.le_refl _))
                  clear hur hm9 hk9 HM8 HL8 HA8 HI7 HW7
                  have hv0 : wc2.cell? ⟨hb, k, none⟩ = some (v k) := HL9.out.gh HKP.out
                  rw [HVE.out] at hv0
                  have hown9 : ownA wc2 P.N (.slice (some ⟨gh, oh, none⟩) (B.length + 1) ch) (e :: B) := by
                    have h9 : ownA wc2 P.N (v k) (g.X (10 * k + 2)) := HL9.out.rw k HKP.out
                    rw [HBE.out, HVE.out] at h9; exact h9
                  obtain ⟨gh', oh', ch', hve', _, _, hc0, hcut9⟩ := ownA_cons hown9
                  have hve2 : gh' = gh ∧ oh' = oh ∧ ch' = ch := by
                    simp only [Value.slice.injEq, Option.some.injEq, Addr.mk.injEq] at hve'
                    omega
                  obtain ⟨rfl, rfl, rfl⟩ := hve2
                  have HCUT := Lib.hid hcut9; have HOWN := Lib.hid hown9
                  have hal : A.length ≤ 100000 := by have := HAL.out; omega
                  obtain ⟨p9, c9, W2, hrun, ho9, hg9⟩ := pushW HA9.out e now hal HL9.out.NS.1
                  have ksg := KS_grown hg9
                  have HO9 := Lib.hid ho9
                  have HMa := Lib.hid (MM.ksW HM9.out HA9.out (Nat.le_refl _) ksg); have HLa := Lib.hid (LH.ksW HL9.out HA9.out (Nat.le_refl _) ksg)
                  have HKG := Lib.hid ksg
                  clear hve' hown9 hcut9 ho9 hg9 hal ksg
                  have n0 : W2.cell? ⟨hb, k, none⟩ = some (.slice (some ⟨gh', oh', none⟩) (B.length + 1) ch') := by
                    have h9 := HLa.out.gh HKP.out
                    rw [HVE.out] at h9; exact h9
                  have nf0 : ∀ i, W2.frozen? ⟨hb, i, none⟩ = false := HLa.out.hbk.fr
                  have q1 := HQ12.out.1
                  have q2 := HQ12.out.2
                  by_cases hc1 : ch' = 1
                  · have hB0 : B.length = 0 := by have := HQ12.out.1; omega
                    have HCUT2 := Lib.hid (show ownA wc2 P.N (.slice (some ⟨gh', oh', none⟩) 0 0) B from by have h9 := HCUT.out; rw [if_pos hc1, hc1, hB0] at h9; exact h9)
                    clear hB0
                    subst hc1
                    go_wp2_with (at_builtin; refine Th.wpList_append_run rfl (.tmp 91) (.tmp 100) 33 rfl rfl rfl rfl hrun ?_)
                    clear hrun hv0 hc0 n0 nf0 hz1 hkt q1 q2
                    generalize hW : World.setCell _ _ _ = W
                    obtain ⟨x9, hx9⟩ : ∃ x9 : Value, x9 = .slice (some ⟨gh', oh', none⟩) 0 0 := ⟨_, rfl⟩
                    have hcutW : ownA W2 P.N x9 B := by
                      rw [hx9]
                      refine ownA_kept HCUT2.out fun b hb2 => ?_
                      obtain ⟨cur, hcur⟩ := ownA_ty HCUT2.out hb2
                      refine HKG.out.block b (Th.blk_lt hcur) fun e9 => ?_
                      obtain ⟨_, c3, hc3⟩ := HA9.out.ty e9
                      exact ty_ne hcur hc3 (by decide) rfl
                    have hobx : ∀ b, x9.ownBlock = some b → (v k).ownBlock = some b := fun b e9 => by
                      rw [HVE.out]
                      rw [hx9] at e9
                      exact e9
                    have hWx : W = W2.setCell ⟨hb, k, none⟩ x9 := by rw [← hW, hx9]
                    have hE9 : (fun j => (rg g k e B now).X (10 * j + 2)) = updE (fun j => g.X (10 * j + 2)) k B := by
                      funext j
                      show updX (updX g.X (10 * k + 2) B) (10 * k + 7) [e] (10 * j + 2) = _
                      rw [updX_ne _ _ (by omega)]
                      by_cases e9 : j = k
                      · subst e9; rw [updX_at, updE_at]
                      · rw [updX_ne _ _ (by omega), updE_ne _ _ e9]
                    have HLz := Lib.hid (show LH w P cb hb W (updV v k x9) (fun j => (rg g k e B now).X (10 * j + 2)) from by
                      rw [hE9, hWx]
                      exact HLa.out.seth HKP.out (Th.KS.of_below (Below.refl _ _)) hcutW (fun b e9 => .inl (hobx b e9)))
                    have HMz := Lib.hid (show MM W P (σa.thr k (Th.callT (σa.Ts k) 20 1 fun _ => e)) from by
                      rw [hWx]
                      exact HMa.out.other HLa.out.hbk HLa.out.N.1 (by decide) (by decide) (by decide) (by decide) (Th.KS.set W2 hb k _))
                    have HAz := Lib.hid (show AR W P.N (.slice p9 (A.length + 1) c9) (A ++ [(e, now)]) from by
                      rw [hWx]
                      exact HO9.out.oth HLa.out.hbk (by decide) (Th.KS.set W2 hb k _))
                    have HELz := Lib.hid (show ∀ j, j < P.t → ((rg g k e B now).X (10 * j + 2)).length ≤ i from fun j hj => by
                      rw [show (rg g k e B now).X (10 * j + 2) = updE (fun j => g.X (10 * j + 2)) k B j from congrFun hE9 j]
                      by_cases e9 : j = k
                      · subst e9; rw [updE_at]; have h8 := HEL.out j hj; rw [HBE.out] at h8; simp at h8; omega
                      · rw [updE_ne _ _ e9]; exact HEL.out j hj)
                    have HALz := Lib.hid (show (A ++ [(e, now)]).length ≤ i + 1 by simp; exact HAL.out)
                    have HNOWz := Lib.hid (show (σa.thr k (Th.callT (σa.Ts k) 20 1 fun _ => e)).f 1 = now from HNOW.out)
                    clear hW hx9 hcutW hobx hWx hE9
                    go_wp2_with fail
                    go_meet
                    case rel => exact ⟨_, rg g k e B now, A ++ [(e, now)], _, HAz, HMz, HI9, HN9, HNOWz, HLz, HW9, HALz, HELz⟩
                  · have HCUT2 := Lib.hid (show ownA wc2 P.N (.slice (some ⟨gh', oh' + 1, none⟩) B.length (ch' - 1)) B from by have h9 := HCUT.out; rw [if_neg hc1] at h9; exact h9)
                    go_wp2_with (at_builtin; refine Th.wpList_append_run rfl (.tmp 91) (.tmp 100) 33 rfl rfl rfl rfl hrun ?_)
                    clear hrun hv0 hc0 n0 nf0 hz1 hkt q1 q2
                    generalize hW : World.setCell _ _ _ = W
                    obtain ⟨x9, hx9⟩ : ∃ x9 : Value, x9 = .slice (some ⟨gh', oh' + 1, none⟩) B.length (ch' - 1) := ⟨_, rfl⟩
                    have hcutW : ownA W2 P.N x9 B := by
                      rw [hx9]
                      refine ownA_kept HCUT2.out fun b hb2 => ?_
                      obtain ⟨cur, hcur⟩ := ownA_ty HCUT2.out hb2
                      refine HKG.out.block b (Th.blk_lt hcur) fun e9 => ?_
                      obtain ⟨_, c3, hc3⟩ := HA9.out.ty e9
                      exact ty_ne hcur hc3 (by decide) rfl
                    have hobx : ∀ b, x9.ownBlock = some b → (v k).ownBlock = some b := fun b e9 => by
                      rw [HVE.out]
                      rw [hx9] at e9
                      exact e9
                    have hWx : W = W2.setCell ⟨hb, k, none⟩ x9 := by rw [← hW, hx9]
                    have hE9 : (fun j => (rg g k e B now).X (10 * j + 2)) = updE (fun j => g.X (10 * j + 2)) k B := by
                      funext j
                      show updX (updX g.X (10 * k + 2) B) (10 * k + 7) [e] (10 * j + 2) = _
                      rw [updX_ne _ _ (by omega)]
                      by_cases e9 : j = k
                      · subst e9; rw [updX_at, updE_at]
                      · rw [updX_ne _ _ (by omega), updE_ne _ _ e9]
                    have HLz := Lib.hid (show LH w P cb hb W (updV v k x9) (fun j => (rg g k e B now).X (10 * j + 2)) from by
                      rw [hE9, hWx]
                      exact HLa.out.seth HKP.out (Th.KS.of_below (Below.refl _ _)) hcutW (fun b e9 => .inl (hobx b e9)))
                    have HMz := Lib.hid (show MM W P (σa.thr k (Th.callT (σa.Ts k) 20 1 fun _ => e)) from by
                      rw [hWx]
                      exact HMa.out.other HLa.out.hbk HLa.out.N.1 (by decide) (by decide) (by decide) (by decide) (Th.KS.set W2 hb k _))
                    have HAz := Lib.hid (show AR W P.N (.slice p9 (A.length + 1) c9) (A ++ [(e, now)]) from by
                      rw [hWx]
                      exact HO9.out.oth HLa.out.hbk (by decide) (Th.KS.set W2 hb k _))
                    have HELz := Lib.hid (show ∀ j, j < P.t → ((rg g k e B now).X (10 * j + 2)).length ≤ i from fun j hj => by
                      rw [show (rg g k e B now).X (10 * j + 2) = updE (fun j => g.X (10 * j + 2)) k B j from congrFun hE9 j]
                      by_cases e9 : j = k
                      · subst e9; rw [updE_at]; have h8 := HEL.out j hj; rw [HBE.out] at h8; simp at h8; omega
                      · rw [updE_ne _ _ e9]; exact HEL.out j hj)
                    have HALz := Lib.hid (show (A ++ [(e, now)]).length ≤ i + 1 by simp; exact HAL.out)
                    have HNOWz := Lib.hid (show (σa.thr k (Th.callT (σa.Ts k) 20 1 fun _ => e)).f 1 = now from HNOW.out)
                    clear hW hx9 hcutW hobx hWx hE9
                    go_wp2_with fail
                    go_meet
                    case rel => exact ⟨_, rg g k e B now, A ++ [(e, now)], _, HAz, HMz, HI9, HN9, HNOWz, HLz, HW9, HALz, HELz⟩
              · by_cases hx2 : x = 2
                · as_aux_lemma =>
                    have d1 : wb.cell? ⟨pg, po + i * 2 + 1, none⟩ = some (.int .i64 x) := Ext.use (Ext.cells HDD.out.2) HL7.out.bl
                    rw [hx2] at d1
                    go_wp2_with fail
                    clear d1
                    refine (mcall (n := 0) (L := fun _ => 0) HM7.out HKP.out 22 (Th.UR.nil _) (by rw [HNF.out]; omega)).mono ?_; rintro _ wc2 ⟨rfl, hm8, hk8⟩
                    have HI9 := Lib.hid (HI7.out.callC HKP.out HNF.out (fun _ => 0))
                    have HN9 := Lib.hid (show 0 < ((σa.thr k (Th.callT (σa.Ts k) 22 0 fun _ => 0)).Ts k).nf by rw [thr_k]; show 0 < (σa.Ts k).nf + 1; omega)
                    have HM9 := Lib.hid hm8; have HL9 := Lib.hid (HL7.out.ka hk8); have HA9 := Lib.hid (HA7.out.ka hk8 (Nat.le_refl _))
                    have HW9 := Lib.hid (HW7.out.same (σ' := σa.thr k (Th.callT (σa.Ts k) 22 0 fun _ => 0)) rfl rfl)
                    clear hm8 hk8 HM7 HL7 HA7 HI7 HW7
                    go_wp2_with fail
                    go_meet
                    case rel => exact ⟨_, g, A, v, HA9, HM9, HI9, HN9, HNOW, HL9, HW9, Lib.hid (Nat.le_succ_of_le HAL.out), HEL⟩
                · as_aux_lemma =>
                    have d1 : wb.cell? ⟨pg, po + i * 2 + 1, none⟩ = some (.int .i64 x) := Ext.use (Ext.cells HDD.out.2) HL7.out.bl
                    have q0 : (x == 0) = false := by simpa using hx0
                    have q1 : (x == 1) = false := by simpa using hx1
                    have q2 : (x == 2) = false := by simpa using hx2
                    go_wp2_with fail
                    clear d1
                    refine (mcall (n := 0) (L := fun _ => 0) HM7.out HKP.out 12 (Th.UR.nil _) (by rw [HNF.out]; omega)).mono ?_; rintro _ wc2 ⟨rfl, hm8, hk8⟩
                    have HI9 := Lib.hid (HI7.out.callA HKP.out HNF.out (fun _ => 0))
                    have HN9 := Lib.hid (show 0 < ((σa.thr k (Th.callT (σa.Ts k) 12 0 fun _ => 0)).Ts k).nf by rw [thr_k]; show 0 < (σa.Ts k).nf + 1; omega)
                    have HM9 := Lib.hid hm8; have HL9 := Lib.hid (HL7.out.ka hk8); have HA9 := Lib.hid (HA7.out.ka hk8 (Nat.le_refl _))
                    have HW9 := Lib.hid (HW7.out.same (σ' := σa.thr k (Th.callT (σa.Ts k) 12 0 fun _ => 0)) rfl rfl)
                    clear hm8 hk8 HM7 HL7 HA7 HI7 HW7
                    go_wp2_with fail
                    go_meet
                    case rel => exact ⟨_, g, A, v, HA9, HM9, HI9, HN9, HNOW, HL9, HW9, Lib.hid (Nat.le_succ_of_le HAL.out), HEL⟩
        case rest =>
        obtain ⟨σ1, g1, A1, v1, HA8, HM8, HI8, HN8, HW8, HL8, HV8, HAL8, HEL8⟩ := hcut
        clear HM7 HL7 HI7 HW7 HA7 HNF HZ hz HCON HEL HAL HNOW
        obtain ⟨ap1, ac1, rfl, _, _⟩ := HA8.out.slice
        go_wp2_with fail
        refine (mdepth HM8.out HKP.out).mono ?_; rintro _ _ ⟨rfl, rfl⟩
        obtain ⟨nf1, hnf1⟩ : ∃ nf1, (σ1.Ts k).nf = nf1 := ⟨_, rfl⟩
        rw [hnf1]
        have HNF1 := Lib.hid hnf1
        by_cases hn1 : nf1 = 1
        · subst hn1
          have HN1 := Lib.hid hnf1
          clear hnf1
          go_wp2_with fail
          refine (mtopS HM8.out HKP.out HN1.out).mono ?_; rintro _ wc3 ⟨fb, rfl, hfb, hb9⟩
          have HMx := Lib.hid (HM8.out.below hb9); have HLx := Lib.hid (HL8.out.below hb9); have HAx := Lib.hid (HA8.out.below hb9)
          obtain ⟨fn, hfn⟩ : ∃ fn, ((σ1.Ts k).fs 0).fn = fn := ⟨_, rfl⟩
          rw [hfn] at hfb
          have HFN := Lib.hid hfn
          obtain ⟨tk, htk⟩ : ∃ tk : Bool, (fn == 1) = tk := ⟨_, rfl⟩
          have HTKB := Lib.hid htk
          clear hb9 HM8 HL8 HA8 hfn
          go_wp2_with fail
          clear hfb htk
          refine (zstep HMx.out HI8.out (by omega) HKP.out HN8.out).mono ?_; rintro _ wd ⟨σ2, g2, rfl, hm8, hk8, hs8, _, _⟩
          have HMd := Lib.hid hm8; have HLx1 := Lib.hid (HLx.out.ka hk8); have HAd := Lib.hid (HAx.out.ka hk8 (Nat.le_refl _)); have HSO := Lib.hid hs8
          clear hm8 hk8 hs8 HMx HLx HAx
          obtain ⟨lf, hlf⟩ : ∃ lf, decide (0 < (σ2.Ts k).nf) = lf := ⟨_, rfl⟩
          rw [hlf]
          have HLF := Lib.hid hlf
          clear hlf
          cases lf with
          | true =>
            as_aux_lemma =>
              have hsame : ∀ j, g2.X (10 * j + 2) = g1.X (10 * j + 2) := HSO.out.hands (of_decide_eq_true HLF.out)
              have hEq : (fun j => g2.X (10 * j + 2)) = fun j => g1.X (10 * j + 2) := funext hsame
              obtain ⟨v2, hv2⟩ : ∃ v2, v2 = v1 := ⟨_, rfl⟩
              have HLd := Lib.hid (show LH w P cb hb wd v2 (fun j => g2.X (10 * j + 2)) by rw [hEq, hv2]; exact HLx1.out)
              have HEd := Lib.hid (show ∀ j, j < P.t → (g2.X (10 * j + 2)).length ≤ i + 1 from fun j hj => by rw [hsame j]; exact Nat.le_succ_of_le (HEL8.out j hj))
              clear hEq hv2 hsame HLx1
              go_wp2_with fail
              obtain ⟨Bs, hBs⟩ : ∃ Bs, Bs = wd.heap.size := ⟨_, rfl⟩
              have HBs := Lib.hid (show Bs ≤ wd.heap.size by rw [hBs]; exact Nat.le_refl _)
              have HNs := Lib.hid (show P.N ≤ Bs by rw [hBs]; exact HLd.out.NS.1)
              have HAs := Lib.hid (show ∀ b, (Value.slice ap1 A1.length ac1).ownBlock = some b → b < Bs from fun b hb9 => by
                obtain ⟨_, cur, hc⟩ := HAd.out.ty hb9
                rw [hBs]; exact Th.blk_lt hc)
              clear hBs
              go_loopw [14, 15] (fun sv jv wr => ∃ j : Nat, j ≤ A1.length ∧ jv = .int .i64 j ∧ Hid (MM wr P σ2) ∧ Hid (LH w P cb hb wr v2 fun j => g2.X (10 * j + 2)) ∧ Hid (AR wr P.N (.slice ap1 A1.length ac1) A1) ∧ Hid (AR wr Bs sv (stillL P.s σ2 (A1.take j))) ∧ Hid (Bs ≤ wr.heap.size)) (fun _ jv _ => A1.length - (intOf jv).toNat)
              case atStart => exact ⟨0, Nat.zero_le _, rfl, HMd, HLd, HAd, Lib.hid (AR_nil _ _), HBs⟩
              case round =>
                clear HMd HLd HAd
                obtain ⟨j, hj, rfl, HMe, HLe, HAe, HSe, HBe⟩ := hrel
                obtain ⟨sp, sc, rfl, _, _⟩ := HSe.out.slice
                rcases (by omega : j < A1.length ∨ j = A1.length) with hjl | hje
                · obtain ⟨ga, ca, hav, q1, q2, y0, y1⟩ := HAe.out.get hjl
                  obtain ⟨rfl, rfl⟩ : ap1 = some ⟨ga, 0, none⟩ ∧ ac1 = ca := by simpa using hav
                  obtain ⟨h1, h2, h3⟩ := HV8.out _ (List.getElem_mem hjl)
                  obtain ⟨hst1, _⟩ := HV8.out.step HSO.out _ (List.getElem_mem hjl)
                  have HTK9 := Lib.hid (still_take P.s σ2 hjl)
                  obtain ⟨ee, hee⟩ : ∃ ee, ee = A1[j].1 := ⟨_, rfl⟩
                  obtain ⟨ep, hep⟩ : ∃ ep, ep = A1[j].2 := ⟨_, rfl⟩
                  rw [← hee] at y0 h1 hst1 HTK9
                  rw [← hep] at y1 h3 hst1
                  have HPE := Lib.hid (show A1[j] = (ee, ep) by rw [hee, hep])
                  have HEE := Lib.hid h1
                  have HST1 := Lib.hid hst1
                  have HEP := Lib.hid h3.2.2
                  obtain ⟨lb, hlb⟩ : ∃ lb, Gd.leadsB P.s σ2.H σ2.G ee = lb := ⟨_, rfl⟩
                  have HLB := Lib.hid hlb
                  have hjI : (j : Int) < A1.length := by omega
                  have HY := Lib.hid (And.intro y0 y1)
                  have x0 := Ext.cells y0
                  clear h1 h2 h3 hst1 hee hep hlb y0 y1
                  go_upto_region 34 with fail
                  (with_reducible refine wp_region_mix (fun w' => ∃ y : Ext wr, w' = y.w) ?_ ?_ ?_ ?_; kernel_rfl; kernel_rfl; exact ⟨⟨wr.drew, (Below.refl _ _).drew⟩, rfl⟩)
                  repeat (first | ((with_reducible refine mix_plain (by kernel_rfl) ?_); (first | go_big_quiet_skip | (go_big_quiet_want; go_big_quiet_op; go_big_quiet_on)); (with_reducible refine mix_on ?_)) | ((with_reducible refine mix_skip (by kernel_rfl) ?_); go_big_quiet_skip; (with_reducible refine mix_on ?_)))
                  ((with_reducible refine wpMix_chain (by kernel_rfl) (by kernel_rfl) (fun K HK => ?_)); go_step)
                  have HMx := Lib.hid (HMe.out.below (Below.refl wr.heap.size wr).drew)
                  refine (cGuard HMx.out.c).mono ?_; rintro _ wx9 ⟨rfl, hwx⟩
                  subst hwx
                  refine HK.out _ _ ⟨⟨wr.drew, (Below.refl _ _).drew⟩, rfl⟩ ?_
                  clear HK K
                  repeat (first | ((with_reducible refine mix_plain (by kernel_rfl) ?_); (first | go_big_quiet_skip | (go_big_quiet_want; go_big_quiet_op; go_big_quiet_on)); (with_reducible refine mix_on ?_)) | ((with_reducible refine mix_skip (by kernel_rfl) ?_); go_big_quiet_skip; (with_reducible refine mix_on ?_)))
                  ((with_reducible refine wpMix_chain (by kernel_rfl) (by kernel_rfl) (fun K HK => ?_)); go_step)
                  refine (Gd.gleads HMx.out.c.grd ee HEE.out.1 (by have := HEE.out; omega)).mono ?_; rintro _ wy ⟨rfl, hb9⟩
                  have HBy := Lib.hid (below_on (Below.refl wr.heap.size wr).drew hb9)
                  refine HK.out _ _ ⟨⟨wy, HBy.out⟩, rfl⟩ ?_
                  rw [HLB.out]
                  clear HK K hb9 HMx
                  repeat (first | ((with_reducible refine mix_plain (by kernel_rfl) ?_); (first | go_big_quiet_skip | (go_big_quiet_want; go_big_quiet_op; go_big_quiet_on)); (with_reducible refine mix_on ?_)) | ((with_reducible refine mix_skip (by kernel_rfl) ?_); go_big_quiet_skip; (with_reducible refine mix_on ?_)))
                  refine wpMix_nil ?_
                  have HMf := Lib.hid (HMe.out.below HBy.out); have HLf := Lib.hid (HLe.out.below HBy.out); have HAf := Lib.hid (HAe.out.below HBy.out); have HSf := Lib.hid (HSe.out.below HBy.out)
                  have HBf := Lib.hid (Nat.le_trans HBe.out HBy.out.size)
                  have z0 : wy.cell? ⟨ga, j * 2, none⟩ = some (.int .u64 ee) := Ext.use (Ext.cells HY.out.1) HBy.out
                  have z1 : wy.cell? ⟨ga, j * 2 + 1, none⟩ = some (.int .u64 ep) := Ext.use (Ext.cells HY.out.2) HBy.out
                  clear x0 HMe HLe HAe HSe HBe HBy
                  cases lb with
                  | true =>
                    have hsl : (stillL P.s σ2 (A1.take j)).length ≤ 100000 := by
                      have q3 := still_len P.s σ2 (A1.take j)
                      have q4 := HAL8.out
                      simp at q3; omega
                    obtain ⟨p9, c9, W2, hrun, ho9, hg9⟩ := pushW HSf.out ee ep hsl HBf.out
                    have ksg := KS_grown hg9
                    have HMg := Lib.hid (MM.ksW HMf.out HSf.out HNs.out ksg); have HLg := Lib.hid (LH.ksW HLf.out HSf.out HNs.out ksg)
                    have HAg := Lib.hid (show AR W2 P.N (.slice (some ⟨ga, 0, none⟩) A1.length ac1) A1 from HAf.out.kept fun b hb9 => ksg.block b (by obtain ⟨_, cur, hc⟩ := HAf.out.ty hb9; exact Th.blk_lt hc) fun e9 => by
                      have q5 := (HSf.out.ty e9).1
                      have q6 := HAs.out b hb9
                      omega)
                    have HSg := Lib.hid (show AR W2 Bs (.slice p9 ((stillL P.s σ2 (A1.take j)).length + 1) c9) (stillL P.s σ2 (A1.take (j + 1))) from by
                      rw [HTK9.out, HLB.out, if_pos rfl, HPE.out]; exact ho9)
                    have HBg := Lib.hid (Nat.le_trans HBf.out ksg.size)
                    clear ho9 hg9 hsl ksg
                    go_wp2_with (at_builtin; refine Th.wpList_append_run rfl (.tmp 168) (.tmp 173) 33 rfl rfl rfl rfl hrun ?_)
                    clear hrun z0 z1 hjI
                    go_roundw
                    case rel => exact ⟨j + 1, by omega, by go_num, HMg, HLg, HAg, HSg, HBg⟩
                    case measure => simp [intOf]; omega
                  | false =>
                    have hlt : ¬ now < ep + 3 := by have q3 := HST1.out HLB.out; have q4 := HW8.out; omega
                    have hwr : IntKind.u64.wrap (ep + 3) = ep + 3 := by
                      have q3 := HST1.out HLB.out; have q4 := HW8.out; have q5 := HNB.out; have q6 := HEP.out
                      rw [IntKind.wrap_u64]; omega
                    go_wp2_with fail
                    clear hlt hwr z0 z1 hjI
                    have HSg := Lib.hid (show AR wy Bs _ (stillL P.s σ2 (A1.take (j + 1))) from by
                      rw [HTK9.out, HLB.out]; simp; exact HSf.out)
                    go_roundw
                    case rel => exact ⟨j + 1, by omega, by go_num, HMf, HLf, HAf, HSg, HBf⟩
                    case measure => simp [intOf]; omega
                · have hjI : ¬ (j : Int) < A1.length := by omega
                  have HSx := Lib.hid (show AR wr P.N (.slice sp (stillL P.s σ2 (A1.take j)).length sc) (stillL P.s σ2 A1) from by
                    have h9 := HSe.out.mono HNs.out
                    have h8 : stillL P.s σ2 (A1.take j) = stillL P.s σ2 A1 := by rw [hje, List.take_length]
                    rw [h8] at h9 ⊢; exact h9)
                  clear hje
                  go_wp2_with fail
                  have hcf := HMe.out.c
                  rw [HSO.out.xs.ok.1, HSO.out.xs.ok.2.1, HSO.out.xs.ok.2.2] at hcf
                  refine (cFault hcf).mono ?_; rintro _ wg ⟨rfl, hb9⟩
                  have HMg := Lib.hid (HMe.out.below hb9); have HLg := Lib.hid (HLe.out.below hb9); have HSg := Lib.hid (HSx.out.below hb9)
                  clear hb9 hcf HMe HLe HAe HSe HSx hjI
                  go_wp2_with fail
                  go_roundw
                  case rel => exact ⟨i + 1, by omega, by go_num, σ2, g2, stillL P.s σ2 A1, v2, HMg, Lib.hid (show XS P σ2 g2 (2 * i + 1 + 1) from HSO.out.xs), HLg, HSg, Lib.hid (show AW P σ2 g2 (stillL P.s σ2 A1) (2 * i + 1 + 1) from HV8.out.still HSO.out), Lib.hid (Nat.le_trans (still_len _ _ _) HAL8.out), HEd⟩
                  case measure => simp [intOf]; omega
          | false =>
            cases tk with
            | false =>
              have HNT := Lib.hid (show ¬ took (σ1.Ts k) from fun h9 => by
                have q1 := h9.2
                rw [HFN.out] at q1
                have q2 := HTKB.out
                rw [q1] at q2; simp at q2)
              as_aux_lemma =>
                have hsame : ∀ j, g2.X (10 * j + 2) = g1.X (10 * j + 2) := by
                  rcases HSO.out.E with ⟨e1, _⟩ | ⟨e1, _⟩
                  · exact e1
                  · exact absurd e1 HNT.out
                have hEq : (fun j => g2.X (10 * j + 2)) = fun j => g1.X (10 * j + 2) := funext hsame
                obtain ⟨v2, hv2⟩ : ∃ v2, v2 = v1 := ⟨_, rfl⟩
                have HLd := Lib.hid (show LH w P cb hb wd v2 (fun j => g2.X (10 * j + 2)) by rw [hEq, hv2]; exact HLx1.out)
                have HEd := Lib.hid (show ∀ j, j < P.t → (g2.X (10 * j + 2)).length ≤ i + 1 from fun j hj => by rw [hsame j]; exact Nat.le_succ_of_le (HEL8.out j hj))
                clear hEq hv2 hsame HLx1
                go_wp2_with fail
                obtain ⟨Bs, hBs⟩ : ∃ Bs, Bs = wd.heap.size := ⟨_, rfl⟩
                have HBs := Lib.hid (show Bs ≤ wd.heap.size by rw [hBs]; exact Nat.le_refl _)
                have HNs := Lib.hid (show P.N ≤ Bs by rw [hBs]; exact HLd.out.NS.1)
                have HAs := Lib.hid (show ∀ b, (Value.slice ap1 A1.length ac1).ownBlock = some b → b < Bs from fun b hb9 => by
                  obtain ⟨_, cur, hc⟩ := HAd.out.ty hb9
                  rw [hBs]; exact Th.blk_lt hc)
                clear hBs
                go_loopw [14, 15] (fun sv jv wr => ∃ j : Nat, j ≤ A1.length ∧ jv = .int .i64 j ∧ Hid (MM wr P σ2) ∧ Hid (LH w P cb hb wr v2 fun j => g2.X (10 * j + 2)) ∧ Hid (AR wr P.N (.slice ap1 A1.length ac1) A1) ∧ Hid (AR wr Bs sv (stillL P.s σ2 (A1.take j))) ∧ Hid (Bs ≤ wr.heap.size)) (fun _ jv _ => A1.length - (intOf jv).toNat)
                case atStart => exact ⟨0, Nat.zero_le _, rfl, HMd, HLd, HAd, Lib.hid (AR_nil _ _), HBs⟩
                case round =>
                  clear HMd HLd HAd
                  obtain ⟨j, hj, rfl, HMe, HLe, HAe, HSe, HBe⟩ := hrel
                  obtain ⟨sp, sc, rfl, _, _⟩ := HSe.out.slice
                  rcases (by omega : j < A1.length ∨ j = A1.length) with hjl | hje
                  · obtain ⟨ga, ca, hav, q1, q2, y0, y1⟩ := HAe.out.get hjl
                    obtain ⟨rfl, rfl⟩ : ap1 = some ⟨ga, 0, none⟩ ∧ ac1 = ca := by simpa using hav
                    obtain ⟨h1, h2, h3⟩ := HV8.out _ (List.getElem_mem hjl)
                    obtain ⟨hst1, _⟩ := HV8.out.step HSO.out _ (List.getElem_mem hjl)
                    have HTK9 := Lib.hid (still_take P.s σ2 hjl)
                    obtain ⟨ee, hee⟩ : ∃ ee, ee = A1[j].1 := ⟨_, rfl⟩
                    obtain ⟨ep, hep⟩ : ∃ ep, ep = A1[j].2 := ⟨_, rfl⟩
                    rw [← hee] at y0 h1 hst1 HTK9
                    rw [← hep] at y1 h3 hst1
                    have HPE := Lib.hid (show A1[j] = (ee, ep) by rw [hee, hep])
                    have HEE := Lib.hid h1
                    have HST1 := Lib.hid hst1
                    have HEP := Lib.hid h3.2.2
                    obtain ⟨lb, hlb⟩ : ∃ lb, Gd.leadsB P.s σ2.H σ2.G ee = lb := ⟨_, rfl⟩
                    have HLB := Lib.hid hlb
                    have hjI : (j : Int) < A1.length := by omega
                    have HY := Lib.hid (And.intro y0 y1)
                    have x0 := Ext.cells y0
                    clear h1 h2 h3 hst1 hee hep hlb y0 y1
                    go_upto_region 34 with fail
                    (with_reducible refine wp_region_mix (fun w' => ∃ y : Ext wr, w' = y.w) ?_ ?_ ?_ ?_; kernel_rfl; kernel_rfl; exact ⟨⟨wr.drew, (Below.refl _ _).drew⟩, rfl⟩)
                    repeat (first | ((with_reducible refine mix_plain (by kernel_rfl) ?_); (first | go_big_quiet_skip | (go_big_quiet_want; go_big_quiet_op; go_big_quiet_on)); (with_reducible refine mix_on ?_)) | ((with_reducible refine mix_skip (by kernel_rfl) ?_); go_big_quiet_skip; (with_reducible refine mix_on ?_)))
                    ((with_reducible refine wpMix_chain (by kernel_rfl) (by kernel_rfl) (fun K HK => ?_)); go_step)
                    have HMx := Lib.hid (HMe.out.below (Below.refl wr.heap.size wr).drew)
                    refine (cGuard HMx.out.c).mono ?_; rintro _ wx9 ⟨rfl, hwx⟩
                    subst hwx
                    refine HK.out _ _ ⟨⟨wr.drew, (Below.refl _ _).drew⟩, rfl⟩ ?_
                    clear HK K
                    repeat (first | ((with_reducible refine mix_plain (by kernel_rfl) ?_); (first | go_big_quiet_skip | (go_big_quiet_want; go_big_quiet_op; go_big_quiet_on)); (with_reducible refine mix_on ?_)) | ((with_reducible refine mix_skip (by kernel_rfl) ?_); go_big_quiet_skip; (with_reducible refine mix_on ?_)))
                    ((with_reducible refine wpMix_chain (by kernel_rfl) (by kernel_rfl) (fun K HK => ?_)); go_step)
                    refine (Gd.gleads HMx.out.c.grd ee HEE.out.1 (by have := HEE.out; omega)).mono ?_; rintro _ wy ⟨rfl, hb9⟩
                    have HBy := Lib.hid (below_on (Below.refl wr.heap.size wr).drew hb9)
                    refine HK.out _ _ ⟨⟨wy, HBy.out⟩, rfl⟩ ?_
                    rw [HLB.out]
                    clear HK K hb9 HMx
                    repeat (first | ((with_reducible refine mix_plain (by kernel_rfl) ?_); (first | go_big_quiet_skip | (go_big_quiet_want; go_big_quiet_op; go_big_quiet_on)); (with_reducible refine mix_on ?_)) | ((with_reducible refine mix_skip (by kernel_rfl) ?_); go_big_quiet_skip; (with_reducible refine mix_on ?_)))
                    refine wpMix_nil ?_
                    have HMf := Lib.hid (HMe.out.below HBy.out); have HLf := Lib.hid (HLe.out.below HBy.out); have HAf := Lib.hid (HAe.out.below HBy.out); have HSf := Lib.hid (HSe.out.below HBy.out)
                    have HBf := Lib.hid (Nat.le_trans HBe.out HBy.out.size)
                    have z0 : wy.cell? ⟨ga, j * 2, none⟩ = some (.int .u64 ee) := Ext.use (Ext.cells HY.out.1) HBy.out
                    have z1 : wy.cell? ⟨ga, j * 2 + 1, none⟩ = some (.int .u64 ep) := Ext.use (Ext.cells HY.out.2) HBy.out
                    clear x0 HMe HLe HAe HSe HBe HBy
                    cases lb with
                    | true =>
                      have hsl : (stillL P.s σ2 (A1.take j)).length ≤ 100000 := by
                        have q3 := still_len P.s σ2 (A1.take j)
                        have q4 := HAL8.out
                        simp at q3; omega
                      obtain ⟨p9, c9, W2, hrun, ho9, hg9⟩ := pushW HSf.out ee ep hsl HBf.out
                      have ksg := KS_grown hg9
                      have HMg := Lib.hid (MM.ksW HMf.out HSf.out HNs.out ksg); have HLg := Lib.hid (LH.ksW HLf.out HSf.out HNs.out ksg)
                      have HAg := Lib.hid (show AR W2 P.N (.slice (some ⟨ga, 0, none⟩) A1.length ac1) A1 from HAf.out.kept fun b hb9 => ksg.block b (by obtain ⟨_, cur, hc⟩ := HAf.out.ty hb9; exact Th.blk_lt hc) fun e9 => by
                        have q5 := (HSf.out.ty e9).1
                        have q6 := HAs.out b hb9
                        omega)
                      have HSg := Lib.hid (show AR W2 Bs (.slice p9 ((stillL P.s σ2 (A1.take j)).length + 1) c9) (stillL P.s σ2 (A1.take (j + 1))) from by
                        rw [HTK9.out, HLB.out, if_pos rfl, HPE.out]; exact ho9)
                      have HBg := Lib.hid (Nat.le_trans HBf.out ksg.size)
                      clear ho9 hg9 hsl ksg
                      go_wp2_with (at_builtin; refine Th.wpList_append_run rfl (.tmp 168) (.tmp 173) 33 rfl rfl rfl rfl hrun ?_)
                      clear hrun z0 z1 hjI
                      go_roundw
                      case rel => exact ⟨j + 1, by omega, by go_num, HMg, HLg, HAg, HSg, HBg⟩
                      case measure => simp [intOf]; omega
                    | false =>
                      have hlt : ¬ now < ep + 3 := by have q3 := HST1.out HLB.out; have q4 := HW8.out; omega
                      have hwr : IntKind.u64.wrap (ep + 3) = ep + 3 := by
                        have q3 := HST1.out HLB.out; have q4 := HW8.out; have q5 := HNB.out; have q6 := HEP.out
                        rw [IntKind.wrap_u64]; omega
                      go_wp2_with fail
                      clear hlt hwr z0 z1 hjI
                      have HSg := Lib.hid (show AR wy Bs _ (stillL P.s σ2 (A1.take (j + 1))) from by
                        rw [HTK9.out, HLB.out]; simp; exact HSf.out)
                      go_roundw
                      case rel => exact ⟨j + 1, by omega, by go_num, HMf, HLf, HAf, HSg, HBf⟩
                      case measure => simp [intOf]; omega
                  · have hjI : ¬ (j : Int) < A1.length := by omega
                    have HSx := Lib.hid (show AR wr P.N (.slice sp (stillL P.s σ2 (A1.take j)).length sc) (stillL P.s σ2 A1) from by
                      have h9 := HSe.out.mono HNs.out
                      have h8 : stillL P.s σ2 (A1.take j) = stillL P.s σ2 A1 := by rw [hje, List.take_length]
                      rw [h8] at h9 ⊢; exact h9)
                    clear hje
                    go_wp2_with fail
                    have hcf := HMe.out.c
                    rw [HSO.out.xs.ok.1, HSO.out.xs.ok.2.1, HSO.out.xs.ok.2.2] at hcf
                    refine (cFault hcf).mono ?_; rintro _ wg ⟨rfl, hb9⟩
                    have HMg := Lib.hid (HMe.out.below hb9); have HLg := Lib.hid (HLe.out.below hb9); have HSg := Lib.hid (HSx.out.below hb9)
                    clear hb9 hcf HMe HLe HAe HSe HSx hjI
                    go_wp2_with fail
                    go_roundw
                    case rel => exact ⟨i + 1, by omega, by go_num, σ2, g2, stillL P.s σ2 A1, v2, HMg, Lib.hid (show XS P σ2 g2 (2 * i + 1 + 1) from HSO.out.xs), HLg, HSg, Lib.hid (show AW P σ2 g2 (stillL P.s σ2 A1) (2 * i + 1 + 1) from HV8.out.still HSO.out), Lib.hid (Nat.le_trans (still_len _ _ _) HAL8.out), HEd⟩
                    case measure => simp [intOf]; omega
            | true =>
              have HTK := Lib.hid (show took (σ1.Ts k) from ⟨HN1.out, by
                rw [HFN.out]; simpa using HTKB.out⟩)
              have HNZ := Lib.hid (show (σ2.Ts k).nf = 0 from by have := of_decide_eq_false HLF.out; omega)
              obtain ⟨e, hre⟩ : ∃ e, (σ2.Ts k).ret 0 = e := ⟨_, rfl⟩
              have HRE := Lib.hid hre
              have x0 : wd.cell? ⟨P.tq k, 0, none⟩ = some (.int .u64 e) := by have h9 := HMd.out.ret HKP.out (i := 0) (by omega); rw [hre] at h9; exact h9
              clear hre
              by_cases he0 : e = 0
              · as_aux_lemma =>
                  subst he0
                  have hsame : ∀ j, g2.X (10 * j + 2) = g1.X (10 * j + 2) := by
                    rcases HSO.out.E with ⟨e1, _⟩ | ⟨_, _, e1, _⟩
                    · exact e1
                    · have := HRE.out; omega
                  have hEq : (fun j => g2.X (10 * j + 2)) = fun j => g1.X (10 * j + 2) := funext hsame
                  obtain ⟨v2, hv2⟩ : ∃ v2, v2 = v1 := ⟨_, rfl⟩
                  have HLd := Lib.hid (show LH w P cb hb wd v2 (fun j => g2.X (10 * j + 2)) by rw [hEq, hv2]; exact HLx1.out)
                  have HEd := Lib.hid (show ∀ j, j < P.t → (g2.X (10 * j + 2)).length ≤ i + 1 from fun j hj => by rw [hsame j]; exact Nat.le_succ_of_le (HEL8.out j hj))
                  clear hEq hv2 hsame HLx1
                  go_wp2_with fail
                  clear x0
                  obtain ⟨Bs, hBs⟩ : ∃ Bs, Bs = wd.heap.size := ⟨_, rfl⟩
                  have HBs := Lib.hid (show Bs ≤ wd.heap.size by rw [hBs]; exact Nat.le_refl _)
                  have HNs := Lib.hid (show P.N ≤ Bs by rw [hBs]; exact HLd.out.NS.1)
                  have HAs := Lib.hid (show ∀ b, (Value.slice ap1 A1.length ac1).ownBlock = some b → b < Bs from fun b hb9 => by
                    obtain ⟨_, cur, hc⟩ := HAd.out.ty hb9
                    rw [hBs]; exact Th.blk_lt hc)
                  clear hBs
                  go_loopw [14, 15] (fun sv jv wr => ∃ j : Nat, j ≤ A1.length ∧ jv = .int .i64 j ∧ Hid (MM wr P σ2) ∧ Hid (LH w P cb hb wr v2 fun j => g2.X (10 * j + 2)) ∧ Hid (AR wr P.N (.slice ap1 A1.length ac1) A1) ∧ Hid (AR wr Bs sv (stillL P.s σ2 (A1.take j))) ∧ Hid (Bs ≤ wr.heap.size)) (fun _ jv _ => A1.length - (intOf jv).toNat)
                  case atStart => exact ⟨0, Nat.zero_le _, rfl, HMd, HLd, HAd, Lib.hid (AR_nil _ _), HBs⟩
                  case round =>
                    clear HMd HLd HAd
                    obtain ⟨j, hj, rfl, HMe, HLe, HAe, HSe, HBe⟩ := hrel
                    obtain ⟨sp, sc, rfl, _, _⟩ := HSe.out.slice
                    rcases (by omega : j < A1.length ∨ j = A1.length) with hjl | hje
                    · obtain ⟨ga, ca, hav, q1, q2, y0, y1⟩ := HAe.out.get hjl
                      obtain ⟨rfl, rfl⟩ : ap1 = some ⟨ga, 0, none⟩ ∧ ac1 = ca := by simpa using hav
                      obtain ⟨h1, h2, h3⟩ := HV8.out _ (List.getElem_mem hjl)
                      obtain ⟨hst1, _⟩ := HV8.out.step HSO.out _ (List.getElem_mem hjl)
                      have HTK9 := Lib.hid (still_take P.s σ2 hjl)
                      obtain ⟨ee, hee⟩ : ∃ ee, ee = A1[j].1 := ⟨_, rfl⟩
                      obtain ⟨ep, hep⟩ : ∃ ep, ep = A1[j].2 := ⟨_, rfl⟩
                      rw [← hee] at y0 h1 hst1 HTK9
                      rw [← hep] at y1 h3 hst1
                      have HPE := Lib.hid (show A1[j] = (ee, ep) by rw [hee, hep])
                      have HEE := Lib.hid h1
                      have HST1 := Lib.hid hst1
                      have HEP := Lib.hid h3.2.2
                      obtain ⟨lb, hlb⟩ : ∃ lb, Gd.leadsB P.s σ2.H σ2.G ee = lb := ⟨_, rfl⟩
                      have HLB := Lib.hid hlb
                      have hjI : (j : Int) < A1.length := by omega
                      have HY := Lib.hid (And.intro y0 y1)
                      have x0 := Ext.cells y0
                      clear h1 h2 h3 hst1 hee hep hlb y0 y1
                      go_upto_region 34 with fail
                      (with_reducible refine wp_region_mix (fun w' => ∃ y : Ext wr, w' = y.w) ?_ ?_ ?_ ?_; kernel_rfl; kernel_rfl; exact ⟨⟨wr.drew, (Below.refl _ _).drew⟩, rfl⟩)
                      repeat (first | ((with_reducible refine mix_plain (by kernel_rfl) ?_); (first | go_big_quiet_skip | (go_big_quiet_want; go_big_quiet_op; go_big_quiet_on)); (with_reducible refine mix_on ?_)) | ((with_reducible refine mix_skip (by kernel_rfl) ?_); go_big_quiet_skip; (with_reducible refine mix_on ?_)))
                      ((with_reducible refine wpMix_chain (by kernel_rfl) (by kernel_rfl) (fun K HK => ?_)); go_step)
                      have HMx := Lib.hid (HMe.out.below (Below.refl wr.heap.size wr).drew)
                      refine (cGuard HMx.out.c).mono ?_; rintro _ wx9 ⟨rfl, hwx⟩
                      subst hwx
                      refine HK.out _ _ ⟨⟨wr.drew, (Below.refl _ _).drew⟩, rfl⟩ ?_
                      clear HK K
                      repeat (first | ((with_reducible refine mix_plain (by kernel_rfl) ?_); (first | go_big_quiet_skip | (go_big_quiet_want; go_big_quiet_op; go_big_quiet_on)); (with_reducible refine mix_on ?_)) | ((with_reducible refine mix_skip (by kernel_rfl) ?_); go_big_quiet_skip; (with_reducible refine mix_on ?_)))
                      ((with_reducible refine wpMix_chain (by kernel_rfl) (by kernel_rfl) (fun K HK => ?_)); go_step)
                      refine (Gd.gleads HMx.out.c.grd ee HEE.out.1 (by have := HEE.out; omega)).mono ?_; rintro _ wy ⟨rfl, hb9⟩
                      have HBy := Lib.hid (below_on (Below.refl wr.heap.size wr).drew hb9)
                      refine HK.out _ _ ⟨⟨wy, HBy.out⟩, rfl⟩ ?_
                      rw [HLB.out]
                      clear HK K hb9 HMx
                      repeat (first | ((with_reducible refine mix_plain (by kernel_rfl) ?_); (first | go_big_quiet_skip | (go_big_quiet_want; go_big_quiet_op; go_big_quiet_on)); (with_reducible refine mix_on ?_)) | ((with_reducible refine mix_skip (by kernel_rfl) ?_); go_big_quiet_skip; (with_reducible refine mix_on ?_)))
                      refine wpMix_nil ?_
                      have HMf := Lib.hid (HMe.out.below HBy.out); have HLf := Lib.hid (HLe.out.below HBy.out); have HAf := Lib.hid (HAe.out.below HBy.out); have HSf := Lib.hid (HSe.out.below HBy.out)
                      have HBf := Lib.hid (Nat.le_trans HBe.out HBy.out.size)
                      have z0 : wy.cell? ⟨ga, j * 2, none⟩ = some (.int .u64 ee) := Ext.use (Ext.cells HY.out.1) HBy.out
                      have z1 : wy.cell? ⟨ga, j * 2 + 1, none⟩ = some (.int .u64 ep) := Ext.use (Ext.cells HY.out.2) HBy.out
                      clear x0 HMe HLe HAe HSe HBe HBy
                      cases lb with
                      | true =>
                        have hsl : (stillL P.s σ2 (A1.take j)).length ≤ 100000 := by
                          have q3 := still_len P.s σ2 (A1.take j)
                          have q4 := HAL8.out
                          simp at q3; omega
                        obtain ⟨p9, c9, W2, hrun, ho9, hg9⟩ := pushW HSf.out ee ep hsl HBf.out
                        have ksg := KS_grown hg9
                        have HMg := Lib.hid (MM.ksW HMf.out HSf.out HNs.out ksg); have HLg := Lib.hid (LH.ksW HLf.out HSf.out HNs.out ksg)
                        have HAg := Lib.hid (show AR W2 P.N (.slice (some ⟨ga, 0, none⟩) A1.length ac1) A1 from HAf.out.kept fun b hb9 => ksg.block b (by obtain ⟨_, cur, hc⟩ := HAf.out.ty hb9; exact Th.blk_lt hc) fun e9 => by
                          have q5 := (HSf.out.ty e9).1
                          have q6 := HAs.out b hb9
                          omega)
                        have HSg := Lib.hid (show AR W2 Bs (.slice p9 ((stillL P.s σ2 (A1.take j)).length + 1) c9) (stillL P.s σ2 (A1.take (j + 1))) from by
                          rw [HTK9.out, HLB.out, if_pos rfl, HPE.out]; exact ho9)
                        have HBg := Lib.hid (Nat.le_trans HBf.out ksg.size)
                        clear ho9 hg9 hsl ksg
                        go_wp2_with (at_builtin; refine Th.wpList_append_run rfl (.tmp 168) (.tmp 173) 33 rfl rfl rfl rfl hrun ?_)
                        clear hrun z0 z1 hjI
                        go_roundw
                        case rel => exact ⟨j + 1, by omega, by go_num, HMg, HLg, HAg, HSg, HBg⟩
                        case measure => simp [intOf]; omega
                      | false =>
                        have hlt : ¬ now < ep + 3 := by have q3 := HST1.out HLB.out; have q4 := HW8.out; omega
                        have hwr : IntKind.u64.wrap (ep + 3) = ep + 3 := by
                          have q3 := HST1.out HLB.out; have q4 := HW8.out; have q5 := HNB.out; have q6 := HEP.out
                          rw [IntKind.wrap_u64]; omega
                        go_wp2_with fail
                        clear hlt hwr z0 z1 hjI
                        have HSg := Lib.hid (show AR wy Bs _ (stillL P.s σ2 (A1.take (j + 1))) from by
                          rw [HTK9.out, HLB.out]; simp; exact HSf.out)
                        go_roundw
                        case rel => exact ⟨j + 1, by omega, by go_num, HMf, HLf, HAf, HSg, HBf⟩
                        case measure => simp [intOf]; omega
                    · have hjI : ¬ (j : Int) < A1.length := by omega
                      have HSx := Lib.hid (show AR wr P.N (.slice sp (stillL P.s σ2 (A1.take j)).length sc) (stillL P.s σ2 A1) from by
                        have h9 := HSe.out.mono HNs.out
                        have h8 : stillL P.s σ2 (A1.take j) = stillL P.s σ2 A1 := by rw [hje, List.take_length]
                        rw [h8] at h9 ⊢; exact h9)
                      clear hje
                      go_wp2_with fail
                      have hcf := HMe.out.c
                      rw [HSO.out.xs.ok.1, HSO.out.xs.ok.2.1, HSO.out.xs.ok.2.2] at hcf
                      refine (cFault hcf).mono ?_; rintro _ wg ⟨rfl, hb9⟩
                      have HMg := Lib.hid (HMe.out.below hb9); have HLg := Lib.hid (HLe.out.below hb9); have HSg := Lib.hid (HSx.out.below hb9)
                      clear hb9 hcf HMe HLe HAe HSe HSx hjI
                      go_wp2_with fail
                      go_roundw
                      case rel => exact ⟨i + 1, by omega, by go_num, σ2, g2, stillL P.s σ2 A1, v2, HMg, Lib.hid (show XS P σ2 g2 (2 * i + 1 + 1) from HSO.out.xs), HLg, HSg, Lib.hid (show AW P σ2 g2 (stillL P.s σ2 A1) (2 * i + 1 + 1) from HV8.out.still HSO.out), Lib.hid (Nat.le_trans (still_len _ _ _) HAL8.out), HEd⟩
                      case measure => simp [intOf]; omega
              · as_aux_lemma =>
                  have HEX := Lib.hid (show g2.X (10 * k + 2) = g1.X (10 * k + 2) ++ [e] ∧ ∀ j, j ≠ k → g2.X (10 * j + 2) = g1.X (10 * j + 2) from by
                    rcases HSO.out.E with ⟨_, e2⟩ | ⟨_, _, _, _, e5, e6⟩
                    · exact absurd (HRE.out.symm.trans (e2 HTK.out HNZ.out)) he0
                    · rw [HRE.out] at e5; exact ⟨e5, e6⟩)
                  have hz1 : (e != 0) = true := by simpa using he0
                  have hkt : (k : Int) < t := by have := HKT.out; omega
                  clear he0
                  have hrw : ownA wd P.N (v1 k) (g1.X (10 * k + 2)) := HLx1.out.rw k HKP.out
                  have hle : (g1.X (10 * k + 2)).length ≤ 100000 := by have := HEL8.out k HKP.out; omega
                  obtain ⟨pv, cv, hve, _, _⟩ := ownA_slice hrw
                  have HLD1 := Lib.hid (show ∀ y : Ext wd, (Instr.loadAt 43 (.pointer (some ⟨hb, k, none⟩))).run Try.prog y.w = .ok (.slice pv (g1.X (10 * k + 2)).length cv) y.w from fun y => by
                    have z0 := HLx1.out.gh HKP.out
                    rw [hve] at z0
                    have z1 := Ext.cells z0 y
                    go_simp)
                  have HLD2 := Lib.hid (show ∀ y : Ext wd, (Instr.loadAt 22 (.pointer (some ⟨P.tq k, 0, none⟩))).run Try.prog y.w = .ok (.int .u64 e) y.w from fun y => by
                    have z1 := Ext.cells x0 y
                    go_simp)
                  go_upto_region 29 with fail
                  clear x0
                  refine Th.wp_region_K (fun w' => ∃ y : Ext wd, w' = y.w) 12 (by decide +kernel) ?_
                  generalize hwd : World.drew wd = wz
                  have hbd : Below wd.heap.size wd wz := by rw [← hwd]; exact (Below.refl _ _).drew
                  clear hwd
                  (refine Th.wpAnyK_takeY (i := 0) (v := ?_) rfl (by decide +kernel) (by decide +kernel) (by decide +kernel) (by decide) (fun _ _ _ h => h) (Or.inl ⟨by rfl, ?_⟩) (.inr ⟨⟨wz, hbd⟩, rfl⟩) ?_; rotate_left; (intro w; go_simp); (try with_reducible rfl))
                  (try simp only [List.getElem_toArray, List.getElem_cons_succ, List.getElem_cons_zero, Act.put, List.setIfInBounds_toArray, List.set_cons_succ, List.set_cons_zero])
                  (refine Th.wpAnyK_takeY (i := 1) (v := ?_) rfl (by decide +kernel) (by decide +kernel) (by decide +kernel) (by decide) (fun _ _ _ h => h) (Or.inl ⟨by rfl, ?_⟩) (.inr ⟨⟨wz, hbd⟩, rfl⟩) ?_; rotate_left; (intro w; go_simp); (try with_reducible rfl))
                  (try simp only [List.getElem_toArray, List.getElem_cons_succ, List.getElem_cons_zero, Act.put, List.setIfInBounds_toArray, List.set_cons_succ, List.set_cons_zero])
                  (refine Th.wpAnyK_takeY (i := 2) (v := ?_) rfl (by decide +kernel) (by decide +kernel) (by decide +kernel) (by decide) (fun _ _ _ h => h) (Or.inl ⟨by rfl, ?_⟩) (.inr ⟨⟨wz, hbd⟩, rfl⟩) ?_; rotate_left; (intro w; go_simp); (try with_reducible rfl))
                  (try simp only [List.getElem_toArray, List.getElem_cons_succ, List.getElem_cons_zero, Act.put, List.setIfInBounds_toArray, List.set_cons_succ, List.set_cons_zero])
                  (refine Th.wpAnyK_takeY (i := 3) (v := ?_) rfl (by decide +kernel) (by decide +kernel) (by decide +kernel) (by decide) (fun _ _ _ h => h) (Or.inl ⟨by rfl, ?_⟩) (.inr ⟨⟨wz, hbd⟩, rfl⟩) ?_; rotate_left; (intro w; go_simp); (try with_reducible rfl))
                  (try simp only [List.getElem_toArray, List.getElem_cons_succ, List.getElem_cons_zero, Act.put, List.setIfInBounds_toArray, List.set_cons_succ, List.set_cons_zero])
                  (refine Th.wpAnyK_takeY (i := 4) (v := ?_) rfl (by decide +kernel) (by decide +kernel) (by decide +kernel) (by decide) (fun _ _ _ h => h) (Or.inl ⟨by rfl, ?_⟩) (.inr ⟨⟨wz, hbd⟩, rfl⟩) ?_; rotate_left; (intro w; go_simp); (try with_reducible rfl))
                  (try simp only [List.getElem_toArray, List.getElem_cons_succ, List.getElem_cons_zero, Act.put, List.setIfInBounds_toArray, List.set_cons_succ, List.set_cons_zero])
                  (refine Th.wpAnyK_take (i := 5) (v := .slice pv (g1.X (10 * k + 2)).length cv) [12, 14] rfl (by decide +kernel) (by decide +kernel) (by decide +kernel) (by decide +kernel) (fun _ _ _ h => h) (Th.yields_loadK rfl 43 (.tmp 144) rfl rfl (by rintro _ ⟨y, rfl⟩; exact HLD1.out y)) ⟨⟨wz, hbd⟩, rfl⟩ ?_)
                  (try simp only [List.getElem_toArray, List.getElem_cons_succ, List.getElem_cons_zero, Act.put, List.setIfInBounds_toArray, List.set_cons_succ, List.set_cons_zero])
                  (refine Th.wpAnyK_takeY (i := 6) (v := ?_) rfl (by decide +kernel) (by decide +kernel) (by decide +kernel) (by decide) (fun _ _ _ h => h) (Or.inl ⟨by rfl, ?_⟩) (.inr ⟨⟨wz, hbd⟩, rfl⟩) ?_; rotate_left; (intro w; go_simp); (try with_reducible rfl))
                  (try simp only [List.getElem_toArray, List.getElem_cons_succ, List.getElem_cons_zero, Act.put, List.setIfInBounds_toArray, List.set_cons_succ, List.set_cons_zero])
                  (refine Th.wpAnyK_takeY (i := 7) (v := ?_) rfl (by decide +kernel) (by decide +kernel) (by decide +kernel) (by decide) (fun _ _ _ h => h) (Or.inl ⟨by rfl, ?_⟩) (.inr ⟨⟨wz, hbd⟩, rfl⟩) ?_; rotate_left; (intro w; go_simp); (try with_reducible rfl))
                  (try simp only [List.getElem_toArray, List.getElem_cons_succ, List.getElem_cons_zero, Act.put, List.setIfInBounds_toArray, List.set_cons_succ, List.set_cons_zero])
                  (refine Th.wpAnyK_takeY (i := 8) (v := ?_) rfl (by decide +kernel) (by decide +kernel) (by decide +kernel) (by decide) (fun _ _ _ h => h) (Or.inl ⟨by rfl, ?_⟩) (.inr ⟨⟨wz, hbd⟩, rfl⟩) ?_; rotate_left; (intro w; go_simp); (try with_reducible rfl))
                  (try simp only [List.getElem_toArray, List.getElem_cons_succ, List.getElem_cons_zero, Act.put, List.setIfInBounds_toArray, List.set_cons_succ, List.set_cons_zero])
                  (refine Th.wpAnyK_takeY (i := 9) (v := ?_) rfl (by decide +kernel) (by decide +kernel) (by decide +kernel) (by decide) (fun _ _ _ h => h) (Or.inl ⟨by rfl, ?_⟩) (.inr ⟨⟨wz, hbd⟩, rfl⟩) ?_; rotate_left; (intro w; go_simp); (try with_reducible rfl))
                  (try simp only [List.getElem_toArray, List.getElem_cons_succ, List.getElem_cons_zero, Act.put, List.setIfInBounds_toArray, List.set_cons_succ, List.set_cons_zero])
                  (refine Th.wpAnyK_take (i := 10) (v := .int .u64 e) [11, 12, 14] rfl (by decide +kernel) (by decide +kernel) (by decide +kernel) (by decide +kernel) (fun _ _ _ h => h) (Th.yields_loadK rfl 22 (.tmp 149) rfl rfl (by rintro _ ⟨y, rfl⟩; exact HLD2.out y)) ⟨⟨wz, hbd⟩, rfl⟩ ?_)
                  (try simp only [List.getElem_toArray, List.getElem_cons_succ, List.getElem_cons_zero, Act.put, List.setIfInBounds_toArray, List.set_cons_succ, List.set_cons_zero])
                  (refine Th.wpAnyK_ready (rs := [11]) (by decide +kernel) (by simp) ?_; refine (Th.AllReadyK.cons rfl (fun K hK => ?_) Th.AllReadyK.nil))
                  refine step_of rfl ?_
                  go_step
                  obtain ⟨y1, hy1⟩ : ∃ y : Ext wd, y.w = wz.alloc (.cells #[.int .u64 e] 22) := ⟨⟨_, hbd.alloc hbd.size _⟩, rfl⟩
                  rw [← hy1]
                  refine hK _ _ (.inr ⟨y1, rfl⟩) ?_
                  clear hK K
                  rw [hy1]
                  clear hy1 y1
                  have HLz := Lib.hid (HLx1.out.below hbd); have HMz := Lib.hid (HMd.out.below hbd); have HAz := Lib.hid (HAd.out.below hbd)
                  have hrwz : ownA wz P.N (v1 k) (g1.X (10 * k + 2)) := HLz.out.rw k HKP.out
                  obtain ⟨p9, c9, W2, hrun, ho9, hg9, hloc⟩ := pushA hrwz e hle HLz.out.NS.1
                  have hkb := (KS_grown hg9).block hb (Th.blk_lt HLz.out.hbk) fun e9 => by
                    obtain ⟨c2, h2⟩ := ownA_ty hrwz e9
                    exact ty_ne h2 HLz.out.hbk (by decide) rfl
                  have n0 : W2.cell? ⟨hb, k, none⟩ = some (v1 k) := (HLz.out.hbk.of hkb).get HKP.out
                  have nf0 : ∀ i, W2.frozen? ⟨hb, i, none⟩ = false := (HLz.out.hbk.of hkb).fr
                  have HG9 := Lib.hid hg9; have HLC := Lib.hid hloc; have HO9 := Lib.hid ho9; have HKB := Lib.hid hkb; have HRW := Lib.hid hrwz
                  rw [hve] at n0 hrun
                  clear hrw hrwz hve ho9 hg9 hloc hkb hle
                  (try simp only [List.getElem_toArray, List.getElem_cons_succ, List.getElem_cons_zero, Act.put, List.setIfInBounds_toArray, List.set_cons_succ, List.set_cons_zero])
                  (refine Th.wpAnyK_ready (rs := [12]) (by decide +kernel) (by simp) ?_; refine (Th.AllReadyK.cons rfl (fun K hK => ?_) Th.AllReadyK.nil))
                  refine step_of rfl ?_
                  refine wp_append_run (.tmp 145) (.tmp 151) 43 rfl rfl rfl rfl hrun ?_
                  refine hK _ _ (.inl rfl) ?_
                  clear hK K hrun
                  (try simp only [List.getElem_toArray, List.getElem_cons_succ, List.getElem_cons_zero, Act.put, List.setIfInBounds_toArray, List.set_cons_succ, List.set_cons_zero])
                  (refine Th.wpAnyK_takeY (i := 13) (v := ?_) rfl (by decide +kernel) (by decide +kernel) (by decide +kernel) (by decide) (fun _ _ _ h => h) (Or.inl ⟨by rfl, ?_⟩) (.inl rfl) ?_; rotate_left; (intro w; go_simp); (try with_reducible rfl))
                  (try simp only [List.getElem_toArray, List.getElem_cons_succ, List.getElem_cons_zero, Act.put, List.setIfInBounds_toArray, List.set_cons_succ, List.set_cons_zero])
                  (refine Th.wpAnyK_ready (rs := [14]) (by decide +kernel) (by simp) ?_; refine (Th.AllReadyK.cons rfl (fun K hK => ?_) Th.AllReadyK.nil))
                  refine step_of rfl ?_
                  go_step
                  refine hK _ _ (.inl rfl) ?_
                  clear hK K
                  refine Th.wpAnyK_done (by decide +kernel) ?_ _
                  clear n0 nf0
                  generalize hW : World.setCell _ _ _ = W
                  have hEq : (fun j => g2.X (10 * j + 2)) = updE (fun j => g1.X (10 * j + 2)) k (g1.X (10 * k + 2) ++ [e]) := by
                    funext j
                    by_cases e9 : j = k
                    · subst e9; rw [updE_at]; exact HEX.out.1
                    · rw [updE_ne _ _ e9]; exact HEX.out.2 j e9
                  have hWx : W = W2.setCell ⟨hb, k, none⟩ (.slice p9 ((g1.X (10 * k + 2)).length + 1) c9) := hW.symm
                  obtain ⟨v2, hv2⟩ : ∃ v2, v2 = updV v1 k (.slice p9 ((g1.X (10 * k + 2)).length + 1) c9) := ⟨_, rfl⟩
                  have hld : LH w P cb hb W v2 (fun j => g2.X (10 * j + 2)) := by
                    rw [hEq, hWx, hv2]
                    exact HLz.out.seth HKP.out (KS_grown HG9.out) HO9.out fun b e9 => by
                      rcases HLC.out with h1 | ⟨b', h1, h2⟩
                      · rw [h1] at e9; exact .inl e9
                      · rw [h1] at e9
                        have : b' = b := by simpa using e9
                        right; omega
                  have hmd : MM W P σ2 := by
                    rw [hWx]
                    exact (MM.ksA HMz.out HRW.out (KS_grown HG9.out)).other (HLz.out.hbk.of HKB.out) HLz.out.N.1 (by decide) (by decide) (by decide) (by decide) (Th.KS.set W2 hb k _)
                  have had : AR W P.N (.slice ap1 A1.length ac1) A1 := by
                    rw [hWx]
                    exact (HAz.out.ksA HRW.out (KS_grown HG9.out)).oth (HLz.out.hbk.of HKB.out) (by decide) (Th.KS.set W2 hb k _)
                  have hed : ∀ j, j < P.t → (g2.X (10 * j + 2)).length ≤ i + 1 := fun j hj => by
                    rw [show g2.X (10 * j + 2) = updE (fun j => g1.X (10 * j + 2)) k (g1.X (10 * k + 2) ++ [e]) j from congrFun hEq j]
                    by_cases e9 : j = k
                    · rw [e9, updE_at]; have := HEL8.out k HKP.out; simp; omega
                    · rw [updE_ne _ _ e9]; exact Nat.le_succ_of_le (HEL8.out j hj)
                  clear HMd HLx1 HAd HLz HMz HAz
                  obtain ⟨wd0, hwd0⟩ : ∃ x, x = wd := ⟨_, rfl⟩
                  clear hW hWx hEq hv2 HG9 HLC HO9 HKB HRW HLD1 HLD2 hbd
                  have HMd := Lib.hid hmd; have HLd := Lib.hid hld; have HAd := Lib.hid had; have HEd := Lib.hid hed
                  clear hmd hld had hed hz1 hkt hwd0 wd0
                  go_wp2_with fail
                  obtain ⟨Bs, hBs⟩ : ∃ Bs, Bs = W.heap.size := ⟨_, rfl⟩
                  have HBs := Lib.hid (show Bs ≤ W.heap.size by rw [hBs]; exact Nat.le_refl _)
                  have HNs := Lib.hid (show P.N ≤ Bs by rw [hBs]; exact HLd.out.NS.1)
                  have HAs := Lib.hid (show ∀ b, (Value.slice ap1 A1.length ac1).ownBlock = some b → b < Bs from fun b hb9 => by
                    obtain ⟨_, cur, hc⟩ := HAd.out.ty hb9
                    rw [hBs]; exact Th.blk_lt hc)
                  clear hBs
                  go_loopw [14, 15] (fun sv jv wr => ∃ j : Nat, j ≤ A1.length ∧ jv = .int .i64 j ∧ Hid (MM wr P σ2) ∧ Hid (LH w P cb hb wr v2 fun j => g2.X (10 * j + 2)) ∧ Hid (AR wr P.N (.slice ap1 A1.length ac1) A1) ∧ Hid (AR wr Bs sv (stillL P.s σ2 (A1.take j))) ∧ Hid (Bs ≤ wr.heap.size)) (fun _ jv _ => A1.length - (intOf jv).toNat)
                  case atStart => exact ⟨0, Nat.zero_le _, rfl, HMd, HLd, HAd, Lib.hid (AR_nil _ _), HBs⟩
                  case round =>
                    clear HMd HLd HAd
                    obtain ⟨j, hj, rfl, HMe, HLe, HAe, HSe, HBe⟩ := hrel
                    obtain ⟨sp, sc, rfl, _, _⟩ := HSe.out.slice
                    rcases (by omega : j < A1.length ∨ j = A1.length) with hjl | hje
                    · obtain ⟨ga, ca, hav, q1, q2, y0, y1⟩ := HAe.out.get hjl
                      obtain ⟨rfl, rfl⟩ : ap1 = some ⟨ga, 0, none⟩ ∧ ac1 = ca := by simpa using hav
                      obtain ⟨h1, h2, h3⟩ := HV8.out _ (List.getElem_mem hjl)
                      obtain ⟨hst1, _⟩ := HV8.out.step HSO.out _ (List.getElem_mem hjl)
                      have HTK9 := Lib.hid (still_take P.s σ2 hjl)
                      obtain ⟨ee, hee⟩ : ∃ ee, ee = A1[j].1 := ⟨_, rfl⟩
                      obtain ⟨ep, hep⟩ : ∃ ep, ep = A1[j].2 := ⟨_, rfl⟩
                      rw [← hee] at y0 h1 hst1 HTK9
                      rw [← hep] at y1 h3 hst1
                      have HPE := Lib.hid (show A1[j] = (ee, ep) by rw [hee, hep])
                      have HEE := Lib.hid h1
                      have HST1 := Lib.hid hst1
                      have HEP := Lib.hid h3.2.2
                      obtain ⟨lb, hlb⟩ : ∃ lb, Gd.leadsB P.s σ2.H σ2.G ee = lb := ⟨_, rfl⟩
                      have HLB := Lib.hid hlb
                      have hjI : (j : Int) < A1.length := by omega
                      have HY := Lib.hid (And.intro y0 y1)
                      have x0 := Ext.cells y0
                      clear h1 h2 h3 hst1 hee hep hlb y0 y1
                      go_upto_region 34 with fail
                      (with_reducible refine wp_region_mix (fun w' => ∃ y : Ext wr, w' = y.w) ?_ ?_ ?_ ?_; kernel_rfl; kernel_rfl; exact ⟨⟨wr.drew, (Below.refl _ _).drew⟩, rfl⟩)
                      repeat (first | ((with_reducible refine mix_plain (by kernel_rfl) ?_); (first | go_big_quiet_skip | (go_big_quiet_want; go_big_quiet_op; go_big_quiet_on)); (with_reducible refine mix_on ?_)) | ((with_reducible refine mix_skip (by kernel_rfl) ?_); go_big_quiet_skip; (with_reducible refine mix_on ?_)))
                      ((with_reducible refine wpMix_chain (by kernel_rfl) (by kernel_rfl) (fun K HK => ?_)); go_step)
                      have HMx := Lib.hid (HMe.out.below (Below.refl wr.heap.size wr).drew)
                      refine (cGuard HMx.out.c).mono ?_; rintro _ wx9 ⟨rfl, hwx⟩
                      subst hwx
                      refine HK.out _ _ ⟨⟨wr.drew, (Below.refl _ _).drew⟩, rfl⟩ ?_
                      clear HK K
                      repeat (first | ((with_reducible refine mix_plain (by kernel_rfl) ?_); (first | go_big_quiet_skip | (go_big_quiet_want; go_big_quiet_op; go_big_quiet_on)); (with_reducible refine mix_on ?_)) | ((with_reducible refine mix_skip (by kernel_rfl) ?_); go_big_quiet_skip; (with_reducible refine mix_on ?_)))
                      ((with_reducible refine wpMix_chain (by kernel_rfl) (by kernel_rfl) (fun K HK => ?_)); go_step)
                      refine (Gd.gleads HMx.out.c.grd ee HEE.out.1 (by have := HEE.out; omega)).mono ?_; rintro _ wy ⟨rfl, hb9⟩
                      have HBy := Lib.hid (below_on (Below.refl wr.heap.size wr).drew hb9)
                      refine HK.out _ _ ⟨⟨wy, HBy.out⟩, rfl⟩ ?_
                      rw [HLB.out]
                      clear HK K hb9 HMx
                      repeat (first | ((with_reducible refine mix_plain (by kernel_rfl) ?_); (first | go_big_quiet_skip | (go_big_quiet_want; go_big_quiet_op; go_big_quiet_on)); (with_reducible refine mix_on ?_)) | ((with_reducible refine mix_skip (by kernel_rfl) ?_); go_big_quiet_skip; (with_reducible refine mix_on ?_)))
                      refine wpMix_nil ?_
                      have HMf := Lib.hid (HMe.out.below HBy.out); have HLf := Lib.hid (HLe.out.below HBy.out); have HAf := Lib.hid (HAe.out.below HBy.out); have HSf := Lib.hid (HSe.out.below HBy.out)
                      have HBf := Lib.hid (Nat.le_trans HBe.out HBy.out.size)
                      have z0 : wy.cell? ⟨ga, j * 2, none⟩ = some (.int .u64 ee) := Ext.use (Ext.cells HY.out.1) HBy.out
                      have z1 : wy.cell? ⟨ga, j * 2 + 1, none⟩ = some (.int .u64 ep) := Ext.use (Ext.cells HY.out.2) HBy.out
                      clear x0 HMe HLe HAe HSe HBe HBy
                      cases lb with
                      | true =>
                        have hsl : (stillL P.s σ2 (A1.take j)).length ≤ 100000 := by
                          have q3 := still_len P.s σ2 (A1.take j)
                          have q4 := HAL8.out
                          simp at q3; omega
                        obtain ⟨p9, c9, W2, hrun, ho9, hg9⟩ := pushW HSf.out ee ep hsl HBf.out
                        have ksg := KS_grown hg9
                        have HMg := Lib.hid (MM.ksW HMf.out HSf.out HNs.out ksg); have HLg := Lib.hid (LH.ksW HLf.out HSf.out HNs.out ksg)
                        have HAg := Lib.hid (show AR W2 P.N (.slice (some ⟨ga, 0, none⟩) A1.length ac1) A1 from HAf.out.kept fun b hb9 => ksg.block b (by obtain ⟨_, cur, hc⟩ := HAf.out.ty hb9; exact Th.blk_lt hc) fun e9 => by
                          have q5 := (HSf.out.ty e9).1
                          have q6 := HAs.out b hb9
                          omega)
                        have HSg := Lib.hid (show AR W2 Bs (.slice p9 ((stillL P.s σ2 (A1.take j)).length + 1) c9) (stillL P.s σ2 (A1.take (j + 1))) from by
                          rw [HTK9.out, HLB.out, if_pos rfl, HPE.out]; exact ho9)
                        have HBg := Lib.hid (Nat.le_trans HBf.out ksg.size)
                        clear ho9 hg9 hsl ksg
                        go_wp2_with (at_builtin; refine Th.wpList_append_run rfl (.tmp 168) (.tmp 173) 33 rfl rfl rfl rfl hrun ?_)
                        clear hrun z0 z1 hjI
                        go_roundw
                        case rel => exact ⟨j + 1, by omega, by go_num, HMg, HLg, HAg, HSg, HBg⟩
                        case measure => simp [intOf]; omega
                      | false =>
                        have hlt : ¬ now < ep + 3 := by have q3 := HST1.out HLB.out; have q4 := HW8.out; omega
                        have hwr : IntKind.u64.wrap (ep + 3) = ep + 3 := by
                          have q3 := HST1.out HLB.out; have q4 := HW8.out; have q5 := HNB.out; have q6 := HEP.out
                          rw [IntKind.wrap_u64]; omega
                        go_wp2_with fail
                        clear hlt hwr z0 z1 hjI
                        have HSg := Lib.hid (show AR wy Bs _ (stillL P.s σ2 (A1.take (j + 1))) from by
                          rw [HTK9.out, HLB.out]; simp; exact HSf.out)
                        go_roundw
                        case rel => exact ⟨j + 1, by omega, by go_num, HMf, HLf, HAf, HSg, HBf⟩
                        case measure => simp [intOf]; omega
                    · have hjI : ¬ (j : Int) < A1.length := by omega
                      have HSx := Lib.hid (show AR wr P.N (.slice sp (stillL P.s σ2 (A1.take j)).length sc) (stillL P.s σ2 A1) from by
                        have h9 := HSe.out.mono HNs.out
                        have h8 : stillL P.s σ2 (A1.take j) = stillL P.s σ2 A1 := by rw [hje, List.take_length]
                        rw [h8] at h9 ⊢; exact h9)
                      clear hje
                      go_wp2_with fail
                      have hcf := HMe.out.c
                      rw [HSO.out.xs.ok.1, HSO.out.xs.ok.2.1, HSO.out.xs.ok.2.2] at hcf
                      refine (cFault hcf).mono ?_; rintro _ wg ⟨rfl, hb9⟩
                      have HMg := Lib.hid (HMe.out.below hb9); have HLg := Lib.hid (HLe.out.below hb9); have HSg := Lib.hid (HSx.out.below hb9)
                      clear hb9 hcf HMe HLe HAe HSe HSx hjI
                      go_wp2_with fail
                      go_roundw
                      case rel => exact ⟨i + 1, by omega, by go_num, σ2, g2, stillL P.s σ2 A1, v2, HMg, Lib.hid (show XS P σ2 g2 (2 * i + 1 + 1) from HSO.out.xs), HLg, HSg, Lib.hid (show AW P σ2 g2 (stillL P.s σ2 A1) (2 * i + 1 + 1) from HV8.out.still HSO.out), Lib.hid (Nat.le_trans (still_len _ _ _) HAL8.out), HEd⟩
                      case measure => simp [intOf]; omega
        · have hz9 : ((nf1 : Int) == 1) = false := by simp; omega
          have HNT := Lib.hid (show ¬ took (σ1.Ts k) from fun h9 => by have := h9.1; omega)
          have HMx := HM8; have HLx := HL8; have HAx := HA8
          clear HM8 HL8 HA8 hnf1 hn1
          go_wp2_with fail
          clear hz9
          refine (zstep HMx.out HI8.out (by omega) HKP.out HN8.out).mono ?_; rintro _ wd ⟨σ2, g2, rfl, hm8, hk8, hs8, _, _⟩
          have HMd := Lib.hid hm8; have HLx1 := Lib.hid (HLx.out.ka hk8); have HAd := Lib.hid (HAx.out.ka hk8 (Nat.le_refl _)); have HSO := Lib.hid hs8
          clear hm8 hk8 hs8 HMx HLx HAx
          obtain ⟨lf, hlf⟩ : ∃ lf, decide (0 < (σ2.Ts k).nf) = lf := ⟨_, rfl⟩
          rw [hlf]
          have HLF := Lib.hid hlf
          clear hlf
          cases lf with
          | true =>
            as_aux_lemma =>
              have hsame : ∀ j, g2.X (10 * j + 2) = g1.X (10 * j + 2) := HSO.out.hands (of_decide_eq_true HLF.out)
              have hEq : (fun j => g2.X (10 * j + 2)) = fun j => g1.X (10 * j + 2) := funext hsame
              obtain ⟨v2, hv2⟩ : ∃ v2, v2 = v1 := ⟨_, rfl⟩
              have HLd := Lib.hid (show LH w P cb hb wd v2 (fun j => g2.X (10 * j + 2)) by rw [hEq, hv2]; exact HLx1.out)
              have HEd := Lib.hid (show ∀ j, j < P.t → (g2.X (10 * j + 2)).length ≤ i + 1 from fun j hj => by rw [hsame j]; exact Nat.le_succ_of_le (HEL8.out j hj))
              clear hEq hv2 hsame HLx1
              go_wp2_with fail
              obtain ⟨Bs, hBs⟩ : ∃ Bs, Bs = wd.heap.size := ⟨_, rfl⟩
              have HBs := Lib.hid (show Bs ≤ wd.heap.size by rw [hBs]; exact Nat.le_refl _)
              have HNs := Lib.hid (show P.N ≤ Bs by rw [hBs]; exact HLd.out.NS.1)
              have HAs := Lib.hid (show ∀ b, (Value.slice ap1 A1.length ac1).ownBlock = some b → b < Bs from fun b hb9 => by
                obtain ⟨_, cur, hc⟩ := HAd.out.ty hb9
                rw [hBs]; exact Th.blk_lt hc)
              clear hBs
              go_loopw [14, 15] (fun sv jv wr => ∃ j : Nat, j ≤ A1.length ∧ jv = .int .i64 j ∧ Hid (MM wr P σ2) ∧ Hid (LH w P cb hb wr v2 fun j => g2.X (10 * j + 2)) ∧ Hid (AR wr P.N (.slice ap1 A1.length ac1) A1) ∧ Hid (AR wr Bs sv (stillL P.s σ2 (A1.take j))) ∧ Hid (Bs ≤ wr.heap.size)) (fun _ jv _ => A1.length - (intOf jv).toNat)
              case atStart => exact ⟨0, Nat.zero_le _, rfl, HMd, HLd, HAd, Lib.hid (AR_nil _ _), HBs⟩
              case round =>
                clear HMd HLd HAd
                obtain ⟨j, hj, rfl, HMe, HLe, HAe, HSe, HBe⟩ := hrel
                obtain ⟨sp, sc, rfl, _, _⟩ := HSe.out.slice
                rcases (by omega : j < A1.length ∨ j = A1.length) with hjl | hje
                · obtain ⟨ga, ca, hav, q1, q2, y0, y1⟩ := HAe.out.get hjl
                  obtain ⟨rfl, rfl⟩ : ap1 = some ⟨ga, 0, none⟩ ∧ ac1 = ca := by simpa using hav
                  obtain ⟨h1, h2, h3⟩ := HV8.out _ (List.getElem_mem hjl)
                  obtain ⟨hst1, _⟩ := HV8.out.step HSO.out _ (List.getElem_mem hjl)
                  have HTK9 := Lib.hid (still_take P.s σ2 hjl)
                  obtain ⟨ee, hee⟩ : ∃ ee, ee = A1[j].1 := ⟨_, rfl⟩
                  obtain ⟨ep, hep⟩ : ∃ ep, ep = A1[j].2 := ⟨_, rfl⟩
                  rw [← hee] at y0 h1 hst1 HTK9
                  rw [← hep] at y1 h3 hst1
                  have HPE := Lib.hid (show A1[j] = (ee, ep) by rw [hee, hep])
                  have HEE := Lib.hid h1
                  have HST1 := Lib.hid hst1
                  have HEP := Lib.hid h3.2.2
                  obtain ⟨lb, hlb⟩ : ∃ lb, Gd.leadsB P.s σ2.H σ2.G ee = lb := ⟨_, rfl⟩
                  have HLB := Lib.hid hlb
                  have hjI : (j : Int) < A1.length := by omega
                  have HY := Lib.hid (And.intro y0 y1)
                  have x0 := Ext.cells y0
                  clear h1 h2 h3 hst1 hee hep hlb y0 y1
                  go_upto_region 34 with fail
                  (with_reducible refine wp_region_mix (fun w' => ∃ y : Ext wr, w' = y.w) ?_ ?_ ?_ ?_; kernel_rfl; kernel_rfl; exact ⟨⟨wr.drew, (Below.refl _ _).drew⟩, rfl⟩)
                  repeat (first | ((with_reducible refine mix_plain (by kernel_rfl) ?_); (first | go_big_quiet_skip | (go_big_quiet_want; go_big_quiet_op; go_big_quiet_on)); (with_reducible refine mix_on ?_)) | ((with_reducible refine mix_skip (by kernel_rfl) ?_); go_big_quiet_skip; (with_reducible refine mix_on ?_)))
                  ((with_reducible refine wpMix_chain (by kernel_rfl) (by kernel_rfl) (fun K HK => ?_)); go_step)
                  have HMx := Lib.hid (HMe.out.below (Below.refl wr.heap.size wr).drew)
                  refine (cGuard HMx.out.c).mono ?_; rintro _ wx9 ⟨rfl, hwx⟩
                  subst hwx
                  refine HK.out _ _ ⟨⟨wr.drew, (Below.refl _ _).drew⟩, rfl⟩ ?_
                  clear HK K
                  repeat (first | ((with_reducible refine mix_plain (by kernel_rfl) ?_); (first | go_big_quiet_skip | (go_big_quiet_want; go_big_quiet_op; go_big_quiet_on)); (with_reducible refine mix_on ?_)) | ((with_reducible refine mix_skip (by kernel_rfl) ?_); go_big_quiet_skip; (with_reducible refine mix_on ?_)))
                  ((with_reducible refine wpMix_chain (by kernel_rfl) (by kernel_rfl) (fun K HK => ?_)); go_step)
                  refine (Gd.gleads HMx.out.c.grd ee HEE.out.1 (by have := HEE.out; omega)).mono ?_; rintro _ wy ⟨rfl, hb9⟩
                  have HBy := Lib.hid (below_on (Below.refl wr.heap.size wr).drew hb9)
                  refine HK.out _ _ ⟨⟨wy, HBy.out⟩, rfl⟩ ?_
                  rw [HLB.out]
                  clear HK K hb9 HMx
                  repeat (first | ((with_reducible refine mix_plain (by kernel_rfl) ?_); (first | go_big_quiet_skip | (go_big_quiet_want; go_big_quiet_op; go_big_quiet_on)); (with_reducible refine mix_on ?_)) | ((with_reducible refine mix_skip (by kernel_rfl) ?_); go_big_quiet_skip; (with_reducible refine mix_on ?_)))
                  refine wpMix_nil ?_
                  have HMf := Lib.hid (HMe.out.below HBy.out); have HLf := Lib.hid (HLe.out.below HBy.out); have HAf := Lib.hid (HAe.out.below HBy.out); have HSf := Lib.hid (HSe.out.below HBy.out)
                  have HBf := Lib.hid (Nat.le_trans HBe.out HBy.out.size)
                  have z0 : wy.cell? ⟨ga, j * 2, none⟩ = some (.int .u64 ee) := Ext.use (Ext.cells HY.out.1) HBy.out
                  have z1 : wy.cell? ⟨ga, j * 2 + 1, none⟩ = some (.int .u64 ep) := Ext.use (Ext.cells HY.out.2) HBy.out
                  clear x0 HMe HLe HAe HSe HBe HBy
                  cases lb with
                  | true =>
                    have hsl : (stillL P.s σ2 (A1.take j)).length ≤ 100000 := by
                      have q3 := still_len P.s σ2 (A1.take j)
                      have q4 := HAL8.out
                      simp at q3; omega
                    obtain ⟨p9, c9, W2, hrun, ho9, hg9⟩ := pushW HSf.out ee ep hsl HBf.out
                    have ksg := KS_grown hg9
                    have HMg := Lib.hid (MM.ksW HMf.out HSf.out HNs.out ksg); have HLg := Lib.hid (LH.ksW HLf.out HSf.out HNs.out ksg)
                    have HAg := Lib.hid (show AR W2 P.N (.slice (some ⟨ga, 0, none⟩) A1.length ac1) A1 from HAf.out.kept fun b hb9 => ksg.block b (by obtain ⟨_, cur, hc⟩ := HAf.out.ty hb9; exact Th.blk_lt hc) fun e9 => by
                      have q5 := (HSf.out.ty e9).1
                      have q6 := HAs.out b hb9
                      omega)
                    have HSg := Lib.hid (show AR W2 Bs (.slice p9 ((stillL P.s σ2 (A1.take j)).length + 1) c9) (stillL P.s σ2 (A1.take (j + 1))) from by
                      rw [HTK9.out, HLB.out, if_pos rfl, HPE.out]; exact ho9)
                    have HBg := Lib.hid (Nat.le_trans HBf.out ksg.size)
                    clear ho9 hg9 hsl ksg
                    go_wp2_with (at_builtin; refine Th.wpList_append_run rfl (.tmp 168) (.tmp 173) 33 rfl rfl rfl rfl hrun ?_)
                    clear hrun z0 z1 hjI
                    go_roundw
                    case rel => exact ⟨j + 1, by omega, by go_num, HMg, HLg, HAg, HSg, HBg⟩
                    case measure => simp [intOf]; omega
                  | false =>
                    have hlt : ¬ now < ep + 3 := by have q3 := HST1.out HLB.out; have q4 := HW8.out; omega
                    have hwr : IntKind.u64.wrap (ep + 3) = ep + 3 := by
                      have q3 := HST1.out HLB.out; have q4 := HW8.out; have q5 := HNB.out; have q6 := HEP.out
                      rw [IntKind.wrap_u64]; omega
                    go_wp2_with fail
                    clear hlt hwr z0 z1 hjI
                    have HSg := Lib.hid (show AR wy Bs _ (stillL P.s σ2 (A1.take (j + 1))) from by
                      rw [HTK9.out, HLB.out]; simp; exact HSf.out)
                    go_roundw
                    case rel => exact ⟨j + 1, by omega, by go_num, HMf, HLf, HAf, HSg, HBf⟩
                    case measure => simp [intOf]; omega
                · have hjI : ¬ (j : Int) < A1.length := by omega
                  have HSx := Lib.hid (show AR wr P.N (.slice sp (stillL P.s σ2 (A1.take j)).length sc) (stillL P.s σ2 A1) from by
                    have h9 := HSe.out.mono HNs.out
                    have h8 : stillL P.s σ2 (A1.take j) = stillL P.s σ2 A1 := by rw [hje, List.take_length]
                    rw [h8] at h9 ⊢; exact h9)
                  clear hje
                  go_wp2_with fail
                  have hcf := HMe.out.c
                  rw [HSO.out.xs.ok.1, HSO.out.xs.ok.2.1, HSO.out.xs.ok.2.2] at hcf
                  refine (cFault hcf).mono ?_; rintro _ wg ⟨rfl, hb9⟩
                  have HMg := Lib.hid (HMe.out.below hb9); have HLg := Lib.hid (HLe.out.below hb9); have HSg := Lib.hid (HSx.out.below hb9)
                  clear hb9 hcf HMe HLe HAe HSe HSx hjI
                  go_wp2_with fail
                  go_roundw
                  case rel => exact ⟨i + 1, by omega, by go_num, σ2, g2, stillL P.s σ2 A1, v2, HMg, Lib.hid (show XS P σ2 g2 (2 * i + 1 + 1) from HSO.out.xs), HLg, HSg, Lib.hid (show AW P σ2 g2 (stillL P.s σ2 A1) (2 * i + 1 + 1) from HV8.out.still HSO.out), Lib.hid (Nat.le_trans (still_len _ _ _) HAL8.out), HEd⟩
                  case measure => simp [intOf]; omega
          | false =>
            as_aux_lemma =>
              have hsame : ∀ j, g2.X (10 * j + 2) = g1.X (10 * j + 2) := by
                rcases HSO.out.E with ⟨e1, _⟩ | ⟨e1, _⟩
                · exact e1
                · exact absurd e1 HNT.out
              have hEq : (fun j => g2.X (10 * j + 2)) = fun j => g1.X (10 * j + 2) := funext hsame
              obtain ⟨v2, hv2⟩ : ∃ v2, v2 = v1 := ⟨_, rfl⟩
              have HLd := Lib.hid (show LH w P cb hb wd v2 (fun j => g2.X (10 * j + 2)) by rw [hEq, hv2]; exact HLx1.out)
              have HEd := Lib.hid (show ∀ j, j < P.t → (g2.X (10 * j + 2)).length ≤ i + 1 from fun j hj => by rw [hsame j]; exact Nat.le_succ_of_le (HEL8.out j hj))
              clear hEq hv2 hsame HLx1
              go_wp2_with fail
              obtain ⟨Bs, hBs⟩ : ∃ Bs, Bs = wd.heap.size := ⟨_, rfl⟩
              have HBs := Lib.hid (show Bs ≤ wd.heap.size by rw [hBs]; exact Nat.le_refl _)
              have HNs := Lib.hid (show P.N ≤ Bs by rw [hBs]; exact HLd.out.NS.1)
              have HAs := Lib.hid (show ∀ b, (Value.slice ap1 A1.length ac1).ownBlock = some b → b < Bs from fun b hb9 => by
                obtain ⟨_, cur, hc⟩ := HAd.out.ty hb9
                rw [hBs]; exact Th.blk_lt hc)
              clear hBs
              go_loopw [14, 15] (fun sv jv wr => ∃ j : Nat, j ≤ A1.length ∧ jv = .int .i64 j ∧ Hid (MM wr P σ2) ∧ Hid (LH w P cb hb wr v2 fun j => g2.X (10 * j + 2)) ∧ Hid (AR wr P.N (.slice ap1 A1.length ac1) A1) ∧ Hid (AR wr Bs sv (stillL P.s σ2 (A1.take j))) ∧ Hid (Bs ≤ wr.heap.size)) (fun _ jv _ => A1.length - (intOf jv).toNat)
              case atStart => exact ⟨0, Nat.zero_le _, rfl, HMd, HLd, HAd, Lib.hid (AR_nil _ _), HBs⟩
              case round =>
                clear HMd HLd HAd
                obtain ⟨j, hj, rfl, HMe, HLe, HAe, HSe, HBe⟩ := hrel
                obtain ⟨sp, sc, rfl, _, _⟩ := HSe.out.slice
                rcases (by omega : j < A1.length ∨ j = A1.length) with hjl | hje
                · obtain ⟨ga, ca, hav, q1, q2, y0, y1⟩ := HAe.out.get hjl
                  obtain ⟨rfl, rfl⟩ : ap1 = some ⟨ga, 0, none⟩ ∧ ac1 = ca := by simpa using hav
                  obtain ⟨h1, h2, h3⟩ := HV8.out _ (List.getElem_mem hjl)
                  obtain ⟨hst1, _⟩ := HV8.out.step HSO.out _ (List.getElem_mem hjl)
                  have HTK9 := Lib.hid (still_take P.s σ2 hjl)
                  obtain ⟨ee, hee⟩ : ∃ ee, ee = A1[j].1 := ⟨_, rfl⟩
                  obtain ⟨ep, hep⟩ : ∃ ep, ep = A1[j].2 := ⟨_, rfl⟩
                  rw [← hee] at y0 h1 hst1 HTK9
                  rw [← hep] at y1 h3 hst1
                  have HPE := Lib.hid (show A1[j] = (ee, ep) by rw [hee, hep])
                  have HEE := Lib.hid h1
                  have HST1 := Lib.hid hst1
                  have HEP := Lib.hid h3.2.2
                  obtain ⟨lb, hlb⟩ : ∃ lb, Gd.leadsB P.s σ2.H σ2.G ee = lb := ⟨_, rfl⟩
                  have HLB := Lib.hid hlb
                  have hjI : (j : Int) < A1.length := by omega
                  have HY := Lib.hid (And.intro y0 y1)
                  have x0 := Ext.cells y0
                  clear h1 h2 h3 hst1 hee hep hlb y0 y1
                  go_upto_region 34 with fail
                  (with_reducible refine wp_region_mix (fun w' => ∃ y : Ext wr, w' = y.w) ?_ ?_ ?_ ?_; kernel_rfl; kernel_rfl; exact ⟨⟨wr.drew, (Below.refl _ _).drew⟩, rfl⟩)
                  repeat (first | ((with_reducible refine mix_plain (by kernel_rfl) ?_); (first | go_big_quiet_skip | (go_big_quiet_want; go_big_quiet_op; go_big_quiet_on)); (with_reducible refine mix_on ?_)) | ((with_reducible refine mix_skip (by kernel_rfl) ?_); go_big_quiet_skip; (with_reducible refine mix_on ?_)))
                  ((with_reducible refine wpMix_chain (by kernel_rfl) (by kernel_rfl) (fun K HK => ?_)); go_step)
                  have HMx := Lib.hid (HMe.out.below (Below.refl wr.heap.size wr).drew)
                  refine (cGuard HMx.out.c).mono ?_; rintro _ wx9 ⟨rfl, hwx⟩
                  subst hwx
                  refine HK.out _ _ ⟨⟨wr.drew, (Below.refl _ _).drew⟩, rfl⟩ ?_
                  clear HK K
                  repeat (first | ((with_reducible refine mix_plain (by kernel_rfl) ?_); (first | go_big_quiet_skip | (go_big_quiet_want; go_big_quiet_op; go_big_quiet_on)); (with_reducible refine mix_on ?_)) | ((with_reducible refine mix_skip (by kernel_rfl) ?_); go_big_quiet_skip; (with_reducible refine mix_on ?_)))
                  ((with_reducible refine wpMix_chain (by kernel_rfl) (by kernel_rfl) (fun K HK => ?_)); go_step)
                  refine (Gd.gleads HMx.out.c.grd ee HEE.out.1 (by have := HEE.out; omega)).mono ?_; rintro _ wy ⟨rfl, hb9⟩
                  have HBy := Lib.hid (below_on (Below.refl wr.heap.size wr).drew hb9)
                  refine HK.out _ _ ⟨⟨wy, HBy.out⟩, rfl⟩ ?_
                  rw [HLB.out]
                  clear HK K hb9 HMx
                  repeat (first | ((with_reducible refine mix_plain (by kernel_rfl) ?_); (first | go_big_quiet_skip | (go_big_quiet_want; go_big_quiet_op; go_big_quiet_on)); (with_reducible refine mix_on ?_)) | ((with_reducible refine mix_skip (by kernel_rfl) ?_); go_big_quiet_skip; (with_reducible refine mix_on ?_)))
                  refine wpMix_nil ?_
                  have HMf := Lib.hid (HMe.out.below HBy.out); have HLf := Lib.hid (HLe.out.below HBy.out); have HAf := Lib.hid (HAe.out.below HBy.out); have HSf := Lib.hid (HSe.out.below HBy.out)
                  have HBf := Lib.hid (Nat.le_trans HBe.out HBy.out.size)
                  have z0 : wy.cell? ⟨ga, j * 2, none⟩ = some (.int .u64 ee) := Ext.use (Ext.cells HY.out.1) HBy.out
                  have z1 : wy.cell? ⟨ga, j * 2 + 1, none⟩ = some (.int .u64 ep) := Ext.use (Ext.cells HY.out.2) HBy.out
                  clear x0 HMe HLe HAe HSe HBe HBy
                  cases lb with
                  | true =>
                    have hsl : (stillL P.s σ2 (A1.take j)).length ≤ 100000 := by
                      have q3 := still_len P.s σ2 (A1.take j)
                      have q4 := HAL8.out
                      simp at q3; omega
                    obtain ⟨p9, c9, W2, hrun, ho9, hg9⟩ := pushW HSf.out ee ep hsl HBf.out
                    have ksg := KS_grown hg9
                    have HMg := Lib.hid (MM.ksW HMf.out HSf.out HNs.out ksg); have HLg := Lib.hid (LH.ksW HLf.out HSf.out HNs.out ksg)
                    have HAg := Lib.hid (show AR W2 P.N (.slice (some ⟨ga, 0, none⟩) A1.length ac1) A1 from HAf.out.kept fun b hb9 => ksg.block b (by obtain ⟨_, cur, hc⟩ := HAf.out.ty hb9; exact Th.blk_lt hc) fun e9 => by
                      have q5 := (HSf.out.ty e9).1
                      have q6 := HAs.out b hb9
                      omega)
                    have HSg := Lib.hid (show AR W2 Bs (.slice p9 ((stillL P.s σ2 (A1.take j)).length + 1) c9) (stillL P.s σ2 (A1.take (j + 1))) from by
                      rw [HTK9.out, HLB.out, if_pos rfl, HPE.out]; exact ho9)
                    have HBg := Lib.hid (Nat.le_trans HBf.out ksg.size)
                    clear ho9 hg9 hsl ksg
                    go_wp2_with (at_builtin; refine Th.wpList_append_run rfl (.tmp 168) (.tmp 173) 33 rfl rfl rfl rfl hrun ?_)
                    clear hrun z0 z1 hjI
                    go_roundw
                    case rel => exact ⟨j + 1, by omega, by go_num, HMg, HLg, HAg, HSg, HBg⟩
                    case measure => simp [intOf]; omega
                  | false =>
                    have hlt : ¬ now < ep + 3 := by have q3 := HST1.out HLB.out; have q4 := HW8.out; omega
                    have hwr : IntKind.u64.wrap (ep + 3) = ep + 3 := by
                      have q3 := HST1.out HLB.out; have q4 := HW8.out; have q5 := HNB.out; have q6 := HEP.out
                      rw [IntKind.wrap_u64]; omega
                    go_wp2_with fail
                    clear hlt hwr z0 z1 hjI
                    have HSg := Lib.hid (show AR wy Bs _ (stillL P.s σ2 (A1.take (j + 1))) from by
                      rw [HTK9.out, HLB.out]; simp; exact HSf.out)
                    go_roundw
                    case rel => exact ⟨j + 1, by omega, by go_num, HMf, HLf, HAf, HSg, HBf⟩
                    case measure => simp [intOf]; omega
                · have hjI : ¬ (j : Int) < A1.length := by omega
                  have HSx := Lib.hid (show AR wr P.N (.slice sp (stillL P.s σ2 (A1.take j)).length sc) (stillL P.s σ2 A1) from by
                    have h9 := HSe.out.mono HNs.out
                    have h8 : stillL P.s σ2 (A1.take j) = stillL P.s σ2 A1 := by rw [hje, List.take_length]
                    rw [h8] at h9 ⊢; exact h9)
                  clear hje
                  go_wp2_with fail
                  have hcf := HMe.out.c
                  rw [HSO.out.xs.ok.1, HSO.out.xs.ok.2.1, HSO.out.xs.ok.2.2] at hcf
                  refine (cFault hcf).mono ?_; rintro _ wg ⟨rfl, hb9⟩
                  have HMg := Lib.hid (HMe.out.below hb9); have HLg := Lib.hid (HLe.out.below hb9); have HSg := Lib.hid (HSx.out.below hb9)
                  clear hb9 hcf HMe HLe HAe HSe HSx hjI
                  go_wp2_with fail
                  go_roundw
                  case rel => exact ⟨i + 1, by omega, by go_num, σ2, g2, stillL P.s σ2 A1, v2, HMg, Lib.hid (show XS P σ2 g2 (2 * i + 1 + 1) from HSO.out.xs), HLg, HSg, Lib.hid (show AW P σ2 g2 (stillL P.s σ2 A1) (2 * i + 1 + 1) from HV8.out.still HSO.out), Lib.hid (Nat.le_trans (still_len _ _ _) HAL8.out), HEd⟩
                  case measure => simp [intOf]; omega
      · refine (cThread_no HM4.out.c k (by rw [HE.out.1]; exact hkt)).mono ?_; rintro _ wa ⟨rfl, hb9⟩
        have HM6 := Lib.hid (HM4.out.below hb9); have HL6 := Lib.hid (HL4.out.below hb9); have HA6 := Lib.hid (HA4.out.below hb9)
        clear hb9 HM4 HL4 HA4 d0 d1
        go_wp2_with fail
        go_roundw
        case rel => exact ⟨i + 1, by omega, by go_num, σ, g, A, v, HM6, Lib.hid (HI4.out.le (by omega)), HL6, HA6, Lib.hid (HW4.out.le (by omega)), Lib.hid (Nat.le_succ_of_le HAL.out), Lib.hid (fun j hj => Nat.le_succ_of_le (HEL.out j hj))⟩
        case measure => simp [intOf]; omega
    · have heq := heq.symm
      subst heq
      have hii : ¬ (pn : Int) < pn := by omega
      have HI3 := Lib.hid (show XS P σ g (2 * pn) from HI4.out)
      obtain ⟨ap0, ac0, rfl, _, _⟩ := HA4.out.slice
      have HEL2 := Lib.hid (show ∀ j, j < P.t → (g.X (10 * j + 2)).length ≤ 1200 + 0 from fun j hj => by have := HEL.out j hj; have := HPN.out; omega)
      have HN0 := Lib.hid (show 2 * pn ≤ 2400 + 2000 * 0 by have := HPN.out; omega)
      clear HA4 HW4 HAL HEL HI4
      go_wp2_with fail
      clear hii
      go_loopw [16] (fun jv wr => ∃ k : Nat, k ≤ t ∧ jv = .int .i64 k ∧ ∃ (σ1 : Sg) (g1 : Gh) (n1 : Nat) (v1 : Nat → Value), Hid (MM wr P σ1) ∧ Hid (XS P σ1 g1 n1) ∧ Hid (n1 ≤ 2400 + 2000 * k) ∧ Hid (LH w P cb hb wr v1 fun j => g1.X (10 * j + 2)) ∧ Hid (∀ a, a < k → (σ1.Ts a).nf = 0) ∧ Hid (∀ j, j < P.t → (g1.X (10 * j + 2)).length ≤ 1200 + k)) (fun jv _ => t - (intOf jv).toNat)
      case atStart => exact ⟨0, Nat.zero_le _, rfl, σ, g, 2 * pn, v, HM4, HI3, HN0, HL4, Lib.hid (fun a ha => absurd ha (Nat.not_lt_zero a)), HEL2⟩
      case round =>
        clear HM4 HI3 HN0 HL4 HEL2
        obtain ⟨k, hk, rfl, σ1, g1, n1, v1, HM3, HI3, HN3, HL3, HZ3, HEL3⟩ := hrel
        have hcb := HL3.out.cf
        rw [HE.out.1] at hcb
        have o0 := Th.newcell hcb 0 _ rfl
        clear hcb
        rcases (by omega : k < t ∨ k = t) with hlt | heq
        · have hjt : (k : Int) < t := by omega
          have HKP := Lib.hid (show k < P.t by rw [HE.out.1]; exact hlt)
          have HKT := Lib.hid hlt
          go_wp2_with fail
          clear o0
          refine (cThread_yes HM3.out.c k HKP.out).mono ?_; rintro _ wa ⟨rfl, hb9⟩
          have HM5 := Lib.hid (HM3.out.below hb9); have HL5 := Lib.hid (HL3.out.below hb9)
          clear hb9 HM3 HL3
          go_wp2_with fail
          refine (mdepth HM5.out HKP.out).mono ?_; rintro _ _ ⟨rfl, rfl⟩
          obtain ⟨nf1, hnf1⟩ : ∃ nf1, (σ1.Ts k).nf = nf1 := ⟨_, rfl⟩
          rw [hnf1]
          by_cases hn1 : nf1 = 1
          · subst hn1
            have HN1 := Lib.hid hnf1
            clear hnf1
            go_wp2_with fail
            refine (cThread_yes HM5.out.c k HKP.out).mono ?_; rintro _ wb ⟨rfl, hb9⟩
            have HM6 := Lib.hid (HM5.out.below hb9); have HL6 := Lib.hid (HL5.out.below hb9)
            clear hb9 HM5 HL5
            go_wp2_with fail
            refine (mtopS HM6.out HKP.out HN1.out).mono ?_; rintro _ wc3 ⟨fb, rfl, hfb, hb9⟩
            have HMx := Lib.hid (HM6.out.below hb9); have HLx := Lib.hid (HL6.out.below hb9)
            obtain ⟨fn, hfn⟩ : ∃ fn, ((σ1.Ts k).fs 0).fn = fn := ⟨_, rfl⟩
            rw [hfn] at hfb
            have HFN := Lib.hid hfn
            obtain ⟨tk, htk⟩ : ∃ tk : Bool, (fn == 1) = tk := ⟨_, rfl⟩
            have HTKB := Lib.hid htk
            clear hb9 HM6 HL6 hfn
            go_wp2_with fail
            clear hfb htk
            refine (lfinish HMx.out HI3.out (by have := HN3.out; omega) HKP.out).mono ?_; rintro _ wd ⟨σ2, g2, n2, rfl, hm8, hk8, hx2, hn2, hz2, ho2, hfe⟩
            have HMd := Lib.hid hm8; have HLx1 := Lib.hid (HLx.out.ka hk8); have HX2 := Lib.hid hx2; have HFE := Lib.hid hfe
            have HN2 := Lib.hid (show n2 ≤ 2400 + 2000 * (k + 1) by have := HN3.out; omega)
            have HZ2 := Lib.hid (show ∀ a, a < k + 1 → (σ2.Ts a).nf = 0 from fun a ha => by
              by_cases e9 : a = k
              · rw [e9]; exact hz2
              · rw [ho2 a e9]; exact HZ3.out a (by omega))
            clear hm8 hk8 hx2 hn2 hz2 ho2 hfe HMx HLx
            cases tk with
            | false =>
              have HNT := Lib.hid (show ¬ took (σ1.Ts k) from fun h9 => by
                have q1 := h9.2
                rw [HFN.out] at q1
                have q2 := HTKB.out
                rw [q1] at q2; simp at q2)
              as_aux_lemma =>
                have hsame : ∀ j, g2.X (10 * j + 2) = g1.X (10 * j + 2) := by
                  rcases HFE.out with ⟨e1, _⟩ | ⟨e1, _⟩
                  · exact e1
                  · exact absurd e1 HNT.out
                have hEq : (fun j => g2.X (10 * j + 2)) = fun j => g1.X (10 * j + 2) := funext hsame
                obtain ⟨v2, hv2⟩ : ∃ v2, v2 = v1 := ⟨_, rfl⟩
                have HLd := Lib.hid (show LH w P cb hb wd v2 (fun j => g2.X (10 * j + 2)) by rw [hEq, hv2]; exact HLx1.out)
                have HEd := Lib.hid (show ∀ j, j < P.t → (g2.X (10 * j + 2)).length ≤ 1200 + (k + 1) from fun j hj => by rw [hsame j]; exact Nat.le_succ_of_le (HEL3.out j hj))
                clear hEq hv2 hsame HLx1
                go_wp2_with fail
                clear hjt
                go_roundw
                case rel => exact ⟨k + 1, by omega, by go_num, σ2, g2, n2, v2, HMd, HX2, HN2, HLd, HZ2, HEd⟩
                case measure => simp [intOf]; omega
            | true =>
              have HTK := Lib.hid (show took (σ1.Ts k) from ⟨HN1.out, by
                rw [HFN.out]; simpa using HTKB.out⟩)
              obtain ⟨e, hre⟩ : ∃ e, (σ2.Ts k).ret 0 = e := ⟨_, rfl⟩
              have HRE := Lib.hid hre
              clear hre
              by_cases he0 : e = 0
              · as_aux_lemma =>
                  subst he0
                  have hsame : ∀ j, g2.X (10 * j + 2) = g1.X (10 * j + 2) := by
                    rcases HFE.out with ⟨e1, _⟩ | ⟨_, e1, _⟩
                    · exact e1
                    · have := HRE.out; omega
                  have hEq : (fun j => g2.X (10 * j + 2)) = fun j => g1.X (10 * j + 2) := funext hsame
                  obtain ⟨v2, hv2⟩ : ∃ v2, v2 = v1 := ⟨_, rfl⟩
                  have HLd := Lib.hid (show LH w P cb hb wd v2 (fun j => g2.X (10 * j + 2)) by rw [hEq, hv2]; exact HLx1.out)
                  have HEd := Lib.hid (show ∀ j, j < P.t → (g2.X (10 * j + 2)).length ≤ 1200 + (k + 1) from fun j hj => by rw [hsame j]; exact Nat.le_succ_of_le (HEL3.out j hj))
                  clear hEq hv2 hsame HLx1
                  go_wp2_with fail
                  refine (cThread_yes HMd.out.c k HKP.out).mono ?_; rintro _ we ⟨rfl, hb9⟩
                  have HMd1 := Lib.hid (HMd.out.below hb9); have HLd1 := Lib.hid (HLd.out.below hb9)
                  clear hb9 HMd HLd
                  have HMd := HMd1; have HLd := HLd1
                  clear HMd1 HLd1
                  have x0 : we.cell? ⟨P.tq k, 0, none⟩ = some (.int .u64 0) := by have h9 := HMd.out.ret HKP.out (i := 0) (by omega); rw [HRE.out] at h9; exact h9
                  go_wp2_with fail
                  clear x0
                  clear hjt
                  go_roundw
                  case rel => exact ⟨k + 1, by omega, by go_num, σ2, g2, n2, v2, HMd, HX2, HN2, HLd, HZ2, HEd⟩
                  case measure => simp [intOf]; omega
              · as_aux_lemma =>
                  have HEX := Lib.hid (show g2.X (10 * k + 2) = g1.X (10 * k + 2) ++ [e] ∧ ∀ j, j ≠ k → g2.X (10 * j + 2) = g1.X (10 * j + 2) from by
                    rcases HFE.out with ⟨_, e2⟩ | ⟨_, _, _, e5, e6⟩
                    · exact absurd (HRE.out.symm.trans (e2 HTK.out)) he0
                    · rw [HRE.out] at e5; exact ⟨e5, e6⟩)
                  have hz1 : (e != 0) = true := by simpa using he0
                  have hkt : (k : Int) < t := by have := HKT.out; omega
                  clear he0
                  go_wp2_with fail
                  refine (cThread_yes HMd.out.c k HKP.out).mono ?_; rintro _ we ⟨rfl, hb9⟩
                  have HMe := Lib.hid (HMd.out.below hb9); have HLe := Lib.hid (HLx1.out.below hb9)
                  clear hb9 HMd HLx1
                  have x0 : we.cell? ⟨P.tq k, 0, none⟩ = some (.int .u64 e) := by have h9 := HMe.out.ret HKP.out (i := 0) (by omega); rw [HRE.out] at h9; exact h9
                  have hrw : ownA we P.N (v1 k) (g1.X (10 * k + 2)) := HLe.out.rw k HKP.out
                  have hle : (g1.X (10 * k + 2)).length ≤ 100000 := by have := HEL3.out k HKP.out; omega
                  obtain ⟨pv, cv, hve, _, _⟩ := ownA_slice hrw
                  have HLD1 := Lib.hid (show ∀ y : Ext we, (Instr.loadAt 43 (.pointer (some ⟨hb, k, none⟩))).run Try.prog y.w = .ok (.slice pv (g1.X (10 * k + 2)).length cv) y.w from fun y => by
                    have z0 := HLe.out.gh HKP.out
                    rw [hve] at z0
                    have z1 := Ext.cells z0 y
                    go_simp)
                  have HLD2 := Lib.hid (show ∀ y : Ext we, (Instr.loadAt 22 (.pointer (some ⟨P.tq k, 0, none⟩))).run Try.prog y.w = .ok (.int .u64 e) y.w from fun y => by
                    have z1 := Ext.cells x0 y
                    go_simp)
                  go_upto_region 48 with fail
                  clear x0
                  refine Th.wp_region_K (fun w' => ∃ y : Ext we, w' = y.w) 14 (by decide +kernel) ?_
                  generalize hwe : World.drew we = wz
                  have hbd : Below we.heap.size we wz := by rw [← hwe]; exact (Below.refl _ _).drew
                  clear hwe
                  (refine Th.wpAnyK_takeY (i := 0) (v := ?_) rfl (by decide +kernel) (by decide +kernel) (by decide +kernel) (by decide) (fun _ _ _ h => h) (Or.inl ⟨by rfl, ?_⟩) (.inr ⟨⟨wz, hbd⟩, rfl⟩) ?_; rotate_left; (intro w; go_simp); (try with_reducible rfl))
                  (try simp only [List.getElem_toArray, List.getElem_cons_succ, List.getElem_cons_zero, Act.put, List.setIfInBounds_toArray, List.set_cons_succ, List.set_cons_zero])
                  (refine Th.wpAnyK_takeY (i := 1) (v := ?_) rfl (by decide +kernel) (by decide +kernel) (by decide +kernel) (by decide) (fun _ _ _ h => h) (Or.inl ⟨by rfl, ?_⟩) (.inr ⟨⟨wz, hbd⟩, rfl⟩) ?_; rotate_left; (intro w; go_simp); (try with_reducible rfl))
                  (try simp only [List.getElem_toArray, List.getElem_cons_succ, List.getElem_cons_zero, Act.put, List.setIfInBounds_toArray, List.set_cons_succ, List.set_cons_zero])
                  (refine Th.wpAnyK_takeY (i := 2) (v := ?_) rfl (by decide +kernel) (by decide +kernel) (by decide +kernel) (by decide) (fun _ _ _ h => h) (Or.inl ⟨by rfl, ?_⟩) (.inr ⟨⟨wz, hbd⟩, rfl⟩) ?_; rotate_left; (intro w; go_simp); (try with_reducible rfl))
                  (try simp only [List.getElem_toArray, List.getElem_cons_succ, List.getElem_cons_zero, Act.put, List.setIfInBounds_toArray, List.set_cons_succ, List.set_cons_zero])
                  (refine Th.wpAnyK_takeY (i := 3) (v := ?_) rfl (by decide +kernel) (by decide +kernel) (by decide +kernel) (by decide) (fun _ _ _ h => h) (Or.inl ⟨by rfl, ?_⟩) (.inr ⟨⟨wz, hbd⟩, rfl⟩) ?_; rotate_left; (intro w; go_simp); (try with_reducible rfl))
                  (try simp only [List.getElem_toArray, List.getElem_cons_succ, List.getElem_cons_zero, Act.put, List.setIfInBounds_toArray, List.set_cons_succ, List.set_cons_zero])
                  (refine Th.wpAnyK_takeY (i := 4) (v := ?_) rfl (by decide +kernel) (by decide +kernel) (by decide +kernel) (by decide) (fun _ _ _ h => h) (Or.inl ⟨by rfl, ?_⟩) (.inr ⟨⟨wz, hbd⟩, rfl⟩) ?_; rotate_left; (intro w; go_simp); (try with_reducible rfl))
                  (try simp only [List.getElem_toArray, List.getElem_cons_succ, List.getElem_cons_zero, Act.put, List.setIfInBounds_toArray, List.set_cons_succ, List.set_cons_zero])
                  (refine Th.wpAnyK_take (i := 5) (v := .slice pv (g1.X (10 * k + 2)).length cv) [14, 16] rfl (by decide +kernel) (by decide +kernel) (by decide +kernel) (by decide +kernel) (fun _ _ _ h => h) (Th.yields_loadK rfl 43 (.tmp 226) rfl rfl (by rintro _ ⟨y, rfl⟩; exact HLD1.out y)) ⟨⟨wz, hbd⟩, rfl⟩ ?_)
                  (try simp only [List.getElem_toArray, List.getElem_cons_succ, List.getElem_cons_zero, Act.put, List.setIfInBounds_toArray, List.set_cons_succ, List.set_cons_zero])
                  (refine Th.wpAnyK_takeY (i := 6) (v := ?_) rfl (by decide +kernel) (by decide +kernel) (by decide +kernel) (by decide) (fun _ _ _ h => h) (Or.inl ⟨by rfl, ?_⟩) (.inr ⟨⟨wz, hbd⟩, rfl⟩) ?_; rotate_left; (intro w; go_simp); (try with_reducible rfl))
                  (try simp only [List.getElem_toArray, List.getElem_cons_succ, List.getElem_cons_zero, Act.put, List.setIfInBounds_toArray, List.set_cons_succ, List.set_cons_zero])
                  (refine Th.wpAnyK_takeY (i := 7) (v := ?_) rfl (by decide +kernel) (by decide +kernel) (by decide +kernel) (by decide) (fun _ _ _ h => h) (Or.inl ⟨by rfl, ?_⟩) (.inr ⟨⟨wz, hbd⟩, rfl⟩) ?_; rotate_left; (intro w; go_simp); (try with_reducible rfl))
                  (try simp only [List.getElem_toArray, List.getElem_cons_succ, List.getElem_cons_zero, Act.put, List.setIfInBounds_toArray, List.set_cons_succ, List.set_cons_zero])
                  (refine Th.wpAnyK_ready (rs := [8]) (by decide +kernel) (by simp) ?_; refine (Th.AllReadyK.cons rfl (fun K hK => ?_) Th.AllReadyK.nil))
                  refine step_of rfl ?_
                  go_step
                  refine (cThread_yes (HMe.out.below hbd).c k HKP.out).mono ?_; rintro _ wy ⟨rfl, hb9⟩
                  have hby : Below we.heap.size we wy := below_on hbd hb9
                  refine hK _ _ (.inr ⟨⟨wy, hby⟩, rfl⟩) ?_
                  clear hK K hb9 hbd
                  (try simp only [List.getElem_toArray, List.getElem_cons_succ, List.getElem_cons_zero, Act.put, List.setIfInBounds_toArray, List.set_cons_succ, List.set_cons_zero])
                  (refine Th.wpAnyK_takeY (i := 9) (v := ?_) rfl (by decide +kernel) (by decide +kernel) (by decide +kernel) (by decide) (fun _ _ _ h => h) (Or.inl ⟨by rfl, ?_⟩) (.inr ⟨⟨wy, hby⟩, rfl⟩) ?_; rotate_left; (intro w; go_simp); (try with_reducible rfl))
                  (try simp only [List.getElem_toArray, List.getElem_cons_succ, List.getElem_cons_zero, Act.put, List.setIfInBounds_toArray, List.set_cons_succ, List.set_cons_zero])
                  (refine Th.wpAnyK_takeY (i := 10) (v := ?_) rfl (by decide +kernel) (by decide +kernel) (by decide +kernel) (by decide) (fun _ _ _ h => h) (Or.inl ⟨by rfl, ?_⟩) (.inr ⟨⟨wy, hby⟩, rfl⟩) ?_; rotate_left; (intro w; go_simp); (try with_reducible rfl))
                  (try simp only [List.getElem_toArray, List.getElem_cons_succ, List.getElem_cons_zero, Act.put, List.setIfInBounds_toArray, List.set_cons_succ, List.set_cons_zero])
                  (refine Th.wpAnyK_takeY (i := 11) (v := ?_) rfl (by decide +kernel) (by decide +kernel) (by decide +kernel) (by decide) (fun _ _ _ h => h) (Or.inl ⟨by rfl, ?_⟩) (.inr ⟨⟨wy, hby⟩, rfl⟩) ?_; rotate_left; (intro w; go_simp); (try with_reducible rfl))
                  (try simp only [List.getElem_toArray, List.getElem_cons_succ, List.getElem_cons_zero, Act.put, List.setIfInBounds_toArray, List.set_cons_succ, List.set_cons_zero])
                  (refine Th.wpAnyK_take (i := 12) (v := .int .u64 e) [13, 14, 16] rfl (by decide +kernel) (by decide +kernel) (by decide +kernel) (by decide +kernel) (fun _ _ _ h => h) (Th.yields_loadK rfl 22 (.tmp 233) rfl rfl (by rintro _ ⟨y, rfl⟩; exact HLD2.out y)) ⟨⟨wy, hby⟩, rfl⟩ ?_)
                  (try simp only [List.getElem_toArray, List.getElem_cons_succ, List.getElem_cons_zero, Act.put, List.setIfInBounds_toArray, List.set_cons_succ, List.set_cons_zero])
                  (refine Th.wpAnyK_ready (rs := [13]) (by decide +kernel) (by simp) ?_; refine (Th.AllReadyK.cons rfl (fun K hK => ?_) Th.AllReadyK.nil))
                  refine step_of rfl ?_
                  go_step
                  obtain ⟨y1, hy1⟩ : ∃ y : Ext we, y.w = wy.alloc (.cells #[.int .u64 e] 22) := ⟨⟨_, hby.alloc hby.size _⟩, rfl⟩
                  rw [← hy1]
                  refine hK _ _ (.inr ⟨y1, rfl⟩) ?_
                  clear hK K
                  rw [hy1]
                  clear hy1 y1
                  have HLz := Lib.hid (HLe.out.below hby); have HMz := Lib.hid (HMe.out.below hby)
                  have hrwy : ownA wy P.N (v1 k) (g1.X (10 * k + 2)) := HLz.out.rw k HKP.out
                  obtain ⟨p9, c9, W2, hrun, ho9, hg9, hloc⟩ := pushA hrwy e hle HLz.out.NS.1
                  have hkb := (KS_grown hg9).block hb (Th.blk_lt HLz.out.hbk) fun e9 => by
                    obtain ⟨c2, h2⟩ := ownA_ty hrwy e9
                    exact ty_ne h2 HLz.out.hbk (by decide) rfl
                  have n0 : W2.cell? ⟨hb, k, none⟩ = some (v1 k) := (HLz.out.hbk.of hkb).get HKP.out
                  have nf0 : ∀ i, W2.frozen? ⟨hb, i, none⟩ = false := (HLz.out.hbk.of hkb).fr
                  have HG9 := Lib.hid hg9; have HLC := Lib.hid hloc; have HO9 := Lib.hid ho9; have HKB := Lib.hid hkb; have HRW := Lib.hid hrwy
                  rw [hve] at n0 hrun
                  clear hrw hrwy hve ho9 hg9 hloc hkb hle
                  (try simp only [List.getElem_toArray, List.getElem_cons_succ, List.getElem_cons_zero, Act.put, List.setIfInBounds_toArray, List.set_cons_succ, List.set_cons_zero])
                  (refine Th.wpAnyK_ready (rs := [14]) (by decide +kernel) (by simp) ?_; refine (Th.AllReadyK.cons rfl (fun K hK => ?_) Th.AllReadyK.nil))
                  refine step_of rfl ?_
                  refine wp_append_run (.tmp 227) (.tmp 235) 43 rfl rfl rfl rfl hrun ?_
                  refine hK _ _ (.inl rfl) ?_
                  clear hK K hrun
                  (try simp only [List.getElem_toArray, List.getElem_cons_succ, List.getElem_cons_zero, Act.put, List.setIfInBounds_toArray, List.set_cons_succ, List.set_cons_zero])
                  (refine Th.wpAnyK_takeY (i := 15) (v := ?_) rfl (by decide +kernel) (by decide +kernel) (by decide +kernel) (by decide) (fun _ _ _ h => h) (Or.inl ⟨by rfl, ?_⟩) (.inl rfl) ?_; rotate_left; (intro w; go_simp); (try with_reducible rfl))
                  (try simp only [List.getElem_toArray, List.getElem_cons_succ, List.getElem_cons_zero, Act.put, List.setIfInBounds_toArray, List.set_cons_succ, List.set_cons_zero])
                  (refine Th.wpAnyK_ready (rs := [16]) (by decide +kernel) (by simp) ?_; refine (Th.AllReadyK.cons rfl (fun K hK => ?_) Th.AllReadyK.nil))
                  refine step_of rfl ?_
                  go_step
                  refine hK _ _ (.inl rfl) ?_
                  clear hK K
                  refine Th.wpAnyK_done (by decide +kernel) ?_ _
                  clear n0 nf0
                  generalize hW : World.setCell _ _ _ = W
                  have hEq : (fun j => g2.X (10 * j + 2)) = updE (fun j => g1.X (10 * j + 2)) k (g1.X (10 * k + 2) ++ [e]) := by
                    funext j
                    by_cases e9 : j = k
                    · subst e9; rw [updE_at]; exact HEX.out.1
                    · rw [updE_ne _ _ e9]; exact HEX.out.2 j e9
                  have hWx : W = W2.setCell ⟨hb, k, none⟩ (.slice p9 ((g1.X (10 * k + 2)).length + 1) c9) := hW.symm
                  obtain ⟨v2, hv2⟩ : ∃ v2, v2 = updV v1 k (.slice p9 ((g1.X (10 * k + 2)).length + 1) c9) := ⟨_, rfl⟩
                  have hld : LH w P cb hb W v2 (fun j => g2.X (10 * j + 2)) := by
                    rw [hEq, hWx, hv2]
                    exact HLz.out.seth HKP.out (KS_grown HG9.out) HO9.out fun b e9 => by
                      rcases HLC.out with h1 | ⟨b', h1, h2⟩
                      · rw [h1] at e9; exact .inl e9
                      · rw [h1] at e9
                        have : b' = b := by simpa using e9
                        right; omega
                  have hmd : MM W P σ2 := by
                    rw [hWx]
                    exact (MM.ksA HMz.out HRW.out (KS_grown HG9.out)).other (HLz.out.hbk.of HKB.out) HLz.out.N.1 (by decide) (by decide) (by decide) (by decide) (Th.KS.set W2 hb k _)
                  have HEd := Lib.hid (show ∀ j, j < P.t → (g2.X (10 * j + 2)).length ≤ 1200 + (k + 1) from fun j hj => by
                    rw [show g2.X (10 * j + 2) = updE (fun j => g1.X (10 * j + 2)) k (g1.X (10 * k + 2) ++ [e]) j from congrFun hEq j]
                    by_cases e9 : j = k
                    · rw [e9, updE_at]; have := HEL3.out k HKP.out; simp; omega
                    · rw [updE_ne _ _ e9]; exact Nat.le_succ_of_le (HEL3.out j hj))
                  clear HMe HLe HLz HMz hW hWx hEq hv2 HG9 HLC HO9 HKB HRW HLD1 HLD2 hby
                  have HMd := Lib.hid hmd; have HLd := Lib.hid hld
                  clear hmd hld hz1 hkt
                  go_wp2_with fail
                  clear hjt
                  go_roundw
                  case rel => exact ⟨k + 1, by omega, by go_num, σ2, g2, n2, v2, HMd, HX2, HN2, HLd, HZ2, HEd⟩
                  case measure => simp [intOf]; omega
          · have hz9 : ((nf1 : Int) == 1) = false := by simp; omega
            have HNT := Lib.hid (show ¬ took (σ1.Ts k) from fun h9 => by have := h9.1; omega)
            have HMx := HM5; have HLx := HL5
            clear HM5 HL5 hnf1 hn1
            go_wp2_with fail
            clear hz9
            refine (lfinish HMx.out HI3.out (by have := HN3.out; omega) HKP.out).mono ?_; rintro _ wd ⟨σ2, g2, n2, rfl, hm8, hk8, hx2, hn2, hz2, ho2, hfe⟩
            have HMd := Lib.hid hm8; have HLx1 := Lib.hid (HLx.out.ka hk8); have HX2 := Lib.hid hx2; have HFE := Lib.hid hfe
            have HN2 := Lib.hid (show n2 ≤ 2400 + 2000 * (k + 1) by have := HN3.out; omega)
            have HZ2 := Lib.hid (show ∀ a, a < k + 1 → (σ2.Ts a).nf = 0 from fun a ha => by
              by_cases e9 : a = k
              · rw [e9]; exact hz2
              · rw [ho2 a e9]; exact HZ3.out a (by omega))
            clear hm8 hk8 hx2 hn2 hz2 ho2 hfe HMx HLx
            as_aux_lemma =>
              have hsame : ∀ j, g2.X (10 * j + 2) = g1.X (10 * j + 2) := by
                rcases HFE.out with ⟨e1, _⟩ | ⟨e1, _⟩
                · exact e1
                · exact absurd e1 HNT.out
              have hEq : (fun j => g2.X (10 * j + 2)) = fun j => g1.X (10 * j + 2) := funext hsame
              obtain ⟨v2, hv2⟩ : ∃ v2, v2 = v1 := ⟨_, rfl⟩
              have HLd := Lib.hid (show LH w P cb hb wd v2 (fun j => g2.X (10 * j + 2)) by rw [hEq, hv2]; exact HLx1.out)
              have HEd := Lib.hid (show ∀ j, j < P.t → (g2.X (10 * j + 2)).length ≤ 1200 + (k + 1) from fun j hj => by rw [hsame j]; exact Nat.le_succ_of_le (HEL3.out j hj))
              clear hEq hv2 hsame HLx1
              go_wp2_with fail
              clear hjt
              go_roundw
              case rel => exact ⟨k + 1, by omega, by go_num, σ2, g2, n2, v2, HMd, HX2, HN2, HLd, HZ2, HEd⟩
              case measure => simp [intOf]; omega
        · have heq := heq.symm
          subst heq
          have hjt : ¬ (t : Int) < t := by omega
          have HZA := Lib.hid (show ∀ j, j < P.t → (σ1.Ts j).nf = 0 from fun j hj => HZ3.out j (by rw [HE.out.1] at hj; exact hj))
          have HHR := Lib.hid (held_rest HI3.out (by rw [HE.out.2.1]; omega) HZA.out)
          have HBN := Lib.hid (show ∀ j, j < P.t → hold g1 j ≤ 1600 from fun j hj => by
            have q1 := sl_len HI3.out hj
            have q2 := HEL3.out j hj
            rw [HE.out.2.1] at q1
            unfold hold; omega)
          go_wp2_with fail
          clear hjt o0
          go_loopw [18, 19] (fun hv jv wr => ∃ k : Nat, k ≤ t ∧ jv = .int .i64 k ∧ hv = .int .i64 ((5 + sumT (hold g1) k : Nat) : Int) ∧ Hid (MM wr P σ1) ∧ Hid (LH w P cb hb wr v1 fun j => g1.X (10 * j + 2)) ∧ Hid (sumT (hold g1) k ≤ 1600 * k)) (fun _ jv _ => t - (intOf jv).toNat)
          case atStart => exact ⟨0, Nat.zero_le _, rfl, rfl, HM3, HL3, Lib.hid (Nat.zero_le _)⟩
          case round =>
            clear HM3 HL3
            obtain ⟨k, hk, rfl, rfl, HM3, HL3, HSM⟩ := hrel
            have hcb := HL3.out.cf
            rw [HE.out.1] at hcb
            have o0 := Th.newcell hcb 0 _ rfl
            clear hcb
            rcases (by omega : k < t ∨ k = t) with hlt | heq
            · have hjt : (k : Int) < t := by omega
              have HKP := Lib.hid (show k < P.t by rw [HE.out.1]; exact hlt)
              as_aux_lemma =>
                go_wp2_with fail
                clear o0
                refine (lbags HM3.out HI3.out HKP.out (HZA.out k HKP.out)).mono ?_; rintro _ wa ⟨vb, rfl, hvb, hb9⟩
                have HM5 := Lib.hid (HM3.out.below hb9); have HL5 := Lib.hid (HL3.out.below hb9)
                obtain ⟨p0, k0, hv0, _, _, _⟩ := (hvb 0 (by omega)).parts
                obtain ⟨p1, k1, hv1, _, _, _⟩ := (hvb 1 (by omega)).parts
                obtain ⟨p2, k2, hv2, _, _, _⟩ := (hvb 2 (by omega)).parts
                rw [wds_len] at hv0 hv1 hv2
                rw [hv0, hv1, hv2]
                obtain ⟨n0, hn0⟩ : ∃ n0, n0 = (g1.X (10 * k + 4 + 0)).length := ⟨_, rfl⟩
                obtain ⟨n1, hn1⟩ : ∃ n1, n1 = (g1.X (10 * k + 4 + 1)).length := ⟨_, rfl⟩
                obtain ⟨n2, hn2⟩ : ∃ n2, n2 = (g1.X (10 * k + 4 + 2)).length := ⟨_, rfl⟩
                rw [← hn0, ← hn1, ← hn2]
                have HBL := Lib.hid (show bn g1 k = n0 + n1 + n2 by rw [hn0, hn1, hn2]; rfl)
                have HBQ := Lib.hid (show n0 ≤ 1000 ∧ n1 ≤ 1000 ∧ n2 ≤ 1000 by
                  have q1 := sl_len HI3.out HKP.out
                  rw [HE.out.2.1, HBL.out] at q1; omega)
                clear hb9 hvb hv0 hv1 hv2 hn0 hn1 hn2 HM3 HL3
                go_upto_region 54 with fail
                generalize hV : World.alloc wa _ = V
                obtain ⟨u0, hbv⟩ := Th.heapnewE hV
                obtain ⟨bb, hbb⟩ : ∃ bb, bb = wa.heap.size := ⟨_, rfl⟩
                rw [← hbb] at u0 ⊢
                have HM6 := Lib.hid (HM5.out.below hbv); have HL6 := Lib.hid (HL5.out.below hbv)
                have HU0 := Lib.hid u0
                clear hV u0 hbv hbb HM5 HL5
                go_upto_region 56 with fail
                obtain ⟨ph, ch, hve, _, _⟩ := ownA_slice (HL6.out.rw k HKP.out)
                have hh0 : V.cell? ⟨hb, k, none⟩ = some (v1 k) := HL6.out.gh HKP.out
                rw [hve] at hh0
                have y0 : ∀ x : Ext V, x.w.cell? ⟨bb, 0, none⟩ = some (.int .u64 (σ1.f (stI k 0))) := Ext.cells (Th.newcell HU0.out 0 _ rfl)
                have y1 : ∀ x : Ext V, x.w.cell? ⟨bb, 1, none⟩ = some (.slice p0 n0 k0) := Ext.cells (Th.newcell HU0.out 1 _ rfl)
                have y2 : ∀ x : Ext V, x.w.cell? ⟨bb, 2, none⟩ = some (.int .u64 (σ1.f (stI k 1))) := Ext.cells (Th.newcell HU0.out 2 _ rfl)
                have y3 : ∀ x : Ext V, x.w.cell? ⟨bb, 3, none⟩ = some (.slice p1 n1 k1) := Ext.cells (Th.newcell HU0.out 3 _ rfl)
                have y4 : ∀ x : Ext V, x.w.cell? ⟨bb, 4, none⟩ = some (.int .u64 (σ1.f (stI k 2))) := Ext.cells (Th.newcell HU0.out 4 _ rfl)
                have y5 : ∀ x : Ext V, x.w.cell? ⟨bb, 5, none⟩ = some (.slice p2 n2 k2) := Ext.cells (Th.newcell HU0.out 5 _ rfl)
                obtain ⟨E, hE⟩ : ∃ E, E = (g1.X (10 * k + 2)).length := ⟨_, rfl⟩
                rw [← hE] at hh0
                have x0 := Ext.cells hh0
                obtain ⟨S, hS⟩ : ∃ S, S = 5 + sumT (hold g1) k := ⟨_, rfl⟩
                have hS' : (5 : Int) + (sumT (hold g1) k : Nat) = (S : Nat) := by rw [hS]; push_cast; rfl
                rw [hS']
                clear hS'
                have hb1 : S ≤ 10000 := by have q1 := HSM.out; have q2 : k ≤ 6 := by omega
                                           rw [hS]; omega
                have hb2 : E ≤ 2000 := by have q1 := HEL3.out k HKP.out; rw [hE]; omega
                have hb3 : n0 + n1 + n2 ≤ 3000 := by have := HBQ.out; omega
                have HSS := Lib.hid (show S + E + (n0 + n1 + n2) = 5 + sumT (hold g1) (k + 1) by
                  rw [hS, hE, ← HBL.out, sumT]; unfold hold; omega)
                have HSN := Lib.hid (show sumT (hold g1) (k + 1) ≤ 1600 * (k + 1) by
                  rw [sumT]; have q1 := HBN.out k HKP.out; have q2 := HSM.out; omega)
                have w1' : IntKind.i64.wrap ((S : Int) + E) = S + E := by rw [IntKind.wrap_i64]; omega
                have w2' : IntKind.i64.wrap ((S : Int) + E + ((n0 + n1 + n2 : Nat) : Int)) = S + E + ((n0 + n1 + n2 : Nat) : Int) := by rw [IntKind.wrap_i64]; omega
                clear hve hS hE hh0
                (with_reducible refine wp_region_mix (fun w' => ∃ y : Ext V, w' = y.w) ?_ ?_ ?_ ?_; kernel_rfl; kernel_rfl; exact ⟨⟨V.drew, (Below.refl _ _).drew⟩, rfl⟩)
                repeat (first | ((with_reducible refine mix_plain (by kernel_rfl) ?_); (first | go_big_quiet_skip | (go_big_quiet_want; go_big_quiet_op; go_big_quiet_on)); (with_reducible refine mix_on ?_)) | ((with_reducible refine mix_skip (by kernel_rfl) ?_); go_big_quiet_skip; (with_reducible refine mix_on ?_)))
                ((with_reducible refine wpMix_chain (by kernel_rfl) (by kernel_rfl) (fun K HK => ?_)); go_step)
                refine (rmany19 _ _ _ _ _ _ _ _ _ _ _ _ _ HBQ.out).mono ?_; rintro _ wy ⟨rfl, hb9⟩
                have HBy := Lib.hid (below_on (Below.refl V.heap.size V).drew hb9)
                refine HK.out _ _ ⟨⟨wy, HBy.out⟩, rfl⟩ ?_
                clear HK K hb9
                repeat (first | ((with_reducible refine mix_plain (by kernel_rfl) ?_); (first | go_big_quiet_skip | (go_big_quiet_want; go_big_quiet_op; go_big_quiet_on)); (with_reducible refine mix_on ?_)) | ((with_reducible refine mix_skip (by kernel_rfl) ?_); go_big_quiet_skip; (with_reducible refine mix_on ?_)))
                refine wpMix_nil ?_
                have HM7 := Lib.hid (HM6.out.below HBy.out); have HL7 := Lib.hid (HL6.out.below HBy.out)
                clear x0 y0 y1 y2 y3 y4 y5 HM6 HL6 HBy w1' w2' hb1 hb2 hb3
                go_wp2_with fail
                go_roundw
                case rel => exact ⟨k + 1, by omega, by go_num, by have h9 := HSS.out; rw [← h9]; push_cast; rfl, HM7, HL7, HSN⟩
                case measure => simp [intOf]; omega
            · have heq := heq.symm
              subst heq
              have hjt : ¬ (t : Int) < t := by omega
              as_aux_lemma =>
                obtain ⟨tot, ht1⟩ : ∃ tot : Int, 5 + (sumT (hold g1) t : Int) = tot := ⟨_, rfl⟩
                have HTT := Lib.hid (show ((5 + sumT (hold g1) t : Nat) : Int) = tot by rw [← ht1]; push_cast; rfl)
                first | rw [HTT.out] | rw [ht1]
                clear ht1
                go_wp2_with fail
                clear o0
                have hcf := HM3.out.c
                rw [HI3.out.ok.1, HI3.out.ok.2.1, HI3.out.ok.2.2] at hcf
                refine (cFault hcf).mono ?_; rintro _ wc ⟨rfl, hb9⟩
                have HM7 := Lib.hid (HM3.out.below hb9); have HL7 := Lib.hid (HL3.out.below hb9)
                clear hb9 hcf HM3 HL3
                go_wp2_with fail
                refine (cGuard HM7.out.c).mono ?_; rintro _ _ ⟨rfl, rfl⟩
                go_wp2_with fail
                refine (Gd.gheld HM7.out.c.grd).mono ?_; rintro _ _ ⟨rfl, rfl⟩
                rw [HHR.out, HE.out.1, HTT.out]
                have hqq : (tot == tot) = true := by simp
                go_wp2_with fail
                refine (lwhole HM7.out HI3.out.lk HI3.out.len HI3.out.ne HI3.out.no (HI3.out.rest HZA.out)).mono ?_; rintro _ wd ⟨rfl, hb9⟩
                have HL8 := Lib.hid (HL7.out.below hb9)
                clear hb9 HM7 HL7 hqq
                go_wp2_with fail
                refine (lives19_calls _).mono ?_; rintro _ we ⟨rfl, hb9⟩
                have HB8 := Lib.hid (below_on HL8.out.bl hb9)
                clear hb9
                go_wp2_with fail
                (try go_ret)
                rw [HQ.out]
                exact ⟨rfl, HB8.out⟩
end Go.Proofs.Ytaaciolfgplnoaa.Lb
