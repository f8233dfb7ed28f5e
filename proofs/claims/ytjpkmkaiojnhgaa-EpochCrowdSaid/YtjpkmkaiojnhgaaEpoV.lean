/- Layer 18: the walk of EpochCrowd. -/
import Derived.Test.YtjpkmkaiojnhgaaEpoW
import Derived.Deep.CutRange
namespace Go.Proofs.Ytjpkmkaiojnhgaa
open Go.RowKit WordM EdgeM
set_option linter.unusedVariables false
set_option linter.unusedSimpArgs false
theorem updb_self (b : Nat → Bool) (k : Nat) (x : Bool) (h : b k = x) : updb b k x = b := by
  funext i; unfold updb
  by_cases e : i = k
  · rw [if_pos e, e, h]
  · rw [if_neg e]
theorem partE (t j : Nat) (h : j < t) : partF t 3 7 (aI j) = 0 := partF_a h
set_option maxRecDepth 16000 in
set_option maxHeartbeats 16000000 in
theorem epochCrowd_walk (v0 v1 : Value) (w : World) (s0 : Fr.ok1 w (.int .i64) v0) (s1 : Fr.ok1 w (.slice [.int .i64, .int .i64, .bool]) v1) :
    Calls Try.prog 5 #[v0, v1] w fun e w' => e = .returned (.bool true) ∧ Below w.heap.size w w' := by
  obtain ⟨T, rfl, _⟩ := Fr.get_int s0
  obtain ⟨pa, pn, pc, rfl, p1, p2, hp⟩ := des_open s1
  have HP := Lib.hid hp
  clear hp s1 s0
  cases hmay : mayC T 7 5 with
  | false => exact epochCrowd_no T _ w hmay
  | true =>
  have hm := mayC_true hmay
  obtain ⟨t, rfl⟩ : ∃ t : Nat, T = t := ⟨T.toNat, by omega⟩
  by_cases hpn : 1500 < pn
  · exact epochCrowd_big t pa pn pc w hmay hpn
  refine Calls.veil fun Q HQ => ?_
  have HM := Lib.hid hmay
  have t1 : 1 ≤ t := by omega
  have t6 : t ≤ 6 := by omega
  clear hmay hm
  go_enter Try.func5, Try.ntmps5
  go_wp2_with fail
  refine (cnewI (t := t) (s := 7) _ HM.out).mono ?_; rintro _ w2 ⟨q, pl, mb, mg, C, gq, gg, gm, fv, tq, rfl, hmi, hb, hin⟩
  have hm0 := MM.init hmi hin
  obtain ⟨P, hP⟩ : ∃ P : Pc, P = ⟨w.heap.size, q, pl, mb, mg, C, gq, gg, gm, fv, tq, t, 7, 5, w2.heap.size⟩ := ⟨_, rfl⟩
  rw [← hP] at hm0
  have eq1 : q = P.q := by rw [hP]
  have HE := Lib.hid (show P.t = t ∧ P.B = w.heap.size ∧ P.N = w2.heap.size from by rw [hP]; exact ⟨rfl, rfl, rfl⟩)
  rw [eq1]
  obtain ⟨σ0, hσ⟩ : ∃ σ0, σ0 = sgInit t 7 := ⟨_, rfl⟩
  rw [← hσ] at hm0
  have hz0 : ∀ j, j < P.t → σ0.f (aI j) = 0 := fun j hj => by rw [hσ]; exact partF_a (by rw [← HE.out.1]; exact hj)
  have HZ0 := Lib.hid hz0
  have HI2 := Lib.hid (show EC P σ0 3 (fun _ => 0) (fun _ => false) 0 from by
    refine ⟨by rw [hσ]; exact partF_1 t 3 7, by omega, fun j hj => .inl (hz0 j hj), fun j hj => .inl ⟨by rw [hσ]; rfl, by rw [hz0 j hj]; simp⟩, fun j hj => by rw [hσ]; rfl, fun j hj => by omega, by rw [hσ]; exact ⟨Int.le_refl _, Int.le_refl _, Int.le_refl _, Int.le_refl _⟩, by rw [hσ]; exact ⟨rfl, rfl, rfl⟩⟩)
  have HM2 := Lib.hid hm0; have HB2 := Lib.hid hb
  clear hmi hb hin hP eq1 hm0 hσ hz0
  have hp2 : ¬ (1500 : Int) < pn := by omega
  have HPN := Lib.hid hpn
  clear hpn
  have hms := run_about t (by omega)
  have hms2 := run_ins t (by omega)
  go_upto_region 8 with fail
  clear hms hms2
  generalize hV : World.alloc _ _ = V
  obtain ⟨u0, u1, hbv⟩ := heap2c hV
  obtain ⟨ib, hib⟩ : ∃ z, z = w2.heap.size + 1 := ⟨_, rfl⟩
  rw [← hib] at u1 ⊢
  obtain ⟨ab, hab⟩ : ∃ z, z = w2.heap.size := ⟨_, rfl⟩
  rw [← hab] at u0 ⊢
  have HA := Lib.hid (show Th.Blk 66 V ab (P.t * 2) (abF σ0.f fun _ => 0) from by rw [made_about t σ0.f (fun j hj => HZ0.out j (by rw [HE.out.1]; exact hj))] at u0; unfold Th.Blk; rw [HE.out.1]; exact u0)
  have HIB := Lib.hid (show Th.Blk 4 V ib P.t (fun _ => .bool false) from by rw [made_ins t] at u1; unfold Th.Blk; rw [HE.out.1]; exact u1)
  have HN := Lib.hid (show P.N ≤ ab ∧ P.N ≤ ib from by rw [HE.out.2.2]; omega)
  have HM3 := Lib.hid (HM2.out.below hbv); have HB3 := Lib.hid (below_on HB2.out hbv)
  have HNS := Lib.hid (show P.N ≤ V.heap.size ∧ P.B ≤ P.N from ⟨by rw [HE.out.2.2]; exact hbv.size, by rw [HE.out.2.1, HE.out.2.2]; exact HB2.out.size⟩)
  clear hV u0 u1 hbv hib hab HM2 HB2
  go_wp2_with fail
  refine (lnow HM3.out).mono ?_; rintro _ w4 ⟨sv, rfl, hsv, hb⟩
  rw [HI2.out.f1]
  have HM4 := Lib.hid (HM3.out.below hb); have HB4 := Lib.hid (below_on HB3.out hb)
  have HA4 := Lib.hid (HA.out.below hb); have HIB4 := Lib.hid (HIB.out.below hb)
  have HSV := Lib.hid (show Th.OwnL 27 w4 P.N sv P.t (nowL P.t σ0.f) from ⟨hsv.1, hsv.2.imp id fun ⟨g, cap, cur, h1, h2, h3⟩ => ⟨g, cap, cur, h1, Nat.le_trans HNS.out.1 h2, h3⟩⟩)
  have HS4 := Lib.hid hb.size
  obtain ⟨sg, sc, rfl, -, -, -⟩ := own_cells hsv (by rw [HE.out.1]; exact t1) HE.out.1
  clear hsv hb HM3 HB3 HA HIB
  go_upto_region 9 with fail
  generalize hV : World.alloc _ _ = V4
  obtain ⟨u0, hbv⟩ := Th.heapnewE hV
  obtain ⟨bw, hbw⟩ : ∃ z, z = w4.heap.size := ⟨_, rfl⟩
  rw [← hbw] at u0 ⊢
  have HM5 := Lib.hid (HM4.out.below hbv)
  have HL5 := Lib.hid (show LC w P ab ib bw V4 σ0.f (fun _ => 0) (fun _ => false) 3 σ0.f from ⟨HA4.out.below hbv, HIB4.out.below hbv, ⟨_, u0, Th.OwnL.below HSV.out hbv⟩, ⟨HN.out.1, HN.out.2, by have := HNS.out; have := HS4.out; omega⟩, below_on HB4.out hbv, by rw [HE.out.2.1]; exact Nat.le_refl _, ⟨by have := HNS.out; have := HS4.out; have := hbv.size; omega, HNS.out.2⟩⟩)
  clear hV u0 hbv hbw HM4 HB4 HA4 HIB4 HSV HNS HS4 HZ0 HN
  go_wp2_with fail
  go_loopw [10] (fun iv wr => ∃ i : Nat, i ≤ pn ∧ iv = .int .i64 i ∧ ∃ (σ : Sg) (e : Int) (G : Nat → Int) (b : Nat → Bool), Hid (MM wr P σ) ∧ Hid (EC P σ e G b i) ∧ Hid (LC w P ab ib bw wr σ.f G b e σ.f)) (fun iv _ => pn - (intOf iv).toNat)
  case atStart => exact ⟨0, Nat.zero_le _, rfl, σ0, 3, _, _, HM5, HI2, HL5⟩
  case round =>
    clear HM5 HI2 HL5 σ0
    obtain ⟨i, hi, rfl, σ, e, G, b, HM4, HI4, HL4⟩ := hrel
    rcases (by omega : i < pn ∨ i = pn) with hlt | heq
    · obtain ⟨pg, po, rfl, k, a, c0, hk⟩ := HP.out i hlt
      have HPK := Lib.hid hk
      have hpi : i ≤ 1500 := by have := HPN.out; omega
      have d0 : wr.cell? ⟨pg, po + i * 3, none⟩ = some (.int .i64 k) := Ext.use (Ext.cells hk.1) HL4.out.bl
      have hii : (i : Int) < pn := by omega
      clear hk
      go_wp2_with fail
      clear d0
      by_cases hkt : 0 ≤ k ∧ k < t
      · obtain ⟨k, rfl⟩ : ∃ j : Nat, k = j := ⟨k.toNat, by omega⟩
        have HK := Lib.hid (show k < P.t by rw [HE.out.1]; omega)
        clear hkt
        refine (cThread_yes HM4.out.c k HK.out).mono ?_; rintro _ wa ⟨rfl, hb⟩
        have HM5 := Lib.hid (HM4.out.below hb); have HL5 := Lib.hid (HL4.out.below hb)
        clear hb HM4 HL4
        go_wp2_with fail
        refine (mdepth HM5.out HK.out).mono ?_; rintro _ _ ⟨rfl, rfl⟩
        obtain ⟨nf, hnf⟩ : ∃ nf, (σ.Ts k).nf = nf := ⟨_, rfl⟩
        rw [hnf]
        have HNF := Lib.hid hnf
        clear hnf
        obtain ⟨z, hz⟩ : ∃ z : Bool, ((nf : Int) == 0) = z := ⟨_, rfl⟩
        have HZ := Lib.hid hz
        go_upto_if 67 with fail
        go_cut [13] from 66 to 223 (fun v13 wx => (∃ x, v13 = .int .i64 x) ∧ ∃ σ1 : Sg, Hid (MM wx P σ1) ∧ Hid (EC P σ1 e G b i) ∧ Hid ((σ1.Ts k).nf = 1) ∧ Hid (LC w P ab ib bw wx σ1.f G b e σ1.f))
        case first =>
          cases z with
          | false =>
            have h1 : (σ.Ts k).nf = 1 := by
              have h0 := HZ.out
              have h2 := HI4.out.th k HK.out
              unfold EW at h2
              rcases h2 with ⟨h2, _⟩ | ⟨h2, _⟩
              · have h3 := HNF.out
                rw [show nf = 0 by omega] at h0
                simp at h0
              · exact h2
            have HN6 := Lib.hid h1
            clear h1
            go_wp2_with fail
            go_meet
            case rel => exact ⟨⟨_, rfl⟩, σ, HM5, HI4, HN6, HL5⟩
          | true =>
            have h0 := HZ.out
            obtain rfl : nf = 0 := by simpa using h0
            clear h0
            have hkt : (k : Int) < t := by have := HK.out; rw [HE.out.1] at this; omega
            have d1 : wa.cell? ⟨pg, po + i * 3 + 1, none⟩ = some (.int .i64 a) := Ext.use (Ext.cells HPK.out.2.1) HL5.out.bl
            have hib : wa.cell? ⟨ib, k, none⟩ = some (.bool (b k)) := HL5.out.gi HK.out
            obtain ⟨bk, hbk⟩ : ∃ bk, b k = bk := ⟨_, rfl⟩
            rw [hbk] at hib
            have HBK := Lib.hid hbk
            clear hbk
            by_cases ha0 : a = 0
            · subst ha0
              cases bk with
              | false =>
                as_aux_lemma =>
                  go_wp2_with fail
                  clear d1 hib
                  refine (mcall (n := 0) (L := fun _ => 0) HM5.out HK.out 10 (Th.UR.nil _) (by rw [HNF.out]; omega)).mono ?_; rintro _ wb ⟨rfl, hm6, hk6⟩
                  obtain ⟨hi6, hn6, _⟩ := HI4.out.call HK.out HNF.out 10 (.inr (.inl ⟨rfl, HBK.out⟩))
                  have HM6 := Lib.hid hm6; have HL6 := Lib.hid (HL5.out.ka hk6); have HI6 := Lib.hid hi6; have HN6 := Lib.hid hn6
                  clear hm6 hk6 hi6 hn6 HM5 HL5 HI4
                  go_wp2_with fail
                  go_meet
                  case rel => exact ⟨⟨_, rfl⟩, _, HM6, HI6, HN6, HL6⟩
              | true =>
                as_aux_lemma =>
                  go_wp2_with fail
                  clear d1 hib
                  refine (mcall (n := 0) (L := fun _ => 0) HM5.out HK.out 12 (Th.UR.nil _) (by rw [HNF.out]; omega)).mono ?_; rintro _ wb ⟨rfl, hm6, hk6⟩
                  obtain ⟨hi6, hn6, _⟩ := HI4.out.call HK.out HNF.out 12 (.inl rfl)
                  have HM6 := Lib.hid hm6; have HL6 := Lib.hid (HL5.out.ka hk6); have HI6 := Lib.hid hi6; have HN6 := Lib.hid hn6
                  clear hm6 hk6 hi6 hn6 HM5 HL5 HI4
                  go_wp2_with fail
                  go_meet
                  case rel => exact ⟨⟨_, rfl⟩, _, HM6, HI6, HN6, HL6⟩
            by_cases ha1 : a = 1
            · subst ha1
              cases bk with
              | false =>
                as_aux_lemma =>
                  go_wp2_with fail
                  clear d1 hib
                  refine (mcall (n := 0) (L := fun _ => 0) HM5.out HK.out 12 (Th.UR.nil _) (by rw [HNF.out]; omega)).mono ?_; rintro _ wb ⟨rfl, hm6, hk6⟩
                  obtain ⟨hi6, hn6, _⟩ := HI4.out.call HK.out HNF.out 12 (.inl rfl)
                  have HM6 := Lib.hid hm6; have HL6 := Lib.hid (HL5.out.ka hk6); have HI6 := Lib.hid hi6; have HN6 := Lib.hid hn6
                  clear hm6 hk6 hi6 hn6 HM5 HL5 HI4
                  go_wp2_with fail
                  go_meet
                  case rel => exact ⟨⟨_, rfl⟩, _, HM6, HI6, HN6, HL6⟩
              | true =>
                as_aux_lemma =>
                  go_wp2_with fail
                  clear d1 hib
                  refine (mcall (n := 0) (L := fun _ => 0) HM5.out HK.out 11 (Th.UR.nil _) (by rw [HNF.out]; omega)).mono ?_; rintro _ wb ⟨rfl, hm6, hk6⟩
                  obtain ⟨hi6, hn6, _⟩ := HI4.out.call HK.out HNF.out 11 (.inr (.inr ⟨rfl, HBK.out⟩))
                  have HM6 := Lib.hid hm6; have HL6 := Lib.hid (HL5.out.ka hk6); have HI6 := Lib.hid hi6; have HN6 := Lib.hid hn6
                  clear hm6 hk6 hi6 hn6 HM5 HL5 HI4
                  go_wp2_with fail
                  go_meet
                  case rel => exact ⟨⟨_, rfl⟩, _, HM6, HI6, HN6, HL6⟩
            have ha2 : (a == 0) = false := by simpa using ha0
            have ha3 : (a == 1) = false := by simpa using ha1
            clear ha0 ha1
            as_aux_lemma =>
              go_wp2_with fail
              clear d1 hib ha2 ha3
              refine (mcall (n := 0) (L := fun _ => 0) HM5.out HK.out 12 (Th.UR.nil _) (by rw [HNF.out]; omega)).mono ?_; rintro _ wb ⟨rfl, hm6, hk6⟩
              obtain ⟨hi6, hn6, _⟩ := HI4.out.call HK.out HNF.out 12 (.inl rfl)
              have HM6 := Lib.hid hm6; have HL6 := Lib.hid (HL5.out.ka hk6); have HI6 := Lib.hid hi6; have HN6 := Lib.hid hn6
              clear hm6 hk6 hi6 hn6 HM5 HL5 HI4
              go_wp2_with fail
              go_meet
              case rel => exact ⟨⟨_, rfl⟩, _, HM6, HI6, HN6, HL6⟩
        case rest =>
        obtain ⟨⟨x13, rfl⟩, σ1, HM6, HI6, HN6, HL6⟩ := hcut
        clear HM5 HL5 HI4 HNF HZ hz
        go_wp2_with fail
        refine (mtop HM6.out HK.out HN6.out).mono ?_; rintro _ wb ⟨fb, rfl, hfb, hb⟩
        have HM7 := Lib.hid (HM6.out.below hb); have HL7 := Lib.hid (HL6.out.below hb)
        obtain ⟨fn, hfn⟩ : ∃ fn, ((σ1.Ts k).fs 0).fn = fn := ⟨_, rfl⟩
        rw [hfn] at hfb
        have HFN := Lib.hid hfn
        clear hb HM6 HL6 hfn
        go_wp2_with fail
        clear hfb
        refine (estep HM7.out HI6.out (by omega) HK.out HN6.out).mono ?_; rintro _ wc ⟨σ2, rfl, hm8, hk8, ho8, hot8⟩
        rw [HFN.out] at ho8
        have HM8 := Lib.hid hm8; have HL8 := Lib.hid (HL7.out.ka hk8); have HO8 := Lib.hid ho8
        clear hm8 hk8 ho8 hot8 HM7 HL7
        obtain ⟨lf, hlf⟩ : ∃ lf, decide (0 < (σ2.Ts k).nf) = lf := ⟨_, rfl⟩
        rw [hlf]
        have HLF := Lib.hid hlf
        clear hlf
        go_wp2_with fail
        refine (lnow HM8.out).mono ?_; rintro _ wd ⟨sv2, rfl, hsv, hb⟩
        obtain ⟨e2, he2⟩ : ∃ e2, σ2.f 1 = e2 := ⟨_, rfl⟩
        rw [he2]
        have HE2 := Lib.hid he2
        have HM9 := Lib.hid (HM8.out.below hb); have HL9 := Lib.hid (HL8.out.below hb)
        have HSV := Lib.hid (show Th.OwnL 27 wd P.N sv2 P.t (nowL P.t σ2.f) from ⟨hsv.1, hsv.2.imp id fun ⟨g, cap, cur, h1, h2, h3⟩ => ⟨g, cap, cur, h1, Nat.le_trans HL8.out.NS.1 h2, h3⟩⟩)
        obtain ⟨sg2, sc2, rfl, -, -, -⟩ := own_cells hsv (by rw [HE.out.1]; exact t1) HE.out.1
        clear hsv hb HM8 HL8 he2
        go_upto_region 26 with fail
        generalize hV : World.alloc _ _ = V
        obtain ⟨u0, hbv⟩ := Th.heapnewE hV
        obtain ⟨bi, hbi⟩ : ∃ z, z = wd.heap.size := ⟨_, rfl⟩
        rw [← hbi] at u0 ⊢
        have HMa := Lib.hid (HM9.out.below hbv); have HLa := Lib.hid (HL9.out.below hbv)
        have HIS := Lib.hid (show ISq V P bi e2 σ2.f sg2 t sc2 from ⟨u0, Th.OwnL.below HSV.out hbv⟩); have HSVI := Lib.hid (show Th.OwnL 27 V P.N (.slice (some ⟨sg2, 0, none⟩) t sc2) P.t (nowL P.t σ2.f) from Th.OwnL.below HSV.out hbv)
        clear hV hbv hbi HM9 HL9
        -- what holds of both
        obtain ⟨xo, hxo⟩ : ∃ x, σ1.f (aI k) = x := ⟨_, rfl⟩
        obtain ⟨xn, hxn⟩ : ∃ x, σ2.f (aI k) = x := ⟨_, rfl⟩
        have HXO := Lib.hid hxo; have HXN := Lib.hid hxn
        clear hxo hxn
        have hee : e ≤ e2 ∧ e2 ≤ e + 1 ∧ 3 ≤ e ∧ e ≤ 2000 := by
          have h1 := HI6.out.f1; have h3 := HI6.out.ei
          rcases HO8.out with ⟨_, h2, _⟩ | ⟨_, _, ⟨v, _, h2⟩, _⟩ | ⟨_, _, h2, _⟩ | ⟨_, _, h2, _⟩ | ⟨_, _, h2, _⟩ | ⟨_, _, h2, _⟩
          · have := HE2.out; rw [h2] at this; omega
          · have := HE2.out; rw [h2, upd_ne _ _ (Ne.symm (aI_1 k))] at this; omega
          · have := HE2.out; rw [h2] at this; omega
          · have := HE2.out; rw [h2, upd_ne _ _ (Ne.symm (aI_1 k))] at this; omega
          · have := HE2.out; rw [h2] at this; omega
          · have := HE2.out; rw [h2, upd_at] at this; omega
        have HEE := Lib.hid hee
        have q1 : ¬ e2 < e := by omega
        have q2 : ¬ e + 1 < e2 := by omega
        have q3 : decide (e2 < e) = false := decide_eq_false q1
        have q4 : decide (e + 1 < e2) = false := decide_eq_false q2
        have hw1 : IntKind.u64.wrap (e + 1) = e + 1 := by rw [IntKind.wrap_u64]; omega
        clear hee
        have y0 : V.cell? ⟨bi, 0, none⟩ = some (.int .u64 e2) := Th.newcell u0 0 _ rfl
        have y1 : V.cell? ⟨bi, 1, none⟩ = some (.slice (some ⟨sg2, 0, none⟩) t sc2) := Th.newcell u0 1 _ rfl
        have HYI := Lib.hid (And.intro y0 y1)
        have z0 := HLa.out.wg
        clear u0
        go_upto_region 28 with fail
        clear q1 q2 q3 q4 hw1 z0
        obtain ⟨svw, hxw, how⟩ := HLa.out.sv
        obtain ⟨gw, cw, rfl, _, _, hcw⟩ := own_cells how (by rw [HE.out.1]; exact t1) HE.out.1
        have z1 : V.cell? ⟨bw, 1, none⟩ = some (.slice (some ⟨gw, 0, none⟩) t cw) := Th.newcell hxw 1 _ rfl
        obtain ⟨gi, ci, hei, _, _, hci⟩ := own_cells HSVI.out (by rw [HE.out.1]; exact t1) HE.out.1
        simp only [Value.slice.injEq, Option.some.injEq, Addr.mk.injEq, true_and, and_true] at hei
        obtain ⟨rfl, rfl⟩ := hei
        have HKT := Lib.hid (show k < t by have := HK.out; rw [HE.out.1] at this; exact this)
        have z2 := hcw k HKT.out
        have y3 := hci k HKT.out
        rw [HXO.out] at z2
        rw [HXN.out] at y3
        have hkt : (k : Int) < t := by have := HKT.out; omega
        obtain ⟨ch, hch⟩ : ∃ ch, (xn != xo) = ch := ⟨_, rfl⟩
        have HCH := Lib.hid hch
        have HY3 := Lib.hid y3
        clear how hci hcw hxw
        go_quiet (fail)
        clear z1 z2 y0 y1 y3 hch
        have hbq : Below V.heap.size V (V.drewN nq) := below_drewN (Below.refl _ _) nq
        generalize V.drewN nq = U at hbq ⊢
        have HMb := Lib.hid (HMa.out.below hbq); have HLb := Lib.hid (HLa.out.below hbq); have HISb := Lib.hid (HIS.out.below hbq)
        have HSVb := Lib.hid (Th.OwnL.below HSVI.out hbq)
        have HYb := Lib.hid (show U.cell? ⟨bi, 0, none⟩ = some (.int .u64 e2) ∧ U.cell? ⟨bi, 1, none⟩ = some (.slice (some ⟨sg2, 0, none⟩) t sc2) from by
          obtain ⟨h1, h2⟩ := HYI.out
          exact ⟨Ext.use (Ext.cells h1) hbq, Ext.use (Ext.cells h2) hbq⟩)
        have HY3b := Lib.hid (Ext.use (Ext.cells HY3.out) hbq)
        clear hbq HMa HLa HIS HSVI HYI HY3
        have HSU := Lib.hid (HO8.out.sum HI6.out (show (σ2.f (aI k) != σ1.f (aI k)) = ch by rw [HXN.out, HXO.out]; exact HCH.out) HLF.out HE2.out)
        clear HO8
        have HBX := Lib.hid (show ch = false → LC w P ab ib bw U σ2.f G b e σ1.f from fun h => HLb.out.fc fun j => by
          by_cases e3 : j = k
          · have h1 := HCH.out
            rw [h, ← HXN.out, ← HXO.out] at h1
            rw [e3]; simpa using h1
          · exact HSU.out.1 j e3)
        go_upto_if 136 with fail
        go_cut [] from 126 to 223 (fun wx => Hid (MM wx P σ2) ∧ Hid (LC w P ab ib bw wx σ2.f (if ch = true then Mm.upd G k e2 else G) b e σ1.f) ∧ Hid (ISq wx P bi e2 σ2.f sg2 t sc2))
        case first =>
          cases ch with
          | false =>
            go_wp2_with fail
            go_meet
            case rel => exact ⟨HMb, Lib.hid (by simpa using HBX.out (by first | rfl | trivial)), HISb⟩
          | true =>
            as_aux_lemma =>
              have hkt : (k : Int) < t := by have := HKT.out; omega
              obtain ⟨g0, g1⟩ := HLb.out.ga HK.out
              have gf : ∀ i, U.frozen? ⟨ab, i, none⟩ = false := HLb.out.ea.fr
              have y0 := HYb.out.1; have y1 := HYb.out.2; have y3 := HY3b.out
              go_upto_region 29 with fail
              go_still_tail 12, (by kernel_rfl)
              go_wp2_with fail
              clear y0 y1 y3 g0 g1 gf hkt
              generalize hW : World.drew (World.setCell _ _ _) = W1
              obtain ⟨hl1, ks1⟩ : LC w P ab ib bw W1 σ2.f (Mm.upd G k e2) b e σ1.f ∧ Th.KS (fun j => j = ab) U W1 := by
                have hh := HLb.out.seta HK.out (xn != 0) e2 (f' := σ2.f) (G' := Mm.upd G k e2) (by rw [HXN.out]) (upd_at _ _ _) HSU.out.1 (fun j hj => upd_ne _ _ hj)
                rw [← hW]
                exact ⟨hh.1.below (Below.refl _ _).drew, hh.2.trans (.of_below (Below.refl _ _).drew)⟩
              have hea := HLb.out.ea
              have HM1 := Lib.hid (HMb.out.other hea HLb.out.N.1 (by decide) (by decide) (by decide) (by decide) ks1)
              have HIS1 := Lib.hid (IS.put HISb.out hea (by decide) (by decide) ks1)
              have HL1 := Lib.hid hl1
              clear hW ks1 hea hl1
              go_meet
              case rel => exact ⟨HM1, Lib.hid (by simpa using HL1.out), HIS1⟩
        case rest =>
        obtain ⟨HMc, HLc, HISc⟩ := hcut
        obtain ⟨G1, hG1⟩ : ∃ G1, G1 = (if ch = true then Mm.upd G k e2 else G) := ⟨_, rfl⟩
        obtain ⟨b1, hb1⟩ : ∃ b1, b1 = (if lf = false ∧ fn = 10 then updb b k true else b) := ⟨_, rfl⟩
        obtain ⟨b2, hb2⟩ : ∃ b2, b2 = (if lf = false ∧ fn = 10 then updb b k true else if lf = false ∧ fn = 11 then updb b k false else b) := ⟨_, rfl⟩
        have HEC := Lib.hid (show EC P σ2 e2 G1 b2 (i + 1) from by rw [hG1, hb2]; exact HSU.out.2.2.1)
        rw [← hG1] at HLc
        have HG1 := Lib.hid hG1; have HB1 := Lib.hid hb1; have HB2 := Lib.hid hb2
        clear hG1 hb1 hb2 HMb HLb HISb HY3b HBX
        go_upto_region 30 with fail
        go_cut [154] from 137 to 223 (fun c wx => c = .bool (!lf && decide (fn = 10)) ∧ wx = wc)
        case first =>
          cases lf with
          | true =>
            go_wp2_with fail
            go_meet
            case rel => exact ⟨by simp, rfl⟩
          | false =>
            by_cases h10 : fn = 10
            · have h10b : (fn == 10) = true := by simpa using h10
              have H10 := Lib.hid h10
              clear h10
              go_wp2_with fail
              go_meet
              case rel => exact ⟨by rw [H10.out]; rfl, rfl⟩
            · have h10b : (fn == 10) = false := by simpa using h10
              have H10 := Lib.hid h10
              clear h10
              go_wp2_with fail
              go_meet
              case rel => exact ⟨by simp [H10.out], rfl⟩
        case rest =>
        obtain ⟨rfl, hwx⟩ := hcut
        subst hwx
        go_upto_if 154 with fail
        go_cut [16] from 137 to 223 (fun v16 wx => Hid (MM wx P σ2) ∧ Hid (LC w P ab ib bw wx σ2.f G1 b1 e σ1.f) ∧ Hid (ISq wx P bi e2 σ2.f sg2 t sc2))
        case first =>
          as_aux_lemma =>
            cases hen : (!lf && decide (fn = 10)) with
            | false =>
              go_wp2_with fail
              go_meet
              case rel => exact ⟨HMc, Lib.hid (by rw [HB1.out, if_neg (by intro h; rw [h.1, h.2] at hen; simp at hen)]; exact HLc.out), HISc⟩
            | true =>
              have hlf : lf = false := by cases lf; rfl; simp at hen
              have hf10 : fn = 10 := by rw [hlf] at hen; simpa using hen
              obtain ⟨h1, h2, h3, h4⟩ := HSU.out.2.2.2.1 hlf hf10
              have HXX := Lib.hid (show (xn != 0) = true from by rw [← HXN.out]; exact h2)
              have HS3 := Lib.hid h3
              have HPE0 := Lib.hid (show e2 = G1 k ∨ e2 = G1 k + 1 from by rw [HG1.out, h1]; simpa using h4)
              have HBE := Lib.hid (show b1 = updb b k true from by rw [HB1.out, if_pos ⟨hlf, hf10⟩])
              clear h1 h2 h3 h4 hlf hf10
              have hkt : (k : Int) < t := by have := HKT.out; omega
              have zi := HLc.out.gi HK.out
              have zf : ∀ i, wc.frozen? ⟨ib, i, none⟩ = false := HLc.out.ei.fr
              go_upto_region 32 with fail
              clear zi zf hkt
              generalize hW : World.setCell _ _ _ = W2
              obtain ⟨hl1, ks1⟩ : LC w P ab ib bw W2 σ2.f G1 (updb b k true) e σ1.f ∧ Th.KS (fun j => j = ib) wc W2 := by rw [← hW]; exact HLc.out.seti HK.out true
              have hea := HLc.out.ei
              have HM2 := Lib.hid (HMc.out.other hea HLc.out.N.2.1 (by decide) (by decide) (by decide) (by decide) ks1)
              have HL2 := Lib.hid hl1
              have HIS2 := Lib.hid (IS.put HISc.out hea (by decide) (by decide) ks1)
              clear hW hl1 ks1 hea
              have g0 := (HL2.out.ga HK.out).1
              have hkt : (k : Int) < t := by have := HKT.out; omega
              have h3e := HEE.out.2.2.1
              rcases HPE0.out with pe | pe
              · have HPE := Lib.hid pe
                clear pe
                have x15 := HM2.out.ss HK.out (i := 3) (by omega)
                rw [HS3.out] at x15
                rw [HXN.out, HXX.out] at g0
                have g1 := (HL2.out.ga HK.out).2
                rw [show G1 k = e2 from by have := HPE.out; omega] at g1
                have q1 : (e2 - 1 != e2) = true := by simp; omega
                have hw1 : IntKind.u64.wrap (e2 - 1 + 1) = e2 := by rw [IntKind.wrap_u64]; have := HEE.out; omega
                have hw2 : IntKind.u64.wrap e2 = e2 := by rw [IntKind.wrap_u64]; have := HEE.out; omega
                have q2 : (e2 != e2) = false := by simp
                go_wp2_with fail
                clear g0 g1 x15 hkt q1 q2 hw1 hw2 h3e
                go_meet
                case rel => exact ⟨HM2, Lib.hid (by rw [HBE.out]; exact HL2.out), HIS2⟩
              · have HPE := Lib.hid pe
                clear pe
                have x15 := HM2.out.ss HK.out (i := 3) (by omega)
                rw [HS3.out] at x15
                rw [HXN.out, HXX.out] at g0
                have g1 := (HL2.out.ga HK.out).2
                rw [show G1 k = e2 - 1 from by have := HPE.out; omega] at g1
                have q2 : (e2 - 1 != e2 - 1) = false := by simp
                go_wp2_with fail
                clear g0 g1 x15 hkt q2 h3e
                go_meet
                case rel => exact ⟨HM2, Lib.hid (by rw [HBE.out]; exact HL2.out), HIS2⟩
        case rest =>
        obtain ⟨HMd, HLd, HISd⟩ := hcut
        clear HMc HLc HISc
        go_upto_region 35 with fail
        go_cut [193] from 137 to 223 (fun c wx => c = .bool (!lf && decide (fn = 11)) ∧ wx = wc)
        case first =>
          cases lf with
          | true =>
            go_wp2_with fail
            go_meet
            case rel => exact ⟨by simp, rfl⟩
          | false =>
            by_cases h10 : fn = 11
            · have h10b : (fn == 11) = true := by simpa using h10
              have H10 := Lib.hid h10
              clear h10
              go_wp2_with fail
              go_meet
              case rel => exact ⟨by rw [H10.out]; rfl, rfl⟩
            · have h10b : (fn == 11) = false := by simpa using h10
              have H10 := Lib.hid h10
              clear h10
              go_wp2_with fail
              go_meet
              case rel => exact ⟨by simp [H10.out], rfl⟩
        case rest =>
        obtain ⟨rfl, hwx⟩ := hcut
        subst hwx
        go_upto_if 193 with fail
        go_cut [] from 137 to 223 (fun wx => Hid (MM wx P σ2) ∧ Hid (LC w P ab ib bw wx σ2.f G1 b2 e σ1.f) ∧ Hid (ISq wx P bi e2 σ2.f sg2 t sc2))
        case first =>
          as_aux_lemma =>
            cases hen : (!lf && decide (fn = 11)) with
            | false =>
              go_wp2_with fail
              go_meet
              case rel => exact ⟨HMd, Lib.hid (by
                have h9 : b2 = b1 := by
                  rw [HB2.out, HB1.out]
                  by_cases h8 : lf = false ∧ fn = 10
                  · rw [if_pos h8, if_pos h8]
                  · rw [if_neg h8, if_neg h8, if_neg (by intro h; rw [h.1, h.2] at hen; simp at hen)]
                rw [h9]; exact HLd.out), HISd⟩
            | true =>
              have hlf : lf = false := by cases lf; rfl; simp at hen
              have hf11 : fn = 11 := by rw [hlf] at hen; simpa using hen
              have HXX := Lib.hid (show (xn != 0) = false from by rw [← HXN.out]; exact HSU.out.2.2.2.2 hlf hf11)
              have HBE := Lib.hid (show b2 = updb b1 k false from by simp [HB2.out, HB1.out, hlf, hf11])
              clear hlf hf11
              have hkt : (k : Int) < t := by have := HKT.out; omega
              have zi := HLd.out.gi HK.out
              have zf : ∀ i, wc.frozen? ⟨ib, i, none⟩ = false := HLd.out.ei.fr
              go_upto_region 37 with fail
              clear zi zf hkt
              generalize hW : World.setCell _ _ _ = W2
              obtain ⟨hl1, ks1⟩ : LC w P ab ib bw W2 σ2.f G1 (updb b1 k false) e σ1.f ∧ Th.KS (fun j => j = ib) wc W2 := by rw [← hW]; exact HLd.out.seti HK.out false
              have hea := HLd.out.ei
              have HM2 := Lib.hid (HMd.out.other hea HLd.out.N.2.1 (by decide) (by decide) (by decide) (by decide) ks1)
              have HL2 := Lib.hid hl1
              have HIS2 := Lib.hid (IS.put HISd.out hea (by decide) (by decide) ks1)
              clear hW hl1 ks1 hea
              have g0 := (HL2.out.ga HK.out).1
              have hkt : (k : Int) < t := by have := HKT.out; omega
              rw [HXN.out, HXX.out] at g0
              go_wp2_with fail
              clear g0 hkt
              go_meet
              case rel => exact ⟨HM2, Lib.hid (by rw [HBE.out]; exact HL2.out), HIS2⟩
        case rest =>
        obtain ⟨HMt, HLt, HISt⟩ := hcut
        clear HMd HLd HISd
        obtain ⟨U5, hU5⟩ : ∃ U5, U5 = wc := ⟨_, rfl⟩
        rw [← hU5] at HMt HLt HISt ⊢
        have HIt := HEC
        have HYt := Lib.hid HISt.out.cells; have HSVt := Lib.hid HISt.out.2
        clear hU5 HSU
        as_aux_lemma =>
          go_wp2_with fail
          go_loopw [17] (fun kv wr => ∃ j : Nat, j ≤ t ∧ kv = .int .i64 j ∧ Hid (Below U5.heap.size U5 wr)) (fun kv _ => t - (intOf kv).toNat)
          case atStart => exact ⟨0, Nat.zero_le _, rfl, Lib.hid (Below.refl _ _)⟩
          case round =>
            obtain ⟨j, hj, rfl, HBJ⟩ := hrel
            rcases (by omega : j < t ∨ j = t) with hjl | hje
            · have hjt : (j : Int) < t := by omega
              have HJ := Lib.hid (show j < P.t by rw [HE.out.1]; exact hjl)
              obtain ⟨g0, g1⟩ := (HLt.out.below HBJ.out).ga HJ.out
              have y0 := Ext.use (Ext.cells HYt.out.1) HBJ.out
              have hgn := HIt.out.gn j HJ.out
              obtain ⟨gj, hgj⟩ : ∃ gj, G1 j = gj := ⟨_, rfl⟩
              rw [hgj] at g1 hgn
              obtain ⟨is, his⟩ : ∃ is, (σ2.f (aI j) != 0) = is := ⟨_, rfl⟩
              rw [his] at g0
              have HGJ := Lib.hid hgj; have HISJ := Lib.hid his
              clear hgj his
              cases is with
              | false =>
                clear hgn
                go_upto_region 42 with fail
                go_quiet (fail)
                clear g0 g1 y0
                go_wp2_with fail
                go_roundw
                case rel => exact ⟨j + 1, by omega, by go_num, Lib.hid (below_drewN HBJ.out nq)⟩
                case measure => simp [intOf]; omega
              | true =>
                have hle : e2 ≤ gj + 1 := by
                  rcases HIt.out.ab j HJ.out with h1 | ⟨x, h1, h2, h3, h4, h5⟩
                  · have h2 := HISJ.out; rw [h1] at h2; simp at h2
                  · have := HGJ.out; omega
                have q1 : ¬ gj + 1 < e2 := by omega
                have q2 : decide (gj + 1 < e2) = false := decide_eq_false q1
                have hw1 : IntKind.u64.wrap (gj + 1) = gj + 1 := by rw [IntKind.wrap_u64]; omega
                clear hgn hle
                go_upto_region 42 with fail
                go_quiet (fail)
                clear g0 g1 y0 q1 q2 hw1
                go_wp2_with fail
                go_roundw
                case rel => exact ⟨j + 1, by omega, by go_num, Lib.hid (below_drewN HBJ.out nq)⟩
                case measure => simp [intOf]; omega
            · have hje := hje.symm
              subst hje
              have hjt : ¬ (t : Int) < t := by omega
              have HMw := Lib.hid (HMt.out.below HBJ.out); have HLw := Lib.hid (HLt.out.below HBJ.out)
              have HSVw := Lib.hid (Th.OwnL.below HSVt.out HBJ.out)
              have y0 := Ext.use (Ext.cells HYt.out.1) HBJ.out
              have y1 := Ext.use (Ext.cells HYt.out.2) HBJ.out
              have zf : ∀ i, wr.frozen? ⟨bw, i, none⟩ = false := HLw.out.wz
              obtain ⟨svq, hxq, how⟩ := HLw.out.sv
              obtain ⟨gw, cw, rfl, -, -, -⟩ := own_cells how (by rw [HE.out.1]; exact t1) HE.out.1
              have HXQ := Lib.hid hxq
              have z0 := Th.newcell hxq 0 _ rfl; have z1 : wr.cell? ⟨bw, 1, none⟩ = some (.slice (some ⟨gw, 0, none⟩) t cw) := Th.newcell hxq 1 _ rfl
              clear hxq how
              go_wp2_with fail
              clear y0 y1 zf z0 z1
              generalize hW : World.setCell _ _ _ = W
              obtain ⟨hlw, ksw⟩ : LC w P ab ib bw W σ2.f G1 b2 e2 σ2.f ∧ Th.KS (fun j => j = bw) wr W := by rw [← hW]; exact HLw.out.setw HSVw.out
              have HMW := Lib.hid (HMw.out.other HXQ.out HLw.out.N.2.2 (by decide) (by decide) (by decide) (by decide) ksw)
              have HLW := Lib.hid hlw
              clear hW hlw ksw HXQ HMw HLw HSVw
              go_roundw
              case rel => exact ⟨i + 1, by omega, by go_num, σ2, e2, G1, b2, HMW, HIt, HLW⟩
              case measure => simp [intOf]; omega
      · refine (cThread_no HM4.out.c k (by rw [HE.out.1]; exact hkt)).mono ?_; rintro _ wa ⟨rfl, hb⟩
        have HM5 := Lib.hid (HM4.out.below hb); have HL5 := Lib.hid (HL4.out.below hb)
        clear hb HM4 HL4
        go_wp2_with fail
        go_roundw
        case rel => exact ⟨i + 1, by omega, by go_num, σ, e, G, b, HM5, Lib.hid (HI4.out.le (by omega)), HL5⟩
        case measure => simp [intOf]; omega
    · have heq := heq.symm
      subst heq
      have hii : ¬ (pn : Int) < pn := by omega
      as_aux_lemma =>
        have hpi : pn ≤ 1500 := by have := HPN.out; omega
        have hT9 : P.t + 9 = t + 9 := by rw [HE.out.1]
        have HT9 := Lib.hid hT9
        have hcf := HM4.out.c
        rw [HI4.out.ok.1, HI4.out.ok.2.1, HI4.out.ok.2.2] at hcf
        have HCF := Lib.hid hcf
        clear hcf hT9
        go_wp2_with fail
        refine (cFault HCF.out).mono ?_; rintro _ wa ⟨rfl, hb⟩
        have HM5 := Lib.hid (HM4.out.below hb); have HB5 := Lib.hid (HL4.out.below hb)
        clear hb HCF HM4 HL4
        go_wp2_with fail
        (try rw [show (t : Int) + 9 = ((t + 9 : Nat) : Int) from by omega])
        rw [← HT9.out]
        have HMUL := Lib.hid (show P.t * (P.t + 9) ≤ 90 from by
          have h6 : P.t ≤ 6 := by rw [HE.out.1]; exact t6
          exact Nat.le_trans (Nat.mul_le_mul h6 (show P.t + 9 ≤ 15 by omega)) (by decide))
        refine (mends (n0 := pn) (most := P.t + 9) (J := JE P) (rk := rkJ P) (caps := #[]) HM5.out ⟨_, _, _, HI4.out⟩ (by have := HE.out.1; omega) (fun σ n hj => hj.rk (by rw [HE.out.1]; exact t1)) (fun w' σ n k hm hj hn hk h0 => jstep hm hj (by have := HMUL.out; omega) hk h0)).mono ?_
        rintro _ wb ⟨σ2, n2, rfl, hm6, hk6, ⟨e2, G2, b2, hi6⟩, hn6, hz6⟩
        have HM6 := Lib.hid hm6; have HB6 := Lib.hid (HB5.out.ka hk6); have HI6 := Lib.hid hi6
        clear hm6 hk6 hi6 hn6 hz6 HM5 HB5
        go_wp2_with fail
        have hcf := HM6.out.c
        rw [HI6.out.ok.1, HI6.out.ok.2.1, HI6.out.ok.2.2] at hcf
        refine (cFault hcf).mono ?_; rintro _ wc ⟨rfl, hb⟩
        have HB7 := Lib.hid (HB6.out.below hb)
        clear hb hcf
        go_wp2_with fail
        refine (lives18_calls _).mono ?_; rintro _ wd ⟨rfl, hb⟩
        have HB8 := Lib.hid (below_on HB7.out.bl hb)
        clear hb
        go_wp2_with fail
        (try go_ret)
        rw [HQ.out]
        exact ⟨rfl, HB8.out⟩
end Go.Proofs.Ytjpkmkaiojnhgaa
