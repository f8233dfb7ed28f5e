/- CrV: several texts in one. -/
import Derived.Test.YtlahpnigabfenaaCrB
import Derived.Deep.CutRange
/- Layer 17: the walk of SlotsCrowd. -/
namespace Go.Proofs.Ytlahpnigabfenaa.Sl
open Go.RowKit WordM EdgeM
set_option linter.unusedVariables false
set_option linter.unusedSimpArgs false
set_option maxRecDepth 16000 in
set_option maxHeartbeats 16000000 in
theorem slotsCrowd_walk (v0 v1 : Value) (w : World) (s0 : Fr.okN w [.int .i64, .int .i64, .int .u64] v0) (s1 : Fr.ok1 w (.slice [.int .i64, .int .i64]) v1) :
    Calls Try.prog 4 #[v0, v1] w fun e w' => e = .returned (.bool true) ∧ Below w.heap.size w w' := by
  obtain ⟨cs, rfl, h⟩ := s0
  obtain ⟨_, _, rfl, k0, h⟩ := Fr.get_cons h
  obtain ⟨_, _, rfl, k1, h⟩ := Fr.get_cons h
  obtain ⟨_, _, rfl, k2, h⟩ := Fr.get_cons h
  obtain rfl := Fr.get_nil h
  obtain ⟨T, rfl, _⟩ := Fr.get_int k0
  obtain ⟨S, rfl, _⟩ := Fr.get_int k1
  obtain ⟨Kc, rfl, _⟩ := Fr.get_int k2
  obtain ⟨pa, pn, pc, rfl, p1, p2, hp⟩ := d2_open s1
  clear k0 k1 k2 h s1
  show Calls Try.prog _ #[.agg #[.int .i64 T, .int .i64 S, .int .u64 Kc], _] w _
  cases hmay : mayC T S Kc with
  | false => exact slotsCrowd_no T S Kc _ w hmay
  | true =>
  by_cases hpn : 600 < pn
  · exact slotsCrowd_big T S Kc pa pn pc w hmay hpn
  have HP := Lib.hid hp
  clear hp
  refine Calls.veil fun Q HQ => ?_
  have hm := mayC_true hmay
  obtain ⟨t, rfl⟩ : ∃ t : Nat, T = t := ⟨T.toNat, by omega⟩
  obtain ⟨s, rfl⟩ : ∃ s : Nat, S = s := ⟨S.toNat, by omega⟩
  have HM := Lib.hid hmay
  have t1 : 1 ≤ t := by omega
  have t6 : t ≤ 6 := by omega
  have s1 : 7 ≤ s := by omega
  have s2 : s ≤ 250 := by omega
  clear hmay hm
  go_enter Try.func4, Try.ntmps4
  go_upto_region 1 with fail
  generalize hV : World.alloc _ _ = U
  obtain ⟨u0, hbu⟩ := Th.heapnewE hV
  obtain ⟨cb, hcb⟩ : ∃ cb, cb = w.heap.size := ⟨_, rfl⟩
  rw [← hcb] at u0 ⊢
  have HC := Lib.hid u0; have HBU := Lib.hid hbu
  clear hV u0 hbu hcb
  have o0 := Th.newcell HC.out 0 _ rfl; have o1 := Th.newcell HC.out 1 _ rfl; have o2 := Th.newcell HC.out 2 _ rfl
  go_wp2_with fail
  refine (rmay_calls t s Kc _).mono ?_; rintro _ w1 ⟨rfl, hb⟩
  have HC1 := Lib.hid (Th.up hb HC.out)
  have HB1 := Lib.hid (below_on HBU.out hb)
  clear hb HC HBU o0 o1 o2
  rw [HM.out]
  have hp2 : ¬ (600 : Int) < pn := by omega
  have HPN := Lib.hid hpn
  have o0 := Th.newcell HC1.out 0 _ rfl; have o1 := Th.newcell HC1.out 1 _ rfl; have o2 := Th.newcell HC1.out 2 _ rfl
  clear hpn
  go_wp2_with fail
  refine (cnewI (t := t) (s := s) _ HM.out).mono ?_; rintro _ w2 ⟨q, pl, mb, mg, C, gq, gg, gm, fv, tq, rfl, hmi, hb, hin⟩
  have hm0 := MM.init hmi hin
  obtain ⟨P, hP⟩ : ∃ P : Pc, P = ⟨w1.heap.size, q, pl, mb, mg, C, gq, gg, gm, fv, tq, t, s, Kc, w2.heap.size⟩ := ⟨_, rfl⟩
  rw [← hP] at hm0
  have eq1 : q = P.q := by rw [hP]
  have HE := Lib.hid (show P.t = t ∧ P.s = s ∧ P.B = w1.heap.size ∧ P.N = w2.heap.size ∧ P.K = Kc from by rw [hP]; exact ⟨rfl, rfl, rfl, rfl, rfl⟩)
  rw [eq1]
  obtain ⟨σ0, hσ⟩ : ∃ σ0, σ0 = sgInit t s := ⟨_, rfl⟩
  rw [← hσ] at hm0
  have HI2 := Lib.hid (show CS P σ0 (frees s) (fun a => if a ≤ 5 then 1 else 0) (fun _ => []) 0 from by rw [hσ]; exact CS.init P HE.out.1 HE.out.2.1 s1 s2)
  have HM2 := Lib.hid hm0
  have HC2 := Lib.hid (Th.up hb HC1.out); have HB2 := Lib.hid (below_on HB1.out hb)
  have HBN := Lib.hid (show cb < w1.heap.size ∧ w1.heap.size ≤ w2.heap.size ∧ w.heap.size ≤ w1.heap.size from ⟨Th.blk_lt HC1.out, hb.size, HB1.out.size⟩)
  clear hmi hb hin hP eq1 hm0 o0 o1 o2 HC1 hσ
  have o0 := Th.newcell HC2.out 0 _ rfl; have o1 := Th.newcell HC2.out 1 _ rfl; have o2 := Th.newcell HC2.out 2 _ rfl
  have hms := run_hands t (by omega)
  go_upto_region 7 with fail
  clear hms o0 o1 o2
  generalize hV : World.alloc _ _ = V1
  obtain ⟨u0, hbv1⟩ := Th.heapnewE hV
  obtain ⟨hb, hhb⟩ : ∃ z, z = w2.heap.size := ⟨_, rfl⟩
  rw [← hhb] at u0 ⊢
  have HV1 := Lib.hid (Th.up hbv1 HC2.out)
  clear hV
  have o0 := Th.newcell HV1.out 0 _ rfl; have o1 := Th.newcell HV1.out 1 _ rfl; have o2 := Th.newcell HV1.out 2 _ rfl
  have hms2 := run_empt t (by omega)
  go_upto_region 8 with fail
  clear hms2 o0 o1 o2
  generalize hV : World.alloc _ _ = V
  obtain ⟨u1, hbv2⟩ := Th.heapnewE hV
  obtain ⟨eb, heb⟩ : ∃ z, z = V1.heap.size := ⟨_, rfl⟩
  rw [← heb] at u1 ⊢
  have hbv := below_on hbv1 hbv2
  have hebs : hb < eb := by rw [heb]; exact Th.blk_lt u0
  have u0 := Th.up hbv2 u0
  have HM5 := Lib.hid (HM2.out.below hbv)
  have HL5 := Lib.hid (show LH w P cb hb eb V (fun _ => .slice none 0 0) (fun _ => []) (fun _ => false) from by
    have hB := HBN.out
    refine ⟨?_, ?_, fun j _ => own_nil _ _, fun i j _ _ _ b e => by simp [Value.ownBlock] at e, ?_, ?_, below_on HB2.out hbv, ?_, ?_⟩
    · rw [HE.out.1, HE.out.2.1, HE.out.2.2.2.2]; exact Th.up hbv HC2.out
    · rw [made_c] at u0; unfold Th.Blk; rw [HE.out.1]; exact u0
    · rw [made_c] at u1; unfold Th.Blk; rw [HE.out.1]; exact u1
    · rw [HE.out.2.2.1, HE.out.2.2.2.1]; omega
    · rw [HE.out.2.2.1]; omega
    · rw [HE.out.2.2.1, HE.out.2.2.2.1]; exact ⟨hbv.size, by omega⟩)
  clear hV u0 u1 hbv hbv1 hbv2 hebs heb hhb HV1 HM2 HB2 HC2 HBN
  go_wp2_with fail
  go_loopw [9] (fun iv wr => ∃ i : Nat, i ≤ pn ∧ iv = .int .i64 i ∧ ∃ (σ : Sg) (L : List Nat) (O : Nat → Nat) (E : Nat → List Int) (v : Nat → Value) (em : Nat → Bool), Hid (MM wr P σ) ∧ Hid (CS P σ L O E i) ∧ Hid (LH w P cb hb eb wr v E em) ∧ Hid (∀ j, j < P.t → (E j).length ≤ i)) (fun iv _ => pn - (intOf iv).toNat)
  case atStart => exact ⟨0, Nat.zero_le _, rfl, σ0, _, _, _, _, _, HM5, HI2, HL5, Lib.hid (fun j _ => Nat.zero_le _)⟩
  case round =>
    clear HM5 HI2 HL5 σ0
    obtain ⟨i, hi, rfl, σ, L, O, E, v, em, HM4, HI4, HL4, HEL⟩ := hrel
    rcases (by omega : i < pn ∨ i = pn) with hlt | heq
    · obtain ⟨pg, po, rfl, k, x, hk⟩ := HP.out i hlt
      have hpi : i ≤ 600 := by have := HPN.out; omega
      have d0 : wr.cell? ⟨pg, po + i * 2, none⟩ = some (.int .i64 k) := Ext.use (Ext.cells hk.1) HL4.out.bl
      have d1 : wr.cell? ⟨pg, po + i * 2 + 1, none⟩ = some (.int .i64 x) := Ext.use (Ext.cells hk.2) HL4.out.bl
      have hii : (i : Int) < pn := by omega
      clear hk
      go_upto_region 11 with fail
      go_quiet (fail)
      clear d0 d1
      have hbq : Below wr.heap.size wr (wr.drewN nq) := below_drewN (Below.refl _ _) nq
      generalize wr.drewN nq = U0 at hbq ⊢
      have HM5 := Lib.hid (HM4.out.below hbq); have HL5 := Lib.hid (HL4.out.below hbq)
      clear hbq HM4 HL4
      go_wp2_with fail
      by_cases hkt : 0 ≤ k ∧ k < t
      · obtain ⟨k, rfl⟩ : ∃ j : Nat, k = j := ⟨k.toNat, by omega⟩
        have HK := Lib.hid (show k < P.t by rw [HE.out.1]; omega)
        have HKT := Lib.hid (show k < t by omega)
        clear hkt
        refine (cThread_yes HM5.out.c k HK.out).mono ?_; rintro _ wa ⟨rfl, hb9⟩
        have HM6 := Lib.hid (HM5.out.below hb9); have HL6 := Lib.hid (HL5.out.below hb9)
        clear hb9 HM5 HL5
        go_wp2_with fail
        refine (mdepth HM6.out HK.out).mono ?_; rintro _ _ ⟨rfl, rfl⟩
        as_aux_lemma =>
          obtain ⟨nf, hnf⟩ : ∃ nf, (σ.Ts k).nf = nf := ⟨_, rfl⟩
          rw [hnf]
          by_cases hcon : nf = 0 ∧ ((E k).length : Int) ≤ x
          · as_aux_lemma =>
                obtain ⟨hc1, hc2⟩ := hcon
                have hv0 : wa.cell? ⟨hb, k, none⟩ = some (v k) := HL6.out.gh HK.out
                obtain ⟨ph, ch, hve, _, _⟩ := own_slice (HL6.out.rw k HK.out)
                rw [hve] at hv0
                have hkt : (k : Int) < t := by have := HKT.out; omega
                have hge : ((E k).length : Int) ≤ x := hc2
                rw [hc1]
                clear hc1 hc2 hve
                go_wp2_with fail
                clear hv0 hkt hge
                go_roundw
                case rel => exact ⟨i + 1, by omega, by go_num, σ, L, O, E, v, em, HM6, Lib.hid (HI4.out.le (by omega)), HL6, Lib.hid (fun j hj => Nat.le_succ_of_le (HEL.out j hj))⟩
                case measure => simp [intOf]; omega
          have HCON := Lib.hid (show ¬ ((σ.Ts k).nf = 0 ∧ ((E k).length : Int) ≤ x) from by rw [hnf]; exact hcon)
          have HNF := Lib.hid hnf
          clear hnf hcon
          obtain ⟨z, hz⟩ : ∃ z : Bool, ((nf : Int) == 0) = z := ⟨_, rfl⟩
          have HZ := Lib.hid hz
          go_upto_if 65 with fail
          go_cut [] from 66 to 232 (fun wx => ∃ (σ1 : Sg) (O1 : Nat → Nat) (E1 : Nat → List Int) (v1 : Nat → Value) (em1 : Nat → Bool), Hid (MM wx P σ1) ∧ Hid (CS P σ1 L O1 E1 i) ∧ Hid ((σ1.Ts k).nf = 1) ∧ Hid (LH w P cb hb eb wx v1 E1 em1) ∧ Hid (∀ j, j < P.t → (E1 j).length ≤ i))
          case first =>
            cases z with
            | false =>
              as_aux_lemma =>
                have h1 : (σ.Ts k).nf = 1 := by
                  have h0 := HZ.out
                  rcases HI4.out.th k HK.out with h2 | ⟨h2, _⟩
                  · have h3 := HNF.out
                    rw [show nf = 0 by omega] at h0
                    simp at h0
                  · exact h2
                have HN7 := Lib.hid h1
                clear h1
                go_wp2_with fail
                go_meet
                case rel => exact ⟨σ, O, E, v, em, HM6, HI4, HN7, HL6, HEL⟩
            | true =>
              have hnf0 : nf = 0 := by have h0 := HZ.out; simpa using h0
              subst hnf0
              have HNF0 := HNF
              have HXL := Lib.hid (show x < ((E k).length : Int) from by
                have h1 := HCON.out
                rw [HNF.out] at h1
                by_cases h2 : ((E k).length : Int) ≤ x
                · exact absurd ⟨rfl, h2⟩ h1
                · omega)
              by_cases hx0 : x < 0
              · have HX0 := Lib.hid hx0
                clear hx0
                as_aux_lemma =>
                  have hx0 : x < 0 := HX0.out
                  have hkt : (k : Int) < t := by have := HKT.out; omega
                  have hv0 : wa.cell? ⟨hb, k, none⟩ = some (v k) := HL6.out.gh HK.out
                  obtain ⟨ph, ch, hve, _, _⟩ := own_slice (HL6.out.rw k HK.out)
                  rw [hve] at hv0
                  have hge : ¬ ((E k).length : Int) ≤ x := by omega
                  clear hve
                  go_wp2_with fail
                  clear hv0 hge hx0
                  refine (mcall (n := 0) (L := fun _ => 0) HM6.out HK.out 1 (Th.UR.nil _) (by rw [HNF0.out]; omega)).mono ?_; rintro _ wb ⟨rfl, hm7, hk7⟩
                  obtain ⟨hi7, hn7, _⟩ := HI4.out.callT HK.out HNF0.out
                  have HM7 := Lib.hid hm7; have HL7 := Lib.hid (HL6.out.ka hk7); have HI7 := Lib.hid hi7; have HN7 := Lib.hid hn7
                  clear hm7 hk7 hi7 hn7 HM6 HL6
                  have he0 : wb.cell? ⟨eb, k, none⟩ = some (.bool (em k)) := HL7.out.gi HK.out
                  have hf0 : ∀ i, wb.frozen? ⟨eb, i, none⟩ = false := HL7.out.ebk.fr
                  go_wp2_with fail
                  clear he0 hf0 hkt
                  generalize hW : World.setCell _ _ _ = W
                  obtain ⟨em2, hem2⟩ : ∃ em2 : Nat → Bool, em2 = fun j => if j = k then false else em j := ⟨_, rfl⟩
                  obtain ⟨hl8, ks8⟩ : LH w P cb hb eb W v E em2 ∧ Th.KS (fun j => j = eb) wb W := by rw [← hW]; exact HL7.out.sete HK.out false ⟨by rw [hem2]; simp, fun j hj => by rw [hem2]; simp [hj]⟩
                  have HM8 := Lib.hid (HM7.out.other HL7.out.ebk HL7.out.N.2.1 (by decide) (by decide) (by decide) (by decide) ks8)
                  have HL8 := Lib.hid hl8
                  clear hW hl8 ks8 hem2 HM7 HL7
                  go_meet
                  case rel => exact ⟨_, O, E, v, em2, HM8, HI7, HN7, HL8, HEL⟩
              · have HX0 := Lib.hid hx0
                clear hx0
                as_aux_lemma =>
                  obtain ⟨j, rfl⟩ : ∃ j : Nat, x = j := ⟨x.toNat, by have := HX0.out; omega⟩
                  have hj : j < (E k).length := by have := HXL.out; omega
                  have hx0 : ¬ (j : Int) < 0 := by omega
                  have hkt : (k : Int) < t := by have := HKT.out; omega
                  have hv0 : wa.cell? ⟨hb, k, none⟩ = some (v k) := HL6.out.gh HK.out
                  obtain ⟨l, hl⟩ : ∃ l, l = E k := ⟨_, rfl⟩
                  have hrw := HL6.out.rw k HK.out
                  rw [← hl] at hj hrw
                  have HLL := Lib.hid hl
                  obtain ⟨gh, ch, hve, q1, q2, hc0⟩ := own_cons2 hrw rfl hj
                  rw [hve] at hv0 hrw
                  obtain ⟨e, he⟩ : ∃ e, e = l[j] := ⟨_, rfl⟩
                  rw [← he] at hc0
                  have HEE := Lib.hid (show E k = l.take j ++ e :: l.drop (j + 1) by rw [← hl, he, ← List.drop_eq_getElem_cons hj, List.take_append_drop])
                  have HVE := Lib.hid hve; have HRW := Lib.hid hrw; have HJ := Lib.hid hj
                  have hlen : l.length ≤ 600 := by have := HEL.out k HK.out; rw [hl]; omega
                  have hge : ¬ (l.length : Int) ≤ (j : Int) := by omega
                  have hjl : (j : Int) < l.length := by omega
                  clear hl hve he hrw
                  go_wp2_with fail
                  generalize hU : World.alloc wa _ = U
                  obtain ⟨u0, hbu⟩ := Th.heapnewE hU
                  have HM7 := Lib.hid (HM6.out.below hbu); have HL7 := Lib.hid (HL6.out.below hbu)
                  have hur : Th.UR U (.slice (some ⟨wa.heap.size, 0, none⟩) 1 1) 1 (fun _ => e) := Th.UR.row _ 0 1 1 _ (by omega) (by omega) (fun i0 hi0 => by rw [show i0 = 0 by omega]; exact Th.newcell u0 0 _ rfl)
                  clear hU u0 hbu hv0 hc0 hge hx0 HM6 HL6
                  refine (mcall (n := 1) (L := fun _ => e) HM7.out HK.out 2 hur (by rw [HNF0.out]; omega)).mono ?_; rintro _ wb ⟨rfl, hm8, hk8⟩
                  obtain ⟨O2, hi8, hn8, _⟩ := HI4.out.callG HK.out HNF0.out HEE.out
                  have HM8 := Lib.hid hm8; have HL8 := Lib.hid (HL7.out.ka hk8); have HI8 := Lib.hid hi8; have HN8 := Lib.hid hn8
                  clear hur hm8 hk8 hi8 hn8 HM7 HL7
                  have hrw8 : wb.ownsRow P.N 42 1 (.slice (some ⟨gh, 0, none⟩) l.length ch) l.length (wds l) := by
                    have h1 := HL8.out.rw k HK.out
                    rw [HVE.out, ← HLL.out] at h1; exact h1
                  have hHA : VR P.N 42 wb (.slice (some ⟨gh, 0, none⟩) j ch) (wds (l.take j)) := by
                    have := own_ahead hrw8 (by rw [wds_len]) (show j ≤ l.length by omega)
                    rwa [show (wds l).take j = wds (l.take j) by simp [wds, List.map_take]] at this
                  have hHB : VR P.N 42 wb (.slice (some (if ch = j + 1 then (⟨gh, 0, none⟩ : Addr) else ⟨gh, j + 1, none⟩)) (l.length - (j + 1)) (ch - (j + 1))) (wds (l.drop (j + 1))) := by
                    have := own_behind hrw8 (by rw [wds_len]) (show j + 1 ≤ l.length by omega)
                    rw [show (wds l).drop (j + 1) = wds (l.drop (j + 1)) by simp [wds, List.map_drop]] at this
                    by_cases hc : ch = j + 1
                    · rw [if_pos hc]
                      exact VR.emp (by rw [List.drop_eq_nil_of_le (by omega)]; rfl) (by omega) (by omega)
                    · rw [if_neg hc]; exact this
                  have HHA := Lib.hid hHA; have HHB := Lib.hid hHB
                  have HLD := Lib.hid (show ∀ y : Ext wb, (Instr.loadAt 36 (.pointer (some ⟨hb, k, none⟩))).run Try.prog y.w = .ok (.slice (some ⟨gh, 0, none⟩) l.length ch) y.w from fun y => by
                    have z0 := HL8.out.gh HK.out
                    rw [HVE.out] at z0
                    have z1 := Ext.cells z0 y
                    go_simp)
                  clear hrw8 hHA hHB
                  go_upto_region 20 with fail
                  refine Th.wp_region_K (fun w' => ∃ y : Ext wb, w' = y.w) 19 (by decide +kernel) ?_
                  generalize hwd : World.drew wb = wd
                  have hbd : Below wb.heap.size wb wd := by rw [← hwd]; exact (Below.refl _ _).drew
                  clear hwd
                  have hjc : j ≤ ch := by omega
                  have hj1 : j + 1 ≤ l.length := by omega
                  have hj3 : (0 : Int) ≤ (j : Int) + 1 := by omega
                  have hj4 : (j : Int) + 1 ≤ l.length := by omega
                  have hwj : IntKind.i64.wrap ((j : Int) + 1) = j + 1 := by rw [IntKind.wrap_i64]; omega
                  (refine Th.wpAnyK_takeY (i := 0) (v := ?_) rfl (by decide +kernel) (by decide +kernel) (by decide +kernel) (by decide) (fun _ _ _ h => h) (Or.inl ⟨by rfl, ?_⟩) (.inr ⟨⟨wd, hbd⟩, rfl⟩) ?_; rotate_left; (intro w; go_simp); (try with_reducible rfl))
                  (try simp only [List.getElem_toArray, List.getElem_cons_succ, List.getElem_cons_zero, Act.put, List.setIfInBounds_toArray, List.set_cons_succ, List.set_cons_zero])
                  (refine Th.wpAnyK_takeY (i := 1) (v := ?_) rfl (by decide +kernel) (by decide +kernel) (by decide +kernel) (by decide) (fun _ _ _ h => h) (Or.inl ⟨by rfl, ?_⟩) (.inr ⟨⟨wd, hbd⟩, rfl⟩) ?_; rotate_left; (intro w; go_simp); (try with_reducible rfl))
                  (try simp only [List.getElem_toArray, List.getElem_cons_succ, List.getElem_cons_zero, Act.put, List.setIfInBounds_toArray, List.set_cons_succ, List.set_cons_zero])
                  (refine Th.wpAnyK_takeY (i := 3) (v := ?_) rfl (by decide +kernel) (by decide +kernel) (by decide +kernel) (by decide) (fun _ _ _ h => h) (Or.inl ⟨by rfl, ?_⟩) (.inr ⟨⟨wd, hbd⟩, rfl⟩) ?_; rotate_left; (intro w; go_simp); (try with_reducible rfl))
                  (try simp only [List.getElem_toArray, List.getElem_cons_succ, List.getElem_cons_zero, Act.put, List.setIfInBounds_toArray, List.set_cons_succ, List.set_cons_zero])
                  (refine Th.wpAnyK_takeY (i := 4) (v := ?_) rfl (by decide +kernel) (by decide +kernel) (by decide +kernel) (by decide) (fun _ _ _ h => h) (Or.inl ⟨by rfl, ?_⟩) (.inr ⟨⟨wd, hbd⟩, rfl⟩) ?_; rotate_left; (intro w; go_simp); (try with_reducible rfl))
                  (try simp only [List.getElem_toArray, List.getElem_cons_succ, List.getElem_cons_zero, Act.put, List.setIfInBounds_toArray, List.set_cons_succ, List.set_cons_zero])
                  (refine Th.wpAnyK_takeY (i := 5) (v := ?_) rfl (by decide +kernel) (by decide +kernel) (by decide +kernel) (by decide) (fun _ _ _ h => h) (Or.inl ⟨by rfl, ?_⟩) (.inr ⟨⟨wd, hbd⟩, rfl⟩) ?_; rotate_left; (intro w; go_simp); (try with_reducible rfl))
                  (try simp only [List.getElem_toArray, List.getElem_cons_succ, List.getElem_cons_zero, Act.put, List.setIfInBounds_toArray, List.set_cons_succ, List.set_cons_zero])
                  (refine Th.wpAnyK_take (i := 6) (v := .slice (some ⟨gh, 0, none⟩) l.length ch) [8, 9, 17, 19] rfl (by decide +kernel) (by decide +kernel) (by decide +kernel) (by decide +kernel) (fun _ _ _ h => h) (Th.yields_loadK rfl 36 (.tmp 95) rfl rfl (by rintro _ ⟨y, rfl⟩; exact HLD.out y)) ⟨⟨wd, hbd⟩, rfl⟩ ?_)
                  (try simp only [List.getElem_toArray, List.getElem_cons_succ, List.getElem_cons_zero, Act.put, List.setIfInBounds_toArray, List.set_cons_succ, List.set_cons_zero])
                  (refine Th.wpAnyK_takeY (i := 7) (v := ?_) rfl (by decide +kernel) (by decide +kernel) (by decide +kernel) (by decide) (fun _ _ _ h => h) (Or.inl ⟨by rfl, ?_⟩) (.inr ⟨⟨wd, hbd⟩, rfl⟩) ?_; rotate_left; (intro w; go_simp); (try with_reducible rfl))
                  (try simp only [List.getElem_toArray, List.getElem_cons_succ, List.getElem_cons_zero, Act.put, List.setIfInBounds_toArray, List.set_cons_succ, List.set_cons_zero])
                  (refine Th.wpAnyK_takeY (i := 8) (v := ?_) rfl (by decide +kernel) (by decide +kernel) (by decide +kernel) (by decide) (fun _ _ _ h => h) (Or.inl ⟨by rfl, ?_⟩) (.inr ⟨⟨wd, hbd⟩, rfl⟩) ?_; rotate_left; (intro w; go_simp); (try with_reducible rfl))
                  (try simp only [List.getElem_toArray, List.getElem_cons_succ, List.getElem_cons_zero, Act.put, List.setIfInBounds_toArray, List.set_cons_succ, List.set_cons_zero])
                  (refine Th.wpAnyK_takeY (i := 10) (v := ?_) rfl (by decide +kernel) (by decide +kernel) (by decide +kernel) (by decide) (fun _ _ _ h => h) (Or.inl ⟨by rfl, ?_⟩) (.inr ⟨⟨wd, hbd⟩, rfl⟩) ?_; rotate_left; (intro w; go_simp); (try with_reducible rfl))
                  (try simp only [List.getElem_toArray, List.getElem_cons_succ, List.getElem_cons_zero, Act.put, List.setIfInBounds_toArray, List.set_cons_succ, List.set_cons_zero])
                  (refine Th.wpAnyK_takeY (i := 11) (v := ?_) rfl (by decide +kernel) (by decide +kernel) (by decide +kernel) (by decide) (fun _ _ _ h => h) (Or.inl ⟨by rfl, ?_⟩) (.inr ⟨⟨wd, hbd⟩, rfl⟩) ?_; rotate_left; (intro w; go_simp); (try with_reducible rfl))
                  (try simp only [List.getElem_toArray, List.getElem_cons_succ, List.getElem_cons_zero, Act.put, List.setIfInBounds_toArray, List.set_cons_succ, List.set_cons_zero])
                  (refine Th.wpAnyK_takeY (i := 12) (v := ?_) rfl (by decide +kernel) (by decide +kernel) (by decide +kernel) (by decide) (fun _ _ _ h => h) (Or.inl ⟨by rfl, ?_⟩) (.inr ⟨⟨wd, hbd⟩, rfl⟩) ?_; rotate_left; (intro w; go_simp); (try with_reducible rfl))
                  (try simp only [List.getElem_toArray, List.getElem_cons_succ, List.getElem_cons_zero, Act.put, List.setIfInBounds_toArray, List.set_cons_succ, List.set_cons_zero])
                  (refine Th.wpAnyK_take (i := 13) (v := .slice (some ⟨gh, 0, none⟩) l.length ch) [16, 17, 19] rfl (by decide +kernel) (by decide +kernel) (by decide +kernel) (by decide +kernel) (fun _ _ _ h => h) (Th.yields_loadK rfl 36 (.tmp 102) rfl rfl (by rintro _ ⟨y, rfl⟩; exact HLD.out y)) ⟨⟨wd, hbd⟩, rfl⟩ ?_)
                  (try simp only [List.getElem_toArray, List.getElem_cons_succ, List.getElem_cons_zero, Act.put, List.setIfInBounds_toArray, List.set_cons_succ, List.set_cons_zero])
                  (refine Th.wpAnyK_takeY (i := 14) (v := ?_) rfl (by decide +kernel) (by decide +kernel) (by decide +kernel) (by decide) (fun _ _ _ h => h) (Or.inl ⟨by rfl, ?_⟩) (.inr ⟨⟨wd, hbd⟩, rfl⟩) ?_; rotate_left; (intro w; go_simp); (try with_reducible rfl))
                  (try simp only [List.getElem_toArray, List.getElem_cons_succ, List.getElem_cons_zero, Act.put, List.setIfInBounds_toArray, List.set_cons_succ, List.set_cons_zero])
                  (refine Th.wpAnyK_takeY (i := 15) (v := ?_) rfl (by decide +kernel) (by decide +kernel) (by decide +kernel) (by decide) (fun _ _ _ h => h) (Or.inl ⟨by rfl, ?_⟩) (.inr ⟨⟨wd, hbd⟩, rfl⟩) ?_; rotate_left; (intro w; go_simp); (try with_reducible rfl))
                  (try simp only [List.getElem_toArray, List.getElem_cons_succ, List.getElem_cons_zero, Act.put, List.setIfInBounds_toArray, List.set_cons_succ, List.set_cons_zero])
                  (refine Th.wpAnyK_takeY (i := 16) (v := ?_) rfl (by decide +kernel) (by decide +kernel) (by decide +kernel) (by decide) (fun _ _ _ h => h) (Or.inl ⟨by rfl, ?_⟩) (.inr ⟨⟨wd, hbd⟩, rfl⟩) ?_; rotate_left; (intro w; go_simp); (try with_reducible rfl))
                  (try simp only [List.getElem_toArray, List.getElem_cons_succ, List.getElem_cons_zero, Act.put, List.setIfInBounds_toArray, List.set_cons_succ, List.set_cons_zero])
                  (refine Th.wpAnyK_ready (rs := [2]) (by decide +kernel) (by simp) ?_; refine (Th.AllReadyK.cons rfl (fun K hK => ?_) Th.AllReadyK.nil))
                  refine step_of rfl ?_
                  go_step
                  obtain ⟨y1, hy1⟩ : ∃ y : Ext wb, y.w = wd.alloc (.cells #[] 42) := ⟨⟨_, hbd.alloc hbd.size _⟩, rfl⟩
                  have ho1 : y1.w.ownsRow wb.heap.size 42 1 (.slice (some ⟨wd.heap.size, 0, none⟩) 0 0) ([] : List Value).length [] := by rw [hy1]; exact own_mono (own_none _) hbd.size
                  rw [← hy1]
                  refine hK _ _ (.inr ⟨y1, rfl⟩) ?_
                  clear hK K hy1
                  (try simp only [List.getElem_toArray, List.getElem_cons_succ, List.getElem_cons_zero, Act.put, List.setIfInBounds_toArray, List.set_cons_succ, List.set_cons_zero])
                  (refine Th.wpAnyK_ready (rs := [9]) (by decide +kernel) (by simp) ?_; refine (Th.AllReadyK.cons rfl (fun K hK => ?_) Th.AllReadyK.nil))
                  refine step_of rfl ?_
                  refine wp_append_v uSE infE rfl (.tmp 92) (.tmp 98) rfl wb.heap.size P.N _ ⟨gh, 0, none⟩ j ch [] (wds (l.take j)) rfl ho1 rfl (HHA.out.below y1.h) (wds_one _) (by rw [wds_len]; simp; omega) y1.h.size ?_
                  intro v2 w2 hown2 hgrow2
                  have hb2 : Below wb.heap.size wb w2 := y1.h.grown hgrow2 y1.h.size (own_ge ho1)
                  obtain ⟨y2, hy2⟩ : ∃ y : Ext wb, y.w = w2 := ⟨⟨w2, hb2⟩, rfl⟩
                  rw [← hy2] at hown2 ⊢
                  refine hK _ _ (.inr ⟨y2, rfl⟩) ?_
                  clear hK K hgrow2 hb2 hy2 ho1
                  have hown2 : y2.w.ownsRow wb.heap.size 42 1 v2 (wds (l.take j)).length (wds (l.take j)) := hown2
                  (try simp only [List.getElem_toArray, List.getElem_cons_succ, List.getElem_cons_zero, Act.put, List.setIfInBounds_toArray, List.set_cons_succ, List.set_cons_zero])
                  (refine Th.wpAnyK_ready (rs := [17]) (by decide +kernel) (by simp) ?_; refine (Th.AllReadyK.cons rfl (fun K hK => ?_) Th.AllReadyK.nil))
                  refine step_of rfl ?_
                  refine wp_append_v uSE infE rfl (.tmp 99) (.tmp 106) rfl wb.heap.size P.N _ _ (l.length - (j + 1)) (ch - (j + 1)) (wds (l.take j)) (wds (l.drop (j + 1))) rfl hown2 (by
                    show Value.slice (if ch = j + 1 then some (⟨gh, 0, none⟩ : Addr) else some ⟨gh, j + 1, none⟩) (l.length - (j + 1)) (ch - (j + 1)) = Value.slice (some (if ch = j + 1 then (⟨gh, 0, none⟩ : Addr) else ⟨gh, j + 1, none⟩)) (l.length - (j + 1)) (ch - (j + 1))
                    by_cases hc : ch = j + 1
                    · rw [if_pos hc, if_pos hc]
                    · rw [if_neg hc, if_neg hc]) (HHB.out.below y2.h) (wds_one _) (by rw [wds_len, wds_len]; simp; omega) y2.h.size ?_
                  intro v3 w3 hown3 hgrow3
                  have hb3 : Below wb.heap.size wb w3 := y2.h.grown hgrow3 y2.h.size (own_ge hown2)
                  obtain ⟨E9, hE9⟩ : ∃ E9, E9 = l.take j ++ l.drop (j + 1) := ⟨_, rfl⟩
                  have hEl : E9.length ≤ i := by have h9 := HEL.out k HK.out; rw [← HLL.out] at h9; rw [hE9]; simp; omega
                  have hown3 : w3.ownsRow wb.heap.size 42 1 v3 E9.length (wds E9) := by
                    have h9 := hown3
                    rw [← wds_app, ← hE9, wds_len] at h9
                    exact h9
                  obtain ⟨p9, k9, rfl, _, _⟩ := own_slice hown3
                  obtain ⟨y3, hy3⟩ : ∃ y : Ext wb, y.w = w3 := ⟨⟨w3, hb3⟩, rfl⟩
                  have HO3 := Lib.hid hown3; have HB3 := Lib.hid hb3; have HE9 := Lib.hid hE9
                  rw [← hy3]
                  refine hK _ _ (.inr ⟨y3, rfl⟩) ?_
                  rw [hy3]
                  clear hK K hgrow3 hb3 hown2 hown3 hE9 HHA HHB hy3 y3
                  (try simp only [List.getElem_toArray, List.getElem_cons_succ, List.getElem_cons_zero, Act.put, List.setIfInBounds_toArray, List.set_cons_succ, List.set_cons_zero])
                  (refine Th.wpAnyK_takeY (i := 18) (v := ?_) rfl (by decide +kernel) (by decide +kernel) (by decide +kernel) (by decide) (fun _ _ _ h => h) (Or.inl ⟨by rfl, ?_⟩) (.inr ⟨⟨w3, HB3.out⟩, rfl⟩) ?_; rotate_left; (intro w; go_simp); (try with_reducible rfl))
                  (try simp only [List.getElem_toArray, List.getElem_cons_succ, List.getElem_cons_zero, Act.put, List.setIfInBounds_toArray, List.set_cons_succ, List.set_cons_zero])
                  (refine Th.wpAnyK_ready (rs := [19]) (by decide +kernel) (by simp) ?_; refine (Th.AllReadyK.cons rfl (fun K hK => ?_) Th.AllReadyK.nil))
                  have n0 : w3.cell? ⟨hb, k, none⟩ = some (.slice (some ⟨gh, 0, none⟩) l.length ch) := by
                    have z0 := HL8.out.gh HK.out
                    rw [HVE.out] at z0
                    exact Ext.use (Ext.cells z0) HB3.out
                  have nf0 : ∀ i, w3.frozen? ⟨hb, i, none⟩ = false := (HL8.out.below HB3.out).hbk.fr
                  refine step_of rfl ?_
                  go_step
                  refine hK _ _ (.inl rfl) ?_
                  clear hK K
                  refine Th.wpAnyK_done (by decide +kernel) ?_ _
                  clear n0 nf0 hj1 hj3 hj4 hjc hwj hjl hkt
                  generalize (if ch = j + 1 then some (⟨gh, 0, none⟩ : Addr) else some ⟨gh, j + 1, none⟩) = ap
                  generalize hW : World.setCell _ _ _ = W
                  have hl9 : LH w P cb hb eb W (updV v k (.slice p9 E9.length k9)) (updE E k E9) em := by
                    rw [← hW]
                    exact HL8.out.seth HK.out (.of_below HB3.out) (own_mono HO3.out HL8.out.NS.1) fun b e9 => .inr (own_ge HO3.out b e9)
                  have hm9 : MM W P (σ.thr k (Th.callT (σ.Ts k) 2 1 fun _ => e)) := by
                    rw [← hW]
                    exact (HM8.out.below HB3.out).other (HL8.out.below HB3.out).hbk HL8.out.N.1 (by decide) (by decide) (by decide) (by decide) (Th.KS.set w3 hb k _)
                  have HM9 := Lib.hid hm9; have HL9 := Lib.hid hl9
                  have HI9 := Lib.hid (show CS P (σ.thr k (Th.callT (σ.Ts k) 2 1 fun _ => e)) L O2 (updE E k E9) i from by rw [HE9.out]; exact HI8.out)
                  have HEl := Lib.hid (show ∀ j, j < P.t → (updE E k E9 j).length ≤ i from fun j hj => by
                    by_cases e9 : j = k
                    · rw [e9, updE_at]; exact hEl
                    · rw [updE_ne _ _ e9]; exact HEL.out j hj)
                  clear hW hl9 hm9 HM8 HL8 HI8 HB3 HO3 hEl
                  go_wp2_with fail
                  go_meet
                  case rel => exact ⟨_, O2, updE E k E9, _, em, HM9, HI9, HN8, HL9, HEl⟩
          case rest =>
          obtain ⟨σ1, O1, E1, v1, em1, HM7, HI7, HN7, HL7, HEL7⟩ := hcut
          clear HM6 HL6 HI4 HNF HZ hz HCON HEL
          go_wp2_with fail
          refine (mtopS HM7.out HK.out HN7.out).mono ?_; rintro _ wb ⟨fb1, rfl, _, hb9⟩
          have HM8 := Lib.hid (HM7.out.below hb9); have HL8 := Lib.hid (HL7.out.below hb9)
          clear hb9 HM7 HL7
          go_wp2_with fail
          refine (mtopS HM8.out HK.out HN7.out).mono ?_; rintro _ wc2 ⟨fb, rfl, hfb, hb9⟩
          have HM9 := Lib.hid (HM8.out.below hb9); have HL9 := Lib.hid (HL8.out.below hb9)
          obtain ⟨fn, hfn⟩ : ∃ fn, ((σ1.Ts k).fs 0).fn = fn := ⟨_, rfl⟩
          rw [hfn] at hfb
          have HFN := Lib.hid hfn
          obtain ⟨tk, htk⟩ : ∃ tk : Bool, (fn == 1) = tk := ⟨_, rfl⟩
          have HTK := Lib.hid htk
          clear hb9 HM8 HL8 hfn
          go_wp2_with fail
          clear hfb htk
          refine (lchn HM9.out HI7.out.lk HI7.out.len).mono ?_; rintro _ wd ⟨p5, c5, rfl, hb9⟩
          have HMa := Lib.hid (HM9.out.below hb9); have HLa := Lib.hid (HL9.out.below hb9)
          obtain ⟨b0, hb0⟩ : ∃ b0 : Bool, ((L.length : Int) == 0) = b0 := ⟨_, rfl⟩
          have HB0 := Lib.hid hb0
          clear hb9 HM9 HL9
          go_wp2_with fail
          clear hb0
          refine (cstep HMa.out HI7.out (by omega) HK.out HN7.out).mono ?_; rintro _ we ⟨σ2, rfl, hm8, hk8, ho8, _⟩
          rw [HFN.out] at ho8
          obtain ⟨L2, O2, E2, hcs2⟩ := ho8.js
          have HMc := Lib.hid hm8; have HLc := Lib.hid (HLa.out.ka hk8); have HO8 := Lib.hid ho8; have HJ2 := Lib.hid hcs2
          clear hm8 hk8 ho8 hcs2 HMa HLa
          obtain ⟨lf, hlf⟩ : ∃ lf, decide (0 < (σ2.Ts k).nf) = lf := ⟨_, rfl⟩
          rw [hlf]
          have HLF := Lib.hid hlf
          clear hlf
          go_upto_region 24 with fail
          go_cut [14] from 127 to 232 (fun v14 wx => ∃ b1 : Bool, v14 = .bool b1 ∧ Hid (b0 = true → b1 = true) ∧ Hid (MM wx P σ2) ∧ Hid (LH w P cb hb eb wx v1 E1 em1))
          case first =>
            cases b0 with
            | true =>
              as_aux_lemma =>
                go_wp2_with fail
                go_meet
                case rel => exact ⟨true, rfl, Lib.hid (fun _ => rfl), HMc, HLc⟩
            | false =>
              as_aux_lemma =>
                go_wp2_with fail
                refine (lchn HMc.out HJ2.out.lk HJ2.out.len).mono ?_; rintro _ wg ⟨p6, c6, rfl, hb9⟩
                have HMe := Lib.hid (HMc.out.below hb9); have HLe := Lib.hid (HLc.out.below hb9)
                clear hb9 HMc HLc
                go_wp2_with fail
                go_meet
                case rel => exact ⟨_, rfl, Lib.hid (fun h => by cases h), HMe, HLe⟩
          case rest =>
          obtain ⟨b1, rfl, HB1, HMd, HLd⟩ := hcut
          clear HMc HLc
          go_wp2_with fail
          go_loopw [16] (fun jv wr => ∃ j : Nat, j ≤ t ∧ jv = .int .i64 j ∧ ∃ em2 : Nat → Bool, Hid (MM wr P σ2) ∧ Hid (LH w P cb hb eb wr v1 E1 em2) ∧ Hid (∀ a, a < j → b1 = true → em2 a = true)) (fun jv _ => t - (intOf jv).toNat)
          case atStart => exact ⟨0, Nat.zero_le _, rfl, em1, HMd, HLd, Lib.hid (fun a ha => absurd ha (Nat.not_lt_zero a))⟩
          case round =>
            clear HMd HLd
            obtain ⟨j, hj, rfl, em2, HMf, HLf, HEM⟩ := hrel
            have hcb := HLf.out.cf
            rw [HE.out.1] at hcb
            have o0 := Th.newcell hcb 0 _ rfl
            clear hcb
            rcases (by omega : j < t ∨ j = t) with hjl | hje
            · as_aux_lemma =>
                have hjt : (j : Int) < t := by omega
                have HJ := Lib.hid (show j < P.t by rw [HE.out.1]; exact hjl)
                have he0 : wr.cell? ⟨eb, j, none⟩ = some (.bool (em2 j)) := HLf.out.gi HJ.out
                have hf0 : ∀ i, wr.frozen? ⟨eb, i, none⟩ = false := HLf.out.ebk.fr
                obtain ⟨ej, hej⟩ : ∃ ej, em2 j = ej := ⟨_, rfl⟩
                rw [hej] at he0
                have HEJ := Lib.hid hej
                clear hej
                cases ej with
                | true =>
                  go_wp2_with fail
                  clear he0 hf0 hjt o0
                  generalize hW : World.setCell _ _ _ = W
                  obtain ⟨em3, hem3⟩ : ∃ em3 : Nat → Bool, em3 = fun a => if a = j then true else em2 a := ⟨_, rfl⟩
                  obtain ⟨hl8, ks8⟩ : LH w P cb hb eb W v1 E1 em3 ∧ Th.KS (fun a => a = eb) wr W := by rw [← hW]; exact HLf.out.sete HJ.out true ⟨by rw [hem3]; simp, fun a ha => by rw [hem3]; simp [ha]⟩
                  have HM8 := Lib.hid (HMf.out.other HLf.out.ebk HLf.out.N.2.1 (by decide) (by decide) (by decide) (by decide) ks8)
                  have HL8 := Lib.hid hl8
                  have HX := Lib.hid (show ∀ a, a < j + 1 → b1 = true → em3 a = true from fun a ha hb => by
                    rw [hem3]
                    by_cases e9 : a = j
                    · simp [e9, hb]
                    · simp only [if_neg e9]; exact HEM.out a (by omega) hb)
                  clear hW hl8 ks8 hem3 HMf HLf
                  go_roundw
                  case rel => exact ⟨j + 1, by omega, by go_num, em3, HM8, HL8, HX⟩
                  case measure => simp [intOf]; omega
                | false =>
                  go_wp2_with fail
                  clear he0 hf0 hjt o0
                  generalize hW : World.setCell _ _ _ = W
                  obtain ⟨em3, hem3⟩ : ∃ em3 : Nat → Bool, em3 = fun a => if a = j then b1 else em2 a := ⟨_, rfl⟩
                  obtain ⟨hl8, ks8⟩ : LH w P cb hb eb W v1 E1 em3 ∧ Th.KS (fun a => a = eb) wr W := by rw [← hW]; exact HLf.out.sete HJ.out b1 ⟨by rw [hem3]; simp, fun a ha => by rw [hem3]; simp [ha]⟩
                  have HM8 := Lib.hid (HMf.out.other HLf.out.ebk HLf.out.N.2.1 (by decide) (by decide) (by decide) (by decide) ks8)
                  have HL8 := Lib.hid hl8
                  have HX := Lib.hid (show ∀ a, a < j + 1 → b1 = true → em3 a = true from fun a ha hb => by
                    rw [hem3]
                    by_cases e9 : a = j
                    · simp [e9, hb]
                    · simp only [if_neg e9]; exact HEM.out a (by omega) hb)
                  clear hW hl8 ks8 hem3 HMf HLf
                  go_roundw
                  case rel => exact ⟨j + 1, by omega, by go_num, em3, HM8, HL8, HX⟩
                  case measure => simp [intOf]; omega
            · have hje := hje.symm
              subst hje
              have hjt : ¬ (t : Int) < t := by omega
              go_upto_region 29 with fail
              clear o0 hjt
              cases lf with
              | true =>
                as_aux_lemma =>
                  obtain ⟨L3, O3, h3⟩ := HO8.out.on (.inl (of_decide_eq_true HLF.out))
                  have HIf := Lib.hid h3
                  clear h3 HO8 HJ2
                  go_wp2_with fail
                  have hcf := HMf.out.c
                  rw [HIf.out.ok.1, HIf.out.ok.2.1, HIf.out.ok.2.2] at hcf
                  refine (cFault hcf).mono ?_; rintro _ wg ⟨rfl, hb9⟩
                  have HMg := Lib.hid (HMf.out.below hb9); have HLg := Lib.hid (HLf.out.below hb9)
                  clear hb9 hcf HMf HLf
                  go_wp2_with fail
                  have hcf := HMg.out.c
                  rw [HIf.out.ok.1, HIf.out.ok.2.1, HIf.out.ok.2.2] at hcf
                  refine (cFault hcf).mono ?_; rintro _ wh ⟨rfl, hb9⟩
                  have HMh := Lib.hid (HMg.out.below hb9); have HLh := Lib.hid (HLg.out.below hb9)
                  clear hb9 hcf HMg HLg
                  go_wp2_with fail
                  go_roundw
                  case rel => exact ⟨i + 1, by omega, by go_num, σ2, _, _, E1, v1, em2, HMh, HIf, HLh, Lib.hid (fun j hj => Nat.le_succ_of_le (HEL7.out j hj))⟩
                  case measure => simp [intOf]; omega
              | false =>
                have HNZ := Lib.hid (show ¬ 0 < (σ2.Ts k).nf from of_decide_eq_false HLF.out)
                cases tk with
                | false =>
                  as_aux_lemma =>
                    obtain ⟨L3, O3, h3⟩ := HO8.out.on (.inr (by rcases fn_of HI7.out HK.out HN7.out with h1 | h1; (rw [HFN.out] at h1; have h2 := HTK.out; rw [h1] at h2; simp at h2); (rw [HFN.out] at h1; exact h1)))
                    have HIf := Lib.hid h3
                    clear h3 HO8 HJ2
                    go_wp2_with fail
                    have hcf := HMf.out.c
                    rw [HIf.out.ok.1, HIf.out.ok.2.1, HIf.out.ok.2.2] at hcf
                    refine (cFault hcf).mono ?_; rintro _ wg ⟨rfl, hb9⟩
                    have HMg := Lib.hid (HMf.out.below hb9); have HLg := Lib.hid (HLf.out.below hb9)
                    clear hb9 hcf HMf HLf
                    go_wp2_with fail
                    have hcf := HMg.out.c
                    rw [HIf.out.ok.1, HIf.out.ok.2.1, HIf.out.ok.2.2] at hcf
                    refine (cFault hcf).mono ?_; rintro _ wh ⟨rfl, hb9⟩
                    have HMh := Lib.hid (HMg.out.below hb9); have HLh := Lib.hid (HLg.out.below hb9)
                    clear hb9 hcf HMg HLg
                    go_wp2_with fail
                    go_roundw
                    case rel => exact ⟨i + 1, by omega, by go_num, σ2, _, _, E1, v1, em2, HMh, HIf, HLh, Lib.hid (fun j hj => Nat.le_succ_of_le (HEL7.out j hj))⟩
                    case measure => simp [intOf]; omega
                | true =>
                  obtain rfl : fn = 1 := by have h1 := HTK.out; simpa using h1
                  have HKT2 := Lib.hid (show (k : Int) < t by have := HKT.out; omega)
                  rcases HO8.out.told HNZ.out with ⟨h1, h2, h3⟩ | ⟨e, O3, h1, h2, h3, h4, h5, h6⟩
                  · have HRE := Lib.hid h1; have HLN := Lib.hid h2; have HIf := Lib.hid h3
                    clear h1 h2 h3 HO8 HJ2
                    as_aux_lemma =>
                      have hem : em2 k = true := HEM.out k HKT.out (HB1.out (by rw [← HB0.out, HLN.out]; rfl))
                      go_wp2_with fail
                      have hcf := HMf.out.c
                      rw [HIf.out.ok.1, HIf.out.ok.2.1, HIf.out.ok.2.2] at hcf
                      refine (cFault hcf).mono ?_; rintro _ wg ⟨rfl, hb9⟩
                      have HMg := Lib.hid (HMf.out.below hb9); have HLg := Lib.hid (HLf.out.below hb9)
                      clear hb9 hcf HMf HLf
                      have x0 : wg.cell? ⟨P.tq k, 0, none⟩ = some (.int .u64 0) := by have := HMg.out.ret HK.out (i := 0) (by omega); rw [HRE.out] at this; exact this
                      have he0 : wg.cell? ⟨eb, k, none⟩ = some (.bool (em2 k)) := HLg.out.gi HK.out
                      rw [hem] at he0
                      have hkt : (k : Int) < t := by have := HKT.out; omega
                      have hcb := HLg.out.cf
                      rw [HE.out.1] at hcb
                      have o0 := Th.newcell hcb 0 _ rfl
                      have htp : (0 : Int) < t := by omega
                      clear hem hcb
                      go_wp2_with fail
                      go_loopw [18] (fun jv wr => jv = .int .i64 0 ∧ wr = wg) (fun _ _ => 0)
                      case atStart => exact ⟨rfl, rfl⟩
                      case round =>
                        obtain ⟨rfl, rfl⟩ := hrel
                        go_wp2_with fail
                        clear x0 he0 o0 htp hkt
                        go_roundw
                        case rel => exact ⟨i + 1, by omega, by go_num, σ2, _, _, E1, v1, em2, HMg, HIf, HLg, Lib.hid (fun j hj => Nat.le_succ_of_le (HEL7.out j hj))⟩
                        case measure => simp [intOf]; omega
                  · have HRE := Lib.hid h1; have HNE := Lib.hid h2; have HER := Lib.hid h3; have HLD := Lib.hid h4; have HDI := Lib.hid h5; have HIf := Lib.hid h6
                    clear h1 h2 h3 h4 h5 h6 HO8 HJ2
                    as_aux_lemma =>
                      go_wp2_with fail
                      have hcf := HMf.out.c
                      rw [HIf.out.ok.1, HIf.out.ok.2.1, HIf.out.ok.2.2] at hcf
                      refine (cFault hcf).mono ?_; rintro _ wg ⟨rfl, hb9⟩
                      have HMg := Lib.hid (HMf.out.below hb9); have HLg := Lib.hid (HLf.out.below hb9)
                      clear hb9 hcf HMf HLf
                      have x0 : wg.cell? ⟨P.tq k, 0, none⟩ = some (.int .u64 e) := by have := HMg.out.ret HK.out (i := 0) (by omega); rw [HRE.out] at this; exact this
                      have he0 : wg.cell? ⟨eb, k, none⟩ = some (.bool (em2 k)) := HLg.out.gi HK.out
                      have hkt : (k : Int) < t := by have := HKT.out; omega
                      have hz0 : (e == 0) = false := by simpa using HNE.out
                      have hz1 : (e != 0) = true := by simpa using HNE.out
                      clear he0
                      go_wp2_with fail
                      refine (cGuard HMg.out.c).mono ?_; rintro _ _ ⟨rfl, rfl⟩
                      go_wp2_with fail
                      refine (Gd.gleads HMg.out.c.grd e HER.out.1 (by have := HER.out; omega)).mono ?_; rintro _ wh ⟨rfl, hb9⟩
                      rw [HLD.out]
                      have HMh := Lib.hid (HMg.out.below hb9); have HLh := Lib.hid (HLg.out.below hb9)
                      clear hb9 x0 HMg HLg
                      go_wp2_with fail
                      refine (eplain_yes e wh HER.out.1 HER.out.2).mono ?_; rintro _ _ ⟨rfl, rfl⟩
                      clear hkt hz0
                      go_wp2_with fail
                      go_loopw [18] (fun jv wr => ∃ a : Nat, a ≤ t ∧ jv = .int .i64 a ∧ Hid (wh = wr)) (fun jv _ => t - (intOf jv).toNat)
                      case atStart => exact ⟨0, Nat.zero_le _, rfl, Lib.hid rfl⟩
                      case round =>
                        obtain ⟨a, ha, rfl, HW⟩ := hrel
                        have hwr := HW.out
                        subst hwr
                        have hcb := HLh.out.cf
                        rw [HE.out.1] at hcb
                        have o0 := Th.newcell hcb 0 _ rfl
                        clear hcb
                        rcases (by omega : a < t ∨ a = t) with hal | hae
                        · have hat : (a : Int) < t := by omega
                          have HA := Lib.hid (show a < P.t by rw [HE.out.1]; exact hal)
                          have hrw := HLh.out.rw a HA.out
                          have hv0 := HLh.out.gh HA.out
                          obtain ⟨pv, cv, hve, _, _⟩ := own_slice hrw
                          rw [hve] at hv0 hrw
                          obtain ⟨la, hla⟩ : ∃ la, la = E1 a := ⟨_, rfl⟩
                          rw [← hla] at hv0 hrw
                          have HRW := Lib.hid hrw; have HLA := Lib.hid hla
                          have hll : la.length ≤ 600 := by have := HEL7.out a HA.out; rw [hla]; omega
                          clear hve hrw hla
                          go_wp2_with fail
                          clear o0
                          go_loopw [19] (fun jv wr => ∃ b : Nat, b ≤ la.length ∧ jv = .int .i64 b ∧ Hid (wh = wr)) (fun jv _ => la.length - (intOf jv).toNat)
                          case atStart => exact ⟨0, Nat.zero_le _, rfl, Lib.hid rfl⟩
                          case round =>
                            obtain ⟨b, hb9, rfl, HW2⟩ := hrel
                            have hwr := HW2.out
                            subst hwr
                            rcases (by omega : b < la.length ∨ b = la.length) with hbl | hbe
                            · have hbt : (b : Int) < la.length := by omega
                              obtain ⟨gv, cv2, hpe, _, _, hc0⟩ := own_cons2 HRW.out rfl hbl
                              simp only [Value.slice.injEq, true_and] at hpe
                              obtain ⟨rfl, rfl⟩ := hpe
                              obtain ⟨y, hy⟩ : ∃ y, y = la[b] := ⟨_, rfl⟩
                              rw [← hy] at hc0
                              have hym : y ∈ E1 a := by rw [← HLA.out, hy]; exact List.getElem_mem hbl
                              have hyb := (HI7.out.hd a HA.out y hym).1
                              have hyr := HDI.out a HA.out y hym
                              obtain ⟨ys, hys⟩ : ∃ ys, ys = y % 4096 := ⟨_, rfl⟩
                              obtain ⟨es, hes⟩ : ∃ es, es = e % 4096 := ⟨_, rfl⟩
                              have hye : (ys == es) = false := by rw [hys, hes]; simpa using hyr
                              have HYS := Lib.hid hys; have HES := Lib.hid hes
                              clear hy hym hyr hys hes
                              go_wp2_with fail
                              refine (eslot_calls y _ hyb.1 (by omega)).mono ?_; rintro _ _ ⟨rfl, rfl⟩
                              rw [← HYS.out]
                              go_wp2_with fail
                              refine (eslot_calls e _ HER.out.1 (by have := HER.out; omega)).mono ?_; rintro _ _ ⟨rfl, rfl⟩
                              rw [← HES.out]
                              go_wp2_with fail
                              clear hc0 hye hyb
                              go_roundw
                              case rel => exact ⟨b + 1, by omega, by go_num, HW2⟩
                              case measure => simp [intOf]; omega
                            · have hbt : ¬ (b : Int) < la.length := by omega
                              go_wp2_with fail
                              go_roundw
                              case rel => exact ⟨a + 1, by omega, by go_num, HW⟩
                              case measure => simp [intOf]; omega
                        · have hae := hae.symm
                          subst hae
                          have hat : ¬ (t : Int) < t := by omega
                          have hkt : (k : Int) < t := HKT2.out
                          have hrw := HLh.out.rw k HK.out
                          have hv0 := HLh.out.gh HK.out
                          have hle : (E1 k).length ≤ 600 := by have := HEL7.out k HK.out; omega
                          obtain ⟨pv, cv, hve, _, _⟩ := own_slice hrw
                          obtain ⟨p9, c9, W2, hrun, ho9, hg9, hloc⟩ := Th.push1 uSE infE (by rfl) hrw (.int .u64 e) rfl (by omega) HLh.out.NS.1
                          have n0 : W2.cell? ⟨hb, k, none⟩ = some (v1 k) := by
                            have h1 := (KS_grown hg9).block hb (Th.blk_lt HLh.out.hbk) fun e9 => by
                              obtain ⟨c2, h2⟩ := own_ty hrw e9
                              exact ty_ne h2 HLh.out.hbk (by decide) rfl
                            exact (HLh.out.hbk.of h1).get HK.out
                          have nf0 : ∀ i, W2.frozen? ⟨hb, i, none⟩ = false := by
                            have h1 := (KS_grown hg9).block hb (Th.blk_lt HLh.out.hbk) fun e9 => by
                              obtain ⟨c2, h2⟩ := own_ty hrw e9
                              exact ty_ne h2 HLh.out.hbk (by decide) rfl
                            exact (HLh.out.hbk.of h1).fr
                          have HG9 := Lib.hid hg9; have HLC := Lib.hid hloc
                          have HO9 := Lib.hid (show W2.ownsRow P.N 42 1 (.slice p9 ((E1 k).length + 1) c9) (E1 k ++ [e]).length (wds (E1 k ++ [e])) from by
                            have h1 := ho9
                            unfold Th.OwnL at h1
                            rw [wds_app, List.length_append]; exact h1)
                          have HRW := Lib.hid hrw
                          rw [hve] at hv0 n0 hrun
                          clear hrw hve ho9 hg9 hloc
                          go_wp2_with (at_builtin; refine Th.wpList_append_run rfl (.tmp 228) (.tmp 230) 36 rfl rfl rfl rfl hrun ?_)
                          clear n0 nf0 hrun hv0 hat hz1 o0 hkt
                          generalize hW : World.setCell _ _ _ = W
                          have hl9 : LH w P cb hb eb W (updV v1 k (.slice p9 ((E1 k).length + 1) c9)) (updE E1 k (E1 k ++ [e])) em2 := by
                            rw [← hW]
                            exact HLh.out.seth HK.out (KS_grown HG9.out) HO9.out fun b e9 => by
                              rcases HLC.out with h1 | ⟨b', h1, h2⟩
                              · rw [h1] at e9; exact .inl e9
                              · rw [h1] at e9
                                have : b' = b := by simpa using e9
                                right; omega
                          have hm9 : MM W P σ2 := by
                            rw [← hW]
                            have h1 := (KS_grown HG9.out).block hb (Th.blk_lt HLh.out.hbk) fun e9 => by
                              obtain ⟨c2, h2⟩ := own_ty HRW.out e9
                              exact ty_ne h2 HLh.out.hbk (by decide) rfl
                            exact (MM.ks HMh.out HRW.out (KS_grown HG9.out)).other (HLh.out.hbk.of h1) HLh.out.N.1 (by decide) (by decide) (by decide) (by decide) (Th.KS.set W2 hb k _)
                          have HM9 := Lib.hid hm9; have HL9 := Lib.hid hl9
                          clear hW hl9 hm9
                          go_roundw
                          case rel => exact ⟨i + 1, by omega, by go_num, σ2, _, _, _, _, em2, HM9, HIf, HL9, Lib.hid (fun j hj => by
                            by_cases e9 : j = k
                            · rw [e9, updE_at, List.length_append]; have := HEL7.out k HK.out; simp; omega
                            · rw [updE_ne _ _ e9]; exact Nat.le_succ_of_le (HEL7.out j hj))⟩
                          case measure => simp [intOf]; omega
      · refine (cThread_no HM5.out.c k (by rw [HE.out.1]; exact hkt)).mono ?_; rintro _ wa ⟨rfl, hb9⟩
        have HM6 := Lib.hid (HM5.out.below hb9); have HL6 := Lib.hid (HL5.out.below hb9)
        clear hb9 HM5 HL5
        go_wp2_with fail
        go_roundw
        case rel => exact ⟨i + 1, by omega, by go_num, σ, L, O, E, v, em, HM6, Lib.hid (HI4.out.le (by omega)), HL6, Lib.hid (fun j hj => Nat.le_succ_of_le (HEL.out j hj))⟩
        case measure => simp [intOf]; omega
    · have heq := heq.symm
      subst heq
      have hii : ¬ (pn : Int) < pn := by omega
      as_aux_lemma =>
        have hpi : pn ≤ 600 := by have := HPN.out; omega
        have HMUL := Lib.hid (show P.t * 10 ≤ 60 from by
          have h6 : P.t ≤ 6 := by rw [HE.out.1]; exact t6
          omega)
        go_wp2_with fail
        refine (mends (n0 := pn) (most := 10) (J := JS P) (rk := rkC P) (caps := #[]) HM4.out ⟨_, _, _, HI4.out⟩ (by omega) (fun σ n hj k hk => JS.rk k) (fun w' σ n k hm hj hn hk h0 => jstep hm hj (by have := HMUL.out; omega) hk h0)).mono ?_
        rintro _ wb ⟨σ2, n2, rfl, hm6, hk6, ⟨L2, O2, E2, hi6⟩, hn6, hz6⟩
        have HM6 := Lib.hid hm6; have HL6 := Lib.hid (HL4.out.ka hk6); have HI6 := Lib.hid hi6; have HZ6 := Lib.hid hz6
        clear hm6 hk6 hi6 hn6 hz6 HM4 HL4
        go_wp2_with fail
        have hcf := HM6.out.c
        rw [HI6.out.ok.1, HI6.out.ok.2.1, HI6.out.ok.2.2] at hcf
        refine (cFault hcf).mono ?_; rintro _ wc ⟨rfl, hb9⟩
        have HM7 := Lib.hid (HM6.out.below hb9); have HL7 := Lib.hid (HL6.out.below hb9)
        clear hb9 hcf HM6 HL6
        go_wp2_with fail
        refine (lwhole HM7.out HI6.out.lk HI6.out.len HI6.out.ne HI6.out.no (HI6.out.rest HZ6.out)).mono ?_; rintro _ wd ⟨rfl, hb9⟩
        have HL8 := Lib.hid (HL7.out.below hb9)
        clear hb9 HM7 HL7
        go_wp2_with fail
        refine (lives17_calls _).mono ?_; rintro _ we ⟨rfl, hb9⟩
        have HB8 := Lib.hid (below_on HL8.out.bl hb9)
        clear hb9
        go_wp2_with fail
        (try go_ret)
        rw [HQ.out]
        exact ⟨rfl, HB8.out⟩
end Go.Proofs.Ytlahpnigabfenaa.Sl

/- Layer 17: the walk of SlotsCrowd, by its name. -/
namespace Go.Proofs.Ytlahpnigabfenaa
open Go.RowKit WordM EdgeM
theorem slotsCrowd_walk (v0 v1 : Value) (w : World) (s0 : Fr.okN w [.int .i64, .int .i64, .int .u64] v0) (s1 : Fr.ok1 w (.slice [.int .i64, .int .i64]) v1) :
    Calls Try.prog 4 #[v0, v1] w fun e w' => e = .returned (.bool true) ∧ Below w.heap.size w w' := Sl.slotsCrowd_walk v0 v1 w s0 s1
end Go.Proofs.Ytlahpnigabfenaa
