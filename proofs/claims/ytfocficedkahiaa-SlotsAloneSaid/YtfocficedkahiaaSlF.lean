/- SlF: several texts in one. -/
import Derived.Test.YtfocficedkahiaaSlA
/- Layer 17: the walk of SlotsAlone. -/
namespace Go.Proofs.Ytfocficedkahiaa.Sl
open Go.RowKit WordM EdgeM
set_option linter.unusedVariables false
set_option linter.unusedSimpArgs false
set_option maxRecDepth 16000 in
set_option maxHeartbeats 8000000 in
theorem slotsAlone_walk (v0 v1 : Value) (w : World) (s0 : Fr.okN w [.int .i64, .int .i64, .int .u64] v0) (s1 : Fr.ok1 w (.slice [.int .i64]) v1) :
    Calls Try.prog 4 #[v0, v1] w fun e w' => e = .returned (.bool true) ∧ Below w.heap.size w w' := by
  obtain ⟨cs, rfl, h⟩ := s0
  obtain ⟨_, _, rfl, k0, h⟩ := Fr.get_cons h
  obtain ⟨_, _, rfl, k1, h⟩ := Fr.get_cons h
  obtain ⟨_, _, rfl, k2, h⟩ := Fr.get_cons h
  obtain rfl := Fr.get_nil h
  obtain ⟨T, rfl, _⟩ := Fr.get_int k0
  obtain ⟨S, rfl, _⟩ := Fr.get_int k1
  obtain ⟨Kc, rfl, _⟩ := Fr.get_int k2
  obtain ⟨ao, len, cap, rfl, l1, l2, hl⟩ := il_open s1
  have HL := Lib.hid hl
  clear k0 k1 k2 h s1 hl
  show Calls Try.prog _ #[.agg #[.int .i64 T, .int .i64 S, .int .u64 Kc], _] w _
  refine Calls.veil fun Q HQ => ?_
  go_enter Try.func4, Try.ntmps4
  go_upto_region 1 with fail
  generalize hV : World.alloc _ _ = U
  obtain ⟨u0, hbu⟩ := Th.heapnewE hV
  obtain ⟨cb, hcb⟩ : ∃ cb, cb = w.heap.size := ⟨_, rfl⟩
  rw [← hcb] at u0 ⊢
  have HC := Lib.hid u0; have HBU := Lib.hid hbu
  have HCB := Lib.hid hcb
  clear hV u0 hbu hcb
  have o0 := Th.newcell HC.out 0 _ rfl; have o1 := Th.newcell HC.out 1 _ rfl; have o2 := Th.newcell HC.out 2 _ rfl
  go_wp2_with fail
  refine (rmay_calls T S Kc _).mono ?_; rintro _ w1 ⟨rfl, hb⟩
  have HC1 := Lib.hid (Th.up hb HC.out)
  have HB1 := Lib.hid (below_on HBU.out hb)
  clear hb HC HBU o0 o1 o2
  cases hmay : mayC T S Kc with
  | false =>
    clear hmay
    go_wp2_with fail
    refine (lives17_calls _).mono ?_; rintro _ w3 ⟨rfl, hb⟩
    have HB3 := Lib.hid (below_on HB1.out hb)
    clear hb
    go_wp2_with fail
    (try go_ret)
    rw [HQ.out]
    exact ⟨rfl, HB3.out⟩
  | true =>
  have hm := mayC_true hmay
  obtain ⟨t, rfl⟩ : ∃ t : Nat, T = t := ⟨T.toNat, by omega⟩
  obtain ⟨s, rfl⟩ : ∃ s : Nat, S = s := ⟨S.toNat, by omega⟩
  have HM := Lib.hid hmay
  have t1 : 1 ≤ t := by omega
  have t6 : t ≤ 6 := by omega
  have s1 : 7 ≤ s := by omega
  have s2 : s ≤ 250 := by omega
  clear hmay hm
  by_cases h60 : 60 < len
  · have h60' : (60 : Int) < len := by omega
    go_wp2_with fail
    refine (lives17_calls _).mono ?_; rintro _ w3 ⟨rfl, hb⟩
    have HB3 := Lib.hid (below_on HB1.out hb)
    clear hb
    go_wp2_with fail
    (try go_ret)
    rw [HQ.out]
    exact ⟨rfl, HB3.out⟩
  have h60' : ¬ (60 : Int) < len := by omega
  have o0 := Th.newcell HC1.out 0 _ rfl; have o1 := Th.newcell HC1.out 1 _ rfl; have o2 := Th.newcell HC1.out 2 _ rfl
  go_wp2_with fail
  refine (cnewI (t := t) (s := s) _ HM.out).mono ?_; rintro _ w2 ⟨q, pl, mb, mg, C, gq, gg, gm, fv, tq, rfl, hmi, hb, hin⟩
  have hm0 := MM.init hmi hin
  obtain ⟨P, hP⟩ : ∃ P : Pc, P = ⟨w1.heap.size, q, pl, mb, mg, C, gq, gg, gm, fv, tq, t, s, Kc, w2.heap.size⟩ := ⟨_, rfl⟩
  rw [← hP] at hm0
  have eq1 : q = P.q := by rw [hP]
  have HE := Lib.hid (show P.t = t ∧ P.s = s ∧ P.B = w1.heap.size ∧ P.N = w2.heap.size ∧ P.K = Kc from by rw [hP]; exact ⟨rfl, rfl, rfl, rfl, rfl⟩)
  rw [eq1]
  have HM2 := Lib.hid hm0
  have HC2 := Lib.hid (Th.up hb HC1.out); have HB2 := Lib.hid (below_on HB1.out hb)
  have HBN := Lib.hid hb.size
  have HCW := Lib.hid (show cb < w1.heap.size from Th.blk_lt HC1.out)
  clear hmi hb hin hP eq1 hm0 o0 o1 o2 HC1
  have o0 := Th.newcell HC2.out 0 _ rfl; have o1 := Th.newcell HC2.out 1 _ rfl; have o2 := Th.newcell HC2.out 2 _ rfl
  go_wp2_with fail
  refine (rnew s s1 s2 w2).mono ?_; rintro _ w3 ⟨v', rfl, hfv, hb⟩
  obtain ⟨pa, ca, pb, cb', rfl, _, _, _⟩ := hfv.sh
  simp only [List.length_replicate] at hfv
  have HM3 := Lib.hid (HM2.out.below hb); have HC3 := Lib.hid (Th.up hb HC2.out); have HB3 := Lib.hid (below_on HB2.out hb); have HF3 := Lib.hid hfv
  have HS3 := Lib.hid hb.size
  clear hb hfv o0 o1 o2 HC2
  go_upto_region 7 with fail
  generalize hV : World.alloc w3 _ = W
  obtain ⟨u0, hbu⟩ := Th.heapnewE hV
  obtain ⟨b7, hb7⟩ : ∃ b7, b7 = w3.heap.size := ⟨_, rfl⟩
  rw [← hb7] at u0 ⊢
  have HR0 : Hid (∃ σ L Gn E, FI P σ L Gn E 0 ∧ MM W P σ ∧ LR w W P cb b7 L Gn E (.slice none 0 0) ∧ E.length ≤ 0) := Lib.hid ⟨sgInit t s, frees s, List.replicate s 0, [], FI.init P HE.out.1 HE.out.2.1 s1 s2, HM3.out.below hbu,
    ⟨⟨_, _, u0, by rw [HE.out.2.2.2.1]; exact HF3.out.below hbu⟩, own_nil _ _, by rw [HE.out.1, HE.out.2.1, HE.out.2.2.2.2]; exact Th.up hbu HC3.out, below_on HB3.out hbu, by rw [HE.out.2.2.2.1, HE.out.2.2.1]; have := HS3.out; have := HCW.out; have := HB1.out.size; omega⟩, Nat.le_refl _⟩
  have HBN2 := Lib.hid (show P.B ≤ P.N by rw [HE.out.2.2.1, HE.out.2.2.2.1]; exact HBN.out)
  clear hV u0 hbu hb7 HM3 HC3 HB3 HF3 HS3 HM2 HB2
  go_wp2_with fail
  go_loopw [8, 9] (fun hv iv wr => ∃ i : Nat, i ≤ len ∧ iv = .int .i64 i ∧ Hid (∃ σ L Gn E, FI P σ L Gn E i ∧ MM wr P σ ∧ LR w wr P cb b7 L Gn E hv ∧ E.length ≤ i)) (fun _ iv _ => len - (intOf iv).toNat)
  case atStart => exact ⟨0, by omega, rfl, HR0⟩
  case round =>
    obtain ⟨i, hi, rfl, HR⟩ := hrel
    obtain ⟨σ, L, Gn, E, hfi, hmm, hlr, hel⟩ := HR.out
    obtain ⟨ph, ch, rfl, h1, h2⟩ := own_slice hlr.own
    have HFI := Lib.hid hfi; have HMM := Lib.hid hmm; have HLR := Lib.hid hlr
    have hcf := hlr.cf
    rw [HE.out.1, HE.out.2.1, HE.out.2.2.2.2] at hcf
    have HCF := Lib.hid hcf
    clear hfi hmm hlr HR hcf
    rcases (by omega : i < len ∨ i = len) with hlt | rfl
    · obtain ⟨g, off, rfl, x, hx⟩ := HL.out i hlt
      have HX := Lib.hid hx
      have x0 : wr.cell? ⟨g, off + i, none⟩ = some (.int .i64 x) := Ext.cell ⟨wr, HLR.out.bl⟩ hx
      have o0 := Th.newcell HCF.out 0 _ rfl
      have hji : (i : Int) < len := by omega
      clear hx
      by_cases hxe : (E.length : Int) ≤ x
      · have hge : (E.length : Int) ≤ x := by omega
        go_wp2_with fail
        go_roundw
        case rel => exact ⟨i + 1, by omega, by go_num, Lib.hid ⟨σ, L, Gn, E, HFI.out.mono (by omega), HMM.out, HLR.out, by omega⟩⟩
        case measure => simp [intOf]; omega
      by_cases hxn : x < 0
      · have hlt2 : ¬ ((E.length : Int) ≤ x) := by omega
        have hx0 : x < 0 := hxn
        go_upto_region 14 with fail
        clear o0 hlt2 hx0
        obtain ⟨k, hk⟩ : ∃ k : Nat, k = i % t := ⟨_, rfl⟩
        have hkt : ((i : Int) % (t : Int)) = (k : Int) := by rw [hk]; simp
        have HK := Lib.hid (show k < P.t by rw [hk, HE.out.1]; exact Nat.mod_lt _ (by omega))
        rw [hkt]
        clear hk hkt
        go_wp2_with fail
        refine (atake HMM.out HFI.out (by omega) HK.out).mono ?_; rintro _ w4 ⟨n, σ', rfl, hn4, hm4, hk4, hf4, hr4⟩
        obtain ⟨L', hL'⟩ : ∃ L', L' = L.tail := ⟨_, rfl⟩
        rw [← hL'] at hf4
        have HLT := Lib.hid hL'
        clear hL'
        have HM4 := Lib.hid hm4; have HF4 := Lib.hid hf4; have HL4 := Lib.hid (HLR.out.ka hk4); have HR4 := Lib.hid hr4
        clear hm4 hk4 hf4 hr4 x0
        obtain ⟨af, bf, hcf, hff⟩ := HL4.out.fv
        obtain ⟨pf, kf, pg, kg, he, hf1, hf2, hf3⟩ := hff.sh
        simp only [Value.agg.injEq, Array.mk.injEq, List.cons.injEq, and_true] at he
        obtain ⟨rfl, rfl⟩ := he
        have HFF := Lib.hid hff
        have z0 := Th.newcell hcf 0 _ rfl; have z1 := Th.newcell hcf 1 _ rfl
        have HCf := Lib.hid (show Th.Blk 43 w4 b7 2 (fun j => if j = 0 then .slice pf L.length kf else .slice pg Gn.length kg) from hcf)
        clear hff hf3 hcf
        go_wp2_with fail
        refine (rtakeL HFF.out (fun a ha => by have := HFI.out.si.mem ha; have := HFI.out.si.gl; omega) (by have := HFI.out.si.gl; have := HMM.out.bd; omega)).mono ?_; rintro _ w5 ⟨v5, rfl, hf5, hb5⟩
        rw [← HLT.out] at hf5
        obtain ⟨pa5, ca5, pb5, cb5, rfl, _, _, _⟩ := hf5.sh
        have HC5 := Lib.hid (HCf.out.below hb5)
        have HM5 := Lib.hid (HM4.out.below hb5); have HL5 := Lib.hid (HL4.out.below hb5); have HF5 := Lib.hid hf5
        clear hf5 hb5 z0 z1
        have hhd : hdN L ≤ 250 := by have := hd_le HFI.out.si.lk 0; have := HMM.out.bd; simp only [List.drop_zero] at *; omega
        go_upto_region 16 with fail
        generalize hV : World.alloc w5 _ = W5
        obtain ⟨u0, hbu⟩ := Th.heapnewE hV
        obtain ⟨b13, hb13⟩ : ∃ b13, b13 = w5.heap.size := ⟨_, rfl⟩
        rw [← hb13] at u0 ⊢
        have HM6 := Lib.hid (HM5.out.below hbu); have HL6 := Lib.hid (HL5.out.below hbu); have HF6 := Lib.hid (HF5.out.below hbu)
        have y0 := Th.newcell u0 0 _ rfl; have y1 := Th.newcell u0 1 _ rfl
        have hF := HC5.out.below hbu
        have n0 := hF.get (i := 0) (by omega); have f0 := hF.fr 0
        have n1 : ∀ u, (W5.setCell ⟨b7, 0, none⟩ u).cell? ⟨b7, 1, none⟩ = some (.slice pg Gn.length kg) := fun u => (hF.set 0 u).get (i := 1) (by omega)
        have f1 : ∀ u, (W5.setCell ⟨b7, 0, none⟩ u).frozen? ⟨b7, 1, none⟩ = false := fun u => (hF.set 0 u).fr 1
        have HL7 := Lib.hid (HL6.out.put HF6.out HBN2.out); have HM7 := Lib.hid (MM.put HM6.out hF HLR.out.n7.1 (.slice pa5 L'.length ca5) (.slice pb5 Gn.length cb5))
        clear hV u0 hbu hb13 HM5 HL5 HF5 hF HM4 HL4
        go_upto_region 17 with fail
        generalize hW6 : World.setCell (World.setCell W5 _ _) _ _ = W6
        rw [hW6] at HL7 HM7
        clear hW6 n0 f0 n1 f1 y0 y1 HM6 HL6
        have hgn0 : 0 ≤ gnN Gn L := by
          cases L with
          | nil => exact Int.le_refl _
          | cons a r => obtain ⟨a1, a2⟩ := HFI.out.si.mem (List.mem_cons_self (a := a) (l := r)); exact (HFI.out.si.gn a a1 a2).2.2.1
        have hn5 : ¬ (4 : Int) < n := by omega
        go_wp2_with fail
        refine (emake_calls (hdN L) (gnN Gn L) W6 hgn0).mono ?_; rintro _ _ ⟨rfl, rfl⟩
        obtain ⟨e, he⟩ : ∃ e, e = makeI (hdN L) (gnN Gn L) := ⟨_, rfl⟩
        have HEE := Lib.hid he
        rw [← he]
        clear he
        go_wp2_with fail
        refine (cThread_yes HM7.out.c k HK.out).mono ?_; rintro _ w8 ⟨rfl, hb8⟩
        have HM8 := Lib.hid (HM7.out.below hb8); have HL8 := Lib.hid (HL7.out.below hb8)
        clear hb8
        have r0 : w8.cell? ⟨P.tq k, 0, none⟩ = some (.int .u64 e) := by have := HM8.out.ret HK.out (i := 0) (by omega); rw [HR4.out, ← HEE.out] at this; exact this
        by_cases hz : hdN L = 0
        · have hL0 : tkE E Gn L = E := by
            cases L with
            | nil => rfl
            | cons a r => have := HFI.out.si.mem (List.mem_cons_self (a := a) (l := r)); exact absurd hz (by show ¬ a = 0; omega)
          have hf9 := HF4.out
          rw [hL0] at hf9
          have HFz := Lib.hid hf9
          have HMz := HM8; have HLz := HL8
          have hz2 : ((hdN L : Int) != 0) = false := by simp [hz]
          have hEl : E.length ≤ i + 1 := by omega
          clear hf9 hL0 hz
          go_wp2_with fail
          have hbz := HMz.out.bd
          refine (lchain HMz.out HFz.out.si.lk HFz.out.si.len HFz.out.si.ne HFz.out.si.no).mono ?_; rintro _ wc ⟨vc, rfl, hvc, hbc⟩
          obtain ⟨pc, cc, rfl, _, _, hpc⟩ := hvc.parts
          rw [ints_len] at hpc
          simp only [ints_len]
          have HPC := Lib.hid hpc.out
          have HMc := Lib.hid (HMz.out.below hbc); have HLc := Lib.hid (HLz.out.below hbc)
          clear hvc hbc hpc HMz HLz
          obtain ⟨af, bf, hcf, hff⟩ := HLc.out.fv
          obtain ⟨pf, kf, pg, kg, he, hf1, hf2, hf3⟩ := hff.sh
          simp only [Value.agg.injEq, Array.mk.injEq, List.cons.injEq, and_true] at he
          obtain ⟨rfl, rfl⟩ := he
          have HF3 := Lib.hid hf3
          obtain ⟨n, hn⟩ : ∃ n, n = (L').length := ⟨_, rfl⟩
          have HN := Lib.hid hn
          have hn2 : n ≤ 250 := by rw [hn]; have := HFz.out.si.len; omega
          rw [← hn] at hcf hf1 ⊢
          have z0 := Th.newcell hcf 0 _ rfl
          have HCc := Lib.hid hcf
          clear hcf hff hf3 hn
          go_wp2_with fail
          have hfl := HMc.out.c
          rw [HFz.out.sl] at hfl
          refine (cFault hfl).mono ?_; rintro _ wd ⟨rfl, hbd⟩
          rw [HFz.out.od, HFz.out.fl]
          have HMd := Lib.hid (HMc.out.below hbd); have HLd := Lib.hid (HLc.out.below hbd); have HBd := Lib.hid hbd
          clear hbd hfl z0 HMc
          go_wp2_with fail

          go_loopw [22] (fun jv wr => ∃ j : Nat, j ≤ n ∧ jv = .int .i64 j ∧ Hid (Below wd.heap.size wd wr)) (fun jv _ => n - (intOf jv).toNat)
          case atStart => exact ⟨0, by omega, rfl, Lib.hid (Below.refl _ _)⟩
          case round =>
            obtain ⟨j, hj, rfl, HJ⟩ := hrel
            have hbj := below_on HBd.out HJ.out
            rcases (by omega : j < n ∨ j = n) with hjl | hje
            · obtain ⟨g1, o1, rfl, _, _, k1⟩ := HPC.out (by rw [← HN.out]; omega)
              obtain ⟨g2, o2, rfl, k2⟩ := HF3.out.out (by rw [← HN.out]; omega)
              have hjL : j < (L').length := by rw [← HN.out]; exact hjl
              have b1 := Ext.cell ⟨wr, hbj⟩ (k1 j _ (ints_get hjL))
              have b2 := Ext.cell ⟨wr, hbj⟩ (k2 j hjL)
              have b0 := Ext.cell ⟨wr, hbj⟩ (Th.newcell HCc.out 0 _ rfl)
              simp only at b0 b1 b2
              have HBJ := Lib.hid hbj
              generalize (((L')[j] : Nat) : Int) = y at b1 b2
              have hjn : (j : Int) < n := by omega
              clear k1 k2 hbj
              go_upto_region 34 with fail
              go_region
              go_wp2_with fail
              go_roundw
              case rel => exact ⟨j + 1, by omega, by go_num, Lib.hid HJ.out.drew⟩
              case measure => simp [intOf]; omega
            · have hge : ¬ ((j : Int) < n) := by omega
              clear hje hbj
              go_wp2_with fail
              go_roundw
              case rel => exact ⟨i + 1, by omega, by go_num, Lib.hid ⟨σ', L', Gn, E, HFz.out, HMd.out.below HJ.out, HLd.out.below HJ.out, hEl⟩⟩
              case measure => simp [intOf]; omega
        · have hL0 : tkE E Gn L = E ++ [e] := by
            rw [HEE.out]
            cases L with
            | nil => exact absurd rfl hz
            | cons a r => rfl
          obtain ⟨E9, hE9⟩ : ∃ E9, E9 = E ++ [e] := ⟨_, rfl⟩
          have HE9 := Lib.hid hE9
          rw [← hE9] at hL0
          have hEl : E9.length ≤ i + 1 := by rw [hE9]; simp; omega
          clear hE9
          have hf9 := HF4.out
          rw [hL0] at hf9
          have HFz := Lib.hid hf9
          have hz2 : ((hdN L : Int) != 0) = true := by simp; exact hz
          clear hf9 hL0 hz
          go_wp2_with (at_builtin; refine wpList_append_v uSE infE rfl rfl (.tmp 99) (.tmp 101) rfl P.N w8.heap.size _ _ (wds E) [.int .u64 e] rfl (by rw [wds_len]; exact own_below HL8.out.own ((Below.refl _ _).alloc (Nat.le_refl _) _)) rfl (one_VR _ rfl) (by simp [Value.oneCell']) (by rw [wds_len]; simp; omega) (by have := HM8.out.NS; simp; omega) ?_)
          intro v9 w9 hown hgrow
          have hown : w9.ownsRow P.N 50 1 v9 E9.length (wds E9) := by
            rw [HE9.out]
            have h9 := hown
            have e9 : wds E ++ [.int .u64 e] = wds (E ++ [e]) := by simp [wds]
            rw [e9] at h9
            simpa [wds] using h9
          have HA8 := HL8.out.below ((Below.refl _ _).alloc (Nat.le_refl _) (.cells #[.int .u64 e] 50))
          have HMz := Lib.hid (MM.grown (HM8.out.below ((Below.refl _ _).alloc (Nat.le_refl _) (.cells #[.int .u64 e] 50))) HA8.own hgrow)
          have HLz := Lib.hid (HA8.grown hgrow HBN2.out hown)
          obtain ⟨p9, k9, rfl, _, _⟩ := own_slice hown
          clear hown hgrow HA8 r0
          go_wp2_with fail
          have hbz := HMz.out.bd
          refine (lchain HMz.out HFz.out.si.lk HFz.out.si.len HFz.out.si.ne HFz.out.si.no).mono ?_; rintro _ wc ⟨vc, rfl, hvc, hbc⟩
          obtain ⟨pc, cc, rfl, _, _, hpc⟩ := hvc.parts
          rw [ints_len] at hpc
          simp only [ints_len]
          have HPC := Lib.hid hpc.out
          have HMc := Lib.hid (HMz.out.below hbc); have HLc := Lib.hid (HLz.out.below hbc)
          clear hvc hbc hpc HMz HLz
          obtain ⟨af, bf, hcf, hff⟩ := HLc.out.fv
          obtain ⟨pf, kf, pg, kg, he, hf1, hf2, hf3⟩ := hff.sh
          simp only [Value.agg.injEq, Array.mk.injEq, List.cons.injEq, and_true] at he
          obtain ⟨rfl, rfl⟩ := he
          have HF3 := Lib.hid hf3
          obtain ⟨n, hn⟩ : ∃ n, n = (L').length := ⟨_, rfl⟩
          have HN := Lib.hid hn
          have hn2 : n ≤ 250 := by rw [hn]; have := HFz.out.si.len; omega
          rw [← hn] at hcf hf1 ⊢
          have z0 := Th.newcell hcf 0 _ rfl
          have HCc := Lib.hid hcf
          clear hcf hff hf3 hn
          go_wp2_with fail
          have hfl := HMc.out.c
          rw [HFz.out.sl] at hfl
          refine (cFault hfl).mono ?_; rintro _ wd ⟨rfl, hbd⟩
          rw [HFz.out.od, HFz.out.fl]
          have HMd := Lib.hid (HMc.out.below hbd); have HLd := Lib.hid (HLc.out.below hbd); have HBd := Lib.hid hbd
          clear hbd hfl z0 HMc
          go_wp2_with fail

          go_loopw [22] (fun jv wr => ∃ j : Nat, j ≤ n ∧ jv = .int .i64 j ∧ Hid (Below wd.heap.size wd wr)) (fun jv _ => n - (intOf jv).toNat)
          case atStart => exact ⟨0, by omega, rfl, Lib.hid (Below.refl _ _)⟩
          case round =>
            obtain ⟨j, hj, rfl, HJ⟩ := hrel
            have hbj := below_on HBd.out HJ.out
            rcases (by omega : j < n ∨ j = n) with hjl | hje
            · obtain ⟨g1, o1, rfl, _, _, k1⟩ := HPC.out (by rw [← HN.out]; omega)
              obtain ⟨g2, o2, rfl, k2⟩ := HF3.out.out (by rw [← HN.out]; omega)
              have hjL : j < (L').length := by rw [← HN.out]; exact hjl
              have b1 := Ext.cell ⟨wr, hbj⟩ (k1 j _ (ints_get hjL))
              have b2 := Ext.cell ⟨wr, hbj⟩ (k2 j hjL)
              have b0 := Ext.cell ⟨wr, hbj⟩ (Th.newcell HCc.out 0 _ rfl)
              simp only at b0 b1 b2
              have HBJ := Lib.hid hbj
              generalize (((L')[j] : Nat) : Int) = y at b1 b2
              have hjn : (j : Int) < n := by omega
              clear k1 k2 hbj
              go_upto_region 34 with fail
              go_region
              go_wp2_with fail
              go_roundw
              case rel => exact ⟨j + 1, by omega, by go_num, Lib.hid HJ.out.drew⟩
              case measure => simp [intOf]; omega
            · have hge : ¬ ((j : Int) < n) := by omega
              clear hje hbj
              go_wp2_with fail
              go_roundw
              case rel => exact ⟨i + 1, by omega, by go_num, Lib.hid ⟨σ', L', Gn, E9, HFz.out, HMd.out.below HJ.out, HLd.out.below HJ.out, hEl⟩⟩
              case measure => simp [intOf]; omega
      · obtain ⟨j, rfl⟩ : ∃ j : Nat, x = j := ⟨x.toNat, by omega⟩
        have hjE : j < E.length := by omega
        have hlt2 : ¬ ((E.length : Int) ≤ (j : Int)) := by omega
        have hx0 : ¬ ((j : Int) < 0) := by omega
        obtain ⟨gh, c9, cur9, hph, _, _, hch, _, _, e4⟩ := own_cons HLR.out.own (by omega)
        simp only [Value.slice.injEq, true_and] at hph
        obtain ⟨rfl, rfl⟩ := hph
        obtain ⟨e, he⟩ : ∃ e, e = E[j] := ⟨_, rfl⟩
        have y0 : wr.cell? ⟨gh, j, none⟩ = some (.int .u64 e) := e4 j _ hjE (by rw [he]; exact wds_get hjE)
        have HEE := Lib.hid (show E = E.take j ++ e :: E.drop (j + 1) by rw [he, ← List.drop_eq_getElem_cons hjE, List.take_append_drop])
        have hHA : VR P.N 50 wr (.slice (some ⟨gh, 0, none⟩) j ch) (wds (E.take j)) := by
          have := own_ahead HLR.out.own (by rw [wds_len]) (show j ≤ E.length by omega)
          rwa [show (wds E).take j = wds (E.take j) by simp [wds, List.map_take]] at this
        have hHB : VR P.N 50 wr (.slice (some (if ch = j + 1 then (⟨gh, 0, none⟩ : Addr) else ⟨gh, j + 1, none⟩)) (E.length - (j + 1)) (ch - (j + 1))) (wds (E.drop (j + 1))) := by
          have := own_behind HLR.out.own (by rw [wds_len]) (show j + 1 ≤ E.length by omega)
          rw [show (wds E).drop (j + 1) = wds (E.drop (j + 1)) by simp [wds, List.map_drop]] at this
          by_cases hc : ch = j + 1
          · rw [if_pos hc]
            exact VR.emp (by rw [List.drop_eq_nil_of_le (by omega)]; rfl) (by omega) (by omega)
          · rw [if_neg hc]; exact this
        have HHA := Lib.hid hHA; have HHB := Lib.hid hHB
        have HEL := Lib.hid hel
        clear e4 he hHA hHB hxe hxn
        go_upto_region 23 with fail
        clear o0 hlt2 hx0 y0
        obtain ⟨k, hk⟩ : ∃ k : Nat, k = i % t := ⟨_, rfl⟩
        have hkt : ((i : Int) % (t : Int)) = (k : Int) := by rw [hk]; simp
        have HK := Lib.hid (show k < P.t by rw [hk, HE.out.1]; exact Nat.mod_lt _ (by omega))
        rw [hkt]
        clear hk hkt
        have dx : ∀ y : Ext wr, y.w.cell? ⟨g, off + i, none⟩ = some (.int .i64 j) := Ext.cells x0
        clear x0
        (with_reducible refine wp_region_mix (fun w' => ∃ y : Ext wr, w' = y.w) ?_ ?_ ?_ ?_; kernel_rfl; kernel_rfl; exact ⟨⟨wr.drew, (Below.refl _ _).drew⟩, rfl⟩)
        obtain ⟨y0, hy0⟩ : ∃ y : Ext wr, y.w = wr.drew := ⟨⟨wr.drew, (Below.refl _ _).drew⟩, rfl⟩
        rw [← hy0]
        clear hy0
        (with_reducible refine wpMix_chain (by kernel_rfl) (by kernel_rfl) (fun K HKK => ?_))
        go_step
        obtain ⟨y1, hy1⟩ : ∃ y : Ext wr, y.w = y0.w.alloc (.cells #[] 50) := ⟨⟨_, y0.h.alloc y0.h.size _⟩, rfl⟩
        have ho1 : y1.w.ownsRow wr.heap.size 50 1 (.slice (some ⟨y0.w.heap.size, 0, none⟩) 0 0) ([] : List Value).length [] := by rw [hy1]; exact own_mono (own_none _) y0.h.size
        rw [← hy1]
        refine HKK.out _ _ ⟨y1, rfl⟩ ?_
        clear HKK K hy1
        repeat (first | ((with_reducible refine mix_skip (by kernel_rfl) ?_); go_big_quiet_skip; (with_reducible refine mix_on ?_)) | ((with_reducible refine mix_plain (by kernel_rfl) ?_); (first | go_big_quiet_skip | (go_big_quiet_want; go_big_quiet_op; go_big_quiet_on)); (with_reducible refine mix_on ?_)))
        (with_reducible refine wpMix_chain (by kernel_rfl) (by kernel_rfl) (fun K HKK => ?_))
        refine wp_append_v uSE infE rfl (.tmp 110) (.tmp 116) rfl wr.heap.size P.N _ ⟨gh, 0, none⟩ j ch [] (wds (E.take j)) rfl ho1 rfl (HHA.out.below y1.h) (wds_one _) (by rw [wds_len]; simp; omega) y1.h.size ?_
        intro v2 w2 hown2 hgrow2
        have hb2 : Below wr.heap.size wr w2 := y1.h.grown hgrow2 y1.h.size (own_ge ho1)
        obtain ⟨y2, hy2⟩ : ∃ y : Ext wr, y.w = w2 := ⟨⟨w2, hb2⟩, rfl⟩
        rw [← hy2] at hown2 ⊢
        refine HKK.out _ _ ⟨y2, rfl⟩ ?_
        clear HKK K hgrow2 hb2 hy2 ho1
        have hown2 : y2.w.ownsRow wr.heap.size 50 1 v2 (wds (E.take j)).length (wds (E.take j)) := hown2
        (try simp only [List.getElem_toArray, List.getElem_cons_succ, List.getElem_cons_zero, Act.put, List.setIfInBounds_toArray, List.set_cons_succ, List.set_cons_zero])
        repeat (first | ((with_reducible refine mix_skip (by kernel_rfl) ?_); go_big_quiet_skip; (with_reducible refine mix_on ?_)) | ((with_reducible refine mix_plain (by kernel_rfl) ?_); (first | go_big_quiet_skip | (go_big_quiet_want; go_big_quiet_op; go_big_quiet_on)); (with_reducible refine mix_on ?_)))
        (with_reducible refine wpMix_chain (by kernel_rfl) (by kernel_rfl) (fun K HKK => ?_))
        refine wp_append_v uSE infE rfl (.tmp 117) (.tmp 124) rfl wr.heap.size P.N _ _ (E.length - (j + 1)) (ch - (j + 1)) (wds (E.take j)) (wds (E.drop (j + 1))) rfl hown2 (by
          show Value.slice (if ch = j + 1 then some (⟨gh, 0, none⟩ : Addr) else some ⟨gh, j + 1, none⟩) (E.length - (j + 1)) (ch - (j + 1)) = Value.slice (some (if ch = j + 1 then (⟨gh, 0, none⟩ : Addr) else ⟨gh, j + 1, none⟩)) (E.length - (j + 1)) (ch - (j + 1))
          by_cases hc : ch = j + 1
          · rw [if_pos hc, if_pos hc]
          · rw [if_neg hc, if_neg hc]) (HHB.out.below y2.h) (wds_one _) (by rw [wds_len, wds_len]; simp; omega) y2.h.size ?_
        intro v3 w3 hown3 hgrow3
        have hb3 : Below wr.heap.size wr w3 := y2.h.grown hgrow3 y2.h.size (own_ge hown2)
        obtain ⟨E9, hE9⟩ : ∃ E9, E9 = E.take j ++ E.drop (j + 1) := ⟨_, rfl⟩
        have hEl : E9.length ≤ i + 1 := by rw [hE9]; simp; omega
        have hown3 : w3.ownsRow wr.heap.size 50 1 v3 E9.length (wds E9) := by
          have h9 := hown3
          rw [← wds_app, ← hE9, wds_len] at h9
          exact h9
        have HE9 := Lib.hid hE9
        obtain ⟨p9, k9, rfl, _, _⟩ := own_slice hown3
        obtain ⟨y3, hy3⟩ : ∃ y : Ext wr, y.w = w3 := ⟨⟨w3, hb3⟩, rfl⟩
        have HO3 := Lib.hid hown3; have HB3 := Lib.hid hb3
        rw [← hy3]
        refine HKK.out _ _ ⟨y3, rfl⟩ ?_
        rw [hy3]
        clear HKK K hgrow3 hb3 hown2 hown3 hE9 HHA HHB hy3 y3
        (try simp only [List.getElem_toArray, List.getElem_cons_succ, List.getElem_cons_zero, Act.put, List.setIfInBounds_toArray, List.set_cons_succ, List.set_cons_zero])
        repeat (first | ((with_reducible refine mix_skip (by kernel_rfl) ?_); go_big_quiet_skip; (with_reducible refine mix_on ?_)) | ((with_reducible refine mix_plain (by kernel_rfl) ?_); (first | go_big_quiet_skip | (go_big_quiet_want; go_big_quiet_op; go_big_quiet_on)); (with_reducible refine mix_on ?_)))
        refine wpMix_nil ?_
        generalize (if ch = j + 1 then some (⟨gh, 0, none⟩ : Addr) else some ⟨gh, j + 1, none⟩) = ap
        have HM3 := Lib.hid (HMM.out.below HB3.out)
        have HL3 := Lib.hid (show LR w w3 P cb b7 L Gn E9 (.slice p9 E9.length k9) from by
          have l := HLR.out.below HB3.out
          exact ⟨l.fv, own_mono HO3.out HMM.out.NS, l.cf, l.bl, l.n7⟩)
        clear dx
        go_upto_region 24 with fail
        have he0 := (HFI.out.hd.ld e (by rw [HEE.out]; exact List.mem_append.2 (.inr List.mem_cons_self))).1
        have hf3 := HFI.out
        rw [HEE.out] at hf3
        have HF3 := Lib.hid hf3
        clear hf3
        go_wp2_with fail
        generalize hV : World.alloc w3 _ = W4
        obtain ⟨u0, hbu⟩ := Th.heapnewE hV
        have HM4 := Lib.hid (HM3.out.below hbu); have HL4 := Lib.hid (HL3.out.below hbu)
        have hur : Th.UR W4 (.slice (some ⟨w3.heap.size, 0, none⟩) 1 1) 1 (fun _ => e) := Th.UR.row _ 0 1 1 _ (by omega) (by omega) (fun i0 hi0 => by rw [show i0 = 0 by omega]; exact Th.newcell u0 0 _ rfl)
        clear hV u0 hbu HM3 HL3
        refine (agive HM4.out HF3.out (by omega) HK.out (R := fun _ => e) rfl hur).mono ?_; rintro _ w5 ⟨a, σ', rfl, ha, a1, a2, hm5, hk5, hf5⟩
        rw [← HE9.out] at hf5
        obtain ⟨L9, hL9⟩ : ∃ L9, L9 = a :: L := ⟨_, rfl⟩
        obtain ⟨G9, hG9⟩ : ∃ G9, G9 = Gn.set (a - 1) (Gn.getD (a - 1) 0 + 1) := ⟨_, rfl⟩
        rw [← hL9, ← hG9] at hf5
        have HL9 := Lib.hid hL9; have HG9 := Lib.hid hG9
        have HM5 := Lib.hid hm5; have HFz := Lib.hid hf5; have HL5 := Lib.hid (HL4.out.ka hk5); have HA := Lib.hid ha
        clear hm5 hk5 hf5 hur hL9 hG9 ha HM4 HL4
        obtain ⟨af, bf, hcf, hff⟩ := HL5.out.fv
        obtain ⟨pf, kf, pg, kg, he, hf1, hf2, hf3⟩ := hff.sh
        simp only [Value.agg.injEq, Array.mk.injEq, List.cons.injEq, and_true] at he
        obtain ⟨rfl, rfl⟩ := he
        have HFF := Lib.hid hff
        have HCf := Lib.hid (show Th.Blk 43 w5 b7 2 (fun j => if j = 0 then .slice pf L.length kf else .slice pg Gn.length kg) from hcf)
        have HLD := Lib.hid (show ∀ y : Ext w5, (Instr.loadAt 43 (.pointer (some ⟨b7, 0, none⟩))).run Try.prog y.w = .ok (.agg #[.slice pf L.length kf, .slice pg Gn.length kg]) y.w from fun y => by have z0 := Ext.cells (Th.newcell hcf 0 _ rfl) y; have z1 := Ext.cells (Th.newcell hcf 1 _ rfl) y; go_simp)
        clear hff hf3 hcf
        go_upto_region 25 with fail
        refine Th.wp_region_K (fun w' => ∃ y : Ext w5, w' = y.w) 4 (by decide +kernel) ?_
        generalize hwd : World.drew w5 = wd
        have hbd : Below w5.heap.size w5 wd := by rw [← hwd]; exact (Below.refl _ _).drew
        clear hwd
        (refine Th.wpAnyK_take (i := 0) (v := .agg #[.slice pf L.length kf, .slice pg Gn.length kg]) [3, 4] rfl (by decide +kernel) (by decide +kernel) (by decide +kernel) (by decide +kernel) (fun _ _ _ h => h) (Th.yields_loadK rfl 43 (.tmp 7) rfl rfl (by rintro _ ⟨y, rfl⟩; exact HLD.out y)) ⟨⟨wd, hbd⟩, rfl⟩ ?_)
        (try simp only [List.getElem_toArray, List.getElem_cons_succ, List.getElem_cons_zero, Act.put, List.setIfInBounds_toArray, List.set_cons_succ, List.set_cons_zero])
        (refine Th.wpAnyK_takeY (i := 1) (v := ?_) rfl (by decide +kernel) (by decide +kernel) (by decide +kernel) (by decide) (fun _ _ _ h => h) (Or.inl ⟨by rfl, ?_⟩) (.inr ⟨⟨wd, hbd⟩, rfl⟩) ?_; rotate_left; (intro w; go_simp); (try with_reducible rfl))
        (try simp only [List.getElem_toArray, List.getElem_cons_succ, List.getElem_cons_zero, Act.put, List.setIfInBounds_toArray, List.set_cons_succ, List.set_cons_zero])
        (refine Th.wpAnyK_ready (rs := [2]) (by decide +kernel) (by simp) ?_; refine (Th.AllReadyK.cons rfl (fun K hK => ?_) Th.AllReadyK.nil))
        refine step_of rfl ?_
        go_step
        refine (eslot_calls e wd he0.1 (by omega)).mono ?_; rintro _ _ ⟨rfl, rfl⟩
        rw [HA.out]
        refine hK _ _ (.inr ⟨⟨wd, hbd⟩, rfl⟩) ?_
        clear hK K
        (try simp only [List.getElem_toArray, List.getElem_cons_succ, List.getElem_cons_zero, Act.put, List.setIfInBounds_toArray, List.set_cons_succ, List.set_cons_zero])
        (refine Th.wpAnyK_ready (rs := [3]) (by decide +kernel) (by simp) ?_; refine (Th.AllReadyK.cons rfl (fun K hK => ?_) Th.AllReadyK.nil))
        refine step_of rfl ?_
        go_step
        refine (rgive (HFF.out.below hbd) a1 (by have := HFI.out.si.gl; omega) (by have := HFI.out.si.gl; have := HMM.out.bd; omega) (by have := HFI.out.si.len; have := HMM.out.bd; omega) (by have := HFI.out.si.gn a a1 a2; omega) (Nat.le_trans HM5.out.NS hbd.size)).mono ?_; rintro _ w7 ⟨v7, rfl, hf7, hb7⟩
        rw [← HL9.out, ← HG9.out] at hf7
        obtain ⟨pa7, ca7, pb7, cb7, rfl, _, _, _⟩ := hf7.sh
        have hb7 := below_on hbd hb7
        have HM7 := Lib.hid (HM5.out.below hb7); have HL7 := Lib.hid (HL5.out.below hb7); have HF7 := Lib.hid hf7
        have hF := HCf.out.below hb7
        have n0 := hF.get (i := 0) (by omega); have f0 := hF.fr 0
        have n1 : ∀ u, (w7.setCell ⟨b7, 0, none⟩ u).cell? ⟨b7, 1, none⟩ = some (.slice pg Gn.length kg) := fun u => (hF.set 0 u).get (i := 1) (by omega)
        have f1 : ∀ u, (w7.setCell ⟨b7, 0, none⟩ u).frozen? ⟨b7, 1, none⟩ = false := fun u => (hF.set 0 u).fr 1
        have HL8 := Lib.hid (HL7.out.put HF7.out HBN2.out); have HM8 := Lib.hid (MM.put HM7.out hF HLR.out.n7.1 (.slice pa7 L9.length ca7) (.slice pb7 G9.length cb7))
        refine hK _ _ (.inr ⟨⟨w7, hb7⟩, rfl⟩) ?_
        clear hK K hf7 hF
        (try simp only [List.getElem_toArray, List.getElem_cons_succ, List.getElem_cons_zero, Act.put, List.setIfInBounds_toArray, List.set_cons_succ, List.set_cons_zero])
        (refine Th.wpAnyK_ready (rs := [4]) (by decide +kernel) (by simp) ?_; refine (Th.AllReadyK.cons rfl (fun K hK => ?_) Th.AllReadyK.nil))
        refine step_of rfl ?_
        go_step
        refine hK _ _ (.inl rfl) ?_
        clear hK K
        refine Th.wpAnyK_done (by decide +kernel) ?_ _
        clear n0 f0 n1 f1 hbd hb7
        generalize hW8 : World.setCell (World.setCell w7 _ _) _ _ = W8
        rw [hW8] at HL8 HM8
        have HMz := HM8; have HLz := HL8
        clear hW8 HM5 HL5 HCf HLD HFF HM7 HL7 HF7
        go_wp2_with fail
        have hbz := HMz.out.bd
        refine (lchain HMz.out HFz.out.si.lk HFz.out.si.len HFz.out.si.ne HFz.out.si.no).mono ?_; rintro _ wc ⟨vc, rfl, hvc, hbc⟩
        obtain ⟨pc, cc, rfl, _, _, hpc⟩ := hvc.parts
        rw [ints_len] at hpc
        simp only [ints_len]
        have HPC := Lib.hid hpc.out
        have HMc := Lib.hid (HMz.out.below hbc); have HLc := Lib.hid (HLz.out.below hbc)
        clear hvc hbc hpc HMz HLz
        obtain ⟨af, bf, hcf, hff⟩ := HLc.out.fv
        obtain ⟨pf, kf, pg, kg, he, hf1, hf2, hf3⟩ := hff.sh
        simp only [Value.agg.injEq, Array.mk.injEq, List.cons.injEq, and_true] at he
        obtain ⟨rfl, rfl⟩ := he
        have HF3 := Lib.hid hf3
        obtain ⟨n, hn⟩ : ∃ n, n = (L9).length := ⟨_, rfl⟩
        have HN := Lib.hid hn
        have hn2 : n ≤ 250 := by rw [hn]; have := HFz.out.si.len; omega
        rw [← hn] at hcf hf1 ⊢
        have z0 := Th.newcell hcf 0 _ rfl
        have HCc := Lib.hid hcf
        clear hcf hff hf3 hn
        go_wp2_with fail
        have hfl := HMc.out.c
        rw [HFz.out.sl] at hfl
        refine (cFault hfl).mono ?_; rintro _ wd ⟨rfl, hbd⟩
        rw [HFz.out.od, HFz.out.fl]
        have HMd := Lib.hid (HMc.out.below hbd); have HLd := Lib.hid (HLc.out.below hbd); have HBd := Lib.hid hbd
        clear hbd hfl z0 HMc
        go_wp2_with fail

        go_loopw [22] (fun jv wr => ∃ j : Nat, j ≤ n ∧ jv = .int .i64 j ∧ Hid (Below wd.heap.size wd wr)) (fun jv _ => n - (intOf jv).toNat)
        case atStart => exact ⟨0, by omega, rfl, Lib.hid (Below.refl _ _)⟩
        case round =>
          obtain ⟨j, hj, rfl, HJ⟩ := hrel
          have hbj := below_on HBd.out HJ.out
          rcases (by omega : j < n ∨ j = n) with hjl | hje
          · obtain ⟨g1, o1, rfl, _, _, k1⟩ := HPC.out (by rw [← HN.out]; omega)
            obtain ⟨g2, o2, rfl, k2⟩ := HF3.out.out (by rw [← HN.out]; omega)
            have hjL : j < (L9).length := by rw [← HN.out]; exact hjl
            have b1 := Ext.cell ⟨wr, hbj⟩ (k1 j _ (ints_get hjL))
            have b2 := Ext.cell ⟨wr, hbj⟩ (k2 j hjL)
            have b0 := Ext.cell ⟨wr, hbj⟩ (Th.newcell HCc.out 0 _ rfl)
            simp only at b0 b1 b2
            have HBJ := Lib.hid hbj
            generalize (((L9)[j] : Nat) : Int) = y at b1 b2
            have hjn : (j : Int) < n := by omega
            clear k1 k2 hbj
            go_upto_region 34 with fail
            go_region
            go_wp2_with fail
            go_roundw
            case rel => exact ⟨j + 1, by omega, by go_num, Lib.hid HJ.out.drew⟩
            case measure => simp [intOf]; omega
          · have hge : ¬ ((j : Int) < n) := by omega
            clear hje hbj
            go_wp2_with fail
            go_roundw
            case rel => exact ⟨i + 1, by omega, by go_num, Lib.hid ⟨σ', L9, G9, E9, HFz.out, HMd.out.below HJ.out, HLd.out.below HJ.out, hEl⟩⟩
            case measure => simp [intOf]; omega
    · have o0 := Th.newcell HCF.out 0 _ rfl
      go_wp2_with fail
      refine (lwhole HMM.out HFI.out.si.lk HFI.out.si.len HFI.out.si.ne HFI.out.si.no HFI.out.si.cn).mono ?_; rintro _ w4 ⟨rfl, hb4⟩
      have HB4 := Lib.hid (below_on HLR.out.bl hb4)
      clear hb4
      go_wp2_with fail
      refine (lives17_calls _).mono ?_; rintro _ w5 ⟨rfl, hb⟩
      have HB5 := Lib.hid (below_on HB4.out hb)
      clear hb
      go_wp2_with fail
      (try go_ret)
      (try rw [HQ.out])
      exact ⟨rfl, HB5.out⟩
end Go.Proofs.Ytfocficedkahiaa.Sl

/- Layer 17: the walk of SlotsAlone, by its name. -/
namespace Go.Proofs.Ytfocficedkahiaa
open Go.RowKit WordM EdgeM
theorem slotsAlone_walk (v0 v1 : Value) (w : World) (s0 : Fr.okN w [.int .i64, .int .i64, .int .u64] v0) (s1 : Fr.ok1 w (.slice [.int .i64]) v1) :
    Calls Try.prog 4 #[v0, v1] w fun e w' => e = .returned (.bool true) ∧ Below w.heap.size w w' := Sl.slotsAlone_walk v0 v1 w s0 s1
end Go.Proofs.Ytfocficedkahiaa
