/- Layer 38: the reference's Of: its walk. -/
import Derived.Test.YtilfgekiblpkaaaStaN
import Derived.Deep.CutRange
namespace Go.Proofs.Ytilfgekiblpkaaa
open Go.RowKit
set_option linter.unusedVariables false
set_option linter.unusedSimpArgs false
theorem uS : ∃ d, Try.prog.underlying 28 = some d ∧ d.isRow = true := by
  have h : (Try.prog.underlying 28).map (·.isRow) = some true := by kernel_rfl
  cases h1 : Try.prog.underlying 28 with
  | none => rw [h1] at h; cases h
  | some d => rw [h1] at h; exact ⟨d, rfl, by simpa using h⟩
theorem infoS : (Try.prog.info? 28).map (·.size) = some 42 := by kernel_rfl
def stK3 (F : Nat → Int) (x : Opr) (k : Nat) : Nat → Int := if x.to < 0 then F else stK F x k
theorem upd_zero (F : Nat → Int) (a : Nat) (h : F a = 0) : upd F a 0 = F := by
  funext i; unfold upd; split
  · rename_i e; rw [e, h]
  · rfl
set_option maxRecDepth 8000 in
set_option maxHeartbeats 32000000 in
theorem rof (n : Nat) (L : Nat → Ev) (v : Value) (w : World) (h : VR w v n L) (hn : n ≤ 150) (hpl : ∀ i, i < n → (L i).an.ps.length ≤ 1500) :
    Calls Try.prog 8 #[v] w fun e w' => e = .returned (.agg (c42 (refF L n)).toArray) ∧ Below w.heap.size w w' := by
  refine Calls.veil fun Q HQ => ?_
  have HV := Lib.hid h
  have HPS := Lib.hid (allO_ps (B := 1500) hpl)
  have HLE := Lib.hid (allO_len L n)
  rw [show refF L n = upd (upd (cntN (allO L n) (allO L n).length) 39 (rovN (allO L n) (allO L n).length : Nat)) 41 (rmN (allO L n) n) from rfl] at HQ
  obtain ⟨p, c, rfl, a1, a2, A3⟩ := h.parts
  obtain ⟨d, hdu, hdr⟩ := uS
  have HDU := Lib.hid hdu
  have HDR := Lib.hid hdr
  clear h hpl hdu hdr
  go_enter Try.func8, Try.ntmps8
  go_upto_region 2 with fail
  generalize hV : World.alloc (World.alloc w _) _ = V
  obtain ⟨q0, hq0⟩ : ∃ q0, q0 = w.heap.size := ⟨_, rfl⟩
  rw [← hq0]
  have HR0 := Lib.hid (show R42 V q0 28 (fun _ => 0) by rw [← hV, hq0]; unfold R42; rw [Below.heap_alloc _ _ _ (by simp)]; exact heap_alloc_new w _)
  have HR1 := Lib.hid (show R42 V (q0 + 1) 28 (fun _ => 0) by
    rw [← hV, hq0]
    have := heap_alloc_new (w.alloc (.cells (c42 fun _ => 0).toArray 28)) (.cells (c42 fun _ => 0).toArray 28)
    rw [World.size_alloc] at this
    exact this)
  have HVB := Lib.hid (show Below w.heap.size w V by rw [← hV]; exact below_new (below_new (Below.refl _ _) _) _)
  have HQZ := Lib.hid (Nat.le_of_eq hq0.symm)
  clear hV hq0
  obtain ⟨q, hq⟩ : ∃ q, q = q0 + 1 := ⟨_, rfl⟩
  rw [← hq] at HR1 ⊢
  have HQ1 := Lib.hid hq
  clear hq
  have HQV := Lib.hid HR1.out.lt
  have fin : ∀ (F : Nat → Int) (a : Act) (W : World), W.rangeAt q0 0 (c42 F) → a.tmps.getD 2 undef = .pointer (some ⟨q0, 0, none⟩) → (results Try.f8 a.tmps).run Try.prog W = .ok (.agg (c42 F).toArray) W := by
    intro F a W hW ha
    have := run_loadVar_mid (P := Try.prog) W q0 0 28 (c42 F) d hW HDU.out HDR.out (by rw [c42_len]; exact infoS)
    have ha' : a.tmps[2]?.getD undef = .pointer (some ⟨q0, 0, none⟩) := by simpa using ha
    simp [results, Try.results8, ha', asAddr, this]
  have FIN := Lib.hid fin
  clear fin
  go_wp2_with fail
  refine (ropersA n L _ V (HV.out.below HVB.out) (by omega)).mono ?_; rintro _ zb ⟨v1, l, rfl, hl, ho, hp, hb1⟩
  have HB1 := Lib.hid (below_on HVB.out hb1)
  have HR0 := Lib.hid (show R42 zb q0 28 (fun _ => 0) from (hb1.block _ HR0.out.lt).trans HR0.out)
  have HR1 := Lib.hid (show R42 zb q 28 (fun _ => 0) from (hb1.block _ HR1.out.lt).trans HR1.out)
  obtain ⟨O, hO⟩ : ∃ O, O = allO L n := ⟨_, rfl⟩
  rw [← hO] at HQ hl HPS HLE
  have hge := own_geO ho
  obtain ⟨p1, c1, rfl, d1, d2, D3⟩ := own_partsP ho (fun x hx => (hp x hx).below hb1) hl
  obtain ⟨m, hm⟩ : ∃ m, m = O.length := ⟨_, rfl⟩
  rw [← hm] at d1 D3 HLE HQ ⊢
  have HM := Lib.hid hm
  have HG := Lib.hid (show 0 < m → ∃ g, p1 = some ⟨g, 0, none⟩ ∧ g ≠ q ∧ ∀ (i : Nat) (x : Opr), O[i]? = some x → ∃ u, OpC zb g (i * 13) x u ∧ PR zb u x.an.ps from fun h0 => by
    obtain ⟨g, e, h1⟩ := D3.out h0
    refine ⟨g, e, ?_, h1⟩
    have := hge g (by rw [e]; rfl)
    have := HQV.out
    omega)
  have hm1 : m ≤ 150 := by have := HLE.out; omega
  clear ho hp hl hb1 hO hge D3 hm
  go_wp2_with fail
  go_loopw [5] (fun iv wr => ∃ i : Nat, i ≤ m ∧ iv = .int .i64 i ∧ Hid (R42 wr q 28 (upd (cntN O i) 39 (rovN O i : Nat))) ∧ Hid (zb.grownBy wr (some q)))
    (fun iv _ => m - (intOf iv).toNat)
  case atStart =>
    refine ⟨0, by omega, rfl, Lib.hid ?_, Lib.hid (grown_refl zb q)⟩
    rw [show upd (cntN O 0) 39 (rovN O 0 : Nat) = fun _ => 0 from by funext j; simp [upd, cntN, rovN]]
    exact HR1.out
  case round =>
    obtain ⟨i, hi, rfl, HRI, HGI⟩ := hrel
    rcases (by omega : i < m ∨ i = m) with hlt | hEQ
    · obtain ⟨g, rfl, hgq, hD⟩ := HG.out (by omega)
      obtain ⟨x, hx⟩ : ∃ x, O[i]? = some x := ⟨_, List.getElem?_eq_getElem (by have := HM.out; omega)⟩
      obtain ⟨u, hC, hPu⟩ := hD i x hx
      have HGQ := Lib.hid hgq
      have HD := Lib.hid hD
      have HOX := Lib.hid (o_at hx)
      have HXP := Lib.hid (HPS.out x (List.mem_of_getElem? hx))
      obtain ⟨px, cx, rfl, b1, b2⟩ := hPu.slice
      have HC := Lib.hid hC
      have HXO := Lib.hid hx
      clear hC hPu hD hgq hx
      obtain ⟨r, hr⟩ : ∃ r : Nat, r = rovN O i := ⟨_, rfl⟩
      rw [← hr] at HRI
      have HRN := Lib.hid hr
      have hrl : r ≤ 150 := by have := rovN_le O i; omega
      clear hr
      obtain ⟨F0, hF0⟩ : ∃ F0, F0 = upd (cntN O i) 39 (r : Nat) := ⟨_, rfl⟩
      rw [← hF0] at HRI
      have HF0 := Lib.hid hF0
      have HB0 := Lib.hid (show ∀ j, 0 ≤ F0 j ∧ F0 j ≤ 100000000 from by
        rw [hF0]
        exact upd_le (B := 100000000) (fun j => by
          have := cntN_le O (fun x hx => by have := HPS.out x hx; omega) (fun k hk => by unfold o_; rw [List.getD_eq_getElem?_getD, List.getElem?_eq_getElem hk]; simp) i (by have := HM.out; omega) j
          omega) (by omega) (by omega) (by omega))
      clear hF0
      go_wp2_with fail
      go_loopw [6] (fun ov wr => ∃ o : Nat, o ≤ 15 ∧ ov = .int .i64 o ∧ Hid (R42 wr q 28 (stOp F0 x o)) ∧ Hid (zb.grownBy wr (some q)))
        (fun ov _ => 15 - (intOf ov).toNat)
      case atStart => exact ⟨0, by omega, rfl, Lib.hid (by rw [stOp_zero]; exact HRI.out), HGI⟩
      case round =>
        obtain ⟨o, ho, rfl, HRO, HGO⟩ := hrel
        rcases (by omega : o < 15 ∨ o = 15) with hlo | hEO
        · have hd : decide ((o : Int) < 15) = true := decide_eq_true (by omega)
          have hoi : (o : Int) < 15 := by omega
          obtain ⟨x0, x1, x2, x3, x4, x5, x6, x7, x8, x9, x10, x11, x12⟩ := HC.out.keptN HGO.out HGQ.out
          clear x0 x2 x3 x4 x5 x6 x7 x8 x9 x10 x11 x12
          by_cases hop : x.ca.op = o
          · have heq : (x.ca.op == (o : Int)) = true := by rw [hop]; exact beq_self_eq_true _
            obtain ⟨s1, s2, s3, s4⟩ := stOp_eq (F := F0) hop hlo
            have HOP := Lib.hid hop
            clear hop
            have HS2 := Lib.hid s2
            have HS3 := Lib.hid s3
            have HS4 := Lib.hid s4
            have HRO := Lib.hid (show R42 wr q 28 F0 by have := HRO.out; rw [s1] at this; exact this)
            clear s1 s2 s3 s4
            have c0 := HRO.out.cell (i := o) (by omega)
            have ff := HRO.out.free
            have hb0 : 0 ≤ F0 o := (HB0.out o).1
            have hb1 : F0 o ≤ 100000000 := (HB0.out o).2
            go_upto_region 11 with fail
            generalize hU : World.setCell _ _ _ = U1
            have HR1 := Lib.hid (show R42 U1 q 28 (cnA F0 x) by rw [← hU, HS2.out]; exact HRO.out.set (by omega) _)
            have HG1 := Lib.hid (show zb.grownBy U1 (some q) by rw [← hU]; exact grown_set HGO.out _ _)
            clear hU c0 ff hb0 hb1 x1
            obtain ⟨x0, x1, x2, x3, x4, x5, x6, x7, x8, x9, x10, x11, x12⟩ := HC.out.keptN HG1.out HGQ.out
            clear x0 x1 x2 x3 x4 x5 x6 x7 x8 x9 x10 x11
            have HB1 := Lib.hid (cnA_le x HB0.out)
            by_cases hto : x.to < 0
            · have c0 := HR1.out.cell (i := 15 + o) (by omega)
              have ff := HR1.out.free
              have HS5 := Lib.hid (HS3.out (cnA F0 x))
              generalize cnA F0 x = F1 at HR1 HB1 HS5 HS4 c0
              have hb0 : 0 ≤ F1 (15 + o) := (HB1.out (15 + o)).1
              have hb1 : F1 (15 + o) ≤ 100000001 := (HB1.out (15 + o)).2
              have HS4 := Lib.hid (show stOp F0 x (o + 1) = cnB F1 x by rw [HS4.out, if_pos hto])
              go_wp2_with fail
              generalize hU : World.setCell _ _ _ = U2
              have HR2 := Lib.hid (show R42 U2 q 28 (stOp F0 x (o + 1)) by rw [HS4.out, HS5.out, ← hU]; exact HR1.out.set (by omega) _)
              have HG2 := Lib.hid (show zb.grownBy U2 (some q) by rw [← hU]; exact grown_set HG1.out _ _)
              clear hU c0 ff
              go_roundw
              case rel => exact ⟨o + 1, by omega, by go_num, HR2, HG2⟩
              case measure => simp [intOf]; omega
            · have HR2 := Lib.hid (show R42 U1 q 28 (stOp F0 x (o + 1)) by rw [HS4.out, if_neg hto]; exact HR1.out)
              go_wp2_with fail
              go_roundw
              case rel => exact ⟨o + 1, by omega, by go_num, HR2, HG1⟩
              case measure => simp [intOf]; omega
          · have heq : (x.ca.op == (o : Int)) = false := by rw [beq_eq_false_iff_ne]; exact hop
            have HR2 := Lib.hid (show R42 wr q 28 (stOp F0 x (o + 1)) by rw [stOp_ne hop]; exact HRO.out)
            clear hop
            go_wp2_with fail
            go_roundw
            case rel => exact ⟨o + 1, by omega, by go_num, HR2, HGO⟩
            case measure => simp [intOf]; omega
        · have hd : decide ((o : Int) < 15) = false := decide_eq_false (by omega)
          have HRO := Lib.hid (show R42 wr q 28 (if x.to < 0 then cnB (cnA F0 x) x else cnA F0 x) by have := HRO.out; rw [hEO, stOp_all] at this; exact this)
          clear hEO
          obtain ⟨F1, hF1⟩ : ∃ F1, F1 = if x.to < 0 then cnB (cnA F0 x) x else cnA F0 x := ⟨_, rfl⟩
          rw [← hF1] at HRO
          have HF1 := Lib.hid hF1
          have HB1 := Lib.hid (show ∀ j, 0 ≤ F1 j ∧ F1 j ≤ 100000002 from fun j => by
            rw [hF1]; split
            · exact cnB_le x (cnA_le x HB0.out) j
            · have := cnA_le x HB0.out j; omega)
          clear hF1
          repeat (with_reducible (fail_if_success (show Code.wp _ (Code.seq (Code.region 13 _ _) _) _ _ _)); first | go_values | go_skip | go_guarded | go_step | go_upon | go_back | (simp only [Int.not_lt, Int.not_le] at *; go_simp) | (go_values <;> (try go_simp)) | (go_ite <;> go_prune <;> (try go_simp)))
          go_cut [] from 53 to 79 (fun wx => R42 wx q 28 (if x.to < 0 then F1 else cnC F1 x) ∧ zb.grownBy wx (some q))
          case first =>
            go_wp2_with fail
            go_loopw [7] (fun kv wr => ∃ k : Nat, k ≤ 9 ∧ kv = .int .i64 k ∧ Hid (R42 wr q 28 (stK3 F1 x k)) ∧ Hid (zb.grownBy wr (some q)))
              (fun kv _ => 9 - (intOf kv).toNat)
            case atStart => exact ⟨0, by omega, rfl, Lib.hid (by unfold stK3; rw [stK_zero]; split <;> exact HRO.out), HGO⟩
            case round =>
              obtain ⟨k, hk, rfl, HRK, HGK⟩ := hrel
              obtain ⟨x0, x1, x2, x3, x4, x5, x6, x7, x8, x9, x10, x11, x12⟩ := HC.out.keptN HGK.out HGQ.out
              clear x0 x1 x2 x3 x4 x5 x7 x8 x9 x10 x11
              rcases (by omega : k < 9 ∨ k = 9) with hlk | hEK
              · have hd : decide ((k : Int) < 9) = true := decide_eq_true (by omega)
                have hki : (k : Int) < 9 := by omega
                by_cases hto : x.to < 0
                · have HRE := Lib.hid (show R42 wr q 28 (if x.to < 0 then F1 else cnC F1 x) by have := HRK.out; unfold stK3 at this; rw [if_pos hto] at this ⊢; exact this)
                  go_wp2_with fail
                  go_meet
                  case rel => exact ⟨HRE.out, HGK.out⟩
                · have HTO := Lib.hid hto
                  have hd2 : decide (0 ≤ x.to) = true := decide_eq_true (by omega)
                  have ht0 : 0 ≤ x.to := by omega
                  have HRK := Lib.hid (show R42 wr q 28 (stK F1 x k) by have := HRK.out; unfold stK3 at this; rw [if_neg hto] at this; exact this)
                  clear hto
                  by_cases hop : x.an.kind = k
                  · have heq : (x.an.kind == (k : Int)) = true := by rw [hop]; exact beq_self_eq_true _
                    obtain ⟨s1, s2⟩ := stK_eq (F := F1) hop hlk
                    clear hop
                    have HS2 := Lib.hid s2
                    have HRK := Lib.hid (show R42 wr q 28 F1 by have := HRK.out; rw [s1] at this; exact this)
                    clear s1 s2
                    have c0 := HRK.out.cell (i := 30 + k) (by omega)
                    have ff := HRK.out.free
                    have hb0 : 0 ≤ F1 (30 + k) := (HB1.out (30 + k)).1
                    have hb1 : F1 (30 + k) ≤ 100000002 := (HB1.out (30 + k)).2
                    go_wp2_with fail
                    generalize hU : World.setCell _ _ _ = U1
                    have HR1 := Lib.hid (show R42 U1 q 28 (stK3 F1 x (k + 1)) by unfold stK3; rw [if_neg HTO.out, HS2.out, ← hU]; exact HRK.out.set (by omega) _)
                    have HG1 := Lib.hid (show zb.grownBy U1 (some q) by rw [← hU]; exact grown_set HGK.out _ _)
                    clear hU c0 ff hb0 hb1
                    go_roundw
                    case rel => exact ⟨k + 1, by omega, by go_num, HR1, HG1⟩
                    case measure => simp [intOf]; omega
                  · have heq : (x.an.kind == (k : Int)) = false := by rw [beq_eq_false_iff_ne]; exact hop
                    have HR1 := Lib.hid (show R42 wr q 28 (stK3 F1 x (k + 1)) by unfold stK3; rw [if_neg HTO.out, stK_ne hop]; exact HRK.out)
                    clear hop
                    go_wp2_with fail
                    go_roundw
                    case rel => exact ⟨k + 1, by omega, by go_num, HR1, HGK⟩
                    case measure => simp [intOf]; omega
              · have hd : decide ((k : Int) < 9) = false := decide_eq_false (by omega)
                have HRE := Lib.hid (show R42 wr q 28 (if x.to < 0 then F1 else cnC F1 x) by have := HRK.out; rw [hEK] at this; unfold stK3 at this; rw [stK_all] at this; exact this)
                clear hEK
                go_wp2_with fail
                go_meet
                case rel => exact ⟨HRE.out, HGK.out⟩
          case rest =>
            obtain ⟨h1, h2⟩ := hcut
            have HR2 := Lib.hid h1
            have HG2 := Lib.hid h2
            clear h1 h2 HRO HGO
            obtain ⟨F2, hF2⟩ : ∃ F2, F2 = if x.to < 0 then F1 else cnC F1 x := ⟨_, rfl⟩
            rw [← hF2] at HR2
            have HF2 := Lib.hid hF2
            have HB2 := Lib.hid (show ∀ j, 0 ≤ F2 j ∧ F2 j ≤ 100000003 from fun j => by
              rw [hF2]; split
              · have := HB1.out j; omega
              · exact cnC_le x HB1.out j)
            clear hF2
            obtain ⟨x0, x1, x2, x3, x4, x5, x6, x7, x8, x9, x10, x11, x12⟩ := HC.out.keptN HG2.out HGQ.out
            clear x0 x1 x2 x3 x4 x5 x7 x8 x9 x11
            repeat (with_reducible (fail_if_success (show Code.wp _ (Code.seq (Code.region 18 _ _) _) _ _ _)); first | go_values | go_skip | go_guarded | go_step | go_upon | go_back | (simp only [Int.not_lt, Int.not_le] at *; go_simp) | (go_values <;> (try go_simp)) | (go_ite <;> go_prune <;> (try go_simp)))
            have hmr : F2 40 + x.an.ps.length ≤ 200000000 := by have := (HB2.out 40).2; have := HXP.out; omega
            have hm0 : 0 ≤ F2 40 := (HB2.out 40).1
            have HMR := Lib.hid (And.intro hmr hm0)
            clear hmr hm0
            go_cut [] from 80 to 105 (fun wx => R42 wx q 28 (if x.to < 0 then F2 else cnD F2 x) ∧ zb.grownBy wx (some q))
            case first =>
              by_cases hto : x.to < 0
              · have hd2 : decide (0 ≤ x.to) = false := decide_eq_false (by omega)
                have ht0 : ¬ 0 ≤ x.to := by omega
                have HRE := Lib.hid (show R42 wc q 28 (if x.to < 0 then F2 else cnD F2 x) by rw [if_pos hto]; exact HR2.out)
                go_wp2_with fail
                go_meet
                case rel => exact ⟨HRE.out, HG2.out⟩
              · have HTO := Lib.hid hto
                have hd2 : decide (0 ≤ x.to) = true := decide_eq_true (by omega)
                have ht0 : 0 ≤ x.to := by omega
                clear hto
                by_cases h3 : x.an.kind = 3
                · have heq : (x.an.kind == (3 : Int)) = true := by rw [h3]; rfl
                  have H3 := Lib.hid h3
                  have c0 := HR2.out.cell (i := 40) (by omega)
                  have ff := HR2.out.free
                  obtain ⟨hb1, hb0⟩ := HMR.out
                  have hb2 : F2 40 ≤ 100000003 := (HB2.out 40).2
                  have hpl := HXP.out
                  go_upto_region 19 with fail
                  go_still_tail 11, (by kernel_rfl)
                  go_wp2_with fail
                  generalize hU : World.drew (World.setCell _ _ _) = U3
                  have HRE := Lib.hid (show R42 U3 q 28 (if x.to < 0 then F2 else cnD F2 x) by
                    rw [if_neg (by have := HTO.out; omega), ← hU, show cnD F2 x = upd F2 40 (F2 40 + x.an.ps.length) by unfold cnD; rw [if_pos H3.out]]
                    exact (HR2.out.set (by omega) _).drew)
                  have HGE := Lib.hid (show zb.grownBy U3 (some q) by rw [← hU]; exact grown_drew (grown_set HG2.out _ _))
                  go_meet
                  case rel => exact ⟨HRE.out, HGE.out⟩
                · have heq : (x.an.kind == (3 : Int)) = false := by rw [beq_eq_false_iff_ne]; exact h3
                  have HRE := Lib.hid (show R42 wc q 28 (if x.to < 0 then F2 else cnD F2 x) by rw [if_neg (by have := HTO.out; omega)]; unfold cnD; rw [if_neg h3]; exact HR2.out)
                  go_wp2_with fail
                  go_meet
                  case rel => exact ⟨HRE.out, HG2.out⟩
            case rest =>
              obtain ⟨h1, h2⟩ := hcut
              have HG3 := Lib.hid h2
              have HR3 := Lib.hid (show R42 wc q 28 (upd (cntN O (i + 1)) 39 (r : Nat)) by
                rw [show upd (cntN O (i + 1)) 39 (r : Nat) = if x.to < 0 then F2 else cnD F2 x from ?_]
                · exact h1
                · rw [cntN, HOX.out, ← cnt1_39, ← HF0.out, HF2.out, HF1.out]
                  unfold cnt1
                  by_cases hto : x.to < 0
                  · rw [if_pos hto, if_pos hto, if_pos hto, if_pos hto]
                  · rw [if_neg hto, if_neg hto, if_neg hto, if_neg hto])
              clear h1 h2 HR2 HG2 HF2 HF1 HF0 HB2 HB1 HB0 HMR
              obtain ⟨W, hW⟩ : ∃ W, W = wc := ⟨_, rfl⟩
              rw [← hW] at HR3 HG3 ⊢
              clear hW
              go_wp2_with fail
              go_loopw [8, 9] (fun ov kv wr => ∃ k : Nat, k ≤ m ∧ kv = .int .i64 k ∧ ∃ b : Bool, ov = .bool b ∧ Hid (b = rovA O i k) ∧ Hid (Below W.heap.size W wr))
                (fun _ kv _ => m - (intOf kv).toNat)
              case atStart => exact ⟨0, by omega, rfl, false, rfl, Lib.hid rfl, Lib.hid (Below.refl _ _)⟩
              case round =>
                obtain ⟨k, hk, rfl, b, rfl, HOV, HWX⟩ := hrel
                rcases (by omega : k < m ∨ k = m) with hlk | hEK
                · have HSU := Lib.hid (rovA_succ O i k)
                  cases b with
                  | true =>
                    have HNX := Lib.hid (show true = rovA O i (k + 1) by rw [HSU.out, ← HOV.out]; rfl)
                    go_upto_region 24 with fail
                    (with_reducible refine wp_region_mix (fun w' => ∃ y : Ext W, w' = y.w) ?_ ?_ ?_ ?_; kernel_rfl; kernel_rfl; exact ⟨⟨wr.drew, HWX.out.drew⟩, rfl⟩)
                    repeat (first | ((with_reducible refine mix_skip (by kernel_rfl) ?_); go_big_quiet_skip; (with_reducible refine mix_on ?_)) | ((with_reducible refine mix_plain (by kernel_rfl) ?_); (first | go_big_quiet_skip | (go_big_quiet_want; go_big_quiet_op; go_big_quiet_on)); (with_reducible refine mix_on ?_)))
                    refine wpMix_nil ?_
                    go_wp2_with fail
                    go_roundw
                    case rel => exact ⟨k + 1, by omega, by go_num, true, rfl, HNX, Lib.hid HWX.out.drew⟩
                    case measure => simp [intOf]; omega
                  | false =>
                    obtain ⟨y, hy⟩ : ∃ y, O[k]? = some y := ⟨_, List.getElem?_eq_getElem (by have := HM.out; omega)⟩
                    have HPV := Lib.hid (show rovP O i k = (decide (k ≠ i) && (!aheadB x y && !aheadB y x)) by unfold rovP; rw [HOX.out, o_at hy])
                    by_cases hki : k = i
                    · have HNX := Lib.hid (show false = rovA O i (k + 1) by rw [HSU.out, ← HOV.out, HPV.out, decide_eq_false (by omega)]; rfl)
                      subst hki
                      clear hy
                      have hkb : ((k : Int) != (k : Int)) = false := by simp
                      go_upto_region 24 with fail
                      (with_reducible refine wp_region_mix (fun w' => ∃ y : Ext W, w' = y.w) ?_ ?_ ?_ ?_; kernel_rfl; kernel_rfl; exact ⟨⟨wr.drew, HWX.out.drew⟩, rfl⟩)
                      repeat (first | ((with_reducible refine mix_skip (by kernel_rfl) ?_); go_big_quiet_skip; (with_reducible refine mix_on ?_)) | ((with_reducible refine mix_plain (by kernel_rfl) ?_); (first | go_big_quiet_skip | (go_big_quiet_want; go_big_quiet_op; go_big_quiet_on)); (with_reducible refine mix_on ?_)))
                      refine wpMix_nil ?_
                      go_wp2_with fail
                      go_roundw
                      case rel => exact ⟨k + 1, by omega, by go_num, false, rfl, HNX, Lib.hid HWX.out.drew⟩
                      case measure => simp [intOf]; omega
                    · obtain ⟨u', hCy, hPy⟩ := HD.out k y hy
                      obtain ⟨py, cy, rfl, _, _⟩ := hPy.slice
                      have HNX := Lib.hid (show (!aheadB x y && !aheadB y x) = rovA O i (k + 1) by rw [HSU.out, ← HOV.out, HPV.out, decide_eq_true hki]; simp)
                      have hkb : ((k : Int) != (i : Int)) = true := by rw [bne_iff_ne]; omega
                      obtain ⟨x0, x1, x2, x3, x4, x5, x6, x7, x8, x9, x10, x11, x12⟩ := HC.out.keptN HG3.out HGQ.out
                      obtain ⟨y0, y1, y2, y3, y4, y5, y6, y7, y8, y9, y10, y11, y12⟩ := hCy.keptN HG3.out HGQ.out
                      clear hCy hPy hy
                      have x0 := Ext.cells x0; have x1 := Ext.cells x1; have x2 := Ext.cells x2; have x3 := Ext.cells x3; have x4 := Ext.cells x4; have x5 := Ext.cells x5; have x6 := Ext.cells x6; have x7 := Ext.cells x7; have x8 := Ext.cells x8; have x9 := Ext.cells x9; have x10 := Ext.cells x10; have x11 := Ext.cells x11; have x12 := Ext.cells x12
                      have y0 := Ext.cells y0; have y1 := Ext.cells y1; have y2 := Ext.cells y2; have y3 := Ext.cells y3; have y4 := Ext.cells y4; have y5 := Ext.cells y5; have y6 := Ext.cells y6; have y7 := Ext.cells y7; have y8 := Ext.cells y8; have y9 := Ext.cells y9; have y10 := Ext.cells y10; have y11 := Ext.cells y11; have y12 := Ext.cells y12
                      go_upto_region 24 with fail
                      (with_reducible refine wp_region_mix (fun w' => ∃ y : Ext W, w' = y.w) ?_ ?_ ?_ ?_; kernel_rfl; kernel_rfl; exact ⟨⟨wr.drew, HWX.out.drew⟩, rfl⟩)
                      repeat (first | ((with_reducible refine mix_skip (by kernel_rfl) ?_); go_big_quiet_skip; (with_reducible refine mix_on ?_)) | ((with_reducible refine mix_plain (by kernel_rfl) ?_); (first | go_big_quiet_skip | (go_big_quiet_want; go_big_quiet_op; go_big_quiet_on)); (with_reducible refine mix_on ?_)))
                      ((with_reducible refine wpMix_chain (by kernel_rfl) (by kernel_rfl) (fun K HK => ?_)); go_step)
                      refine (rahead x y _ _ _).mono ?_; rintro _ z1 ⟨rfl, hb1⟩
                      have HZ1 := Lib.hid (show Below W.heap.size W z1 from below_on HWX.out.drew hb1)
                      refine HK.out _ _ ⟨⟨z1, HZ1.out⟩, rfl⟩ ?_
                      clear HK K hb1
                      generalize aheadB x y = t1 at HNX
                      cases t1 with
                      | true =>
                        have HNX := Lib.hid (show false = rovA O i (k + 1) from HNX.out)
                        repeat (first | ((with_reducible refine mix_skip (by kernel_rfl) ?_); go_big_quiet_skip; (with_reducible refine mix_on ?_)) | ((with_reducible refine mix_plain (by kernel_rfl) ?_); (first | go_big_quiet_skip | (go_big_quiet_want; go_big_quiet_op; go_big_quiet_on)); (with_reducible refine mix_on ?_)))
                        refine wpMix_nil ?_
                        go_wp2_with fail
                        go_roundw
                        case rel => exact ⟨k + 1, by omega, by go_num, false, rfl, HNX, HZ1⟩
                        case measure => simp [intOf]; omega
                      | false =>
                        repeat (first | ((with_reducible refine mix_skip (by kernel_rfl) ?_); go_big_quiet_skip; (with_reducible refine mix_on ?_)) | ((with_reducible refine mix_plain (by kernel_rfl) ?_); (first | go_big_quiet_skip | (go_big_quiet_want; go_big_quiet_op; go_big_quiet_on)); (with_reducible refine mix_on ?_)))
                        ((with_reducible refine wpMix_chain (by kernel_rfl) (by kernel_rfl) (fun K HK => ?_)); go_step)
                        refine (rahead y x _ _ _).mono ?_; rintro _ z2 ⟨rfl, hb1⟩
                        have HZ2 := Lib.hid (show Below W.heap.size W z2 from below_on HZ1.out hb1)
                        refine HK.out _ _ ⟨⟨z2, HZ2.out⟩, rfl⟩ ?_
                        clear HK K hb1
                        generalize aheadB y x = t2 at HNX
                        have HNX := Lib.hid (show (!t2) = rovA O i (k + 1) from HNX.out)
                        repeat (first | ((with_reducible refine mix_skip (by kernel_rfl) ?_); go_big_quiet_skip; (with_reducible refine mix_on ?_)) | ((with_reducible refine mix_plain (by kernel_rfl) ?_); (first | go_big_quiet_skip | (go_big_quiet_want; go_big_quiet_op; go_big_quiet_on)); (with_reducible refine mix_on ?_)))
                        refine wpMix_nil ?_
                        cases t2 with
                        | true =>
                          go_wp2_with fail
                          go_roundw
                          case rel => exact ⟨k + 1, by omega, by go_num, false, rfl, HNX, HZ2⟩
                          case measure => simp [intOf]; omega
                        | false =>
                          go_wp2_with fail
                          go_roundw
                          case rel => exact ⟨k + 1, by omega, by go_num, true, rfl, HNX, HZ2⟩
                          case measure => simp [intOf]; omega
                · have hge : ¬ k < m := by omega
                  have HRN1 := Lib.hid (show rovN O (i + 1) = r + (if b = true then 1 else 0) by rw [rovN, ← HRN.out, HOV.out, hEK, HM.out])
                  have HRX := Lib.hid (show R42 wr q 28 (upd (cntN O (i + 1)) 39 (r : Nat)) from (HWX.out.block _ HR3.out.lt).trans HR3.out)
                  have HGX := Lib.hid (grown_below HG3.out HWX.out)
                  clear hEK
                  cases b with
                  | true =>
                    have c0 := HRX.out.cell (i := 39) (by omega)
                    rw [upd_same] at c0
                    have ff := HRX.out.free
                    go_wp2_with fail
                    generalize hU : World.setCell _ _ _ = U
                    have HRU := Lib.hid (show R42 U q 28 (upd (cntN O (i + 1)) 39 (rovN O (i + 1) : Nat)) by
                      rw [HRN1.out, if_pos rfl, ← upd_upd (cntN O (i + 1)) 39 (r : Nat), ← hU]
                      exact HRX.out.set (by omega) _)
                    have HGU := Lib.hid (show zb.grownBy U (some q) by rw [← hU]; exact grown_set HGX.out _ _)
                    clear hU c0 ff
                    go_roundw
                    case rel => exact ⟨i + 1, by omega, by go_num, HRU, HGU⟩
                    case measure => simp [intOf]; omega
                  | false =>
                    have HRU := Lib.hid (show R42 wr q 28 (upd (cntN O (i + 1)) 39 (rovN O (i + 1) : Nat)) by
                      rw [HRN1.out, if_neg (by decide)]
                      exact HRX.out)
                    go_wp2_with fail
                    go_roundw
                    case rel => exact ⟨i + 1, by omega, by go_num, HRU, HGX⟩
                    case measure => simp [intOf]; omega
    · have hge : ¬ i < m := by omega
      have HRE := Lib.hid (show R42 wr q 28 (upd (cntN O m) 39 (rovN O m : Nat)) by rw [← hEQ]; exact HRI.out)
      clear hEQ HRI
      obtain ⟨G, hG⟩ : ∃ G, G = upd (cntN O m) 39 (rovN O m : Nat) := ⟨_, rfl⟩
      rw [← hG] at HRE HQ
      have hg0 : G 41 = 0 := by rw [hG, upd_ne _ _ (by omega), cntN_hi O 41 (.inr rfl)]
      have HG0 := Lib.hid hg0
      clear hG hg0 hi
      go_wp2_with fail
      go_loopw [10] (fun av wr => ∃ a : Nat, a ≤ n ∧ av = .int .i64 a ∧ Hid (R42 wr q 28 (upd G 41 (rmN O a))) ∧ Hid (zb.grownBy wr (some q)))
        (fun av _ => n - (intOf av).toNat)
      case atStart => exact ⟨0, by omega, rfl, Lib.hid (by rw [rmN, upd_zero G 41 HG0.out]; exact HRE.out), HGI⟩
      case round =>
        obtain ⟨a, ha, rfl, HRA, HGA⟩ := hrel
        rcases (by omega : a < n ∨ a = n) with hla | hEA
        · go_wp2_with fail
          obtain ⟨Y, hY⟩ : ∃ Y, Y = wr := ⟨_, rfl⟩
          rw [← hY] at HRA HGA ⊢
          clear hY
          go_loopw [11, 12] (fun cv iv wr => ∃ i : Nat, i ≤ m ∧ iv = .int .i64 i ∧ ∃ c : Nat, c ≤ i ∧ cv = .int .i64 c ∧ Hid (c = (O.take i).countP (atB a)) ∧ wr = Y)
            (fun _ iv _ => m - (intOf iv).toNat)
          case atStart => exact ⟨0, by omega, rfl, 0, by omega, rfl, Lib.hid rfl, rfl⟩
          case round =>
            obtain ⟨i, hi, rfl, c, hc, rfl, HCN, hWR⟩ := hrel
            have hWR := hWR.symm
            subst hWR
            rcases (by omega : i < m ∨ i = m) with hlt | hEQ
            · obtain ⟨g, rfl, hgq, hD⟩ := HG.out (by omega)
              obtain ⟨x, hx⟩ : ∃ x, O[i]? = some x := ⟨_, List.getElem?_eq_getElem (by have := HM.out; omega)⟩
              obtain ⟨u, hC, _⟩ := hD i x hx
              have HCT := Lib.hid (cnt_take (atB a) O i x hx)
              obtain ⟨x0, x1, x2, x3, x4, x5, x6, x7, x8, x9, x10, x11, x12⟩ := hC.keptN HGA.out hgq
              clear x0 x1 x2 x3 x4 x5 x6 x7 x8 x9 x10 hD hC hx hgq
              have HAB := Lib.hid (show atB a x = (decide (x.fr ≤ a) && (decide (x.to < 0) || decide ((a : Int) < x.to))) from rfl)
              by_cases q1 : x.fr ≤ (a : Int)
              · have d1 : decide (x.fr ≤ (a : Int)) = true := decide_eq_true q1
                by_cases q2 : x.to < 0
                · have d2 : decide (x.to < 0) = true := decide_eq_true q2
                  have HNX := Lib.hid (show c + 1 = (O.take (i + 1)).countP (atB a) by rw [HCT.out, HAB.out, d1, d2, ← HCN.out]; rfl)
                  go_wp2_with fail
                  go_roundw
                  case rel => exact ⟨i + 1, by omega, by go_num, c + 1, by omega, by go_num, HNX, by trivial⟩
                  case measure => simp [intOf]; omega
                · have d2 : decide (x.to < 0) = false := decide_eq_false q2
                  by_cases q3 : (a : Int) < x.to
                  · have d3 : decide ((a : Int) < x.to) = true := decide_eq_true q3
                    have HNX := Lib.hid (show c + 1 = (O.take (i + 1)).countP (atB a) by rw [HCT.out, HAB.out, d1, d2, d3, ← HCN.out]; rfl)
                    go_wp2_with fail
                    go_roundw
                    case rel => exact ⟨i + 1, by omega, by go_num, c + 1, by omega, by go_num, HNX, by trivial⟩
                    case measure => simp [intOf]; omega
                  · have d3 : decide ((a : Int) < x.to) = false := decide_eq_false q3
                    have HNX := Lib.hid (show c = (O.take (i + 1)).countP (atB a) by rw [HCT.out, HAB.out, d1, d2, d3, ← HCN.out]; rfl)
                    go_wp2_with fail
                    go_roundw
                    case rel => exact ⟨i + 1, by omega, by go_num, c, by omega, by go_num, HNX, by trivial⟩
                    case measure => simp [intOf]; omega
              · have d1 : decide (x.fr ≤ (a : Int)) = false := decide_eq_false q1
                have HNX := Lib.hid (show c = (O.take (i + 1)).countP (atB a) by rw [HCT.out, HAB.out, d1, ← HCN.out]; rfl)
                go_wp2_with fail
                go_roundw
                case rel => exact ⟨i + 1, by omega, by go_num, c, by omega, by go_num, HNX, by trivial⟩
                case measure => simp [intOf]; omega
            · have hge : ¬ i < m := by omega
              have HCE := Lib.hid (show c = O.countP (atB a) by rw [HCN.out, hEQ, HM.out, List.take_length])
              have HRS := Lib.hid (show rmN O (a + 1) = if rmN O a < (c : Nat) then ((c : Nat) : Int) else rmN O a by rw [rmN, HCE.out])
              have hr1 := rmN_le O a
              obtain ⟨r, hr⟩ : ∃ r, r = rmN O a := ⟨_, rfl⟩
              rw [← hr] at HRA HRS hr1
              have hr2 : 0 ≤ r ∧ r ≤ 150 := by have := HM.out; omega
              obtain ⟨hr3, hr4⟩ := hr2
              clear hr1 hr hEQ
              have c0 := HRA.out.cell (i := 41) (by omega)
              rw [upd_same] at c0
              have ff := HRA.out.free
              by_cases hlc : r < (c : Int)
              · have HRS := Lib.hid (show rmN O (a + 1) = (c : Nat) by rw [HRS.out, if_pos hlc])
                go_wp2_with fail
                generalize hU : World.setCell _ _ _ = U
                have HRU := Lib.hid (show R42 U q 28 (upd G 41 (rmN O (a + 1))) by
                  rw [HRS.out, ← upd_upd G 41 r, ← hU]
                  exact HRA.out.set (by omega) _)
                have HGU := Lib.hid (show zb.grownBy U (some q) by rw [← hU]; exact grown_set HGA.out _ _)
                clear hU c0 ff
                go_roundw
                case rel => exact ⟨a + 1, by omega, by go_num, HRU, HGU⟩
                case measure => simp [intOf]; omega
              · have HRU := Lib.hid (show R42 Y q 28 (upd G 41 (rmN O (a + 1))) by rw [HRS.out, if_neg hlc]; exact HRA.out)
                go_wp2_with fail
                go_roundw
                case rel => exact ⟨a + 1, by omega, by go_num, HRU, HGA⟩
                case measure => simp [intOf]; omega
        · have hge : ¬ a < n := by omega
          have HRY := Lib.hid (show R42 wr q 28 (upd G 41 (rmN O n)) by rw [← hEA]; exact HRA.out)
          have HZY := Lib.hid (show R42 wr q0 28 (fun _ => 0) from HR0.out.kept HGA.out (by intro e; cases e; have := HQ1.out; omega))
          have HXY := Lib.hid (show Below w.heap.size w wr from HB1.out.grown HGA.out HB1.out.size (fun k e => by cases e; have := HQZ.out; have := HQ1.out; omega))
          clear hEA HRA
          generalize upd G 41 (rmN O n) = G2 at HRY HQ
          go_wp2_with (first | (refine wpList_load_mid rfl 28 (.tmp 3) rfl q 0 rfl (c42 G2) d HRY.out.range HDU.out HDR.out (by rw [c42_len]; exact infoS) ?_) | (refine wpList_store_mid rfl 28 (.tmp 2) (.tmp 191) rfl q0 0 (c42 G2).toArray rfl rfl (by rw [List.size_toArray, c42_len]; exact HZY.out.there) (by rw [List.size_toArray, c42_len]; exact infoS) (c42_one _) ?_))
          refine bodyPost_ret (FIN.out _ _ _ (World.rangeAt_setCells_same _ _ _ _ (by rw [c42_len]; exact HZY.out.there)) rfl) rfl ?_
          rw [HQ.out]
          exact ⟨rfl, below_setCells _ _ _ _ _ HQZ.out HXY.out⟩
end Go.Proofs.Ytilfgekiblpkaaa
