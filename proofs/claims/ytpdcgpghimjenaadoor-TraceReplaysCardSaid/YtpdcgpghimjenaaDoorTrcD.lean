/- Layer 40: TraceReplays. -/
import Derived.Test.YtpdcgpghimjenaaDoorTrcC
namespace Go.Proofs.YtpdcgpghimjenaaDoor
open Go.RowKit
set_option linter.unusedVariables false
set_option linter.unusedSimpArgs false
/-- The words behind the places ahead of a were held against one change. -/
def stA (n : Nat) (F : Nat → Int) (c : Ch) (a : Nat) : Nat → Int := if hits n F c = true ∧ c.at_.toNat < a then upd F c.at_.toNat c.is_ else F
theorem stA_zero (n : Nat) (F : Nat → Int) (c : Ch) : stA n F c 0 = F := by unfold stA; rw [if_neg (by omega)]
theorem stA_all (n : Nat) (F : Nat → Int) (c : Ch) : stA n F c n = rp1 n F c := by
  unfold stA rp1
  by_cases h : hits n F c = true
  · obtain ⟨h1, h2, _⟩ := hits_true h
    rw [if_pos ⟨h, by omega⟩, if_pos h]
  · rw [if_neg (fun k => h k.1), if_neg h]
theorem stA_yes {n : Nat} {F : Nat → Int} {c : Ch} {a : Nat} (ha : a < n) (h1 : c.at_ = a) (h2 : F a = c.was) : stA n F c a = F ∧ stA n F c (a + 1) = upd F a c.is_ := by
  have hh : hits n F c = true := decide_eq_true ⟨by omega, by omega, by rw [h1, Int.toNat_natCast]; exact h2⟩
  unfold stA
  rw [h1, Int.toNat_natCast]
  exact ⟨if_neg (by omega), if_pos ⟨hh, by omega⟩⟩
theorem stA_no {n : Nat} {F : Nat → Int} {c : Ch} {a : Nat} (h : ¬ (c.at_ = a ∧ stA n F c a a = c.was)) : stA n F c (a + 1) = stA n F c a := by
  unfold stA at *
  by_cases hh : hits n F c = true
  · obtain ⟨h1, h2, h3⟩ := hits_true hh
    by_cases he : c.at_ = a
    · exfalso
      refine h ⟨he, ?_⟩
      rw [if_neg (by rw [he, Int.toNat_natCast]; omega)]
      rw [he, Int.toNat_natCast] at h3
      exact h3
    · by_cases hl : c.at_.toNat < a
      · rw [if_pos ⟨hh, by omega⟩, if_pos ⟨hh, hl⟩]
      · rw [if_neg (fun k => by omega), if_neg (fun k => hl k.2)]
  · rw [if_neg (fun k => hh k.1), if_neg (fun k => hh k.1)]
set_option maxRecDepth 8000 in
set_option maxHeartbeats 8000000 in
theorem treplays (n m : Nat) (f : Nat → Int) (L : Nat → Ch) (v vl : Value) (w : World) (h : UR w v n f) (hl : CR w vl m L) :
    Calls Tryd.prog 4 #[v, vl] w fun e w' => e = .returned (.bool true) ∧ Below w.heap.size w w' := by
  refine Calls.veil fun Q HQ => ?_
  obtain ⟨pl, cl, rfl, a1, a2, A3⟩ := hl.parts
  have HU := Lib.hid h
  have HL := Lib.hid hl
  obtain ⟨pv, cv, rfl, b1, b2, _⟩ := h.parts
  clear h hl
  go_enter Tryd.func4, Tryd.ntmps4
  by_cases hn : n ≤ 200
  · by_cases hm : m ≤ 200
    · go_wp2_with (at_builtin; refine wpList_append_u rfl (.tmp 18) (.tmp 19) rfl w.heap.size _ n f _ rfl (ownU_none w f) rfl (HU.out.below (by (repeat (first | exact Below.refl _ _ | assumption | refine below_new ?_ _ | refine Below.drew ?_ | refine below_drewN ?_ _ | refine below_on ?_ (by assumption))))) (by omega) (by simp) ?_)
      intro v1 w1 hown hg
      have HB1 := Lib.hid (growU hg)
      have HW := Lib.hid hown
      obtain ⟨p1, c1, rfl, _, _⟩ := ownU_slice hown
      clear hown hg
      go_wp2_with (at_builtin; refine wpList_append_u rfl (.tmp 21) (.tmp 22) rfl w1.heap.size _ n f _ rfl (ownU_none w1 f) rfl (HU.out.below (below_new HB1.out _)) (by omega) (by simp) ?_)
      intro v2 w2 hown hg
      have HB2 := Lib.hid (growU hg)
      have HO := Lib.hid hown
      obtain ⟨p2, c2, rfl, d1, d2⟩ := ownU_slice hown
      clear hown hg
      go_wp2_with fail
      go_loopw [7] (fun iv wr => ∃ i : Nat, i ≤ m ∧ iv = .int .i64 i ∧ Hid (OwnU wr w1.heap.size (.slice p2 n c2) n (rpN n f L i)) ∧ Below w1.heap.size w1 wr) (fun iv _ => m - (intOf iv).toNat)
      case atStart => exact ⟨0, by omega, rfl, HO, HB2.out⟩
      case round =>
        obtain ⟨i, hi, rfl, HOI, hbx⟩ := hrel
        have HX := Lib.hid hbx
        have HX0 := Lib.hid (below_on HB1.out hbx)
        clear hbx
        rcases (by omega : i < m ∨ i = m) with hlt | hEQ
        · obtain ⟨g, o, rfl, hA⟩ := A3.out (by omega)
          have HAI := Lib.hid (hA i hlt)
          clear hA
          obtain ⟨F', hF'⟩ : ∃ F', F' = rpN n f L (i + 1) := ⟨_, rfl⟩
          have HRS := Lib.hid (show F' = rp1 n (rpN n f L i) (L i) from hF')
          have HFE := Lib.hid hF'
          clear hF'
          generalize rpN n f L i = F at HRS HOI
          generalize L i = ch at HRS HAI
          obtain ⟨W0, hW0⟩ : ∃ W0, W0 = wr := ⟨_, rfl⟩
          rw [← hW0] at HOI HX HX0 ⊢
          clear hW0
          go_wp2_with fail
          go_loopw [8] (fun av wr => ∃ a : Nat, a ≤ n ∧ av = .int .i64 a ∧ Hid (OwnU wr w1.heap.size (.slice p2 n c2) n (stA n F ch a)) ∧ Below w1.heap.size w1 wr) (fun av _ => n - (intOf av).toNat)
          case atStart => exact ⟨0, by omega, rfl, Lib.hid (by rw [stA_zero]; exact HOI.out), HX.out⟩
          case round =>
            obtain ⟨a, ha, rfl, HOA, hby⟩ := hrel
            have HY := Lib.hid hby
            have HY0 := Lib.hid (below_on HB1.out hby)
            clear hby
            rcases (by omega : a < n ∨ a = n) with hlt2 | hEQ2
            · rcases ownU_parts HOA.out with ⟨_, rfl⟩ | ⟨go', co', hv, _, _, hbg, _⟩
              · omega
              · simp only [Value.slice.injEq] at hv
                obtain ⟨rfl, _, rfl⟩ := hv
                obtain ⟨x0, x1, x2⟩ := HAI.out
                have x0 := Ext.drewN (Ext.cell ⟨wr, HY0.out⟩ x0)
                have x1 := Ext.drewN (Ext.cell ⟨wr, HY0.out⟩ x1)
                have x2 := Ext.drewN (Ext.cell ⟨wr, HY0.out⟩ x2)
                simp only at x0 x1 x2
                have c0 := Ext.drewN (ownU_cell HOA.out hlt2)
                have HBG := Lib.hid hbg
                clear hbg
                have HST := Lib.hid (fun h1 h2 => stA_yes (n := n) (F := F) (c := ch) hlt2 h1 h2)
                have HSN := Lib.hid (stA_no (n := n) (F := F) (c := ch) (a := a))
                by_cases he : ch.at_ = a
                · by_cases hw : F a = ch.was
                  · obtain ⟨e1, e2⟩ := HST.out he hw
                    rw [e1] at c0 HOA
                    have HE2 := Lib.hid e2
                    have hd1 : ((a : Int) == ch.at_) = true := by rw [beq_iff_eq]; exact he.symm
                    have hd2 : (F a == ch.was) = true := by rw [beq_iff_eq]; exact hw
                    clear e1 e2 he hw HSN HST
                    go_upto_region 11 with fail
                    go_quiet (fail)
                    have x2 := x2 nq
                    clear x0 x1 c0 hd1 hd2
                    have HOW := Lib.hid (show OwnU (wr.drewN nq) w1.heap.size (.slice (some ⟨go', 0, none⟩) n c2) n F from ownU_kept HOA.out (below_drewN (Below.refl _ _) nq))
                    have HYW := Lib.hid (below_drewN HY.out nq)
                    have ff := ownU_free HOW.out
                    have cc := ownU_cell HOW.out hlt2
                    generalize wr.drewN nq = W at *
                    go_wp2_with fail
                    go_roundw
                    case rel => exact ⟨a + 1, by omega, by go_num, Lib.hid (by rw [HE2.out]; exact ownU_set HOW.out hlt2 _), HYW.out.setCell (p := ⟨go', a, none⟩) HBG.out _⟩
                    case measure => simp [intOf]; omega
                  · have hs : stA n F ch a = F := by unfold stA; rw [if_neg (by rw [he, Int.toNat_natCast]; omega)]
                    have e2 := HSN.out (fun k => hw (by rw [hs] at k; exact k.2))
                    have HE2 := Lib.hid e2
                    rw [hs] at c0
                    have hd1 : ((a : Int) == ch.at_) = true := by rw [beq_iff_eq]; exact he.symm
                    have hd2 : (F a == ch.was) = false := by rw [beq_eq_false_iff_ne]; exact hw
                    clear he hw HSN HST x2 hs e2
                    go_upto_region 11 with fail
                    go_quiet (fail)
                    clear x0 x1 c0 hd1 hd2
                    have HOW := Lib.hid (show OwnU (wr.drewN nq) w1.heap.size (.slice (some ⟨go', 0, none⟩) n c2) n (stA n F ch a) from ownU_kept HOA.out (below_drewN (Below.refl _ _) nq))
                    have HYW := Lib.hid (below_drewN HY.out nq)
                    generalize wr.drewN nq = W at *
                    go_wp2_with fail
                    go_roundw
                    case rel => exact ⟨a + 1, by omega, by go_num, Lib.hid (by rw [HE2.out]; exact HOW.out), HYW.out⟩
                    case measure => simp [intOf]; omega
                · have e2 := HSN.out (fun k => he k.1)
                  have HE2 := Lib.hid e2
                  have hd1 : ((a : Int) == ch.at_) = false := by rw [beq_eq_false_iff_ne]; exact fun h => he h.symm
                  clear he HSN HST x1 x2 e2 c0
                  go_upto_region 11 with fail
                  go_quiet (fail)
                  clear x0 hd1
                  have HOW := Lib.hid (show OwnU (wr.drewN nq) w1.heap.size (.slice (some ⟨go', 0, none⟩) n c2) n (stA n F ch a) from ownU_kept HOA.out (below_drewN (Below.refl _ _) nq))
                  have HYW := Lib.hid (below_drewN HY.out nq)
                  generalize wr.drewN nq = W at *
                  go_wp2_with fail
                  go_roundw
                  case rel => exact ⟨a + 1, by omega, by go_num, Lib.hid (by rw [HE2.out]; exact HOW.out), HYW.out⟩
                  case measure => simp [intOf]; omega
            · have hge : ¬ a < n := by omega
              have HOE := Lib.hid (show OwnU wr w1.heap.size (.slice p2 n c2) n (rpN n f L (i + 1)) by
                have := HOA.out
                rw [hEQ2, stA_all, ← HRS.out, HFE.out] at this
                exact this)
              clear hEQ2 HOA
              go_wp2_with fail
              go_roundw
              case rel => exact ⟨i + 1, by omega, by go_num, HOE, HY.out⟩
              case measure => simp [intOf]; omega
        · have hge : ¬ i < m := by omega
          have HOM := Lib.hid (show OwnU wr w1.heap.size (.slice p2 n c2) n (rpN n f L m) from hEQ ▸ HOI.out)
          clear hEQ HOI
          go_wp2_with fail
          refine (sreplay n m f L _ _ wr (HU.out.below HX0.out) (HL.out.below HX0.out) (by omega)).mono ?_; rintro _ z1 ⟨v3, rfl, ho3, hb3⟩
          obtain ⟨p3, c3, rfl, _, _⟩ := ownU_slice ho3
          have H3 := Lib.hid (ownU_UR ho3)
          have HB3 := Lib.hid hb3
          clear ho3 hb3
          go_wp2_with fail
          refine (swords n _ _ _ z1 H3.out (ownU_UR (ownU_kept HOM.out HB3.out)) (by omega)).mono ?_; rintro _ z2 ⟨rfl, hb4⟩
          have HB4 := Lib.hid (below_on HB3.out hb4)
          clear hb4
          go_wp2_with fail
          refine (swords n f _ _ z2 (HU.out.below (below_on HX0.out HB4.out)) ((ownU_UR HW.out).below (below_on HX.out HB4.out)) (by omega)).mono ?_; rintro _ z3 ⟨rfl, hb5⟩
          have HB5 := Lib.hid (below_on HB4.out hb5)
          clear hb5
          go_wp2_with fail
          refine (lives40_calls _).mono ?_; rintro _ z4 ⟨rfl, hb6⟩
          have HF := Lib.hid (below_on HX0.out (below_on HB5.out hb6))
          clear hb6
          go_wp2_with fail
          (try go_ret)
          rw [HQ.out]
          exact ⟨rfl, HF.out⟩
    · go_wp2_with fail
      refine (lives40_calls _).mono ?_; rintro _ z2 ⟨rfl, hb2⟩
      have HF := Lib.hid hb2
      clear hb2
      go_wp2_with fail
      (try go_ret)
      rw [HQ.out]
      exact ⟨rfl, HF.out⟩
  · go_wp2_with fail
    refine (lives40_calls _).mono ?_; rintro _ z2 ⟨rfl, hb2⟩
    have HF := Lib.hid hb2
    clear hb2
    go_wp2_with fail
    (try go_ret)
    rw [HQ.out]
    exact ⟨rfl, HF.out⟩
end Go.Proofs.YtpdcgpghimjenaaDoor
