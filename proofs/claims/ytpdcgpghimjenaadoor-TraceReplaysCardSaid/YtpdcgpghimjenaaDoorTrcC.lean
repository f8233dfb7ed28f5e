/- Layer 40: Replay; the law's own comparison. -/
import Derived.Test.YtpdcgpghimjenaaDoorTrcB
import Derived.Deep.QuietTactic
namespace Go.Proofs.YtpdcgpghimjenaaDoor
open Go.RowKit
set_option linter.unusedVariables false
set_option linter.unusedSimpArgs false
theorem Ext.drewN {w : World} {g o : Nat} {v : Value} (h : w.cell? ⟨g, o, none⟩ = some v) : ∀ n, (w.drewN n).cell? ⟨g, o, none⟩ = some v := fun n => by
  have := Ext.cell ⟨w.drewN n, below_drewN (Below.refl _ _) n⟩ h
  exact this
theorem growU {W w1 : World} (hg : (W.alloc (.cells #[] 22)).grownBy w1 (Value.slice (some ⟨W.heap.size, 0, none⟩) 0 0).ownBlock) : Below W.heap.size W w1 :=
  (below_new (Below.refl _ _) _).grown hg (by simp) (fun k e => by simp only [Value.ownBlock, Option.some.injEq] at e; omega)
set_option maxHeartbeats 1000000 in
theorem uclone (n : Nat) (f : Nat → Int) (v : Value) (w : World) (h : UR w v n f) (hn : n ≤ 1000000) :
    Calls Tryd.prog 27 #[v] w fun e w' => ∃ v', e = .returned v' ∧ OwnU w' w.heap.size v' n f ∧ Below w.heap.size w w' := by
  have qT : ∀ (w : World) (a : Addr) (n c : Nat), (binOp .eql 42 (.slice (some a) n c) (.slice none 0 0)).run Tryd.prog w = .ok (.bool false) w := fun w a n c => Go.run_eql_slice_nil w _ _ (some a) n c uUL
  have qN : ∀ (w : World), (binOp .eql 42 (.slice none 0 0) (.slice none 0 0)).run Tryd.prog w = .ok (.bool true) w := fun w => Go.run_eql_slice_nil w _ _ none 0 0 uUL
  refine Calls.veil fun Q HQ => ?_
  have H := Lib.hid h
  cases h with
  | nil =>
    go_enter Tryd.func27, Tryd.ntmps27
    go_wp2_with fail
    (try go_ret)
    rw [HQ.out]
    exact ⟨_, rfl, ownU_nil _ _ _, Below.refl _ _⟩
  | odd ad c _ hc0 =>
    go_enter Tryd.func27, Tryd.ntmps27
    go_wp2_with (at_builtin; refine wpList_append_u rfl (.tmp 5) (.tmp 6) rfl w.heap.size _ 0 f _ rfl (ownU_none w f) rfl (H.out.below (by (repeat (first | exact Below.refl _ _ | assumption | refine below_new ?_ _ | refine Below.drew ?_ | refine below_drewN ?_ _ | refine below_on ?_ (by assumption))))) (by omega) (by simp) ?_)
    intro v1 w1 hown hg
    have hb := growU hg
    have HP := Lib.hid hown
    clear hown hg
    go_wp2_with fail
    (try go_ret)
    rw [HQ.out]
    exact ⟨_, rfl, HP.out, hb⟩
  | row g o _ c _ h1 h2 h3 =>
    clear h3
    go_enter Tryd.func27, Tryd.ntmps27
    go_wp2_with (at_builtin; refine wpList_append_u rfl (.tmp 5) (.tmp 6) rfl w.heap.size _ n f _ rfl (ownU_none w f) rfl (H.out.below (by (repeat (first | exact Below.refl _ _ | assumption | refine below_new ?_ _ | refine Below.drew ?_ | refine below_drewN ?_ _ | refine below_on ?_ (by assumption))))) (by omega) (by simp) ?_)
    intro v1 w1 hown hg
    have hb := growU hg
    have HP := Lib.hid hown
    clear hown hg
    go_wp2_with fail
    (try go_ret)
    rw [HQ.out]
    exact ⟨_, rfl, HP.out, hb⟩
set_option maxHeartbeats 1000000 in
theorem swords (n : Nat) (f : Nat → Int) (va vb : Value) (w : World) (ha : UR w va n f) (hb : UR w vb n f) (hn : n ≤ 1000000) :
    Calls Tryd.prog 14 #[va, vb] w fun e w' => e = .returned (.bool true) ∧ Below w.heap.size w w' := by
  refine Calls.veil fun Q HQ => ?_
  obtain ⟨pa, ca, rfl, a1, a2, A3⟩ := ha.parts
  obtain ⟨pb, cb, rfl, b1, b2, B3⟩ := hb.parts
  clear ha hb
  go_enter Tryd.func14, Tryd.ntmps14
  go_wp2_with fail
  go_loopw [5] (fun iv wr => ∃ i : Nat, i ≤ n ∧ iv = .int .i64 i ∧ Below w.heap.size w wr) (fun iv _ => n - (intOf iv).toNat)
  case atStart => exact ⟨0, by omega, rfl, Below.refl _ _⟩
  case round =>
    obtain ⟨i, hi, rfl, hbx⟩ := hrel
    have HX := Lib.hid hbx
    clear hbx
    rcases (by omega : i < n ∨ i = n) with hlt | hEQ
    · obtain ⟨ga, oa, rfl, hA⟩ := A3.out (by omega)
      obtain ⟨gb, ob, rfl, hB⟩ := B3.out (by omega)
      have x0 := Ext.drewN (Ext.cell ⟨wr, HX.out⟩ (hA i hlt))
      have y0 := Ext.drewN (Ext.cell ⟨wr, HX.out⟩ (hB i hlt))
      clear hA hB
      go_upto_region 6 with fail
      go_quiet (fail)
      clear x0 y0
      have HY := Lib.hid (below_drewN HX.out nq)
      generalize wr.drewN nq = W at *
      go_wp2_with fail
      go_roundw
      case rel => exact ⟨i + 1, by omega, by go_num, HY.out⟩
      case measure => simp [intOf]; omega
    · have hge : ¬ i < n := by omega
      clear hEQ
      go_wp2_with fail
      (try go_ret)
      rw [HQ.out]
      exact ⟨rfl, HX.out⟩
set_option maxHeartbeats 4000000 in
theorem sreplay (n m : Nat) (f : Nat → Int) (L : Nat → Ch) (v vl : Value) (w : World) (h : UR w v n f) (hl : CR w vl m L) (hn : n ≤ 1000000) :
    Calls Tryd.prog 15 #[v, vl] w fun e w' => ∃ v', e = .returned v' ∧ OwnU w' w.heap.size v' n (rpN n f L m) ∧ Below w.heap.size w w' := by
  refine Calls.veil fun Q HQ => ?_
  obtain ⟨pl, cl, rfl, a1, a2, A3⟩ := hl.parts
  have HU := Lib.hid h
  obtain ⟨pv, cv, rfl, _, _, _⟩ := h.parts
  clear h hl
  go_enter Tryd.func15, Tryd.ntmps15
  go_wp2_with fail
  refine (uclone n f _ _ HU.out hn).mono ?_; rintro _ z1 ⟨vo, rfl, ho, hb1⟩
  obtain ⟨po, co, rfl, c1, c2⟩ := ownU_slice ho
  have HO := Lib.hid ho
  have HB1 := Lib.hid hb1
  clear ho hb1
  go_wp2_with fail
  go_loopw [12] (fun iv wr => ∃ i : Nat, i ≤ m ∧ iv = .int .i64 i ∧ Hid (OwnU wr w.heap.size (.slice po n co) n (rpN n f L i)) ∧ Below w.heap.size w wr) (fun iv _ => m - (intOf iv).toNat)
  case atStart => exact ⟨0, by omega, rfl, HO, HB1.out⟩
  case round =>
    obtain ⟨i, hi, rfl, HOI, hbx⟩ := hrel
    have HX := Lib.hid hbx
    clear hbx
    rcases (by omega : i < m ∨ i = m) with hlt | hEQ
    · obtain ⟨g, o, rfl, hA⟩ := A3.out (by omega)
      obtain ⟨x0, x1, x2⟩ := hA i hlt
      have x0 := Ext.cell ⟨wr, HX.out⟩ x0
      have x1 := Ext.cell ⟨wr, HX.out⟩ x1
      have x2 := Ext.cell ⟨wr, HX.out⟩ x2
      simp only at x0 x1 x2
      clear hA
      obtain ⟨F', hF'⟩ : ∃ F', F' = rpN n f L (i + 1) := ⟨_, rfl⟩
      have HRS := Lib.hid (show F' = rp1 n (rpN n f L i) (L i) from hF')
      have HFE := Lib.hid hF'
      clear hF'
      generalize rpN n f L i = F at HRS HOI
      generalize L i = ch at *
      obtain ⟨a, wa, ia⟩ := ch
      simp only at x0 x1 x2
      go_upto_region 5 with fail
      generalize hU : World.alloc wr _ = U
      have HUB := Lib.hid (show Below wr.heap.size wr U by rw [← hU]; exact below_new (Below.refl _ _) _)
      have z0 : U.cell? ⟨wr.heap.size, 0, none⟩ = some (.int .i64 a) := Ext.made hU 0 _ rfl ⟨U, Below.refl _ _⟩
      have z1 : U.cell? ⟨wr.heap.size, 1, none⟩ = some (.int .u64 wa) := Ext.made hU 1 _ rfl ⟨U, Below.refl _ _⟩
      have z2 : U.cell? ⟨wr.heap.size, 2, none⟩ = some (.int .u64 ia) := Ext.made hU 2 _ rfl ⟨U, Below.refl _ _⟩
      clear hU x0 x1 x2
      obtain ⟨Z, hZ⟩ : ∃ Z, Z = wr.heap.size := ⟨_, rfl⟩
      rw [← hZ] at z0 z1 z2 ⊢
      have HZ := Lib.hid hZ
      clear hZ
      have HOU := Lib.hid (ownU_kept HOI.out HUB.out)
      have HXU := Lib.hid (show Below w.heap.size w U from HX.out.trans (HUB.out.mono HX.out.size))
      have z0 := Ext.drewN z0; have z1 := Ext.drewN z1; have z2 := Ext.drewN z2
      cases hh : hits n F ⟨a, wa, ia⟩ with
      | true =>
        obtain ⟨h1, h2, h3⟩ := hits_true hh
        simp only at h1 h2 h3
        have HF := Lib.hid (show F' = upd F a.toNat ia by rw [HRS.out]; unfold rp1; rw [if_pos hh])
        obtain ⟨k, rfl⟩ : ∃ k : Nat, a = k := ⟨a.toNat, by omega⟩
        rw [Int.toNat_natCast] at h3 HF
        clear hh h1
        have hkn : k < n := by omega
        rcases ownU_parts HOU.out with ⟨_, rfl⟩ | ⟨go', co', hv, _, _, hbg, _⟩
        · omega
        · simp only [Value.slice.injEq] at hv
          obtain ⟨rfl, _, rfl⟩ := hv
          have c0 := ownU_cell HOU.out hkn
          have c0 := Ext.drewN c0
          go_quiet (fail)
          have z0 := z0 nq; have z2 := z2 nq; have c0 := c0 nq
          have HOW := Lib.hid (show OwnU (U.drewN nq) w.heap.size (.slice (some ⟨go', 0, none⟩) n co) n F from ownU_kept HOU.out (below_drewN (Below.refl _ _) nq))
          have HXW := Lib.hid (below_drewN HXU.out nq)
          have ff := ownU_free HOW.out
          clear z1
          generalize U.drewN nq = W at *
          go_wp2_with fail
          go_roundw
          case rel => exact ⟨i + 1, by omega, by go_num, Lib.hid (by rw [← HFE.out, HF.out]; exact ownU_set HOW.out hkn ia), HXW.out.setCell (p := ⟨go', k, none⟩) hbg _⟩
          case measure => simp [intOf]; omega
      | false =>
        have hno := hits_false hh
        simp only at hno
        have HF := Lib.hid (show F' = F by rw [HRS.out]; unfold rp1; rw [hh]; rfl)
        clear hh z2
        have fin : ∀ W : World, Below U.heap.size U W → (OwnU W w.heap.size (.slice po n co) n F' ∧ Below w.heap.size w W) := fun W hb => ⟨by rw [HF.out]; exact ownU_kept HOU.out hb, below_on HXU.out hb⟩
        have FIN := Lib.hid fin
        clear fin
        by_cases h1 : 0 ≤ a
        · by_cases h2 : a < n
          · have h3 : ¬ F a.toNat = wa := fun h3 => hno ⟨h1, h2, h3⟩
            obtain ⟨k, rfl⟩ : ∃ k : Nat, a = k := ⟨a.toNat, by omega⟩
            rw [Int.toNat_natCast] at h3
            clear hno h1
            have hkn : k < n := by omega
            rcases ownU_parts HOU.out with ⟨_, rfl⟩ | ⟨go', co', hv, _, _, hbg, _⟩
            · omega
            · simp only [Value.slice.injEq] at hv
              obtain ⟨rfl, _, rfl⟩ := hv
              have c0 := ownU_cell HOU.out hkn
              have c0 := Ext.drewN c0
              have hd : (F k == wa) = false := by rw [beq_eq_false_iff_ne]; exact h3
              clear h3
              go_quiet (fail)
              clear z0 z1 c0 hd
              have HFN := Lib.hid (FIN.out _ (below_drewN (Below.refl _ _) nq))
              generalize U.drewN nq = W at *
              go_wp2_with fail
              go_roundw
              case rel => exact ⟨i + 1, by omega, by go_num, Lib.hid (HFE.out ▸ HFN.out.1), HFN.out.2⟩
              case measure => simp [intOf]; omega
          · clear hno z1
            have hd : decide (a < (n : Int)) = false := decide_eq_false h2
            clear h2
            go_quiet (fail)
            clear z0 hd
            have HFN := Lib.hid (FIN.out _ (below_drewN (Below.refl _ _) nq))
            generalize U.drewN nq = W at *
            go_wp2_with fail
            go_roundw
            case rel => exact ⟨i + 1, by omega, by go_num, Lib.hid (HFE.out ▸ HFN.out.1), HFN.out.2⟩
            case measure => simp [intOf]; omega
        · clear hno z1
          have hd : decide (0 ≤ a) = false := decide_eq_false h1
          clear h1
          go_quiet (fail)
          clear z0 hd
          have HFN := Lib.hid (FIN.out _ (below_drewN (Below.refl _ _) nq))
          generalize U.drewN nq = W at *
          go_wp2_with fail
          go_roundw
          case rel => exact ⟨i + 1, by omega, by go_num, Lib.hid (HFE.out ▸ HFN.out.1), HFN.out.2⟩
          case measure => simp [intOf]; omega
    · have hge : ¬ i < m := by omega
      have HOM := Lib.hid (show OwnU wr w.heap.size (.slice po n co) n (rpN n f L m) from hEQ ▸ HOI.out)
      clear hEQ HOI
      go_wp2_with fail
      (try go_ret)
      rw [HQ.out]
      exact ⟨_, rfl, HOM.out, HX.out⟩
end Go.Proofs.YtpdcgpghimjenaaDoor
