/- Layer 38: stats.Of. -/
import Derived.Test.YtilfgekiblpkaaaStaF
import Derived.Test.YtilfgekiblpkaaaStaE
import Derived.Deep.MidRow
namespace Go.Proofs.Ytilfgekiblpkaaa
open Go.RowKit
set_option linter.unusedVariables false
set_option linter.unusedSimpArgs false
theorem c42_len (F : Nat → Int) : (c42 F).length = 42 := by simp [c42]
theorem R42.range {w : World} {q : Nat} {T : TypeId} {F : Nat → Int} (h : R42 w q T F) : w.rangeAt q 0 (c42 F) := fun j v hv => by
  have hj : j < 42 := by have := (List.getElem?_eq_some_iff.1 hv).1; rwa [c42_len] at this
  rw [c42_get hj] at hv
  cases hv
  rw [Nat.zero_add]; exact h.cell hj
theorem R42.there {w : World} {q : Nat} {T : TypeId} {F : Nat → Int} (h : R42 w q T F) : w.there q 0 42 := fun j hj => by
  rw [Nat.zero_add]; exact ⟨by rw [h.cell hj]; rfl, h.free j⟩
theorem c42_one (F : Nat → Int) : (c42 F).toArray.all (·.oneCell') = true := all_oneCell_toArray fun v hv => by
  simp only [c42, List.mem_map] at hv
  obtain ⟨_, _, rfl⟩ := hv
  rfl
theorem below_setCells {B : Nat} : ∀ (vs : List Value) (b o : Nat) (w W : World), B ≤ b → Below B w W → Below B w (W.setCells b o vs)
  | [], _, _, _, _, _, h => h
  | v :: vs, b, o, w, W, hb, h => by
    rw [World.setCells]
    exact below_setCells vs b (o + 1) w _ hb (h.setCell (p := ⟨b, o, none⟩) hb v)
theorem uSum : ∃ d, Try.prog.underlying 29 = some d ∧ d.isRow = true := by
  have h : (Try.prog.underlying 29).map (·.isRow) = some true := by kernel_rfl
  cases h1 : Try.prog.underlying 29 with
  | none => rw [h1] at h; cases h
  | some d => rw [h1] at h; exact ⟨d, rfl, by simpa using h⟩
theorem infoSum : (Try.prog.info? 29).map (·.size) = some 42 := by kernel_rfl
def cntN (O : List Opr) : Nat → Nat → Int
  | 0 => fun _ => 0
  | i + 1 => cnt1 (cntN O i) (o_ O i)
theorem cntN_le (O : List Opr) (h : ∀ x ∈ O, x.an.ps.length ≤ 100000) (hn : ∀ i, i < O.length → (o_ O i) ∈ O) : ∀ (i : Nat), i ≤ O.length → ∀ j, 0 ≤ cntN O i j ∧ cntN O i j ≤ i * 100002
  | 0, _, j => by simp [cntN]
  | i + 1, hi, j => by
    have := cnt1_le (o_ O i) (cntN_le O h hn i (by omega)) (h _ (hn i (by omega))) j
    rw [cntN]
    omega
def sumF (L : Nat → Ev) (n : Nat) : Nat → Int := if mayH L n = true then upd (upd (cntN (stO L n).1 (stO L n).1.length) 39 (ovN (stO L n).1 (stO L n).1.length : Nat)) 41 (mostN L n) else fun _ => 0
set_option maxRecDepth 8000 in
set_option maxHeartbeats 16000000 in
theorem sof (n : Nat) (L : Nat → Ev) (v : Value) (w : World) (h : VR w v n L) (hn : n ≤ 150) (hpl : ∀ i, i < n → (L i).an.ps.length ≤ 1500) :
    Calls Try.prog 7 #[v] w fun e w' => e = .returned (.agg (c42 (sumF L n)).toArray) ∧ Below w.heap.size w w' := by
  refine Calls.veil fun Q HQ => ?_
  have HV := Lib.hid h
  have HPL := Lib.hid hpl
  obtain ⟨p, c, rfl, a1, a2, A3⟩ := h.parts
  obtain ⟨d, hdu, hdr⟩ := uSum
  have HDU := Lib.hid hdu
  have HDR := Lib.hid hdr
  clear h hpl hdu hdr
  go_enter Try.func7, Try.ntmps7
  go_upto_region 2 with fail
  generalize hV : World.alloc (World.alloc w _) _ = V
  obtain ⟨q0, hq0⟩ : ∃ q0, q0 = w.heap.size := ⟨_, rfl⟩
  rw [← hq0]
  have HR0 := Lib.hid (show R42 V q0 29 (fun _ => 0) by rw [← hV, hq0]; unfold R42; rw [Below.heap_alloc _ _ _ (by simp)]; exact heap_alloc_new w _)
  have HR1 := Lib.hid (show R42 V (q0 + 1) 29 (fun _ => 0) by
    rw [← hV, hq0]
    have := heap_alloc_new (w.alloc (.cells (c42 fun _ => 0).toArray 29)) (.cells (c42 fun _ => 0).toArray 29)
    rw [World.size_alloc] at this
    exact this)
  have HVB := Lib.hid (show Below w.heap.size w V by rw [← hV]; exact below_new (below_new (Below.refl _ _) _) _)
  have HQZ := Lib.hid (Nat.le_of_eq hq0.symm)
  clear hV hq0
  go_wp2_with fail
  refine (hmay n L _ V (HV.out.below HVB.out) (by omega)).mono ?_; rintro _ z1 ⟨rfl, hb1⟩
  have HB1 := Lib.hid (below_on HVB.out hb1)
  have HR0 := Lib.hid (show R42 z1 q0 29 (fun _ => 0) from (hb1.block _ HR0.out.lt).trans HR0.out)
  have HR1 := Lib.hid (show R42 z1 (q0 + 1) 29 (fun _ => 0) from (hb1.block _ HR1.out.lt).trans HR1.out)
  clear hb1
  have fin : ∀ (F : Nat → Int) (a : Act) (W : World), W.rangeAt q0 0 (c42 F) → a.tmps.getD 2 undef = .pointer (some ⟨q0, 0, none⟩) → (results Try.f7 a.tmps).run Try.prog W = .ok (.agg (c42 F).toArray) W := by
    intro F a W hW ha
    have := run_loadVar_mid (P := Try.prog) W q0 0 29 (c42 F) d hW HDU.out HDR.out (by rw [c42_len]; exact infoSum)
    have ha' : a.tmps[2]?.getD undef = .pointer (some ⟨q0, 0, none⟩) := by simpa using ha
    simp [results, Try.results7, ha', asAddr, this]
  have FIN := Lib.hid fin
  clear fin
  cases hm : mayH L n with
  | false =>
    have HM := Lib.hid hm
    rw [show sumF L n = fun _ => 0 by unfold sumF; rw [hm]; rfl] at HQ
    clear hm
    go_wp2_with (first | (refine wpList_load_mid rfl 29 (.tmp 3) rfl (q0 + 1) 0 rfl (c42 fun _ => 0) d HR1.out.range HDU.out HDR.out (by rw [c42_len]; exact infoSum) ?_) | (refine wpList_store_mid rfl 29 (.tmp 2) (.tmp 10) rfl q0 0 (c42 fun _ => 0).toArray rfl rfl (by rw [List.size_toArray, c42_len]; exact HR0.out.there) (by rw [List.size_toArray, c42_len]; exact infoSum) (c42_one _) ?_))
    refine bodyPost_ret (FIN.out _ _ _ (World.rangeAt_setCells_same _ _ _ _ (by rw [c42_len]; exact HR0.out.there)) rfl) rfl ?_
    rw [HQ.out]
    exact ⟨rfl, below_setCells _ _ _ _ _ HQZ.out HB1.out⟩
  | true =>
    have HM := Lib.hid hm
    rw [show sumF L n = upd (upd (cntN (stO L n).1 (stO L n).1.length) 39 (ovN (stO L n).1 (stO L n).1.length : Nat)) 41 (mostN L n) by unfold sumF; rw [hm]; rfl] at HQ
    clear hm
    go_wp2_with fail
    refine (hopers n L _ z1 (HV.out.below HB1.out) (by omega) (fun i hi => by have := HPL.out i hi; omega) HM.out).mono ?_; rintro _ z2 ⟨v1, l, rfl, hl, ho, hp, hb2⟩
    have HB2 := Lib.hid (below_on HB1.out hb2)
    have HR0 := Lib.hid (show R42 z2 q0 29 (fun _ => 0) from (hb2.block _ HR0.out.lt).trans HR0.out)
    have HQB := Lib.hid (show q0 + 1 < z1.heap.size from HR1.out.lt)
    have HR1 := Lib.hid (show R42 z2 (q0 + 1) 29 (fun _ => 0) from (hb2.block _ HR1.out.lt).trans HR1.out)
    have HPS := Lib.hid (stO_ps (B := 1500) HPL.out n (Nat.le_refl _))
    have HLE := Lib.hid (stO_len L n)
    obtain ⟨O, hO⟩ : ∃ O, O = (stO L n).1 := ⟨_, rfl⟩
    rw [← hO] at HQ hl HPS HLE
    have HO := Lib.hid ho
    have HP := Lib.hid hp
    have HL := Lib.hid hl
    obtain ⟨p1, c1, rfl, d1, d2⟩ := own_sliceQ ho
    have hlen : l.length = O.length := by rw [← hl, List.length_map]
    obtain ⟨m, hm⟩ : ∃ m, m = l.length := ⟨_, rfl⟩
    rw [← hm] at d1 HO hlen ⊢
    have HML := Lib.hid hm
    have HMO := Lib.hid hlen
    have hm1 : m ≤ 150 := by have := HLE.out; omega
    clear ho hp hl hb2 hO hm hlen
    go_wp2_with fail
    go_loopw [15] (fun iv wr => ∃ i : Nat, i ≤ m ∧ iv = .int .i64 i ∧ Hid (R42 wr (q0 + 1) 29 (cntN O i)) ∧ Hid (R42 wr q0 29 (fun _ => 0)) ∧ Hid (wr.ownsRow z1.heap.size 41 13 (.slice p1 m c1) l.length (ocs l)) ∧ Hid (∀ x ∈ l, PO wr x.2 x.1.an.ps) ∧ Below w.heap.size w wr)
      (fun iv _ => m - (intOf iv).toNat)
    case atStart => exact ⟨0, by omega, rfl, HR1, HR0, HO, HP, HB2.out⟩
    case round =>
      obtain ⟨i, hi, rfl, HRI, HRZ, HOI, HPI, hbx⟩ := hrel
      have HX := Lib.hid hbx
      clear hbx
      rcases (by omega : i < m ∨ i = m) with hlt | hEQ
      · have hmpos : 0 < m := by omega
        have HOW := Lib.hid (show OwnO wr z1.heap.size (.slice p1 l.length c1) l by rw [← HML.out]; exact HOI.out)
        rcases own_sliceO HOW.out with ⟨hv, _⟩ | ⟨g, c', hv, _, _, hBg, _⟩
        · simp only [Value.slice.injEq] at hv
          have := HML.out
          omega
        · simp only [Value.slice.injEq] at hv
          obtain ⟨rfl, _, rfl⟩ := hv
          obtain ⟨xu, hxu⟩ : ∃ xu, l[i]? = some xu := ⟨_, List.getElem?_eq_getElem (by have := HML.out; omega)⟩
          obtain ⟨x, u⟩ := xu
          have hC := own_OpC HOW.out i x u hxu
          have hPu := HPI.out (x, u) (List.mem_of_getElem? hxu)
          simp only at hPu
          have hxO : O[i]? = some x := by rw [← HL.out, List.getElem?_map, hxu]; rfl
          have HOX := Lib.hid (o_at hxO)
          have HXP := Lib.hid (HPS.out x (List.mem_of_getElem? hxO))
          have HPU := Lib.hid hPu
          obtain ⟨px, cx, rfl, _, _⟩ := hPu.1.slice
          have HBG := Lib.hid hBg
          clear hPu hxu hxO hBg
          have HCB := Lib.hid (show ∀ j, 0 ≤ cntN O i j ∧ cntN O i j ≤ 100000000 from fun j => by
            have := cntN_le O (fun x hx => by have := HPS.out x hx; omega) (fun k hk => by unfold o_; rw [List.getD_eq_getElem?_getD, List.getElem?_eq_getElem hk]; simp) i (by have := HMO.out; omega) j
            omega)
          obtain ⟨x0, x1, x2, x3, x4, x5, x6, x7, x8, x9, x10, x11, x12⟩ := hC
          go_upto_region 8 with fail
          generalize hU : World.alloc wr _ = U
          have HRU := Lib.hid (show R13 U wr.heap.size x (.slice px x.an.ps.length cx) by rw [← hU]; exact heap_alloc_new wr _)
          have HUB := Lib.hid (show Below wr.heap.size wr U by rw [← hU]; exact below_new (Below.refl _ _) _)
          clear hU x0 x1 x2 x3 x4 x5 x6 x7 x8 x9 x10 x11 x12
          obtain ⟨Z, hZ⟩ : ∃ Z, Z = wr.heap.size := ⟨_, rfl⟩
          rw [← hZ] at HRU ⊢
          clear hZ
          obtain ⟨e0, e1, e2, e3, e4, e5, e6, e7, e8, e9, e10, e11, e12⟩ := HRU.out.cells
          simp only [Nat.zero_add] at e0 e1 e2 e3 e4 e5 e6 e7 e8 e9 e10 e11 e12
          have HRIU := Lib.hid (show R42 U (q0 + 1) 29 (cntN O i) from (HUB.out.block _ HRI.out.lt).trans HRI.out)
          have HRZU := Lib.hid (show R42 U q0 29 (fun _ => 0) from (HUB.out.block _ HRZ.out.lt).trans HRZ.out)
          have HOU := Lib.hid (own_keptO HOW.out HUB.out)
          have HPIU := Lib.hid (show ∀ x ∈ l, PO U x.2 x.1.an.ps from fun x hx => (HPI.out x hx).np (.below HUB.out))
          have HXU := Lib.hid (show Below w.heap.size w U from HX.out.trans (HUB.out.mono HX.out.size))
          go_wp2_with fail
          refine (scount (q0 + 1) (cntN O i) x (.slice px x.an.ps.length cx) U HRIU.out HCB.out (by have := HXP.out; omega) (HPU.out.1.below HUB.out)).mono ?_; rintro _ W ⟨⟨ru, rfl⟩, hr, hg⟩
          have HRW := Lib.hid (show R42 W (q0 + 1) 29 (cntN O (i + 1)) by rw [cntN, HOX.out]; exact hr)
          have HRZW := Lib.hid (HRZU.out.kept hg (by simp))
          have HOWW := Lib.hid (show OwnO W z1.heap.size (.slice (some ⟨g, 0, none⟩) l.length c1) l from HOU.out.kept hg (.inr (by simp only [Value.ownBlock]; intro e; cases e; have := HBG.out; have := HQB.out; omega)))
          have HPW := Lib.hid (show ∀ x ∈ l, PO W x.2 x.1.an.ps from fun x hx => (HPIU.out x hx).np ⟨hg.size, fun k cur hk => by
            rw [hg.block k (Array.getElem?_eq_some_iff.1 hk).1 (by
              intro e
              cases e
              rw [show U.heap[q0 + 1]? = _ from HRIU.out] at hk
              simp only [Option.some.injEq, Obj.cells.injEq] at hk
              exact absurd hk.2.1 (by decide))]
            exact hk⟩)
          have HXW := Lib.hid (show Below w.heap.size w W from HXU.out.grown hg HXU.out.size (fun k e => by cases e; have := HQZ.out; omega))
          clear hr hg e0 e1 e2 e3 e4 e5 e6 e7 e8 e9 e10 e11 e12
          go_wp2_with fail
          go_roundw
          case rel => exact ⟨i + 1, by omega, by go_num, HRW, HRZW, Lib.hid (by rw [HML.out]; exact HOWW.out), HPW, HXW.out⟩
          case measure => simp [intOf]; omega
      · have hge : ¬ i < m := by omega
        have HRE := Lib.hid (show R42 wr (q0 + 1) 29 (cntN O O.length) by rw [← HMO.out, ← hEQ]; exact HRI.out)
        have HOR := Lib.hid (show OR wr (.slice p1 m c1) O from own_OR (by rw [HML.out]; rw [HML.out] at HOI; exact HOI.out) (fun x hx => (HPI.out x hx).1) HL.out)
        clear hEQ HRI HOI HPI
        go_wp2_with fail
        refine (soverlaps O _ wr HOR.out (by have := HMO.out; omega)).mono ?_; rintro _ z4 ⟨rfl, hb4⟩
        have HR4 := Lib.hid (show R42 z4 (q0 + 1) 29 (cntN O O.length) from (hb4.block _ HRE.out.lt).trans HRE.out)
        have HZ4 := Lib.hid (show R42 z4 q0 29 (fun _ => 0) from (hb4.block _ HRZ.out.lt).trans HRZ.out)
        have HX4 := Lib.hid (below_on HX.out hb4)
        have c39 := HR4.out.cell (i := 39) (by omega)
        have ff := HR4.out.free
        clear hb4
        go_upto_region 11 with fail
        generalize hU : World.setCell z4 _ _ = U
        have HRU := Lib.hid (show R42 U (q0 + 1) 29 (upd (cntN O O.length) 39 (ovN O O.length : Nat)) by rw [← hU]; exact HR4.out.set (by omega) _)
        have HZU := Lib.hid (show R42 U q0 29 (fun _ => 0) by rw [← hU]; exact HZ4.out.kept (grown_set (grown_refl _ (q0 + 1)) _ _) (by simp))
        have HXU := Lib.hid (show Below w.heap.size w U by rw [← hU]; exact HX4.out.setCell (p := ⟨q0 + 1, 39, none⟩) (by have := HQZ.out; show w.heap.size ≤ q0 + 1; omega) _)
        clear hU c39 ff
        go_wp2_with fail
        refine (smost n L _ U (HV.out.below HXU.out) (by omega)).mono ?_; rintro _ z5 ⟨rfl, hb5⟩
        have HR5 := Lib.hid (show R42 z5 (q0 + 1) 29 (upd (cntN O O.length) 39 (ovN O O.length : Nat)) from (hb5.block _ HRU.out.lt).trans HRU.out)
        have HZ5 := Lib.hid (show R42 z5 q0 29 (fun _ => 0) from (hb5.block _ HZU.out.lt).trans HZU.out)
        have HX5 := Lib.hid (below_on HXU.out hb5)
        have c41 := HR5.out.cell (i := 41) (by omega)
        have ff := HR5.out.free
        clear hb5
        go_upto_region 12 with fail
        generalize hU : World.setCell z5 _ _ = Y
        have HRY := Lib.hid (show R42 Y (q0 + 1) 29 (upd (upd (cntN O O.length) 39 (ovN O O.length : Nat)) 41 (mostN L n)) by rw [← hU]; exact HR5.out.set (by omega) _)
        have HZY := Lib.hid (show R42 Y q0 29 (fun _ => 0) by rw [← hU]; exact HZ5.out.kept (grown_set (grown_refl _ (q0 + 1)) _ _) (by simp))
        have HXY := Lib.hid (show Below w.heap.size w Y by rw [← hU]; exact HX5.out.setCell (p := ⟨q0 + 1, 41, none⟩) (by have := HQZ.out; show w.heap.size ≤ q0 + 1; omega) _)
        clear hU c41 ff
        generalize upd (upd (cntN O O.length) 39 (ovN O O.length : Nat)) 41 (mostN L n) = G at HRY HQ
        go_wp2_with (first | (refine wpList_load_mid rfl 29 (.tmp 3) rfl (q0 + 1) 0 rfl (c42 G) d HRY.out.range HDU.out HDR.out (by rw [c42_len]; exact infoSum) ?_) | (refine wpList_store_mid rfl 29 (.tmp 2) (.tmp 28) rfl q0 0 (c42 G).toArray rfl rfl (by rw [List.size_toArray, c42_len]; exact HZY.out.there) (by rw [List.size_toArray, c42_len]; exact infoSum) (c42_one _) ?_))
        refine bodyPost_ret (FIN.out _ _ _ (World.rangeAt_setCells_same _ _ _ _ (by rw [c42_len]; exact HZY.out.there)) rfl) rfl ?_
        rw [HQ.out]
        exact ⟨rfl, below_setCells _ _ _ _ _ HQZ.out HXY.out⟩
end Go.Proofs.Ytilfgekiblpkaaa
