/- Layer 38: stats.Calls's iterator, called with a function; what makes it; Rate. -/
import Derived.Test.YtilfgekiblpkaaaStaH
import Derived.Test.YtilfgekiblpkaaaStaB
namespace Go.Proofs.Ytilfgekiblpkaaa
open Go.RowKit
set_option linter.unusedVariables false
set_option linter.unusedSimpArgs false
theorem R13.pair {w : World} {q : Nat} {x : Opr} {v : Value} (h : R13 w q x v) (u : Value) : R13 (w.setCell ⟨q, 10, none⟩ u) q x u := by
  unfold R13; rw [heap_setCell_same w q 10 _ _ _ h]; rfl
set_option maxHeartbeats 8000000 in
theorem siter_fn (a1 a2 a3 a4 : Option Addr) (b q c m : Nat) (op till : Int) (O : List Opr) (W0 : World) (p : Option Addr)
    (hm : m = O.length) (hb : W0.cell? ⟨b, 0, none⟩ = some (.slice p m c)) (hq : W0.cell? ⟨q, 0, none⟩ = some (.int .i64 op)) (hc1 : m ≤ c) (hc2 : c ≤ 9223372036854775807) (hO : m ≤ 1000)
    (HR : Hid (0 < m → ∃ g, p = some ⟨g, 0, none⟩ ∧ ∀ (i : Nat) (x : Opr), O[i]? = some x → ∃ u, OpC W0 g (i * 13) x u ∧ PR W0 u x.an.ps))
    (HP : Hid (∀ x ∈ O, x.an.ps.length ≤ 100000))
    (J : Nat → World → Prop) (W : World) (HB : Hid (Below W0.heap.size W0 W)) (HJ : Hid (∀ i A B, J i A → Below A.heap.size A B → J i B)) (HJ0 : Hid (∀ i A, J i A → Below W0.heap.size W0 A))
    (HY : Hid (∀ (j : Nat) (x : Opr) (px : Option Addr) (cx : Nat) (W1 : World), J j W1 → (opO op O)[j]? = some x → PR W1 (.slice px x.an.ps.length cx) x.an.ps → Calls Try.prog 11 #[tv (x, px, cx), .pointer a1, .pointer a2, .pointer a3, .pointer a4] W1 fun e W' => ∃ bb, e = .returned (.bool bb) ∧ J (j + 1) W' ∧ (bb = true → ((j + 1 : Nat) : Int) ≠ till) ∧ (bb = false → ((j + 1 : Nat) : Int) = till)))
    (H0 : Hid (J 0 W)) :
    Calls Try.prog 21 #[.func (.func 11) #[] #[.pointer a1, .pointer a2, .pointer a3, .pointer a4], .pointer (some ⟨b, 0, none⟩), .pointer (some ⟨q, 0, none⟩)] W fun e W' => (∃ v, e = .returned v) ∧
      ∃ k, J k W' ∧ ((k = (opO op O).length ∧ ∀ j : Nat, 1 ≤ j → j ≤ k → (j : Int) ≠ till) ∨ (1 ≤ k ∧ k ≤ (opO op O).length ∧ (k : Int) = till)) := by
  refine Calls.veil fun Q HQ => ?_
  have HM := Lib.hid hm
  clear hm
  go_enter Try.func21, Try.ntmps21
  have kb : W.cell? ⟨b, 0, none⟩ = some (.slice p m c) := Ext.cell ⟨W, HB.out⟩ hb
  go_wp2_with fail
  clear kb hb
  go_loopw [8] (fun iv wr => ∃ i : Nat, i ≤ m ∧ iv = .int .i64 i ∧ ∃ j : Nat, Hid (j = (opO op (O.take i)).length) ∧ Hid (J j wr) ∧ Hid (∀ y : Nat, 1 ≤ y → y ≤ j → (y : Int) ≠ till))
    (fun iv _ => m - (intOf iv).toNat)
  case atStart => exact ⟨0, by omega, rfl, 0, Lib.hid (by simp [opO]), H0, Lib.hid (fun y h1 h2 => by omega)⟩
  case round =>
    obtain ⟨i, hi, rfl, j, HPRE, HJ1, HTL⟩ := hrel
    have HX := Lib.hid (HJ0.out _ _ HJ1.out)
    rcases (by omega : i < m ∨ i = m) with hlt | hEQ
    · obtain ⟨g, rfl, hD⟩ := HR.out (by omega)
      obtain ⟨x, hx⟩ : ∃ x, O[i]? = some x := ⟨_, List.getElem?_eq_getElem (by have := HM.out; omega)⟩
      obtain ⟨u, hC, hPu⟩ := hD i x hx
      have hC := hC.below HX.out
      have HPX := Lib.hid (hPu.below HX.out)
      have HXP := Lib.hid (HP.out x (List.mem_of_getElem? hx))
      have HTK := Lib.hid (opO_succ op O i x hx)
      have HGX := Lib.hid (fun h => opO_at op O i x hx h)
      have HGL := Lib.hid (opO_len op O (i + 1))
      clear hPu hD hx
      obtain ⟨px, cx, rfl, _, _⟩ := HPX.out.slice
      have kq : wr.cell? ⟨q, 0, none⟩ = some (.int .i64 op) := Ext.cell ⟨wr, HX.out⟩ hq
      obtain ⟨x0, x1, x2, x3, x4, x5, x6, x7, x8, x9, x10, x11, x12⟩ := hC
      go_upto_region 3 with fail
      generalize hU : World.alloc wr _ = U
      obtain ⟨Z, hZ⟩ : ∃ Z, Z = wr.heap.size := ⟨_, rfl⟩
      rw [← hZ]
      have HRU := Lib.hid (show R13 U Z x (.slice px x.an.ps.length cx) by
        rw [← hU, hZ]
        exact heap_alloc_new wr _)
      have HUB := Lib.hid (show Below wr.heap.size wr U by
        rw [← hU]; exact below_new (Below.refl _ _) _)
      clear hU x0 x1 x2 x3 x4 x5 x6 x7 x8 x9 x10 x11 x12
      have HZ := Lib.hid hZ
      clear hZ
      have kq : U.cell? ⟨q, 0, none⟩ = some (.int .i64 op) := Ext.cell ⟨U, HUB.out⟩ kq
      obtain ⟨e0, e1, e2, e3, e4, e5, e6, e7, e8, e9, e10, e11, e12⟩ := HRU.out.cells
      simp only [Nat.zero_add] at e0 e1 e2 e3 e4 e5 e6 e7 e8 e9 e10 e11 e12
      by_cases hte : x.ca.op = op
      · have HTE := Lib.hid hte
        rw [if_pos hte] at HTK
        clear e0 e2 e3 e4 e5 e11 e12
        go_upto_region 4 with fail
        clear kq e1 hte
        go_wp2_with fail
        refine (pcloneO x.an.ps _ _ (HPX.out.below HUB.out) (by have := HXP.out; omega)).mono ?_; rintro _ z1 ⟨v1, rfl, hp1, hb1⟩
        have HZ1 := Lib.hid (below_on HUB.out hb1)
        have HRZ := Lib.hid (HRU.out.below hb1)
        obtain ⟨p1, c1, rfl, _, _⟩ := hp1.1.slice
        have HP1 := Lib.hid hp1
        clear e6 e7 e8 e9 e10 hp1 hb1
        obtain ⟨e0, e1, e2, e3, e4, e5, e6, e7, e8, e9, e10, e11, e12⟩ := HRZ.out.cells
        simp only [Nat.zero_add] at e0 e1 e2 e3 e4 e5 e6 e7 e8 e9 e10 e11 e12
        have ff := HRZ.out.free
        go_upto_region 5 with fail
        generalize hV : World.setCell _ _ _ = V
        have HPV := Lib.hid (show PR V (.slice p1 x.an.ps.length c1) x.an.ps by
          rw [← hV]; exact (HP1.out.np (NP.set _ HRZ.out (by decide))).1)
        have HRV := Lib.hid (show R13 V Z x (.slice p1 x.an.ps.length c1) by
          rw [← hV]; exact HRZ.out.pair _)
        have HVB := Lib.hid (show Below wr.heap.size wr V by
          have hqq : wr.heap.size ≤ Z := Nat.le_of_eq HZ.out.symm
          rw [← hV]; exact HZ1.out.setCell (p := ⟨Z, 10, none⟩) hqq _)
        clear hV e0 e1 e2 e3 e4 e5 e6 e7 e8 e9 e10 e11 e12 ff
        obtain ⟨e0, e1, e2, e3, e4, e5, e6, e7, e8, e9, e10, e11, e12⟩ := HRV.out.cells
        simp only [Nat.zero_add] at e0 e1 e2 e3 e4 e5 e6 e7 e8 e9 e10 e11 e12
        have HXX := Lib.hid (HGX.out HTE.out)
        rw [← HPRE.out] at HXX
        go_wp2_with fail
        refine (HY.out j x p1 c1 V (HJ.out _ _ _ HJ1.out HVB.out) HXX.out HPV.out).mono ?_; rintro _ W3 ⟨bb, rfl, hJ3, hn1, hn2⟩
        have HJ3 := Lib.hid hJ3
        have HN1 := Lib.hid hn1
        have HN2 := Lib.hid hn2
        have HJL := Lib.hid (show j + 1 = (opO op (O.take (i + 1))).length by rw [HTK.out, List.length_append, ← HPRE.out]; rfl)
        clear hJ3 hn1 hn2 e0 e1 e2 e3 e4 e5 e6 e7 e8 e9 e10 e11 e12
        cases bb with
        | true =>
          go_wp2_with fail
          go_roundw
          case rel =>
            refine ⟨i + 1, by omega, by go_num, j + 1, HJL, HJ3, Lib.hid (fun y h1 h2 => ?_)⟩
            rcases (by omega : y ≤ j ∨ y = j + 1) with h | h
            · exact HTL.out y h1 h
            · rw [h]; exact HN1.out (by trivial)
          case measure => simp [intOf]; omega
        | false =>
          go_wp2_with fail
          refine bodyPost_ret (results_none rfl _ _ _) rfl ?_
          rw [HQ.out]
          exact ⟨⟨_, rfl⟩, j + 1, HJ3.out, .inr ⟨by omega, by rw [HJL.out]; exact HGL.out, HN2.out (by trivial)⟩⟩
      · rw [if_neg hte, List.append_nil] at HTK
        clear e0 e2 e3 e4 e5 e6 e7 e8 e9 e10 e11 e12
        go_wp2_with fail
        go_roundw
        case rel => exact ⟨i + 1, by omega, by go_num, j, Lib.hid (by rw [HTK.out]; exact HPRE.out), Lib.hid (HJ.out _ _ _ HJ1.out HUB.out), HTL⟩
        case measure => simp [intOf]; omega
    · have hge : ¬ i < m := by omega
      have HE := Lib.hid (show opO op (O.take i) = opO op O by rw [hEQ, HM.out, List.take_length])
      clear hEQ
      go_wp2_with fail
      go_end0
      rw [HQ.out]
      exact ⟨⟨_, rfl⟩, j, HJ1.out, .inl ⟨by rw [HPRE.out, HE.out], HTL.out⟩⟩
set_option maxHeartbeats 1000000 in
theorem scalls (n : Nat) (L : Nat → Ev) (op : Int) (v : Value) (w : World) (h : VR w v n L) (hn : n ≤ 1000) (hpl : ∀ i, i < n → (L i).an.ps.length ≤ 100000) : Calls Try.prog 10 #[v, .int .i64 op] w fun e w' => ∃ (b q : Nat) (ov : Value) (l : List (Opr × Value)), e = .returned (.func (.func 21) #[] #[.pointer (some ⟨b, 0, none⟩), .pointer (some ⟨q, 0, none⟩)]) ∧ w'.cell? ⟨q, 0, none⟩ = some (.int .i64 op) ∧ w'.cell? ⟨b, 0, none⟩ = some ov ∧ w.heap.size ≤ q ∧ q < w'.heap.size ∧ w.heap.size ≤ b ∧ b < w'.heap.size ∧ l.map (·.1) = allO L n ∧ OwnO w' w.heap.size ov l ∧ (∀ x ∈ l, PO w' x.2 x.1.an.ps) ∧ Below w.heap.size w w' := by
  refine Calls.veil fun Q HQ => ?_
  have HV := Lib.hid h
  obtain ⟨p, c, rfl, a1, a2, A3⟩ := h.parts
  have HO := Lib.hid (fun W (hb : Below w.heap.size w W) => hopersA n L _ W (HV.out.below hb) hn hpl)
  clear h hn hpl
  go_enter Try.func10, Try.ntmps10
  go_upto_region 1 with fail
  generalize hV : World.alloc w _ = V
  have HBV := Lib.hid (show Below w.heap.size w V by rw [← hV]; (repeat (first | exact Below.refl _ _ | assumption | refine below_new ?_ _ | refine Below.drew ?_ | refine below_drewN ?_ _ | refine below_on ?_ (by assumption))))
  have HSV := Lib.hid (show V.heap.size = w.heap.size + 1 by rw [← hV]; simp)
  have y0 : V.cell? ⟨w.heap.size, 0, none⟩ = some (.int .i64 op) := Ext.made hV 0 _ rfl ⟨V, Below.refl _ _⟩
  clear hV
  go_wp2_with fail
  refine (HO.out _ HBV.out).mono ?_; rintro _ w1 ⟨ov, l, rfl, hl, ho, hp, hb⟩
  have HB := Lib.hid hb
  have HB1 := Lib.hid (below_on HBV.out hb)
  have y1 := Ext.cell ⟨w1, hb⟩ y0
  simp only at y1
  have HL := Lib.hid hl
  have HOW := Lib.hid ho
  have HP := Lib.hid hp
  obtain ⟨p1, c1, rfl, d1, d2⟩ := own_sliceQ ho
  clear hb hl ho hp y0
  go_wp2_with fail
  (try go_ret)
  rw [HQ.out]
  refine ⟨_, _, _, l, rfl, Ext.on y1 _, ?_, Nat.le_refl _, ?_, ?_, ?_, HL.out, own_lowO (own_keptO HOW.out ((Below.refl _ _).alloc (Nat.le_refl _) _)) (by have := HSV.out; omega), fun x hx => (HP.out x hx).np (NP.alloc _ _), HB1.out.alloc HB1.out.size _⟩
  · rw [cell_of_row _ _ _ _ _ (0, 0) (heap_alloc_new w1 _)]; rfl
  · have := HSV.out; have := HB.out.size; simp; omega
  · exact HB1.out.size
  · simp
end Go.Proofs.Ytilfgekiblpkaaa
