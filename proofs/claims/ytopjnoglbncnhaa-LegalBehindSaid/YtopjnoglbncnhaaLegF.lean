/- Layer 12: May of an order of one; the chapter's example. -/
import Derived.Test.YtopjnoglbncnhaaLegE
namespace Go.Proofs.Ytopjnoglbncnhaa
open Go.RowKit Go.Maps
set_option linter.unusedVariables false
set_option linter.unusedSimpArgs false
theorem lahead (x y : Op13) (p p2 : Option Addr) (n n2 c c2 : Nat) (w : World) : Calls Try.prog 28 #[opV x (.slice p n c), opV y (.slice p2 n2 c2)] w fun e w' => e = .returned (.bool (decide (0 ≤ x.tt) && decide (x.tt < y.fr))) ∧ Below w.heap.size w w' := by
  refine Calls.veil fun Q HQ => ?_
  obtain ⟨th, ⟨op, key, val, hi, lim⟩, ⟨ak, aky, avl, an, aps⟩, fr, tt⟩ := x
  obtain ⟨th', ⟨op', key', val', hi', lim'⟩, ⟨ak', aky', avl', an', aps'⟩, fr', tt'⟩ := y
  unfold opV
  simp only at HQ ⊢
  rcases (by omega : tt < 0 ∨ (0 ≤ tt ∧ tt < fr') ∨ (0 ≤ tt ∧ fr' ≤ tt)) with h | ⟨h, h'⟩ | ⟨h, h'⟩
  · have HD := Lib.hid (show (decide (0 ≤ tt) && decide (tt < fr')) = false by rw [decide_eq_false (by omega)]; rfl)
    go_enter Try.func28, Try.ntmps28
    go_wp2_with fail
    (try go_ret)
    rw [HQ.out, HD.out]
    exact ⟨by first | rfl | (simp only [decide_eq_true h', decide_eq_true h]; rfl) | (simp; done) | (simp; omega), by (repeat (first | exact Below.refl _ _ | assumption | refine below_new ?_ _ | refine Below.drew ?_ | refine below_drewN ?_ _ | refine below_on ?_ (by assumption)))⟩
  · have HD := Lib.hid (show (decide (0 ≤ tt) && decide (tt < fr')) = true by rw [decide_eq_true h, decide_eq_true h']; rfl)
    go_enter Try.func28, Try.ntmps28
    go_wp2_with fail
    (try go_ret)
    rw [HQ.out, HD.out]
    exact ⟨by first | rfl | (simp only [decide_eq_true h', decide_eq_true h]; rfl) | (simp; done) | (simp; omega), by (repeat (first | exact Below.refl _ _ | assumption | refine below_new ?_ _ | refine Below.drew ?_ | refine below_drewN ?_ _ | refine below_on ?_ (by assumption)))⟩
  · have HD := Lib.hid (show (decide (0 ≤ tt) && decide (tt < fr')) = false by rw [decide_eq_true h, decide_eq_false (by omega)]; rfl)
    go_enter Try.func28, Try.ntmps28
    go_wp2_with fail
    (try go_ret)
    rw [HQ.out, HD.out]
    exact ⟨by first | rfl | (simp only [decide_eq_true h', decide_eq_true h]; rfl) | (simp; done) | (simp; omega), by (repeat (first | exact Below.refl _ _ | assumption | refine below_new ?_ _ | refine Below.drew ?_ | refine below_drewN ?_ _ | refine below_on ?_ (by assumption)))⟩
theorem lsooner (x y : Op13) (p p2 : Option Addr) (n n2 c c2 : Nat) (w : World) (hy : y.tt < 0) : Calls Try.prog 29 #[opV x (.slice p n c), opV y (.slice p2 n2 c2)] w fun e w' => e = .returned (.bool (decide (0 ≤ x.tt))) ∧ Below w.heap.size w w' := by
  refine Calls.veil fun Q HQ => ?_
  obtain ⟨th, ⟨op, key, val, hi, lim⟩, ⟨ak, aky, avl, an, aps⟩, fr, tt⟩ := x
  obtain ⟨th', ⟨op', key', val', hi', lim'⟩, ⟨ak', aky', avl', an', aps'⟩, fr', tt'⟩ := y
  unfold opV
  simp only at HQ hy ⊢
  rcases (by omega : tt < 0 ∨ 0 ≤ tt) with h | h
  · have HD := Lib.hid (show decide (0 ≤ tt) = false from decide_eq_false (by omega))
    go_enter Try.func29, Try.ntmps29
    go_wp2_with fail
    (try go_ret)
    rw [HQ.out, HD.out]
    exact ⟨by first | rfl | (simp only [decide_eq_true h', decide_eq_true h]; rfl) | (simp; done) | (simp; omega), by (repeat (first | exact Below.refl _ _ | assumption | refine below_new ?_ _ | refine Below.drew ?_ | refine below_drewN ?_ _ | refine below_on ?_ (by assumption)))⟩
  · have HD := Lib.hid (show decide (0 ≤ tt) = true from decide_eq_true h)
    go_enter Try.func29, Try.ntmps29
    go_wp2_with fail
    (try go_ret)
    rw [HQ.out, HD.out]
    exact ⟨by first | rfl | (simp only [decide_eq_true h', decide_eq_true h]; rfl) | (simp; done) | (simp; omega), by (repeat (first | exact Below.refl _ _ | assumption | refine below_new ?_ _ | refine Below.drew ?_ | refine below_drewN ?_ _ | refine below_on ?_ (by assumption)))⟩
def zOp : Op13 := ⟨0, ⟨0, 0, 0, 0, 0⟩, ⟨0, 0, 0, 0, []⟩, 0, -1⟩
set_option maxRecDepth 8000 in
theorem linorder {w : World} {ov rv : Value} {n : Nat} {O : Nat → Op13} {fv : Nat → Value} {j : Nat} (hO : OpR w ov n O fv) (hr : OrdR w rv 1 (fun _ => (j : Int))) (hj : j < n) (hn : n ≤ 50) :
    Calls Try.prog 18 #[ov, rv] w fun e w' => e = .returned (.bool true) ∧ Below w.heap.size w w' := by
  refine Calls.veil fun Q HQ => ?_
  obtain ⟨oa, ocap, rfl, oc1, oc2, hO⟩ := hO
  obtain ⟨ra, rcap, rfl, rc1, rc2, hr⟩ := hr
  obtain ⟨g, off, rfl, hc⟩ := hr 0 (by omega)
  obtain ⟨og, ooff, rfl, hoc⟩ := hO j hj
  have hji : (j : Int) < n := by omega
  simp only [Nat.add_zero] at hc
  have HOC := Lib.hid hoc
  clear hr hO hoc
  go_enter Try.func18, Try.ntmps18
  go_upto_region 2 with fail
  generalize hU : World.alloc _ _ = U
  have hh : U.heap[w.heap.size]? = some (.cells #[.int .i64 0, .int .i64 0, .int .i64 0, .int .i64 0, .int .i64 0, .int .i64 0, .int .i64 0, .int .i64 0, .int .i64 0, .int .i64 0, .slice none 0 0, .int .i64 0, .int .i64 (-1)] 47) := by rw [← hU]; exact heap_alloc_new w _
  have hbu : Below w.heap.size w U := by rw [← hU]; exact below_new (Below.refl _ _) _
  have hc := Ext.use (Ext.cells hc) hbu
  have HOC := Lib.hid (HOC.out.below hbu)
  have HB := Lib.hid hbu
  obtain ⟨Y, hY⟩ : ∃ Y, Y = w.heap.size := ⟨_, rfl⟩
  rw [← hY] at hh ⊢
  have HH := Lib.hid hh
  have HY := Lib.hid (show w.heap.size ≤ Y by omega)
  clear hU hbu hh hY
  go_wp2_with fail
  go_loopw [6] (fun iv wr => ∃ i : Int, -1 ≤ i ∧ i ≤ 0 ∧ iv = .int .i64 i ∧ (i = 0 → wr = U) ∧ Hid (Below w.heap.size w wr))
    (fun iv _ => (intOf iv + 1).toNat)
  case atStart => exact ⟨0, by omega, by omega, by simp, fun _ => rfl, HB⟩
  case round =>
    obtain ⟨i, hi, hi2, rfl, h0, HBR⟩ := hrel
    rcases (by omega : i = 0 ∨ i = -1) with rfl | rfl
    · obtain rfl := h0 rfl
      obtain ⟨xx, hxx⟩ : ∃ x, x = O j := ⟨_, rfl⟩
      have hoc := HOC.out
      rw [← hxx] at hoc
      obtain ⟨th, ⟨op, key, val, hi3, lim⟩, ⟨ak, aky, avl, an, aps⟩, fr, tt⟩ := xx
      obtain ⟨⟨⟨o0, o1, o2, o3, o4, o5, _, _⟩, o6, o7, o8, o9, o10, hpr⟩, o11, o12⟩ := hoc
      obtain ⟨r, rc, hrv, _, _⟩ := hpr.slice
      rw [hrv] at o10
      simp only at o0 o1 o2 o3 o4 o5 o6 o7 o8 o9 o10 o11 o12
      clear hpr hrv hxx
      have y0 := newcell HH.out 0 _ rfl; have y1 := newcell HH.out 1 _ rfl; have y2 := newcell HH.out 2 _ rfl; have y3 := newcell HH.out 3 _ rfl; have y4 := newcell HH.out 4 _ rfl; have y5 := newcell HH.out 5 _ rfl; have y6 := newcell HH.out 6 _ rfl; have y7 := newcell HH.out 7 _ rfl; have y8 := newcell HH.out 8 _ rfl; have y9 := newcell HH.out 9 _ rfl; have y10 := newcell HH.out 10 _ rfl; have y11 := newcell HH.out 11 _ rfl; have y12 := newcell HH.out 12 _ rfl
      go_upto_region 6 with fail
      generalize hV : World.alloc _ _ = V
      have vv : V.heap[wr.heap.size]? = some (.cells #[.int .i64 th, .int .i64 op, .int .i64 key, .int .i64 val, .int .i64 hi3, .int .i64 lim, .int .i64 ak, .int .i64 aky, .int .i64 avl, .int .i64 an, .slice r aps.length rc, .int .i64 fr, .int .i64 tt] 47) := by rw [← hV]; exact heap_alloc_new wr _
      have hbv : Below wr.heap.size wr V := by rw [← hV]; exact below_new (Below.refl _ _) _
      have hh := up hbv HH.out
      have HBV := Lib.hid (below_on HBR.out hbv)
      obtain ⟨X, hX⟩ : ∃ X, X = wr.heap.size := ⟨_, rfl⟩
      rw [← hX] at vv ⊢
      have HV := Lib.hid vv; have HH2 := Lib.hid hh
      clear hV hbv hX y0 y1 y2 y3 y4 y5 y6 y7 y8 y9 y10 y11 y12 o0 o1 o2 o3 o4 o5 o6 o7 o8 o9 o10 o11 o12 hc HOC
      have y0 := newcell hh 0 _ rfl; have y1 := newcell hh 1 _ rfl; have y2 := newcell hh 2 _ rfl; have y3 := newcell hh 3 _ rfl; have y4 := newcell hh 4 _ rfl; have y5 := newcell hh 5 _ rfl; have y6 := newcell hh 6 _ rfl; have y7 := newcell hh 7 _ rfl; have y8 := newcell hh 8 _ rfl; have y9 := newcell hh 9 _ rfl; have y10 := newcell hh 10 _ rfl; have y11 := newcell hh 11 _ rfl; have y12 := newcell hh 12 _ rfl
      have x0 := newcell vv 0 _ rfl; have x1 := newcell vv 1 _ rfl; have x2 := newcell vv 2 _ rfl; have x3 := newcell vv 3 _ rfl; have x4 := newcell vv 4 _ rfl; have x5 := newcell vv 5 _ rfl; have x6 := newcell vv 6 _ rfl; have x7 := newcell vv 7 _ rfl; have x8 := newcell vv 8 _ rfl; have x9 := newcell vv 9 _ rfl; have x10 := newcell vv 10 _ rfl; have x11 := newcell vv 11 _ rfl; have x12 := newcell vv 12 _ rfl
      clear vv hh
      have CA := lahead zOp ⟨th, ⟨op, key, val, hi3, lim⟩, ⟨ak, aky, avl, an, aps⟩, fr, tt⟩ none r 0 aps.length 0 rc
      have CS := lsooner ⟨th, ⟨op, key, val, hi3, lim⟩, ⟨ak, aky, avl, an, aps⟩, fr, tt⟩ zOp r none aps.length 0 rc 0
      have e0 : (decide (0 ≤ zOp.tt) && decide (zOp.tt < fr)) = false := rfl
      simp only at CA CS
      rw [e0] at CA
      simp only [opV, zOp] at CA CS
      have CA := Lib.hid CA; have CS := Lib.hid CS
      clear e0
      generalize decide (0 ≤ tt) = bb at CS
      go_wp2_with fail
      refine (CA.out _).mono ?_; rintro _ w4 ⟨rfl, hb4⟩
      have HV := Lib.hid (up hb4 HV.out); have HH2 := Lib.hid (up hb4 HH2.out); have HBV := Lib.hid (below_on HBV.out hb4)
      have y0 := newcell HH2.out 0 _ rfl; have y1 := newcell HH2.out 1 _ rfl; have y2 := newcell HH2.out 2 _ rfl; have y3 := newcell HH2.out 3 _ rfl; have y4 := newcell HH2.out 4 _ rfl; have y5 := newcell HH2.out 5 _ rfl; have y6 := newcell HH2.out 6 _ rfl; have y7 := newcell HH2.out 7 _ rfl; have y8 := newcell HH2.out 8 _ rfl; have y9 := newcell HH2.out 9 _ rfl; have y10 := newcell HH2.out 10 _ rfl; have y11 := newcell HH2.out 11 _ rfl; have y12 := newcell HH2.out 12 _ rfl
      have x0 := newcell HV.out 0 _ rfl; have x1 := newcell HV.out 1 _ rfl; have x2 := newcell HV.out 2 _ rfl; have x3 := newcell HV.out 3 _ rfl; have x4 := newcell HV.out 4 _ rfl; have x5 := newcell HV.out 5 _ rfl; have x6 := newcell HV.out 6 _ rfl; have x7 := newcell HV.out 7 _ rfl; have x8 := newcell HV.out 8 _ rfl; have x9 := newcell HV.out 9 _ rfl; have x10 := newcell HV.out 10 _ rfl; have x11 := newcell HV.out 11 _ rfl; have x12 := newcell HV.out 12 _ rfl
      clear hb4
      go_wp2_with fail
      refine (CS.out _ (by decide)).mono ?_; rintro _ w5 ⟨rfl, hb5⟩
      have HV := Lib.hid (up hb5 HV.out); have HH2 := Lib.hid (up hb5 HH2.out); have HBV := Lib.hid (below_on HBV.out hb5)
      have x0 := newcell HV.out 0 _ rfl; have x1 := newcell HV.out 1 _ rfl; have x2 := newcell HV.out 2 _ rfl; have x3 := newcell HV.out 3 _ rfl; have x4 := newcell HV.out 4 _ rfl; have x5 := newcell HV.out 5 _ rfl; have x6 := newcell HV.out 6 _ rfl; have x7 := newcell HV.out 7 _ rfl; have x8 := newcell HV.out 8 _ rfl; have x9 := newcell HV.out 9 _ rfl; have x10 := newcell HV.out 10 _ rfl; have x11 := newcell HV.out 11 _ rfl; have x12 := newcell HV.out 12 _ rfl
      have y0 := newcell HH2.out 0 _ rfl; have y1 := newcell HH2.out 1 _ rfl; have y2 := newcell HH2.out 2 _ rfl; have y3 := newcell HH2.out 3 _ rfl; have y4 := newcell HH2.out 4 _ rfl; have y5 := newcell HH2.out 5 _ rfl; have y6 := newcell HH2.out 6 _ rfl; have y7 := newcell HH2.out 7 _ rfl; have y8 := newcell HH2.out 8 _ rfl; have y9 := newcell HH2.out 9 _ rfl; have y10 := newcell HH2.out 10 _ rfl; have y11 := newcell HH2.out 11 _ rfl; have y12 := newcell HH2.out 12 _ rfl
      have yf := newfree HH2.out
      clear hb5
      cases bb with
      | false =>
        go_wp2_with fail
        go_roundw
        case rel => exact ⟨-1, by omega, by omega, by go_num, fun h => by omega, HBV⟩
        case measure => simp [intOf]
      | true =>
        go_upto_region 4 with fail
        generalize hW : World.setCell _ _ _ = W
        have HBW := Lib.hid (show Below w.heap.size w W by rw [← hW]; repeat (with_reducible (first | exact HBV.out | refine below_set ?_ HY.out _)))
        clear hW x0 x1 x2 x3 x4 x5 x6 x7 x8 x9 x10 x11 x12 y0 y1 y2 y3 y4 y5 y6 y7 y8 y9 y10 y11 y12 yf
        go_wp2_with fail
        go_roundw
        case rel => exact ⟨-1, by omega, by omega, by go_num, fun h => by omega, HBW⟩
        case measure => simp [intOf]
    · clear h0
      go_wp2_with fail
      (try go_ret)
      rw [HQ.out]
      exact ⟨rfl, HBR.out⟩
end Go.Proofs.Ytopjnoglbncnhaa
