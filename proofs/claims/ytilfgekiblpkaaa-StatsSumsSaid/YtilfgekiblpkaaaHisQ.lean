/- Layer 11: the reference's Same, of opers that are the same. -/
import Derived.Test.YtilfgekiblpkaaaHisO
namespace Go.Proofs.Ytilfgekiblpkaaa
open Go.RowKit
set_option linter.unusedVariables false
set_option linter.unusedSimpArgs false
set_option maxHeartbeats 1000000 in
theorem rsame11e (x : Opr) (va vb : Value) (w : World) (h : PR w va x.an.ps) (h' : PR w vb x.an.ps) (hn : x.an.ps.length ≤ 100000) : Calls Try.prog 12 #[.agg #[.int .i64 x.th, .int .i64 x.ca.op, .int .i64 x.ca.key, .int .i64 x.ca.val, .int .i64 x.ca.hi, .int .i64 x.ca.lim, .int .i64 x.an.kind, .int .i64 x.an.key, .int .i64 x.an.val, .int .i64 x.an.n, va, .int .i64 x.fr, .int .i64 x.to], .agg #[.int .i64 x.th, .int .i64 x.ca.op, .int .i64 x.ca.key, .int .i64 x.ca.val, .int .i64 x.ca.hi, .int .i64 x.ca.lim, .int .i64 x.an.kind, .int .i64 x.an.key, .int .i64 x.an.val, .int .i64 x.an.n, vb, .int .i64 x.fr, .int .i64 x.to]] w fun e w' => e = .returned (.bool true) ∧ Below w.heap.size w w' := by
  refine Calls.veil fun Q HQ => ?_
  obtain ⟨a0, ⟨a1, a2, a3, a4, a5⟩, ⟨a6, a7, a8, a9, ps⟩, a11, a12⟩ := x
  simp only at *
  have HP := Lib.hid h; have HP' := Lib.hid h'
  obtain ⟨p, c, rfl, _, _⟩ := h.slice
  obtain ⟨p', c', rfl, _, _⟩ := h'.slice
  clear h h'
  have RS := Lib.hid (fun W (hb : Below w.heap.size w W) => rsame9e ⟨a6, a7, a8, a9, ps⟩ _ _ W (HP.out.below hb) (HP'.out.below hb) hn)
  go_enter Try.func12, Try.ntmps12
  go_upto_region 1 with fail
  generalize hV : World.alloc (World.alloc w _) _ = V
  have HBV := Lib.hid (show Below w.heap.size w V by rw [← hV]; (repeat (first | exact Below.refl _ _ | assumption | refine below_new ?_ _ | refine Below.drew ?_ | refine below_drewN ?_ _ | refine below_on ?_ (by assumption))))
  have HY := Lib.hid (show R13 V w.heap.size ⟨a0, ⟨a1, a2, a3, a4, a5⟩, ⟨a6, a7, a8, a9, ps⟩, a11, a12⟩ (.slice p ps.length c) by rw [← hV]; unfold R13; rw [Below.heap_alloc _ _ _ (by simp)]; exact heap_alloc_new w _)
  have HZ := Lib.hid (show R13 V (w.heap.size + 1) ⟨a0, ⟨a1, a2, a3, a4, a5⟩, ⟨a6, a7, a8, a9, ps⟩, a11, a12⟩ (.slice p' ps.length c') by
    rw [← hV]; unfold R13
    have e : ∀ A T, w.heap.size + 1 = (w.alloc (.cells A T)).heap.size := fun A T => by simp
    rw [e _ _]; exact heap_alloc_new _ _)
  clear hV
  obtain ⟨y0, y1, y2, y3, y4, y5, y6, y7, y8, y9, y10, y11, y12⟩ := HY.out.cells
  obtain ⟨z0, z1, z2, z3, z4, z5, z6, z7, z8, z9, z10, z11, z12⟩ := HZ.out.cells
  simp only [Nat.zero_add] at y0 y1 y2 y3 y4 y5 y6 y7 y8 y9 y10 y11 y12 z0 z1 z2 z3 z4 z5 z6 z7 z8 z9 z10 z11 z12
  go_wp2_with fail
  refine (RS.out _ HBV.out).mono ?_; rintro _ w1 ⟨rfl, hb⟩
  have HB := Lib.hid (below_on HBV.out hb)
  have y11 := Ext.cell ⟨w1, hb⟩ y11; have y12 := Ext.cell ⟨w1, hb⟩ y12; have z11 := Ext.cell ⟨w1, hb⟩ z11; have z12 := Ext.cell ⟨w1, hb⟩ z12
  simp only at y11 y12 z11 z12
  clear hb y0 y1 y2 y3 y4 y5 y6 y7 y8 y9 y10 z0 z1 z2 z3 z4 z5 z6 z7 z8 z9 z10
  go_wp2_with fail
  (try go_ret)
  rw [HQ.out]
  exact ⟨rfl, HB.out⟩
end Go.Proofs.Ytilfgekiblpkaaa
