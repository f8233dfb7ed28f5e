/- Layer 11: Ahead; the laws' great and lives. -/
import Derived.Test.YtilfgekiblpkaaaHisD
namespace Go.Proofs.Ytilfgekiblpkaaa
open Go.RowKit
set_option linter.unusedVariables false
set_option linter.unusedSimpArgs false
/-- An oper's cells, one by one. -/
structure OpC (w : World) (g o : Nat) (x : Opr) (v : Value) : Prop where
  c0 : w.cell? ⟨g, o, none⟩ = some (.int .i64 x.th)
  c1 : w.cell? ⟨g, o + 1, none⟩ = some (.int .i64 x.ca.op)
  c2 : w.cell? ⟨g, o + 2, none⟩ = some (.int .i64 x.ca.key)
  c3 : w.cell? ⟨g, o + 3, none⟩ = some (.int .i64 x.ca.val)
  c4 : w.cell? ⟨g, o + 4, none⟩ = some (.int .i64 x.ca.hi)
  c5 : w.cell? ⟨g, o + 5, none⟩ = some (.int .i64 x.ca.lim)
  c6 : w.cell? ⟨g, o + 6, none⟩ = some (.int .i64 x.an.kind)
  c7 : w.cell? ⟨g, o + 7, none⟩ = some (.int .i64 x.an.key)
  c8 : w.cell? ⟨g, o + 8, none⟩ = some (.int .i64 x.an.val)
  c9 : w.cell? ⟨g, o + 9, none⟩ = some (.int .i64 x.an.n)
  c10 : w.cell? ⟨g, o + 10, none⟩ = some v
  c11 : w.cell? ⟨g, o + 11, none⟩ = some (.int .i64 x.fr)
  c12 : w.cell? ⟨g, o + 12, none⟩ = some (.int .i64 x.to)
theorem own_OpC {w : World} {B g c : Nat} {l : List (Opr × Value)} (h : OwnO w B (.slice (some ⟨g, 0, none⟩) l.length c) l) (i : Nat) (x : Opr) (v : Value) (hx : l[i]? = some (x, v)) : OpC w g (i * 13) x v := by
  have hc := fun j hj => own_cellsO h i (x, v) hx j hj
  exact ⟨hc 0 (by omega), hc 1 (by omega), hc 2 (by omega), hc 3 (by omega), hc 4 (by omega), hc 5 (by omega), hc 6 (by omega), hc 7 (by omega), hc 8 (by omega), hc 9 (by omega), hc 10 (by omega), hc 11 (by omega), hc 12 (by omega)⟩
theorem OpC.below {w w' : World} {g o : Nat} {x : Opr} {v : Value} (h : OpC w g o x v) (k : Below w.heap.size w w') : OpC w' g o x v :=
  ⟨Ext.cell ⟨w', k⟩ h.c0, Ext.cell ⟨w', k⟩ h.c1, Ext.cell ⟨w', k⟩ h.c2, Ext.cell ⟨w', k⟩ h.c3, Ext.cell ⟨w', k⟩ h.c4, Ext.cell ⟨w', k⟩ h.c5, Ext.cell ⟨w', k⟩ h.c6, Ext.cell ⟨w', k⟩ h.c7, Ext.cell ⟨w', k⟩ h.c8, Ext.cell ⟨w', k⟩ h.c9, Ext.cell ⟨w', k⟩ h.c10, Ext.cell ⟨w', k⟩ h.c11, Ext.cell ⟨w', k⟩ h.c12⟩
theorem cell_new2 (w : World) (A B : Array Value) (T S : TypeId) (i : Nat) (v : Value) (h : A[i]? = some v) : ((w.alloc (.cells A T)).alloc (.cells B S)).cell? ⟨w.heap.size, i, none⟩ = some v := by
  rw [cell_of_row _ _ _ A T (0, 0) (by rw [Below.heap_alloc _ _ _ (by simp)]; exact heap_alloc_new w _)]; exact h
theorem cell_new1 (w : World) (A B : Array Value) (T S : TypeId) (i : Nat) (v : Value) (h : B[i]? = some v) : ((w.alloc (.cells A T)).alloc (.cells B S)).cell? ⟨w.heap.size + 1, i, none⟩ = some v := by
  have e : w.heap.size + 1 = (w.alloc (.cells A T)).heap.size := by simp
  rw [e, cell_of_row _ _ _ B S (0, 0) (heap_alloc_new _ _)]; exact h
def aheadB (a b : Opr) : Bool := decide (0 ≤ a.to) && decide (a.to < b.fr)
set_option maxHeartbeats 1000000 in
theorem hahead (a b : Opr) (va vb : Value) (w : World) : Calls Try.prog 25 #[.agg #[.int .i64 a.th, .int .i64 a.ca.op, .int .i64 a.ca.key, .int .i64 a.ca.val, .int .i64 a.ca.hi, .int .i64 a.ca.lim, .int .i64 a.an.kind, .int .i64 a.an.key, .int .i64 a.an.val, .int .i64 a.an.n, va, .int .i64 a.fr, .int .i64 a.to], .agg #[.int .i64 b.th, .int .i64 b.ca.op, .int .i64 b.ca.key, .int .i64 b.ca.val, .int .i64 b.ca.hi, .int .i64 b.ca.lim, .int .i64 b.an.kind, .int .i64 b.an.key, .int .i64 b.an.val, .int .i64 b.an.n, vb, .int .i64 b.fr, .int .i64 b.to]] w fun e w' => e = .returned (.bool (aheadB a b)) ∧ Below w.heap.size w w' := by
  refine Calls.veil fun Q HQ => ?_
  obtain ⟨r, hr⟩ : ∃ r, r = aheadB a b := ⟨_, rfl⟩
  rw [← hr] at HQ
  have HR := Lib.hid (hr.trans (by unfold aheadB; rfl : _ = (decide (0 ≤ a.to) && decide (a.to < b.fr))))
  clear hr
  obtain ⟨a0, ⟨a1, a2, a3, a4, a5⟩, ⟨a6, a7, a8, a9, a10⟩, a11, a12⟩ := a
  obtain ⟨b0, ⟨b1, b2, b3, b4, b5⟩, ⟨b6, b7, b8, b9, b10⟩, b11, b12⟩ := b
  simp only at HR ⊢
  go_enter Try.func25, Try.ntmps25
  go_upto_region 1 with fail
  generalize hV : World.alloc (World.alloc w _) _ = V
  have HBV := Lib.hid (show Below w.heap.size w V by rw [← hV]; (repeat (first | exact Below.refl _ _ | assumption | refine below_new ?_ _ | refine Below.drew ?_ | refine below_drewN ?_ _ | refine below_on ?_ (by assumption))))
  have y12 := (show V.cell? ⟨w.heap.size, 12, none⟩ = some (.int .i64 a12) by rw [← hV]; exact cell_new2 _ _ _ _ _ _ _ rfl)
  have z11 := (show V.cell? ⟨w.heap.size + 1, 11, none⟩ = some (.int .i64 b11) by rw [← hV]; exact cell_new1 _ _ _ _ _ _ _ rfl)
  clear hV
  generalize w.heap.size = q at *
  by_cases h0 : 0 ≤ a12
  · by_cases h1 : a12 < b11
    · rw [decide_eq_true h0, decide_eq_true h1] at HR
      go_wp2_with fail
      (try go_ret)
      rw [HQ.out, HR.out]
      exact ⟨rfl, HBV.out⟩
    · rw [decide_eq_true h0, decide_eq_false h1] at HR
      go_wp2_with fail
      (try go_ret)
      rw [HQ.out, HR.out]
      exact ⟨rfl, HBV.out⟩
  · rw [decide_eq_false h0] at HR
    go_wp2_with fail
    (try go_ret)
    rw [HQ.out, HR.out]
    exact ⟨rfl, HBV.out⟩
end Go.Proofs.Ytilfgekiblpkaaa
