/- Layer 10: the reference's Do. -/
import Derived.Test.YtkgfhomoipbjoaaDoorModN
namespace Go.Proofs.YtkgfhomoipbjoaaDoor
open Go.RowKit
set_option linter.unusedVariables false
set_option linter.unusedSimpArgs false
theorem RowF.put4 {T : TypeId} (hT : T ≠ 75) {w : World} {g m : Nat} {L : Nat → Se} {fv : Nat → Value} (r0 : RowF T w g m (cell4 L fv)) (i : Nat) (s : Se) (v : Value) :
    RowF T ((((w.setCell ⟨g, i * 4, none⟩ (.bool s.j)).setCell ⟨g, i * 4 + 1, none⟩ (.bool s.o)).setCell ⟨g, i * 4 + 2, none⟩ v).setCell ⟨g, i * 4 + 3, none⟩ (.int .i64 s.pt)) g m (cell4 (updT L i s) (updV fv i v)) ∧
    NP w ((((w.setCell ⟨g, i * 4, none⟩ (.bool s.j)).setCell ⟨g, i * 4 + 1, none⟩ (.bool s.o)).setCell ⟨g, i * 4 + 2, none⟩ v).setCell ⟨g, i * 4 + 3, none⟩ (.int .i64 s.pt)) ∧
    KX [g] w ((((w.setCell ⟨g, i * 4, none⟩ (.bool s.j)).setCell ⟨g, i * 4 + 1, none⟩ (.bool s.o)).setCell ⟨g, i * 4 + 2, none⟩ v).setCell ⟨g, i * 4 + 3, none⟩ (.int .i64 s.pt)) := by
  have r1 := r0.set (i * 4) (.bool s.j)
  have r2 := r1.set (i * 4 + 1) (.bool s.o)
  have r3 := r2.set (i * 4 + 2) v
  have r4 := r3.set (i * 4 + 3) (.int .i64 s.pt)
  exact ⟨r4.congr fun j _ => cell4_upd _ _ _ _ _ j, (((NP.rowF r0 (i := i * 4) (.bool s.j) hT).trans (NP.rowF r1 (i := i * 4 + 1) (.bool s.o) hT)).trans (NP.rowF r2 (i := i * 4 + 2) v hT)).trans (NP.rowF r3 (i := i * 4 + 3) (.int .i64 s.pt) hT),
    (((KX.set (by simp)).trans (KX.set (by simp))).trans (KX.set (by simp))).trans (KX.set (by simp))⟩
/-- A session in a block of its own. -/
def XS (w : World) (X : Nat) (s : Se) (v : Value) : Prop := w.heap[X]? = some (.cells #[.bool s.j, .bool s.o, v, .int .i64 s.pt] 53 (0, 0))
theorem XS.c {w : World} {X : Nat} {s : Se} {v : Value} (h : XS w X s v) : w.cell? ⟨X, 0, none⟩ = some (.bool s.j) ∧ w.cell? ⟨X, 1, none⟩ = some (.bool s.o) ∧ w.cell? ⟨X, 2, none⟩ = some v ∧ w.cell? ⟨X, 3, none⟩ = some (.int .i64 s.pt) ∧ ∀ i, w.frozen? ⟨X, i, none⟩ = false := by
  refine ⟨?_, ?_, ?_, ?_, fun i => frozen_of_row _ _ _ _ _ h⟩
  all_goals (rw [cell_of_row _ _ _ _ _ (0, 0) h]; rfl)
theorem NPX {w : World} {X : Nat} {cs : Array Value} (h : w.heap[X]? = some (.cells cs 53 (0, 0))) (i : Nat) (v : Value) : (w.setCell ⟨X, i, none⟩ v).heap[X]? = some (.cells (cs.setIfInBounds i v) 53 (0, 0)) ∧ NP w (w.setCell ⟨X, i, none⟩ v) ∧ KX [X] w (w.setCell ⟨X, i, none⟩ v) :=
  ⟨heap_setCell_same _ X i _ _ v h, NP.set v h (by decide), KX.set (by simp)⟩
theorem XS.put {w : World} {X : Nat} {s : Se} {v : Value} (h : XS w X s v) (s' : Se) (v' : Value) : XS ((((w.setCell ⟨X, 0, none⟩ (.bool s'.j)).setCell ⟨X, 1, none⟩ (.bool s'.o)).setCell ⟨X, 2, none⟩ v').setCell ⟨X, 3, none⟩ (.int .i64 s'.pt)) X s' v' ∧ NP w ((((w.setCell ⟨X, 0, none⟩ (.bool s'.j)).setCell ⟨X, 1, none⟩ (.bool s'.o)).setCell ⟨X, 2, none⟩ v').setCell ⟨X, 3, none⟩ (.int .i64 s'.pt)) ∧ KX [X] w ((((w.setCell ⟨X, 0, none⟩ (.bool s'.j)).setCell ⟨X, 1, none⟩ (.bool s'.o)).setCell ⟨X, 2, none⟩ v').setCell ⟨X, 3, none⟩ (.int .i64 s'.pt)) := by
  obtain ⟨r0, n0, k0⟩ := NPX h 0 (.bool s'.j)
  obtain ⟨r1, n1, k1⟩ := NPX r0 1 (.bool s'.o)
  obtain ⟨r2, n2, k2⟩ := NPX r1 2 v'
  obtain ⟨r3, n3, k3⟩ := NPX r2 3 (.int .i64 s'.pt)
  exact ⟨r3, ((n0.trans n1).trans n2).trans n3, ((k0.trans k1).trans k2).trans k3⟩
theorem XS.putPt {w : World} {X : Nat} {s : Se} {v : Value} (h : XS w X s v) (x : Int) : XS (w.setCell ⟨X, 3, none⟩ (.int .i64 x)) X { s with pt := x } v ∧ NP w (w.setCell ⟨X, 3, none⟩ (.int .i64 x)) ∧ KX [X] w (w.setCell ⟨X, 3, none⟩ (.int .i64 x)) := NPX h 3 (.int .i64 x)
/-- An answer's block. -/
def A6 (w : World) (R : Nat) (a : An) : Prop := w.heap[R]? = some (.cells #[.int .i64 a.kind, .int .i64 a.key, .int .i64 a.val, .int .i64 a.n, .slice none 0 0] 34 (0, 0))
theorem A6.c {w : World} {R : Nat} {a : An} (h : A6 w R a) : w.cell? ⟨R, 0, none⟩ = some (.int .i64 a.kind) ∧ w.cell? ⟨R, 1, none⟩ = some (.int .i64 a.key) ∧ w.cell? ⟨R, 2, none⟩ = some (.int .i64 a.val) ∧ w.cell? ⟨R, 3, none⟩ = some (.int .i64 a.n) ∧ w.cell? ⟨R, 4, none⟩ = some (.slice none 0 0) := by
  refine ⟨?_, ?_, ?_, ?_, ?_⟩
  all_goals (rw [cell_of_row _ _ _ _ _ (0, 0) h]; rfl)
theorem A6.put {w : World} {R : Nat} {a : An} (h : A6 w R a) (b : An) : A6 (((((w.setCell ⟨R, 0, none⟩ (.int .i64 b.kind)).setCell ⟨R, 1, none⟩ (.int .i64 b.key)).setCell ⟨R, 2, none⟩ (.int .i64 b.val)).setCell ⟨R, 3, none⟩ (.int .i64 b.n)).setCell ⟨R, 4, none⟩ (.slice none 0 0)) R b := by
  unfold A6 at *
  rw [heap_setCell_same _ R 4 _ _ _ (heap_setCell_same _ R 3 _ _ _ (heap_setCell_same _ R 2 _ _ _ (heap_setCell_same _ R 1 _ _ _ (heap_setCell_same _ R 0 _ _ _ h))))]
  rfl
set_option maxRecDepth 16000 in
set_option maxHeartbeats 4000000 in
theorem rdo_bad {w : World} {st : Sm} {mv tv : Value} (hp : PO w mv st.mp) (ht : TR w tv st.n st.th) (ok : OkS st) (t op key val hi lim : Int) (hb : badB st.n st.th t ⟨op, key, val, hi, lim⟩ = true) :
    Calls Tryd.prog 8 #[.agg #[mv, tv], .int .i64 t, .agg #[.int .i64 op, .int .i64 key, .int .i64 val, .int .i64 hi, .int .i64 lim]] w (DoP w st ⟨8, 0, 0, 0, []⟩) := by
  refine Calls.veil fun Q HQ => ?_
  have HP := Lib.hid hp
  have HT := Lib.hid ht
  have HOK := Lib.hid ok
  have HBB := Lib.hid hb
  obtain ⟨mp, mc, rfl, _, _⟩ := hp.1.slice
  obtain ⟨tp, tc, rfl, _, _, _⟩ := ht.slice
  clear hp ht ok hb
  go_enter Tryd.func8, Tryd.ntmps8
  go_upto_region 1 with fail
  have h4 := heap4 w (.cells #[.slice mp st.mp.length mc, .slice tp st.n tc] 31) (.cells #[.int .i64 op, .int .i64 key, .int .i64 val, .int .i64 hi, .int .i64 lim] 38) (.cells #[.slice none 0 0, .slice none 0 0] 31) (.cells #[.int .i64 0, .int .i64 0, .int .i64 0, .int .i64 0, .slice none 0 0] 34)
  simp only at h4
  have hBU : Below w.heap.size w ((((w.alloc (.cells #[.slice mp st.mp.length mc, .slice tp st.n tc] 31)).alloc (.cells #[.int .i64 op, .int .i64 key, .int .i64 val, .int .i64 hi, .int .i64 lim] 38)).alloc (.cells #[.slice none 0 0, .slice none 0 0] 31)).alloc (.cells #[.int .i64 0, .int .i64 0, .int .i64 0, .int .i64 0, .slice none 0 0] 34)) := by (repeat (first | exact Below.refl _ _ | assumption | refine below_new ?_ _ | refine Below.drew ?_ | refine below_drewN ?_ _ | refine below_on ?_ (by assumption)))
  generalize hU : World.alloc _ _ = U at h4 hBU
  obtain ⟨B, hB⟩ : ∃ B, B = w.heap.size := ⟨_, rfl⟩
  rw [← hB] at h4 ⊢
  obtain ⟨u0, u1, u2, u3, u4⟩ := h4
  have HBE := Lib.hid hB
  have HBU := Lib.hid hBU
  have z0 : U.cell? ⟨B, 0, none⟩ = some (.slice mp st.mp.length mc) := by rw [cell_of_row _ _ _ _ _ (0, 0) u0]; rfl
  have z1 : U.cell? ⟨B, 1, none⟩ = some (.slice tp st.n tc) := by rw [cell_of_row _ _ _ _ _ (0, 0) u0]; rfl
  have y0 : U.cell? ⟨B + 1, 0, none⟩ = some (.int .i64 op) := by rw [cell_of_row _ _ _ _ _ (0, 0) u1]; rfl
  have y1 : U.cell? ⟨B + 1, 1, none⟩ = some (.int .i64 key) := by rw [cell_of_row _ _ _ _ _ (0, 0) u1]; rfl
  have y2 : U.cell? ⟨B + 1, 2, none⟩ = some (.int .i64 val) := by rw [cell_of_row _ _ _ _ _ (0, 0) u1]; rfl
  have y3 : U.cell? ⟨B + 1, 3, none⟩ = some (.int .i64 hi) := by rw [cell_of_row _ _ _ _ _ (0, 0) u1]; rfl
  have y4 : U.cell? ⟨B + 1, 4, none⟩ = some (.int .i64 lim) := by rw [cell_of_row _ _ _ _ _ (0, 0) u1]; rfl
  have HPU := Lib.hid (HP.out.below HBU.out)
  have HTU := Lib.hid (HT.out.below HBU.out)
  have HU := Lib.hid (And.intro u0 (And.intro u1 (And.intro u2 (And.intro u3 u4))))
  clear hU hBU hB u0 u1 u2 u3 u4
  go_wp2_with fail
  refine (rbad HPU.out.1 HTU.out t ⟨op, key, val, hi, lim⟩).mono ?_; rintro _ w1 ⟨rfl, hb1⟩
  rw [HBB.out]
  have HB1 := Lib.hid hb1
  have HBT := Lib.hid (HBU.out.trans (hb1.mono HBU.out.size))
  have HP1 := Lib.hid (HPU.out.below hb1)
  have HT1 := Lib.hid (HTU.out.below hb1)
  have z0 := Ext.use (Ext.cells z0) hb1; have z1 := Ext.use (Ext.cells z1) hb1
  have y0 := Ext.use (Ext.cells y0) hb1; have y1 := Ext.use (Ext.cells y1) hb1; have y2 := Ext.use (Ext.cells y2) hb1; have y3 := Ext.use (Ext.cells y3) hb1; have y4 := Ext.use (Ext.cells y4) hb1
  have HW := Lib.hid (show w1.heap[B]? = some (.cells #[.slice mp st.mp.length mc, .slice tp st.n tc] 31 (0, 0)) ∧ w1.heap[B + 1 + 1]? = some (.cells #[.slice none 0 0, .slice none 0 0] 31 (0, 0)) ∧ A5 w1 (B + 1 + 1 + 1) ∧ B + 4 ≤ w1.heap.size from by
    obtain ⟨u0, u1, u2, u3, u4⟩ := HU.out
    have := hb1.size
    exact ⟨(hb1.block _ (by omega)).trans u0, (hb1.block _ (by omega)).trans u2, (hb1.block _ (by omega)).trans u3, by omega⟩)
  clear hb1
  have H2 := Lib.hid HW.out.2.1
  have H3 := Lib.hid HW.out.2.2.1
  have a0 : w1.cell? ⟨B + 1 + 1, 0, none⟩ = some (.slice none 0 0) := by rw [cell_of_row _ _ _ _ _ (0, 0) H2.out]; rfl
  have a1 : w1.cell? ⟨B + 1 + 1, 1, none⟩ = some (.slice none 0 0) := by rw [cell_of_row _ _ _ _ _ (0, 0) H2.out]; rfl
  have f2 : ∀ i, w1.frozen? ⟨B + 1 + 1, i, none⟩ = false := fun i => frozen_of_row _ _ _ _ _ H2.out
  obtain ⟨b0, b1, b2, b3, b4, bf⟩ := H3.out.c
  clear y0 y1 y2 y3 y4
  · go_upto_region 2 with fail
    go_wp2_with fail
    refine bodyPost_ret (v := .tuple #[.agg #[.slice mp st.mp.length mc, .slice tp st.n tc], .agg #[.int .i64 8, .int .i64 0, .int .i64 0, .int .i64 0, .slice none 0 0]]) (by simp [results, Tryd.results8, go_sem, a0, a1, b0, b1, b2, b3, b4, World.cell?_setCell_same, World.cell?_setCell_other]) rfl ?_
    rw [HQ.out]
    have hbe := HBE.out
    have hd : ∀ W : World, Below W.heap.size W W.drew := fun W => (Below.refl _ _).drew
    obtain ⟨k2, n2, o2⟩ := st2 (w := w) (X := []) (T := 31) (by decide) H2.out (by omega) (KX.of_below HBT.out) (.slice mp st.mp.length mc) (.slice tp st.n tc)
    have h3' := (o2 (B + 1 + 1 + 1) (by omega)).trans H3.out
    obtain ⟨k3, n3, o3⟩ := ans5 (w := w) (X := []) h3' (by omega) k2 (.int .i64 8) (.int .i64 0) (.int .i64 0) (.int .i64 0) (.slice none 0 0)
    have nn := n2.trans n3
    have hfin : Below w.heap.size w _ := ⟨k3.os, k3.tape, k3.output, k3.size, fun k hk => k3.block k hk (by simp)⟩
    have htr := tr_keep2 HT1.out nn fun b x hb => by
      have e2 : b ≠ B + 1 + 1 := by intro e; subst e; rw [a0] at hb; cases hb
      have e3 : b ≠ B + 1 + 1 + 1 := by intro e; subst e; rw [b0] at hb; cases hb
      exact (o3 b e3).trans (o2 b e2)
    exact ⟨_, _, _, rfl, HP1.out.np nn, htr, PO.nil _, hfin⟩
set_option maxRecDepth 16000 in
set_option maxHeartbeats 4000000 in
theorem rdo_plain {w : World} {st : Sm} {mv tv : Value} (hp : PO w mv st.mp) (ht : TR w tv st.n st.th) (ok : OkS st) (t op key val hi lim : Int) (hb : badB st.n st.th t ⟨op, key, val, hi, lim⟩ = false) (h0 : 0 ≤ op) (h9 : op < 9) :
    Calls Tryd.prog 8 #[.agg #[mv, tv], .int .i64 t, .agg #[.int .i64 op, .int .i64 key, .int .i64 val, .int .i64 hi, .int .i64 lim]] w (DoP w { st with mp := (plA st.mp ⟨op, key, val, hi, lim⟩).1 } (plA st.mp ⟨op, key, val, hi, lim⟩).2) := by
  obtain ⟨l2, hl2⟩ : ∃ x, x = (plA st.mp ⟨op, key, val, hi, lim⟩).1 := ⟨_, rfl⟩
  obtain ⟨a, ha⟩ : ∃ x, x = (plA st.mp ⟨op, key, val, hi, lim⟩).2 := ⟨_, rfl⟩
  have HPL := Lib.hid (And.intro hl2 ha)
  have HH0 := Lib.hid h0
  rw [← hl2, ← ha]
  clear hl2 ha h0
  refine Calls.veil fun Q HQ => ?_
  have HP := Lib.hid hp
  have HT := Lib.hid ht
  have HOK := Lib.hid ok
  have HBB := Lib.hid hb
  obtain ⟨mp, mc, rfl, _, _⟩ := hp.1.slice
  obtain ⟨tp, tc, rfl, _, _, _⟩ := ht.slice
  clear hp ht ok hb
  go_enter Tryd.func8, Tryd.ntmps8
  go_upto_region 1 with fail
  have h4 := heap4 w (.cells #[.slice mp st.mp.length mc, .slice tp st.n tc] 31) (.cells #[.int .i64 op, .int .i64 key, .int .i64 val, .int .i64 hi, .int .i64 lim] 38) (.cells #[.slice none 0 0, .slice none 0 0] 31) (.cells #[.int .i64 0, .int .i64 0, .int .i64 0, .int .i64 0, .slice none 0 0] 34)
  simp only at h4
  have hBU : Below w.heap.size w ((((w.alloc (.cells #[.slice mp st.mp.length mc, .slice tp st.n tc] 31)).alloc (.cells #[.int .i64 op, .int .i64 key, .int .i64 val, .int .i64 hi, .int .i64 lim] 38)).alloc (.cells #[.slice none 0 0, .slice none 0 0] 31)).alloc (.cells #[.int .i64 0, .int .i64 0, .int .i64 0, .int .i64 0, .slice none 0 0] 34)) := by (repeat (first | exact Below.refl _ _ | assumption | refine below_new ?_ _ | refine Below.drew ?_ | refine below_drewN ?_ _ | refine below_on ?_ (by assumption)))
  generalize hU : World.alloc _ _ = U at h4 hBU
  obtain ⟨B, hB⟩ : ∃ B, B = w.heap.size := ⟨_, rfl⟩
  rw [← hB] at h4 ⊢
  obtain ⟨u0, u1, u2, u3, u4⟩ := h4
  have HBE := Lib.hid hB
  have HBU := Lib.hid hBU
  have z0 : U.cell? ⟨B, 0, none⟩ = some (.slice mp st.mp.length mc) := by rw [cell_of_row _ _ _ _ _ (0, 0) u0]; rfl
  have z1 : U.cell? ⟨B, 1, none⟩ = some (.slice tp st.n tc) := by rw [cell_of_row _ _ _ _ _ (0, 0) u0]; rfl
  have y0 : U.cell? ⟨B + 1, 0, none⟩ = some (.int .i64 op) := by rw [cell_of_row _ _ _ _ _ (0, 0) u1]; rfl
  have y1 : U.cell? ⟨B + 1, 1, none⟩ = some (.int .i64 key) := by rw [cell_of_row _ _ _ _ _ (0, 0) u1]; rfl
  have y2 : U.cell? ⟨B + 1, 2, none⟩ = some (.int .i64 val) := by rw [cell_of_row _ _ _ _ _ (0, 0) u1]; rfl
  have y3 : U.cell? ⟨B + 1, 3, none⟩ = some (.int .i64 hi) := by rw [cell_of_row _ _ _ _ _ (0, 0) u1]; rfl
  have y4 : U.cell? ⟨B + 1, 4, none⟩ = some (.int .i64 lim) := by rw [cell_of_row _ _ _ _ _ (0, 0) u1]; rfl
  have HPU := Lib.hid (HP.out.below HBU.out)
  have HTU := Lib.hid (HT.out.below HBU.out)
  have HU := Lib.hid (And.intro u0 (And.intro u1 (And.intro u2 (And.intro u3 u4))))
  clear hU hBU hB u0 u1 u2 u3 u4
  go_wp2_with fail
  refine (rbad HPU.out.1 HTU.out t ⟨op, key, val, hi, lim⟩).mono ?_; rintro _ w1 ⟨rfl, hb1⟩
  rw [HBB.out]
  have HB1 := Lib.hid hb1
  have HBT := Lib.hid (HBU.out.trans (hb1.mono HBU.out.size))
  have HP1 := Lib.hid (HPU.out.below hb1)
  have HT1 := Lib.hid (HTU.out.below hb1)
  have z0 := Ext.use (Ext.cells z0) hb1; have z1 := Ext.use (Ext.cells z1) hb1
  have y0 := Ext.use (Ext.cells y0) hb1; have y1 := Ext.use (Ext.cells y1) hb1; have y2 := Ext.use (Ext.cells y2) hb1; have y3 := Ext.use (Ext.cells y3) hb1; have y4 := Ext.use (Ext.cells y4) hb1
  have HW := Lib.hid (show w1.heap[B]? = some (.cells #[.slice mp st.mp.length mc, .slice tp st.n tc] 31 (0, 0)) ∧ w1.heap[B + 1 + 1]? = some (.cells #[.slice none 0 0, .slice none 0 0] 31 (0, 0)) ∧ A5 w1 (B + 1 + 1 + 1) ∧ B + 4 ≤ w1.heap.size from by
    obtain ⟨u0, u1, u2, u3, u4⟩ := HU.out
    have := hb1.size
    exact ⟨(hb1.block _ (by omega)).trans u0, (hb1.block _ (by omega)).trans u2, (hb1.block _ (by omega)).trans u3, by omega⟩)
  clear hb1
  go_wp2_with fail
  have C := rplain HP1.out HOK.out.mr HOK.out.ml HOK.out.mg ⟨op, key, val, hi, lim⟩ HH0.out h9
  rw [← HPL.out.1, ← HPL.out.2] at C
  refine C.mono ?_; rintro _ w2 ⟨mv2, av, rfl, hp2, ha2, hb2⟩
  clear C y0 y1 y2 y3 y4
  have HB2 := Lib.hid hb2
  have HPM := Lib.hid hp2
  have HAV := Lib.hid ha2
  have HT2 := Lib.hid (HT1.out.below hb2)
  obtain ⟨p3, c3, rfl, _, _⟩ := ha2.1.slice
  obtain ⟨p4, c4, rfl, _, _⟩ := hp2.1.slice
  have z0 := Ext.use (Ext.cells z0) hb2; have z1 := Ext.use (Ext.cells z1) hb2
  have HW2 := Lib.hid (show w2.heap[B]? = some (.cells #[.slice mp st.mp.length mc, .slice tp st.n tc] 31 (0, 0)) ∧ w2.heap[B + 1 + 1]? = some (.cells #[.slice none 0 0, .slice none 0 0] 31 (0, 0)) ∧ A5 w2 (B + 1 + 1 + 1) ∧ B + 4 ≤ w2.heap.size from by
    obtain ⟨u0, u2, u3, u4⟩ := HW.out
    have := hb2.size
    exact ⟨(hb2.block _ (by omega)).trans u0, (hb2.block _ (by omega)).trans u2, (hb2.block _ (by omega)).trans u3, by omega⟩)
  unfold anV
  clear hb2 hp2 ha2
  go_upto_region 5 with fail
  generalize hX : World.alloc w2 _ = X
  obtain ⟨Y, hYz⟩ : ∃ Y, Y = w2.heap.size := ⟨_, rfl⟩
  have hbX : Below w2.heap.size w2 X := by rw [← hX]; (repeat (first | exact Below.refl _ _ | assumption | refine below_new ?_ _ | refine Below.drew ?_ | refine below_drewN ?_ _ | refine below_on ?_ (by assumption)))
  have hYX : X.heap[Y]? = some (.cells #[.int .i64 a.kind, .int .i64 a.key, .int .i64 a.val, .int .i64 a.n, .slice p3 a.ps.length c3] 34 (0, 0)) := by rw [hYz, ← hX]; exact heap_alloc_new _ _
  have HYX := Lib.hid hYX
  have HBX := Lib.hid hbX
  have hXB := (hbX.block B (by have := HW2.out; omega)).trans HW2.out.1
  have HXB := Lib.hid hXB
  have z0 := Ext.use (Ext.cells z0) hbX; have z1 := Ext.use (Ext.cells z1) hbX
  have zf : ∀ i, X.frozen? ⟨B, i, none⟩ = false := fun i => frozen_of_row _ _ _ _ _ hXB
  rw [← hYz]
  have hYB : Y ≠ B := by have := HW2.out; omega
  have HYG := Lib.hid (show B + 4 ≤ Y by have := HW2.out; omega)
  clear hX hbX hYX hXB hYz
  go_upto_region 6 with fail
  generalize hZ : World.setCell X _ _ = Z
  have hZB : Z.heap[B]? = some (.cells #[.slice p4 l2.length c4, .slice tp st.n tc] 31 (0, 0)) := by rw [← hZ, heap_setCell_same _ B 0 _ _ _ HXB.out]; rfl
  have hZO : ∀ b, b ≠ B → Z.heap[b]? = X.heap[b]? := fun b hb => by rw [← hZ]; exact Below.heap_setCell _ _ _ _ hb
  have hZN : NP X Z := by rw [← hZ]; exact NP.set _ HXB.out (by decide)
  have hZK : KX [B] X Z := by rw [← hZ]; exact KX.set (by simp)
  have HZ := Lib.hid (And.intro hZO (And.intro hZN hZK))
  have x0 : Z.cell? ⟨B, 0, none⟩ = some (.slice p4 l2.length c4) := by rw [cell_of_row _ _ _ _ _ (0, 0) hZB]; rfl
  have x1 : Z.cell? ⟨B, 1, none⟩ = some (.slice tp st.n tc) := by rw [cell_of_row _ _ _ _ _ (0, 0) hZB]; rfl
  have hYZ := (hZO Y hYB).trans HYX.out
  have y0 : Z.cell? ⟨Y, 0, none⟩ = some (.int .i64 a.kind) := by rw [cell_of_row _ _ _ _ _ (0, 0) hYZ]; rfl
  have y1 : Z.cell? ⟨Y, 1, none⟩ = some (.int .i64 a.key) := by rw [cell_of_row _ _ _ _ _ (0, 0) hYZ]; rfl
  have y2 : Z.cell? ⟨Y, 2, none⟩ = some (.int .i64 a.val) := by rw [cell_of_row _ _ _ _ _ (0, 0) hYZ]; rfl
  have y3 : Z.cell? ⟨Y, 3, none⟩ = some (.int .i64 a.n) := by rw [cell_of_row _ _ _ _ _ (0, 0) hYZ]; rfl
  have y4 : Z.cell? ⟨Y, 4, none⟩ = some (.slice p3 a.ps.length c3) := by rw [cell_of_row _ _ _ _ _ (0, 0) hYZ]; rfl
  have H2 := Lib.hid ((hZO (B + 1 + 1) (by omega)).trans ((HBX.out.block _ (by have := HW2.out; omega)).trans HW2.out.2.1))
  have H3 := Lib.hid (show A5 Z (B + 1 + 1 + 1) from (hZO (B + 1 + 1 + 1) (by omega)).trans ((HBX.out.block _ (by have := HW2.out; omega)).trans HW2.out.2.2.1))
  have a0 : Z.cell? ⟨B + 1 + 1, 0, none⟩ = some (.slice none 0 0) := by rw [cell_of_row _ _ _ _ _ (0, 0) H2.out]; rfl
  have a1 : Z.cell? ⟨B + 1 + 1, 1, none⟩ = some (.slice none 0 0) := by rw [cell_of_row _ _ _ _ _ (0, 0) H2.out]; rfl
  have f2 : ∀ i, Z.frozen? ⟨B + 1 + 1, i, none⟩ = false := fun i => frozen_of_row _ _ _ _ _ H2.out
  obtain ⟨b0, b1, b2, b3, b4, bf⟩ := H3.out.c
  have hY2 : Y ≠ B + 1 + 1 := by have := HYG.out; omega
  have hY3 : Y ≠ B + 1 + 1 + 1 := by have := HYG.out; omega
  have HPZ := Lib.hid ((HPM.out.below HBX.out).np hZN)
  have HAZ := Lib.hid ((HAV.out.below HBX.out).np hZN)
  have HTZ := Lib.hid (tr_keep2 (HT2.out.below HBX.out) hZN fun b x hb => hZO b (by intro e; subst e; rw [z0] at hb; cases hb))
  have HBZ := Lib.hid (show Below w.heap.size w Z from by
    have k := HBT.out.trans (HB2.out.mono HBT.out.size)
    have k2 := k.trans (HBX.out.mono k.size)
    exact KX.below k2 hZK (by have := HBE.out; intro x hx; simp at hx; omega))
  clear hZ hZB hZO hZN hZK hYZ z0 z1 zf
  go_region
  all_goals
    go_wp2_with fail
    refine bodyPost_ret (v := .tuple #[.agg #[.slice p4 l2.length c4, .slice tp st.n tc], .agg #[.int .i64 a.kind, .int .i64 a.key, .int .i64 a.val, .int .i64 a.n, .slice p3 a.ps.length c3]]) (by simp [results, Tryd.results8, go_sem, a0, a1, b0, b1, b2, b3, b4, World.cell?_setCell_same, World.cell?_setCell_other]) rfl ?_
    rw [HQ.out]
    have hbe := HBE.out
    have hd : ∀ W : World, Below W.heap.size W W.drew := fun W => (Below.refl _ _).drew
    obtain ⟨k2, n2, o2⟩ := st2 (w := w) (X := []) (T := 31) (by decide) H2.out (by omega) (KX.of_below HBZ.out) (.slice p4 l2.length c4) (.slice tp st.n tc)
    have h3' := (o2 (B + 1 + 1 + 1) (by omega)).trans H3.out
    obtain ⟨k3, n3, o3⟩ := ans5 (w := w) (X := []) h3' (by omega) k2 (.int .i64 a.kind) (.int .i64 a.key) (.int .i64 a.val) (.int .i64 a.n) (.slice p3 a.ps.length c3)
    have nn := n2.trans n3
    have hfin : Below w.heap.size w _ := ⟨k3.os, k3.tape, k3.output, k3.size, fun k hk => k3.block k hk (by simp)⟩
    have htr := tr_keep2 HTZ.out nn fun b x hb => by
      have e2 : b ≠ B + 1 + 1 := by intro e; subst e; rw [a0] at hb; cases hb
      have e3 : b ≠ B + 1 + 1 + 1 := by intro e; subst e; rw [b0] at hb; cases hb
      exact (o3 b e3).trans (o2 b e2)
    exact ⟨_, _, _, rfl, (HPZ.out.np nn).below (hd _), htr.below (hd _), (HAZ.out.np nn).below (hd _), hfin.trans ((hd _).mono k3.size)⟩
set_option maxRecDepth 16000 in
set_option maxHeartbeats 4000000 in
theorem rdo_close {w : World} {st : Sm} {mv tv : Value} (hp : PO w mv st.mp) (ht : TR w tv st.n st.th) (ok : OkS st) (i : Nat) (hi0 : i < st.n) (key val hi lim : Int) (hb : badB st.n st.th i ⟨12, key, val, hi, lim⟩ = false) :
    Calls Tryd.prog 8 #[.agg #[mv, tv], .int .i64 i, .agg #[.int .i64 12, .int .i64 key, .int .i64 val, .int .i64 hi, .int .i64 lim]] w (DoP w { st with th := updT st.th i ⟨true, false, [], 0⟩ } ⟨0, 0, 0, 0, []⟩) := by
  refine Calls.veil fun Q HQ => ?_
  have HP := Lib.hid hp
  have HT := Lib.hid ht
  have HOK := Lib.hid ok
  have HBB := Lib.hid hb
  obtain ⟨mp, mc, rfl, _, _⟩ := hp.1.slice
  obtain ⟨tp, tc, rfl, _, _, _⟩ := ht.slice
  clear hp ht ok hb
  go_enter Tryd.func8, Tryd.ntmps8
  go_upto_region 1 with fail
  have h4 := heap4 w (.cells #[.slice mp st.mp.length mc, .slice tp st.n tc] 31) (.cells #[.int .i64 12, .int .i64 key, .int .i64 val, .int .i64 hi, .int .i64 lim] 38) (.cells #[.slice none 0 0, .slice none 0 0] 31) (.cells #[.int .i64 0, .int .i64 0, .int .i64 0, .int .i64 0, .slice none 0 0] 34)
  simp only at h4
  have hBU : Below w.heap.size w ((((w.alloc (.cells #[.slice mp st.mp.length mc, .slice tp st.n tc] 31)).alloc (.cells #[.int .i64 12, .int .i64 key, .int .i64 val, .int .i64 hi, .int .i64 lim] 38)).alloc (.cells #[.slice none 0 0, .slice none 0 0] 31)).alloc (.cells #[.int .i64 0, .int .i64 0, .int .i64 0, .int .i64 0, .slice none 0 0] 34)) := by (repeat (first | exact Below.refl _ _ | assumption | refine below_new ?_ _ | refine Below.drew ?_ | refine below_drewN ?_ _ | refine below_on ?_ (by assumption)))
  generalize hU : World.alloc _ _ = U at h4 hBU
  obtain ⟨B, hB⟩ : ∃ B, B = w.heap.size := ⟨_, rfl⟩
  rw [← hB] at h4 ⊢
  obtain ⟨u0, u1, u2, u3, u4⟩ := h4
  have HBE := Lib.hid hB
  have HBU := Lib.hid hBU
  have z0 : U.cell? ⟨B, 0, none⟩ = some (.slice mp st.mp.length mc) := by rw [cell_of_row _ _ _ _ _ (0, 0) u0]; rfl
  have z1 : U.cell? ⟨B, 1, none⟩ = some (.slice tp st.n tc) := by rw [cell_of_row _ _ _ _ _ (0, 0) u0]; rfl
  have y0 : U.cell? ⟨B + 1, 0, none⟩ = some (.int .i64 12) := by rw [cell_of_row _ _ _ _ _ (0, 0) u1]; rfl
  have y1 : U.cell? ⟨B + 1, 1, none⟩ = some (.int .i64 key) := by rw [cell_of_row _ _ _ _ _ (0, 0) u1]; rfl
  have y2 : U.cell? ⟨B + 1, 2, none⟩ = some (.int .i64 val) := by rw [cell_of_row _ _ _ _ _ (0, 0) u1]; rfl
  have y3 : U.cell? ⟨B + 1, 3, none⟩ = some (.int .i64 hi) := by rw [cell_of_row _ _ _ _ _ (0, 0) u1]; rfl
  have y4 : U.cell? ⟨B + 1, 4, none⟩ = some (.int .i64 lim) := by rw [cell_of_row _ _ _ _ _ (0, 0) u1]; rfl
  have HPU := Lib.hid (HP.out.below HBU.out)
  have HTU := Lib.hid (HT.out.below HBU.out)
  have HU := Lib.hid (And.intro u0 (And.intro u1 (And.intro u2 (And.intro u3 u4))))
  clear hU hBU hB u0 u1 u2 u3 u4
  go_wp2_with fail
  refine (rbad HPU.out.1 HTU.out i ⟨12, key, val, hi, lim⟩).mono ?_; rintro _ w1 ⟨rfl, hb1⟩
  rw [HBB.out]
  have HB1 := Lib.hid hb1
  have HBT := Lib.hid (HBU.out.trans (hb1.mono HBU.out.size))
  have HP1 := Lib.hid (HPU.out.below hb1)
  have HT1 := Lib.hid (HTU.out.below hb1)
  have z0 := Ext.use (Ext.cells z0) hb1; have z1 := Ext.use (Ext.cells z1) hb1
  have y0 := Ext.use (Ext.cells y0) hb1; have y1 := Ext.use (Ext.cells y1) hb1; have y2 := Ext.use (Ext.cells y2) hb1; have y3 := Ext.use (Ext.cells y3) hb1; have y4 := Ext.use (Ext.cells y4) hb1
  have HW := Lib.hid (show w1.heap[B]? = some (.cells #[.slice mp st.mp.length mc, .slice tp st.n tc] 31 (0, 0)) ∧ w1.heap[B + 1 + 1]? = some (.cells #[.slice none 0 0, .slice none 0 0] 31 (0, 0)) ∧ A5 w1 (B + 1 + 1 + 1) ∧ B + 4 ≤ w1.heap.size from by
    obtain ⟨u0, u1, u2, u3, u4⟩ := HU.out
    have := hb1.size
    exact ⟨(hb1.block _ (by omega)).trans u0, (hb1.block _ (by omega)).trans u2, (hb1.block _ (by omega)).trans u3, by omega⟩)
  clear hb1
  have hii : (i : Int) < st.n := by omega
  have hi1 : 0 ≤ (i : Int) := by omega
  go_upto_region 7 with fail
  have z1a := Ext.on z1
  go_wp2_with (at_builtin; refine wpList_append_t uXs infoX rfl (.tmp 35) (.tmp 37) rfl w1 rfl rfl _ st.n st.th rfl HT1.out (by have := HOK.out.n6; omega) ?_)
  intro tv2 w2 fv hown hb2
  obtain ⟨hpf, g, c2, rfl, k1, k2, k3, k4⟩ := hown.pos (by omega)
  have HB2 := Lib.hid hb2
  have HPF := Lib.hid hpf
  have HRow := Lib.hid k4
  have HG := Lib.hid (And.intro k1 (And.intro k2 k3))
  have HP2 := Lib.hid (HP1.out.below hb2)
  have z0 := Ext.use (Ext.cells z0) hb2; have z1 := Ext.use (Ext.cells z1) hb2
  have y0 := Ext.use (Ext.cells y0) hb2; have y1 := Ext.use (Ext.cells y1) hb2; have y3 := Ext.use (Ext.cells y3) hb2
  have HW2 := Lib.hid (show w2.heap[B]? = some (.cells #[.slice mp st.mp.length mc, .slice tp st.n tc] 31 (0, 0)) ∧ w2.heap[B + 1 + 1]? = some (.cells #[.slice none 0 0, .slice none 0 0] 31 (0, 0)) ∧ A5 w2 (B + 1 + 1 + 1) ∧ B + 4 ≤ w2.heap.size from by
    obtain ⟨u0, u2, u3, u4⟩ := HW.out
    have := hb2.size
    exact ⟨(hb2.block _ (by omega)).trans u0, (hb2.block _ (by omega)).trans u2, (hb2.block _ (by omega)).trans u3, by omega⟩)
  have HGB := Lib.hid (show B + 4 ≤ g ∧ g < w2.heap.size from ⟨by have := HW.out; omega, k4.lt⟩)
  obtain ⟨t0, t1, t2, t3, tp9⟩ := k4.ses hpf i hi0
  obtain ⟨p9, c9, e9, _, _⟩ := tp9.1.slice
  have HE9 := Lib.hid e9
  rw [e9] at t2
  have HF9 := Lib.hid (show PO w2 (.slice p9 (st.th i).fz.length c9) (st.th i).fz by rw [← e9]; exact tp9)
  clear hb2 hpf k1 k2 k3 k4 hown tp9 e9 z1a y2 y4
  go_upto_region 9 with fail
  generalize hV : World.alloc w2 _ = V
  obtain ⟨Xb, hXb⟩ : ∃ Xb, Xb = w2.heap.size := ⟨_, rfl⟩
  have hbV : Below w2.heap.size w2 V := by rw [← hV]; (repeat (first | exact Below.refl _ _ | assumption | refine below_new ?_ _ | refine Below.drew ?_ | refine below_drewN ?_ _ | refine below_on ?_ (by assumption)))
  have HXS := Lib.hid (show XS V Xb (st.th i) (.slice p9 (st.th i).fz.length c9) by unfold XS; rw [hXb, ← hV]; exact heap_alloc_new _ _)
  have z0 := Ext.use (Ext.cells z0) hbV; have z1 := Ext.use (Ext.cells z1) hbV
  have y0 := Ext.use (Ext.cells y0) hbV; have y1 := Ext.use (Ext.cells y1) hbV; have y3 := Ext.use (Ext.cells y3) hbV
  have HBV := Lib.hid hbV
  rw [← hXb]
  have HXE := Lib.hid hXb
  have HVS := Lib.hid (show V.heap.size = w2.heap.size + 1 by rw [← hV]; simp)
  clear hV hXb t0 t1 t2 t3
  go_upto_region 10 with fail
  generalize hV2 : World.alloc V _ = V2
  obtain ⟨Ab, hAb⟩ : ∃ Ab, Ab = V.heap.size := ⟨_, rfl⟩
  have hbV2 : Below V.heap.size V V2 := by rw [← hV2]; (repeat (first | exact Below.refl _ _ | assumption | refine below_new ?_ _ | refine Below.drew ?_ | refine below_drewN ?_ _ | refine below_on ?_ (by assumption)))
  have HA6 := Lib.hid (show A6 V2 Ab ⟨0, 0, 0, 0, []⟩ by unfold A6; rw [hAb, ← hV2]; exact heap_alloc_new _ _)
  have z0 := Ext.use (Ext.cells z0) hbV2; have z1 := Ext.use (Ext.cells z1) hbV2
  have y0 := Ext.use (Ext.cells y0) hbV2; have y1 := Ext.use (Ext.cells y1) hbV2; have y3 := Ext.use (Ext.cells y3) hbV2
  have HBV2 := Lib.hid (HBV.out.trans (hbV2.mono HBV.out.size))
  have HXS := Lib.hid (show XS V2 Xb (st.th i) (.slice p9 (st.th i).fz.length c9) from (hbV2.block _ (Array.getElem?_eq_some_iff.1 HXS.out).1).trans HXS.out)
  have HLT := Lib.hid (show g < Xb ∧ Xb < Ab ∧ B + 4 ≤ g ∧ Ab < V2.heap.size from by
    have h1 := HXE.out; have h2 := HGB.out; have h3 := (Array.getElem?_eq_some_iff.1 HXS.out).1; have h4 := (Array.getElem?_eq_some_iff.1 HA6.out).1
    have h5 := HVS.out
    exact ⟨by omega, by rw [hAb, h1]; omega, h2.1, h4⟩)
  rw [← hAb]
  clear hV2 hAb hbV2
  have HFV := Lib.hid (HF9.out.below HBV2.out)
  have HP3 := Lib.hid (HP2.out.below HBV2.out)
  obtain ⟨q0, q1, q2, q3, qf⟩ := HXS.out.c
  go_upto_region 24 with fail
  generalize hW : World.setCell _ _ _ = W
  obtain ⟨s', hs'⟩ : ∃ x, x = (⟨true, false, [], 0⟩ : Se) := ⟨_, rfl⟩
  obtain ⟨a', ha'⟩ : ∃ x, x = (⟨0, 0, 0, 0, []⟩ : An) := ⟨_, rfl⟩
  have HSE := Lib.hid (And.intro hs' ha')
  obtain ⟨p8, c8, h8⟩ : ∃ (p8 : Option Addr) (c8 : Nat), p8 = none ∧ c8 = 0 := ⟨_, _, rfl, rfl⟩
  have hput := HXS.out.put ⟨true, false, [], 0⟩ (.slice none 0 0)
  simp only at hput
  rw [hW] at hput
  have HXW := Lib.hid (show XS W Xb s' (.slice p8 s'.fz.length c8) by rw [hs', h8.1, h8.2]; exact hput.1)
  have HPW := Lib.hid (show PO W (.slice p8 s'.fz.length c8) s'.fz by rw [hs', h8.1, h8.2]; exact PO.nil _)
  have HKW := Lib.hid (show KX [Xb, Ab] V2 W from hput.2.2.more (by simp))
  have HNW := Lib.hid (show NP V2 W from hput.2.1)
  have HAW := Lib.hid (show A6 W Ab a' by rw [ha']; exact (hput.2.2.block Ab HLT.out.2.2.2 (by have := HLT.out; simp; omega)).trans HA6.out)
  clear hW hput hs' ha' h8 q0 q1 q2 q3 qf
  have HKW0 := Lib.hid (show ∀ b, b ≠ Xb → b ≠ Ab → b < V2.heap.size → W.heap[b]? = V2.heap[b]? from fun b h1 h2 h3 => HKW.out.block b h3 (by simp; exact ⟨h1, h2⟩))
  have HRW := Lib.hid ((HRow.out.below HBV2.out).of (HKW0.out g (by have := HLT.out; omega) (by have := HLT.out; omega) (by have := HGB.out; have := HBV2.out.size; omega)))
  have hWB := (HKW0.out B (by have := HLT.out; omega) (by have := HLT.out; omega) (by have := HW2.out; have := HBV2.out.size; omega)).trans ((HBV2.out.block B (by have := HW2.out; omega)).trans HW2.out.1)
  have HWB := Lib.hid hWB
  have z0 : W.cell? ⟨B, 0, none⟩ = some (.slice mp st.mp.length mc) := by rw [cell_of_row _ _ _ _ _ (0, 0) hWB]; rfl
  have z1 : W.cell? ⟨B, 1, none⟩ = some (.slice tp st.n tc) := by rw [cell_of_row _ _ _ _ _ (0, 0) hWB]; rfl
  have zf : ∀ k, W.frozen? ⟨B, k, none⟩ = false := fun k => frozen_of_row _ _ _ _ _ hWB
  obtain ⟨x0, x1, x2, x3, xf⟩ := HXW.out.c
  have rf : ∀ k, W.frozen? ⟨g, k, none⟩ = false := HRW.out.fr
  have g0 := HRW.out.get (j := i * 4) (by omega)
  have g1 := HRW.out.get (j := i * 4 + 1) (by omega)
  have g2 := HRW.out.get (j := i * 4 + 2) (by omega)
  have g3 := HRW.out.get (j := i * 4 + 3) (by omega)
  have hgX : g ≠ Xb := by have := HLT.out; omega
  have hgB : g ≠ B := by have := HLT.out; omega
  have hXg := hgX.symm
  have hBg := hgB.symm
  clear hWB y0 y1 y3
  go_upto_region 26 with fail
  generalize hZ : World.setCell _ (⟨B, 1, none⟩ : Addr) _ = Z
  obtain ⟨r1, n1, k1⟩ := HRW.out.put4 (by decide) i s' (.slice p8 s'.fz.length c8)
  have hB1 := (k1.block B (by have := HWB.out; exact (Array.getElem?_eq_some_iff.1 this).1) (by simp; exact hBg)).trans HWB.out
  have hZB : Z.heap[B]? = some (.cells #[.slice mp st.mp.length mc, .slice (some ⟨g, 0, none⟩) st.n c2] 31 (0, 0)) := by rw [← hZ, heap_setCell_same _ B 1 _ _ _ hB1]; rfl
  have hZO : ∀ b, b ≠ B → b ≠ g → b < W.heap.size → Z.heap[b]? = W.heap[b]? := fun b h1 h2 h3 => by rw [← hZ, Below.heap_setCell _ _ _ _ h1]; exact k1.block b h3 (by simpa using h2)
  have hZN : NP W Z := by rw [← hZ]; exact n1.trans (NP.set _ hB1 (by decide))
  have hZK : KX [B, g] W Z := by rw [← hZ]; exact (k1.more (by simp)).trans (KX.set (by simp))
  have hZR : RowF 53 Z g (st.n * 4) (cell4 (updT st.th i s') (updV fv i (.slice p8 s'.fz.length c8))) := by
    refine r1.of ?_
    rw [← hZ]; exact Below.heap_setCell _ _ _ _ hgB
  have HZR := Lib.hid hZR
  have HZN := Lib.hid hZN
  have HBW := Lib.hid (show Below w.heap.size w W from by
    have hbe := HBE.out
    have hlt := HLT.out
    have k := HBT.out.trans (HB2.out.mono HBT.out.size)
    have k2 := k.trans (HBV2.out.mono k.size)
    exact KX.below k2 HKW.out (by intro x hx; simp at hx; rcases hx with rfl | rfl <;> omega))
  have HBZ := Lib.hid (show Below w.heap.size w Z from by
    have hbe := HBE.out
    have hlt := HLT.out
    exact KX.below HBW.out hZK (by intro x hx; simp at hx; rcases hx with rfl | rfl <;> omega))
  have hWs : V2.heap.size ≤ W.heap.size := HKW.out.size
  have hV2s : B + 4 ≤ V2.heap.size := by have := HW2.out; have := HBV2.out.size; omega
  have hB22 := (HBV2.out.block (B + 1 + 1) (by have := HW2.out; omega)).trans HW2.out.2.1
  have hB23 := (HBV2.out.block (B + 1 + 1 + 1) (by have := HW2.out; omega)).trans HW2.out.2.2.1
  have H2 := Lib.hid ((hZO (B + 1 + 1) (by omega) (by have := HLT.out; omega) (by omega)).trans ((HKW0.out (B + 1 + 1) (by have := HLT.out; omega) (by have := HLT.out; omega) (by omega)).trans hB22))
  have H3 := Lib.hid (show A5 Z (B + 1 + 1 + 1) from (hZO (B + 1 + 1 + 1) (by omega) (by have := HLT.out; omega) (by omega)).trans ((HKW0.out (B + 1 + 1 + 1) (by have := HLT.out; omega) (by have := HLT.out; omega) (by omega)).trans hB23))
  have hAZ : A6 Z Ab a' := (hZO Ab (by have := HLT.out; omega) (by have := HLT.out; omega) (by have := HLT.out; omega)).trans HAW.out
  obtain ⟨y0, y1, y2, y3, y4⟩ := hAZ.c
  have HPO0 := Lib.hid ((HP3.out.np HNW.out).np hZN)
  have HPS := Lib.hid (HPW.out.np hZN)
  have HPFZ := Lib.hid (show ∀ k, k < st.n → PO Z (fv k) (st.th k).fz from fun k hk => (((HPF.out k hk).below HBV2.out).np HNW.out).np hZN)
  have x0 : Z.cell? ⟨B, 0, none⟩ = some (.slice mp st.mp.length mc) := by rw [cell_of_row _ _ _ _ _ (0, 0) hZB]; rfl
  have x1 : Z.cell? ⟨B, 1, none⟩ = some (.slice (some ⟨g, 0, none⟩) st.n c2) := by rw [cell_of_row _ _ _ _ _ (0, 0) hZB]; rfl
  have a0 : Z.cell? ⟨B + 1 + 1, 0, none⟩ = some (.slice none 0 0) := by rw [cell_of_row _ _ _ _ _ (0, 0) H2.out]; rfl
  have a1 : Z.cell? ⟨B + 1 + 1, 1, none⟩ = some (.slice none 0 0) := by rw [cell_of_row _ _ _ _ _ (0, 0) H2.out]; rfl
  have f2 : ∀ i, Z.frozen? ⟨B + 1 + 1, i, none⟩ = false := fun i => frozen_of_row _ _ _ _ _ H2.out
  obtain ⟨b0, b1, b2, b3, b4, bf⟩ := H3.out.c
  have hY2 : Ab ≠ B + 1 + 1 := by have := HLT.out; omega
  have hY3 : Ab ≠ B + 1 + 1 + 1 := by have := HLT.out; omega
  have HTZ := Lib.hid (show TR Z (.slice (some ⟨g, 0, none⟩) st.n c2) st.n (updT st.th i s') from .row g st.n c2 _ _ HG.out.1 HG.out.2.1 fun k hk => HZR.out.ses (fun j hj => by
    show PO Z (updV fv i _ j) (updT st.th i s' j).fz
    unfold updV updT
    by_cases e : j = i
    · rw [if_pos e, if_pos e]; exact HPS.out
    · rw [if_neg e, if_neg e]; exact HPFZ.out j hj) k hk)
  clear hZ hB1 hZB hZO hZN hZK hZR r1 n1 k1 x2 x3 xf rf g0 g1 g2 g3 z0 z1 zf hWs hV2s hB22 hB23 hAZ
  go_region
  all_goals
    go_wp2_with fail
    refine bodyPost_ret (v := .tuple #[.agg #[.slice mp st.mp.length mc, .slice (some ⟨g, 0, none⟩) st.n c2], .agg #[.int .i64 a'.kind, .int .i64 a'.key, .int .i64 a'.val, .int .i64 a'.n, .slice none 0 0]]) (by simp [results, Tryd.results8, go_sem, a0, a1, b0, b1, b2, b3, b4, World.cell?_setCell_same, World.cell?_setCell_other]) rfl ?_
    rw [HQ.out]
    have hbe := HBE.out
    have hd : ∀ W : World, Below W.heap.size W W.drew := fun W => (Below.refl _ _).drew
    obtain ⟨k2, n2, o2⟩ := st2 (w := w) (X := []) (T := 31) (by decide) H2.out (by omega) (KX.of_below HBZ.out) (.slice mp st.mp.length mc) (.slice (some ⟨g, 0, none⟩) st.n c2)
    have h3' := (o2 (B + 1 + 1 + 1) (by omega)).trans H3.out
    obtain ⟨k3, n3, o3⟩ := ans5 (w := w) (X := []) h3' (by omega) k2 (.int .i64 a'.kind) (.int .i64 a'.key) (.int .i64 a'.val) (.int .i64 a'.n) (.slice none 0 0)
    have nn := n2.trans n3
    have hfin : Below w.heap.size w _ := ⟨k3.os, k3.tape, k3.output, k3.size, fun k hk => k3.block k hk (by simp)⟩
    have htr := tr_keep2 HTZ.out nn fun b x hb => by
      have e2 : b ≠ B + 1 + 1 := by intro e; subst e; rw [a0] at hb; cases hb
      have e3 : b ≠ B + 1 + 1 + 1 := by intro e; subst e; rw [b0] at hb; cases hb
      exact (o3 b e3).trans (o2 b e2)
    obtain ⟨e1, e2⟩ := HSE.out
    subst e1
    subst e2
    exact ⟨_, _, _, rfl, (HPO0.out.np nn).below (hd _), htr.below (hd _), by first | exact PO.nil _ | (rw [foundA_ps]; exact PO.nil _), hfin.trans ((hd _).mono k3.size)⟩
set_option maxRecDepth 16000 in
set_option maxHeartbeats 4000000 in
theorem rdo_join {w : World} {st : Sm} {mv tv : Value} (hp : PO w mv st.mp) (ht : TR w tv st.n st.th) (ok : OkS st) (i : Nat) (hi0 : i < st.n) (key val hi lim : Int) (hb : badB st.n st.th i ⟨13, key, val, hi, lim⟩ = false) :
    Calls Tryd.prog 8 #[.agg #[mv, tv], .int .i64 i, .agg #[.int .i64 13, .int .i64 key, .int .i64 val, .int .i64 hi, .int .i64 lim]] w (DoP w { st with th := updT st.th i ⟨true, false, [], 0⟩ } ⟨0, 0, 0, 0, []⟩) := by
  refine Calls.veil fun Q HQ => ?_
  have HP := Lib.hid hp
  have HT := Lib.hid ht
  have HOK := Lib.hid ok
  have HBB := Lib.hid hb
  obtain ⟨mp, mc, rfl, _, _⟩ := hp.1.slice
  obtain ⟨tp, tc, rfl, _, _, _⟩ := ht.slice
  clear hp ht ok hb
  go_enter Tryd.func8, Tryd.ntmps8
  go_upto_region 1 with fail
  have h4 := heap4 w (.cells #[.slice mp st.mp.length mc, .slice tp st.n tc] 31) (.cells #[.int .i64 13, .int .i64 key, .int .i64 val, .int .i64 hi, .int .i64 lim] 38) (.cells #[.slice none 0 0, .slice none 0 0] 31) (.cells #[.int .i64 0, .int .i64 0, .int .i64 0, .int .i64 0, .slice none 0 0] 34)
  simp only at h4
  have hBU : Below w.heap.size w ((((w.alloc (.cells #[.slice mp st.mp.length mc, .slice tp st.n tc] 31)).alloc (.cells #[.int .i64 13, .int .i64 key, .int .i64 val, .int .i64 hi, .int .i64 lim] 38)).alloc (.cells #[.slice none 0 0, .slice none 0 0] 31)).alloc (.cells #[.int .i64 0, .int .i64 0, .int .i64 0, .int .i64 0, .slice none 0 0] 34)) := by (repeat (first | exact Below.refl _ _ | assumption | refine below_new ?_ _ | refine Below.drew ?_ | refine below_drewN ?_ _ | refine below_on ?_ (by assumption)))
  generalize hU : World.alloc _ _ = U at h4 hBU
  obtain ⟨B, hB⟩ : ∃ B, B = w.heap.size := ⟨_, rfl⟩
  rw [← hB] at h4 ⊢
  obtain ⟨u0, u1, u2, u3, u4⟩ := h4
  have HBE := Lib.hid hB
  have HBU := Lib.hid hBU
  have z0 : U.cell? ⟨B, 0, none⟩ = some (.slice mp st.mp.length mc) := by rw [cell_of_row _ _ _ _ _ (0, 0) u0]; rfl
  have z1 : U.cell? ⟨B, 1, none⟩ = some (.slice tp st.n tc) := by rw [cell_of_row _ _ _ _ _ (0, 0) u0]; rfl
  have y0 : U.cell? ⟨B + 1, 0, none⟩ = some (.int .i64 13) := by rw [cell_of_row _ _ _ _ _ (0, 0) u1]; rfl
  have y1 : U.cell? ⟨B + 1, 1, none⟩ = some (.int .i64 key) := by rw [cell_of_row _ _ _ _ _ (0, 0) u1]; rfl
  have y2 : U.cell? ⟨B + 1, 2, none⟩ = some (.int .i64 val) := by rw [cell_of_row _ _ _ _ _ (0, 0) u1]; rfl
  have y3 : U.cell? ⟨B + 1, 3, none⟩ = some (.int .i64 hi) := by rw [cell_of_row _ _ _ _ _ (0, 0) u1]; rfl
  have y4 : U.cell? ⟨B + 1, 4, none⟩ = some (.int .i64 lim) := by rw [cell_of_row _ _ _ _ _ (0, 0) u1]; rfl
  have HPU := Lib.hid (HP.out.below HBU.out)
  have HTU := Lib.hid (HT.out.below HBU.out)
  have HU := Lib.hid (And.intro u0 (And.intro u1 (And.intro u2 (And.intro u3 u4))))
  clear hU hBU hB u0 u1 u2 u3 u4
  go_wp2_with fail
  refine (rbad HPU.out.1 HTU.out i ⟨13, key, val, hi, lim⟩).mono ?_; rintro _ w1 ⟨rfl, hb1⟩
  rw [HBB.out]
  have HB1 := Lib.hid hb1
  have HBT := Lib.hid (HBU.out.trans (hb1.mono HBU.out.size))
  have HP1 := Lib.hid (HPU.out.below hb1)
  have HT1 := Lib.hid (HTU.out.below hb1)
  have z0 := Ext.use (Ext.cells z0) hb1; have z1 := Ext.use (Ext.cells z1) hb1
  have y0 := Ext.use (Ext.cells y0) hb1; have y1 := Ext.use (Ext.cells y1) hb1; have y2 := Ext.use (Ext.cells y2) hb1; have y3 := Ext.use (Ext.cells y3) hb1; have y4 := Ext.use (Ext.cells y4) hb1
  have HW := Lib.hid (show w1.heap[B]? = some (.cells #[.slice mp st.mp.length mc, .slice tp st.n tc] 31 (0, 0)) ∧ w1.heap[B + 1 + 1]? = some (.cells #[.slice none 0 0, .slice none 0 0] 31 (0, 0)) ∧ A5 w1 (B + 1 + 1 + 1) ∧ B + 4 ≤ w1.heap.size from by
    obtain ⟨u0, u1, u2, u3, u4⟩ := HU.out
    have := hb1.size
    exact ⟨(hb1.block _ (by omega)).trans u0, (hb1.block _ (by omega)).trans u2, (hb1.block _ (by omega)).trans u3, by omega⟩)
  clear hb1
  have hii : (i : Int) < st.n := by omega
  have hi1 : 0 ≤ (i : Int) := by omega
  go_upto_region 7 with fail
  have z1a := Ext.on z1
  go_wp2_with (at_builtin; refine wpList_append_t uXs infoX rfl (.tmp 35) (.tmp 37) rfl w1 rfl rfl _ st.n st.th rfl HT1.out (by have := HOK.out.n6; omega) ?_)
  intro tv2 w2 fv hown hb2
  obtain ⟨hpf, g, c2, rfl, k1, k2, k3, k4⟩ := hown.pos (by omega)
  have HB2 := Lib.hid hb2
  have HPF := Lib.hid hpf
  have HRow := Lib.hid k4
  have HG := Lib.hid (And.intro k1 (And.intro k2 k3))
  have HP2 := Lib.hid (HP1.out.below hb2)
  have z0 := Ext.use (Ext.cells z0) hb2; have z1 := Ext.use (Ext.cells z1) hb2
  have y0 := Ext.use (Ext.cells y0) hb2; have y1 := Ext.use (Ext.cells y1) hb2; have y3 := Ext.use (Ext.cells y3) hb2
  have HW2 := Lib.hid (show w2.heap[B]? = some (.cells #[.slice mp st.mp.length mc, .slice tp st.n tc] 31 (0, 0)) ∧ w2.heap[B + 1 + 1]? = some (.cells #[.slice none 0 0, .slice none 0 0] 31 (0, 0)) ∧ A5 w2 (B + 1 + 1 + 1) ∧ B + 4 ≤ w2.heap.size from by
    obtain ⟨u0, u2, u3, u4⟩ := HW.out
    have := hb2.size
    exact ⟨(hb2.block _ (by omega)).trans u0, (hb2.block _ (by omega)).trans u2, (hb2.block _ (by omega)).trans u3, by omega⟩)
  have HGB := Lib.hid (show B + 4 ≤ g ∧ g < w2.heap.size from ⟨by have := HW.out; omega, k4.lt⟩)
  obtain ⟨t0, t1, t2, t3, tp9⟩ := k4.ses hpf i hi0
  obtain ⟨p9, c9, e9, _, _⟩ := tp9.1.slice
  have HE9 := Lib.hid e9
  rw [e9] at t2
  have HF9 := Lib.hid (show PO w2 (.slice p9 (st.th i).fz.length c9) (st.th i).fz by rw [← e9]; exact tp9)
  clear hb2 hpf k1 k2 k3 k4 hown tp9 e9 z1a y2 y4
  go_upto_region 9 with fail
  generalize hV : World.alloc w2 _ = V
  obtain ⟨Xb, hXb⟩ : ∃ Xb, Xb = w2.heap.size := ⟨_, rfl⟩
  have hbV : Below w2.heap.size w2 V := by rw [← hV]; (repeat (first | exact Below.refl _ _ | assumption | refine below_new ?_ _ | refine Below.drew ?_ | refine below_drewN ?_ _ | refine below_on ?_ (by assumption)))
  have HXS := Lib.hid (show XS V Xb (st.th i) (.slice p9 (st.th i).fz.length c9) by unfold XS; rw [hXb, ← hV]; exact heap_alloc_new _ _)
  have z0 := Ext.use (Ext.cells z0) hbV; have z1 := Ext.use (Ext.cells z1) hbV
  have y0 := Ext.use (Ext.cells y0) hbV; have y1 := Ext.use (Ext.cells y1) hbV; have y3 := Ext.use (Ext.cells y3) hbV
  have HBV := Lib.hid hbV
  rw [← hXb]
  have HXE := Lib.hid hXb
  have HVS := Lib.hid (show V.heap.size = w2.heap.size + 1 by rw [← hV]; simp)
  clear hV hXb t0 t1 t2 t3
  go_upto_region 10 with fail
  generalize hV2 : World.alloc V _ = V2
  obtain ⟨Ab, hAb⟩ : ∃ Ab, Ab = V.heap.size := ⟨_, rfl⟩
  have hbV2 : Below V.heap.size V V2 := by rw [← hV2]; (repeat (first | exact Below.refl _ _ | assumption | refine below_new ?_ _ | refine Below.drew ?_ | refine below_drewN ?_ _ | refine below_on ?_ (by assumption)))
  have HA6 := Lib.hid (show A6 V2 Ab ⟨0, 0, 0, 0, []⟩ by unfold A6; rw [hAb, ← hV2]; exact heap_alloc_new _ _)
  have z0 := Ext.use (Ext.cells z0) hbV2; have z1 := Ext.use (Ext.cells z1) hbV2
  have y0 := Ext.use (Ext.cells y0) hbV2; have y1 := Ext.use (Ext.cells y1) hbV2; have y3 := Ext.use (Ext.cells y3) hbV2
  have HBV2 := Lib.hid (HBV.out.trans (hbV2.mono HBV.out.size))
  have HXS := Lib.hid (show XS V2 Xb (st.th i) (.slice p9 (st.th i).fz.length c9) from (hbV2.block _ (Array.getElem?_eq_some_iff.1 HXS.out).1).trans HXS.out)
  have HLT := Lib.hid (show g < Xb ∧ Xb < Ab ∧ B + 4 ≤ g ∧ Ab < V2.heap.size from by
    have h1 := HXE.out; have h2 := HGB.out; have h3 := (Array.getElem?_eq_some_iff.1 HXS.out).1; have h4 := (Array.getElem?_eq_some_iff.1 HA6.out).1
    have h5 := HVS.out
    exact ⟨by omega, by rw [hAb, h1]; omega, h2.1, h4⟩)
  rw [← hAb]
  clear hV2 hAb hbV2
  have HFV := Lib.hid (HF9.out.below HBV2.out)
  have HP3 := Lib.hid (HP2.out.below HBV2.out)
  obtain ⟨q0, q1, q2, q3, qf⟩ := HXS.out.c
  go_upto_region 24 with fail
  generalize hW : World.setCell _ _ _ = W
  obtain ⟨s', hs'⟩ : ∃ x, x = (⟨true, false, [], 0⟩ : Se) := ⟨_, rfl⟩
  obtain ⟨a', ha'⟩ : ∃ x, x = (⟨0, 0, 0, 0, []⟩ : An) := ⟨_, rfl⟩
  have HSE := Lib.hid (And.intro hs' ha')
  obtain ⟨p8, c8, h8⟩ : ∃ (p8 : Option Addr) (c8 : Nat), p8 = none ∧ c8 = 0 := ⟨_, _, rfl, rfl⟩
  have hput := HXS.out.put ⟨true, false, [], 0⟩ (.slice none 0 0)
  simp only at hput
  rw [hW] at hput
  have HXW := Lib.hid (show XS W Xb s' (.slice p8 s'.fz.length c8) by rw [hs', h8.1, h8.2]; exact hput.1)
  have HPW := Lib.hid (show PO W (.slice p8 s'.fz.length c8) s'.fz by rw [hs', h8.1, h8.2]; exact PO.nil _)
  have HKW := Lib.hid (show KX [Xb, Ab] V2 W from hput.2.2.more (by simp))
  have HNW := Lib.hid (show NP V2 W from hput.2.1)
  have HAW := Lib.hid (show A6 W Ab a' by rw [ha']; exact (hput.2.2.block Ab HLT.out.2.2.2 (by have := HLT.out; simp; omega)).trans HA6.out)
  clear hW hput hs' ha' h8 q0 q1 q2 q3 qf
  have HKW0 := Lib.hid (show ∀ b, b ≠ Xb → b ≠ Ab → b < V2.heap.size → W.heap[b]? = V2.heap[b]? from fun b h1 h2 h3 => HKW.out.block b h3 (by simp; exact ⟨h1, h2⟩))
  have HRW := Lib.hid ((HRow.out.below HBV2.out).of (HKW0.out g (by have := HLT.out; omega) (by have := HLT.out; omega) (by have := HGB.out; have := HBV2.out.size; omega)))
  have hWB := (HKW0.out B (by have := HLT.out; omega) (by have := HLT.out; omega) (by have := HW2.out; have := HBV2.out.size; omega)).trans ((HBV2.out.block B (by have := HW2.out; omega)).trans HW2.out.1)
  have HWB := Lib.hid hWB
  have z0 : W.cell? ⟨B, 0, none⟩ = some (.slice mp st.mp.length mc) := by rw [cell_of_row _ _ _ _ _ (0, 0) hWB]; rfl
  have z1 : W.cell? ⟨B, 1, none⟩ = some (.slice tp st.n tc) := by rw [cell_of_row _ _ _ _ _ (0, 0) hWB]; rfl
  have zf : ∀ k, W.frozen? ⟨B, k, none⟩ = false := fun k => frozen_of_row _ _ _ _ _ hWB
  obtain ⟨x0, x1, x2, x3, xf⟩ := HXW.out.c
  have rf : ∀ k, W.frozen? ⟨g, k, none⟩ = false := HRW.out.fr
  have g0 := HRW.out.get (j := i * 4) (by omega)
  have g1 := HRW.out.get (j := i * 4 + 1) (by omega)
  have g2 := HRW.out.get (j := i * 4 + 2) (by omega)
  have g3 := HRW.out.get (j := i * 4 + 3) (by omega)
  have hgX : g ≠ Xb := by have := HLT.out; omega
  have hgB : g ≠ B := by have := HLT.out; omega
  have hXg := hgX.symm
  have hBg := hgB.symm
  clear hWB y0 y1 y3
  go_upto_region 26 with fail
  generalize hZ : World.setCell _ (⟨B, 1, none⟩ : Addr) _ = Z
  obtain ⟨r1, n1, k1⟩ := HRW.out.put4 (by decide) i s' (.slice p8 s'.fz.length c8)
  have hB1 := (k1.block B (by have := HWB.out; exact (Array.getElem?_eq_some_iff.1 this).1) (by simp; exact hBg)).trans HWB.out
  have hZB : Z.heap[B]? = some (.cells #[.slice mp st.mp.length mc, .slice (some ⟨g, 0, none⟩) st.n c2] 31 (0, 0)) := by rw [← hZ, heap_setCell_same _ B 1 _ _ _ hB1]; rfl
  have hZO : ∀ b, b ≠ B → b ≠ g → b < W.heap.size → Z.heap[b]? = W.heap[b]? := fun b h1 h2 h3 => by rw [← hZ, Below.heap_setCell _ _ _ _ h1]; exact k1.block b h3 (by simpa using h2)
  have hZN : NP W Z := by rw [← hZ]; exact n1.trans (NP.set _ hB1 (by decide))
  have hZK : KX [B, g] W Z := by rw [← hZ]; exact (k1.more (by simp)).trans (KX.set (by simp))
  have hZR : RowF 53 Z g (st.n * 4) (cell4 (updT st.th i s') (updV fv i (.slice p8 s'.fz.length c8))) := by
    refine r1.of ?_
    rw [← hZ]; exact Below.heap_setCell _ _ _ _ hgB
  have HZR := Lib.hid hZR
  have HZN := Lib.hid hZN
  have HBW := Lib.hid (show Below w.heap.size w W from by
    have hbe := HBE.out
    have hlt := HLT.out
    have k := HBT.out.trans (HB2.out.mono HBT.out.size)
    have k2 := k.trans (HBV2.out.mono k.size)
    exact KX.below k2 HKW.out (by intro x hx; simp at hx; rcases hx with rfl | rfl <;> omega))
  have HBZ := Lib.hid (show Below w.heap.size w Z from by
    have hbe := HBE.out
    have hlt := HLT.out
    exact KX.below HBW.out hZK (by intro x hx; simp at hx; rcases hx with rfl | rfl <;> omega))
  have hWs : V2.heap.size ≤ W.heap.size := HKW.out.size
  have hV2s : B + 4 ≤ V2.heap.size := by have := HW2.out; have := HBV2.out.size; omega
  have hB22 := (HBV2.out.block (B + 1 + 1) (by have := HW2.out; omega)).trans HW2.out.2.1
  have hB23 := (HBV2.out.block (B + 1 + 1 + 1) (by have := HW2.out; omega)).trans HW2.out.2.2.1
  have H2 := Lib.hid ((hZO (B + 1 + 1) (by omega) (by have := HLT.out; omega) (by omega)).trans ((HKW0.out (B + 1 + 1) (by have := HLT.out; omega) (by have := HLT.out; omega) (by omega)).trans hB22))
  have H3 := Lib.hid (show A5 Z (B + 1 + 1 + 1) from (hZO (B + 1 + 1 + 1) (by omega) (by have := HLT.out; omega) (by omega)).trans ((HKW0.out (B + 1 + 1 + 1) (by have := HLT.out; omega) (by have := HLT.out; omega) (by omega)).trans hB23))
  have hAZ : A6 Z Ab a' := (hZO Ab (by have := HLT.out; omega) (by have := HLT.out; omega) (by have := HLT.out; omega)).trans HAW.out
  obtain ⟨y0, y1, y2, y3, y4⟩ := hAZ.c
  have HPO0 := Lib.hid ((HP3.out.np HNW.out).np hZN)
  have HPS := Lib.hid (HPW.out.np hZN)
  have HPFZ := Lib.hid (show ∀ k, k < st.n → PO Z (fv k) (st.th k).fz from fun k hk => (((HPF.out k hk).below HBV2.out).np HNW.out).np hZN)
  have x0 : Z.cell? ⟨B, 0, none⟩ = some (.slice mp st.mp.length mc) := by rw [cell_of_row _ _ _ _ _ (0, 0) hZB]; rfl
  have x1 : Z.cell? ⟨B, 1, none⟩ = some (.slice (some ⟨g, 0, none⟩) st.n c2) := by rw [cell_of_row _ _ _ _ _ (0, 0) hZB]; rfl
  have a0 : Z.cell? ⟨B + 1 + 1, 0, none⟩ = some (.slice none 0 0) := by rw [cell_of_row _ _ _ _ _ (0, 0) H2.out]; rfl
  have a1 : Z.cell? ⟨B + 1 + 1, 1, none⟩ = some (.slice none 0 0) := by rw [cell_of_row _ _ _ _ _ (0, 0) H2.out]; rfl
  have f2 : ∀ i, Z.frozen? ⟨B + 1 + 1, i, none⟩ = false := fun i => frozen_of_row _ _ _ _ _ H2.out
  obtain ⟨b0, b1, b2, b3, b4, bf⟩ := H3.out.c
  have hY2 : Ab ≠ B + 1 + 1 := by have := HLT.out; omega
  have hY3 : Ab ≠ B + 1 + 1 + 1 := by have := HLT.out; omega
  have HTZ := Lib.hid (show TR Z (.slice (some ⟨g, 0, none⟩) st.n c2) st.n (updT st.th i s') from .row g st.n c2 _ _ HG.out.1 HG.out.2.1 fun k hk => HZR.out.ses (fun j hj => by
    show PO Z (updV fv i _ j) (updT st.th i s' j).fz
    unfold updV updT
    by_cases e : j = i
    · rw [if_pos e, if_pos e]; exact HPS.out
    · rw [if_neg e, if_neg e]; exact HPFZ.out j hj) k hk)
  clear hZ hB1 hZB hZO hZN hZK hZR r1 n1 k1 x2 x3 xf rf g0 g1 g2 g3 z0 z1 zf hWs hV2s hB22 hB23 hAZ
  go_region
  all_goals
    go_wp2_with fail
    refine bodyPost_ret (v := .tuple #[.agg #[.slice mp st.mp.length mc, .slice (some ⟨g, 0, none⟩) st.n c2], .agg #[.int .i64 a'.kind, .int .i64 a'.key, .int .i64 a'.val, .int .i64 a'.n, .slice none 0 0]]) (by simp [results, Tryd.results8, go_sem, a0, a1, b0, b1, b2, b3, b4, World.cell?_setCell_same, World.cell?_setCell_other]) rfl ?_
    rw [HQ.out]
    have hbe := HBE.out
    have hd : ∀ W : World, Below W.heap.size W W.drew := fun W => (Below.refl _ _).drew
    obtain ⟨k2, n2, o2⟩ := st2 (w := w) (X := []) (T := 31) (by decide) H2.out (by omega) (KX.of_below HBZ.out) (.slice mp st.mp.length mc) (.slice (some ⟨g, 0, none⟩) st.n c2)
    have h3' := (o2 (B + 1 + 1 + 1) (by omega)).trans H3.out
    obtain ⟨k3, n3, o3⟩ := ans5 (w := w) (X := []) h3' (by omega) k2 (.int .i64 a'.kind) (.int .i64 a'.key) (.int .i64 a'.val) (.int .i64 a'.n) (.slice none 0 0)
    have nn := n2.trans n3
    have hfin : Below w.heap.size w _ := ⟨k3.os, k3.tape, k3.output, k3.size, fun k hk => k3.block k hk (by simp)⟩
    have htr := tr_keep2 HTZ.out nn fun b x hb => by
      have e2 : b ≠ B + 1 + 1 := by intro e; subst e; rw [a0] at hb; cases hb
      have e3 : b ≠ B + 1 + 1 + 1 := by intro e; subst e; rw [b0] at hb; cases hb
      exact (o3 b e3).trans (o2 b e2)
    obtain ⟨e1, e2⟩ := HSE.out
    subst e1
    subst e2
    exact ⟨_, _, _, rfl, (HPO0.out.np nn).below (hd _), htr.below (hd _), by first | exact PO.nil _ | (rw [foundA_ps]; exact PO.nil _), hfin.trans ((hd _).mono k3.size)⟩
set_option maxRecDepth 16000 in
set_option maxHeartbeats 4000000 in
theorem rdo_quit {w : World} {st : Sm} {mv tv : Value} (hp : PO w mv st.mp) (ht : TR w tv st.n st.th) (ok : OkS st) (i : Nat) (hi0 : i < st.n) (key val hi lim : Int) (hb : badB st.n st.th i ⟨14, key, val, hi, lim⟩ = false) :
    Calls Tryd.prog 8 #[.agg #[mv, tv], .int .i64 i, .agg #[.int .i64 14, .int .i64 key, .int .i64 val, .int .i64 hi, .int .i64 lim]] w (DoP w { st with th := updT st.th i ⟨false, false, [], 0⟩ } ⟨0, 0, 0, 0, []⟩) := by
  refine Calls.veil fun Q HQ => ?_
  have HP := Lib.hid hp
  have HT := Lib.hid ht
  have HOK := Lib.hid ok
  have HBB := Lib.hid hb
  obtain ⟨mp, mc, rfl, _, _⟩ := hp.1.slice
  obtain ⟨tp, tc, rfl, _, _, _⟩ := ht.slice
  clear hp ht ok hb
  go_enter Tryd.func8, Tryd.ntmps8
  go_upto_region 1 with fail
  have h4 := heap4 w (.cells #[.slice mp st.mp.length mc, .slice tp st.n tc] 31) (.cells #[.int .i64 14, .int .i64 key, .int .i64 val, .int .i64 hi, .int .i64 lim] 38) (.cells #[.slice none 0 0, .slice none 0 0] 31) (.cells #[.int .i64 0, .int .i64 0, .int .i64 0, .int .i64 0, .slice none 0 0] 34)
  simp only at h4
  have hBU : Below w.heap.size w ((((w.alloc (.cells #[.slice mp st.mp.length mc, .slice tp st.n tc] 31)).alloc (.cells #[.int .i64 14, .int .i64 key, .int .i64 val, .int .i64 hi, .int .i64 lim] 38)).alloc (.cells #[.slice none 0 0, .slice none 0 0] 31)).alloc (.cells #[.int .i64 0, .int .i64 0, .int .i64 0, .int .i64 0, .slice none 0 0] 34)) := by (repeat (first | exact Below.refl _ _ | assumption | refine below_new ?_ _ | refine Below.drew ?_ | refine below_drewN ?_ _ | refine below_on ?_ (by assumption)))
  generalize hU : World.alloc _ _ = U at h4 hBU
  obtain ⟨B, hB⟩ : ∃ B, B = w.heap.size := ⟨_, rfl⟩
  rw [← hB] at h4 ⊢
  obtain ⟨u0, u1, u2, u3, u4⟩ := h4
  have HBE := Lib.hid hB
  have HBU := Lib.hid hBU
  have z0 : U.cell? ⟨B, 0, none⟩ = some (.slice mp st.mp.length mc) := by rw [cell_of_row _ _ _ _ _ (0, 0) u0]; rfl
  have z1 : U.cell? ⟨B, 1, none⟩ = some (.slice tp st.n tc) := by rw [cell_of_row _ _ _ _ _ (0, 0) u0]; rfl
  have y0 : U.cell? ⟨B + 1, 0, none⟩ = some (.int .i64 14) := by rw [cell_of_row _ _ _ _ _ (0, 0) u1]; rfl
  have y1 : U.cell? ⟨B + 1, 1, none⟩ = some (.int .i64 key) := by rw [cell_of_row _ _ _ _ _ (0, 0) u1]; rfl
  have y2 : U.cell? ⟨B + 1, 2, none⟩ = some (.int .i64 val) := by rw [cell_of_row _ _ _ _ _ (0, 0) u1]; rfl
  have y3 : U.cell? ⟨B + 1, 3, none⟩ = some (.int .i64 hi) := by rw [cell_of_row _ _ _ _ _ (0, 0) u1]; rfl
  have y4 : U.cell? ⟨B + 1, 4, none⟩ = some (.int .i64 lim) := by rw [cell_of_row _ _ _ _ _ (0, 0) u1]; rfl
  have HPU := Lib.hid (HP.out.below HBU.out)
  have HTU := Lib.hid (HT.out.below HBU.out)
  have HU := Lib.hid (And.intro u0 (And.intro u1 (And.intro u2 (And.intro u3 u4))))
  clear hU hBU hB u0 u1 u2 u3 u4
  go_wp2_with fail
  refine (rbad HPU.out.1 HTU.out i ⟨14, key, val, hi, lim⟩).mono ?_; rintro _ w1 ⟨rfl, hb1⟩
  rw [HBB.out]
  have HB1 := Lib.hid hb1
  have HBT := Lib.hid (HBU.out.trans (hb1.mono HBU.out.size))
  have HP1 := Lib.hid (HPU.out.below hb1)
  have HT1 := Lib.hid (HTU.out.below hb1)
  have z0 := Ext.use (Ext.cells z0) hb1; have z1 := Ext.use (Ext.cells z1) hb1
  have y0 := Ext.use (Ext.cells y0) hb1; have y1 := Ext.use (Ext.cells y1) hb1; have y2 := Ext.use (Ext.cells y2) hb1; have y3 := Ext.use (Ext.cells y3) hb1; have y4 := Ext.use (Ext.cells y4) hb1
  have HW := Lib.hid (show w1.heap[B]? = some (.cells #[.slice mp st.mp.length mc, .slice tp st.n tc] 31 (0, 0)) ∧ w1.heap[B + 1 + 1]? = some (.cells #[.slice none 0 0, .slice none 0 0] 31 (0, 0)) ∧ A5 w1 (B + 1 + 1 + 1) ∧ B + 4 ≤ w1.heap.size from by
    obtain ⟨u0, u1, u2, u3, u4⟩ := HU.out
    have := hb1.size
    exact ⟨(hb1.block _ (by omega)).trans u0, (hb1.block _ (by omega)).trans u2, (hb1.block _ (by omega)).trans u3, by omega⟩)
  clear hb1
  have hii : (i : Int) < st.n := by omega
  have hi1 : 0 ≤ (i : Int) := by omega
  go_upto_region 7 with fail
  have z1a := Ext.on z1
  go_wp2_with (at_builtin; refine wpList_append_t uXs infoX rfl (.tmp 35) (.tmp 37) rfl w1 rfl rfl _ st.n st.th rfl HT1.out (by have := HOK.out.n6; omega) ?_)
  intro tv2 w2 fv hown hb2
  obtain ⟨hpf, g, c2, rfl, k1, k2, k3, k4⟩ := hown.pos (by omega)
  have HB2 := Lib.hid hb2
  have HPF := Lib.hid hpf
  have HRow := Lib.hid k4
  have HG := Lib.hid (And.intro k1 (And.intro k2 k3))
  have HP2 := Lib.hid (HP1.out.below hb2)
  have z0 := Ext.use (Ext.cells z0) hb2; have z1 := Ext.use (Ext.cells z1) hb2
  have y0 := Ext.use (Ext.cells y0) hb2; have y1 := Ext.use (Ext.cells y1) hb2; have y3 := Ext.use (Ext.cells y3) hb2
  have HW2 := Lib.hid (show w2.heap[B]? = some (.cells #[.slice mp st.mp.length mc, .slice tp st.n tc] 31 (0, 0)) ∧ w2.heap[B + 1 + 1]? = some (.cells #[.slice none 0 0, .slice none 0 0] 31 (0, 0)) ∧ A5 w2 (B + 1 + 1 + 1) ∧ B + 4 ≤ w2.heap.size from by
    obtain ⟨u0, u2, u3, u4⟩ := HW.out
    have := hb2.size
    exact ⟨(hb2.block _ (by omega)).trans u0, (hb2.block _ (by omega)).trans u2, (hb2.block _ (by omega)).trans u3, by omega⟩)
  have HGB := Lib.hid (show B + 4 ≤ g ∧ g < w2.heap.size from ⟨by have := HW.out; omega, k4.lt⟩)
  obtain ⟨t0, t1, t2, t3, tp9⟩ := k4.ses hpf i hi0
  obtain ⟨p9, c9, e9, _, _⟩ := tp9.1.slice
  have HE9 := Lib.hid e9
  rw [e9] at t2
  have HF9 := Lib.hid (show PO w2 (.slice p9 (st.th i).fz.length c9) (st.th i).fz by rw [← e9]; exact tp9)
  clear hb2 hpf k1 k2 k3 k4 hown tp9 e9 z1a y2 y4
  go_upto_region 9 with fail
  generalize hV : World.alloc w2 _ = V
  obtain ⟨Xb, hXb⟩ : ∃ Xb, Xb = w2.heap.size := ⟨_, rfl⟩
  have hbV : Below w2.heap.size w2 V := by rw [← hV]; (repeat (first | exact Below.refl _ _ | assumption | refine below_new ?_ _ | refine Below.drew ?_ | refine below_drewN ?_ _ | refine below_on ?_ (by assumption)))
  have HXS := Lib.hid (show XS V Xb (st.th i) (.slice p9 (st.th i).fz.length c9) by unfold XS; rw [hXb, ← hV]; exact heap_alloc_new _ _)
  have z0 := Ext.use (Ext.cells z0) hbV; have z1 := Ext.use (Ext.cells z1) hbV
  have y0 := Ext.use (Ext.cells y0) hbV; have y1 := Ext.use (Ext.cells y1) hbV; have y3 := Ext.use (Ext.cells y3) hbV
  have HBV := Lib.hid hbV
  rw [← hXb]
  have HXE := Lib.hid hXb
  have HVS := Lib.hid (show V.heap.size = w2.heap.size + 1 by rw [← hV]; simp)
  clear hV hXb t0 t1 t2 t3
  go_upto_region 10 with fail
  generalize hV2 : World.alloc V _ = V2
  obtain ⟨Ab, hAb⟩ : ∃ Ab, Ab = V.heap.size := ⟨_, rfl⟩
  have hbV2 : Below V.heap.size V V2 := by rw [← hV2]; (repeat (first | exact Below.refl _ _ | assumption | refine below_new ?_ _ | refine Below.drew ?_ | refine below_drewN ?_ _ | refine below_on ?_ (by assumption)))
  have HA6 := Lib.hid (show A6 V2 Ab ⟨0, 0, 0, 0, []⟩ by unfold A6; rw [hAb, ← hV2]; exact heap_alloc_new _ _)
  have z0 := Ext.use (Ext.cells z0) hbV2; have z1 := Ext.use (Ext.cells z1) hbV2
  have y0 := Ext.use (Ext.cells y0) hbV2; have y1 := Ext.use (Ext.cells y1) hbV2; have y3 := Ext.use (Ext.cells y3) hbV2
  have HBV2 := Lib.hid (HBV.out.trans (hbV2.mono HBV.out.size))
  have HXS := Lib.hid (show XS V2 Xb (st.th i) (.slice p9 (st.th i).fz.length c9) from (hbV2.block _ (Array.getElem?_eq_some_iff.1 HXS.out).1).trans HXS.out)
  have HLT := Lib.hid (show g < Xb ∧ Xb < Ab ∧ B + 4 ≤ g ∧ Ab < V2.heap.size from by
    have h1 := HXE.out; have h2 := HGB.out; have h3 := (Array.getElem?_eq_some_iff.1 HXS.out).1; have h4 := (Array.getElem?_eq_some_iff.1 HA6.out).1
    have h5 := HVS.out
    exact ⟨by omega, by rw [hAb, h1]; omega, h2.1, h4⟩)
  rw [← hAb]
  clear hV2 hAb hbV2
  have HFV := Lib.hid (HF9.out.below HBV2.out)
  have HP3 := Lib.hid (HP2.out.below HBV2.out)
  obtain ⟨q0, q1, q2, q3, qf⟩ := HXS.out.c
  go_upto_region 24 with fail
  generalize hW : World.setCell _ _ _ = W
  obtain ⟨s', hs'⟩ : ∃ x, x = (⟨false, false, [], 0⟩ : Se) := ⟨_, rfl⟩
  obtain ⟨a', ha'⟩ : ∃ x, x = (⟨0, 0, 0, 0, []⟩ : An) := ⟨_, rfl⟩
  have HSE := Lib.hid (And.intro hs' ha')
  obtain ⟨p8, c8, h8⟩ : ∃ (p8 : Option Addr) (c8 : Nat), p8 = none ∧ c8 = 0 := ⟨_, _, rfl, rfl⟩
  have hput := HXS.out.put ⟨false, false, [], 0⟩ (.slice none 0 0)
  simp only at hput
  rw [hW] at hput
  have HXW := Lib.hid (show XS W Xb s' (.slice p8 s'.fz.length c8) by rw [hs', h8.1, h8.2]; exact hput.1)
  have HPW := Lib.hid (show PO W (.slice p8 s'.fz.length c8) s'.fz by rw [hs', h8.1, h8.2]; exact PO.nil _)
  have HKW := Lib.hid (show KX [Xb, Ab] V2 W from hput.2.2.more (by simp))
  have HNW := Lib.hid (show NP V2 W from hput.2.1)
  have HAW := Lib.hid (show A6 W Ab a' by rw [ha']; exact (hput.2.2.block Ab HLT.out.2.2.2 (by have := HLT.out; simp; omega)).trans HA6.out)
  clear hW hput hs' ha' h8 q0 q1 q2 q3 qf
  have HKW0 := Lib.hid (show ∀ b, b ≠ Xb → b ≠ Ab → b < V2.heap.size → W.heap[b]? = V2.heap[b]? from fun b h1 h2 h3 => HKW.out.block b h3 (by simp; exact ⟨h1, h2⟩))
  have HRW := Lib.hid ((HRow.out.below HBV2.out).of (HKW0.out g (by have := HLT.out; omega) (by have := HLT.out; omega) (by have := HGB.out; have := HBV2.out.size; omega)))
  have hWB := (HKW0.out B (by have := HLT.out; omega) (by have := HLT.out; omega) (by have := HW2.out; have := HBV2.out.size; omega)).trans ((HBV2.out.block B (by have := HW2.out; omega)).trans HW2.out.1)
  have HWB := Lib.hid hWB
  have z0 : W.cell? ⟨B, 0, none⟩ = some (.slice mp st.mp.length mc) := by rw [cell_of_row _ _ _ _ _ (0, 0) hWB]; rfl
  have z1 : W.cell? ⟨B, 1, none⟩ = some (.slice tp st.n tc) := by rw [cell_of_row _ _ _ _ _ (0, 0) hWB]; rfl
  have zf : ∀ k, W.frozen? ⟨B, k, none⟩ = false := fun k => frozen_of_row _ _ _ _ _ hWB
  obtain ⟨x0, x1, x2, x3, xf⟩ := HXW.out.c
  have rf : ∀ k, W.frozen? ⟨g, k, none⟩ = false := HRW.out.fr
  have g0 := HRW.out.get (j := i * 4) (by omega)
  have g1 := HRW.out.get (j := i * 4 + 1) (by omega)
  have g2 := HRW.out.get (j := i * 4 + 2) (by omega)
  have g3 := HRW.out.get (j := i * 4 + 3) (by omega)
  have hgX : g ≠ Xb := by have := HLT.out; omega
  have hgB : g ≠ B := by have := HLT.out; omega
  have hXg := hgX.symm
  have hBg := hgB.symm
  clear hWB y0 y1 y3
  go_upto_region 26 with fail
  generalize hZ : World.setCell _ (⟨B, 1, none⟩ : Addr) _ = Z
  obtain ⟨r1, n1, k1⟩ := HRW.out.put4 (by decide) i s' (.slice p8 s'.fz.length c8)
  have hB1 := (k1.block B (by have := HWB.out; exact (Array.getElem?_eq_some_iff.1 this).1) (by simp; exact hBg)).trans HWB.out
  have hZB : Z.heap[B]? = some (.cells #[.slice mp st.mp.length mc, .slice (some ⟨g, 0, none⟩) st.n c2] 31 (0, 0)) := by rw [← hZ, heap_setCell_same _ B 1 _ _ _ hB1]; rfl
  have hZO : ∀ b, b ≠ B → b ≠ g → b < W.heap.size → Z.heap[b]? = W.heap[b]? := fun b h1 h2 h3 => by rw [← hZ, Below.heap_setCell _ _ _ _ h1]; exact k1.block b h3 (by simpa using h2)
  have hZN : NP W Z := by rw [← hZ]; exact n1.trans (NP.set _ hB1 (by decide))
  have hZK : KX [B, g] W Z := by rw [← hZ]; exact (k1.more (by simp)).trans (KX.set (by simp))
  have hZR : RowF 53 Z g (st.n * 4) (cell4 (updT st.th i s') (updV fv i (.slice p8 s'.fz.length c8))) := by
    refine r1.of ?_
    rw [← hZ]; exact Below.heap_setCell _ _ _ _ hgB
  have HZR := Lib.hid hZR
  have HZN := Lib.hid hZN
  have HBW := Lib.hid (show Below w.heap.size w W from by
    have hbe := HBE.out
    have hlt := HLT.out
    have k := HBT.out.trans (HB2.out.mono HBT.out.size)
    have k2 := k.trans (HBV2.out.mono k.size)
    exact KX.below k2 HKW.out (by intro x hx; simp at hx; rcases hx with rfl | rfl <;> omega))
  have HBZ := Lib.hid (show Below w.heap.size w Z from by
    have hbe := HBE.out
    have hlt := HLT.out
    exact KX.below HBW.out hZK (by intro x hx; simp at hx; rcases hx with rfl | rfl <;> omega))
  have hWs : V2.heap.size ≤ W.heap.size := HKW.out.size
  have hV2s : B + 4 ≤ V2.heap.size := by have := HW2.out; have := HBV2.out.size; omega
  have hB22 := (HBV2.out.block (B + 1 + 1) (by have := HW2.out; omega)).trans HW2.out.2.1
  have hB23 := (HBV2.out.block (B + 1 + 1 + 1) (by have := HW2.out; omega)).trans HW2.out.2.2.1
  have H2 := Lib.hid ((hZO (B + 1 + 1) (by omega) (by have := HLT.out; omega) (by omega)).trans ((HKW0.out (B + 1 + 1) (by have := HLT.out; omega) (by have := HLT.out; omega) (by omega)).trans hB22))
  have H3 := Lib.hid (show A5 Z (B + 1 + 1 + 1) from (hZO (B + 1 + 1 + 1) (by omega) (by have := HLT.out; omega) (by omega)).trans ((HKW0.out (B + 1 + 1 + 1) (by have := HLT.out; omega) (by have := HLT.out; omega) (by omega)).trans hB23))
  have hAZ : A6 Z Ab a' := (hZO Ab (by have := HLT.out; omega) (by have := HLT.out; omega) (by have := HLT.out; omega)).trans HAW.out
  obtain ⟨y0, y1, y2, y3, y4⟩ := hAZ.c
  have HPO0 := Lib.hid ((HP3.out.np HNW.out).np hZN)
  have HPS := Lib.hid (HPW.out.np hZN)
  have HPFZ := Lib.hid (show ∀ k, k < st.n → PO Z (fv k) (st.th k).fz from fun k hk => (((HPF.out k hk).below HBV2.out).np HNW.out).np hZN)
  have x0 : Z.cell? ⟨B, 0, none⟩ = some (.slice mp st.mp.length mc) := by rw [cell_of_row _ _ _ _ _ (0, 0) hZB]; rfl
  have x1 : Z.cell? ⟨B, 1, none⟩ = some (.slice (some ⟨g, 0, none⟩) st.n c2) := by rw [cell_of_row _ _ _ _ _ (0, 0) hZB]; rfl
  have a0 : Z.cell? ⟨B + 1 + 1, 0, none⟩ = some (.slice none 0 0) := by rw [cell_of_row _ _ _ _ _ (0, 0) H2.out]; rfl
  have a1 : Z.cell? ⟨B + 1 + 1, 1, none⟩ = some (.slice none 0 0) := by rw [cell_of_row _ _ _ _ _ (0, 0) H2.out]; rfl
  have f2 : ∀ i, Z.frozen? ⟨B + 1 + 1, i, none⟩ = false := fun i => frozen_of_row _ _ _ _ _ H2.out
  obtain ⟨b0, b1, b2, b3, b4, bf⟩ := H3.out.c
  have hY2 : Ab ≠ B + 1 + 1 := by have := HLT.out; omega
  have hY3 : Ab ≠ B + 1 + 1 + 1 := by have := HLT.out; omega
  have HTZ := Lib.hid (show TR Z (.slice (some ⟨g, 0, none⟩) st.n c2) st.n (updT st.th i s') from .row g st.n c2 _ _ HG.out.1 HG.out.2.1 fun k hk => HZR.out.ses (fun j hj => by
    show PO Z (updV fv i _ j) (updT st.th i s' j).fz
    unfold updV updT
    by_cases e : j = i
    · rw [if_pos e, if_pos e]; exact HPS.out
    · rw [if_neg e, if_neg e]; exact HPFZ.out j hj) k hk)
  clear hZ hB1 hZB hZO hZN hZK hZR r1 n1 k1 x2 x3 xf rf g0 g1 g2 g3 z0 z1 zf hWs hV2s hB22 hB23 hAZ
  go_region
  all_goals
    go_wp2_with fail
    refine bodyPost_ret (v := .tuple #[.agg #[.slice mp st.mp.length mc, .slice (some ⟨g, 0, none⟩) st.n c2], .agg #[.int .i64 a'.kind, .int .i64 a'.key, .int .i64 a'.val, .int .i64 a'.n, .slice none 0 0]]) (by simp [results, Tryd.results8, go_sem, a0, a1, b0, b1, b2, b3, b4, World.cell?_setCell_same, World.cell?_setCell_other]) rfl ?_
    rw [HQ.out]
    have hbe := HBE.out
    have hd : ∀ W : World, Below W.heap.size W W.drew := fun W => (Below.refl _ _).drew
    obtain ⟨k2, n2, o2⟩ := st2 (w := w) (X := []) (T := 31) (by decide) H2.out (by omega) (KX.of_below HBZ.out) (.slice mp st.mp.length mc) (.slice (some ⟨g, 0, none⟩) st.n c2)
    have h3' := (o2 (B + 1 + 1 + 1) (by omega)).trans H3.out
    obtain ⟨k3, n3, o3⟩ := ans5 (w := w) (X := []) h3' (by omega) k2 (.int .i64 a'.kind) (.int .i64 a'.key) (.int .i64 a'.val) (.int .i64 a'.n) (.slice none 0 0)
    have nn := n2.trans n3
    have hfin : Below w.heap.size w _ := ⟨k3.os, k3.tape, k3.output, k3.size, fun k hk => k3.block k hk (by simp)⟩
    have htr := tr_keep2 HTZ.out nn fun b x hb => by
      have e2 : b ≠ B + 1 + 1 := by intro e; subst e; rw [a0] at hb; cases hb
      have e3 : b ≠ B + 1 + 1 + 1 := by intro e; subst e; rw [b0] at hb; cases hb
      exact (o3 b e3).trans (o2 b e2)
    obtain ⟨e1, e2⟩ := HSE.out
    subst e1
    subst e2
    exact ⟨_, _, _, rfl, (HPO0.out.np nn).below (hd _), htr.below (hd _), by first | exact PO.nil _ | (rw [foundA_ps]; exact PO.nil _), hfin.trans ((hd _).mono k3.size)⟩
set_option maxRecDepth 16000 in
set_option maxHeartbeats 4000000 in
theorem rdo_open {w : World} {st : Sm} {mv tv : Value} (hp : PO w mv st.mp) (ht : TR w tv st.n st.th) (ok : OkS st) (i : Nat) (hi0 : i < st.n) (key val hi lim : Int) (hb : badB st.n st.th i ⟨9, key, val, hi, lim⟩ = false) :
    Calls Tryd.prog 8 #[.agg #[mv, tv], .int .i64 i, .agg #[.int .i64 9, .int .i64 key, .int .i64 val, .int .i64 hi, .int .i64 lim]] w (DoP w { st with th := updT st.th i ⟨true, true, cutL st.mp key hi 9223372036854775807, 0⟩ } ⟨0, 0, 0, 0, []⟩) := by
  refine Calls.veil fun Q HQ => ?_
  have HP := Lib.hid hp
  have HT := Lib.hid ht
  have HOK := Lib.hid ok
  have HBB := Lib.hid hb
  obtain ⟨mp, mc, rfl, _, _⟩ := hp.1.slice
  obtain ⟨tp, tc, rfl, _, _, _⟩ := ht.slice
  clear hp ht ok hb
  go_enter Tryd.func8, Tryd.ntmps8
  go_upto_region 1 with fail
  have h4 := heap4 w (.cells #[.slice mp st.mp.length mc, .slice tp st.n tc] 31) (.cells #[.int .i64 9, .int .i64 key, .int .i64 val, .int .i64 hi, .int .i64 lim] 38) (.cells #[.slice none 0 0, .slice none 0 0] 31) (.cells #[.int .i64 0, .int .i64 0, .int .i64 0, .int .i64 0, .slice none 0 0] 34)
  simp only at h4
  have hBU : Below w.heap.size w ((((w.alloc (.cells #[.slice mp st.mp.length mc, .slice tp st.n tc] 31)).alloc (.cells #[.int .i64 9, .int .i64 key, .int .i64 val, .int .i64 hi, .int .i64 lim] 38)).alloc (.cells #[.slice none 0 0, .slice none 0 0] 31)).alloc (.cells #[.int .i64 0, .int .i64 0, .int .i64 0, .int .i64 0, .slice none 0 0] 34)) := by (repeat (first | exact Below.refl _ _ | assumption | refine below_new ?_ _ | refine Below.drew ?_ | refine below_drewN ?_ _ | refine below_on ?_ (by assumption)))
  generalize hU : World.alloc _ _ = U at h4 hBU
  obtain ⟨B, hB⟩ : ∃ B, B = w.heap.size := ⟨_, rfl⟩
  rw [← hB] at h4 ⊢
  obtain ⟨u0, u1, u2, u3, u4⟩ := h4
  have HBE := Lib.hid hB
  have HBU := Lib.hid hBU
  have z0 : U.cell? ⟨B, 0, none⟩ = some (.slice mp st.mp.length mc) := by rw [cell_of_row _ _ _ _ _ (0, 0) u0]; rfl
  have z1 : U.cell? ⟨B, 1, none⟩ = some (.slice tp st.n tc) := by rw [cell_of_row _ _ _ _ _ (0, 0) u0]; rfl
  have y0 : U.cell? ⟨B + 1, 0, none⟩ = some (.int .i64 9) := by rw [cell_of_row _ _ _ _ _ (0, 0) u1]; rfl
  have y1 : U.cell? ⟨B + 1, 1, none⟩ = some (.int .i64 key) := by rw [cell_of_row _ _ _ _ _ (0, 0) u1]; rfl
  have y2 : U.cell? ⟨B + 1, 2, none⟩ = some (.int .i64 val) := by rw [cell_of_row _ _ _ _ _ (0, 0) u1]; rfl
  have y3 : U.cell? ⟨B + 1, 3, none⟩ = some (.int .i64 hi) := by rw [cell_of_row _ _ _ _ _ (0, 0) u1]; rfl
  have y4 : U.cell? ⟨B + 1, 4, none⟩ = some (.int .i64 lim) := by rw [cell_of_row _ _ _ _ _ (0, 0) u1]; rfl
  have HPU := Lib.hid (HP.out.below HBU.out)
  have HTU := Lib.hid (HT.out.below HBU.out)
  have HU := Lib.hid (And.intro u0 (And.intro u1 (And.intro u2 (And.intro u3 u4))))
  clear hU hBU hB u0 u1 u2 u3 u4
  go_wp2_with fail
  refine (rbad HPU.out.1 HTU.out i ⟨9, key, val, hi, lim⟩).mono ?_; rintro _ w1 ⟨rfl, hb1⟩
  rw [HBB.out]
  have HB1 := Lib.hid hb1
  have HBT := Lib.hid (HBU.out.trans (hb1.mono HBU.out.size))
  have HP1 := Lib.hid (HPU.out.below hb1)
  have HT1 := Lib.hid (HTU.out.below hb1)
  have z0 := Ext.use (Ext.cells z0) hb1; have z1 := Ext.use (Ext.cells z1) hb1
  have y0 := Ext.use (Ext.cells y0) hb1; have y1 := Ext.use (Ext.cells y1) hb1; have y2 := Ext.use (Ext.cells y2) hb1; have y3 := Ext.use (Ext.cells y3) hb1; have y4 := Ext.use (Ext.cells y4) hb1
  have HW := Lib.hid (show w1.heap[B]? = some (.cells #[.slice mp st.mp.length mc, .slice tp st.n tc] 31 (0, 0)) ∧ w1.heap[B + 1 + 1]? = some (.cells #[.slice none 0 0, .slice none 0 0] 31 (0, 0)) ∧ A5 w1 (B + 1 + 1 + 1) ∧ B + 4 ≤ w1.heap.size from by
    obtain ⟨u0, u1, u2, u3, u4⟩ := HU.out
    have := hb1.size
    exact ⟨(hb1.block _ (by omega)).trans u0, (hb1.block _ (by omega)).trans u2, (hb1.block _ (by omega)).trans u3, by omega⟩)
  clear hb1
  have hii : (i : Int) < st.n := by omega
  have hi1 : 0 ≤ (i : Int) := by omega
  go_upto_region 7 with fail
  have z1a := Ext.on z1
  go_wp2_with (at_builtin; refine wpList_append_t uXs infoX rfl (.tmp 35) (.tmp 37) rfl w1 rfl rfl _ st.n st.th rfl HT1.out (by have := HOK.out.n6; omega) ?_)
  intro tv2 w2 fv hown hb2
  obtain ⟨hpf, g, c2, rfl, k1, k2, k3, k4⟩ := hown.pos (by omega)
  have HB2 := Lib.hid hb2
  have HPF := Lib.hid hpf
  have HRow := Lib.hid k4
  have HG := Lib.hid (And.intro k1 (And.intro k2 k3))
  have HP2 := Lib.hid (HP1.out.below hb2)
  have z0 := Ext.use (Ext.cells z0) hb2; have z1 := Ext.use (Ext.cells z1) hb2
  have y0 := Ext.use (Ext.cells y0) hb2; have y1 := Ext.use (Ext.cells y1) hb2; have y3 := Ext.use (Ext.cells y3) hb2
  have HW2 := Lib.hid (show w2.heap[B]? = some (.cells #[.slice mp st.mp.length mc, .slice tp st.n tc] 31 (0, 0)) ∧ w2.heap[B + 1 + 1]? = some (.cells #[.slice none 0 0, .slice none 0 0] 31 (0, 0)) ∧ A5 w2 (B + 1 + 1 + 1) ∧ B + 4 ≤ w2.heap.size from by
    obtain ⟨u0, u2, u3, u4⟩ := HW.out
    have := hb2.size
    exact ⟨(hb2.block _ (by omega)).trans u0, (hb2.block _ (by omega)).trans u2, (hb2.block _ (by omega)).trans u3, by omega⟩)
  have HGB := Lib.hid (show B + 4 ≤ g ∧ g < w2.heap.size from ⟨by have := HW.out; omega, k4.lt⟩)
  obtain ⟨t0, t1, t2, t3, tp9⟩ := k4.ses hpf i hi0
  obtain ⟨p9, c9, e9, _, _⟩ := tp9.1.slice
  have HE9 := Lib.hid e9
  rw [e9] at t2
  have HF9 := Lib.hid (show PO w2 (.slice p9 (st.th i).fz.length c9) (st.th i).fz by rw [← e9]; exact tp9)
  clear hb2 hpf k1 k2 k3 k4 hown tp9 e9 z1a y2 y4
  go_upto_region 9 with fail
  generalize hV : World.alloc w2 _ = V
  obtain ⟨Xb, hXb⟩ : ∃ Xb, Xb = w2.heap.size := ⟨_, rfl⟩
  have hbV : Below w2.heap.size w2 V := by rw [← hV]; (repeat (first | exact Below.refl _ _ | assumption | refine below_new ?_ _ | refine Below.drew ?_ | refine below_drewN ?_ _ | refine below_on ?_ (by assumption)))
  have HXS := Lib.hid (show XS V Xb (st.th i) (.slice p9 (st.th i).fz.length c9) by unfold XS; rw [hXb, ← hV]; exact heap_alloc_new _ _)
  have z0 := Ext.use (Ext.cells z0) hbV; have z1 := Ext.use (Ext.cells z1) hbV
  have y0 := Ext.use (Ext.cells y0) hbV; have y1 := Ext.use (Ext.cells y1) hbV; have y3 := Ext.use (Ext.cells y3) hbV
  have HBV := Lib.hid hbV
  rw [← hXb]
  have HXE := Lib.hid hXb
  have HVS := Lib.hid (show V.heap.size = w2.heap.size + 1 by rw [← hV]; simp)
  clear hV hXb t0 t1 t2 t3
  go_upto_region 10 with fail
  generalize hV2 : World.alloc V _ = V2
  obtain ⟨Ab, hAb⟩ : ∃ Ab, Ab = V.heap.size := ⟨_, rfl⟩
  have hbV2 : Below V.heap.size V V2 := by rw [← hV2]; (repeat (first | exact Below.refl _ _ | assumption | refine below_new ?_ _ | refine Below.drew ?_ | refine below_drewN ?_ _ | refine below_on ?_ (by assumption)))
  have HA6 := Lib.hid (show A6 V2 Ab ⟨0, 0, 0, 0, []⟩ by unfold A6; rw [hAb, ← hV2]; exact heap_alloc_new _ _)
  have z0 := Ext.use (Ext.cells z0) hbV2; have z1 := Ext.use (Ext.cells z1) hbV2
  have y0 := Ext.use (Ext.cells y0) hbV2; have y1 := Ext.use (Ext.cells y1) hbV2; have y3 := Ext.use (Ext.cells y3) hbV2
  have HBV2 := Lib.hid (HBV.out.trans (hbV2.mono HBV.out.size))
  have HXS := Lib.hid (show XS V2 Xb (st.th i) (.slice p9 (st.th i).fz.length c9) from (hbV2.block _ (Array.getElem?_eq_some_iff.1 HXS.out).1).trans HXS.out)
  have HLT := Lib.hid (show g < Xb ∧ Xb < Ab ∧ B + 4 ≤ g ∧ Ab < V2.heap.size from by
    have h1 := HXE.out; have h2 := HGB.out; have h3 := (Array.getElem?_eq_some_iff.1 HXS.out).1; have h4 := (Array.getElem?_eq_some_iff.1 HA6.out).1
    have h5 := HVS.out
    exact ⟨by omega, by rw [hAb, h1]; omega, h2.1, h4⟩)
  rw [← hAb]
  clear hV2 hAb hbV2
  have HFV := Lib.hid (HF9.out.below HBV2.out)
  have HP3 := Lib.hid (HP2.out.below HBV2.out)
  go_wp2_with fail
  refine (rcutO st.mp _ key hi (st.mp.length : Nat) V2 HP3.out.1 (by have := HOK.out.ml; omega)).mono ?_; rintro _ V3 ⟨v3, rfl, hp3, hb3⟩
  rw [cut_count st.mp key hi (by have := HOK.out.ml; omega)] at hp3
  have HB3 := Lib.hid hb3
  have HXS3 := Lib.hid (show XS V3 Xb (st.th i) (.slice p9 (st.th i).fz.length c9) from (hb3.block _ (Array.getElem?_eq_some_iff.1 HXS.out).1).trans HXS.out)
  obtain ⟨q0, q1, q2, q3, qf⟩ := HXS3.out.c
  obtain ⟨p8, c8, e8, _, _⟩ := hp3.1.slice
  subst e8
  have HP33 := Lib.hid hp3
  clear hb3 hp3
  go_upto_region 24 with fail
  generalize hW : World.setCell _ _ _ = W
  obtain ⟨s', hs'⟩ : ∃ x, x = (⟨true, true, cutL st.mp key hi 9223372036854775807, 0⟩ : Se) := ⟨_, rfl⟩
  obtain ⟨a', ha'⟩ : ∃ x, x = (⟨0, 0, 0, 0, []⟩ : An) := ⟨_, rfl⟩
  have hput := HXS3.out.put ⟨true, true, cutL st.mp key hi 9223372036854775807, 0⟩ (.slice p8 (cutL st.mp key hi 9223372036854775807).length c8)
  simp only at hput
  rw [hW] at hput
  have HSE := Lib.hid (And.intro hs' ha')
  have HXW := Lib.hid (show XS W Xb s' (.slice p8 s'.fz.length c8) by rw [hs']; exact hput.1)
  have HPW := Lib.hid (show PO W (.slice p8 s'.fz.length c8) s'.fz by rw [hs']; exact HP33.out.np hput.2.1)
  have HKW := Lib.hid (show KX [Xb, Ab] V2 W from (KX.of_below HB3.out).trans (hput.2.2.more (by simp)))
  have HNW := Lib.hid (show NP V2 W from (NP.below HB3.out).trans hput.2.1)
  have HAW := Lib.hid (show A6 W Ab a' by rw [ha']; exact (hput.2.2.block Ab (by have := HLT.out; have := HB3.out.size; omega) (by have := HLT.out; simp; omega)).trans ((HB3.out.block Ab HLT.out.2.2.2).trans HA6.out))
  have y0 := Ext.use (Ext.cells y0) HB3.out
  clear hW hput hs' ha' q0 q1 q2 q3 qf
  have HKW0 := Lib.hid (show ∀ b, b ≠ Xb → b ≠ Ab → b < V2.heap.size → W.heap[b]? = V2.heap[b]? from fun b h1 h2 h3 => HKW.out.block b h3 (by simp; exact ⟨h1, h2⟩))
  have HRW := Lib.hid ((HRow.out.below HBV2.out).of (HKW0.out g (by have := HLT.out; omega) (by have := HLT.out; omega) (by have := HGB.out; have := HBV2.out.size; omega)))
  have hWB := (HKW0.out B (by have := HLT.out; omega) (by have := HLT.out; omega) (by have := HW2.out; have := HBV2.out.size; omega)).trans ((HBV2.out.block B (by have := HW2.out; omega)).trans HW2.out.1)
  have HWB := Lib.hid hWB
  have z0 : W.cell? ⟨B, 0, none⟩ = some (.slice mp st.mp.length mc) := by rw [cell_of_row _ _ _ _ _ (0, 0) hWB]; rfl
  have z1 : W.cell? ⟨B, 1, none⟩ = some (.slice tp st.n tc) := by rw [cell_of_row _ _ _ _ _ (0, 0) hWB]; rfl
  have zf : ∀ k, W.frozen? ⟨B, k, none⟩ = false := fun k => frozen_of_row _ _ _ _ _ hWB
  obtain ⟨x0, x1, x2, x3, xf⟩ := HXW.out.c
  have rf : ∀ k, W.frozen? ⟨g, k, none⟩ = false := HRW.out.fr
  have g0 := HRW.out.get (j := i * 4) (by omega)
  have g1 := HRW.out.get (j := i * 4 + 1) (by omega)
  have g2 := HRW.out.get (j := i * 4 + 2) (by omega)
  have g3 := HRW.out.get (j := i * 4 + 3) (by omega)
  have hgX : g ≠ Xb := by have := HLT.out; omega
  have hgB : g ≠ B := by have := HLT.out; omega
  have hXg := hgX.symm
  have hBg := hgB.symm
  clear hWB y0 y1 y3
  go_upto_region 26 with fail
  generalize hZ : World.setCell _ (⟨B, 1, none⟩ : Addr) _ = Z
  obtain ⟨r1, n1, k1⟩ := HRW.out.put4 (by decide) i s' (.slice p8 s'.fz.length c8)
  have hB1 := (k1.block B (by have := HWB.out; exact (Array.getElem?_eq_some_iff.1 this).1) (by simp; exact hBg)).trans HWB.out
  have hZB : Z.heap[B]? = some (.cells #[.slice mp st.mp.length mc, .slice (some ⟨g, 0, none⟩) st.n c2] 31 (0, 0)) := by rw [← hZ, heap_setCell_same _ B 1 _ _ _ hB1]; rfl
  have hZO : ∀ b, b ≠ B → b ≠ g → b < W.heap.size → Z.heap[b]? = W.heap[b]? := fun b h1 h2 h3 => by rw [← hZ, Below.heap_setCell _ _ _ _ h1]; exact k1.block b h3 (by simpa using h2)
  have hZN : NP W Z := by rw [← hZ]; exact n1.trans (NP.set _ hB1 (by decide))
  have hZK : KX [B, g] W Z := by rw [← hZ]; exact (k1.more (by simp)).trans (KX.set (by simp))
  have hZR : RowF 53 Z g (st.n * 4) (cell4 (updT st.th i s') (updV fv i (.slice p8 s'.fz.length c8))) := by
    refine r1.of ?_
    rw [← hZ]; exact Below.heap_setCell _ _ _ _ hgB
  have HZR := Lib.hid hZR
  have HZN := Lib.hid hZN
  have HBW := Lib.hid (show Below w.heap.size w W from by
    have hbe := HBE.out
    have hlt := HLT.out
    have k := HBT.out.trans (HB2.out.mono HBT.out.size)
    have k2 := k.trans (HBV2.out.mono k.size)
    exact KX.below k2 HKW.out (by intro x hx; simp at hx; rcases hx with rfl | rfl <;> omega))
  have HBZ := Lib.hid (show Below w.heap.size w Z from by
    have hbe := HBE.out
    have hlt := HLT.out
    exact KX.below HBW.out hZK (by intro x hx; simp at hx; rcases hx with rfl | rfl <;> omega))
  have hWs : V2.heap.size ≤ W.heap.size := HKW.out.size
  have hV2s : B + 4 ≤ V2.heap.size := by have := HW2.out; have := HBV2.out.size; omega
  have hB22 := (HBV2.out.block (B + 1 + 1) (by have := HW2.out; omega)).trans HW2.out.2.1
  have hB23 := (HBV2.out.block (B + 1 + 1 + 1) (by have := HW2.out; omega)).trans HW2.out.2.2.1
  have H2 := Lib.hid ((hZO (B + 1 + 1) (by omega) (by have := HLT.out; omega) (by omega)).trans ((HKW0.out (B + 1 + 1) (by have := HLT.out; omega) (by have := HLT.out; omega) (by omega)).trans hB22))
  have H3 := Lib.hid (show A5 Z (B + 1 + 1 + 1) from (hZO (B + 1 + 1 + 1) (by omega) (by have := HLT.out; omega) (by omega)).trans ((HKW0.out (B + 1 + 1 + 1) (by have := HLT.out; omega) (by have := HLT.out; omega) (by omega)).trans hB23))
  have hAZ : A6 Z Ab a' := (hZO Ab (by have := HLT.out; omega) (by have := HLT.out; omega) (by have := HLT.out; omega)).trans HAW.out
  obtain ⟨y0, y1, y2, y3, y4⟩ := hAZ.c
  have HPO0 := Lib.hid ((HP3.out.np HNW.out).np hZN)
  have HPS := Lib.hid (HPW.out.np hZN)
  have HPFZ := Lib.hid (show ∀ k, k < st.n → PO Z (fv k) (st.th k).fz from fun k hk => (((HPF.out k hk).below HBV2.out).np HNW.out).np hZN)
  have x0 : Z.cell? ⟨B, 0, none⟩ = some (.slice mp st.mp.length mc) := by rw [cell_of_row _ _ _ _ _ (0, 0) hZB]; rfl
  have x1 : Z.cell? ⟨B, 1, none⟩ = some (.slice (some ⟨g, 0, none⟩) st.n c2) := by rw [cell_of_row _ _ _ _ _ (0, 0) hZB]; rfl
  have a0 : Z.cell? ⟨B + 1 + 1, 0, none⟩ = some (.slice none 0 0) := by rw [cell_of_row _ _ _ _ _ (0, 0) H2.out]; rfl
  have a1 : Z.cell? ⟨B + 1 + 1, 1, none⟩ = some (.slice none 0 0) := by rw [cell_of_row _ _ _ _ _ (0, 0) H2.out]; rfl
  have f2 : ∀ i, Z.frozen? ⟨B + 1 + 1, i, none⟩ = false := fun i => frozen_of_row _ _ _ _ _ H2.out
  obtain ⟨b0, b1, b2, b3, b4, bf⟩ := H3.out.c
  have hY2 : Ab ≠ B + 1 + 1 := by have := HLT.out; omega
  have hY3 : Ab ≠ B + 1 + 1 + 1 := by have := HLT.out; omega
  have HTZ := Lib.hid (show TR Z (.slice (some ⟨g, 0, none⟩) st.n c2) st.n (updT st.th i s') from .row g st.n c2 _ _ HG.out.1 HG.out.2.1 fun k hk => HZR.out.ses (fun j hj => by
    show PO Z (updV fv i _ j) (updT st.th i s' j).fz
    unfold updV updT
    by_cases e : j = i
    · rw [if_pos e, if_pos e]; exact HPS.out
    · rw [if_neg e, if_neg e]; exact HPFZ.out j hj) k hk)
  clear hZ hB1 hZB hZO hZN hZK hZR r1 n1 k1 x2 x3 xf rf g0 g1 g2 g3 z0 z1 zf hWs hV2s hB22 hB23 hAZ
  go_region
  all_goals
    go_wp2_with fail
    refine bodyPost_ret (v := .tuple #[.agg #[.slice mp st.mp.length mc, .slice (some ⟨g, 0, none⟩) st.n c2], .agg #[.int .i64 a'.kind, .int .i64 a'.key, .int .i64 a'.val, .int .i64 a'.n, .slice none 0 0]]) (by simp [results, Tryd.results8, go_sem, a0, a1, b0, b1, b2, b3, b4, World.cell?_setCell_same, World.cell?_setCell_other]) rfl ?_
    rw [HQ.out]
    have hbe := HBE.out
    have hd : ∀ W : World, Below W.heap.size W W.drew := fun W => (Below.refl _ _).drew
    obtain ⟨k2, n2, o2⟩ := st2 (w := w) (X := []) (T := 31) (by decide) H2.out (by omega) (KX.of_below HBZ.out) (.slice mp st.mp.length mc) (.slice (some ⟨g, 0, none⟩) st.n c2)
    have h3' := (o2 (B + 1 + 1 + 1) (by omega)).trans H3.out
    obtain ⟨k3, n3, o3⟩ := ans5 (w := w) (X := []) h3' (by omega) k2 (.int .i64 a'.kind) (.int .i64 a'.key) (.int .i64 a'.val) (.int .i64 a'.n) (.slice none 0 0)
    have nn := n2.trans n3
    have hfin : Below w.heap.size w _ := ⟨k3.os, k3.tape, k3.output, k3.size, fun k hk => k3.block k hk (by simp)⟩
    have htr := tr_keep2 HTZ.out nn fun b x hb => by
      have e2 : b ≠ B + 1 + 1 := by intro e; subst e; rw [a0] at hb; cases hb
      have e3 : b ≠ B + 1 + 1 + 1 := by intro e; subst e; rw [b0] at hb; cases hb
      exact (o3 b e3).trans (o2 b e2)
    obtain ⟨e1, e2⟩ := HSE.out
    subst e1
    subst e2
    exact ⟨_, _, _, rfl, (HPO0.out.np nn).below (hd _), htr.below (hd _), by first | exact PO.nil _ | (rw [foundA_ps]; exact PO.nil _), hfin.trans ((hd _).mono k3.size)⟩
set_option maxRecDepth 16000 in
set_option maxHeartbeats 4000000 in
theorem rdo_seek {w : World} {st : Sm} {mv tv : Value} (hp : PO w mv st.mp) (ht : TR w tv st.n st.th) (ok : OkS st) (i : Nat) (hi0 : i < st.n) (key val hi lim : Int) (hb : badB st.n st.th i ⟨11, key, val, hi, lim⟩ = false) :
    Calls Tryd.prog 8 #[.agg #[mv, tv], .int .i64 i, .agg #[.int .i64 11, .int .i64 key, .int .i64 val, .int .i64 hi, .int .i64 lim]] w (DoP w { st with th := updT st.th i { st.th i with pt := (lbN (st.th i).fz key : Nat) } } ⟨0, 0, 0, 0, []⟩) := by
  refine Calls.veil fun Q HQ => ?_
  have HP := Lib.hid hp
  have HT := Lib.hid ht
  have HOK := Lib.hid ok
  have HBB := Lib.hid hb
  obtain ⟨mp, mc, rfl, _, _⟩ := hp.1.slice
  obtain ⟨tp, tc, rfl, _, _, _⟩ := ht.slice
  clear hp ht ok hb
  go_enter Tryd.func8, Tryd.ntmps8
  go_upto_region 1 with fail
  have h4 := heap4 w (.cells #[.slice mp st.mp.length mc, .slice tp st.n tc] 31) (.cells #[.int .i64 11, .int .i64 key, .int .i64 val, .int .i64 hi, .int .i64 lim] 38) (.cells #[.slice none 0 0, .slice none 0 0] 31) (.cells #[.int .i64 0, .int .i64 0, .int .i64 0, .int .i64 0, .slice none 0 0] 34)
  simp only at h4
  have hBU : Below w.heap.size w ((((w.alloc (.cells #[.slice mp st.mp.length mc, .slice tp st.n tc] 31)).alloc (.cells #[.int .i64 11, .int .i64 key, .int .i64 val, .int .i64 hi, .int .i64 lim] 38)).alloc (.cells #[.slice none 0 0, .slice none 0 0] 31)).alloc (.cells #[.int .i64 0, .int .i64 0, .int .i64 0, .int .i64 0, .slice none 0 0] 34)) := by (repeat (first | exact Below.refl _ _ | assumption | refine below_new ?_ _ | refine Below.drew ?_ | refine below_drewN ?_ _ | refine below_on ?_ (by assumption)))
  generalize hU : World.alloc _ _ = U at h4 hBU
  obtain ⟨B, hB⟩ : ∃ B, B = w.heap.size := ⟨_, rfl⟩
  rw [← hB] at h4 ⊢
  obtain ⟨u0, u1, u2, u3, u4⟩ := h4
  have HBE := Lib.hid hB
  have HBU := Lib.hid hBU
  have z0 : U.cell? ⟨B, 0, none⟩ = some (.slice mp st.mp.length mc) := by rw [cell_of_row _ _ _ _ _ (0, 0) u0]; rfl
  have z1 : U.cell? ⟨B, 1, none⟩ = some (.slice tp st.n tc) := by rw [cell_of_row _ _ _ _ _ (0, 0) u0]; rfl
  have y0 : U.cell? ⟨B + 1, 0, none⟩ = some (.int .i64 11) := by rw [cell_of_row _ _ _ _ _ (0, 0) u1]; rfl
  have y1 : U.cell? ⟨B + 1, 1, none⟩ = some (.int .i64 key) := by rw [cell_of_row _ _ _ _ _ (0, 0) u1]; rfl
  have y2 : U.cell? ⟨B + 1, 2, none⟩ = some (.int .i64 val) := by rw [cell_of_row _ _ _ _ _ (0, 0) u1]; rfl
  have y3 : U.cell? ⟨B + 1, 3, none⟩ = some (.int .i64 hi) := by rw [cell_of_row _ _ _ _ _ (0, 0) u1]; rfl
  have y4 : U.cell? ⟨B + 1, 4, none⟩ = some (.int .i64 lim) := by rw [cell_of_row _ _ _ _ _ (0, 0) u1]; rfl
  have HPU := Lib.hid (HP.out.below HBU.out)
  have HTU := Lib.hid (HT.out.below HBU.out)
  have HU := Lib.hid (And.intro u0 (And.intro u1 (And.intro u2 (And.intro u3 u4))))
  clear hU hBU hB u0 u1 u2 u3 u4
  go_wp2_with fail
  refine (rbad HPU.out.1 HTU.out i ⟨11, key, val, hi, lim⟩).mono ?_; rintro _ w1 ⟨rfl, hb1⟩
  rw [HBB.out]
  have HB1 := Lib.hid hb1
  have HBT := Lib.hid (HBU.out.trans (hb1.mono HBU.out.size))
  have HP1 := Lib.hid (HPU.out.below hb1)
  have HT1 := Lib.hid (HTU.out.below hb1)
  have z0 := Ext.use (Ext.cells z0) hb1; have z1 := Ext.use (Ext.cells z1) hb1
  have y0 := Ext.use (Ext.cells y0) hb1; have y1 := Ext.use (Ext.cells y1) hb1; have y2 := Ext.use (Ext.cells y2) hb1; have y3 := Ext.use (Ext.cells y3) hb1; have y4 := Ext.use (Ext.cells y4) hb1
  have HW := Lib.hid (show w1.heap[B]? = some (.cells #[.slice mp st.mp.length mc, .slice tp st.n tc] 31 (0, 0)) ∧ w1.heap[B + 1 + 1]? = some (.cells #[.slice none 0 0, .slice none 0 0] 31 (0, 0)) ∧ A5 w1 (B + 1 + 1 + 1) ∧ B + 4 ≤ w1.heap.size from by
    obtain ⟨u0, u1, u2, u3, u4⟩ := HU.out
    have := hb1.size
    exact ⟨(hb1.block _ (by omega)).trans u0, (hb1.block _ (by omega)).trans u2, (hb1.block _ (by omega)).trans u3, by omega⟩)
  clear hb1
  have hii : (i : Int) < st.n := by omega
  have hi1 : 0 ≤ (i : Int) := by omega
  go_upto_region 7 with fail
  have z1a := Ext.on z1
  go_wp2_with (at_builtin; refine wpList_append_t uXs infoX rfl (.tmp 35) (.tmp 37) rfl w1 rfl rfl _ st.n st.th rfl HT1.out (by have := HOK.out.n6; omega) ?_)
  intro tv2 w2 fv hown hb2
  obtain ⟨hpf, g, c2, rfl, k1, k2, k3, k4⟩ := hown.pos (by omega)
  have HB2 := Lib.hid hb2
  have HPF := Lib.hid hpf
  have HRow := Lib.hid k4
  have HG := Lib.hid (And.intro k1 (And.intro k2 k3))
  have HP2 := Lib.hid (HP1.out.below hb2)
  have z0 := Ext.use (Ext.cells z0) hb2; have z1 := Ext.use (Ext.cells z1) hb2
  have y0 := Ext.use (Ext.cells y0) hb2; have y1 := Ext.use (Ext.cells y1) hb2; have y3 := Ext.use (Ext.cells y3) hb2
  have HW2 := Lib.hid (show w2.heap[B]? = some (.cells #[.slice mp st.mp.length mc, .slice tp st.n tc] 31 (0, 0)) ∧ w2.heap[B + 1 + 1]? = some (.cells #[.slice none 0 0, .slice none 0 0] 31 (0, 0)) ∧ A5 w2 (B + 1 + 1 + 1) ∧ B + 4 ≤ w2.heap.size from by
    obtain ⟨u0, u2, u3, u4⟩ := HW.out
    have := hb2.size
    exact ⟨(hb2.block _ (by omega)).trans u0, (hb2.block _ (by omega)).trans u2, (hb2.block _ (by omega)).trans u3, by omega⟩)
  have HGB := Lib.hid (show B + 4 ≤ g ∧ g < w2.heap.size from ⟨by have := HW.out; omega, k4.lt⟩)
  obtain ⟨t0, t1, t2, t3, tp9⟩ := k4.ses hpf i hi0
  obtain ⟨p9, c9, e9, _, _⟩ := tp9.1.slice
  have HE9 := Lib.hid e9
  rw [e9] at t2
  have HF9 := Lib.hid (show PO w2 (.slice p9 (st.th i).fz.length c9) (st.th i).fz by rw [← e9]; exact tp9)
  clear hb2 hpf k1 k2 k3 k4 hown tp9 e9 z1a y2 y4
  go_upto_region 9 with fail
  generalize hV : World.alloc w2 _ = V
  obtain ⟨Xb, hXb⟩ : ∃ Xb, Xb = w2.heap.size := ⟨_, rfl⟩
  have hbV : Below w2.heap.size w2 V := by rw [← hV]; (repeat (first | exact Below.refl _ _ | assumption | refine below_new ?_ _ | refine Below.drew ?_ | refine below_drewN ?_ _ | refine below_on ?_ (by assumption)))
  have HXS := Lib.hid (show XS V Xb (st.th i) (.slice p9 (st.th i).fz.length c9) by unfold XS; rw [hXb, ← hV]; exact heap_alloc_new _ _)
  have z0 := Ext.use (Ext.cells z0) hbV; have z1 := Ext.use (Ext.cells z1) hbV
  have y0 := Ext.use (Ext.cells y0) hbV; have y1 := Ext.use (Ext.cells y1) hbV; have y3 := Ext.use (Ext.cells y3) hbV
  have HBV := Lib.hid hbV
  rw [← hXb]
  have HXE := Lib.hid hXb
  have HVS := Lib.hid (show V.heap.size = w2.heap.size + 1 by rw [← hV]; simp)
  clear hV hXb t0 t1 t2 t3
  go_upto_region 10 with fail
  generalize hV2 : World.alloc V _ = V2
  obtain ⟨Ab, hAb⟩ : ∃ Ab, Ab = V.heap.size := ⟨_, rfl⟩
  have hbV2 : Below V.heap.size V V2 := by rw [← hV2]; (repeat (first | exact Below.refl _ _ | assumption | refine below_new ?_ _ | refine Below.drew ?_ | refine below_drewN ?_ _ | refine below_on ?_ (by assumption)))
  have HA6 := Lib.hid (show A6 V2 Ab ⟨0, 0, 0, 0, []⟩ by unfold A6; rw [hAb, ← hV2]; exact heap_alloc_new _ _)
  have z0 := Ext.use (Ext.cells z0) hbV2; have z1 := Ext.use (Ext.cells z1) hbV2
  have y0 := Ext.use (Ext.cells y0) hbV2; have y1 := Ext.use (Ext.cells y1) hbV2; have y3 := Ext.use (Ext.cells y3) hbV2
  have HBV2 := Lib.hid (HBV.out.trans (hbV2.mono HBV.out.size))
  have HXS := Lib.hid (show XS V2 Xb (st.th i) (.slice p9 (st.th i).fz.length c9) from (hbV2.block _ (Array.getElem?_eq_some_iff.1 HXS.out).1).trans HXS.out)
  have HLT := Lib.hid (show g < Xb ∧ Xb < Ab ∧ B + 4 ≤ g ∧ Ab < V2.heap.size from by
    have h1 := HXE.out; have h2 := HGB.out; have h3 := (Array.getElem?_eq_some_iff.1 HXS.out).1; have h4 := (Array.getElem?_eq_some_iff.1 HA6.out).1
    have h5 := HVS.out
    exact ⟨by omega, by rw [hAb, h1]; omega, h2.1, h4⟩)
  rw [← hAb]
  clear hV2 hAb hbV2
  have HFV := Lib.hid (HF9.out.below HBV2.out)
  have HP3 := Lib.hid (HP2.out.below HBV2.out)
  obtain ⟨q0, q1, q2, q3, qf⟩ := HXS.out.c
  go_wp2_with fail
  refine (rat (st.th i).fz _ key V2 HFV.out.1 (by have := HOK.out.fl i; omega)).mono ?_; rintro _ V3 ⟨rfl, hb3⟩
  have HB3 := Lib.hid hb3
  have HXS3 := Lib.hid (show XS V3 Xb (st.th i) (.slice p9 (st.th i).fz.length c9) from (hb3.block _ (Array.getElem?_eq_some_iff.1 HXS.out).1).trans HXS.out)
  obtain ⟨q0, q1, q2, q3, qf⟩ := HXS3.out.c
  obtain ⟨r, hrr⟩ : ∃ r : Nat, r = lbN (st.th i).fz key := ⟨_, rfl⟩
  rw [← hrr] at HQ ⊢
  generalize hereB (st.th i).fz key = hb
  clear hb3 hrr
  go_upto_region 24 with fail
  generalize hW : World.setCell _ _ _ = W
  obtain ⟨s', hs'⟩ : ∃ x, x = ({ st.th i with pt := (r : Nat) } : Se) := ⟨_, rfl⟩
  obtain ⟨a', ha'⟩ : ∃ x, x = (⟨0, 0, 0, 0, []⟩ : An) := ⟨_, rfl⟩
  have hput := HXS3.out.putPt (r : Nat)
  rw [hW] at hput
  obtain ⟨p8, c8, e8⟩ : ∃ p8 c8, Value.slice p9 (st.th i).fz.length c9 = .slice p8 s'.fz.length c8 := ⟨p9, c9, by rw [hs']⟩
  have HF3 := HFV.out.below HB3.out
  have HSE := Lib.hid (And.intro hs' ha')
  have HXW := Lib.hid (show XS W Xb s' (.slice p8 s'.fz.length c8) by rw [← e8, hs']; exact hput.1)
  have HPW := Lib.hid (show PO W (.slice p8 s'.fz.length c8) s'.fz by rw [← e8, hs']; exact HF3.np hput.2.1)
  have HKW := Lib.hid (show KX [Xb, Ab] V2 W from (KX.of_below HB3.out).trans (hput.2.2.more (by simp)))
  have HNW := Lib.hid (show NP V2 W from (NP.below HB3.out).trans hput.2.1)
  have HAW := Lib.hid (show A6 W Ab a' by rw [ha']; exact (hput.2.2.block Ab (by have := HLT.out; have := HB3.out.size; omega) (by have := HLT.out; simp; omega)).trans ((HB3.out.block Ab HLT.out.2.2.2).trans HA6.out))
  clear hW hput hs' ha' e8 HF3 q0 q1 q2 q3 qf
  have HKW0 := Lib.hid (show ∀ b, b ≠ Xb → b ≠ Ab → b < V2.heap.size → W.heap[b]? = V2.heap[b]? from fun b h1 h2 h3 => HKW.out.block b h3 (by simp; exact ⟨h1, h2⟩))
  have HRW := Lib.hid ((HRow.out.below HBV2.out).of (HKW0.out g (by have := HLT.out; omega) (by have := HLT.out; omega) (by have := HGB.out; have := HBV2.out.size; omega)))
  have hWB := (HKW0.out B (by have := HLT.out; omega) (by have := HLT.out; omega) (by have := HW2.out; have := HBV2.out.size; omega)).trans ((HBV2.out.block B (by have := HW2.out; omega)).trans HW2.out.1)
  have HWB := Lib.hid hWB
  have z0 : W.cell? ⟨B, 0, none⟩ = some (.slice mp st.mp.length mc) := by rw [cell_of_row _ _ _ _ _ (0, 0) hWB]; rfl
  have z1 : W.cell? ⟨B, 1, none⟩ = some (.slice tp st.n tc) := by rw [cell_of_row _ _ _ _ _ (0, 0) hWB]; rfl
  have zf : ∀ k, W.frozen? ⟨B, k, none⟩ = false := fun k => frozen_of_row _ _ _ _ _ hWB
  obtain ⟨x0, x1, x2, x3, xf⟩ := HXW.out.c
  have rf : ∀ k, W.frozen? ⟨g, k, none⟩ = false := HRW.out.fr
  have g0 := HRW.out.get (j := i * 4) (by omega)
  have g1 := HRW.out.get (j := i * 4 + 1) (by omega)
  have g2 := HRW.out.get (j := i * 4 + 2) (by omega)
  have g3 := HRW.out.get (j := i * 4 + 3) (by omega)
  have hgX : g ≠ Xb := by have := HLT.out; omega
  have hgB : g ≠ B := by have := HLT.out; omega
  have hXg := hgX.symm
  have hBg := hgB.symm
  clear hWB y0 y1 y3
  go_upto_region 26 with fail
  generalize hZ : World.setCell _ (⟨B, 1, none⟩ : Addr) _ = Z
  obtain ⟨r1, n1, k1⟩ := HRW.out.put4 (by decide) i s' (.slice p8 s'.fz.length c8)
  have hB1 := (k1.block B (by have := HWB.out; exact (Array.getElem?_eq_some_iff.1 this).1) (by simp; exact hBg)).trans HWB.out
  have hZB : Z.heap[B]? = some (.cells #[.slice mp st.mp.length mc, .slice (some ⟨g, 0, none⟩) st.n c2] 31 (0, 0)) := by rw [← hZ, heap_setCell_same _ B 1 _ _ _ hB1]; rfl
  have hZO : ∀ b, b ≠ B → b ≠ g → b < W.heap.size → Z.heap[b]? = W.heap[b]? := fun b h1 h2 h3 => by rw [← hZ, Below.heap_setCell _ _ _ _ h1]; exact k1.block b h3 (by simpa using h2)
  have hZN : NP W Z := by rw [← hZ]; exact n1.trans (NP.set _ hB1 (by decide))
  have hZK : KX [B, g] W Z := by rw [← hZ]; exact (k1.more (by simp)).trans (KX.set (by simp))
  have hZR : RowF 53 Z g (st.n * 4) (cell4 (updT st.th i s') (updV fv i (.slice p8 s'.fz.length c8))) := by
    refine r1.of ?_
    rw [← hZ]; exact Below.heap_setCell _ _ _ _ hgB
  have HZR := Lib.hid hZR
  have HZN := Lib.hid hZN
  have HBW := Lib.hid (show Below w.heap.size w W from by
    have hbe := HBE.out
    have hlt := HLT.out
    have k := HBT.out.trans (HB2.out.mono HBT.out.size)
    have k2 := k.trans (HBV2.out.mono k.size)
    exact KX.below k2 HKW.out (by intro x hx; simp at hx; rcases hx with rfl | rfl <;> omega))
  have HBZ := Lib.hid (show Below w.heap.size w Z from by
    have hbe := HBE.out
    have hlt := HLT.out
    exact KX.below HBW.out hZK (by intro x hx; simp at hx; rcases hx with rfl | rfl <;> omega))
  have hWs : V2.heap.size ≤ W.heap.size := HKW.out.size
  have hV2s : B + 4 ≤ V2.heap.size := by have := HW2.out; have := HBV2.out.size; omega
  have hB22 := (HBV2.out.block (B + 1 + 1) (by have := HW2.out; omega)).trans HW2.out.2.1
  have hB23 := (HBV2.out.block (B + 1 + 1 + 1) (by have := HW2.out; omega)).trans HW2.out.2.2.1
  have H2 := Lib.hid ((hZO (B + 1 + 1) (by omega) (by have := HLT.out; omega) (by omega)).trans ((HKW0.out (B + 1 + 1) (by have := HLT.out; omega) (by have := HLT.out; omega) (by omega)).trans hB22))
  have H3 := Lib.hid (show A5 Z (B + 1 + 1 + 1) from (hZO (B + 1 + 1 + 1) (by omega) (by have := HLT.out; omega) (by omega)).trans ((HKW0.out (B + 1 + 1 + 1) (by have := HLT.out; omega) (by have := HLT.out; omega) (by omega)).trans hB23))
  have hAZ : A6 Z Ab a' := (hZO Ab (by have := HLT.out; omega) (by have := HLT.out; omega) (by have := HLT.out; omega)).trans HAW.out
  obtain ⟨y0, y1, y2, y3, y4⟩ := hAZ.c
  have HPO0 := Lib.hid ((HP3.out.np HNW.out).np hZN)
  have HPS := Lib.hid (HPW.out.np hZN)
  have HPFZ := Lib.hid (show ∀ k, k < st.n → PO Z (fv k) (st.th k).fz from fun k hk => (((HPF.out k hk).below HBV2.out).np HNW.out).np hZN)
  have x0 : Z.cell? ⟨B, 0, none⟩ = some (.slice mp st.mp.length mc) := by rw [cell_of_row _ _ _ _ _ (0, 0) hZB]; rfl
  have x1 : Z.cell? ⟨B, 1, none⟩ = some (.slice (some ⟨g, 0, none⟩) st.n c2) := by rw [cell_of_row _ _ _ _ _ (0, 0) hZB]; rfl
  have a0 : Z.cell? ⟨B + 1 + 1, 0, none⟩ = some (.slice none 0 0) := by rw [cell_of_row _ _ _ _ _ (0, 0) H2.out]; rfl
  have a1 : Z.cell? ⟨B + 1 + 1, 1, none⟩ = some (.slice none 0 0) := by rw [cell_of_row _ _ _ _ _ (0, 0) H2.out]; rfl
  have f2 : ∀ i, Z.frozen? ⟨B + 1 + 1, i, none⟩ = false := fun i => frozen_of_row _ _ _ _ _ H2.out
  obtain ⟨b0, b1, b2, b3, b4, bf⟩ := H3.out.c
  have hY2 : Ab ≠ B + 1 + 1 := by have := HLT.out; omega
  have hY3 : Ab ≠ B + 1 + 1 + 1 := by have := HLT.out; omega
  have HTZ := Lib.hid (show TR Z (.slice (some ⟨g, 0, none⟩) st.n c2) st.n (updT st.th i s') from .row g st.n c2 _ _ HG.out.1 HG.out.2.1 fun k hk => HZR.out.ses (fun j hj => by
    show PO Z (updV fv i _ j) (updT st.th i s' j).fz
    unfold updV updT
    by_cases e : j = i
    · rw [if_pos e, if_pos e]; exact HPS.out
    · rw [if_neg e, if_neg e]; exact HPFZ.out j hj) k hk)
  clear hZ hB1 hZB hZO hZN hZK hZR r1 n1 k1 x2 x3 xf rf g0 g1 g2 g3 z0 z1 zf hWs hV2s hB22 hB23 hAZ
  go_region
  all_goals
    go_wp2_with fail
    refine bodyPost_ret (v := .tuple #[.agg #[.slice mp st.mp.length mc, .slice (some ⟨g, 0, none⟩) st.n c2], .agg #[.int .i64 a'.kind, .int .i64 a'.key, .int .i64 a'.val, .int .i64 a'.n, .slice none 0 0]]) (by simp [results, Tryd.results8, go_sem, a0, a1, b0, b1, b2, b3, b4, World.cell?_setCell_same, World.cell?_setCell_other]) rfl ?_
    rw [HQ.out]
    have hbe := HBE.out
    have hd : ∀ W : World, Below W.heap.size W W.drew := fun W => (Below.refl _ _).drew
    obtain ⟨k2, n2, o2⟩ := st2 (w := w) (X := []) (T := 31) (by decide) H2.out (by omega) (KX.of_below HBZ.out) (.slice mp st.mp.length mc) (.slice (some ⟨g, 0, none⟩) st.n c2)
    have h3' := (o2 (B + 1 + 1 + 1) (by omega)).trans H3.out
    obtain ⟨k3, n3, o3⟩ := ans5 (w := w) (X := []) h3' (by omega) k2 (.int .i64 a'.kind) (.int .i64 a'.key) (.int .i64 a'.val) (.int .i64 a'.n) (.slice none 0 0)
    have nn := n2.trans n3
    have hfin : Below w.heap.size w _ := ⟨k3.os, k3.tape, k3.output, k3.size, fun k hk => k3.block k hk (by simp)⟩
    have htr := tr_keep2 HTZ.out nn fun b x hb => by
      have e2 : b ≠ B + 1 + 1 := by intro e; subst e; rw [a0] at hb; cases hb
      have e3 : b ≠ B + 1 + 1 + 1 := by intro e; subst e; rw [b0] at hb; cases hb
      exact (o3 b e3).trans (o2 b e2)
    obtain ⟨e1, e2⟩ := HSE.out
    subst e1
    subst e2
    exact ⟨_, _, _, rfl, (HPO0.out.np nn).below (hd _), htr.below (hd _), by first | exact PO.nil _ | (rw [foundA_ps]; exact PO.nil _), hfin.trans ((hd _).mono k3.size)⟩
end Go.Proofs.YtkgfhomoipbjoaaDoor
