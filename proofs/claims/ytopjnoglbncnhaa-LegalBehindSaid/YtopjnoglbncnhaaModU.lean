/- Layer 10: the walk of ModelDoes. -/
import Derived.Test.YtopjnoglbncnhaaModV
import Derived.Deep.RegionHeld3
import Derived.Test.YtopjnoglbncnhaaFrame
namespace Go.Proofs.Ytopjnoglbncnhaa
open Go.RowKit
set_option linter.unusedVariables false
set_option linter.unusedSimpArgs false
def stSh : List Fr.Sh := [.int .i64, .int .i64, .int .i64, .int .i64, .int .i64, .int .i64, .int .i64, .int .i64, .int .i64, .int .i64, .slice [.int .i64, .int .i64]]
theorem wf64g {n : Int} (h : (Lit.int .i64 n).wf = true) : -9223372036854775808 ≤ n ∧ n < 9223372036854775808 := by
  simp [Lit.wf, IntKind.min, IntKind.max, IntKind.signed, IntKind.bits] at h; omega
theorem wfi64 {n : Int} (h : (Lit.int .i64 n).wf = true) : -9223372036854775808 ≤ n ∧ n ≤ 9223372036854775807 := by
  have := wf64g h; omega
/-- A step's thread and call. -/
def StC (w : World) (g o : Nat) (t : Int) (c : Ca) : Prop :=
  w.cell? ⟨g, o, none⟩ = some (.int .i64 t) ∧ w.cell? ⟨g, o + 1, none⟩ = some (.int .i64 c.op) ∧ w.cell? ⟨g, o + 2, none⟩ = some (.int .i64 c.key) ∧ w.cell? ⟨g, o + 3, none⟩ = some (.int .i64 c.val) ∧ w.cell? ⟨g, o + 4, none⟩ = some (.int .i64 c.hi) ∧ w.cell? ⟨g, o + 5, none⟩ = some (.int .i64 c.lim) ∧ -9223372036854775808 ≤ c.key ∧ c.key ≤ 9223372036854775807
theorem StC.below {w w' : World} {g o : Nat} {t : Int} {c : Ca} (h : StC w g o t c) (k : Below w.heap.size w w') : StC w' g o t c :=
  ⟨Ext.use (Ext.cells h.1) k, Ext.use (Ext.cells h.2.1) k, Ext.use (Ext.cells h.2.2.1) k, Ext.use (Ext.cells h.2.2.2.1) k, Ext.use (Ext.cells h.2.2.2.2.1) k, Ext.use (Ext.cells h.2.2.2.2.2.1) k, h.2.2.2.2.2.2⟩
theorem st_cells {w : World} {cs : List Value} (h : Fr.Sh.oks w stSh cs) : ∃ (t : Int) (c : Ca) (k2 a b n : Int) (v : Value), cs = [.int .i64 t, .int .i64 c.op, .int .i64 c.key, .int .i64 c.val, .int .i64 c.hi, .int .i64 c.lim, .int .i64 k2, .int .i64 a, .int .i64 b, .int .i64 n, v] ∧ -9223372036854775808 ≤ c.key ∧ c.key ≤ 9223372036854775807 := by
  obtain ⟨_, _, rfl, k0, h⟩ := Fr.get_cons h
  obtain ⟨_, _, rfl, k1, h⟩ := Fr.get_cons h
  obtain ⟨_, _, rfl, k2, h⟩ := Fr.get_cons h
  obtain ⟨_, _, rfl, k3, h⟩ := Fr.get_cons h
  obtain ⟨_, _, rfl, k4, h⟩ := Fr.get_cons h
  obtain ⟨_, _, rfl, k5, h⟩ := Fr.get_cons h
  obtain ⟨_, _, rfl, k6, h⟩ := Fr.get_cons h
  obtain ⟨_, _, rfl, k7, h⟩ := Fr.get_cons h
  obtain ⟨_, _, rfl, k8, h⟩ := Fr.get_cons h
  obtain ⟨_, _, rfl, k9, h⟩ := Fr.get_cons h
  obtain ⟨v, _, rfl, _, h⟩ := Fr.get_cons h
  obtain rfl := Fr.get_nil h
  obtain ⟨t, rfl, _⟩ := Fr.get_int k0
  obtain ⟨c1, rfl, _⟩ := Fr.get_int k1
  obtain ⟨c2, rfl, w2⟩ := Fr.get_int k2
  obtain ⟨c3, rfl, _⟩ := Fr.get_int k3
  obtain ⟨c4, rfl, _⟩ := Fr.get_int k4
  obtain ⟨c5, rfl, _⟩ := Fr.get_int k5
  obtain ⟨c6, rfl, _⟩ := Fr.get_int k6
  obtain ⟨c7, rfl, _⟩ := Fr.get_int k7
  obtain ⟨c8, rfl, _⟩ := Fr.get_int k8
  obtain ⟨c9, rfl, _⟩ := Fr.get_int k9
  exact ⟨t, ⟨c1, c2, c3, c4, c5⟩, c6, c7, c8, c9, v, rfl, wfi64 w2⟩
theorem steps_open {w : World} {v : Value} (h : Fr.ok1 w (.slice stSh) v) : ∃ ao len cap, v = .slice ao len cap ∧ len ≤ cap ∧ cap ≤ 9223372036854775807 ∧ ∀ i, i < len → ∃ g off, ao = some ⟨g, off, none⟩ ∧ ∃ t c, StC w g (off + i * 11) t c := by
  rcases Fr.get_slice h with rfl | ⟨a, len, cap, rfl, h1, h2, h3⟩
  · exact ⟨none, 0, 0, rfl, Nat.le_refl _, by decide, fun i hi => by omega⟩
  · refine ⟨some a, len, cap, rfl, h1, h2, fun i hi => ?_⟩
    obtain ⟨cs0, h5, h6⟩ := h3 0 (by omega)
    obtain ⟨t, c, k2, a1, b1, n1, v1, rfl, _⟩ := st_cells h6
    have hs : a.spot = none := by
      have h7 := (World.cells?_some h5).2.2 0 (by show 0 < 11; omega)
      exact World.cell?_spot (by simpa [Addr.add] using h7)
    obtain ⟨g, off, spot⟩ := a
    simp only at hs
    subst hs
    obtain ⟨cs, h5, h6⟩ := h3 i (by omega)
    obtain ⟨t, c, k2, a1, b1, n1, v1, rfl, r⟩ := st_cells h6
    obtain ⟨_, _, h7⟩ := World.cells?_some h5
    have e1 : ((⟨g, off, none⟩ : Addr).add (i * stSh.length)) = ⟨g, off + i * 11, none⟩ := by
      simp [Addr.add, stSh] <;> (intro hh; subst hh; rfl)
    rw [e1] at h7
    refine ⟨g, off, rfl, t, c, ?_, ?_, ?_, ?_, ?_, ?_, r⟩
    · simpa [Addr.add] using h7 0 (by show 0 < 11; omega)
    · simpa [Addr.add] using h7 1 (by show 1 < 11; omega)
    · simpa [Addr.add] using h7 2 (by show 2 < 11; omega)
    · simpa [Addr.add] using h7 3 (by show 3 < 11; omega)
    · simpa [Addr.add] using h7 4 (by show 4 < 11; omega)
    · simpa [Addr.add] using h7 5 (by show 5 < 11; omega)
theorem newfreeA {w : World} {b : Nat} {arr : Array Value} {T : TypeId} (h : w.heap[b]? = some (.cells arr T (0, 0))) : ∀ o i, (w.alloc o).frozen? ⟨b, i, none⟩ = false := fun o i => frozen_of_row _ _ _ _ _ ((Below.heap_alloc _ _ _ (Array.getElem?_eq_some_iff.1 h).1).trans h)
theorem size_ne {w w9 : World} {o : Obj} (h : Below ((w.alloc o).drew).heap.size (w.alloc o).drew w9) : ¬ w.heap.size = w9.heap.size ∧ ¬ w9.heap.size = w.heap.size := by
  have h1 : (w.alloc o).heap.size ≤ w9.heap.size := h.size
  simp at h1
  omega
theorem heapnew1 {w w9 : World} {o : Obj} (h : Below ((w.alloc o).drew).heap.size (w.alloc o).drew w9) : w9.heap[w.heap.size]? = some o := (h.block _ (by show w.heap.size < (w.alloc o).heap.size; simp)).trans (heap_alloc_new w o)
theorem heapnew2 {w w9 : World} {o r : Obj} (h : Below (((w.alloc o).alloc r).drew).heap.size ((w.alloc o).alloc r).drew w9) : w9.heap[w.heap.size]? = some o ∧ w9.heap[w.heap.size + 1]? = some r := by
  obtain ⟨h1, h2⟩ := heap2 w o r
  exact ⟨(h.block _ (by show w.heap.size < ((w.alloc o).alloc r).heap.size; simp; omega)).trans h1, (h.block _ (by show w.heap.size + 1 < ((w.alloc o).alloc r).heap.size; simp)).trans h2⟩
/-- What the loads read stays. -/
theorem b8_mk {V w : World} {X g o : Nat} {a0 a1 b0 b1 b2 b3 b4 b5 : Value} (h : Below V.heap.size V w) (x0 : V.cell? ⟨X, 0, none⟩ = some a0) (x1 : V.cell? ⟨X, 1, none⟩ = some a1) (o0 : V.cell? ⟨g, o, none⟩ = some b0) (o1 : V.cell? ⟨g, o + 1, none⟩ = some b1) (o2 : V.cell? ⟨g, o + 2, none⟩ = some b2) (o3 : V.cell? ⟨g, o + 3, none⟩ = some b3) (o4 : V.cell? ⟨g, o + 4, none⟩ = some b4) (o5 : V.cell? ⟨g, o + 5, none⟩ = some b5) :
    Below V.heap.size V w ∧ w.cell? ⟨X, 0, none⟩ = some a0 ∧ w.cell? ⟨X, 1, none⟩ = some a1 ∧ w.cell? ⟨g, o, none⟩ = some b0 ∧ w.cell? ⟨g, o + 1, none⟩ = some b1 ∧ w.cell? ⟨g, o + 2, none⟩ = some b2 ∧ w.cell? ⟨g, o + 3, none⟩ = some b3 ∧ w.cell? ⟨g, o + 4, none⟩ = some b4 ∧ w.cell? ⟨g, o + 5, none⟩ = some b5 :=
  ⟨h, Ext.use (Ext.cells x0) h, Ext.use (Ext.cells x1) h, Ext.use (Ext.cells o0) h, Ext.use (Ext.cells o1) h, Ext.use (Ext.cells o2) h, Ext.use (Ext.cells o3) h, Ext.use (Ext.cells o4) h, Ext.use (Ext.cells o5) h⟩
end Go.Proofs.Ytopjnoglbncnhaa
