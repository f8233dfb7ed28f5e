/- Layer 10: the walk of ModelTold. -/
import Derived.Test.YtopjnoglbncnhaaModX
namespace Go.Proofs.Ytopjnoglbncnhaa
open Go.RowKit
set_option linter.unusedVariables false
set_option linter.unusedSimpArgs false
/-- A step's thread, call and answer. -/
def StA (w : World) (g o : Nat) (t : Int) (c : Ca) (a : An) (av : Value) : Prop :=
  StC w g o t c ∧ w.cell? ⟨g, o + 6, none⟩ = some (.int .i64 a.kind) ∧ w.cell? ⟨g, o + 7, none⟩ = some (.int .i64 a.key) ∧ w.cell? ⟨g, o + 8, none⟩ = some (.int .i64 a.val) ∧ w.cell? ⟨g, o + 9, none⟩ = some (.int .i64 a.n) ∧ w.cell? ⟨g, o + 10, none⟩ = some av ∧ PR w av a.ps
theorem StA.below {w w' : World} {g o : Nat} {t : Int} {c : Ca} {a : An} {av : Value} (h : StA w g o t c a av) (k : Below w.heap.size w w') : StA w' g o t c a av :=
  ⟨h.1.below k, Ext.use (Ext.cells h.2.1) k, Ext.use (Ext.cells h.2.2.1) k, Ext.use (Ext.cells h.2.2.2.1) k, Ext.use (Ext.cells h.2.2.2.2.1) k, Ext.use (Ext.cells h.2.2.2.2.2.1) k, h.2.2.2.2.2.2.below k⟩
theorem sta_cells {w : World} {cs : List Value} (h : Fr.Sh.oks w stSh cs) : ∃ (t : Int) (c : Ca) (a : An) (v : Value), cs = [.int .i64 t, .int .i64 c.op, .int .i64 c.key, .int .i64 c.val, .int .i64 c.hi, .int .i64 c.lim, .int .i64 a.kind, .int .i64 a.key, .int .i64 a.val, .int .i64 a.n, v] ∧ (-9223372036854775808 ≤ c.key ∧ c.key ≤ 9223372036854775807) ∧ PR w v a.ps := by
  obtain ⟨_, _, rfl, k0, h⟩ := Fr.get_cons h
  obtain ⟨_, _, rfl, k1, h⟩ := Fr.get_cons h
  obtain ⟨_, _, rfl, k2, h⟩ := Fr.get_cons h
  obtain ⟨_, _, rfl, k3, h⟩ := Fr.get_cons h
  obtain ⟨_, _, rfl, k4, h⟩ := Fr.get_cons h
  obtain ⟨_, _, rfl, k5, h⟩ := Fr.get_cons h
  obtain ⟨_, _, rfl, k6, h⟩ := Fr.get_cons h
  obtain ⟨_, _, rfl, k7, h⟩ := Fr.get_cons h
  obtain ⟨_, _, rfl, k8, h⟩ := Fr.get_cons h
  obtain ⟨_, _, rfl, k9, h⟩ := Fr.get_cons h
  obtain ⟨v, _, rfl, kv, h⟩ := Fr.get_cons h
  obtain rfl := Fr.get_nil h
  obtain ⟨t, rfl, _⟩ := Fr.get_int k0
  obtain ⟨c1, rfl, _⟩ := Fr.get_int k1
  obtain ⟨c2, rfl, w2⟩ := Fr.get_int k2
  obtain ⟨c3, rfl, _⟩ := Fr.get_int k3
  obtain ⟨c4, rfl, _⟩ := Fr.get_int k4
  obtain ⟨c5, rfl, _⟩ := Fr.get_int k5
  obtain ⟨c6, rfl, _⟩ := Fr.get_int k6
  obtain ⟨c7, rfl, _⟩ := Fr.get_int k7
  obtain ⟨c8, rfl, _⟩ := Fr.get_int k8
  obtain ⟨c9, rfl, _⟩ := Fr.get_int k9
  obtain ⟨l, hl⟩ := pairs_open kv
  exact ⟨t, ⟨c1, c2, c3, c4, c5⟩, ⟨c6, c7, c8, c9, l⟩, v, rfl, wfi64 w2, hl⟩
theorem stas_open {w : World} {v : Value} (h : Fr.ok1 w (.slice stSh) v) : ∃ ao len cap, v = .slice ao len cap ∧ len ≤ cap ∧ cap ≤ 9223372036854775807 ∧ ∀ i, i < len → ∃ g off, ao = some ⟨g, off, none⟩ ∧ ∃ t c a av, StA w g (off + i * 11) t c a av := by
  rcases Fr.get_slice h with rfl | ⟨a, len, cap, rfl, h1, h2, h3⟩
  · exact ⟨none, 0, 0, rfl, Nat.le_refl _, by decide, fun i hi => by omega⟩
  · refine ⟨some a, len, cap, rfl, h1, h2, fun i hi => ?_⟩
    obtain ⟨cs0, h5, h6⟩ := h3 0 (by omega)
    obtain ⟨t, c, k2, v1, rfl, _⟩ := sta_cells h6
    have hs : a.spot = none := by
      have h7 := (World.cells?_some h5).2.2 0 (by show 0 < 11; omega)
      exact World.cell?_spot (by simpa [Addr.add] using h7)
    obtain ⟨g, off, spot⟩ := a
    simp only at hs
    subst hs
    obtain ⟨cs, h5, h6⟩ := h3 i (by omega)
    obtain ⟨t, c, k2, v1, rfl, r, hp⟩ := sta_cells h6
    obtain ⟨_, _, h7⟩ := World.cells?_some h5
    have e1 : ((⟨g, off, none⟩ : Addr).add (i * stSh.length)) = ⟨g, off + i * 11, none⟩ := by
      simp [Addr.add, stSh] <;> (intro hh; subst hh; rfl)
    rw [e1] at h7
    refine ⟨g, off, rfl, t, c, k2, v1, ⟨?_, ?_, ?_, ?_, ?_, ?_, r⟩, ?_, ?_, ?_, ?_, ?_, hp⟩
    · simpa [Addr.add] using h7 0 (by show 0 < 11; omega)
    · simpa [Addr.add] using h7 1 (by show 1 < 11; omega)
    · simpa [Addr.add] using h7 2 (by show 2 < 11; omega)
    · simpa [Addr.add] using h7 3 (by show 3 < 11; omega)
    · simpa [Addr.add] using h7 4 (by show 4 < 11; omega)
    · simpa [Addr.add] using h7 5 (by show 5 < 11; omega)
    · simpa [Addr.add] using h7 6 (by show 6 < 11; omega)
    · simpa [Addr.add] using h7 7 (by show 7 < 11; omega)
    · simpa [Addr.add] using h7 8 (by show 8 < 11; omega)
    · simpa [Addr.add] using h7 9 (by show 9 < 11; omega)
    · simpa [Addr.add] using h7 10 (by show 10 < 11; omega)
theorem OkN.told {m : Nat} {st : Sm} (h : OkN m st) (t : Int) (c : Ca) (a : An) (hk : -9223372036854775808 ≤ c.key ∧ c.key ≤ 9223372036854775807) : OkN (m + 1) (toldA st t c a).1 := by
  unfold toldA
  split
  · exact h.call t c hk
  · exact h.more
/-- What regions 9 and 10 leave. -/
def ToD (T : TypeId) (V : World) (st : Sm) (b : Bool) (p8 p9 : Value) (wc : World) : Prop :=
  ∃ R8 mv tv, p8 = .pointer (some ⟨R8, 0, none⟩) ∧ p9 = .bool b ∧ wc.heap[R8]? = some (.cells #[mv, tv] T (0, 0)) ∧ PO wc mv st.mp ∧ TR wc tv st.n st.th ∧ Below V.heap.size V wc
theorem to_a {T : TypeId} {V w : World} {st : Sm} {b : Bool} {mv tv : Value} (hb : Below V.heap.size V w) (hp : PO w mv st.mp) (ht : TR w tv st.n st.th) :
    ToD T V st b (.pointer (some ⟨w.heap.size, 0, none⟩)) (.bool b) (w.alloc (.cells #[mv, tv] T)) := by
  have k : Below w.heap.size w (w.alloc (.cells #[mv, tv] T)) := below_new (Below.refl _ _) _
  exact ⟨_, mv, tv, rfl, rfl, heap_alloc_new w _, hp.below k, ht.below k, below_on hb k⟩
theorem to_b {T : TypeId} (hT : T ≠ 73) {V w : World} {st : Sm} {b : Bool} {b8 : Nat} {mv tv : Value} (h8 : w.heap[b8]? = some (.cells #[.slice none 0 0, .slice none 0 0] T (0, 0))) (k8 : V.heap.size ≤ b8) (hb : Below V.heap.size V w) (hp : PO w mv st.mp) (ht : TR w tv st.n st.th) :
    ToD T V st b (.pointer (some ⟨b8, 0, none⟩)) (.bool b) ((w.setCell ⟨b8, 0, none⟩ mv).setCell ⟨b8, 1, none⟩ tv) := by
  obtain ⟨x1, x2, x3⟩ := st_ret hT h8 k8 hb hp ht
  exact ⟨_, mv, tv, rfl, rfl, heap_setCell_same _ b8 1 _ _ tv (heap_setCell_same w b8 0 _ _ mv h8), x1, x2, x3⟩
theorem b13_mk {V w : World} {X g o : Nat} {a0 a1 a2 a3 a4 a5 a6 a7 a8 a9 a10 a11 a12 : Value} (h : Below V.heap.size V w) (x0 : V.cell? ⟨X, 0, none⟩ = some a0) (x1 : V.cell? ⟨X, 1, none⟩ = some a1) (o0 : V.cell? ⟨g, o, none⟩ = some a2) (o1 : V.cell? ⟨g, o + 1, none⟩ = some a3) (o2 : V.cell? ⟨g, o + 2, none⟩ = some a4) (o3 : V.cell? ⟨g, o + 3, none⟩ = some a5) (o4 : V.cell? ⟨g, o + 4, none⟩ = some a6) (o5 : V.cell? ⟨g, o + 5, none⟩ = some a7) (o6 : V.cell? ⟨g, o + 6, none⟩ = some a8) (o7 : V.cell? ⟨g, o + 7, none⟩ = some a9) (o8 : V.cell? ⟨g, o + 8, none⟩ = some a10) (o9 : V.cell? ⟨g, o + 9, none⟩ = some a11) (o10 : V.cell? ⟨g, o + 10, none⟩ = some a12) :
    Below V.heap.size V w ∧ w.cell? ⟨X, 0, none⟩ = some a0 ∧ w.cell? ⟨X, 1, none⟩ = some a1 ∧ w.cell? ⟨g, o, none⟩ = some a2 ∧ w.cell? ⟨g, o + 1, none⟩ = some a3 ∧ w.cell? ⟨g, o + 2, none⟩ = some a4 ∧ w.cell? ⟨g, o + 3, none⟩ = some a5 ∧ w.cell? ⟨g, o + 4, none⟩ = some a6 ∧ w.cell? ⟨g, o + 5, none⟩ = some a7 ∧ w.cell? ⟨g, o + 6, none⟩ = some a8 ∧ w.cell? ⟨g, o + 7, none⟩ = some a9 ∧ w.cell? ⟨g, o + 8, none⟩ = some a10 ∧ w.cell? ⟨g, o + 9, none⟩ = some a11 ∧ w.cell? ⟨g, o + 10, none⟩ = some a12 :=
  ⟨h, Ext.use (Ext.cells x0) h, Ext.use (Ext.cells x1) h, Ext.use (Ext.cells o0) h, Ext.use (Ext.cells o1) h, Ext.use (Ext.cells o2) h, Ext.use (Ext.cells o3) h, Ext.use (Ext.cells o4) h, Ext.use (Ext.cells o5) h, Ext.use (Ext.cells o6) h, Ext.use (Ext.cells o7) h, Ext.use (Ext.cells o8) h, Ext.use (Ext.cells o9) h, Ext.use (Ext.cells o10) h⟩
end Go.Proofs.Ytopjnoglbncnhaa
