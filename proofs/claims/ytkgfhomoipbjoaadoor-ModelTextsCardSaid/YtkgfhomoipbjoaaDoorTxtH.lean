/- Layer 10: states in blocks of a law; its steps. -/
import Derived.Test.YtkgfhomoipbjoaaDoorTxtG
import Derived.Test.YtkgfhomoipbjoaaDoorFrame
namespace Go.Proofs.YtkgfhomoipbjoaaDoor
open Go.RowKit
set_option linter.unusedVariables false
set_option linter.unusedSimpArgs false
def stSh : List Fr.Sh := [.int .i64, .int .i64, .int .i64, .int .i64, .int .i64, .int .i64, .int .i64, .int .i64, .int .i64, .int .i64, .slice [.int .i64, .int .i64]]
theorem wf64g {n : Int} (h : (Lit.int .i64 n).wf = true) : -9223372036854775808 ≤ n ∧ n < 9223372036854775808 := by
  simp [Lit.wf, IntKind.min, IntKind.max, IntKind.signed, IntKind.bits] at h; omega
theorem wfi64 {n : Int} (h : (Lit.int .i64 n).wf = true) : -9223372036854775808 ≤ n ∧ n ≤ 9223372036854775807 := by
  have := wf64g h; omega
/-- A step's thread and call. -/
def StC (w : World) (g o : Nat) (t : Int) (c : Ca) : Prop :=
  w.cell? ⟨g, o, none⟩ = some (.int .i64 t) ∧ w.cell? ⟨g, o + 1, none⟩ = some (.int .i64 c.op) ∧ w.cell? ⟨g, o + 2, none⟩ = some (.int .i64 c.key) ∧ w.cell? ⟨g, o + 3, none⟩ = some (.int .i64 c.val) ∧ w.cell? ⟨g, o + 4, none⟩ = some (.int .i64 c.hi) ∧ w.cell? ⟨g, o + 5, none⟩ = some (.int .i64 c.lim) ∧ (-9223372036854775808 ≤ c.key ∧ c.key ≤ 9223372036854775807) ∧ (-9223372036854775808 ≤ c.val ∧ c.val ≤ 9223372036854775807)
theorem StC.below {w w' : World} {g o : Nat} {t : Int} {c : Ca} (h : StC w g o t c) (k : Below w.heap.size w w') : StC w' g o t c :=
  ⟨Ext.use (Ext.cells h.1) k, Ext.use (Ext.cells h.2.1) k, Ext.use (Ext.cells h.2.2.1) k, Ext.use (Ext.cells h.2.2.2.1) k, Ext.use (Ext.cells h.2.2.2.2.1) k, Ext.use (Ext.cells h.2.2.2.2.2.1) k, h.2.2.2.2.2.2⟩
theorem st_cells {w : World} {cs : List Value} (h : Fr.Sh.oks w stSh cs) : ∃ (t : Int) (c : Ca) (k2 a b n : Int) (v : Value), cs = [.int .i64 t, .int .i64 c.op, .int .i64 c.key, .int .i64 c.val, .int .i64 c.hi, .int .i64 c.lim, .int .i64 k2, .int .i64 a, .int .i64 b, .int .i64 n, v] ∧ (-9223372036854775808 ≤ c.key ∧ c.key ≤ 9223372036854775807) ∧ (-9223372036854775808 ≤ c.val ∧ c.val ≤ 9223372036854775807) := by
  obtain ⟨_, _, rfl, k0, h⟩ := Fr.get_cons h
  obtain ⟨_, _, rfl, k1, h⟩ := Fr.get_cons h
  obtain ⟨_, _, rfl, k2, h⟩ := Fr.get_cons h
  obtain ⟨_, _, rfl, k3, h⟩ := Fr.get_cons h
  obtain ⟨_, _, rfl, k4, h⟩ := Fr.get_cons h
  obtain ⟨_, _, rfl, k5, h⟩ := Fr.get_cons h
  obtain ⟨_, _, rfl, k6, h⟩ := Fr.get_cons h
  obtain ⟨_, _, rfl, k7, h⟩ := Fr.get_cons h
  obtain ⟨_, _, rfl, k8, h⟩ := Fr.get_cons h
  obtain ⟨_, _, rfl, k9, h⟩ := Fr.get_cons h
  obtain ⟨v, _, rfl, _, h⟩ := Fr.get_cons h
  obtain rfl := Fr.get_nil h
  obtain ⟨t, rfl, _⟩ := Fr.get_int k0
  obtain ⟨c1, rfl, _⟩ := Fr.get_int k1
  obtain ⟨c2, rfl, w2⟩ := Fr.get_int k2
  obtain ⟨c3, rfl, w3⟩ := Fr.get_int k3
  obtain ⟨c4, rfl, _⟩ := Fr.get_int k4
  obtain ⟨c5, rfl, _⟩ := Fr.get_int k5
  obtain ⟨c6, rfl, _⟩ := Fr.get_int k6
  obtain ⟨c7, rfl, _⟩ := Fr.get_int k7
  obtain ⟨c8, rfl, _⟩ := Fr.get_int k8
  obtain ⟨c9, rfl, _⟩ := Fr.get_int k9
  exact ⟨t, ⟨c1, c2, c3, c4, c5⟩, c6, c7, c8, c9, v, rfl, wfi64 w2, wfi64 w3⟩
theorem steps_open {w : World} {v : Value} (h : Fr.ok1 w (.slice stSh) v) : ∃ ao len cap, v = .slice ao len cap ∧ len ≤ cap ∧ cap ≤ 9223372036854775807 ∧ ∀ i, i < len → ∃ g off, ao = some ⟨g, off, none⟩ ∧ ∃ t c, StC w g (off + i * 11) t c := by
  rcases Fr.get_slice h with rfl | ⟨a, len, cap, rfl, h1, h2, h3⟩
  · exact ⟨none, 0, 0, rfl, Nat.le_refl _, by decide, fun i hi => by omega⟩
  · refine ⟨some a, len, cap, rfl, h1, h2, fun i hi => ?_⟩
    obtain ⟨cs0, h5, h6⟩ := h3 0 (by omega)
    obtain ⟨t, c, k2, a1, b1, n1, v1, rfl, _⟩ := st_cells h6
    have hs : a.spot = none := by
      have h7 := (World.cells?_some h5).2.2 0 (by show 0 < 11; omega)
      exact World.cell?_spot (by simpa [Addr.add] using h7)
    obtain ⟨g, off, spot⟩ := a
    simp only at hs
    subst hs
    obtain ⟨cs, h5, h6⟩ := h3 i (by omega)
    obtain ⟨t, c, k2, a1, b1, n1, v1, rfl, r⟩ := st_cells h6
    obtain ⟨_, _, h7⟩ := World.cells?_some h5
    have e1 : ((⟨g, off, none⟩ : Addr).add (i * stSh.length)) = ⟨g, off + i * 11, none⟩ := by
      simp [Addr.add, stSh] <;> (intro hh; subst hh; rfl)
    rw [e1] at h7
    refine ⟨g, off, rfl, t, c, ?_, ?_, ?_, ?_, ?_, ?_, r⟩
    · simpa [Addr.add] using h7 0 (by show 0 < 11; omega)
    · simpa [Addr.add] using h7 1 (by show 1 < 11; omega)
    · simpa [Addr.add] using h7 2 (by show 2 < 11; omega)
    · simpa [Addr.add] using h7 3 (by show 3 < 11; omega)
    · simpa [Addr.add] using h7 4 (by show 4 < 11; omega)
    · simpa [Addr.add] using h7 5 (by show 5 < 11; omega)

theorem newcell {w : World} {b : Nat} {arr : Array Value} {T : TypeId} (h : w.heap[b]? = some (.cells arr T (0, 0))) (k : Nat) (v : Value) (hk : arr[k]? = some v) : w.cell? ⟨b, k, none⟩ = some v := by
  rw [cell_of_row _ _ _ _ _ (0, 0) h]; exact hk
theorem newfree {w : World} {b : Nat} {arr : Array Value} {T : TypeId} (h : w.heap[b]? = some (.cells arr T (0, 0))) : ∀ i, w.frozen? ⟨b, i, none⟩ = false := fun i => frozen_of_row _ _ _ _ _ h
theorem blk_lt {w : World} {b : Nat} {o : Obj} (h : w.heap[b]? = some o) : b < w.heap.size := (Array.getElem?_eq_some_iff.1 h).1
/-- A state in its block. -/
structure KT (T : TypeId) (W : World) (X : Nat) (st : Sm) (p : Option Addr) (c : Nat) (q : Option Addr) (d : Nat) : Prop where
  hx : W.heap[X]? = some (.cells #[.slice p st.mp.length c, .slice q st.n d] T (0, 0))
  hp : PO W (.slice p st.mp.length c) st.mp
  ht : TR W (.slice q st.n d) st.n st.th
theorem KT.below {T : TypeId} {W W2 : World} {X : Nat} {st : Sm} {p q : Option Addr} {c d : Nat} (h : KT T W X st p c q d) (k : Below W.heap.size W W2) : KT T W2 X st p c q d :=
  ⟨upk k h.hx, h.hp.below k, h.ht.below k⟩
theorem KT.step {T : TypeId} (hT : T ≠ 75) {w W w9 : World} {X : Nat} {st : Sm} {p q : Option Addr} {c d : Nat} (h : KT T W X st p c q d) (hw : w.heap.size ≤ X) (h0 : Below w.heap.size w W) {st' : Sm} {p' q' : Option Addr} {c' d' : Nat} (hb : Below W.heap.size W w9) (hp : PO w9 (.slice p' st'.mp.length c') st'.mp) (ht : TR w9 (.slice q' st'.n d') st'.n st'.th) {W2 : World} (hW : (w9.setCell ⟨X, 0, none⟩ (.slice p' st'.mp.length c')).setCell ⟨X, 1, none⟩ (.slice q' st'.n d') = W2) :
    KT T W2 X st' p' c' q' d' ∧ Below w.heap.size w W2 ∧ ∀ (U : TypeId) (Y : Nat) (su : Sm) (a : Option Addr) (b : Nat) (e : Option Addr) (f : Nat), Y ≠ X → KT U W Y su a b e f → KT U W2 Y su a b e f := by
  subst hW
  have hx9 := upk hb h.hx
  have hX1 := heap_setCell_same _ X 1 _ _ (.slice q' st'.n d') (heap_setCell_same w9 X 0 _ _ (.slice p' st'.mp.length c') hx9)
  obtain ⟨k1, n1, o1⟩ := st2 (w := w) (X := []) (T := T) hT hx9 hw (KX.of_below (below_on h0 hb)) (.slice p' st'.mp.length c') (.slice q' st'.n d')
  have no : ∀ b x, w9.cell? ⟨b, 0, none⟩ = some (.bool x) → b ≠ X := by
    intro b x hbx e; subst e; rw [newcell hx9 0 _ rfl] at hbx; cases hbx
  refine ⟨⟨hX1, hp.np n1, tr_keep2 ht n1 fun b x hbx => o1 b (no b x hbx)⟩, ⟨k1.os, k1.tape, k1.output, k1.size, fun k hk => k1.block k hk (by simp)⟩, fun U Y su a b e f hY hk => ?_⟩
  have h9 := hk.below hb
  exact ⟨(o1 Y hY).trans h9.hx, h9.hp.np n1, tr_keep2 h9.ht n1 fun b x hbx => o1 b (no b x hbx)⟩
theorem KT.fresh {T : TypeId} {W : World} {st : Sm} {p q : Option Addr} {c d : Nat} (hp : PO W (.slice p st.mp.length c) st.mp) (ht : TR W (.slice q st.n d) st.n st.th) : KT T (W.alloc (.cells #[.slice p st.mp.length c, .slice q st.n d] T)) W.heap.size st p c q d :=
  ⟨heap_alloc_new _ _, hp.below (below_new (Below.refl _ _) _), ht.below (below_new (Below.refl _ _) _)⟩
theorem OkN.up {m k : Nat} {st : Sm} (h : OkN m st) (hk : m ≤ k) : OkN k st := ⟨h.mr, Nat.le_trans h.ml hk, h.ki, h.n6, h.fr, fun i => Nat.le_trans (h.fl i) hk, h.p0, h.p1⟩
theorem eqS_beq (a b : Sm) : (tS a == tS b) = eqS a b := by
  rw [← eqS_text, Bool.eq_iff_iff]; simp
/-- The state at first. -/
def stN (n : Nat) : Sm := ⟨[], n, fun _ => s0⟩
end Go.Proofs.YtkgfhomoipbjoaaDoor
