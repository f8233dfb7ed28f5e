/- Layer 10: the walk of ModelDoes. -/
import Derived.Test.YtcbdbfmlkkpndaaModV
import Derived.Deep.RegionHeld3
import Derived.Test.YtcbdbfmlkkpndaaFrame
namespace Go.Proofs.Ytcbdbfmlkkpndaa
open Go.RowKit
set_option linter.unusedVariables false
set_option linter.unusedSimpArgs false
def stSh : List Fr.Sh := [.int .i64, .int .i64, .int .i64, .int .i64, .int .i64, .int .i64, .int .i64, .int .i64, .int .i64, .int .i64, .slice [.int .i64, .int .i64]]
theorem wf64g {n : Int} (h : (Lit.int .i64 n).wf = true) : -9223372036854775808 ≤ n ∧ n < 9223372036854775808 := by
  simp [Lit.wf, IntKind.min, IntKind.max, IntKind.signed, IntKind.bits] at h; omega
theorem wfi64 {n : Int} (h : (Lit.int .i64 n).wf = true) : -9223372036854775808 ≤ n ∧ n ≤ 9223372036854775807 := by
  have := wf64g h; omega
/-- A step's thread and call. -/
def StC (w : World) (g o : Nat) (t : Int) (c : Ca) : Prop :=
  w.cell? ⟨g, o, none⟩ = some (.int .i64 t) ∧ w.cell? ⟨g, o + 1, none⟩ = some (.int .i64 c.op) ∧ w.cell? ⟨g, o + 2, none⟩ = some (.int .i64 c.key) ∧ w.cell? ⟨g, o + 3, none⟩ = some (.int .i64 c.val) ∧ w.cell? ⟨g, o + 4, none⟩ = some (.int .i64 c.hi) ∧ w.cell? ⟨g, o + 5, none⟩ = some (.int .i64 c.lim) ∧ -9223372036854775808 ≤ c.key ∧ c.key ≤ 9223372036854775807
theorem StC.below {w w' : World} {g o : Nat} {t : Int} {c : Ca} (h : StC w g o t c) (k : Below w.heap.size w w') : StC w' g o t c :=
  ⟨Ext.use (Ext.cells h.1) k, Ext.use (Ext.cells h.2.1) k, Ext.use (Ext.cells h.2.2.1) k, Ext.use (Ext.cells h.2.2.2.1) k, Ext.use (Ext.cells h.2.2.2.2.1) k, Ext.use (Ext.cells h.2.2.2.2.2.1) k, h.2.2.2.2.2.2⟩
theorem st_cells {w : World} {cs : List Value} (h : Fr.Sh.oks w stSh cs) : ∃ (t : Int) (c : Ca) (k2 a b n : Int) (v : Value), cs = [.int .i64 t, .int .i64 c.op, .int .i64 c.key, .int .i64 c.val, .int .i64 c.hi, .int .i64 c.lim, .int .i64 k2, .int .i64 a, .int .i64 b, .int .i64 n, v] ∧ -9223372036854775808 ≤ c.key ∧ c.key ≤ 9223372036854775807 := by
  obtain ⟨_, _, rfl, k0, h⟩ := Fr.get_cons h
  obtain ⟨_, _, rfl, k1, h⟩ := Fr.get_cons h
  obtain ⟨_, _, rfl, k2, h⟩ := Fr.get_cons h
  obtain ⟨_, _, rfl, k3, h⟩ := Fr.get_cons h
  obtain ⟨_, _, rfl, k4, h⟩ := Fr.get_cons h
  obtain ⟨_, _, rfl, k5, h⟩ := Fr.get_cons h
  obtain ⟨_, _, rfl, k6, h⟩ := Fr.get_cons h
  obtain ⟨_, _, rfl, k7, h⟩ := Fr.get_cons h
  obtain ⟨_, _, rfl, k8, h⟩ := Fr.get_cons h
  obtain ⟨_, _, rfl, k9, h⟩ := Fr.get_cons h
  obtain ⟨v, _, rfl, _, h⟩ := Fr.get_cons h
  obtain rfl := Fr.get_nil h
  obtain ⟨t, rfl, _⟩ := Fr.get_int k0
  obtain ⟨c1, rfl, _⟩ := Fr.get_int k1
  obtain ⟨c2, rfl, w2⟩ := Fr.get_int k2
  obtain ⟨c3, rfl, _⟩ := Fr.get_int k3
  obtain ⟨c4, rfl, _⟩ := Fr.get_int k4
  obtain ⟨c5, rfl, _⟩ := Fr.get_int k5
  obtain ⟨c6, rfl, _⟩ := Fr.get_int k6
  obtain ⟨c7, rfl, _⟩ := Fr.get_int k7
  obtain ⟨c8, rfl, _⟩ := Fr.get_int k8
  obtain ⟨c9, rfl, _⟩ := Fr.get_int k9
  exact ⟨t, ⟨c1, c2, c3, c4, c5⟩, c6, c7, c8, c9, v, rfl, wfi64 w2⟩
theorem steps_open {w : World} {v : Value} (h : Fr.ok1 w (.slice stSh) v) : ∃ ao len cap, v = .slice ao len cap ∧ len ≤ cap ∧ cap ≤ 9223372036854775807 ∧ ∀ i, i < len → ∃ g off, ao = some ⟨g, off, none⟩ ∧ ∃ t c, StC w g (off + i * 11) t c := by
  rcases Fr.get_slice h with rfl | ⟨a, len, cap, rfl, h1, h2, h3⟩
  · exact ⟨none, 0, 0, rfl, Nat.le_refl _, by decide, fun i hi => by omega⟩
  · refine ⟨some a, len, cap, rfl, h1, h2, fun i hi => ?_⟩
    obtain ⟨cs0, h5, h6⟩ := h3 0 (by omega)
    obtain ⟨t, c, k2, a1, b1, n1, v1, rfl, _⟩ := st_cells h6
    have hs : a.spot = none := by
      have h7 := (World.cells?_some h5).2.2 0 (by show 0 < 11; omega)
      exact World.cell?_spot (by simpa [Addr.add] using h7)
    obtain ⟨g, off, spot⟩ := a
    simp only at hs
    subst hs
    obtain ⟨cs, h5, h6⟩ := h3 i (by omega)
    obtain ⟨t, c, k2, a1, b1, n1, v1, rfl, r⟩ := st_cells h6
    obtain ⟨_, _, h7⟩ := World.cells?_some h5
    have e1 : ((⟨g, off, none⟩ : Addr).add (i * stSh.length)) = ⟨g, off + i * 11, none⟩ := by
      simp [Addr.add, stSh] <;> (intro hh; subst hh; rfl)
    rw [e1] at h7
    refine ⟨g, off, rfl, t, c, ?_, ?_, ?_, ?_, ?_, ?_, r⟩
    · simpa [Addr.add] using h7 0 (by show 0 < 11; omega)
    · simpa [Addr.add] using h7 1 (by show 1 < 11; omega)
    · simpa [Addr.add] using h7 2 (by show 2 < 11; omega)
    · simpa [Addr.add] using h7 3 (by show 3 < 11; omega)
    · simpa [Addr.add] using h7 4 (by show 4 < 11; omega)
    · simpa [Addr.add] using h7 5 (by show 5 < 11; omega)
theorem newfreeA {w : World} {b : Nat} {arr : Array Value} {T : TypeId} (h : w.heap[b]? = some (.cells arr T (0, 0))) : ∀ o i, (w.alloc o).frozen? ⟨b, i, none⟩ = false := fun o i => frozen_of_row _ _ _ _ _ ((Below.heap_alloc _ _ _ (Array.getElem?_eq_some_iff.1 h).1).trans h)
theorem size_ne {w w9 : World} {o : Obj} (h : Below ((w.alloc o).drew).heap.size (w.alloc o).drew w9) : ¬ w.heap.size = w9.heap.size ∧ ¬ w9.heap.size = w.heap.size := by
  have h1 : (w.alloc o).heap.size ≤ w9.heap.size := h.size
  simp at h1
  omega
theorem heapnew1 {w w9 : World} {o : Obj} (h : Below ((w.alloc o).drew).heap.size (w.alloc o).drew w9) : w9.heap[w.heap.size]? = some o := (h.block _ (by show w.heap.size < (w.alloc o).heap.size; simp)).trans (heap_alloc_new w o)
theorem heapnew2 {w w9 : World} {o r : Obj} (h : Below (((w.alloc o).alloc r).drew).heap.size ((w.alloc o).alloc r).drew w9) : w9.heap[w.heap.size]? = some o ∧ w9.heap[w.heap.size + 1]? = some r := by
  obtain ⟨h1, h2⟩ := heap2 w o r
  exact ⟨(h.block _ (by show w.heap.size < ((w.alloc o).alloc r).heap.size; simp; omega)).trans h1, (h.block _ (by show w.heap.size + 1 < ((w.alloc o).alloc r).heap.size; simp)).trans h2⟩
/-- What the loads read stays. -/
theorem b8_mk {V w : World} {X g o : Nat} {a0 a1 b0 b1 b2 b3 b4 b5 : Value} (h : Below V.heap.size V w) (x0 : V.cell? ⟨X, 0, none⟩ = some a0) (x1 : V.cell? ⟨X, 1, none⟩ = some a1) (o0 : V.cell? ⟨g, o, none⟩ = some b0) (o1 : V.cell? ⟨g, o + 1, none⟩ = some b1) (o2 : V.cell? ⟨g, o + 2, none⟩ = some b2) (o3 : V.cell? ⟨g, o + 3, none⟩ = some b3) (o4 : V.cell? ⟨g, o + 4, none⟩ = some b4) (o5 : V.cell? ⟨g, o + 5, none⟩ = some b5) :
    Below V.heap.size V w ∧ w.cell? ⟨X, 0, none⟩ = some a0 ∧ w.cell? ⟨X, 1, none⟩ = some a1 ∧ w.cell? ⟨g, o, none⟩ = some b0 ∧ w.cell? ⟨g, o + 1, none⟩ = some b1 ∧ w.cell? ⟨g, o + 2, none⟩ = some b2 ∧ w.cell? ⟨g, o + 3, none⟩ = some b3 ∧ w.cell? ⟨g, o + 4, none⟩ = some b4 ∧ w.cell? ⟨g, o + 5, none⟩ = some b5 :=
  ⟨h, Ext.use (Ext.cells x0) h, Ext.use (Ext.cells x1) h, Ext.use (Ext.cells o0) h, Ext.use (Ext.cells o1) h, Ext.use (Ext.cells o2) h, Ext.use (Ext.cells o3) h, Ext.use (Ext.cells o4) h, Ext.use (Ext.cells o5) h⟩
set_option maxRecDepth 16000 in
set_option maxHeartbeats 8000000 in
theorem modelDoes_walk (v0 v1 : Value) (w : World) (s0 : Fr.ok1 w (.int .i64) v0) (s1 : Fr.ok1 w (.slice [.int .i64, .int .i64, .int .i64, .int .i64, .int .i64, .int .i64, .int .i64, .int .i64, .int .i64, .int .i64, .slice [.int .i64, .int .i64]]) v1) :
    Calls Try.prog 3 #[v0, v1] w fun e w' => e = .returned (.bool true) ∧ Below w.heap.size w w' := by
  obtain ⟨t, rfl, _⟩ := Fr.get_int s0
  obtain ⟨ao, len, cap, rfl, hlc, hcap, hst⟩ := steps_open s1
  have HST := Lib.hid hst
  clear s0 s1 hst
  refine Calls.veil fun Q HQ => ?_
  go_enter Try.func3, Try.ntmps3
  rcases (by omega : 100 < len ∨ len ≤ 100) with j | j
  · go_wp2_with fail
    refine (lives10_calls _).mono ?_; rintro _ w3 ⟨rfl, hb⟩
    go_wp2_with fail
    (try go_ret)
    rw [HQ.out]
    exact ⟨rfl, hb⟩
  go_wp2_with fail
  refine (mnew10 t _).mono ?_; rintro _ w1 ⟨tv, rfl, ht, hb1⟩
  have HT1 := Lib.hid ht
  have HB1 := Lib.hid hb1
  obtain ⟨n, hn⟩ : ∃ n, n = clampN t := ⟨_, rfl⟩
  have HN6 := Lib.hid (show n ≤ 6 by rw [hn]; exact clamp6 t)
  obtain ⟨q, d, rfl, _, _, _⟩ := ht.slice
  clear ht hb1
  go_wp2_with fail
  refine (rnew10 t _).mono ?_; rintro _ w2 ⟨tv, rfl, ht, hb2⟩
  rw [← hn] at HT1 ht ⊢
  have HT2 := Lib.hid ht
  have HT1 := Lib.hid (HT1.out.below hb2)
  have HB2 := Lib.hid (below_on HB1.out hb2)
  obtain ⟨q2, d2, rfl, _, _, _⟩ := ht.slice
  clear ht hb2 hn HB1
  go_upto_region 4 with fail
  have h2 := heap2 w2 (.cells #[.slice none 0 0, .slice q n d] 27) (.cells #[.slice none 0 0, .slice q2 n d2] 31)
  simp only at h2
  have hbv : Below w2.heap.size w2 ((w2.alloc (.cells #[.slice none 0 0, .slice q n d] 27)).alloc (.cells #[.slice none 0 0, .slice q2 n d2] 31)) := by (repeat (first | exact Below.refl _ _ | assumption | refine below_new ?_ _ | refine Below.drew ?_ | refine below_drewN ?_ _ | refine below_on ?_ (by assumption)))
  generalize hU : World.alloc _ _ = V at h2 hbv
  clear hU
  obtain ⟨u0, u1⟩ := h2
  have HU := Lib.hid (And.intro u0 u1)
  have HTA := Lib.hid (HT1.out.below hbv)
  have HTB := Lib.hid (HT2.out.below hbv)
  have HBV := Lib.hid (below_on HB2.out hbv)
  have HXX := Lib.hid (show w.heap.size ≤ w2.heap.size from HB2.out.size)
  clear hbv u0 u1 HT1 HT2 HB2
  generalize w2.heap.size = X at *
  go_wp2_with fail
  go_loopw [7] (fun iv wr => ∃ i : Nat, i ≤ len ∧ iv = .int .i64 i ∧ ∃ (st : Sm) (mv tv mv2 tv2 : Value), Hid (OkN i st) ∧ Hid (wr.heap[X]? = some (.cells #[mv, tv] 27 (0, 0))) ∧ Hid (wr.heap[X + 1]? = some (.cells #[mv2, tv2] 31 (0, 0))) ∧ Hid (PO wr mv st.mp) ∧ Hid (TR wr tv st.n st.th) ∧ Hid (PO wr mv2 st.mp) ∧ Hid (TR wr tv2 st.n st.th) ∧ Hid (Below w.heap.size w wr))
    (fun iv _ => len - (intOf iv).toNat)
  case atStart => exact ⟨0, Nat.zero_le _, rfl, ⟨[], n, fun _ => s0⟩, _, _, _, _, Lib.hid (OkN.new n HN6.out), Lib.hid HU.out.1, Lib.hid HU.out.2, Lib.hid (PO.nil _), HTA, Lib.hid (PO.nil _), HTB, HBV⟩
  case round =>
    obtain ⟨i, hi, rfl, st, mv, tv, mv2, tv2, HOK, HX, HY, HP, HT, HP2, HT2, HB⟩ := hrel
    rcases (by omega : len ≤ i ∨ i < len) with hge | hlt
    · go_wp2_with fail
      refine (lives10_calls _).mono ?_; rintro _ w3 ⟨rfl, hb⟩
      go_wp2_with fail
      (try go_ret)
      rw [HQ.out]
      exact ⟨rfl, below_on HB.out hb⟩
    obtain ⟨g, off, rfl, th, c, hstc⟩ := HST.out i hlt
    have HSC := Lib.hid (hstc.below HB.out)
    obtain ⟨o0, o1, o2, o3, o4, o5, r0, r1⟩ := HSC.out
    have HK := Lib.hid (And.intro r0 r1)
    obtain ⟨op, key, val, hi2, lim⟩ := c
    simp only at o0 o1 o2 o3 o4 o5
    obtain ⟨p, cc, rfl, _, _⟩ := HP.out.1.slice
    obtain ⟨q, d, rfl, _, _, _⟩ := HT.out.slice
    obtain ⟨p2, cc2, rfl, _, _⟩ := HP2.out.1.slice
    obtain ⟨q2, d2, rfl, _, _, _⟩ := HT2.out.slice
    have x0 : wr.cell? ⟨X, 0, none⟩ = some (.slice p st.mp.length cc) := by rw [cell_of_row _ _ _ _ _ (0, 0) HX.out]; rfl
    have x1 : wr.cell? ⟨X, 1, none⟩ = some (.slice q st.n d) := by rw [cell_of_row _ _ _ _ _ (0, 0) HX.out]; rfl
    have hii : (i : Int) < len := by omega
    have RD := fun (W : World) (k : Below wr.heap.size wr W) => mdo (HP.out.1.below k) (HT.out.below k) (HOK.out.ok (by omega)) th ⟨op, key, val, hi2, lim⟩
    have HOK2 := Lib.hid (HOK.out.call th ⟨op, key, val, hi2, lim⟩ HK.out)
    obtain ⟨st', hst'⟩ : ∃ x, x = (doA st th ⟨op, key, val, hi2, lim⟩).1 := ⟨_, rfl⟩
    obtain ⟨an, han⟩ : ∃ x, x = (doA st th ⟨op, key, val, hi2, lim⟩).2 := ⟨_, rfl⟩
    rw [← hst'] at RD HOK2
    rw [← han] at RD
    have HSE := Lib.hid (And.intro hst' han)
    simp only [caV] at RD
    have RD := Lib.hid RD
    clear hst' han r0 r1 hstc
    go_upto_region 7 with fail
    go_cut [8, 9] from 20 to 68 (fun p8 p9 wc => DoD 27 wr st' an p8 p9 wc)
    case first =>
      go_region_held3 (fun w' => Below wr.heap.size wr w' ∧ w'.cell? ⟨X, 0, none⟩ = some (.slice p st.mp.length cc) ∧ w'.cell? ⟨X, 1, none⟩ = some (.slice q st.n d) ∧ w'.cell? ⟨g, off + i * 11, none⟩ = some (.int .i64 th) ∧ w'.cell? ⟨g, off + i * 11 + 1, none⟩ = some (.int .i64 op) ∧ w'.cell? ⟨g, off + i * 11 + 2, none⟩ = some (.int .i64 key) ∧ w'.cell? ⟨g, off + i * 11 + 3, none⟩ = some (.int .i64 val) ∧ w'.cell? ⟨g, off + i * 11 + 4, none⟩ = some (.int .i64 hi2) ∧ w'.cell? ⟨g, off + i * 11 + 5, none⟩ = some (.int .i64 lim))
        (((with_reducible refine b8_mk ?_ x0 x1 o0 o1 o2 o3 o4 o5); (repeat (with_reducible (first | exact Below.refl _ _ | refine below_new ?_ _ | refine Below.drew ?_ | refine below_set ?_ (Nat.le_refl _) _ | refine below_set ?_ (Nat.le_succ _) _ | refine below_set ?_ hsz9 _ | refine below_set ?_ (Nat.le_succ_of_le hsz9) _ | refine below_on ?_ hb9)))))
        (first
        | (go_at_call 9; (with_reducible refine (RD.out (World.drew (World.alloc (World.alloc _ (.cells #[_, _] _)) _)) ((below_new (below_new (Below.refl _ wr) _) _).drew)).mono ?_); rintro _ w9 ⟨mv9, tv9, av9, rfl, hp9, ht9, ha9, hb9⟩; obtain ⟨p9, c9, rfl, _, _⟩ := hp9.1.slice; obtain ⟨q9, d9, rfl, _, _, _⟩ := ht9.slice; obtain ⟨r9, e9, rfl, _, _⟩ := ha9.1.slice; unfold anV; simp only; have HP9 := Lib.hid hp9; have HT9 := Lib.hid ht9; have HA9 := Lib.hid ha9; clear hp9 ht9 ha9; have HB9 := Lib.hid (below_on ((below_new (below_new (Below.refl _ wr) _) _).drew) hb9); have hsz9 := HB9.out.size; have yh := heapnew2 hb9; have ya := yh.1; have yb := yh.2; have yaf := newfree ya; have yag := newfreeA ya; have ya0 := newcell ya 0 _ rfl; have ya0n := Ext.on ya0; have ya1 := newcell ya 1 _ rfl; have ya1n := Ext.on ya1; have ybf := newfree yb; have ybg := newfreeA yb; have yb0 := newcell yb 0 _ rfl; have yb0n := Ext.on yb0; have yb1 := newcell yb 1 _ rfl; have yb1n := Ext.on yb1; have yb2 := newcell yb 2 _ rfl; have yb2n := Ext.on yb2; have yb3 := newcell yb 3 _ rfl; have yb3n := Ext.on yb3; have yb4 := newcell yb 4 _ rfl; have yb4n := Ext.on yb4; have YA := Lib.hid ya; have YB := Lib.hid yb; clear yh ya yb)
        | (go_at_call 9; (with_reducible refine (RD.out (World.drew (World.alloc (World.alloc _ (.cells #[_, _, _, _, _] _)) _)) ((below_new (below_new (Below.refl _ wr) _) _).drew)).mono ?_); rintro _ w9 ⟨mv9, tv9, av9, rfl, hp9, ht9, ha9, hb9⟩; obtain ⟨p9, c9, rfl, _, _⟩ := hp9.1.slice; obtain ⟨q9, d9, rfl, _, _, _⟩ := ht9.slice; obtain ⟨r9, e9, rfl, _, _⟩ := ha9.1.slice; unfold anV; simp only; have HP9 := Lib.hid hp9; have HT9 := Lib.hid ht9; have HA9 := Lib.hid ha9; clear hp9 ht9 ha9; have HB9 := Lib.hid (below_on ((below_new (below_new (Below.refl _ wr) _) _).drew) hb9); have hsz9 := HB9.out.size; have yh := heapnew2 hb9; have ya := yh.1; have yb := yh.2; have yaf := newfree ya; have yag := newfreeA ya; have ya0 := newcell ya 0 _ rfl; have ya0n := Ext.on ya0; have ya1 := newcell ya 1 _ rfl; have ya1n := Ext.on ya1; have ya2 := newcell ya 2 _ rfl; have ya2n := Ext.on ya2; have ya3 := newcell ya 3 _ rfl; have ya3n := Ext.on ya3; have ya4 := newcell ya 4 _ rfl; have ya4n := Ext.on ya4; have ybf := newfree yb; have ybg := newfreeA yb; have yb0 := newcell yb 0 _ rfl; have yb0n := Ext.on yb0; have yb1 := newcell yb 1 _ rfl; have yb1n := Ext.on yb1; have YA := Lib.hid ya; have YB := Lib.hid yb; clear yh ya yb)
        | (go_at_call 9; (with_reducible refine (RD.out (World.drew (World.alloc _ (.cells #[_, _] _))) ((below_new (Below.refl _ wr) _).drew)).mono ?_); rintro _ w9 ⟨mv9, tv9, av9, rfl, hp9, ht9, ha9, hb9⟩; obtain ⟨p9, c9, rfl, _, _⟩ := hp9.1.slice; obtain ⟨q9, d9, rfl, _, _, _⟩ := ht9.slice; obtain ⟨r9, e9, rfl, _, _⟩ := ha9.1.slice; unfold anV; simp only; have HP9 := Lib.hid hp9; have HT9 := Lib.hid ht9; have HA9 := Lib.hid ha9; clear hp9 ht9 ha9; have HB9 := Lib.hid (below_on ((below_new (Below.refl _ wr) _).drew) hb9); have hsz9 := HB9.out.size; have ya := heapnew1 hb9; have yn1 := (size_ne hb9).1; have yn2 := (size_ne hb9).2; have yaf := newfree ya; have yag := newfreeA ya; have ya0 := newcell ya 0 _ rfl; have ya0n := Ext.on ya0; have ya1 := newcell ya 1 _ rfl; have ya1n := Ext.on ya1; have YA := Lib.hid ya; clear ya)
        | (go_at_call 9; (with_reducible refine (RD.out (World.drew (World.alloc _ (.cells #[_, _, _, _, _] _))) ((below_new (Below.refl _ wr) _).drew)).mono ?_); rintro _ w9 ⟨mv9, tv9, av9, rfl, hp9, ht9, ha9, hb9⟩; obtain ⟨p9, c9, rfl, _, _⟩ := hp9.1.slice; obtain ⟨q9, d9, rfl, _, _, _⟩ := ht9.slice; obtain ⟨r9, e9, rfl, _, _⟩ := ha9.1.slice; unfold anV; simp only; have HP9 := Lib.hid hp9; have HT9 := Lib.hid ht9; have HA9 := Lib.hid ha9; clear hp9 ht9 ha9; have HB9 := Lib.hid (below_on ((below_new (Below.refl _ wr) _).drew) hb9); have hsz9 := HB9.out.size; have ya := heapnew1 hb9; have yn1 := (size_ne hb9).1; have yn2 := (size_ne hb9).2; have yaf := newfree ya; have yag := newfreeA ya; have ya0 := newcell ya 0 _ rfl; have ya0n := Ext.on ya0; have ya1 := newcell ya 1 _ rfl; have ya1n := Ext.on ya1; have ya2 := newcell ya 2 _ rfl; have ya2n := Ext.on ya2; have ya3 := newcell ya 3 _ rfl; have ya3n := Ext.on ya3; have ya4 := newcell ya 4 _ rfl; have ya4n := Ext.on ya4; have YA := Lib.hid ya; clear ya)
        | (go_at_call 9; (with_reducible refine (RD.out wr.drew ((Below.refl _ wr).drew)).mono ?_); rintro _ w9 ⟨mv9, tv9, av9, rfl, hp9, ht9, ha9, hb9⟩; obtain ⟨p9, c9, rfl, _, _⟩ := hp9.1.slice; obtain ⟨q9, d9, rfl, _, _, _⟩ := ht9.slice; obtain ⟨r9, e9, rfl, _, _⟩ := ha9.1.slice; unfold anV; simp only; have HP9 := Lib.hid hp9; have HT9 := Lib.hid ht9; have HA9 := Lib.hid ha9; clear hp9 ht9 ha9; have HB9 := Lib.hid (below_on ((Below.refl _ wr).drew) hb9); have hsz9 := HB9.out.size)
        | (fail "NOARM"))
      all_goals
        go_wp2_with fail
        go_meet
        case rel =>
          have hT0 : (27 : TypeId) ≠ 53 := by decide
          have hn1 : wr.heap.size ≠ wr.heap.size + 1 := by omega
          have hn2 : wr.heap.size + 1 ≠ wr.heap.size := by omega
          with_reducible first
          | exact do_a HB9.out HP9.out HT9.out HA9.out
          | exact do_b HB9.out HP9.out HT9.out HA9.out
          | exact do_c hT0 YA.out (Nat.le_refl _) HB9.out HP9.out HT9.out HA9.out
          | exact do_f YA.out (Nat.le_refl _) HB9.out HP9.out HT9.out HA9.out
          | exact do_fin hT0 YA.out YB.out hn1 HB9.out (Nat.le_refl _) (Nat.le_succ _) HP9.out HT9.out HA9.out
          | exact do_fin hT0 YB.out YA.out hn2 HB9.out (Nat.le_succ _) (Nat.le_refl _) HP9.out HT9.out HA9.out
    case rest =>
    obtain ⟨R8, R9, mv8, tv8, av8, rfl, rfl, h8, h9, hp8, ht8, ha8, hb8⟩ := hcut
    have H8 := Lib.hid h8; have H9 := Lib.hid h9; have HP8 := Lib.hid hp8; have HT8 := Lib.hid ht8; have HA8 := Lib.hid ha8; have HB8 := Lib.hid hb8
    have HSC8 := Lib.hid (HSC.out.below hb8)
    have HX8 := Lib.hid ((hb8.block _ (Array.getElem?_eq_some_iff.1 HX.out).1).trans HX.out)
    have HY8 := Lib.hid ((hb8.block _ (Array.getElem?_eq_some_iff.1 HY.out).1).trans HY.out)
    have HP28 := Lib.hid (HP2.out.below hb8); have HT28 := Lib.hid (HT2.out.below hb8)
    have HBW := Lib.hid (below_on HB.out hb8)
    clear h8 h9 hp8 ht8 ha8 hb8 x0 x1 o0 o1 o2 o3 o4 o5
    obtain ⟨o0, o1, o2, o3, o4, o5, _, _⟩ := HSC8.out
    simp only at o0 o1 o2 o3 o4 o5
    have y0 : wc.cell? ⟨X + 1, 0, none⟩ = some (.slice p2 st.mp.length cc2) := newcell HY8.out 0 _ rfl
    have y1 : wc.cell? ⟨X + 1, 1, none⟩ = some (.slice q2 st.n d2) := newcell HY8.out 1 _ rfl
    have RD := fun (W : World) (k : Below wc.heap.size wc W) => rdo (HP28.out.below k) (HT28.out.below k) (HOK.out.ok (by omega)) th ⟨op, key, val, hi2, lim⟩
    rw [← HSE.out.1, ← HSE.out.2] at RD
    simp only [caV] at RD
    have RD := Lib.hid RD
    go_upto_region 8 with fail
    go_cut [10, 11] from 20 to 68 (fun p10 p11 wd => DoD 31 wc st' an p10 p11 wd)
    case first =>
      go_region_held3 (fun w' => Below wc.heap.size wc w' ∧ w'.cell? ⟨X + 1, 0, none⟩ = some (.slice p2 st.mp.length cc2) ∧ w'.cell? ⟨X + 1, 1, none⟩ = some (.slice q2 st.n d2) ∧ w'.cell? ⟨g, off + i * 11, none⟩ = some (.int .i64 th) ∧ w'.cell? ⟨g, off + i * 11 + 1, none⟩ = some (.int .i64 op) ∧ w'.cell? ⟨g, off + i * 11 + 2, none⟩ = some (.int .i64 key) ∧ w'.cell? ⟨g, off + i * 11 + 3, none⟩ = some (.int .i64 val) ∧ w'.cell? ⟨g, off + i * 11 + 4, none⟩ = some (.int .i64 hi2) ∧ w'.cell? ⟨g, off + i * 11 + 5, none⟩ = some (.int .i64 lim))
        (((with_reducible refine b8_mk ?_ y0 y1 o0 o1 o2 o3 o4 o5); (repeat (with_reducible (first | exact Below.refl _ _ | refine below_new ?_ _ | refine Below.drew ?_ | refine below_set ?_ (Nat.le_refl _) _ | refine below_set ?_ (Nat.le_succ _) _ | refine below_set ?_ hsz9 _ | refine below_set ?_ (Nat.le_succ_of_le hsz9) _ | refine below_on ?_ hb9)))))
        (first
        | (go_at_call 10; (with_reducible refine (RD.out (World.drew (World.alloc (World.alloc _ (.cells #[_, _] _)) _)) ((below_new (below_new (Below.refl _ wc) _) _).drew)).mono ?_); rintro _ w9 ⟨mv9, tv9, av9, rfl, hp9, ht9, ha9, hb9⟩; obtain ⟨p9, c9, rfl, _, _⟩ := hp9.1.slice; obtain ⟨q9, d9, rfl, _, _, _⟩ := ht9.slice; obtain ⟨r9, e9, rfl, _, _⟩ := ha9.1.slice; unfold anV; simp only; have HP9 := Lib.hid hp9; have HT9 := Lib.hid ht9; have HA9 := Lib.hid ha9; clear hp9 ht9 ha9; have HB9 := Lib.hid (below_on ((below_new (below_new (Below.refl _ wc) _) _).drew) hb9); have hsz9 := HB9.out.size; have yh := heapnew2 hb9; have ya := yh.1; have yb := yh.2; have yaf := newfree ya; have yag := newfreeA ya; have ya0 := newcell ya 0 _ rfl; have ya0n := Ext.on ya0; have ya1 := newcell ya 1 _ rfl; have ya1n := Ext.on ya1; have ybf := newfree yb; have ybg := newfreeA yb; have yb0 := newcell yb 0 _ rfl; have yb0n := Ext.on yb0; have yb1 := newcell yb 1 _ rfl; have yb1n := Ext.on yb1; have yb2 := newcell yb 2 _ rfl; have yb2n := Ext.on yb2; have yb3 := newcell yb 3 _ rfl; have yb3n := Ext.on yb3; have yb4 := newcell yb 4 _ rfl; have yb4n := Ext.on yb4; have YA := Lib.hid ya; have YB := Lib.hid yb; clear yh ya yb)
        | (go_at_call 10; (with_reducible refine (RD.out (World.drew (World.alloc (World.alloc _ (.cells #[_, _, _, _, _] _)) _)) ((below_new (below_new (Below.refl _ wc) _) _).drew)).mono ?_); rintro _ w9 ⟨mv9, tv9, av9, rfl, hp9, ht9, ha9, hb9⟩; obtain ⟨p9, c9, rfl, _, _⟩ := hp9.1.slice; obtain ⟨q9, d9, rfl, _, _, _⟩ := ht9.slice; obtain ⟨r9, e9, rfl, _, _⟩ := ha9.1.slice; unfold anV; simp only; have HP9 := Lib.hid hp9; have HT9 := Lib.hid ht9; have HA9 := Lib.hid ha9; clear hp9 ht9 ha9; have HB9 := Lib.hid (below_on ((below_new (below_new (Below.refl _ wc) _) _).drew) hb9); have hsz9 := HB9.out.size; have yh := heapnew2 hb9; have ya := yh.1; have yb := yh.2; have yaf := newfree ya; have yag := newfreeA ya; have ya0 := newcell ya 0 _ rfl; have ya0n := Ext.on ya0; have ya1 := newcell ya 1 _ rfl; have ya1n := Ext.on ya1; have ya2 := newcell ya 2 _ rfl; have ya2n := Ext.on ya2; have ya3 := newcell ya 3 _ rfl; have ya3n := Ext.on ya3; have ya4 := newcell ya 4 _ rfl; have ya4n := Ext.on ya4; have ybf := newfree yb; have ybg := newfreeA yb; have yb0 := newcell yb 0 _ rfl; have yb0n := Ext.on yb0; have yb1 := newcell yb 1 _ rfl; have yb1n := Ext.on yb1; have YA := Lib.hid ya; have YB := Lib.hid yb; clear yh ya yb)
        | (go_at_call 10; (with_reducible refine (RD.out (World.drew (World.alloc _ (.cells #[_, _] _))) ((below_new (Below.refl _ wc) _).drew)).mono ?_); rintro _ w9 ⟨mv9, tv9, av9, rfl, hp9, ht9, ha9, hb9⟩; obtain ⟨p9, c9, rfl, _, _⟩ := hp9.1.slice; obtain ⟨q9, d9, rfl, _, _, _⟩ := ht9.slice; obtain ⟨r9, e9, rfl, _, _⟩ := ha9.1.slice; unfold anV; simp only; have HP9 := Lib.hid hp9; have HT9 := Lib.hid ht9; have HA9 := Lib.hid ha9; clear hp9 ht9 ha9; have HB9 := Lib.hid (below_on ((below_new (Below.refl _ wc) _).drew) hb9); have hsz9 := HB9.out.size; have ya := heapnew1 hb9; have yn1 := (size_ne hb9).1; have yn2 := (size_ne hb9).2; have yaf := newfree ya; have yag := newfreeA ya; have ya0 := newcell ya 0 _ rfl; have ya0n := Ext.on ya0; have ya1 := newcell ya 1 _ rfl; have ya1n := Ext.on ya1; have YA := Lib.hid ya; clear ya)
        | (go_at_call 10; (with_reducible refine (RD.out (World.drew (World.alloc _ (.cells #[_, _, _, _, _] _))) ((below_new (Below.refl _ wc) _).drew)).mono ?_); rintro _ w9 ⟨mv9, tv9, av9, rfl, hp9, ht9, ha9, hb9⟩; obtain ⟨p9, c9, rfl, _, _⟩ := hp9.1.slice; obtain ⟨q9, d9, rfl, _, _, _⟩ := ht9.slice; obtain ⟨r9, e9, rfl, _, _⟩ := ha9.1.slice; unfold anV; simp only; have HP9 := Lib.hid hp9; have HT9 := Lib.hid ht9; have HA9 := Lib.hid ha9; clear hp9 ht9 ha9; have HB9 := Lib.hid (below_on ((below_new (Below.refl _ wc) _).drew) hb9); have hsz9 := HB9.out.size; have ya := heapnew1 hb9; have yn1 := (size_ne hb9).1; have yn2 := (size_ne hb9).2; have yaf := newfree ya; have yag := newfreeA ya; have ya0 := newcell ya 0 _ rfl; have ya0n := Ext.on ya0; have ya1 := newcell ya 1 _ rfl; have ya1n := Ext.on ya1; have ya2 := newcell ya 2 _ rfl; have ya2n := Ext.on ya2; have ya3 := newcell ya 3 _ rfl; have ya3n := Ext.on ya3; have ya4 := newcell ya 4 _ rfl; have ya4n := Ext.on ya4; have YA := Lib.hid ya; clear ya)
        | (go_at_call 10; (with_reducible refine (RD.out wc.drew ((Below.refl _ wc).drew)).mono ?_); rintro _ w9 ⟨mv9, tv9, av9, rfl, hp9, ht9, ha9, hb9⟩; obtain ⟨p9, c9, rfl, _, _⟩ := hp9.1.slice; obtain ⟨q9, d9, rfl, _, _, _⟩ := ht9.slice; obtain ⟨r9, e9, rfl, _, _⟩ := ha9.1.slice; unfold anV; simp only; have HP9 := Lib.hid hp9; have HT9 := Lib.hid ht9; have HA9 := Lib.hid ha9; clear hp9 ht9 ha9; have HB9 := Lib.hid (below_on ((Below.refl _ wc).drew) hb9); have hsz9 := HB9.out.size)
        | (fail "NOARM"))
      all_goals
        go_wp2_with fail
        go_meet
        case rel =>
          have hT0 : (31 : TypeId) ≠ 53 := by decide
          have hn1 : wc.heap.size ≠ wc.heap.size + 1 := by omega
          have hn2 : wc.heap.size + 1 ≠ wc.heap.size := by omega
          with_reducible first
          | exact do_a HB9.out HP9.out HT9.out HA9.out
          | exact do_b HB9.out HP9.out HT9.out HA9.out
          | exact do_c hT0 YA.out (Nat.le_refl _) HB9.out HP9.out HT9.out HA9.out
          | exact do_f YA.out (Nat.le_refl _) HB9.out HP9.out HT9.out HA9.out
          | exact do_fin hT0 YA.out YB.out hn1 HB9.out (Nat.le_refl _) (Nat.le_succ _) HP9.out HT9.out HA9.out
          | exact do_fin hT0 YB.out YA.out hn2 HB9.out (Nat.le_succ _) (Nat.le_refl _) HP9.out HT9.out HA9.out
    case rest =>
    obtain ⟨R10, R11, mv10, tv10, av10, rfl, rfl, h10, h11, hp10, ht10, ha10, hb10⟩ := hcut
    have hx := (hb10.block _ (Array.getElem?_eq_some_iff.1 HX8.out).1).trans HX8.out
    have hy := (hb10.block _ (Array.getElem?_eq_some_iff.1 HY8.out).1).trans HY8.out
    have h8 := (hb10.block _ (Array.getElem?_eq_some_iff.1 H8.out).1).trans H8.out
    have h9 := (hb10.block _ (Array.getElem?_eq_some_iff.1 H9.out).1).trans H9.out
    obtain ⟨p8, c8, rfl, _, _⟩ := HP8.out.1.slice
    obtain ⟨q8, d8, rfl, _, _, _⟩ := HT8.out.slice
    obtain ⟨p10, c10, rfl, _, _⟩ := hp10.1.slice
    obtain ⟨q10, d10, rfl, _, _, _⟩ := ht10.slice
    have hne : ∀ {a b : Nat} {u v : Array Value} {T S : TypeId}, T ≠ S → wc.heap[a]? = some (.cells u T (0, 0)) → wc.heap[b]? = some (.cells v S (0, 0)) → a ≠ b := fun hT h1 h2 e => by
      subst e; rw [h1] at h2; simp only [Option.some.injEq, Obj.cells.injEq] at h2; exact hT h2.2.1
    have n1 : X ≠ X + 1 := by omega
    have n2 : R10 ≠ X := hne (by decide) h10 hx
    have n3 : R9 ≠ X := hne (by decide) h9 hx
    have n4 : R9 ≠ X + 1 := hne (by decide) h9 hy
    have n5 : R11 ≠ X := hne (by decide) h11 hx
    have n6 : R11 ≠ X + 1 := hne (by decide) h11 hy
    have N := Lib.hid (And.intro n3 (And.intro n4 (And.intro n5 n6)))
    have HHX := Lib.hid hx; have HHY := Lib.hid hy; have HH9 := Lib.hid h9; have HH11 := Lib.hid h11
    have HP10 := Lib.hid hp10; have HT10 := Lib.hid ht10; have HA10 := Lib.hid ha10; have HB10 := Lib.hid (below_on HBW.out hb10)
    have HP8 := Lib.hid (HP8.out.below hb10); have HT8 := Lib.hid (HT8.out.below hb10); have HA8 := Lib.hid (HA8.out.below hb10)
    have e0 := newcell h8 0 _ rfl; have e1 := newcell h8 1 _ rfl
    have f0 := newcell h10 0 _ rfl; have f1 := newcell h10 1 _ rfl
    have a0 := newcell hx 0 _ rfl; have a1 := newcell hx 1 _ rfl; have af := newfree hx
    have b0 := newcell hy 0 _ rfl; have b1 := newcell hy 1 _ rfl; have bf := newfree hy
    clear hx hy h8 h9 h10 h11 hp10 ht10 ha10 hb10 o0 o1 o2 o3 o4 o5 y0 y1 n3 n4 n5 n6 hne
    go_upto_region 11 with fail
    generalize hW : World.setCell _ _ _ = W
    obtain ⟨B2, X2, Y2, NP2, L2, TR2⟩ := two_sets (.slice p8 st'.mp.length c8) (.slice q8 st'.n d8) (.slice p10 st'.mp.length c10) (.slice q10 st'.n d10) HB10.out HXX.out HHX.out HHY.out hW
    have h92 := (L2 R9 N.out.1 N.out.2.1).trans HH9.out
    have h112 := (L2 R11 N.out.2.2.1 N.out.2.2.2).trans HH11.out
    have F1 := HA8.out.np NP2; have F2 := HA10.out.np NP2
    have G1 := HP8.out.np NP2; have G2 := TR2 _ _ _ HT8.out; have G3 := HP10.out.np NP2; have G4 := TR2 _ _ _ HT10.out
    have hps := doA_ps HOK.out th ⟨op, key, val, hi2, lim⟩
    rw [← HSE.out.2] at hps
    have hpsb : an.ps.length ≤ 100000 := by omega
    obtain ⟨r8, s8, rfl, _, _⟩ := F1.1.slice
    obtain ⟨r10, s10, rfl, _, _⟩ := F2.1.slice
    have HF1 := Lib.hid F1; have HF2 := Lib.hid F2
    have HG1 := Lib.hid G1; have HG2 := Lib.hid G2; have HG3 := Lib.hid G3; have HG4 := Lib.hid G4
    have HX2 := Lib.hid X2; have HY2 := Lib.hid Y2; have HB2 := Lib.hid B2; have HPS := Lib.hid hpsb
    have hn6' : st'.n ≤ 6 := HOK2.out.n6
    have HN6' := Lib.hid hn6'
    have HOKS := Lib.hid (HOK2.out.ok (by omega))
    have k0 := Ext.cells (newcell h92 0 _ rfl); have k1 := Ext.cells (newcell h92 1 _ rfl); have k2 := Ext.cells (newcell h92 2 _ rfl); have k3 := Ext.cells (newcell h92 3 _ rfl); have k4 := Ext.cells (newcell h92 4 _ rfl)
    have l0 := Ext.cells (newcell h112 0 _ rfl); have l1 := Ext.cells (newcell h112 1 _ rfl); have l2 := Ext.cells (newcell h112 2 _ rfl); have l3 := Ext.cells (newcell h112 3 _ rfl); have l4 := Ext.cells (newcell h112 4 _ rfl)
    have m0 := Ext.cells (newcell X2 0 _ rfl); have m1 := Ext.cells (newcell X2 1 _ rfl)
    have n0 := Ext.cells (newcell Y2 0 _ rfl); have n1' := Ext.cells (newcell Y2 1 _ rfl)
    clear hW B2 X2 Y2 NP2 L2 TR2 h92 h112 F1 F2 G1 G2 G3 G4 hps hpsb hn6' e0 e1 f0 f1 a0 a1 af b0 b1 bf HP8 HT8 HA8 HP10 HT10 HA10 N HHX HHY HH9 HH11 HB10 HBW HX8 HY8 HP28 HT28 HSC8 H8 H9 HB8 HSC RD HU HTA HTB HBV HP HT HP2 HT2 HX HY HB n1 n2
    (with_reducible refine wp_region_mix (fun w' => ∃ y : Ext W, w' = y.w) ?_ ?_ ?_ ?_; kernel_rfl; kernel_rfl; exact ⟨⟨W.drew, (Below.refl _ _).drew⟩, rfl⟩)
    have hd : Below W.heap.size W W.drew := (Below.refl _ _).drew
    repeat (first | ((with_reducible refine mix_plain (by kernel_rfl) ?_); (first | go_big_quiet_skip | (go_big_quiet_want; go_big_quiet_op; go_big_quiet_on)); (with_reducible refine mix_on ?_)) | ((with_reducible refine mix_skip (by kernel_rfl) ?_); go_big_quiet_skip; (with_reducible refine mix_on ?_)))
    ((with_reducible refine wpMix_chain (by kernel_rfl) (by kernel_rfl) (fun K HK => ?_)); go_step)
    refine (rsame9 an.kind an.key an.val an.n _ an.ps an.kind an.key an.val an.n _ an.ps W.drew (HF1.out.below hd).1 (HF2.out.below hd).1 HPS.out).mono ?_; rintro _ w3 ⟨rfl, hb3⟩
    have hb3 := below_on hd hb3
    rw [sameAB_refl]
    refine HK.out _ _ ⟨⟨w3, hb3⟩, rfl⟩ ?_
    clear HK K hd
    repeat (first | ((with_reducible refine mix_plain (by kernel_rfl) ?_); (first | go_big_quiet_skip | (go_big_quiet_want; go_big_quiet_op; go_big_quiet_on)); (with_reducible refine mix_on ?_)) | ((with_reducible refine mix_skip (by kernel_rfl) ?_); go_big_quiet_skip; (with_reducible refine mix_on ?_)))
    ((with_reducible refine wpMix_chain (by kernel_rfl) (by kernel_rfl) (fun K HK => ?_)); go_step)
    refine (las (HG1.out.below hb3).1 (HG2.out.below hb3) HN6'.out).mono ?_; rintro _ w4 ⟨tv4, rfl, ht4, hb4⟩
    have hb4 := below_on hb3 hb4
    refine HK.out _ _ ⟨⟨w4, hb4⟩, rfl⟩ ?_
    clear HK K hb3
    repeat (first | ((with_reducible refine mix_plain (by kernel_rfl) ?_); (first | go_big_quiet_skip | (go_big_quiet_want; go_big_quiet_op; go_big_quiet_on)); (with_reducible refine mix_on ?_)) | ((with_reducible refine mix_skip (by kernel_rfl) ?_); go_big_quiet_skip; (with_reducible refine mix_on ?_)))
    ((with_reducible refine wpMix_chain (by kernel_rfl) (by kernel_rfl) (fun K HK => ?_)); go_step)
    refine (rsame10 (HG1.out.below hb4).1 ht4 (HG3.out.below hb4).1 (HG4.out.below hb4) HOKS.out).mono ?_; rintro _ w5 ⟨rfl, hb5⟩
    have hb5 := below_on hb4 hb5
    refine HK.out _ _ ⟨⟨w5, hb5⟩, rfl⟩ ?_
    clear HK K hb4 ht4
    repeat (first | ((with_reducible refine mix_plain (by kernel_rfl) ?_); (first | go_big_quiet_skip | (go_big_quiet_want; go_big_quiet_op; go_big_quiet_on)); (with_reducible refine mix_on ?_)) | ((with_reducible refine mix_skip (by kernel_rfl) ?_); go_big_quiet_skip; (with_reducible refine mix_on ?_)))
    refine wpMix_nil ?_
    have HB5 := Lib.hid hb5
    clear k0 k1 k2 k3 k4 l0 l1 l2 l3 l4 m0 m1 n0 n1' hb5
    go_wp2_with fail
    go_roundw
    case rel =>
      exact ⟨i + 1, by omega, by go_num, st', _, _, _, _, HOK2, Lib.hid ((HB5.out.block _ (blk_lt HX2.out)).trans HX2.out), Lib.hid ((HB5.out.block _ (blk_lt HY2.out)).trans HY2.out), Lib.hid (HG1.out.below HB5.out), Lib.hid (HG2.out.below HB5.out), Lib.hid (HG3.out.below HB5.out), Lib.hid (HG4.out.below HB5.out), Lib.hid (below_on HB2.out HB5.out)⟩
    case measure => simp [intOf]; omega
end Go.Proofs.Ytcbdbfmlkkpndaa
