/- Layer 10: the walk of ModelTold. -/
import Derived.Test.YtcbdbfmlkkpndaaModX
namespace Go.Proofs.Ytcbdbfmlkkpndaa
open Go.RowKit
set_option linter.unusedVariables false
set_option linter.unusedSimpArgs false
/-- A step's thread, call and answer. -/
def StA (w : World) (g o : Nat) (t : Int) (c : Ca) (a : An) (av : Value) : Prop :=
  StC w g o t c ∧ w.cell? ⟨g, o + 6, none⟩ = some (.int .i64 a.kind) ∧ w.cell? ⟨g, o + 7, none⟩ = some (.int .i64 a.key) ∧ w.cell? ⟨g, o + 8, none⟩ = some (.int .i64 a.val) ∧ w.cell? ⟨g, o + 9, none⟩ = some (.int .i64 a.n) ∧ w.cell? ⟨g, o + 10, none⟩ = some av ∧ PR w av a.ps
theorem StA.below {w w' : World} {g o : Nat} {t : Int} {c : Ca} {a : An} {av : Value} (h : StA w g o t c a av) (k : Below w.heap.size w w') : StA w' g o t c a av :=
  ⟨h.1.below k, Ext.use (Ext.cells h.2.1) k, Ext.use (Ext.cells h.2.2.1) k, Ext.use (Ext.cells h.2.2.2.1) k, Ext.use (Ext.cells h.2.2.2.2.1) k, Ext.use (Ext.cells h.2.2.2.2.2.1) k, h.2.2.2.2.2.2.below k⟩
theorem sta_cells {w : World} {cs : List Value} (h : Fr.Sh.oks w stSh cs) : ∃ (t : Int) (c : Ca) (a : An) (v : Value), cs = [.int .i64 t, .int .i64 c.op, .int .i64 c.key, .int .i64 c.val, .int .i64 c.hi, .int .i64 c.lim, .int .i64 a.kind, .int .i64 a.key, .int .i64 a.val, .int .i64 a.n, v] ∧ (-9223372036854775808 ≤ c.key ∧ c.key ≤ 9223372036854775807) ∧ PR w v a.ps := by
  obtain ⟨_, _, rfl, k0, h⟩ := Fr.get_cons h
  obtain ⟨_, _, rfl, k1, h⟩ := Fr.get_cons h
  obtain ⟨_, _, rfl, k2, h⟩ := Fr.get_cons h
  obtain ⟨_, _, rfl, k3, h⟩ := Fr.get_cons h
  obtain ⟨_, _, rfl, k4, h⟩ := Fr.get_cons h
  obtain ⟨_, _, rfl, k5, h⟩ := Fr.get_cons h
  obtain ⟨_, _, rfl, k6, h⟩ := Fr.get_cons h
  obtain ⟨_, _, rfl, k7, h⟩ := Fr.get_cons h
  obtain ⟨_, _, rfl, k8, h⟩ := Fr.get_cons h
  obtain ⟨_, _, rfl, k9, h⟩ := Fr.get_cons h
  obtain ⟨v, _, rfl, kv, h⟩ := Fr.get_cons h
  obtain rfl := Fr.get_nil h
  obtain ⟨t, rfl, _⟩ := Fr.get_int k0
  obtain ⟨c1, rfl, _⟩ := Fr.get_int k1
  obtain ⟨c2, rfl, w2⟩ := Fr.get_int k2
  obtain ⟨c3, rfl, _⟩ := Fr.get_int k3
  obtain ⟨c4, rfl, _⟩ := Fr.get_int k4
  obtain ⟨c5, rfl, _⟩ := Fr.get_int k5
  obtain ⟨c6, rfl, _⟩ := Fr.get_int k6
  obtain ⟨c7, rfl, _⟩ := Fr.get_int k7
  obtain ⟨c8, rfl, _⟩ := Fr.get_int k8
  obtain ⟨c9, rfl, _⟩ := Fr.get_int k9
  obtain ⟨l, hl⟩ := pairs_open kv
  exact ⟨t, ⟨c1, c2, c3, c4, c5⟩, ⟨c6, c7, c8, c9, l⟩, v, rfl, wfi64 w2, hl⟩
theorem stas_open {w : World} {v : Value} (h : Fr.ok1 w (.slice stSh) v) : ∃ ao len cap, v = .slice ao len cap ∧ len ≤ cap ∧ cap ≤ 9223372036854775807 ∧ ∀ i, i < len → ∃ g off, ao = some ⟨g, off, none⟩ ∧ ∃ t c a av, StA w g (off + i * 11) t c a av := by
  rcases Fr.get_slice h with rfl | ⟨a, len, cap, rfl, h1, h2, h3⟩
  · exact ⟨none, 0, 0, rfl, Nat.le_refl _, by decide, fun i hi => by omega⟩
  · refine ⟨some a, len, cap, rfl, h1, h2, fun i hi => ?_⟩
    obtain ⟨cs0, h5, h6⟩ := h3 0 (by omega)
    obtain ⟨t, c, k2, v1, rfl, _⟩ := sta_cells h6
    have hs : a.spot = none := by
      have h7 := (World.cells?_some h5).2.2 0 (by show 0 < 11; omega)
      exact World.cell?_spot (by simpa [Addr.add] using h7)
    obtain ⟨g, off, spot⟩ := a
    simp only at hs
    subst hs
    obtain ⟨cs, h5, h6⟩ := h3 i (by omega)
    obtain ⟨t, c, k2, v1, rfl, r, hp⟩ := sta_cells h6
    obtain ⟨_, _, h7⟩ := World.cells?_some h5
    have e1 : ((⟨g, off, none⟩ : Addr).add (i * stSh.length)) = ⟨g, off + i * 11, none⟩ := by
      simp [Addr.add, stSh] <;> (intro hh; subst hh; rfl)
    rw [e1] at h7
    refine ⟨g, off, rfl, t, c, k2, v1, ⟨?_, ?_, ?_, ?_, ?_, ?_, r⟩, ?_, ?_, ?_, ?_, ?_, hp⟩
    · simpa [Addr.add] using h7 0 (by show 0 < 11; omega)
    · simpa [Addr.add] using h7 1 (by show 1 < 11; omega)
    · simpa [Addr.add] using h7 2 (by show 2 < 11; omega)
    · simpa [Addr.add] using h7 3 (by show 3 < 11; omega)
    · simpa [Addr.add] using h7 4 (by show 4 < 11; omega)
    · simpa [Addr.add] using h7 5 (by show 5 < 11; omega)
    · simpa [Addr.add] using h7 6 (by show 6 < 11; omega)
    · simpa [Addr.add] using h7 7 (by show 7 < 11; omega)
    · simpa [Addr.add] using h7 8 (by show 8 < 11; omega)
    · simpa [Addr.add] using h7 9 (by show 9 < 11; omega)
    · simpa [Addr.add] using h7 10 (by show 10 < 11; omega)
theorem OkN.told {m : Nat} {st : Sm} (h : OkN m st) (t : Int) (c : Ca) (a : An) (hk : -9223372036854775808 ≤ c.key ∧ c.key ≤ 9223372036854775807) : OkN (m + 1) (toldA st t c a).1 := by
  unfold toldA
  split
  · exact h.call t c hk
  · exact h.more
/-- What regions 9 and 10 leave. -/
def ToD (T : TypeId) (V : World) (st : Sm) (b : Bool) (p8 p9 : Value) (wc : World) : Prop :=
  ∃ R8 mv tv, p8 = .pointer (some ⟨R8, 0, none⟩) ∧ p9 = .bool b ∧ wc.heap[R8]? = some (.cells #[mv, tv] T (0, 0)) ∧ PO wc mv st.mp ∧ TR wc tv st.n st.th ∧ Below V.heap.size V wc
theorem to_a {T : TypeId} {V w : World} {st : Sm} {b : Bool} {mv tv : Value} (hb : Below V.heap.size V w) (hp : PO w mv st.mp) (ht : TR w tv st.n st.th) :
    ToD T V st b (.pointer (some ⟨w.heap.size, 0, none⟩)) (.bool b) (w.alloc (.cells #[mv, tv] T)) := by
  have k : Below w.heap.size w (w.alloc (.cells #[mv, tv] T)) := below_new (Below.refl _ _) _
  exact ⟨_, mv, tv, rfl, rfl, heap_alloc_new w _, hp.below k, ht.below k, below_on hb k⟩
theorem to_b {T : TypeId} (hT : T ≠ 53) {V w : World} {st : Sm} {b : Bool} {b8 : Nat} {mv tv : Value} (h8 : w.heap[b8]? = some (.cells #[.slice none 0 0, .slice none 0 0] T (0, 0))) (k8 : V.heap.size ≤ b8) (hb : Below V.heap.size V w) (hp : PO w mv st.mp) (ht : TR w tv st.n st.th) :
    ToD T V st b (.pointer (some ⟨b8, 0, none⟩)) (.bool b) ((w.setCell ⟨b8, 0, none⟩ mv).setCell ⟨b8, 1, none⟩ tv) := by
  obtain ⟨x1, x2, x3⟩ := st_ret hT h8 k8 hb hp ht
  exact ⟨_, mv, tv, rfl, rfl, heap_setCell_same _ b8 1 _ _ tv (heap_setCell_same w b8 0 _ _ mv h8), x1, x2, x3⟩
theorem b13_mk {V w : World} {X g o : Nat} {a0 a1 a2 a3 a4 a5 a6 a7 a8 a9 a10 a11 a12 : Value} (h : Below V.heap.size V w) (x0 : V.cell? ⟨X, 0, none⟩ = some a0) (x1 : V.cell? ⟨X, 1, none⟩ = some a1) (o0 : V.cell? ⟨g, o, none⟩ = some a2) (o1 : V.cell? ⟨g, o + 1, none⟩ = some a3) (o2 : V.cell? ⟨g, o + 2, none⟩ = some a4) (o3 : V.cell? ⟨g, o + 3, none⟩ = some a5) (o4 : V.cell? ⟨g, o + 4, none⟩ = some a6) (o5 : V.cell? ⟨g, o + 5, none⟩ = some a7) (o6 : V.cell? ⟨g, o + 6, none⟩ = some a8) (o7 : V.cell? ⟨g, o + 7, none⟩ = some a9) (o8 : V.cell? ⟨g, o + 8, none⟩ = some a10) (o9 : V.cell? ⟨g, o + 9, none⟩ = some a11) (o10 : V.cell? ⟨g, o + 10, none⟩ = some a12) :
    Below V.heap.size V w ∧ w.cell? ⟨X, 0, none⟩ = some a0 ∧ w.cell? ⟨X, 1, none⟩ = some a1 ∧ w.cell? ⟨g, o, none⟩ = some a2 ∧ w.cell? ⟨g, o + 1, none⟩ = some a3 ∧ w.cell? ⟨g, o + 2, none⟩ = some a4 ∧ w.cell? ⟨g, o + 3, none⟩ = some a5 ∧ w.cell? ⟨g, o + 4, none⟩ = some a6 ∧ w.cell? ⟨g, o + 5, none⟩ = some a7 ∧ w.cell? ⟨g, o + 6, none⟩ = some a8 ∧ w.cell? ⟨g, o + 7, none⟩ = some a9 ∧ w.cell? ⟨g, o + 8, none⟩ = some a10 ∧ w.cell? ⟨g, o + 9, none⟩ = some a11 ∧ w.cell? ⟨g, o + 10, none⟩ = some a12 :=
  ⟨h, Ext.use (Ext.cells x0) h, Ext.use (Ext.cells x1) h, Ext.use (Ext.cells o0) h, Ext.use (Ext.cells o1) h, Ext.use (Ext.cells o2) h, Ext.use (Ext.cells o3) h, Ext.use (Ext.cells o4) h, Ext.use (Ext.cells o5) h, Ext.use (Ext.cells o6) h, Ext.use (Ext.cells o7) h, Ext.use (Ext.cells o8) h, Ext.use (Ext.cells o9) h, Ext.use (Ext.cells o10) h⟩
set_option maxRecDepth 16000 in
set_option maxHeartbeats 8000000 in
theorem modelTold_walk (v0 v1 : Value) (w : World) (s0 : Fr.ok1 w (.int .i64) v0) (s1 : Fr.ok1 w (.slice [.int .i64, .int .i64, .int .i64, .int .i64, .int .i64, .int .i64, .int .i64, .int .i64, .int .i64, .int .i64, .slice [.int .i64, .int .i64]]) v1) :
    Calls Try.prog 4 #[v0, v1] w fun e w' => e = .returned (.bool true) ∧ Below w.heap.size w w' := by
  obtain ⟨t, rfl, _⟩ := Fr.get_int s0
  obtain ⟨ao, len, cap, rfl, hlc, hcap, hst⟩ := stas_open s1
  have HST := Lib.hid hst
  clear s0 s1 hst
  refine Calls.veil fun Q HQ => ?_
  go_enter Try.func4, Try.ntmps4
  rcases (by omega : 100 < len ∨ len ≤ 100) with j | j
  · go_wp2_with fail
    refine (lives10_calls _).mono ?_; rintro _ w3 ⟨rfl, hb⟩
    go_wp2_with fail
    (try go_ret)
    rw [HQ.out]
    exact ⟨rfl, hb⟩
  go_wp2_with fail
  refine (mnew10 t _).mono ?_; rintro _ w1 ⟨tv, rfl, ht, hb1⟩
  have HT1 := Lib.hid ht
  have HB1 := Lib.hid hb1
  obtain ⟨n, hn⟩ : ∃ n, n = clampN t := ⟨_, rfl⟩
  have HN6 := Lib.hid (show n ≤ 6 by rw [hn]; exact clamp6 t)
  obtain ⟨q, d, rfl, _, _, _⟩ := ht.slice
  clear ht hb1
  go_wp2_with fail
  refine (rnew10 t _).mono ?_; rintro _ w2 ⟨tv, rfl, ht, hb2⟩
  rw [← hn] at HT1 ht ⊢
  have HT2 := Lib.hid ht
  have HT1 := Lib.hid (HT1.out.below hb2)
  have HB2 := Lib.hid (below_on HB1.out hb2)
  obtain ⟨q2, d2, rfl, _, _, _⟩ := ht.slice
  clear ht hb2 hn HB1
  go_upto_region 4 with fail
  have h2 := heap2 w2 (.cells #[.slice none 0 0, .slice q n d] 27) (.cells #[.slice none 0 0, .slice q2 n d2] 31)
  simp only at h2
  have hbv : Below w2.heap.size w2 ((w2.alloc (.cells #[.slice none 0 0, .slice q n d] 27)).alloc (.cells #[.slice none 0 0, .slice q2 n d2] 31)) := by (repeat (first | exact Below.refl _ _ | assumption | refine below_new ?_ _ | refine Below.drew ?_ | refine below_drewN ?_ _ | refine below_on ?_ (by assumption)))
  generalize hU : World.alloc _ _ = V at h2 hbv
  clear hU
  obtain ⟨u0, u1⟩ := h2
  have HU := Lib.hid (And.intro u0 u1)
  have HTA := Lib.hid (HT1.out.below hbv)
  have HTB := Lib.hid (HT2.out.below hbv)
  have HBV := Lib.hid (below_on HB2.out hbv)
  have HXX := Lib.hid (show w.heap.size ≤ w2.heap.size from HB2.out.size)
  clear hbv u0 u1 HT1 HT2 HB2
  generalize w2.heap.size = X at *
  go_wp2_with fail
  go_loopw [7] (fun iv wr => ∃ i : Nat, i ≤ len ∧ iv = .int .i64 i ∧ ∃ (st : Sm) (mv tv mv2 tv2 : Value), Hid (OkN i st) ∧ Hid (wr.heap[X]? = some (.cells #[mv, tv] 27 (0, 0))) ∧ Hid (wr.heap[X + 1]? = some (.cells #[mv2, tv2] 31 (0, 0))) ∧ Hid (PO wr mv st.mp) ∧ Hid (TR wr tv st.n st.th) ∧ Hid (PO wr mv2 st.mp) ∧ Hid (TR wr tv2 st.n st.th) ∧ Hid (Below w.heap.size w wr))
    (fun iv _ => len - (intOf iv).toNat)
  case atStart => exact ⟨0, Nat.zero_le _, rfl, ⟨[], n, fun _ => s0⟩, _, _, _, _, Lib.hid (OkN.new n HN6.out), Lib.hid HU.out.1, Lib.hid HU.out.2, Lib.hid (PO.nil _), HTA, Lib.hid (PO.nil _), HTB, HBV⟩
  case round =>
    obtain ⟨i, hi, rfl, st, mv, tv, mv2, tv2, HOK, HX, HY, HP, HT, HP2, HT2, HB⟩ := hrel
    rcases (by omega : len ≤ i ∨ i < len) with hge | hlt
    · go_wp2_with fail
      refine (lives10_calls _).mono ?_; rintro _ w3 ⟨rfl, hb⟩
      go_wp2_with fail
      (try go_ret)
      rw [HQ.out]
      exact ⟨rfl, below_on HB.out hb⟩
    obtain ⟨g, off, rfl, th, c, a, av, hstc⟩ := HST.out i hlt
    have HSC := Lib.hid (hstc.below HB.out)
    obtain ⟨⟨o0, o1, o2, o3, o4, o5, r0, r1⟩, o6, o7, o8, o9, o10, hpr⟩ := HSC.out
    have HK := Lib.hid (And.intro r0 r1)
    obtain ⟨op, key, val, hi2, lim⟩ := c
    obtain ⟨ak, aky, avl, an, aps⟩ := a
    simp only at o0 o1 o2 o3 o4 o5 o6 o7 o8 o9
    obtain ⟨r, rc, rfl, _, _⟩ := hpr.slice
    have HPR := Lib.hid hpr
    obtain ⟨p, cc, rfl, _, _⟩ := HP.out.1.slice
    obtain ⟨q, d, rfl, _, _, _⟩ := HT.out.slice
    obtain ⟨p2, cc2, rfl, _, _⟩ := HP2.out.1.slice
    obtain ⟨q2, d2, rfl, _, _, _⟩ := HT2.out.slice
    have hii : (i : Int) < len := by omega
    clear hpr r0 r1 hstc
    simp only at o10
    rcases (by omega : 1500 < aps.length ∨ aps.length ≤ 1500) with hl | hl
    · go_wp2_with fail
      refine (lives10_calls _).mono ?_; rintro _ w3 ⟨rfl, hb⟩
      go_wp2_with fail
      (try go_ret)
      rw [HQ.out]
      exact ⟨rfl, below_on HB.out hb⟩
    have x0 : wr.cell? ⟨X, 0, none⟩ = some (.slice p st.mp.length cc) := by rw [cell_of_row _ _ _ _ _ (0, 0) HX.out]; rfl
    have x1 : wr.cell? ⟨X, 1, none⟩ = some (.slice q st.n d) := by rw [cell_of_row _ _ _ _ _ (0, 0) HX.out]; rfl
    have HAL := Lib.hid (show aps.length ≤ 2000 by omega)
    go_upto_region 9 with fail
    have RD := fun (W : World) (k : Below wr.heap.size wr W) => mtold (HP.out.1.below k) (HT.out.below k) (HOK.out.ok (by omega)) th ⟨op, key, val, hi2, lim⟩ ⟨ak, aky, avl, an, aps⟩ (HPR.out.below k) HAL.out
    have HOK2 := Lib.hid (HOK.out.told th ⟨op, key, val, hi2, lim⟩ ⟨ak, aky, avl, an, aps⟩ HK.out)
    obtain ⟨xx, hxx⟩ : ∃ x, x = toldA st th ⟨op, key, val, hi2, lim⟩ ⟨ak, aky, avl, an, aps⟩ := ⟨_, rfl⟩
    rw [← hxx] at RD HOK2
    obtain ⟨st', bo⟩ := xx
    have HSE := Lib.hid hxx
    simp only [caV, anV, ToP] at RD
    have RD := Lib.hid RD
    simp only at HOK2
    clear hxx
    go_cut [8, 9] from 20 to 86 (fun p8 p9 wc => ToD 27 wr st' bo p8 p9 wc)
    case first =>
      go_region_held3 (fun w' => Below wr.heap.size wr w' ∧ w'.cell? ⟨X, 0, none⟩ = some (.slice p st.mp.length cc) ∧ w'.cell? ⟨X, 1, none⟩ = some (.slice q st.n d) ∧ w'.cell? ⟨g, off + i * 11, none⟩ = some (.int .i64 th) ∧ w'.cell? ⟨g, off + i * 11 + 1, none⟩ = some (.int .i64 op) ∧ w'.cell? ⟨g, off + i * 11 + 2, none⟩ = some (.int .i64 key) ∧ w'.cell? ⟨g, off + i * 11 + 3, none⟩ = some (.int .i64 val) ∧ w'.cell? ⟨g, off + i * 11 + 4, none⟩ = some (.int .i64 hi2) ∧ w'.cell? ⟨g, off + i * 11 + 5, none⟩ = some (.int .i64 lim) ∧ w'.cell? ⟨g, off + i * 11 + 6, none⟩ = some (.int .i64 ak) ∧ w'.cell? ⟨g, off + i * 11 + 7, none⟩ = some (.int .i64 aky) ∧ w'.cell? ⟨g, off + i * 11 + 8, none⟩ = some (.int .i64 avl) ∧ w'.cell? ⟨g, off + i * 11 + 9, none⟩ = some (.int .i64 an) ∧ w'.cell? ⟨g, off + i * 11 + 10, none⟩ = some (.slice r aps.length rc))
        (((with_reducible refine b13_mk ?_ x0 x1 o0 o1 o2 o3 o4 o5 o6 o7 o8 o9 o10); (repeat (with_reducible (first | exact Below.refl _ _ | refine below_new ?_ _ | refine Below.drew ?_ | refine below_set ?_ (Nat.le_refl _) _ | refine below_set ?_ hsz9 _ | refine below_on ?_ hb9)))))
        ((first
        | (go_at_call 14; (with_reducible refine (RD.out (World.drew (World.alloc _ (.cells #[_, _] _))) ((below_new (Below.refl _ wr) _).drew)).mono ?_); rintro _ w9 ⟨mv9, tv9, rfl, hp9, ht9, hb9⟩; obtain ⟨p9, c9, rfl, _, _⟩ := hp9.1.slice; obtain ⟨q9, d9, rfl, _, _, _⟩ := ht9.slice; simp only; have HP9 := Lib.hid hp9; have HT9 := Lib.hid ht9; clear hp9 ht9; have HB9 := Lib.hid (below_on ((below_new (Below.refl _ wr) _).drew) hb9); have hsz9 := HB9.out.size; have ya := heapnew1 hb9; have yn1 := (size_ne hb9).1; have yn2 := (size_ne hb9).2; have yaf := newfree ya; have yag := newfreeA ya; have ya0 := newcell ya 0 _ rfl; have ya0n := Ext.on ya0; have ya1 := newcell ya 1 _ rfl; have ya1n := Ext.on ya1; have YA := Lib.hid ya; clear ya)
        | (go_at_call 14; (with_reducible refine (RD.out wr.drew ((Below.refl _ wr).drew)).mono ?_); rintro _ w9 ⟨mv9, tv9, rfl, hp9, ht9, hb9⟩; obtain ⟨p9, c9, rfl, _, _⟩ := hp9.1.slice; obtain ⟨q9, d9, rfl, _, _, _⟩ := ht9.slice; simp only; have HP9 := Lib.hid hp9; have HT9 := Lib.hid ht9; clear hp9 ht9; have HB9 := Lib.hid (below_on ((Below.refl _ wr).drew) hb9); have hsz9 := HB9.out.size)
        | (fail "NOARM")))
      all_goals
        go_wp2_with fail
        go_meet
        case rel =>
          have hT0 : (27 : TypeId) ≠ 53 := by decide
          with_reducible first
          | exact to_a HB9.out HP9.out HT9.out
          | exact to_b hT0 YA.out (Nat.le_refl _) HB9.out HP9.out HT9.out
    case rest =>
    obtain ⟨R8, mv8, tv8, rfl, rfl, h8, hp8, ht8, hb8⟩ := hcut
    have H8 := Lib.hid h8; have HP8 := Lib.hid hp8; have HT8 := Lib.hid ht8; have HB8 := Lib.hid hb8
    have HSC8 := Lib.hid (HSC.out.below hb8)
    have HX8 := Lib.hid ((hb8.block _ (Array.getElem?_eq_some_iff.1 HX.out).1).trans HX.out)
    have HY8 := Lib.hid ((hb8.block _ (Array.getElem?_eq_some_iff.1 HY.out).1).trans HY.out)
    have HP28 := Lib.hid (HP2.out.below hb8); have HT28 := Lib.hid (HT2.out.below hb8)
    have HBW := Lib.hid (below_on HB.out hb8)
    have HPR8 := Lib.hid (HPR.out.below hb8)
    clear h8 hp8 ht8 hb8 x0 x1 o0 o1 o2 o3 o4 o5 o6 o7 o8 o9 o10
    obtain ⟨⟨o0, o1, o2, o3, o4, o5, _, _⟩, o6, o7, o8, o9, o10, _⟩ := HSC8.out
    simp only at o0 o1 o2 o3 o4 o5 o6 o7 o8 o9 o10
    have y0 : wc.cell? ⟨X + 1, 0, none⟩ = some (.slice p2 st.mp.length cc2) := newcell HY8.out 0 _ rfl
    have y1 : wc.cell? ⟨X + 1, 1, none⟩ = some (.slice q2 st.n d2) := newcell HY8.out 1 _ rfl
    have RD := fun (W : World) (k : Below wc.heap.size wc W) => rtold (HP28.out.below k) (HT28.out.below k) (HOK.out.ok (by omega)) th ⟨op, key, val, hi2, lim⟩ ⟨ak, aky, avl, an, aps⟩ (HPR8.out.below k) HAL.out
    rw [← HSE.out] at RD
    simp only [caV, anV, ToP] at RD
    have RD := Lib.hid RD
    go_upto_region 10 with fail
    go_cut [10, 11] from 20 to 86 (fun p10 p11 wd => ToD 31 wc st' bo p10 p11 wd)
    case first =>
      go_region_held3 (fun w' => Below wc.heap.size wc w' ∧ w'.cell? ⟨X + 1, 0, none⟩ = some (.slice p2 st.mp.length cc2) ∧ w'.cell? ⟨X + 1, 1, none⟩ = some (.slice q2 st.n d2) ∧ w'.cell? ⟨g, off + i * 11, none⟩ = some (.int .i64 th) ∧ w'.cell? ⟨g, off + i * 11 + 1, none⟩ = some (.int .i64 op) ∧ w'.cell? ⟨g, off + i * 11 + 2, none⟩ = some (.int .i64 key) ∧ w'.cell? ⟨g, off + i * 11 + 3, none⟩ = some (.int .i64 val) ∧ w'.cell? ⟨g, off + i * 11 + 4, none⟩ = some (.int .i64 hi2) ∧ w'.cell? ⟨g, off + i * 11 + 5, none⟩ = some (.int .i64 lim) ∧ w'.cell? ⟨g, off + i * 11 + 6, none⟩ = some (.int .i64 ak) ∧ w'.cell? ⟨g, off + i * 11 + 7, none⟩ = some (.int .i64 aky) ∧ w'.cell? ⟨g, off + i * 11 + 8, none⟩ = some (.int .i64 avl) ∧ w'.cell? ⟨g, off + i * 11 + 9, none⟩ = some (.int .i64 an) ∧ w'.cell? ⟨g, off + i * 11 + 10, none⟩ = some (.slice r aps.length rc))
        (((with_reducible refine b13_mk ?_ y0 y1 o0 o1 o2 o3 o4 o5 o6 o7 o8 o9 o10); (repeat (with_reducible (first | exact Below.refl _ _ | refine below_new ?_ _ | refine Below.drew ?_ | refine below_set ?_ (Nat.le_refl _) _ | refine below_set ?_ hsz9 _ | refine below_on ?_ hb9)))))
        ((first
        | (go_at_call 15; (with_reducible refine (RD.out (World.drew (World.alloc _ (.cells #[_, _] _))) ((below_new (Below.refl _ wc) _).drew)).mono ?_); rintro _ w9 ⟨mv9, tv9, rfl, hp9, ht9, hb9⟩; obtain ⟨p9, c9, rfl, _, _⟩ := hp9.1.slice; obtain ⟨q9, d9, rfl, _, _, _⟩ := ht9.slice; simp only; have HP9 := Lib.hid hp9; have HT9 := Lib.hid ht9; clear hp9 ht9; have HB9 := Lib.hid (below_on ((below_new (Below.refl _ wc) _).drew) hb9); have hsz9 := HB9.out.size; have ya := heapnew1 hb9; have yn1 := (size_ne hb9).1; have yn2 := (size_ne hb9).2; have yaf := newfree ya; have yag := newfreeA ya; have ya0 := newcell ya 0 _ rfl; have ya0n := Ext.on ya0; have ya1 := newcell ya 1 _ rfl; have ya1n := Ext.on ya1; have YA := Lib.hid ya; clear ya)
        | (go_at_call 15; (with_reducible refine (RD.out wc.drew ((Below.refl _ wc).drew)).mono ?_); rintro _ w9 ⟨mv9, tv9, rfl, hp9, ht9, hb9⟩; obtain ⟨p9, c9, rfl, _, _⟩ := hp9.1.slice; obtain ⟨q9, d9, rfl, _, _, _⟩ := ht9.slice; simp only; have HP9 := Lib.hid hp9; have HT9 := Lib.hid ht9; clear hp9 ht9; have HB9 := Lib.hid (below_on ((Below.refl _ wc).drew) hb9); have hsz9 := HB9.out.size)
        | (fail "NOARM")))
      all_goals
        go_wp2_with fail
        go_meet
        case rel =>
          have hT0 : (31 : TypeId) ≠ 53 := by decide
          with_reducible first
          | exact to_a HB9.out HP9.out HT9.out
          | exact to_b hT0 YA.out (Nat.le_refl _) HB9.out HP9.out HT9.out
    case rest =>
    obtain ⟨R10, mv10, tv10, rfl, rfl, h10, hp10, ht10, hb10⟩ := hcut
    have hx := (hb10.block _ (Array.getElem?_eq_some_iff.1 HX8.out).1).trans HX8.out
    have hy := (hb10.block _ (Array.getElem?_eq_some_iff.1 HY8.out).1).trans HY8.out
    have h8 := (hb10.block _ (Array.getElem?_eq_some_iff.1 H8.out).1).trans H8.out
    obtain ⟨p8, c8, rfl, _, _⟩ := HP8.out.1.slice
    obtain ⟨q8, d8, rfl, _, _, _⟩ := HT8.out.slice
    obtain ⟨p10, c10, rfl, _, _⟩ := hp10.1.slice
    obtain ⟨q10, d10, rfl, _, _, _⟩ := ht10.slice
    have n1 : X ≠ X + 1 := by omega
    have n2 : R10 ≠ X := fun e => by
      subst e; rw [h10] at hx; simp only [Option.some.injEq, Obj.cells.injEq] at hx; exact absurd hx.2.1 (by decide)
    have HHX := Lib.hid hx; have HHY := Lib.hid hy
    have HP10 := Lib.hid hp10; have HT10 := Lib.hid ht10; have HB10 := Lib.hid (below_on HBW.out hb10)
    have HP8 := Lib.hid (HP8.out.below hb10); have HT8 := Lib.hid (HT8.out.below hb10)
    have e0 := newcell h8 0 _ rfl; have e1 := newcell h8 1 _ rfl
    have f0 := newcell h10 0 _ rfl; have f1 := newcell h10 1 _ rfl
    have a0 := newcell hx 0 _ rfl; have a1 := newcell hx 1 _ rfl; have af := newfree hx
    have b0 := newcell hy 0 _ rfl; have b1 := newcell hy 1 _ rfl; have bf := newfree hy
    clear hx hy h8 h10 hp10 ht10 hb10 o0 o1 o2 o3 o4 o5 o6 o7 o8 o9 o10 y0 y1
    go_upto_region 13 with fail
    generalize hW : World.setCell _ _ _ = W
    obtain ⟨B2, X2, Y2, NP2, L2, TR2⟩ := two_sets (.slice p8 st'.mp.length c8) (.slice q8 st'.n d8) (.slice p10 st'.mp.length c10) (.slice q10 st'.n d10) HB10.out HXX.out HHX.out HHY.out hW
    have G1 := HP8.out.np NP2; have G2 := TR2 _ _ _ HT8.out; have G3 := HP10.out.np NP2; have G4 := TR2 _ _ _ HT10.out
    have HG1 := Lib.hid G1; have HG2 := Lib.hid G2; have HG3 := Lib.hid G3; have HG4 := Lib.hid G4
    have HX2 := Lib.hid X2; have HY2 := Lib.hid Y2; have HB2 := Lib.hid B2
    have hn6' : st'.n ≤ 6 := HOK2.out.n6
    have HN6' := Lib.hid hn6'
    have HOKS := Lib.hid (HOK2.out.ok (by omega))
    have m0 := Ext.cells (newcell X2 0 _ rfl); have m1 := Ext.cells (newcell X2 1 _ rfl)
    have n0 := Ext.cells (newcell Y2 0 _ rfl); have n1' := Ext.cells (newcell Y2 1 _ rfl)
    clear hW B2 X2 Y2 NP2 L2 TR2 G1 G2 G3 G4 hn6' e0 e1 f0 f1 a0 a1 af b0 b1 bf HP8 HT8 HP10 HT10 HHX HHY HB10 HBW HX8 HY8 HP28 HT28 HSC8 H8 HB8 HSC RD HU HTA HTB HBV HP HT HP2 HT2 HX HY HB n1 n2 HPR HPR8
    cases bo
    all_goals
      (with_reducible refine wp_region_mix (fun w' => ∃ y : Ext W, w' = y.w) ?_ ?_ ?_ ?_; kernel_rfl; kernel_rfl; exact ⟨⟨W.drew, (Below.refl _ _).drew⟩, rfl⟩)
      have hd : Below W.heap.size W W.drew := (Below.refl _ _).drew
      repeat (first | ((with_reducible refine mix_plain (by kernel_rfl) ?_); (first | go_big_quiet_skip | (go_big_quiet_want; go_big_quiet_op; go_big_quiet_on)); (with_reducible refine mix_on ?_)) | ((with_reducible refine mix_skip (by kernel_rfl) ?_); go_big_quiet_skip; (with_reducible refine mix_on ?_)))
      ((with_reducible refine wpMix_chain (by kernel_rfl) (by kernel_rfl) (fun K HK => ?_)); go_step)
      refine (las (HG1.out.below hd).1 (HG2.out.below hd) HN6'.out).mono ?_; rintro _ w4 ⟨tv4, rfl, ht4, hb4⟩
      have hb4 := below_on hd hb4
      refine HK.out _ _ ⟨⟨w4, hb4⟩, rfl⟩ ?_
      clear HK K hd
      repeat (first | ((with_reducible refine mix_plain (by kernel_rfl) ?_); (first | go_big_quiet_skip | (go_big_quiet_want; go_big_quiet_op; go_big_quiet_on)); (with_reducible refine mix_on ?_)) | ((with_reducible refine mix_skip (by kernel_rfl) ?_); go_big_quiet_skip; (with_reducible refine mix_on ?_)))
      ((with_reducible refine wpMix_chain (by kernel_rfl) (by kernel_rfl) (fun K HK => ?_)); go_step)
      refine (rsame10 (HG1.out.below hb4).1 ht4 (HG3.out.below hb4).1 (HG4.out.below hb4) HOKS.out).mono ?_; rintro _ w5 ⟨rfl, hb5⟩
      have hb5 := below_on hb4 hb5
      refine HK.out _ _ ⟨⟨w5, hb5⟩, rfl⟩ ?_
      clear HK K hb4 ht4
      repeat (first | ((with_reducible refine mix_plain (by kernel_rfl) ?_); (first | go_big_quiet_skip | (go_big_quiet_want; go_big_quiet_op; go_big_quiet_on)); (with_reducible refine mix_on ?_)) | ((with_reducible refine mix_skip (by kernel_rfl) ?_); go_big_quiet_skip; (with_reducible refine mix_on ?_)))
      refine wpMix_nil ?_
      have HB5 := Lib.hid hb5
      clear m0 m1 n0 n1' hb5
      go_wp2_with fail
      go_roundw
      case rel =>
        exact ⟨i + 1, by omega, by go_num, st', _, _, _, _, HOK2, Lib.hid ((HB5.out.block _ (blk_lt HX2.out)).trans HX2.out), Lib.hid ((HB5.out.block _ (blk_lt HY2.out)).trans HY2.out), Lib.hid (HG1.out.below HB5.out), Lib.hid (HG2.out.below HB5.out), Lib.hid (HG3.out.below HB5.out), Lib.hid (HG4.out.below HB5.out), Lib.hid (below_on HB2.out HB5.out)⟩
      case measure => simp [intOf]; omega
end Go.Proofs.Ytcbdbfmlkkpndaa
