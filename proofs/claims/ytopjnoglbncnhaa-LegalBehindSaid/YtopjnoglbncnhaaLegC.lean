/- Layer 12: the state behind an order. -/
import Derived.Test.YtopjnoglbncnhaaLegB
namespace Go.Proofs.Ytopjnoglbncnhaa
open Go.RowKit
set_option linter.unusedVariables false
set_option linter.unusedSimpArgs false
/-- A state's block is written. -/
theorem set2e {w W : World} {X : Nat} {T : TypeId} (hT : T ≠ 73) {p : Option Addr} {n c : Nat} {b m t : Value} (hb : Below w.heap.size w W) (hw : w.heap.size ≤ X)
    (hx : W.heap[X]? = some (.cells #[.slice p n c, b] T (0, 0))) {W2 : World} (hW : (W.setCell ⟨X, 0, none⟩ m).setCell ⟨X, 1, none⟩ t = W2) :
    Below w.heap.size w W2 ∧ W2.heap[X]? = some (.cells #[m, t] T (0, 0)) ∧ NP W W2 ∧ (∀ b, b ≠ X → W2.heap[b]? = W.heap[b]?) ∧ ∀ v n L, TR W v n L → TR W2 v n L := by
  subst hW
  obtain ⟨k1, m1, l1⟩ := st2 (w := w) (X := []) hT hx hw (KX.of_below hb) m t
  have hX1 := heap_setCell_same _ X 1 _ _ t (heap_setCell_same W X 0 _ _ m hx)
  refine ⟨below_of_kx k1, hX1, m1, l1, fun v n L ht => tr_keep2 ht m1 fun b x h => l1 b ?_⟩
  intro e; subst e; rw [newcell hx 0 _ rfl] at h; cases h
/-- An order's places. -/
def OrdR (w : World) (v : Value) (m : Nat) (ord : Nat → Int) : Prop :=
  ∃ ao cap, v = .slice ao m cap ∧ m ≤ cap ∧ cap ≤ 9223372036854775807 ∧ ∀ i, i < m → ∃ g off, ao = some ⟨g, off, none⟩ ∧ w.cell? ⟨g, off + i, none⟩ = some (.int .i64 (ord i))
theorem OrdR.below {w w' : World} {v : Value} {m : Nat} {ord : Nat → Int} (h : OrdR w v m ord) (k : Below w.heap.size w w') : OrdR w' v m ord := by
  obtain ⟨ao, cap, e, h1, h2, h3⟩ := h
  exact ⟨ao, cap, e, h1, h2, fun i hi => by obtain ⟨g, off, e, h⟩ := h3 i hi; exact ⟨g, off, e, Ext.use (Ext.cells h) k⟩⟩
theorem b15_mk {V w : World} {X g o : Nat} {a0 a1 a2 a3 a4 a5 a6 a7 a8 a9 a10 a11 a12 a13 a14 : Value} (h : Below V.heap.size V w) (x0 : V.cell? ⟨X, 0, none⟩ = some a0) (x1 : V.cell? ⟨X, 1, none⟩ = some a1) (o0 : V.cell? ⟨g, o, none⟩ = some a2) (o1 : V.cell? ⟨g, o + 1, none⟩ = some a3) (o2 : V.cell? ⟨g, o + 2, none⟩ = some a4) (o3 : V.cell? ⟨g, o + 3, none⟩ = some a5) (o4 : V.cell? ⟨g, o + 4, none⟩ = some a6) (o5 : V.cell? ⟨g, o + 5, none⟩ = some a7) (o6 : V.cell? ⟨g, o + 6, none⟩ = some a8) (o7 : V.cell? ⟨g, o + 7, none⟩ = some a9) (o8 : V.cell? ⟨g, o + 8, none⟩ = some a10) (o9 : V.cell? ⟨g, o + 9, none⟩ = some a11) (o10 : V.cell? ⟨g, o + 10, none⟩ = some a12) (o11 : V.cell? ⟨g, o + 11, none⟩ = some a13) (o12 : V.cell? ⟨g, o + 12, none⟩ = some a14) :
    Below V.heap.size V w ∧ w.cell? ⟨X, 0, none⟩ = some a0 ∧ w.cell? ⟨X, 1, none⟩ = some a1 ∧ w.cell? ⟨g, o, none⟩ = some a2 ∧ w.cell? ⟨g, o + 1, none⟩ = some a3 ∧ w.cell? ⟨g, o + 2, none⟩ = some a4 ∧ w.cell? ⟨g, o + 3, none⟩ = some a5 ∧ w.cell? ⟨g, o + 4, none⟩ = some a6 ∧ w.cell? ⟨g, o + 5, none⟩ = some a7 ∧ w.cell? ⟨g, o + 6, none⟩ = some a8 ∧ w.cell? ⟨g, o + 7, none⟩ = some a9 ∧ w.cell? ⟨g, o + 8, none⟩ = some a10 ∧ w.cell? ⟨g, o + 9, none⟩ = some a11 ∧ w.cell? ⟨g, o + 10, none⟩ = some a12 ∧ w.cell? ⟨g, o + 11, none⟩ = some a13 ∧ w.cell? ⟨g, o + 12, none⟩ = some a14 :=
  ⟨h, Ext.use (Ext.cells x0) h, Ext.use (Ext.cells x1) h, Ext.use (Ext.cells o0) h, Ext.use (Ext.cells o1) h, Ext.use (Ext.cells o2) h, Ext.use (Ext.cells o3) h, Ext.use (Ext.cells o4) h, Ext.use (Ext.cells o5) h, Ext.use (Ext.cells o6) h, Ext.use (Ext.cells o7) h, Ext.use (Ext.cells o8) h, Ext.use (Ext.cells o9) h, Ext.use (Ext.cells o10) h, Ext.use (Ext.cells o11) h, Ext.use (Ext.cells o12) h⟩
/-- What is told of a legal order. -/
def BehP (w : World) (o : Option Sm) (e : Ending) (w' : World) : Prop := ToP w (behT o) e w'
set_option maxRecDepth 16000 in
set_option maxHeartbeats 4000000 in
theorem lbehind {w : World} {ov rv : Value} {n m : Nat} {O : Nat → Op13} {fv : Nat → Value} {ord : Nat → Int} (hO : OpR w ov n O fv) (hr : OrdR w rv m ord) (hk : ∀ i, i < n → (-9223372036854775808 ≤ (O i).c.key ∧ (O i).c.key ≤ 9223372036854775807) ∧ (O i).a.ps.length ≤ 1500) (hn : n ≤ 50) (hm : m ≤ 60) (t : Int) :
    Calls Try.prog 6 #[ov, rv, .int .i64 t] w (BehP w (behN O n ord (clampN t) m)) := by
  refine Calls.veil fun Q HQ => ?_
  obtain ⟨t0, ht0⟩ : ∃ n, n = clampN t := ⟨_, rfl⟩
  have HN6 := Lib.hid (show t0 ≤ 6 by rw [ht0]; exact clamp6 t)
  rw [← ht0] at HQ
  have HT0 := Lib.hid ht0
  clear ht0
  obtain ⟨oa, ocap, rfl, oc1, oc2, hO⟩ := hO
  obtain ⟨ra, rcap, rfl, rc1, rc2, hr⟩ := hr
  have HO := Lib.hid hO; have HR := Lib.hid hr; have HKK := Lib.hid hk
  clear hO hr hk
  go_enter Try.func6, Try.ntmps6
  go_upto_region 1 with fail
  generalize hU : World.alloc _ _ = U
  have u0 : U.heap[w.heap.size]? = some (.cells #[.slice none 0 0, .slice none 0 0] 29) := by rw [← hU]; exact heap_alloc_new w _
  have hbu : Below w.heap.size w U := by rw [← hU]; exact below_new (Below.refl _ _) _
  clear hU
  obtain ⟨B, hB⟩ : ∃ B, B = w.heap.size := ⟨_, rfl⟩
  rw [← hB] at u0 ⊢
  have HU0 := Lib.hid u0; have HBU := Lib.hid hbu
  have HWB := Lib.hid (show w.heap.size ≤ B by rw [hB]; exact Nat.le_refl _)
  clear u0 hbu hB
  go_wp2_with fail
  refine (mnew10 t _).mono ?_; rintro _ w1 ⟨tv, rfl, ht, hb1⟩
  rw [← HT0.out] at ht
  have HT1 := Lib.hid ht
  have HB1 := Lib.hid (below_on HBU.out hb1)
  have HZ := Lib.hid (up hb1 HU0.out)
  have HBL := Lib.hid (blk_lt HZ.out)
  obtain ⟨q, d, rfl, _, _, _⟩ := ht.slice
  clear ht hb1 HBU HU0
  go_upto_region 2 with fail
  generalize hV : World.alloc _ _ = V
  have v0 : V.heap[w1.heap.size]? = some (.cells #[.slice none 0 0, .slice q t0 d] 29) := by rw [← hV]; exact heap_alloc_new w1 _
  have hbv : Below w1.heap.size w1 V := by rw [← hV]; exact below_new (Below.refl _ _) _
  have HV0 := Lib.hid v0
  have HT1 := Lib.hid (HT1.out.below hbv)
  have HZ := Lib.hid (up hbv HZ.out)
  have HX := Lib.hid (show w.heap.size ≤ w1.heap.size ∧ B ≠ w1.heap.size from ⟨HB1.out.size, by have := HBL.out; omega⟩)
  have HB1 := Lib.hid (below_on HB1.out hbv)
  clear hV v0 hbv
  generalize w1.heap.size = X at *
  go_wp2_with fail
  go_loopw [17] (fun iv wr => ∃ i : Nat, i ≤ m ∧ iv = .int .i64 i ∧ ∃ (st : Sm) (mv tv : Value), Hid (behN O n ord t0 i = some st) ∧ Hid (OkN i st) ∧ Hid (wr.heap[X]? = some (.cells #[mv, tv] 29 (0, 0))) ∧ Hid (wr.heap[B]? = some (.cells #[.slice none 0 0, .slice none 0 0] 29 (0, 0))) ∧ Hid (PO wr mv st.mp) ∧ Hid (TR wr tv st.n st.th) ∧ Hid (Below w.heap.size w wr))
    (fun iv _ => m - (intOf iv).toNat)
  case atStart => exact ⟨0, Nat.zero_le _, rfl, ⟨[], t0, fun _ => s0⟩, _, _, Lib.hid rfl, Lib.hid (OkN.new t0 HN6.out), HV0, HZ, Lib.hid (PO.nil _), HT1, HB1⟩
  case round =>
    clear HV0 HZ HT1 HB1
    obtain ⟨i, hi, rfl, st, mv, tv, HBE, HOK, HXB, HZB, HP, HT, HB⟩ := hrel
    obtain ⟨p, pc, rfl, _, _⟩ := HP.out.1.slice
    obtain ⟨q2, qc, rfl, _, _, _⟩ := HT.out.slice
    have z0 := newcell HZB.out 0 _ rfl; have z1 := newcell HZB.out 1 _ rfl; have zf := newfree HZB.out
    rcases (by omega : i < m ∨ i = m) with hlt | heq
    · obtain ⟨g, off, rfl, hc⟩ := HR.out i hlt
      have hc := Ext.use (Ext.cells hc) HB.out
      have hii : (i : Int) < m := by omega
      obtain ⟨pl, hpl⟩ : ∃ x, x = ord i := ⟨_, rfl⟩
      have HPL := Lib.hid hpl
      rw [← hpl] at hc
      clear hpl
      rcases (by omega : pl < 0 ∨ (0 ≤ pl ∧ (n : Int) ≤ pl) ∨ (0 ≤ pl ∧ pl < n)) with hh | ⟨hh, hh'⟩ | ⟨hh, hh'⟩
      · have HE := Lib.hid (show behN O n ord t0 m = none from behN_none (behN_out (by rw [← HPL.out]; omega)) hlt)
        go_wp2_with fail
        refine bodyPost_ret (v := .tuple #[.agg #[.slice none 0 0, .slice none 0 0], .bool false]) (by simp [results, Try.results6, go_sem, z0, z1, World.cell?_setCell_same, World.cell?_setCell_other]) rfl ?_
        rw [HQ.out, HE.out]
        obtain ⟨x1, x2, x3⟩ := st_ret (w := w) (T := 29) (by decide) HZB.out (by have := HWB.out; omega) HB.out (PO.nil _) (TR.nil (fun _ => s0))
        exact ⟨_, _, rfl, x1, x2, x3⟩
      · have HE := Lib.hid (show behN O n ord t0 m = none from behN_none (behN_out (by rw [← HPL.out]; omega)) hlt)
        go_wp2_with fail
        refine bodyPost_ret (v := .tuple #[.agg #[.slice none 0 0, .slice none 0 0], .bool false]) (by simp [results, Try.results6, go_sem, z0, z1, World.cell?_setCell_same, World.cell?_setCell_other]) rfl ?_
        rw [HQ.out, HE.out]
        obtain ⟨x1, x2, x3⟩ := st_ret (w := w) (T := 29) (by decide) HZB.out (by have := HWB.out; omega) HB.out (PO.nil _) (TR.nil (fun _ => s0))
        exact ⟨_, _, rfl, x1, x2, x3⟩
      obtain ⟨j, rfl⟩ : ∃ j : Nat, pl = (j : Int) := ⟨pl.toNat, by omega⟩
      have hj : j < n := by omega
      obtain ⟨og, ooff, rfl, hoc⟩ := HO.out j hj
      have hoc := hoc.below HB.out
      have HOC := Lib.hid hoc
      obtain ⟨ww, hww⟩ : ∃ x, x = O j := ⟨_, rfl⟩
      have HWW := Lib.hid hww
      have hkk := HKK.out j hj
      rw [← hww] at hoc hkk
      have HOKN := Lib.hid (HOK.out.aft ww hkk.1)
      obtain ⟨⟨⟨o0, o1, o2, o3, o4, o5, r0, r1⟩, o6, o7, o8, o9, o10, hpr⟩, o11, o12⟩ := hoc
      have RD := fun (W : World) (k : Below wr.heap.size wr W) => lafter (HP.out.below k) (HT.out.below k) (HOK.out.ok (by omega)) ww (hpr.below k) (by omega)
      obtain ⟨xx, hxx⟩ : ∃ x, x = aftA st ww := ⟨_, rfl⟩
      rw [← hxx] at RD HOKN
      obtain ⟨st', bo⟩ := xx
      have HAF := Lib.hid (show aftA st (O (ord i).toNat) = (st', bo) by rw [← HPL.out, Int.toNat_natCast, ← HWW.out, hxx])
      have HRG := Lib.hid (show 0 ≤ ord i ∧ ord i < n by rw [← HPL.out]; omega)
      obtain ⟨th, ⟨op, key, val, hi2, lim⟩, ⟨ak, aky, avl, an, aps⟩, fr, tt⟩ := ww
      obtain ⟨r, rc, hrv, _, _⟩ := hpr.slice
      rw [hrv] at o10 RD
      simp only [opV, ToP] at RD
      simp only at o0 o1 o2 o3 o4 o5 o6 o7 o8 o9 o10 o11 o12 HOKN
      have RD := Lib.hid RD
      have x0 : wr.cell? ⟨X, 0, none⟩ = some (.slice p st.mp.length pc) := newcell HXB.out 0 _ rfl; have x1 : wr.cell? ⟨X, 1, none⟩ = some (.slice q2 st.n qc) := newcell HXB.out 1 _ rfl
      clear hxx hww hkk hpr hrv r0 r1 z0 z1 zf
      go_upto_region 7 with fail
      go_cut [11, 12] from 18 to 42 (fun p8 p9 wc => ToD 29 wr st' bo p8 p9 wc)
      case first =>
        go_region_held3 (fun w' => Below wr.heap.size wr w' ∧ w'.cell? ⟨X, 0, none⟩ = some (.slice p st.mp.length pc) ∧ w'.cell? ⟨X, 1, none⟩ = some (.slice q2 st.n qc) ∧ w'.cell? ⟨og, ooff + j * 13, none⟩ = some (.int .i64 th) ∧ w'.cell? ⟨og, ooff + j * 13 + 1, none⟩ = some (.int .i64 op) ∧ w'.cell? ⟨og, ooff + j * 13 + 2, none⟩ = some (.int .i64 key) ∧ w'.cell? ⟨og, ooff + j * 13 + 3, none⟩ = some (.int .i64 val) ∧ w'.cell? ⟨og, ooff + j * 13 + 4, none⟩ = some (.int .i64 hi2) ∧ w'.cell? ⟨og, ooff + j * 13 + 5, none⟩ = some (.int .i64 lim) ∧ w'.cell? ⟨og, ooff + j * 13 + 6, none⟩ = some (.int .i64 ak) ∧ w'.cell? ⟨og, ooff + j * 13 + 7, none⟩ = some (.int .i64 aky) ∧ w'.cell? ⟨og, ooff + j * 13 + 8, none⟩ = some (.int .i64 avl) ∧ w'.cell? ⟨og, ooff + j * 13 + 9, none⟩ = some (.int .i64 an) ∧ w'.cell? ⟨og, ooff + j * 13 + 10, none⟩ = some (.slice r aps.length rc) ∧ w'.cell? ⟨og, ooff + j * 13 + 11, none⟩ = some (.int .i64 fr) ∧ w'.cell? ⟨og, ooff + j * 13 + 12, none⟩ = some (.int .i64 tt))
          (((with_reducible refine b15_mk ?_ x0 x1 o0 o1 o2 o3 o4 o5 o6 o7 o8 o9 o10 o11 o12); (repeat (with_reducible (first | exact Below.refl _ _ | refine below_new ?_ _ | refine Below.drew ?_ | refine below_set ?_ (Nat.le_refl _) _ | refine below_set ?_ hsz9 _ | refine below_on ?_ hb9)))))
          ((first
          | (go_at_call 12; (with_reducible refine (RD.out (World.drew (World.alloc _ (.cells #[_, _] _))) ((below_new (Below.refl _ wr) _).drew)).mono ?_); rintro _ w9 ⟨mv9, tv9, rfl, hp9, ht9, hb9⟩; obtain ⟨p9, c9, rfl, _, _⟩ := hp9.1.slice; obtain ⟨q9, d9, rfl, _, _, _⟩ := ht9.slice; simp only; have HP9 := Lib.hid hp9; have HT9 := Lib.hid ht9; clear hp9 ht9; have HB9 := Lib.hid (below_on ((below_new (Below.refl _ wr) _).drew) hb9); have hsz9 := HB9.out.size; have ya := heapnew1 hb9; have yn1 := (size_ne hb9).1; have yn2 := (size_ne hb9).2; have yaf := newfree ya; have yag := newfreeA ya; have ya0 := newcell ya 0 _ rfl; have ya0n := Ext.on ya0; have ya1 := newcell ya 1 _ rfl; have ya1n := Ext.on ya1; have YA := Lib.hid ya; clear ya)
          | (go_at_call 12; (with_reducible refine (RD.out wr.drew ((Below.refl _ wr).drew)).mono ?_); rintro _ w9 ⟨mv9, tv9, rfl, hp9, ht9, hb9⟩; obtain ⟨p9, c9, rfl, _, _⟩ := hp9.1.slice; obtain ⟨q9, d9, rfl, _, _, _⟩ := ht9.slice; simp only; have HP9 := Lib.hid hp9; have HT9 := Lib.hid ht9; clear hp9 ht9; have HB9 := Lib.hid (below_on ((Below.refl _ wr).drew) hb9); have hsz9 := HB9.out.size)
          | (fail "NOARM")))
        all_goals
          go_wp2_with fail
          go_meet
          case rel =>
            have hT0 : (29 : TypeId) ≠ 73 := by decide
            with_reducible first
            | exact to_a HB9.out HP9.out HT9.out
            | exact to_b hT0 YA.out (Nat.le_refl _) HB9.out HP9.out HT9.out
      case rest =>
      obtain ⟨R8, mv8, tv8, rfl, rfl, h8, hp8, ht8, hb8⟩ := hcut
      obtain ⟨p8, pc8, rfl, _, _⟩ := hp8.1.slice
      obtain ⟨q8, qc8, rfl, _, _, _⟩ := ht8.slice
      have HP8 := Lib.hid hp8; have HT8 := Lib.hid ht8
      have HXC := Lib.hid (up hb8 HXB.out); have HZC := Lib.hid (up hb8 HZB.out)
      have HBC := Lib.hid (below_on HB.out hb8)
      have v80 := newcell h8 0 _ rfl; have v81 := newcell h8 1 _ rfl
      have z0 := newcell HZC.out 0 _ rfl; have z1 := newcell HZC.out 1 _ rfl; have zf := newfree HZC.out
      have y0 := newcell HXC.out 0 _ rfl; have y1 := newcell HXC.out 1 _ rfl; have yf := newfree HXC.out
      clear h8 hp8 ht8 hb8 x0 x1 o0 o1 o2 o3 o4 o5 o6 o7 o8 o9 o10 o11 o12 RD
      cases bo with
      | false =>
        have HE := Lib.hid (show behN O n ord t0 m = none from behN_none (behN_no HBE.out HRG.out HAF.out) hlt)
        go_wp2_with fail
        refine bodyPost_ret (v := .tuple #[.agg #[.slice none 0 0, .slice none 0 0], .bool false]) (by simp [results, Try.results6, go_sem, z0, z1, World.cell?_setCell_same, World.cell?_setCell_other]) rfl ?_
        rw [HQ.out, HE.out]
        obtain ⟨x1, x2, x3⟩ := st_ret (w := w) (T := 29) (by decide) HZC.out (by have := HWB.out; omega) HBC.out (PO.nil _) (TR.nil (fun _ => s0))
        exact ⟨_, _, rfl, x1, x2, x3⟩
      | true =>
        have HE := Lib.hid (behN_yes HBE.out HRG.out HAF.out)
        go_upto_region 11 with fail
        generalize hW : World.setCell _ _ _ = W
        obtain ⟨B2, X2, NP2, L2, TR2⟩ := set2e (T := 29) (by decide) HBC.out HX.out.1 HXC.out hW
        have HB2 := Lib.hid B2; have HX2 := Lib.hid X2; have HZ2 := Lib.hid ((L2 B HX.out.2).trans HZC.out)
        have HP2 := Lib.hid (HP8.out.np NP2); have HT2 := Lib.hid (TR2 _ _ _ HT8.out)
        clear hW B2 X2 NP2 L2 TR2 v80 v81 z0 z1 zf y0 y1 yf
        go_wp2_with fail
        go_roundw
        case rel => exact ⟨i + 1, by omega, by go_num, st', _, _, HE, HOKN, HX2, HZ2, HP2, HT2, HB2⟩
        case measure => simp [intOf]; omega
    · subst heq
      have x0 := newcell HXB.out 0 _ rfl; have x1 := newcell HXB.out 1 _ rfl
      go_wp2_with fail
      refine bodyPost_ret (v := .tuple #[.agg #[.slice p st.mp.length pc, .slice q2 st.n qc], .bool true]) (by simp [results, Try.results6, go_sem, z0, z1, World.cell?_setCell_same, World.cell?_setCell_other]) rfl ?_
      rw [HQ.out, HBE.out]
      obtain ⟨x1, x2, x3⟩ := st_ret (w := w) (T := 29) (by decide) HZB.out (by have := HWB.out; omega) HB.out HP.out HT.out
      exact ⟨_, _, rfl, x1, x2, x3⟩
end Go.Proofs.Ytopjnoglbncnhaa
