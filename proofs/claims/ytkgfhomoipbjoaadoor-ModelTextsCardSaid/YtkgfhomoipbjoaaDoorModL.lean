/- Layer 10: Do, New of the program. -/
import Derived.Test.YtkgfhomoipbjoaaDoorModK
import Derived.Test.YtkgfhomoipbjoaaDoorModB
import Derived.BigRegion
namespace Go.Proofs.YtkgfhomoipbjoaaDoor
open Go.RowKit
set_option linter.unusedVariables false
set_option linter.unusedSimpArgs false
def doA (st : Sm) (t : Int) (c : Ca) : Sm × An :=
  if badB st.n st.th t c = true then (st, ⟨8, 0, 0, 0, []⟩)
  else if c.op = 0 then ({ st with mp := putL st.mp (c.key, c.val) }, if hereB st.mp c.key = true then ⟨5, 0, 0, 0, []⟩ else ⟨0, 0, 0, 0, []⟩)
  else if c.op = 1 then ({ st with mp := dropL st.mp c.key }, foundA (atL st.mp c.key))
  else if c.op = 3 then (st, ⟨3, 0, 0, 0, cutL st.mp c.key c.hi c.lim⟩)
  else if c.op = 4 then (st, ⟨2, 0, 0, ((cutL st.mp c.key c.hi 9223372036854775807).length : Nat), []⟩)
  else if c.op < 9 then (st, foundA (oneA st.mp c))
  else ({ st with th := updT st.th t.toNat (sesA st t.toNat c).1 }, (sesA st t.toNat c).2)
theorem bad_parts {st : Sm} {t : Int} {c : Ca} (h : badB st.n st.th t c = false) : (0 ≤ t ∧ t < st.n) ∧ 0 ≤ c.op ∧ c.op ≤ 14 := by
  unfold badB at h
  rw [Bool.or_eq_false_iff, Bool.not_eq_false', Bool.and_eq_true, decide_eq_true_eq] at h
  refine ⟨h.1.1, ?_⟩
  have hm := h.1.2
  unfold mayB at hm
  rw [decide_eq_true_eq] at hm
  omega
theorem foundA_ps (o : Option (Int × Int)) : (foundA o).ps = [] := by cases o <;> rfl
theorem sesA_ps (st : Sm) (i : Nat) (c : Ca) : (sesA st i c).2.ps = [] := by
  unfold sesA
  repeat' split
  all_goals rfl
theorem manswer {w : World} {S B : Nat} {mv tv : Value} {st : Sm} {fv : Nat → Value} (hS : w.heap[S]? = some (.cells #[mv, tv] 27 (0, 0))) (hp : PO w mv st.mp) (ho : OwnT 60 w B tv st.n st.th fv) (hne : ∀ g c m, tv = .slice (some ⟨g, 0, none⟩) m c → 0 < m → g ≠ S) (hBS : B ≤ S) (ok : OkS st) (t : Int) (c : Ca) :
    Calls Tryd.prog 13 #[.pointer (some ⟨S, 0, none⟩), .int .i64 t, caV c] w fun e w' => ∃ g, B ≤ g ∧ AnsP w S g (doA st t c).1 (doA st t c).2 e w' := by
  cases hb : badB st.n st.th t c with
  | true =>
    have e : doA st t c = (st, ⟨8, 0, 0, 0, []⟩) := by unfold doA; rw [if_pos hb]
    rw [e]
    obtain ⟨op, key, val, hi, lim⟩ := c
    exact (mans_bad (g := S) hS hp ho.tr t op key val hi lim hb).mono fun e w' h => ⟨S, hBS, h⟩
  | false =>
    obtain ⟨⟨t0, t1⟩, o0, o1⟩ := bad_parts hb
    obtain ⟨i, rfl⟩ : ∃ i : Nat, t = i := ⟨t.toNat, by omega⟩
    obtain ⟨hpf, g, c2, rfl, k1, k2, k3, k4⟩ := ho.pos (by omega)
    have hms : MS w S g c2 mv st fv := ⟨hS, hp.1, k1, k2, k4, hpf, hne g c2 st.n rfl (by omega), fun b o n c e hn hbg => by
      subst hbg
      obtain ⟨cur, hc⟩ := hp.2 _ _ _ e hn
      obtain ⟨cur2, hc2, _⟩ := k4
      rw [show w.heap[b]? = _ from hc2] at hc
      simp only [Option.some.injEq, Obj.cells.injEq] at hc
      exact absurd hc.2.1 (by decide)⟩
    have hi : i < st.n := by omega
    have main : Calls Tryd.prog 13 #[.pointer (some ⟨S, 0, none⟩), .int .i64 i, caV c] w (AnsP w S g (doA st i c).1 (doA st i c).2) := by
      have nb : ¬ badB st.n st.th i c = true := by rw [hb]; exact Bool.false_ne_true
      obtain ⟨op, key, val, hi', lim⟩ := c
      simp only at o0 o1
      unfold doA
      rw [if_neg nb]
      simp only
      by_cases p0 : op = 0
      · subst p0; rw [if_pos rfl]; exact mans_put hms hp ok i key val hi' lim hb _ rfl (by split <;> rfl)
      rw [if_neg p0]
      by_cases p1 : op = 1
      · subst p1; rw [if_pos rfl]; exact mans_drop hms hp ok i key val hi' lim hb _ rfl (foundA_ps _)
      rw [if_neg p1]
      by_cases p3 : op = 3
      · subst p3; rw [if_pos rfl]; exact mans_range hms hp ok i key val hi' lim hb
      rw [if_neg p3]
      by_cases p4 : op = 4
      · subst p4; rw [if_pos rfl]; exact mans_count hms hp ok i key val hi' lim hb
      rw [if_neg p4]
      by_cases p9 : op < 9
      · rw [if_pos p9]; exact mans_one hms hp ok i op key val hi' lim hb (by omega)
      rw [if_neg p9]
      simp only [Int.toNat_natCast]
      exact mans_ses hms hp ok i hi op key val hi' lim hb ⟨by omega, o1⟩ _ _ rfl (sesA_ps _ _ _)
    exact main.mono fun e w' h => ⟨g, k3, h⟩
theorem heap4 (w : World) (a b c d : Obj) : let U := (((w.alloc a).alloc b).alloc c).alloc d
    U.heap[w.heap.size]? = some a ∧ U.heap[w.heap.size + 1]? = some b ∧ U.heap[w.heap.size + 1 + 1]? = some c ∧ U.heap[w.heap.size + 1 + 1 + 1]? = some d ∧ U.heap.size = w.heap.size + 4 := by
  intro U
  have s1 : (w.alloc a).heap.size = w.heap.size + 1 := by simp
  have s2 : ((w.alloc a).alloc b).heap.size = w.heap.size + 1 + 1 := by simp
  have s3 : (((w.alloc a).alloc b).alloc c).heap.size = w.heap.size + 1 + 1 + 1 := by simp
  have n0 := heap_alloc_new w a
  have n1 := heap_alloc_new (w.alloc a) b
  have n2 := heap_alloc_new ((w.alloc a).alloc b) c
  have n3 := heap_alloc_new (((w.alloc a).alloc b).alloc c) d
  rw [s1] at n1; rw [s2] at n2; rw [s3] at n3
  have k : ∀ (W : World) (o : Obj) (j : Nat), j < W.heap.size → (W.alloc o).heap[j]? = W.heap[j]? := fun W o j hj => Below.heap_alloc _ _ _ hj
  refine ⟨?_, ?_, ?_, n3, by simp [U]⟩
  · rw [k _ _ _ (by omega), k _ _ _ (by omega), k _ _ _ (by omega)]; exact n0
  · rw [k _ _ _ (by omega), k _ _ _ (by omega)]; exact n1
  · rw [k _ _ _ (by omega)]; exact n2
theorem st1 {w W : World} {X : List Nat} {R : Nat} {T : TypeId} {cs : Array Value} (hT : T ≠ 75) (hR : W.heap[R]? = some (.cells cs T (0, 0))) (hw : w.heap.size ≤ R) (k : KX X w W) (i : Nat) (v : Value) :
    (W.setCell ⟨R, i, none⟩ v).heap[R]? = some (.cells (cs.setIfInBounds i v) T (0, 0)) ∧ KX X w (W.setCell ⟨R, i, none⟩ v) ∧ NP W (W.setCell ⟨R, i, none⟩ v) ∧ ∀ b, b ≠ R → (W.setCell ⟨R, i, none⟩ v).heap[b]? = W.heap[b]? :=
  ⟨heap_setCell_same _ R i _ _ v hR, ⟨k.os, k.tape, k.output, by simpa [World.setCell] using k.size, fun a ha hx => (Below.heap_setCell _ _ _ _ (by show a ≠ R; omega)).trans (k.block a ha hx)⟩, NP.set v hR hT, fun b hb => Below.heap_setCell _ _ _ _ hb⟩
theorem st2 {w W : World} {X : List Nat} {R : Nat} {T : TypeId} {cs : Array Value} (hT : T ≠ 75) (hR : W.heap[R]? = some (.cells cs T (0, 0))) (hw : w.heap.size ≤ R) (k : KX X w W) (v0 v1 : Value) :
    KX X w ((W.setCell ⟨R, 0, none⟩ v0).setCell ⟨R, 1, none⟩ v1) ∧ NP W ((W.setCell ⟨R, 0, none⟩ v0).setCell ⟨R, 1, none⟩ v1) ∧ ∀ b, b ≠ R → ((W.setCell ⟨R, 0, none⟩ v0).setCell ⟨R, 1, none⟩ v1).heap[b]? = W.heap[b]? := by
  obtain ⟨r0, k0, n0, b0⟩ := st1 hT hR hw k 0 v0
  obtain ⟨r1, k1, n1, b1⟩ := st1 hT r0 hw k0 1 v1
  exact ⟨k1, n0.trans n1, fun b hb => (b1 b hb).trans (b0 b hb)⟩
theorem tr_keep2 {w w' : World} {v : Value} {n : Nat} {L : Nat → Se} (h : TR w v n L) (k : NP w w') (hb : ∀ b x, w.cell? ⟨b, 0, none⟩ = some (.bool x) → w'.heap[b]? = w.heap[b]?) : TR w' v n L := by
  cases h with
  | nil => exact .nil _
  | odd a c _ h1 => exact .odd a c _ h1
  | row T n c _ fv h1 h2 h3 =>
    refine .row T n c _ fv h1 h2 fun i hi => ?_
    obtain ⟨c0, c1, c2, c3, p⟩ := h3 i hi
    have e : w'.heap[T]? = w.heap[T]? := hb T _ (by
      have h5 := (h3 0 (by omega)).c0
      rwa [show (0 : Nat) * 4 = 0 by omega] at h5)
    exact ⟨(World.cell?_of_block (a := ⟨T, i * 4, none⟩) e).trans c0, (World.cell?_of_block (a := ⟨T, i * 4 + 1, none⟩) e).trans c1, (World.cell?_of_block (a := ⟨T, i * 4 + 2, none⟩) e).trans c2, (World.cell?_of_block (a := ⟨T, i * 4 + 3, none⟩) e).trans c3, p.np k⟩
/-- What Do leaves. -/
def DoP (w : World) (st : Sm) (a : An) (e : Ending) (w' : World) : Prop :=
  ∃ mv tv av, e = .returned (.tuple #[.agg #[mv, tv], anV a av]) ∧ PO w' mv st.mp ∧ TR w' tv st.n st.th ∧ PO w' av a.ps ∧ Below w.heap.size w w'
set_option maxRecDepth 16000 in
set_option maxHeartbeats 4000000 in
theorem mdo {w : World} {st : Sm} {mv tv : Value} (hp : PR w mv st.mp) (ht : TR w tv st.n st.th) (ok : OkS st) (t : Int) (c : Ca) :
    Calls Tryd.prog 7 #[.agg #[mv, tv], .int .i64 t, caV c] w (DoP w (doA st t c).1 (doA st t c).2) := by
  refine Calls.veil fun Q HQ => ?_
  have HP := Lib.hid hp
  have HT := Lib.hid ht
  have HOK := Lib.hid ok
  obtain ⟨op, key, val, hi, lim⟩ := c
  obtain ⟨st', hst⟩ : ∃ x, x = (doA st t ⟨op, key, val, hi, lim⟩).1 := ⟨_, rfl⟩
  obtain ⟨a, ha⟩ : ∃ x, x = (doA st t ⟨op, key, val, hi, lim⟩).2 := ⟨_, rfl⟩
  rw [← hst, ← ha] at HQ
  have HST := Lib.hid (And.intro hst ha)
  obtain ⟨mp, mc, rfl, _, _⟩ := hp.slice
  obtain ⟨tp, tc, rfl, _, _, _⟩ := ht.slice
  unfold caV
  simp only
  clear hp ht ok hst ha
  go_enter Tryd.func7, Tryd.ntmps7
  go_upto_region 1 with fail
  have h4 := heap4 w (.cells #[.slice mp st.mp.length mc, .slice tp st.n tc] 27) (.cells #[.int .i64 op, .int .i64 key, .int .i64 val, .int .i64 hi, .int .i64 lim] 38) (.cells #[.slice none 0 0, .slice none 0 0] 27) (.cells #[.int .i64 0, .int .i64 0, .int .i64 0, .int .i64 0, .slice none 0 0] 34)
  simp only at h4
  have hBU : Below w.heap.size w ((((w.alloc (.cells #[.slice mp st.mp.length mc, .slice tp st.n tc] 27)).alloc (.cells #[.int .i64 op, .int .i64 key, .int .i64 val, .int .i64 hi, .int .i64 lim] 38)).alloc (.cells #[.slice none 0 0, .slice none 0 0] 27)).alloc (.cells #[.int .i64 0, .int .i64 0, .int .i64 0, .int .i64 0, .slice none 0 0] 34)) := by (repeat (first | exact Below.refl _ _ | assumption | refine below_new ?_ _ | refine Below.drew ?_ | refine below_drewN ?_ _ | refine below_on ?_ (by assumption)))
  generalize hU : World.alloc _ _ = U at h4 hBU
  obtain ⟨B, hB⟩ : ∃ B, B = w.heap.size := ⟨_, rfl⟩
  rw [← hB] at h4 ⊢
  obtain ⟨u0, u1, u2, u3, u4⟩ := h4
  have HBE := Lib.hid hB
  have HBU := Lib.hid hBU
  have HU := Lib.hid (And.intro u1 (And.intro u2 (And.intro u3 u4)))
  have z0 : U.cell? ⟨B, 0, none⟩ = some (.slice mp st.mp.length mc) := by rw [cell_of_row _ _ _ _ _ (0, 0) u0]; rfl
  have z1 : U.cell? ⟨B, 1, none⟩ = some (.slice tp st.n tc) := by rw [cell_of_row _ _ _ _ _ (0, 0) u0]; rfl
  clear hU hBU hB u0 u1 u2 u3 u4
  go_wp2_with fail
  refine (mcopied (HP.out.below HBU.out) (HT.out.below HBU.out) HOK.out.n6 (by have := HOK.out.ml; omega) (fun i _ => by have := HOK.out.fl i; omega)).mono ?_; rintro _ w1 ⟨mv1, tv1, fv, rfl, hp1, ho1, hb1⟩
  have HP1 := Lib.hid hp1
  have HO1 := Lib.hid ho1
  have HB1 := Lib.hid hb1
  obtain ⟨p1, c1, rfl, _, _⟩ := hp1.1.slice
  obtain ⟨p2, c2, rfl⟩ := ho1.slice
  clear hp1 ho1 hb1 z0 z1
  go_upto_region 2 with fail
  generalize hV : World.alloc w1 _ = V
  obtain ⟨S, hSz⟩ : ∃ S, S = w1.heap.size := ⟨_, rfl⟩
  have hbV : Below w1.heap.size w1 V := by rw [← hV]; (repeat (first | exact Below.refl _ _ | assumption | refine below_new ?_ _ | refine Below.drew ?_ | refine below_drewN ?_ _ | refine below_on ?_ (by assumption)))
  have HS := Lib.hid (show V.heap[S]? = some (.cells #[.slice p1 st.mp.length c1, .slice p2 st.n c2] 27 (0, 0)) by rw [hSz, ← hV]; exact heap_alloc_new _ _)
  have HSU := Lib.hid (show U.heap.size ≤ S ∧ B + 4 ≤ U.heap.size by rw [hSz]; exact ⟨HB1.out.size, by have := HU.out.2.2.2; omega⟩)
  have HNE := Lib.hid (show ∀ g c m, Value.slice p2 st.n c2 = .slice (some ⟨g, 0, none⟩) m c → 0 < m → g ≠ S from fun g c m e hm => by have := (HO1.out.block g c m e hm).2; omega)
  have HP2 := Lib.hid (HP1.out.below hbV)
  have HO2 := Lib.hid (HO1.out.below hbV)
  have HBV := Lib.hid (HB1.out.trans (hbV.mono HB1.out.size))
  rw [← hSz]
  have HV1 := Lib.hid ((HBV.out.block _ (by have := HSU.out; omega)).trans HU.out.1)
  have z0 : V.cell? ⟨B + 1, 0, none⟩ = some (.int .i64 op) := by rw [cell_of_row _ _ _ _ _ (0, 0) HV1.out]; rfl
  have z1 : V.cell? ⟨B + 1, 1, none⟩ = some (.int .i64 key) := by rw [cell_of_row _ _ _ _ _ (0, 0) HV1.out]; rfl
  have z2 : V.cell? ⟨B + 1, 2, none⟩ = some (.int .i64 val) := by rw [cell_of_row _ _ _ _ _ (0, 0) HV1.out]; rfl
  have z3 : V.cell? ⟨B + 1, 3, none⟩ = some (.int .i64 hi) := by rw [cell_of_row _ _ _ _ _ (0, 0) HV1.out]; rfl
  have z4 : V.cell? ⟨B + 1, 4, none⟩ = some (.int .i64 lim) := by rw [cell_of_row _ _ _ _ _ (0, 0) HV1.out]; rfl
  clear hV hbV hSz
  go_wp2_with fail
  have C := manswer HS.out HP2.out HO2.out HNE.out HSU.out.1 HOK.out t ⟨op, key, val, hi, lim⟩
  rw [← HST.out.1, ← HST.out.2] at C
  refine C.mono ?_; rintro _ w2 ⟨g, hgB, av, mv2, tv2, rfl, hav, hS2, hp2, ht2, hk2⟩
  clear C z0 z1 z2 z3 z4
  have HG := Lib.hid hgB
  have HAV := Lib.hid hav
  have HS2 := Lib.hid hS2
  have HPM := Lib.hid hp2
  have HTM := Lib.hid ht2
  have HK2 := Lib.hid hk2
  obtain ⟨p3, c3, rfl, _, _⟩ := hav.1.slice
  obtain ⟨p4, c4, rfl, _, _⟩ := hp2.1.slice
  obtain ⟨p5, c5, rfl, _, _, _⟩ := ht2.slice
  unfold anV
  clear hgB hav hS2 hp2 ht2 hk2
  go_upto_region 3 with fail
  generalize hX : World.alloc w2 _ = X
  obtain ⟨Y, hYz⟩ : ∃ Y, Y = w2.heap.size := ⟨_, rfl⟩
  have hbX : Below w2.heap.size w2 X := by rw [← hX]; (repeat (first | exact Below.refl _ _ | assumption | refine below_new ?_ _ | refine Below.drew ?_ | refine below_drewN ?_ _ | refine below_on ?_ (by assumption)))
  have hYX : X.heap[Y]? = some (.cells #[.int .i64 a.kind, .int .i64 a.key, .int .i64 a.val, .int .i64 a.n, .slice p3 a.ps.length c3] 34 (0, 0)) := by rw [hYz, ← hX]; exact heap_alloc_new _ _
  have y0 : X.cell? ⟨Y, 0, none⟩ = some (.int .i64 a.kind) := by rw [cell_of_row _ _ _ _ _ (0, 0) hYX]; rfl
  have y1 : X.cell? ⟨Y, 1, none⟩ = some (.int .i64 a.key) := by rw [cell_of_row _ _ _ _ _ (0, 0) hYX]; rfl
  have y2 : X.cell? ⟨Y, 2, none⟩ = some (.int .i64 a.val) := by rw [cell_of_row _ _ _ _ _ (0, 0) hYX]; rfl
  have y3 : X.cell? ⟨Y, 3, none⟩ = some (.int .i64 a.n) := by rw [cell_of_row _ _ _ _ _ (0, 0) hYX]; rfl
  have y4 : X.cell? ⟨Y, 4, none⟩ = some (.slice p3 a.ps.length c3) := by rw [cell_of_row _ _ _ _ _ (0, 0) hYX]; rfl
  have hSX := (hbX.block S (Array.getElem?_eq_some_iff.1 HS2.out).1).trans HS2.out
  have x0 : X.cell? ⟨S, 0, none⟩ = some (.slice p4 st'.mp.length c4) := by rw [cell_of_row _ _ _ _ _ (0, 0) hSX]; rfl
  have x1 : X.cell? ⟨S, 1, none⟩ = some (.slice p5 st'.n c5) := by rw [cell_of_row _ _ _ _ _ (0, 0) hSX]; rfl
  have h2 : X.heap[B + 1 + 1]? = some (.cells #[.slice none 0 0, .slice none 0 0] 27 (0, 0)) := by
    have hs := HSU.out
    have hg := HG.out
    have hb := HK2.out.block (B + 1 + 1) (by have := HBV.out.size; omega) (by simp; omega)
    exact (hbX.block _ (by have := HK2.out.size; have := HBV.out.size; omega)).trans (hb.trans ((HBV.out.block _ (by omega)).trans HU.out.2.1))
  have h3 : X.heap[B + 1 + 1 + 1]? = some (.cells #[.int .i64 0, .int .i64 0, .int .i64 0, .int .i64 0, .slice none 0 0] 34 (0, 0)) := by
    have hs := HSU.out
    have hg := HG.out
    have hb := HK2.out.block (B + 1 + 1 + 1) (by have := HBV.out.size; omega) (by simp; omega)
    exact (hbX.block _ (by have := HK2.out.size; have := HBV.out.size; omega)).trans (hb.trans ((HBV.out.block _ (by omega)).trans HU.out.2.2.1))
  have f2 : ∀ i, X.frozen? ⟨B + 1 + 1, i, none⟩ = false := fun i => frozen_of_row _ _ _ _ _ h2
  have f3 : ∀ i, X.frozen? ⟨B + 1 + 1 + 1, i, none⟩ = false := fun i => frozen_of_row _ _ _ _ _ h3
  have a0 : X.cell? ⟨B + 1 + 1, 0, none⟩ = some (.slice none 0 0) := by rw [cell_of_row _ _ _ _ _ (0, 0) h2]; rfl
  have a1 : X.cell? ⟨B + 1 + 1, 1, none⟩ = some (.slice none 0 0) := by rw [cell_of_row _ _ _ _ _ (0, 0) h2]; rfl
  obtain ⟨b0, b1, b2, b3, b4, bf⟩ := (show A5 X (B + 1 + 1 + 1) from h3).c
  have H2 := Lib.hid h2
  have H3 := Lib.hid h3
  have HBX := Lib.hid hbX
  have HXB := Lib.hid (show Below w.heap.size w X from by
    have hs := HSU.out
    have hg := HG.out
    have hbe := HBE.out
    have k1 := HBU.out.trans (HBV.out.mono HBU.out.size)
    have k2 := KX.below k1 HK2.out (by intro x hx; simp at hx; rcases hx with rfl | rfl <;> omega)
    exact k2.trans (hbX.mono k2.size))
  have HPX := Lib.hid (HPM.out.below hbX)
  have HTX := Lib.hid (HTM.out.below hbX)
  have HAX := Lib.hid (HAV.out.below hbX)
  rw [← hYz]
  have hSB : S ≠ B + 1 + 1 := by have := HSU.out; omega
  have hSB3 : S ≠ B + 1 + 1 + 1 := by have := HSU.out; omega
  have hYB : Y ≠ B + 1 + 1 := by have := HSU.out; have := HK2.out.size; have := HBV.out.size; omega
  have hYB3 : Y ≠ B + 1 + 1 + 1 := by have := HSU.out; have := HK2.out.size; have := HBV.out.size; omega
  clear hX hbX hYX hSX h2 h3 hYz
  go_region
  all_goals
    go_wp2_with fail
    refine bodyPost_ret (v := .tuple #[.agg #[.slice p4 st'.mp.length c4, .slice p5 st'.n c5], .agg #[.int .i64 a.kind, .int .i64 a.key, .int .i64 a.val, .int .i64 a.n, .slice p3 a.ps.length c3]]) (by simp [results, Tryd.results7, go_sem, a0, a1, b0, b1, b2, b3, b4, World.cell?_setCell_same, World.cell?_setCell_other]) rfl ?_
    rw [HQ.out]
    have hbe := HBE.out
    obtain ⟨k2, n2, o2⟩ := st2 (w := w) (X := []) (T := 27) (by decide) H2.out (by omega) (KX.of_below HXB.out) (.slice p4 st'.mp.length c4) (.slice p5 st'.n c5)
    have h3' := (o2 (B + 1 + 1 + 1) (by omega)).trans H3.out
    obtain ⟨k3, n3, o3⟩ := ans5 (w := w) (X := []) h3' (by omega) k2 (.int .i64 a.kind) (.int .i64 a.key) (.int .i64 a.val) (.int .i64 a.n) (.slice p3 a.ps.length c3)
    have nn := n2.trans n3
    have hd : ∀ W : World, Below W.heap.size W W.drew := fun W => (Below.refl _ _).drew
    have hfin : Below w.heap.size w _ := ⟨k3.os, k3.tape, k3.output, k3.size, fun k hk => k3.block k hk (by simp)⟩
    refine ⟨_, _, _, rfl, (HPX.out.np nn).below (hd _), ?_, (HAX.out.np nn).below (hd _), hfin.trans ((hd _).mono k3.size)⟩
    refine (tr_keep2 HTX.out nn fun b x hb => ?_).below (hd _)
    have e2 : b ≠ B + 1 + 1 := by intro e; subst e; rw [a0] at hb; cases hb
    have e3 : b ≠ B + 1 + 1 + 1 := by intro e; subst e; rw [b0] at hb; cases hb
    exact (o3 b e3).trans (o2 b e2)
end Go.Proofs.YtkgfhomoipbjoaaDoor
