/- Layer 10: whether an answer may be told: the model. -/
import Derived.Test.YtcbdbfmlkkpndaaModU
namespace Go.Proofs.Ytcbdbfmlkkpndaa
open Go.RowKit
set_option linter.unusedVariables false
set_option linter.unusedSimpArgs false
/-- Whether an answer may be told, and the state behind. -/
def bareB (a : An) (k : Int) : Bool := sameAB a.kind a.key a.val a.n a.ps k 0 0 0 []
def fullB (op : Int) (m a : An) : Bool := (decide (op = 0) && decide (m.kind = 0)) && bareB a 6
def spentB (op : Int) (m a : An) : Bool := (readsB op && !decide (m.kind = 8)) && bareB a 7
def toldA (st : Sm) (t : Int) (c : Ca) (a : An) : Sm × Bool :=
  if sameAB a.kind a.key a.val a.n a.ps (doA st t c).2.kind (doA st t c).2.key (doA st t c).2.val (doA st t c).2.n (doA st t c).2.ps = true then ((doA st t c).1, true) else (st, fullB c.op (doA st t c).2 a || spentB c.op (doA st t c).2 a)
def ToP (w : World) (x : Sm × Bool) (e : Ending) (w' : World) : Prop :=
  ∃ mv tv, e = .returned (.tuple #[.agg #[mv, tv], .bool x.2]) ∧ PO w' mv x.1.mp ∧ TR w' tv x.1.n x.1.th ∧ Below w.heap.size w w'
theorem heap2e {w V : World} {a b : Obj} (h : (w.alloc a).alloc b = V) : V.heap[w.heap.size]? = some a ∧ V.heap[w.heap.size + 1]? = some b ∧ Below w.heap.size w V := by
  subst h
  exact ⟨(heap2 w a b).1, (heap2 w a b).2, below_new (below_new (Below.refl _ _) _) _⟩
theorem heap4e {w V : World} {a b c d : Obj} (h : (((w.alloc a).alloc b).alloc c).alloc d = V) : V.heap[w.heap.size]? = some a ∧ V.heap[w.heap.size + 1]? = some b ∧ V.heap[w.heap.size + 1 + 1]? = some c ∧ V.heap[w.heap.size + 1 + 1 + 1]? = some d ∧ V.heap.size = w.heap.size + 4 ∧ Below w.heap.size w V := by
  subst h
  have := heap4 w a b c d
  exact ⟨this.1, this.2.1, this.2.2.1, this.2.2.2.1, this.2.2.2.2, below_new (below_new (below_new (below_new (Below.refl _ _) _) _) _) _⟩
theorem st_ret {T : TypeId} (hT : T ≠ 53) {w W : World} {b : Nat} {mv tv : Value} {l : PL} {n : Nat} {L : Nat → Se} (h : W.heap[b]? = some (.cells #[.slice none 0 0, .slice none 0 0] T (0, 0))) (hw : w.heap.size ≤ b) (hb : Below w.heap.size w W) (hp : PO W mv l) (ht : TR W tv n L) :
    PO ((W.setCell ⟨b, 0, none⟩ mv).setCell ⟨b, 1, none⟩ tv) mv l ∧ TR ((W.setCell ⟨b, 0, none⟩ mv).setCell ⟨b, 1, none⟩ tv) tv n L ∧ Below w.heap.size w ((W.setCell ⟨b, 0, none⟩ mv).setCell ⟨b, 1, none⟩ tv) := by
  obtain ⟨k1, n1, o1⟩ := st2 (w := w) (X := []) hT h hw (KX.of_below hb) mv tv
  refine ⟨hp.np n1, tr_keep2 ht n1 fun b x hx => o1 b ?_, ⟨k1.os, k1.tape, k1.output, k1.size, fun k hk => k1.block k hk (by simp)⟩⟩
  intro e; subst e; rw [newcell h 0 _ rfl] at hx; cases hx
theorem up {w W : World} (h : Below w.heap.size w W) {b : Nat} {o : Obj} (k : w.heap[b]? = some o) : W.heap[b]? = some o := (h.block _ (blk_lt k)).trans k
theorem bare_len {a : An} (h : (a.key == 0 && a.val == 0 && a.n == 0 && a.ps.length == 0) = true) (k : Int) : bareB a k = decide (a.kind = k) := by
  simp only [Bool.and_eq_true, beq_iff_eq] at h
  obtain ⟨⟨⟨h1, h2⟩, h3⟩, h4⟩ := h
  have h5 : a.ps = [] := List.length_eq_zero_iff.1 h4
  unfold bareB sameAB sameB
  rw [h1, h2, h3, h5]
  rw [Bool.eq_iff_iff]
  simp
theorem bare_not {a : An} (h : ¬ (a.key = 0 ∧ a.val = 0 ∧ a.n = 0 ∧ a.ps.length = 0)) (k : Int) : bareB a k = false := by
  cases hh : bareB a k
  · rfl
  · unfold bareB sameAB sameB at hh
    simp only [Bool.and_eq_true, beq_iff_eq, decide_eq_true_eq] at hh
    obtain ⟨⟨⟨⟨h1, h2⟩, h3⟩, h4⟩, h5⟩ := hh
    exact absurd ⟨h2, h3, h4, by rw [h5]; rfl⟩ h
theorem reads0 : readsB 0 = false := by decide
set_option maxRecDepth 16000 in
set_option maxHeartbeats 4000000 in
theorem mtold {w : World} {st : Sm} {mv tv av : Value} (hp : PR w mv st.mp) (ht : TR w tv st.n st.th) (ok : OkS st) (t : Int) (c : Ca) (a : An) (ha : PR w av a.ps) (hal : a.ps.length ≤ 2000) :
    Calls Try.prog 14 #[.agg #[mv, tv], .int .i64 t, caV c, anV a av] w (ToP w (toldA st t c a)) := by
  refine Calls.veil fun Q HQ => ?_
  have HP := Lib.hid hp; have HT := Lib.hid ht; have HOK := Lib.hid ok; have HA := Lib.hid ha
  have HAL := Lib.hid (show a.ps.length ≤ 100000 by omega)
  obtain ⟨op, key, val, hi, lim⟩ := c
  obtain ⟨ak, aky, avl, an, aps⟩ := a
  obtain ⟨st', hst⟩ : ∃ x, x = (doA st t ⟨op, key, val, hi, lim⟩).1 := ⟨_, rfl⟩
  obtain ⟨m, hm⟩ : ∃ x, x = (doA st t ⟨op, key, val, hi, lim⟩).2 := ⟨_, rfl⟩
  obtain ⟨s, hs⟩ : ∃ s, s = sameAB ak aky avl an aps m.kind m.key m.val m.n m.ps := ⟨_, rfl⟩
  have HT1 := Lib.hid (show s = true → toldA st t ⟨op, key, val, hi, lim⟩ ⟨ak, aky, avl, an, aps⟩ = (st', true) from fun h => by unfold toldA; simp only; rw [← hm, ← hst, ← hs, if_pos h])
  have HT2 := Lib.hid (show s = false → toldA st t ⟨op, key, val, hi, lim⟩ ⟨ak, aky, avl, an, aps⟩ = (st, fullB op m ⟨ak, aky, avl, an, aps⟩ || spentB op m ⟨ak, aky, avl, an, aps⟩) from fun h => by unfold toldA; simp only; rw [← hm, ← hs, h, if_neg (by decide)])
  have HST := Lib.hid (And.intro hst hm)
  have HS := Lib.hid hs
  obtain ⟨p, pc, rfl, _, _⟩ := hp.slice
  obtain ⟨q, qc, rfl, _, _, _⟩ := ht.slice
  obtain ⟨r, rc, rfl, _, _⟩ := ha.slice
  unfold caV anV
  simp only at HA HAL ⊢
  clear hp ht ok ha hal hst hm hs
  go_enter Try.func14, Try.ntmps14
  go_upto_region 1 with fail
  generalize hU : World.alloc _ _ = U
  obtain ⟨u0, u1, u2, u3, us, hbu⟩ := heap4e hU
  obtain ⟨B, hB⟩ : ∃ B, B = w.heap.size := ⟨_, rfl⟩
  rw [← hB] at u0 u1 u2 u3 us ⊢
  have HU0 := Lib.hid u0; have HU1 := Lib.hid u1; have HU2 := Lib.hid u2; have HU3 := Lib.hid u3; have HUS := Lib.hid us; have HBU := Lib.hid hbu
  have HWB := Lib.hid (show w.heap.size ≤ B by rw [hB]; exact Nat.le_refl _)
  have z0 := newcell u0 0 _ rfl; have z1 := newcell u0 1 _ rfl
  have c0 := newcell u1 0 _ rfl; have c1 := newcell u1 1 _ rfl; have c2 := newcell u1 2 _ rfl; have c3 := newcell u1 3 _ rfl; have c4 := newcell u1 4 _ rfl
  clear hU hB u0 u1 u2 u3 us hbu
  go_wp2_with fail
  have C := mdo (HP.out.below HBU.out) (HT.out.below HBU.out) HOK.out t ⟨op, key, val, hi, lim⟩
  rw [← HST.out.1, ← HST.out.2] at C
  refine C.mono ?_; rintro _ w1 ⟨mv1, tv1, av1, rfl, hp1, ht1, ha1, hb1⟩
  obtain ⟨p1, pc1, rfl, _, _⟩ := hp1.1.slice
  obtain ⟨q1, qc1, rfl, _, _, _⟩ := ht1.slice
  obtain ⟨r1, rc1, rfl, _, _⟩ := ha1.1.slice
  unfold anV
  have HP1 := Lib.hid hp1; have HTT := Lib.hid ht1; have HA1 := Lib.hid ha1; have HB1 := Lib.hid hb1
  clear C hp1 ht1 ha1 hb1 z0 z1 c0 c1 c2 c3 c4
  go_upto_region 2 with fail
  generalize hV : World.alloc _ _ = V
  obtain ⟨v0, v1, hbv⟩ := heap2e hV
  obtain ⟨Y, hY⟩ : ∃ Y, Y = w1.heap.size := ⟨_, rfl⟩
  rw [← hY] at v0 v1 ⊢
  have HV0 := Lib.hid v0; have HV1 := Lib.hid v1
  have HBV := Lib.hid (below_on HB1.out hbv)
  have HYB := Lib.hid (show B + 4 ≤ Y by have := HB1.out.size; have := HUS.out; omega)
  have HPV := Lib.hid (HP1.out.below hbv); have HTV := Lib.hid (HTT.out.below hbv); have HAV := Lib.hid (HA1.out.below hbv)
  have d0 := newcell v1 0 _ rfl; have d1 := newcell v1 1 _ rfl; have d2 := newcell v1 2 _ rfl; have d3 := newcell v1 3 _ rfl; have d4 := newcell v1 4 _ rfl
  have a2 := up HBV.out HU2.out
  have e0 := newcell a2 0 _ rfl; have e1 := newcell a2 1 _ rfl; have e2 := newcell a2 2 _ rfl; have e3 := newcell a2 3 _ rfl; have e4 := newcell a2 4 _ rfl
  clear hV hY v0 v1 hbv a2 HP1 HTT HA1
  have HBX := Lib.hid (below_on HBU.out HBV.out)
  go_wp2_with fail
  refine (csame ak aky avl an _ aps m.kind m.key m.val m.n _ m.ps V (HA.out.below HBX.out) HAV.out.1 HAL.out).mono ?_; rintro _ w2 ⟨rfl, hb2⟩
  rw [← HS.out]
  have HB2 := Lib.hid hb2
  have HB2X := Lib.hid (below_on HBV.out hb2)
  have HBW := Lib.hid (below_on HBX.out hb2)
  clear d0 d1 d2 d3 d4 e0 e1 e2 e3 e4 hb2
  have hne : Y ≠ B + 1 + 1 + 1 := by have := HYB.out; omega
  have hne' : B + 1 + 1 + 1 ≠ Y := by have := HYB.out; omega
  cases s with
  | true =>
    have k3 := up HB2X.out HU3.out; have k0 := up HB2.out HV0.out
    have K3 := Lib.hid k3
    have y0 := newcell k0 0 _ rfl; have y1 := newcell k0 1 _ rfl
    have f0 := newcell k3 0 _ rfl; have f1 := newcell k3 1 _ rfl; have ff := newfree k3
    clear k3 k0
    go_wp2_with fail
    refine bodyPost_ret (v := .tuple #[.agg #[.slice p1 st'.mp.length pc1, .slice q1 st'.n qc1], .bool true]) (by simp [results, Try.results14, go_sem, f0, f1, y0, y1, World.cell?_setCell_same, World.cell?_setCell_other]) rfl ?_
    rw [HQ.out, HT1.out (by simp)]
    obtain ⟨x1, x2, x3⟩ := st_ret (w := w) (T := 27) (by decide) K3.out (by have := HWB.out; omega) HBW.out (HPV.out.below HB2.out) (HTV.out.below HB2.out)
    exact ⟨_, _, rfl, x1, x2, x3⟩
  | false =>
    go_upto_region 4 with fail
    have k1 := up HB2X.out HU1.out; have k4 := up HB2.out HV1.out; have k2 := up HB2X.out HU2.out
    have c0 := newcell k1 0 _ rfl
    have d0 := newcell k4 0 _ rfl
    have e0 := newcell k2 0 _ rfl; have e1 := newcell k2 1 _ rfl; have e2 := newcell k2 2 _ rfl; have e3 := newcell k2 3 _ rfl; have e4 := newcell k2 4 _ rfl
    have HK1 := Lib.hid k1; have HK2 := Lib.hid k2; have HK4 := Lib.hid k4
    clear k1 k2 k4
    go_cut [2, 12] from 14 to 56 (fun p2 p12 wc => p2 = .agg #[.int .i64 op, .int .i64 key, .int .i64 val, .int .i64 hi, .int .i64 lim] ∧ p12 = .bool (fullB op m ⟨ak, aky, avl, an, aps⟩) ∧ Below w2.heap.size w2 wc)
    case first =>
      rcases (by omega : (op = 0 ∧ m.kind = 0) ∨ (op = 0 ∧ m.kind ≠ 0) ∨ op ≠ 0) with ⟨h1, h2⟩ | ⟨h1, h2⟩ | h1
      · have HE := Lib.hid (show fullB op m ⟨ak, aky, avl, an, aps⟩ = sameAB ak aky avl an aps 6 0 0 0 [] by unfold fullB bareB; rw [h1, h2]; rfl)
        go_wp2_with fail
        refine (csame ak aky avl an _ aps 6 0 0 0 _ [] w2 (HA.out.below HBW.out) .nil HAL.out).mono ?_; rintro _ w3 ⟨rfl, hb3⟩
        rw [← HE.out]
        go_wp2_with fail
        go_meet
        case rel => exact ⟨by first | rfl | rw [h1], by first | rfl | rw [h1], hb3⟩
      · have HE := Lib.hid (show fullB op m ⟨ak, aky, avl, an, aps⟩ = false by unfold fullB; simp [h2])
        go_wp2_with fail
        go_meet
        case rel => exact ⟨by first | rfl | rw [h1], by rw [HE.out], Below.refl _ _⟩
      · have HE := Lib.hid (show fullB op m ⟨ak, aky, avl, an, aps⟩ = false by unfold fullB; simp [h1])
        go_wp2_with fail
        go_meet
        case rel => exact ⟨by first | rfl | rw [h1], by rw [HE.out], Below.refl _ _⟩
    case rest =>
    obtain ⟨rfl, rfl, hb3⟩ := hcut
    clear c0 d0 e0 e1 e2 e3 e4
    have HB3 := Lib.hid hb3
    generalize hff : fullB op m ⟨ak, aky, avl, an, aps⟩ = ff
    have HFF := Lib.hid hff
    go_upto_region 5 with fail
    have c0 := newcell (up hb3 HK1.out) 0 _ rfl
    clear hb3 hff
    go_cut [13] from 14 to 56 (fun p13 wd => p13 = .bool (spentB op m ⟨ak, aky, avl, an, aps⟩) ∧ Below wc.heap.size wc wd)
    case first =>
      go_wp2_with fail
      refine (creads op wc).mono ?_; rintro _ w4 ⟨rfl, hb4⟩
      have d0 := newcell (up hb4 (up HB3.out HK4.out)) 0 _ rfl
      have k2 := up hb4 (up HB3.out HK2.out)
      have e0 := newcell k2 0 _ rfl; have e1 := newcell k2 1 _ rfl; have e2 := newcell k2 2 _ rfl; have e3 := newcell k2 3 _ rfl; have e4 := newcell k2 4 _ rfl
      have HB4 := Lib.hid hb4
      clear k2 hb4
      cases hr : readsB op with
      | false =>
        have HE := Lib.hid (show spentB op m ⟨ak, aky, avl, an, aps⟩ = false by unfold spentB; rw [hr]; rfl)
        go_wp2_with fail
        go_meet
        case rel => exact ⟨by rw [HE.out], HB4.out⟩
      | true =>
        rcases (by omega : m.kind = 8 ∨ m.kind ≠ 8) with h1 | h1
        · have HE := Lib.hid (show spentB op m ⟨ak, aky, avl, an, aps⟩ = false by unfold spentB; simp [h1])
          go_wp2_with fail
          go_meet
          case rel => exact ⟨by rw [HE.out], HB4.out⟩
        · have HE := Lib.hid (show spentB op m ⟨ak, aky, avl, an, aps⟩ = sameAB ak aky avl an aps 7 0 0 0 [] by unfold spentB bareB; simp [hr, h1])
          go_wp2_with fail
          refine (csame ak aky avl an _ aps 7 0 0 0 _ [] w4 (HA.out.below (below_on (below_on HBW.out HB3.out) HB4.out)) .nil HAL.out).mono ?_; rintro _ w5 ⟨rfl, hb5⟩
          rw [← HE.out]
          go_wp2_with fail
          go_meet
          case rel => exact ⟨by first | rfl | simp [h1], below_on HB4.out hb5⟩
    case rest =>
    obtain ⟨rfl, hb4⟩ := hcut
    clear c0
    generalize hgg : spentB op m ⟨ak, aky, avl, an, aps⟩ = gg
    have HGG := Lib.hid hgg
    go_upto_region 6 with fail
    have hbw := below_on HB2X.out (below_on HB3.out hb4)
    have HBD := Lib.hid (below_on HBU.out hbw)
    have k0 := up hbw HU0.out
    have HU3D := Lib.hid (up hbw HU3.out)
    have z0 := newcell k0 0 _ rfl; have z1 := newcell k0 1 _ rfl
    clear k0 hb4 hgg hbw
    go_wp2_with fail
    refine (mcopied (HP.out.below HBD.out) (HT.out.below HBD.out) HOK.out.n6 (by have := HOK.out.ml; omega) (fun i _ => by have := HOK.out.fl i; omega)).mono ?_; rintro _ w6 ⟨mv6, tv6, fv6, rfl, hp6, ho6, hb6⟩
    obtain ⟨p6, pc6, rfl, _, _⟩ := hp6.1.slice
    have ht6 := ho6.tr
    obtain ⟨q6, qc6, rfl, _, _, _⟩ := ht6.slice
    have HP6 := Lib.hid hp6; have HT6 := Lib.hid ht6; have HB6 := Lib.hid (below_on HBD.out hb6)
    have k3 := up hb6 HU3D.out
    have K3 := Lib.hid k3
    have f0 := newcell k3 0 _ rfl; have f1 := newcell k3 1 _ rfl; have fz := newfree k3
    clear hp6 ho6 ht6 hb6 k3 z0 z1
    have HOR := Lib.hid (show (fullB op m ⟨ak, aky, avl, an, aps⟩ || spentB op m ⟨ak, aky, avl, an, aps⟩) = (ff || gg) by rw [HFF.out, HGG.out])
    cases ff with
    | false =>
      go_wp2_with fail
      refine bodyPost_ret (v := .tuple #[.agg #[.slice p6 st.mp.length pc6, .slice q6 st.n qc6], .bool gg]) (by simp [results, Try.results14, go_sem, f0, f1, World.cell?_setCell_same, World.cell?_setCell_other]) rfl ?_
      rw [HQ.out, HT2.out (by simp), HOR.out]
      obtain ⟨x1, x2, x3⟩ := st_ret (w := w) (T := 27) (by decide) K3.out (by have := HWB.out; omega) HB6.out HP6.out HT6.out
      exact ⟨_, _, by simp, x1, x2, x3⟩
    | true =>
      go_wp2_with fail
      refine bodyPost_ret (v := .tuple #[.agg #[.slice p6 st.mp.length pc6, .slice q6 st.n qc6], .bool true]) (by simp [results, Try.results14, go_sem, f0, f1, World.cell?_setCell_same, World.cell?_setCell_other]) rfl ?_
      rw [HQ.out, HT2.out (by simp), HOR.out]
      obtain ⟨x1, x2, x3⟩ := st_ret (w := w) (T := 27) (by decide) K3.out (by have := HWB.out; omega) HB6.out HP6.out HT6.out
      exact ⟨_, _, by simp, x1, x2, x3⟩
end Go.Proofs.Ytcbdbfmlkkpndaa
