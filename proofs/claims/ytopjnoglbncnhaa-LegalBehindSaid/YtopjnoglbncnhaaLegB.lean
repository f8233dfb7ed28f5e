/- Layer 12: the state behind an oper. -/
import Derived.Test.YtopjnoglbncnhaaLegA
namespace Go.Proofs.Ytopjnoglbncnhaa
open Go.RowKit
set_option linter.unusedVariables false
set_option linter.unusedSimpArgs false
/-- An oper as a value. -/
def opV (x : Op13) (av : Value) : Value := .agg #[.int .i64 x.th, .int .i64 x.c.op, .int .i64 x.c.key, .int .i64 x.c.val, .int .i64 x.c.hi, .int .i64 x.c.lim, .int .i64 x.a.kind, .int .i64 x.a.key, .int .i64 x.a.val, .int .i64 x.a.n, av, .int .i64 x.fr, .int .i64 x.tt]
theorem heap3e {w V : World} {a b c : Obj} (h : ((w.alloc a).alloc b).alloc c = V) : V.heap[w.heap.size]? = some a ∧ V.heap[w.heap.size + 1]? = some b ∧ V.heap[w.heap.size + 1 + 1]? = some c ∧ V.heap.size = w.heap.size + 3 ∧ Below w.heap.size w V := by
  subst h
  have := heap3 w a b c
  exact ⟨this.1, this.2.1, this.2.2.1, this.2.2.2, below_new (below_new (below_new (Below.refl _ _) _) _) _⟩
theorem below_of_kx {w W : World} (h : KX [] w W) : Below w.heap.size w W := ⟨h.os, h.tape, h.output, h.size, fun k hk => h.block k hk (by simp)⟩
set_option maxRecDepth 16000 in
set_option maxHeartbeats 4000000 in
theorem lafter {w : World} {st : Sm} {mv tv av : Value} (hp : PO w mv st.mp) (ht : TR w tv st.n st.th) (ok : OkS st) (x : Op13) (ha : PR w av x.a.ps) (hal : x.a.ps.length ≤ 2000) :
    Calls Try.prog 12 #[.agg #[mv, tv], opV x av] w (ToP w (aftA st x)) := by
  refine Calls.veil fun Q HQ => ?_
  have HP := Lib.hid hp; have HT := Lib.hid ht; have HOK := Lib.hid ok; have HA := Lib.hid ha; have HAL := Lib.hid hal
  obtain ⟨th, ⟨op, key, val, hi, lim⟩, ⟨ak, aky, avl, an, aps⟩, fr, tt⟩ := x
  obtain ⟨p, pc, rfl, _, _⟩ := hp.1.slice
  obtain ⟨q, qc, rfl, _, _, _⟩ := ht.slice
  obtain ⟨r, rc, rfl, _, _⟩ := ha.slice
  unfold opV
  simp only at HA HAL ⊢
  clear hp ht ok ha hal
  go_enter Try.func12, Try.ntmps12
  go_upto_region 1 with fail
  generalize hU : World.alloc _ _ = U
  obtain ⟨u0, u1, u2, us, hbu⟩ := heap3e hU
  obtain ⟨B, hB⟩ : ∃ B, B = w.heap.size := ⟨_, rfl⟩
  rw [← hB] at u0 u1 u2 us ⊢
  have HU2 := Lib.hid u2; have HUS := Lib.hid us; have HBU := Lib.hid hbu
  have HWB := Lib.hid (show w.heap.size ≤ B by rw [hB]; exact Nat.le_refl _)
  have z0 := newcell u0 0 _ rfl; have z1 := newcell u0 1 _ rfl
  have o0 := newcell u1 0 _ rfl; have o1 := newcell u1 1 _ rfl; have o2 := newcell u1 2 _ rfl; have o3 := newcell u1 3 _ rfl; have o4 := newcell u1 4 _ rfl; have o5 := newcell u1 5 _ rfl; have o6 := newcell u1 6 _ rfl; have o7 := newcell u1 7 _ rfl; have o8 := newcell u1 8 _ rfl; have o9 := newcell u1 9 _ rfl; have o10 := newcell u1 10 _ rfl; have o11 := newcell u1 11 _ rfl; have o12 := newcell u1 12 _ rfl
  clear hU hB u0 u1 u2 us hbu
  rcases (by omega : tt < 0 ∨ 0 ≤ tt) with hto | hto
  · have HAF := Lib.hid (show aftA st ⟨th, ⟨op, key, val, hi, lim⟩, ⟨ak, aky, avl, an, aps⟩, fr, tt⟩ = ((doA st th ⟨op, key, val, hi, lim⟩).1, true) by unfold aftA; rw [if_pos hto])
    go_wp2_with fail
    refine (mdo (HP.out.below HBU.out).1 (HT.out.below HBU.out) HOK.out th ⟨op, key, val, hi, lim⟩).mono ?_; rintro _ w1 ⟨mv1, tv1, av1, rfl, hp1, ht1, ha1, hb1⟩
    obtain ⟨p1, pc1, rfl, _, _⟩ := hp1.1.slice
    obtain ⟨q1, qc1, rfl, _, _, _⟩ := ht1.slice
    obtain ⟨r1, rc1, rfl, _, _⟩ := ha1.1.slice
    unfold anV
    have HP1 := Lib.hid hp1; have HT1 := Lib.hid ht1; have HB1 := Lib.hid hb1
    clear hp1 ht1 ha1 hb1 z0 z1 o0 o1 o2 o3 o4 o5 o6 o7 o8 o9 o10 o11 o12
    simp only
    go_upto_region 3 with fail
    generalize hV : World.alloc _ _ = V
    obtain ⟨v0, v1, hbv⟩ := heap2e hV
    have HP1 := Lib.hid (HP1.out.below hbv); have HT1 := Lib.hid (HT1.out.below hbv)
    have HB1 := Lib.hid (below_on HB1.out hbv)
    have k2 := up HB1.out HU2.out
    have K2 := Lib.hid k2
    have HBW := Lib.hid (below_on HBU.out HB1.out)
    have s0 := newcell v0 0 _ rfl; have s1 := newcell v0 1 _ rfl
    have f0 := newcell k2 0 _ rfl; have f1 := newcell k2 1 _ rfl; have fz := newfree k2
    clear hV v0 v1 hbv k2 hto
    go_wp2_with fail
    refine bodyPost_ret (v := .tuple #[.agg #[.slice p1 (doA st th ⟨op, key, val, hi, lim⟩).1.mp.length pc1, .slice q1 (doA st th ⟨op, key, val, hi, lim⟩).1.n qc1], .bool true]) (by simp [results, Try.results12, go_sem, f0, f1, World.cell?_setCell_same, World.cell?_setCell_other]) rfl ?_
    rw [HQ.out, HAF.out]
    obtain ⟨x1, x2, x3⟩ := st_ret (w := w) (T := 29) (by decide) K2.out (by have := HWB.out; omega) HBW.out HP1.out HT1.out
    exact ⟨_, _, rfl, x1, x2, x3⟩
  · have HAF := Lib.hid (show aftA st ⟨th, ⟨op, key, val, hi, lim⟩, ⟨ak, aky, avl, an, aps⟩, fr, tt⟩ = toldA st th ⟨op, key, val, hi, lim⟩ ⟨ak, aky, avl, an, aps⟩ by unfold aftA; rw [if_neg (by simpa using hto)])
    have RD := mtold (HP.out.below HBU.out).1 (HT.out.below HBU.out) HOK.out th ⟨op, key, val, hi, lim⟩ ⟨ak, aky, avl, an, aps⟩ (HA.out.below HBU.out) HAL.out
    obtain ⟨xx, hxx⟩ : ∃ x, x = toldA st th ⟨op, key, val, hi, lim⟩ ⟨ak, aky, avl, an, aps⟩ := ⟨_, rfl⟩
    rw [← hxx] at RD HAF
    obtain ⟨st', bo⟩ := xx
    simp only [caV, anV, ToP] at RD
    clear hxx
    have RD := Lib.hid RD
    go_wp2_with fail
    refine RD.out.mono ?_; rintro _ w1 ⟨mv1, tv1, rfl, hp1, ht1, hb1⟩
    obtain ⟨p1, pc1, rfl, _, _⟩ := hp1.1.slice
    obtain ⟨q1, qc1, rfl, _, _, _⟩ := ht1.slice
    have HP1 := Lib.hid hp1; have HT1 := Lib.hid ht1
    have k2 := up hb1 HU2.out
    have K2 := Lib.hid k2
    have HBW := Lib.hid (below_on HBU.out hb1)
    have f0 := newcell k2 0 _ rfl; have f1 := newcell k2 1 _ rfl; have fz := newfree k2
    clear hp1 ht1 hb1 z0 z1 o0 o1 o2 o3 o4 o5 o6 o7 o8 o9 o10 o11 o12 k2 hto RD
    simp only
    go_wp2_with fail
    refine bodyPost_ret (v := .tuple #[.agg #[.slice p1 st'.mp.length pc1, .slice q1 st'.n qc1], .bool bo]) (by simp [results, Try.results12, go_sem, f0, f1, World.cell?_setCell_same, World.cell?_setCell_other]) rfl ?_
    rw [HQ.out, HAF.out]
    obtain ⟨x1, x2, x3⟩ := st_ret (w := w) (T := 29) (by decide) K2.out (by have := HWB.out; omega) HBW.out HP1.out HT1.out
    exact ⟨_, _, rfl, x1, x2, x3⟩
end Go.Proofs.Ytopjnoglbncnhaa
