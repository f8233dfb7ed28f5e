/- Layer 15: the walk of FramePlays. -/
import Derived.Test.YtdnjconfmaiegaaFrmJ
import Derived.Test.YtdnjconfmaiegaaFrmU
import Derived.Test.YtdnjconfmaiegaaFrmO
import Derived.Test.YtdnjconfmaiegaaFrame
import Derived.Deep.RegionHeldLaw
namespace Go.Proofs.Ytdnjconfmaiegaa
open Go.RowKit
set_option linter.unusedVariables false
set_option linter.unusedSimpArgs false
theorem xr0 (w : World) : XR w T0 (.slice none 0 0) (.slice none 0 0) (.slice none 0 0) := ⟨.inl ⟨rfl, rfl⟩, PO.nil w, .inl ⟨rfl, rfl⟩⟩
theorem SR.lt {w : World} {v : Value} {n : Nat} {f : Nat → Int} (h : SR w v n f) {j : Nat} (e : v.ownBlock = some j) : j < w.heap.size := by
  rcases h with ⟨rfl, _⟩ | ⟨g, c, rfl, _, _, h3⟩
  · cases e
  · simp only [Value.ownBlock, Option.some.injEq] at e
    subst e
    obtain ⟨_, hh, _⟩ := h3
    exact blk_lt hh
/-- What the thread's step leaves of the reference's words. -/
theorem XR.kd {w w' : World} {B : Nat} {sv : Value} {T : Td} {fv' rv' sv' : Value} (h : XR w T fv' rv' sv') (k : KD w w' B sv) (hs : ∀ j, sv'.ownBlock = some j → sv.ownBlock ≠ some j) : XR w' T fv' rv' sv' :=
  ⟨h.f.keep fun b cur hb => k.ty b cur _ hb (by decide) (by decide) (by decide) (by decide), h.r.np ⟨k.size, fun j cur hj => by rw [k.ty j cur _ hj (by decide) (by decide) (by decide) (by decide)]; exact hj⟩, h.s.keep fun b cur ho hb => k.u64 b cur hb (hs b ho)⟩
theorem Blk.kd {w w' : World} {B : Nat} {sv : Value} {b n : Nat} {F : Nat → Value} (h : Blk 33 w b n F) (k : KD w w' B sv) : Blk 33 w' b n F :=
  (k.ty b _ _ h (by decide) (by decide) (by decide) (by decide)).trans h
theorem xV_lit (T : Td) (fv rv sv : Value) : xV T fv rv sv = .agg #[.int .u64 (T.ret 0), .int .u64 (T.ret 1), .int .u64 (T.ret 2), .int .u64 (T.ret 3), .int .u64 (T.ret 4), .int .u64 (T.ret 5), .int .u64 (T.ret 6), .int .u64 (T.ret 7), .int .u64 (T.ret 8), .int .u64 (T.ret 9), .int .u64 (T.ret 10), .int .u64 (T.ret 11), fv, rv, sv] := rfl
/-- What the walk of a step of the reference reads, in whatever world lies upon W. -/
theorem xo_mk {W w' : World} {X g o : Nat} {T : Td} {fv rv sv v0 v1 v2 v3 v4 : Value} (k : Below W.heap.size W w') (hb : Blk 33 W X 15 (xF T fv rv sv))
    (p0 : W.cell? ⟨g, o, none⟩ = some v0) (p1 : W.cell? ⟨g, o + 1, none⟩ = some v1) (p2 : W.cell? ⟨g, o + 2, none⟩ = some v2) (p3 : W.cell? ⟨g, o + 3, none⟩ = some v3) (p4 : W.cell? ⟨g, o + 4, none⟩ = some v4) :
    Below W.heap.size W w' ∧ w'.cell? ⟨X, 0, none⟩ = some (.int .u64 (T.ret 0)) ∧ w'.cell? ⟨X, 1, none⟩ = some (.int .u64 (T.ret 1)) ∧ w'.cell? ⟨X, 2, none⟩ = some (.int .u64 (T.ret 2)) ∧ w'.cell? ⟨X, 3, none⟩ = some (.int .u64 (T.ret 3)) ∧ w'.cell? ⟨X, 4, none⟩ = some (.int .u64 (T.ret 4)) ∧ w'.cell? ⟨X, 5, none⟩ = some (.int .u64 (T.ret 5)) ∧ w'.cell? ⟨X, 6, none⟩ = some (.int .u64 (T.ret 6)) ∧ w'.cell? ⟨X, 7, none⟩ = some (.int .u64 (T.ret 7)) ∧ w'.cell? ⟨X, 8, none⟩ = some (.int .u64 (T.ret 8)) ∧ w'.cell? ⟨X, 9, none⟩ = some (.int .u64 (T.ret 9)) ∧ w'.cell? ⟨X, 10, none⟩ = some (.int .u64 (T.ret 10)) ∧ w'.cell? ⟨X, 11, none⟩ = some (.int .u64 (T.ret 11)) ∧ w'.cell? ⟨X, 12, none⟩ = some fv ∧ w'.cell? ⟨X, 13, none⟩ = some rv ∧ w'.cell? ⟨X, 14, none⟩ = some sv ∧ w'.cell? ⟨g, o, none⟩ = some v0 ∧ w'.cell? ⟨g, o + 1, none⟩ = some v1 ∧ w'.cell? ⟨g, o + 2, none⟩ = some v2 ∧ w'.cell? ⟨g, o + 3, none⟩ = some v3 ∧ w'.cell? ⟨g, o + 4, none⟩ = some v4 := by
  have h' := hb.below k
  exact ⟨k, h'.get (i := 0) (by omega), h'.get (i := 1) (by omega), h'.get (i := 2) (by omega), h'.get (i := 3) (by omega), h'.get (i := 4) (by omega), h'.get (i := 5) (by omega), h'.get (i := 6) (by omega), h'.get (i := 7) (by omega), h'.get (i := 8) (by omega), h'.get (i := 9) (by omega), h'.get (i := 10) (by omega), h'.get (i := 11) (by omega), h'.get (i := 12) (by omega), h'.get (i := 13) (by omega), h'.get (i := 14) (by omega), Ext.use (Ext.cells p0) k, Ext.use (Ext.cells p1) k, Ext.use (Ext.cells p2) k, Ext.use (Ext.cells p3) k, Ext.use (Ext.cells p4) k⟩
theorem put_xC (F : Nat → Value) (T : Td) (f r s : Value) {j : Nat} (hj : j < 15) : putF F 0 (xC T f r s).toArray.toList j = xF T f r s j := by
  unfold putF xC; simp [List.getElem?_range hj]
theorem ThA.ksT {w w' : World} {B q : Nat} {T : Td} {p : Nat → Nat} {fv rv sv : Value} (h : ThA w B q T p fv rv sv) {X : Nat} {c : Array Value} {ty : TypeId} (hX : w.heap[X]? = some (.cells c ty (0, 0)))
    (h1 : ty ≠ 51) (h2 : ty ≠ 43) (h3 : ty ≠ 27) (h4 : 57 ≠ ty) (h5 : 37 ≠ ty) (k : KS (fun j => j = X) w w') : ThA w' B q T p fv rv sv := by
  obtain ⟨a1, a2, a3⟩ := h.apart hX h1 h2 h3
  exact ⟨h.hq, (k.block q h.lt (Ne.symm a1)).trans h.blk, h.fo.of fun b e => k.block b (h.fo.blk e).2.1 (fun e2 => a2 (by rw [e, e2])), fun i hi => ⟨(k.block (p i) (blk_lt (h.fb i hi).1) (ne_ty (h.fb i hi).1 hX h4)).trans (h.fb i hi).1, (h.fb i hi).2⟩, h.inj, h.rw.np ⟨k.size, fun j cur hj => by rw [k.block j (blk_lt hj) (ne_ty hj hX h5)]; exact hj⟩, h.so.of fun b e => k.block b (h.so.blk e).2.1 (fun e2 => a3 (by rw [e, e2])), h.s1⟩
theorem fill15 {w : World} {Z : Nat} {F : Nat → Value} (h : Blk 33 w Z 15 F) (T : Td) (f r s : Value) :
    Blk 33 ((((((((((((((((w).setCell ⟨Z, 0, none⟩ (.int .u64 (T.ret 0))).setCell ⟨Z, 1, none⟩ (.int .u64 (T.ret 1))).setCell ⟨Z, 2, none⟩ (.int .u64 (T.ret 2))).setCell ⟨Z, 3, none⟩ (.int .u64 (T.ret 3))).setCell ⟨Z, 4, none⟩ (.int .u64 (T.ret 4))).setCell ⟨Z, 5, none⟩ (.int .u64 (T.ret 5))).setCell ⟨Z, 6, none⟩ (.int .u64 (T.ret 6))).setCell ⟨Z, 7, none⟩ (.int .u64 (T.ret 7))).setCell ⟨Z, 8, none⟩ (.int .u64 (T.ret 8))).setCell ⟨Z, 9, none⟩ (.int .u64 (T.ret 9))).setCell ⟨Z, 10, none⟩ (.int .u64 (T.ret 10))).setCell ⟨Z, 11, none⟩ (.int .u64 (T.ret 11))).setCell ⟨Z, 12, none⟩ f).setCell ⟨Z, 13, none⟩ r).setCell ⟨Z, 14, none⟩ s) Z 15 (xF T f r s) ∧ KS (fun j => j = Z) w ((((((((((((((((w).setCell ⟨Z, 0, none⟩ (.int .u64 (T.ret 0))).setCell ⟨Z, 1, none⟩ (.int .u64 (T.ret 1))).setCell ⟨Z, 2, none⟩ (.int .u64 (T.ret 2))).setCell ⟨Z, 3, none⟩ (.int .u64 (T.ret 3))).setCell ⟨Z, 4, none⟩ (.int .u64 (T.ret 4))).setCell ⟨Z, 5, none⟩ (.int .u64 (T.ret 5))).setCell ⟨Z, 6, none⟩ (.int .u64 (T.ret 6))).setCell ⟨Z, 7, none⟩ (.int .u64 (T.ret 7))).setCell ⟨Z, 8, none⟩ (.int .u64 (T.ret 8))).setCell ⟨Z, 9, none⟩ (.int .u64 (T.ret 9))).setCell ⟨Z, 10, none⟩ (.int .u64 (T.ret 10))).setCell ⟨Z, 11, none⟩ (.int .u64 (T.ret 11))).setCell ⟨Z, 12, none⟩ f).setCell ⟨Z, 13, none⟩ r).setCell ⟨Z, 14, none⟩ s) := by
  refine ⟨Blk.congr ((((((((((((((((h).set 0 _).set 1 _).set 2 _).set 3 _).set 4 _).set 5 _).set 6 _).set 7 _).set 8 _).set 9 _).set 10 _).set 11 _).set 12 _).set 13 _).set 14 _) fun j hj => ?_, KS.trans (KS.trans (KS.trans (KS.trans (KS.trans (KS.trans (KS.trans (KS.trans (KS.trans (KS.trans (KS.trans (KS.trans (KS.trans (KS.trans (KS.set _ _ _ _) (KS.set _ _ _ _)) (KS.set _ _ _ _)) (KS.set _ _ _ _)) (KS.set _ _ _ _)) (KS.set _ _ _ _)) (KS.set _ _ _ _)) (KS.set _ _ _ _)) (KS.set _ _ _ _)) (KS.set _ _ _ _)) (KS.set _ _ _ _)) (KS.set _ _ _ _)) (KS.set _ _ _ _)) (KS.set _ _ _ _)) (KS.set _ _ _ _)⟩
  rcases (by omega : j = 0 ∨ j = 1 ∨ j = 2 ∨ j = 3 ∨ j = 4 ∨ j = 5 ∨ j = 6 ∨ j = 7 ∨ j = 8 ∨ j = 9 ∨ j = 10 ∨ j = 11 ∨ j = 12 ∨ j = 13 ∨ j = 14) with rfl | rfl | rfl | rfl | rfl | rfl | rfl | rfl | rfl | rfl | rfl | rfl | rfl | rfl | rfl <;> rfl
set_option maxRecDepth 16000 in
set_option maxHeartbeats 8000000 in
theorem framePlays_walk (v0 : Value) (w : World) (s0 : Fr.ok1 w (.slice [.int .i64, .int .i64, .slice [.int .u64], .int .i64, .int .i64]) v0) :
    Calls Try.prog 3 #[v0] w fun e w' => e = .returned (.bool true) ∧ Below w.heap.size w w' := by
  obtain ⟨n, O, lf, hO⟩ := ops_open s0
  have HO0 := Lib.hid hO
  obtain ⟨oa, oc, rfl, _, _, hO⟩ := hO
  have HO := Lib.hid hO
  clear s0 hO
  refine Calls.veil fun Q HQ => ?_
  go_enter Try.func3, Try.ntmps3
  go_wp2_with fail
  refine (lgreat15 HO0.out).mono ?_; rintro _ w1 ⟨gb, rfl, hb1, hgr⟩
  have HB1 := Lib.hid hb1
  have HGR := Lib.hid hgr
  clear hb1 hgr
  cases gb with
  | true =>
    go_wp2_with fail
    refine (lives15_calls _).mono ?_; rintro _ w3 ⟨rfl, hb⟩
    go_wp2_with fail
    (try go_ret)
    rw [HQ.out]
    exact ⟨rfl, below_on HB1.out hb⟩
  | false =>
  have hn := HGR.out rfl
  clear HGR
  go_wp2_with fail
  refine (fnew w1 w.heap.size HB1.out.size).mono ?_; rintro _ w2 ⟨rfl, ht, hb2⟩
  obtain ⟨q, hq⟩ : ∃ q, q = w1.heap.size := ⟨_, rfl⟩
  rw [← hq] at ht ⊢
  have HT := Lib.hid ht
  have HB := Lib.hid (below_on HB1.out hb2)
  clear ht hb2 hq HB1
  go_upto_region 5 with fail
  generalize hV : World.alloc _ _ = V
  obtain ⟨hh, hbv⟩ := heapnewE hV
  obtain ⟨X, hX⟩ : ∃ X, X = w2.heap.size := ⟨_, rfl⟩
  rw [← hX] at hh ⊢
  have hXB : Blk 33 V X 15 (xF T0 (.slice none 0 0) (.slice none 0 0) (.slice none 0 0)) := hh
  have HXB := Lib.hid hXB
  have HTV := Lib.hid (HT.out.below hbv); have HBV := Lib.hid (below_on HB.out hbv)
  have HXW := Lib.hid (show w.heap.size ≤ X by have := HB.out.size; omega)
  clear hV hh hbv hX hXB HT HB
  go_wp2_with fail
  go_loopw [5] (fun iv wr => ∃ i : Nat, i ≤ n ∧ iv = .int .i64 i ∧ ∃ (T : Td) (p : Nat → Nat) (fv rv sv fv' rv' sv' : Value), Hid (Bd i T) ∧ Hid (ThA wr w.heap.size q T p fv rv sv) ∧ Hid (XR wr T fv' rv' sv') ∧ Hid (Blk 33 wr X 15 (xF T fv' rv' sv')) ∧ Hid (∀ j, sv'.ownBlock = some j → sv.ownBlock ≠ some j) ∧ Hid (Below w.heap.size w wr))
    (fun iv _ => n - (intOf iv).toNat)
  case atStart => exact ⟨0, Nat.zero_le _, rfl, T0, _, _, _, _, _, _, _, Lib.hid ⟨Nat.le_refl _, Nat.le_refl _, Nat.le_refl _, (by decide : riseB [] = true)⟩, HTV, Lib.hid (xr0 _), HXB, Lib.hid (fun j e => by cases e), HBV⟩
  case round =>
    clear HTV HBV HXB
    obtain ⟨i, hi, rfl, T, p, fv, rv, sv, fv', rv', sv', HBD, HT, HX, HXB, HSP, HB⟩ := hrel
    rcases (by omega : i < n ∨ i = n) with hlt | heq
    · obtain ⟨g, off, rfl, hc0⟩ := HO.out i hlt
      have hc := hc0.below HB.out
      have HC0 := Lib.hid hc0
      obtain ⟨oo, hoo⟩ : ∃ x, x = O i := ⟨_, rfl⟩
      rw [← hoo] at hc HC0
      clear hoo hc0
      obtain ⟨o0, o1, o2, o3, o4, hu⟩ := hc
      have C := ldo HT.out oo hu HB.out.size HBD.out (by omega)
      have HBD2 := Lib.hid (HBD.out.do oo)
      obtain ⟨la, lc, hle, _, _⟩ := hu.slice
      rw [hle] at o2 C
      unfold opV at C
      have C := Lib.hid C
      have hii : (i : Int) < n := by omega
      have HLE := Lib.hid hle
      clear hu hle
      go_wp2_with fail
      refine C.out.mono ?_; rintro _ w4 ⟨rfl, ⟨p', fv2, rv2, sv2, ht, hs2⟩, kd⟩
      have HT4 := Lib.hid ht; have HB4 := Lib.hid (kd.below HB.out (Nat.le_refl _))
      have HX4 := Lib.hid (HX.out.kd kd HSP.out)
      have HXB4 := Lib.hid (HXB.out.kd kd)
      have HSP4 := Lib.hid (show ∀ j, sv'.ownBlock = some j → sv2.ownBlock ≠ some j from fun j e e2 => by
        rcases hs2 j e2 with e3 | e3
        · exact HSP.out j e e3
        · have := HX.out.s.lt e; omega)
      obtain ⟨p0, p1, p2, p3, p4, hu⟩ := HC0.out.below HB4.out
      clear ht kd o0 o1 o2 o3 o4 C HT HX HXB HSP HB hs2
      rw [HLE.out] at p2 hu
      go_upto_region 9 with fail
      obtain ⟨b1, b2, b3, b4⟩ := HBD.out
      have D := rdo15 (w := w4) HX4.out oo hu (by omega) (by omega) (by omega)
      have HU := Lib.hid hu
      have HBW := Lib.hid (Below.refl w4.heap.size w4)
      have hbel := Below.refl w4.heap.size w4
      have P0 := Lib.hid p0; have P1 := Lib.hid p1; have P2 := Lib.hid p2; have P3 := Lib.hid p3; have P4 := Lib.hid p4
      have S0 := xo_mk (Below.refl w4.heap.size w4).drew HXB4.out p0 p1 p2 p3 p4
      clear hu D p0 p1 p2 p3 p4 hbel
      go_region_held_law (fun w' => Below w4.heap.size w4 w' ∧ w'.cell? ⟨X, 0, none⟩ = some (.int .u64 (T.ret 0)) ∧ w'.cell? ⟨X, 1, none⟩ = some (.int .u64 (T.ret 1)) ∧ w'.cell? ⟨X, 2, none⟩ = some (.int .u64 (T.ret 2)) ∧ w'.cell? ⟨X, 3, none⟩ = some (.int .u64 (T.ret 3)) ∧ w'.cell? ⟨X, 4, none⟩ = some (.int .u64 (T.ret 4)) ∧ w'.cell? ⟨X, 5, none⟩ = some (.int .u64 (T.ret 5)) ∧ w'.cell? ⟨X, 6, none⟩ = some (.int .u64 (T.ret 6)) ∧ w'.cell? ⟨X, 7, none⟩ = some (.int .u64 (T.ret 7)) ∧ w'.cell? ⟨X, 8, none⟩ = some (.int .u64 (T.ret 8)) ∧ w'.cell? ⟨X, 9, none⟩ = some (.int .u64 (T.ret 9)) ∧ w'.cell? ⟨X, 10, none⟩ = some (.int .u64 (T.ret 10)) ∧ w'.cell? ⟨X, 11, none⟩ = some (.int .u64 (T.ret 11)) ∧ w'.cell? ⟨X, 12, none⟩ = some fv' ∧ w'.cell? ⟨X, 13, none⟩ = some rv' ∧ w'.cell? ⟨X, 14, none⟩ = some sv' ∧ w'.cell? ⟨g, off + i * 5, none⟩ = some (.int .i64 oo.kind) ∧ w'.cell? ⟨g, off + i * 5 + 1, none⟩ = some (.int .i64 oo.fn) ∧ w'.cell? ⟨g, off + i * 5 + 2, none⟩ = some (.slice la oo.n lc) ∧ w'.cell? ⟨g, off + i * 5 + 3, none⟩ = some (.int .i64 oo.pk) ∧ w'.cell? ⟨g, off + i * 5 + 4, none⟩ = some (.int .i64 oo.pv))
        (((with_reducible refine xo_mk ?_ HXB4.out P0.out P1.out P2.out P3.out P4.out); (repeat (with_reducible (first | exact hb5 | exact Below.refl _ _ | refine below_new ?_ _ | refine Below.drew ?_ | refine below_set ?_ (Nat.le_refl _) _ | refine below_set ?_ hb5.size _)))))
        (first
          | (go_at_call 10; refine (rdo15 (HX4.out.below (below_new (Below.refl _ _).drew _)) oo (HU.out.below (below_new (Below.refl _ _).drew _)) (by omega) (by omega) (by omega)).mono ?_; rintro _ w5 ⟨f3, r3, s3, rfl, hx5, hb5, hs5⟩; obtain ⟨fa3, fc3, rfl, _, _⟩ := hx5.f.slice; obtain ⟨ra3, rc3, rfl, _, _⟩ := hx5.r.1.slice; obtain ⟨sa3, sc3, rfl, _, _⟩ := hx5.s.slice; have hx5 := Lib.hid hx5; have hs5 := Lib.hid hs5; have hz : w5.heap[w4.heap.size]? = some (.cells _ 33 (0, 0)) := (hb5.block _ (by simp)).trans (heap_alloc_new _ _); have z0 := newcell hz 0 _ rfl; have z1 := newcell hz 1 _ rfl; have z2 := newcell hz 2 _ rfl; have z3 := newcell hz 3 _ rfl; have z4 := newcell hz 4 _ rfl; have z5 := newcell hz 5 _ rfl; have z6 := newcell hz 6 _ rfl; have z7 := newcell hz 7 _ rfl; have z8 := newcell hz 8 _ rfl; have z9 := newcell hz 9 _ rfl; have z10 := newcell hz 10 _ rfl; have z11 := newcell hz 11 _ rfl; have z12 := newcell hz 12 _ rfl; have z13 := newcell hz 13 _ rfl; have z14 := newcell hz 14 _ rfl; have zf := newfree hz; have hz := Lib.hid hz; have hb5 := below_on (w := w4) (below_new (Below.refl _ _).drew _) hb5; rw [xV_lit])
          | (go_at_call 10; refine (rdo15 (HX4.out.below (Below.refl _ _).drew) oo (HU.out.below (Below.refl _ _).drew) (by omega) (by omega) (by omega)).mono ?_; rintro _ w5 ⟨f3, r3, s3, rfl, hx5, hb5, hs5⟩; obtain ⟨fa3, fc3, rfl, _, _⟩ := hx5.f.slice; obtain ⟨ra3, rc3, rfl, _, _⟩ := hx5.r.1.slice; obtain ⟨sa3, sc3, rfl, _, _⟩ := hx5.s.slice; have hx5 := Lib.hid hx5; have hs5 := Lib.hid hs5;  have hb5 := below_on (w := w4) (Below.refl _ _).drew hb5; rw [xV_lit]))
      all_goals
        (first
          | (generalize hW : World.alloc _ _ = W
             obtain ⟨hz, hzb⟩ := heapnewE hW
             obtain ⟨Z, hZ⟩ : ∃ Z, Z = w5.heap.size := ⟨_, rfl⟩
             rw [← hZ] at hz ⊢
             have hbW : Blk 33 W Z 15 (xF (doT T oo) (.slice fa3 (doT T oo).nf fc3) (.slice ra3 (doT T oo).row.length rc3) (.slice sa3 (doT T oo).ns sc3)) := hz
             have hxW := hx5.out.below hzb
             have hBW : Below w4.heap.size w4 W := below_on hb5 hzb)
          | (generalize hW : World.setCell _ _ _ = W
             have hz0 : Blk 33 w5 w4.heap.size 15 (xF T0 (.slice none 0 0) (.slice none 0 0) (.slice none 0 0)) := hz.out
             have hbW : Blk 33 W w4.heap.size 15 (xF (doT T oo) (.slice fa3 (doT T oo).nf fc3) (.slice ra3 (doT T oo).row.length rc3) (.slice sa3 (doT T oo).ns sc3)) := by rw [← hW]; exact (fill15 hz0 _ _ _ _).1
             have kz : KS (fun j => j = w4.heap.size) w5 W := by rw [← hW]; exact (fill15 hz0 _ _ _ _).2
             have hxW := hx5.out.ks hz.out (by decide) (by decide) (by decide) kz
             have hBW : Below w4.heap.size w4 W := below_x hb5 rfl kz
             obtain ⟨Z, hZ⟩ : ∃ Z, Z = w4.heap.size := ⟨_, rfl⟩
             rw [← hZ] at hbW ⊢))
      all_goals
        have HS := Lib.hid (show ∀ j, (Value.slice sa3 (doT T oo).ns sc3).ownBlock = some j → sv2.ownBlock ≠ some j from fun j e e2 => by
          rcases hs5.out j e with e3 | e3
          · exact HSP4.out j e3 e2
          · have h7 := (HT4.out.so.blk e2).2.1
            simp at e3; omega)
        have HTW := Lib.hid (HT4.out.below hBW)
        have hXW := HXB4.out.below hBW
        have HXRW := Lib.hid hxW
        have HXBW := Lib.hid hXW
        have HBW1 := Lib.hid (below_on HB4.out hBW)
        obtain ⟨d, hdu, hdr⟩ := uX
        have HDU := Lib.hid hdu; have HDR := Lib.hid hdr
        have HRZ := Lib.hid (show W.rangeAt Z 0 (xC (doT T oo) (.slice fa3 (doT T oo).nf fc3) (.slice ra3 (doT T oo).row.length rc3) (.slice sa3 (doT T oo).ns sc3)) from by have := hbW.range 0 15 (by omega); simpa [xC] using this)
        have HTH := Lib.hid (hXW.there 0 15 (by omega))
        clear hW hbW hxW hBW hXW hdu hdr HT4 HB4 HX4 HXB4 HSP4 HU hs5 hx5 S0 hZ
        (try clear z0 z1 z2 z3 z4 z5 z6 z7 z8 z9 z10 z11 z12 z13 z14 zf hz0 kz)
        (try clear hz)
        (try clear hzb)
        clear hb5
        go_upto_region 11 with (first | (refine wpList_load_mid rfl 33 (.tmp 8) rfl Z 0 rfl (xC (doT T oo) (.slice fa3 (doT T oo).nf fc3) (.slice ra3 (doT T oo).row.length rc3) (.slice sa3 (doT T oo).ns sc3)) d HRZ.out HDU.out HDR.out (by rw [xC_len]; exact infoX) ?_) | (refine wpList_store_mid rfl 33 (.tmp 4) (.tmp 41) rfl X 0 (xC (doT T oo) (.slice fa3 (doT T oo).nf fc3) (.slice ra3 (doT T oo).row.length rc3) (.slice sa3 (doT T oo).ns sc3)).toArray rfl rfl (by rw [List.size_toArray, xC_len]; exact HTH.out) (by rw [List.size_toArray, xC_len]; exact infoX) (all_oneCell_toArray xC_one) ?_))
        generalize hV : World.setCells _ _ _ _ = V
        have kx : KS (fun j => j = X) W V := by rw [← hV]; exact KS.setCells W X 0 _
        have hbV : Blk 33 V X 15 (xF (doT T oo) (.slice fa3 (doT T oo).nf fc3) (.slice ra3 (doT T oo).row.length rc3) (.slice sa3 (doT T oo).ns sc3)) := by rw [← hV]; exact (HXBW.out.setCells _ 0).congr fun j hj => put_xC _ _ _ _ _ hj
        have HTV := Lib.hid (HTW.out.ksT HXBW.out (by decide) (by decide) (by decide) (by decide) (by decide) kx)
        have HXV := Lib.hid (HXRW.out.ks HXBW.out (by decide) (by decide) (by decide) kx)
        have HBV := Lib.hid (show Below w.heap.size w V from ⟨kx.os.trans HBW1.out.os, kx.tape.trans HBW1.out.tape, kx.output.trans HBW1.out.output, Nat.le_trans HBW1.out.size kx.size, fun j hj => (kx.block j (Nat.lt_of_lt_of_le hj HBW1.out.size) (by have := HXW.out; omega)).trans (HBW1.out.block j hj)⟩)
        have HXBV := Lib.hid hbV
        have HRX := Lib.hid (show V.rangeAt X 0 (xC (doT T oo) (.slice fa3 (doT T oo).nf fc3) (.slice ra3 (doT T oo).row.length rc3) (.slice sa3 (doT T oo).ns sc3)) from by have := hbV.range 0 15 (by omega); simpa [xC] using this)
        clear hV kx hbV HRZ HTH HTW HXRW HXBW HBW1
        obtain ⟨bb1, bb2, bb3, bb4⟩ := HBD2.out
        have c0 : V.cell? ⟨X, 0, none⟩ = some (.int .u64 ((doT T oo).ret 0)) := HXBV.out.get (i := 0) (by omega)
        have c1 : V.cell? ⟨X, 1, none⟩ = some (.int .u64 ((doT T oo).ret 1)) := HXBV.out.get (i := 1) (by omega)
        have c2 : V.cell? ⟨X, 2, none⟩ = some (.int .u64 ((doT T oo).ret 2)) := HXBV.out.get (i := 2) (by omega)
        have c3 : V.cell? ⟨X, 3, none⟩ = some (.int .u64 ((doT T oo).ret 3)) := HXBV.out.get (i := 3) (by omega)
        have c4 : V.cell? ⟨X, 4, none⟩ = some (.int .u64 ((doT T oo).ret 4)) := HXBV.out.get (i := 4) (by omega)
        have c5 : V.cell? ⟨X, 5, none⟩ = some (.int .u64 ((doT T oo).ret 5)) := HXBV.out.get (i := 5) (by omega)
        have c6 : V.cell? ⟨X, 6, none⟩ = some (.int .u64 ((doT T oo).ret 6)) := HXBV.out.get (i := 6) (by omega)
        have c7 : V.cell? ⟨X, 7, none⟩ = some (.int .u64 ((doT T oo).ret 7)) := HXBV.out.get (i := 7) (by omega)
        have c8 : V.cell? ⟨X, 8, none⟩ = some (.int .u64 ((doT T oo).ret 8)) := HXBV.out.get (i := 8) (by omega)
        have c9 : V.cell? ⟨X, 9, none⟩ = some (.int .u64 ((doT T oo).ret 9)) := HXBV.out.get (i := 9) (by omega)
        have c10 : V.cell? ⟨X, 10, none⟩ = some (.int .u64 ((doT T oo).ret 10)) := HXBV.out.get (i := 10) (by omega)
        have c11 : V.cell? ⟨X, 11, none⟩ = some (.int .u64 ((doT T oo).ret 11)) := HXBV.out.get (i := 11) (by omega)
        have c12 : V.cell? ⟨X, 12, none⟩ = some (.slice fa3 (doT T oo).nf fc3) := HXBV.out.get (i := 12) (by omega)
        have c13 : V.cell? ⟨X, 13, none⟩ = some (.slice ra3 (doT T oo).row.length rc3) := HXBV.out.get (i := 13) (by omega)
        have c14 : V.cell? ⟨X, 14, none⟩ = some (.slice sa3 (doT T oo).ns sc3) := HXBV.out.get (i := 14) (by omega)
        have C := lsame HTV.out HXV.out (by omega) (by omega)
        rw [xV_lit] at C
        have C := Lib.hid C
        go_wp2_with fail
        refine C.out.mono ?_; rintro _ w7 ⟨rfl, hb7⟩
        clear C c0 c1 c2 c3 c4 c5 c6 c7 c8 c9 c10 c11 c12 c13 c14
        have HT7 := Lib.hid (HTV.out.below hb7); have HX7 := Lib.hid (HXV.out.below hb7); have HXB7 := Lib.hid (HXBV.out.below hb7); have HB7 := Lib.hid (below_on HBV.out hb7)
        clear hb7
        go_wp2_with fail
        go_roundw
        case rel => exact ⟨i + 1, by omega, by go_num, _, _, _, _, _, _, _, _, HBD2, HT7, HX7, HXB7, HS, HB7⟩
        case measure => simp [intOf]; omega
    subst heq
    go_wp2_with fail
    refine (lives15_calls _).mono ?_; rintro _ w3 ⟨rfl, hb⟩
    go_wp2_with fail
    (try go_ret)
    rw [HQ.out]
    exact ⟨rfl, below_on HB.out hb⟩
end Go.Proofs.Ytdnjconfmaiegaa
