/- Layer 15: a call of a thread, by the law's do. -/
import Derived.Test.YtdnjconfmaiegaaFrmE
import Derived.StillTailTactics
namespace Go.Proofs.Ytdnjconfmaiegaa
open Go.RowKit
set_option linter.unusedVariables false
set_option linter.unusedSimpArgs false
/-- What a call of a thread leaves of all else. -/
structure KD (w w' : World) (B : Nat) (sv : Value) : Prop where
  os : w'.os = w.os
  tape : w'.tape = w.tape
  output : w'.output = w.output
  size : w.heap.size ≤ w'.heap.size
  old : ∀ k, k < w.heap.size → k < B → w'.heap[k]? = w.heap[k]?
  ty : ∀ (k : Nat) (cur : Array Value) (t : TypeId), w.heap[k]? = some (.cells cur t (0, 0)) → t ≠ 51 → t ≠ 43 → t ≠ 57 → t ≠ 27 → w'.heap[k]? = w.heap[k]?
  u64 : ∀ (k : Nat) (cur : Array Value), w.heap[k]? = some (.cells cur 27 (0, 0)) → sv.ownBlock ≠ some k → w'.heap[k]? = w.heap[k]?
theorem KD.of_below {w w' : World} {B : Nat} {sv : Value} (h : Below w.heap.size w w') : KD w w' B sv :=
  ⟨h.os, h.tape, h.output, h.size, fun k hk _ => h.block k hk, fun k cur t hk _ _ _ _ => h.block k (blk_lt hk), fun k cur hk _ => h.block k (blk_lt hk)⟩
theorem KD.of_kq {w w' : World} {B q : Nat} {T : Td} {p : Nat → Nat} {fv rv sv : Value} (h : ThA w B q T p fv rv sv) (k : KQ w w' q fv sv) : KD w w' B sv :=
  ⟨k.os, k.tape, k.output, k.size, fun j hj hB => k.block j hj (by have := h.hq; omega) (fun e => by have := (h.fo.blk e).1; omega) (fun e => by have := (h.so.blk e).1; omega),
   fun j cur t hj h1 h2 h3 h4 => by obtain ⟨a, b, c⟩ := h.apart hj h1 h2 h4; exact k.block j (blk_lt hj) a b c,
   fun j cur hj hs => by
    refine k.block j (blk_lt hj) (fun e => ?_) (fun e => ?_) hs
    · subst e; have := h.blk; unfold Blk at this; rw [hj] at this; simp only [Option.some.injEq, Obj.cells.injEq] at this; exact absurd this.2.1 (by decide)
    · obtain ⟨_, _, c2, hc⟩ := h.fo.blk e
      rw [hj] at hc; simp only [Option.some.injEq, Obj.cells.injEq] at hc; exact absurd hc.2.1 (by decide)⟩
theorem KD.trans {a b c : World} {B : Nat} {sv sv' : Value} (h : KD a b B sv) (k : KD b c B sv') (hs : ∀ j, sv'.ownBlock = some j → sv.ownBlock = some j ∨ a.heap.size ≤ j) : KD a c B sv :=
  ⟨k.os.trans h.os, k.tape.trans h.tape, k.output.trans h.output, Nat.le_trans h.size k.size, fun j hj hB => (k.old j (Nat.lt_of_lt_of_le hj h.size) hB).trans (h.old j hj hB),
   fun j cur t hj h1 h2 h3 h4 => (k.ty j cur t ((h.ty j cur t hj h1 h2 h3 h4).trans hj) h1 h2 h3 h4).trans (h.ty j cur t hj h1 h2 h3 h4),
   fun j cur hj hx => (k.u64 j cur ((h.u64 j cur hj hx).trans hj) (fun e => by rcases hs j e with h | h; exact hx h; have := blk_lt hj; omega)).trans (h.u64 j cur hj hx)⟩
theorem KD.below {w w' w0 : World} {B : Nat} {sv : Value} (k : KD w w' B sv) (h0 : Below w0.heap.size w0 w) (hB : w0.heap.size ≤ B) : Below w0.heap.size w0 w' :=
  ⟨k.os.trans h0.os, k.tape.trans h0.tape, k.output.trans h0.output, Nat.le_trans h0.size k.size, fun j hj => (k.old j (Nat.lt_of_lt_of_le hj h0.size) (by omega)).trans (h0.block j hj)⟩
/-- A frame is written. -/
theorem ThA.frameSet {w W : World} {B q m : Nat} {T : Td} {p : Nat → Nat} {fv rv sv : Value} (h : ThA w B q T p fv rv sv) (hm : m < T.nf) {f : Fm} (k : KS (fun j => j = p m) w W) (hb : Blk 57 W (p m) 26 (frF f)) :
    ThA W B q { T with fs := upM T.fs m f } p fv rv sv ∧ KD w W B sv := by
  have hp := (h.fb m hm).1
  have ty : ∀ {j : Nat} {cur : Array Value} {t : TypeId}, w.heap[j]? = some (.cells cur t (0, 0)) → t ≠ 57 → W.heap[j]? = w.heap[j]? := fun {j cur t} hj ht => k.block j (blk_lt hj) (ne_ty hj (show w.heap[p m]? = _ from hp) ht)
  refine ⟨⟨h.hq, h.blk.of (ty h.blk (by decide)), h.fo.of fun j hj => ?_, fun i hi => ?_, h.inj, h.rw.np ⟨k.size, fun j cur hj => by rw [ty hj (by decide)]; exact hj⟩, h.so.of fun j hj => ?_, h.s1⟩, ⟨k.os, k.tape, k.output, k.size, fun j hj hB => k.block j hj (by have := (h.fb m hm).2; omega), fun j cur t hj _ _ h3 _ => ty hj h3, fun j cur hj _ => ty hj (by decide)⟩⟩
  · obtain ⟨_, _, cur, hc⟩ := h.fo.blk hj; exact ty hc (by decide)
  · unfold upM
    by_cases e : i = m
    · subst e; simp only [if_true]; exact ⟨hb, (h.fb i hm).2⟩
    · simp only [e, if_false]
      exact ⟨(h.fb i hi).1.of (k.block _ (blk_lt (h.fb i hi).1) fun e2 => e (h.inj i m hi hm e2)), (h.fb i hi).2⟩
  · obtain ⟨_, _, cur, hc⟩ := h.so.blk hj; exact ty hc (by decide)
theorem frF_pc (f : Fm) (fn : Int) (j : Nat) (hj : j < 26) : upF (frF f) 1 (.int .i64 fn) j = frF ⟨f.fn, fn, f.r⟩ j := by
  unfold upF frF
  by_cases e : j = 1
  · subst e; simp
  · rw [if_neg e]
    by_cases e0 : j = 0
    · rw [if_pos e0, if_pos e0]
    · rw [if_neg e0, if_neg e0, if_neg e, if_neg e]
theorem frF_r (f : Fm) (a : Nat) (x : Int) (j : Nat) (hj : j < 26) : upF (frF f) (2 + a) (.int .u64 x) j = frF ⟨f.fn, f.pc, fun i => if i = a then x else f.r i⟩ j := by
  unfold upF frF
  by_cases e : j = 2 + a
  · subst e
    rw [if_pos rfl, if_neg (by omega), if_neg (by omega)]
    simp only []
    rw [if_pos (by omega)]
  · rw [if_neg e]
    by_cases e0 : j = 0
    · rw [if_pos e0, if_pos e0]
    · rw [if_neg e0, if_neg e0]
      by_cases e1 : j = 1
      · rw [if_pos e1, if_pos e1]
      · rw [if_neg e1, if_neg e1]; simp only []; rw [if_neg (by omega)]
def DoA (w : World) (B q : Nat) (T' : Td) (x : Int) (b : Bool) (sv : Value) (e : Ending) (w' : World) : Prop :=
  e = .returned (.tuple #[.int .u64 x, .bool b]) ∧ (∃ p' fv' rv' sv', ThA w' B q T' p' fv' rv' sv' ∧ ∀ j, sv'.ownBlock = some j → sv.ownBlock = some j ∨ w.heap.size ≤ j) ∧ KD w w' B sv
set_option maxRecDepth 8000 in
set_option maxHeartbeats 1000000 in
theorem ldo_0 {w : World} {B q : Nat} {T : Td} {p : Nat → Nat} {fv rv sv lv : Value} (h : ThA w B q T p fv rv sv) (fn : Int) {n : Nat} {L : Nat → Int} (pk pv : Int) (hu : UR w lv n L) (hB : B ≤ w.heap.size) (hb1 : T.nf ≤ 1000) (hb2 : T.ns ≤ 1000) (hb3 : T.row.length ≤ 80000) (hr : riseB T.row = true) :
    Calls Try.prog 9 #[.pointer (some ⟨q, 0, none⟩), opV ⟨0, fn, n, L, pk, pv⟩ lv] w (DoA w B q (callT T fn n L) (0) (false) sv) := by
  refine Calls.veil fun Q HQ => ?_
  have HH := Lib.hid h; have HU := Lib.hid hu
  obtain ⟨la, lc, rfl, lc1, lc2⟩ := hu.slice
  unfold opV
  simp only
  clear h hu
  go_enter Try.func9, Try.ntmps9
  go_upto_region 1 with fail
  generalize hV : World.alloc _ _ = U
  obtain ⟨u0, hbu⟩ := heapnewE hV
  obtain ⟨X, hX⟩ : ∃ X, X = w.heap.size := ⟨_, rfl⟩
  rw [← hX] at u0 ⊢
  have o0 := newcell u0 0 _ rfl; have o1 := newcell u0 1 _ rfl; have o2 := newcell u0 2 _ rfl; have o3 := newcell u0 3 _ rfl; have o4 := newcell u0 4 _ rfl
  have HO := Lib.hid u0; have HBU := Lib.hid hbu
  have HT := Lib.hid (HH.out.below hbu)
  have HBB := Lib.hid (Nat.le_trans hB hbu.size)
  clear hV u0 hbu hX
  go_wp2_with fail
  refine (fcall HT.out fn (HU.out.below HBU.out) HBB.out (by omega)).mono ?_; rintro _ w2 ⟨rfl, ⟨p', fv', ht, _⟩, hk⟩
  have HT2 := Lib.hid ht; have HK := Lib.hid hk
  clear ht hk o0 o1 o2 o3 o4
  go_wp2_with fail
  (try go_ret2)
  rw [HQ.out]
  exact ⟨rfl, ⟨_, _, _, _, HT2.out, fun j e => .inl e⟩, (KD.of_below HBU.out).trans (KD.of_kq HT.out HK.out) (fun j e => .inl e)⟩
set_option maxRecDepth 8000 in
set_option maxHeartbeats 1000000 in
theorem ldo_1 {w : World} {B q : Nat} {T : Td} {p : Nat → Nat} {fv rv sv lv : Value} (h : ThA w B q T p fv rv sv) (fn : Int) {n : Nat} {L : Nat → Int} (pk pv : Int) (hu : UR w lv n L) (hB : B ≤ w.heap.size) (hb1 : T.nf ≤ 1000) (hb2 : T.ns ≤ 1000) (hb3 : T.row.length ≤ 80000) (hr : riseB T.row = true) :
    Calls Try.prog 9 #[.pointer (some ⟨q, 0, none⟩), opV ⟨1, fn, n, L, pk, pv⟩ lv] w (DoA w B q (backT T n L) (0) (false) sv) := by
  refine Calls.veil fun Q HQ => ?_
  have HH := Lib.hid h; have HU := Lib.hid hu
  obtain ⟨la, lc, rfl, lc1, lc2⟩ := hu.slice
  unfold opV
  simp only
  clear h hu
  go_enter Try.func9, Try.ntmps9
  go_upto_region 1 with fail
  generalize hV : World.alloc _ _ = U
  obtain ⟨u0, hbu⟩ := heapnewE hV
  obtain ⟨X, hX⟩ : ∃ X, X = w.heap.size := ⟨_, rfl⟩
  rw [← hX] at u0 ⊢
  have o0 := newcell u0 0 _ rfl; have o1 := newcell u0 1 _ rfl; have o2 := newcell u0 2 _ rfl; have o3 := newcell u0 3 _ rfl; have o4 := newcell u0 4 _ rfl
  have HO := Lib.hid u0; have HBU := Lib.hid hbu
  have HT := Lib.hid (HH.out.below hbu)
  have HBB := Lib.hid (Nat.le_trans hB hbu.size)
  clear hV u0 hbu hX
  go_wp2_with fail
  refine (fback HT.out (HU.out.below HBU.out) (by omega)).mono ?_; rintro _ w2 ⟨rfl, ⟨fv', ht, _⟩, hk⟩
  have HT2 := Lib.hid ht; have HK := Lib.hid hk
  clear ht hk o0 o1 o2 o3 o4
  go_wp2_with fail
  (try go_ret2)
  rw [HQ.out]
  exact ⟨rfl, ⟨_, _, _, _, HT2.out, fun j e => .inl e⟩, (KD.of_below HBU.out).trans (KD.of_kq HT.out HK.out) (fun j e => .inl e)⟩
set_option maxRecDepth 8000 in
set_option maxHeartbeats 1000000 in
theorem ldo_2 {w : World} {B q : Nat} {T : Td} {p : Nat → Nat} {fv rv sv lv : Value} (h : ThA w B q T p fv rv sv) (fn : Int) {n : Nat} {L : Nat → Int} (pk pv : Int) (hu : UR w lv n L) (hB : B ≤ w.heap.size) (hb1 : T.nf ≤ 1000) (hb2 : T.ns ≤ 1000) (hb3 : T.row.length ≤ 80000) (hr : riseB T.row = true) :
    Calls Try.prog 9 #[.pointer (some ⟨q, 0, none⟩), opV ⟨2, fn, n, L, pk, pv⟩ lv] w (DoA w B q ({ T with row := putL T.row (pk, pv) }) (0) (!hereB T.row pk) sv) := by
  refine Calls.veil fun Q HQ => ?_
  have HH := Lib.hid h; have HU := Lib.hid hu
  obtain ⟨la, lc, rfl, lc1, lc2⟩ := hu.slice
  unfold opV
  simp only
  clear h hu
  go_enter Try.func9, Try.ntmps9
  go_upto_region 1 with fail
  generalize hV : World.alloc _ _ = U
  obtain ⟨u0, hbu⟩ := heapnewE hV
  obtain ⟨X, hX⟩ : ∃ X, X = w.heap.size := ⟨_, rfl⟩
  rw [← hX] at u0 ⊢
  have o0 := newcell u0 0 _ rfl; have o1 := newcell u0 1 _ rfl; have o2 := newcell u0 2 _ rfl; have o3 := newcell u0 3 _ rfl; have o4 := newcell u0 4 _ rfl
  have HO := Lib.hid u0; have HBU := Lib.hid hbu
  have HT := Lib.hid (HH.out.below hbu)
  have HBB := Lib.hid (Nat.le_trans hB hbu.size)
  clear hV u0 hbu hX
  go_wp2_with fail
  refine (fgather HT.out pk pv hr (by omega)).mono ?_; rintro _ w2 ⟨rfl, ⟨rv', ht⟩, hk⟩
  have HT2 := Lib.hid ht; have HK := Lib.hid hk
  clear ht hk o0 o1 o2 o3 o4
  go_wp2_with fail
  (try go_ret2)
  rw [HQ.out]
  exact ⟨rfl, ⟨_, _, _, _, HT2.out, fun j e => .inl e⟩, (KD.of_below HBU.out).trans (KD.of_kq HT.out HK.out) (fun j e => .inl e)⟩
set_option maxRecDepth 8000 in
set_option maxHeartbeats 1000000 in
theorem ldo_3 {w : World} {B q : Nat} {T : Td} {p : Nat → Nat} {fv rv sv lv : Value} (h : ThA w B q T p fv rv sv) (fn : Int) {n : Nat} {L : Nat → Int} (pk pv : Int) (hu : UR w lv n L) (hB : B ≤ w.heap.size) (hb1 : T.nf ≤ 1000) (hb2 : T.ns ≤ 1000) (hb3 : T.row.length ≤ 80000) (hr : riseB T.row = true) :
    Calls Try.prog 9 #[.pointer (some ⟨q, 0, none⟩), opV ⟨3, fn, n, L, pk, pv⟩ lv] w (DoA w B q (pushT T (fn % 18446744073709551616)) (0) (false) sv) := by
  refine Calls.veil fun Q HQ => ?_
  have HH := Lib.hid h; have HU := Lib.hid hu
  obtain ⟨la, lc, rfl, lc1, lc2⟩ := hu.slice
  unfold opV
  simp only
  clear h hu
  go_enter Try.func9, Try.ntmps9
  go_upto_region 1 with fail
  generalize hV : World.alloc _ _ = U
  obtain ⟨u0, hbu⟩ := heapnewE hV
  obtain ⟨X, hX⟩ : ∃ X, X = w.heap.size := ⟨_, rfl⟩
  rw [← hX] at u0 ⊢
  have o0 := newcell u0 0 _ rfl; have o1 := newcell u0 1 _ rfl; have o2 := newcell u0 2 _ rfl; have o3 := newcell u0 3 _ rfl; have o4 := newcell u0 4 _ rfl
  have HO := Lib.hid u0; have HBU := Lib.hid hbu
  have HT := Lib.hid (HH.out.below hbu)
  have HBB := Lib.hid (Nat.le_trans hB hbu.size)
  clear hV u0 hbu hX
  go_wp2_with fail
  refine (fpush HT.out _ HBB.out (by omega)).mono ?_; rintro _ w2 ⟨rfl, ⟨sv', ht, hl⟩, hk⟩
  have HT2 := Lib.hid ht; have HK := Lib.hid hk; have HL := Lib.hid hl
  clear ht hk hl o0 o1 o2 o3 o4
  go_wp2_with fail
  (try go_ret2)
  rw [HQ.out]
  exact ⟨rfl, ⟨_, _, _, _, HT2.out, fun j e => by rcases HL.out j e with h | h; exact .inl h; exact .inr (Nat.le_trans HBU.out.size h)⟩, (KD.of_below HBU.out).trans (KD.of_kq HT.out HK.out) (fun j e => .inl e)⟩
set_option maxRecDepth 8000 in
set_option maxHeartbeats 1000000 in
theorem ldo_40 {w : World} {B q : Nat} {T : Td} {p : Nat → Nat} {fv rv sv lv : Value} (h : ThA w B q T p fv rv sv) (fn : Int) {n : Nat} {L : Nat → Int} (pk pv : Int) (hu : UR w lv n L) (hB : B ≤ w.heap.size) (hb1 : T.nf ≤ 1000) (hb2 : T.ns ≤ 1000) (hb3 : T.row.length ≤ 80000) (hr : riseB T.row = true) (hn : T.ns = 0) :
    Calls Try.prog 9 #[.pointer (some ⟨q, 0, none⟩), opV ⟨4, fn, n, L, pk, pv⟩ lv] w (DoA w B q (T) (0) (false) sv) := by
  refine Calls.veil fun Q HQ => ?_
  have HH := Lib.hid h; have HU := Lib.hid hu
  obtain ⟨la, lc, rfl, lc1, lc2⟩ := hu.slice
  unfold opV
  simp only
  clear h hu
  have HN := Lib.hid hn
  clear hn
  go_enter Try.func9, Try.ntmps9
  go_upto_region 1 with fail
  generalize hV : World.alloc _ _ = U
  obtain ⟨u0, hbu⟩ := heapnewE hV
  obtain ⟨X, hX⟩ : ∃ X, X = w.heap.size := ⟨_, rfl⟩
  rw [← hX] at u0 ⊢
  have o0 := newcell u0 0 _ rfl; have o1 := newcell u0 1 _ rfl; have o2 := newcell u0 2 _ rfl; have o3 := newcell u0 3 _ rfl; have o4 := newcell u0 4 _ rfl
  have HO := Lib.hid u0; have HBU := Lib.hid hbu
  have HT := Lib.hid (HH.out.below hbu)
  have HBB := Lib.hid (Nat.le_trans hB hbu.size)
  clear hV u0 hbu hX
  go_wp2_with fail
  refine (fpop0 HT.out HN.out).mono ?_; rintro _ w2 ⟨rfl, rfl⟩
  clear o0 o1 o2 o3 o4
  go_wp2_with fail
  (try go_ret2)
  rw [HQ.out]
  exact ⟨rfl, ⟨_, _, _, _, HT.out, fun j e => .inl e⟩, KD.of_below HBU.out⟩
set_option maxRecDepth 8000 in
set_option maxHeartbeats 1000000 in
theorem ldo_41 {w : World} {B q : Nat} {T : Td} {p : Nat → Nat} {fv rv sv lv : Value} (h : ThA w B q T p fv rv sv) {m : Nat} (fn : Int) {n : Nat} {L : Nat → Int} (pk pv : Int) (hu : UR w lv n L) (hB : B ≤ w.heap.size) (hb1 : T.nf ≤ 1000) (hb2 : T.ns ≤ 1000) (hb3 : T.row.length ≤ 80000) (hr : riseB T.row = true) (hn : T.ns = m + 1) :
    Calls Try.prog 9 #[.pointer (some ⟨q, 0, none⟩), opV ⟨4, fn, n, L, pk, pv⟩ lv] w (DoA w B q ({ T with ns := m }) (T.st m) (true) sv) := by
  refine Calls.veil fun Q HQ => ?_
  have HH := Lib.hid h; have HU := Lib.hid hu
  obtain ⟨la, lc, rfl, lc1, lc2⟩ := hu.slice
  unfold opV
  simp only
  clear h hu
  have HN := Lib.hid hn
  have hm : m ≤ 1000000 := by omega
  clear hn
  go_enter Try.func9, Try.ntmps9
  go_upto_region 1 with fail
  generalize hV : World.alloc _ _ = U
  obtain ⟨u0, hbu⟩ := heapnewE hV
  obtain ⟨X, hX⟩ : ∃ X, X = w.heap.size := ⟨_, rfl⟩
  rw [← hX] at u0 ⊢
  have o0 := newcell u0 0 _ rfl; have o1 := newcell u0 1 _ rfl; have o2 := newcell u0 2 _ rfl; have o3 := newcell u0 3 _ rfl; have o4 := newcell u0 4 _ rfl
  have HO := Lib.hid u0; have HBU := Lib.hid hbu
  have HT := Lib.hid (HH.out.below hbu)
  have HBB := Lib.hid (Nat.le_trans hB hbu.size)
  clear hV u0 hbu hX
  go_wp2_with fail
  refine (fpop1 HT.out HN.out hm).mono ?_; rintro _ w2 ⟨rfl, ⟨sv', ht, hl⟩, hk⟩
  have HT2 := Lib.hid ht; have HK := Lib.hid hk; have HL := Lib.hid hl
  clear ht hk hl o0 o1 o2 o3 o4
  go_wp2_with fail
  (try go_ret2)
  rw [HQ.out]
  exact ⟨rfl, ⟨_, _, _, _, HT2.out, fun j e => .inl (HL.out j e)⟩, (KD.of_below HBU.out).trans (KD.of_kq HT.out HK.out) (fun j e => .inl e)⟩
set_option maxRecDepth 8000 in
set_option maxHeartbeats 1000000 in
theorem ldo_5 {w : World} {B q : Nat} {T : Td} {p : Nat → Nat} {fv rv sv lv : Value} (h : ThA w B q T p fv rv sv) (fn : Int) {n : Nat} {L : Nat → Int} (pk pv : Int) (hu : UR w lv n L) (hB : B ≤ w.heap.size) (hb1 : T.nf ≤ 1000) (hb2 : T.ns ≤ 1000) (hb3 : T.row.length ≤ 80000) (hr : riseB T.row = true) :
    Calls Try.prog 9 #[.pointer (some ⟨q, 0, none⟩), opV ⟨5, fn, n, L, pk, pv⟩ lv] w (DoA w B q ({ T with row := [], ns := 0 }) (0) (false) sv) := by
  refine Calls.veil fun Q HQ => ?_
  have HH := Lib.hid h; have HU := Lib.hid hu
  obtain ⟨la, lc, rfl, lc1, lc2⟩ := hu.slice
  unfold opV
  simp only
  clear h hu
  go_enter Try.func9, Try.ntmps9
  go_upto_region 1 with fail
  generalize hV : World.alloc _ _ = U
  obtain ⟨u0, hbu⟩ := heapnewE hV
  obtain ⟨X, hX⟩ : ∃ X, X = w.heap.size := ⟨_, rfl⟩
  rw [← hX] at u0 ⊢
  have o0 := newcell u0 0 _ rfl; have o1 := newcell u0 1 _ rfl; have o2 := newcell u0 2 _ rfl; have o3 := newcell u0 3 _ rfl; have o4 := newcell u0 4 _ rfl
  have HO := Lib.hid u0; have HBU := Lib.hid hbu
  have HT := Lib.hid (HH.out.below hbu)
  have HBB := Lib.hid (Nat.le_trans hB hbu.size)
  clear hV u0 hbu hX
  go_wp2_with fail
  refine (ffresh HT.out).mono ?_; rintro _ w2 ⟨rfl, ht, hk⟩
  have HT2 := Lib.hid ht; have HK := Lib.hid hk
  clear ht hk o0 o1 o2 o3 o4
  go_wp2_with fail
  (try go_ret2)
  rw [HQ.out]
  exact ⟨rfl, ⟨_, _, _, _, HT2.out, fun j e => by cases e⟩, (KD.of_below HBU.out).trans (KD.of_kq HT.out HK.out) (fun j e => .inl e)⟩
set_option maxRecDepth 8000 in
set_option maxHeartbeats 1000000 in
theorem ldo_60 {w : World} {B q : Nat} {T : Td} {p : Nat → Nat} {fv rv sv lv : Value} (h : ThA w B q T p fv rv sv) (fn : Int) {n : Nat} {L : Nat → Int} (pk pv : Int) (hu : UR w lv n L) (hB : B ≤ w.heap.size) (hb1 : T.nf ≤ 1000) (hb2 : T.ns ≤ 1000) (hb3 : T.row.length ≤ 80000) (hr : riseB T.row = true) (hn : T.nf = 0) :
    Calls Try.prog 9 #[.pointer (some ⟨q, 0, none⟩), opV ⟨6, fn, n, L, pk, pv⟩ lv] w (DoA w B q (T) (0) (false) sv) := by
  refine Calls.veil fun Q HQ => ?_
  have HH := Lib.hid h; have HU := Lib.hid hu
  obtain ⟨la, lc, rfl, lc1, lc2⟩ := hu.slice
  unfold opV
  simp only
  clear h hu
  have HN := Lib.hid hn
  clear hn
  go_enter Try.func9, Try.ntmps9
  go_upto_region 1 with fail
  generalize hV : World.alloc _ _ = U
  obtain ⟨u0, hbu⟩ := heapnewE hV
  obtain ⟨X, hX⟩ : ∃ X, X = w.heap.size := ⟨_, rfl⟩
  rw [← hX] at u0 ⊢
  have o0 := newcell u0 0 _ rfl; have o1 := newcell u0 1 _ rfl; have o2 := newcell u0 2 _ rfl; have o3 := newcell u0 3 _ rfl; have o4 := newcell u0 4 _ rfl
  have HO := Lib.hid u0; have HBU := Lib.hid hbu
  have HT := Lib.hid (HH.out.below hbu)
  have HBB := Lib.hid (Nat.le_trans hB hbu.size)
  clear hV u0 hbu hX
  go_wp2_with fail
  refine (ftop0 HT.out HN.out).mono ?_; rintro _ w2 ⟨rfl, rfl⟩
  clear o0 o1 o2 o3 o4
  go_wp2_with fail
  (try go_ret2)
  rw [HQ.out]
  exact ⟨rfl, ⟨_, _, _, _, HT.out, fun j e => .inl e⟩, KD.of_below HBU.out⟩
set_option maxRecDepth 8000 in
set_option maxHeartbeats 1000000 in
theorem ldo_61n {w : World} {B q : Nat} {T : Td} {p : Nat → Nat} {fv rv sv lv : Value} (h : ThA w B q T p fv rv sv) {m : Nat} (fn : Int) {n : Nat} {L : Nat → Int} (pk pv : Int) (hu : UR w lv n L) (hB : B ≤ w.heap.size) (hb1 : T.nf ≤ 1000) (hb2 : T.ns ≤ 1000) (hb3 : T.row.length ≤ 80000) (hr : riseB T.row = true) (hn : T.nf = m + 1) (hf : fn < 0) :
    Calls Try.prog 9 #[.pointer (some ⟨q, 0, none⟩), opV ⟨6, fn, n, L, pk, pv⟩ lv] w (DoA w B q (touchT T fn) (0) (false) sv) := by
  refine Calls.veil fun Q HQ => ?_
  have HH := Lib.hid h; have HU := Lib.hid hu
  obtain ⟨la, lc, rfl, lc1, lc2⟩ := hu.slice
  unfold opV
  simp only
  clear h hu
  have HN := Lib.hid hn
  have hm : m ≤ 1000000 := by omega
  clear hn
  go_enter Try.func9, Try.ntmps9
  go_upto_region 1 with fail
  generalize hV : World.alloc _ _ = U
  obtain ⟨u0, hbu⟩ := heapnewE hV
  obtain ⟨X, hX⟩ : ∃ X, X = w.heap.size := ⟨_, rfl⟩
  rw [← hX] at u0 ⊢
  have o0 := newcell u0 0 _ rfl; have o1 := newcell u0 1 _ rfl; have o2 := newcell u0 2 _ rfl; have o3 := newcell u0 3 _ rfl; have o4 := newcell u0 4 _ rfl
  have HO := Lib.hid u0; have HBU := Lib.hid hbu
  have HT := Lib.hid (HH.out.below hbu)
  have HBB := Lib.hid (Nat.le_trans hB hbu.size)
  clear hV u0 hbu hX
  go_wp2_with fail
  refine (ftop1 HT.out HN.out hm).mono ?_; rintro _ w2 ⟨rfl, hb2⟩
  have HT2 := Lib.hid (HT.out.below hb2); have HB2 := Lib.hid (below_on HBU.out hb2)
  have HOW := Lib.hid (up hb2 HO.out)
  have o1 := newcell HOW.out 1 _ rfl
  have hfb := (HT2.out.fb m (by rw [HN.out]; omega)).1
  have f1 : w2.cell? ⟨p m, 1, none⟩ = some (.int .i64 (T.fs m).pc) := hfb.get (i := 1) (by omega)
  have ff : ∀ i, w2.frozen? ⟨p m, i, none⟩ = false := hfb.fr
  have HFB := Lib.hid hfb
  clear hb2 o0 o2 o3 o4 hfb
  go_upto_region 19 with fail
  generalize hW : World.setCell _ _ _ = W
  have kw : KS (fun j => j = p m) w2 W := by rw [← hW]; exact KS.set w2 (p m) 1 _
  have hbw : Blk 57 W (p m) 26 (frF ⟨(T.fs m).fn, fn, (T.fs m).r⟩) := by
    rw [← hW]; exact (HFB.out.set 1 _).congr fun j hj => frF_pc _ _ j hj
  have how := (kw.block X (blk_lt HOW.out) (ne_ty HOW.out (show w2.heap[p m]? = _ from HFB.out) (by decide))).trans HOW.out
  have o1 := newcell how 1 _ rfl
  have KW := Lib.hid kw; have HBW := Lib.hid hbw
  clear hW kw how f1 ff
  have hf2 : ¬ 0 ≤ fn := by omega
  clear hbw
  go_wp2_with fail
  (try go_ret2)
  rw [HQ.out]
  obtain ⟨h1, h2⟩ := HT2.out.frameSet (m := m) (by rw [HN.out]; omega) KW.out HBW.out
  have e : touchT T fn = { T with fs := upM T.fs m ⟨(T.fs m).fn, fn, (T.fs m).r⟩ } := by
    unfold touchT touch; rw [show T.nf - 1 = m by rw [HN.out]; omega, if_neg (by omega)]
  rw [e]
  exact ⟨rfl, ⟨_, _, _, _, h1, fun j e => .inl e⟩, (KD.of_below HB2.out).trans h2 (fun j e => .inl e)⟩
set_option maxRecDepth 8000 in
set_option maxHeartbeats 1000000 in
theorem ldo_61p {w : World} {B q : Nat} {T : Td} {p : Nat → Nat} {fv rv sv lv : Value} (h : ThA w B q T p fv rv sv) {m : Nat} (fn : Int) {n : Nat} {L : Nat → Int} (pk pv : Int) (hu : UR w lv n L) (hB : B ≤ w.heap.size) (hb1 : T.nf ≤ 1000) (hb2 : T.ns ≤ 1000) (hb3 : T.row.length ≤ 80000) (hr : riseB T.row = true) (hn : T.nf = m + 1) (hf : 0 ≤ fn) :
    Calls Try.prog 9 #[.pointer (some ⟨q, 0, none⟩), opV ⟨6, fn, n, L, pk, pv⟩ lv] w (DoA w B q (touchT T fn) (0) (false) sv) := by
  refine Calls.veil fun Q HQ => ?_
  have HH := Lib.hid h; have HU := Lib.hid hu
  obtain ⟨la, lc, rfl, lc1, lc2⟩ := hu.slice
  unfold opV
  simp only
  clear h hu
  have HN := Lib.hid hn
  have hm : m ≤ 1000000 := by omega
  clear hn
  go_enter Try.func9, Try.ntmps9
  go_upto_region 1 with fail
  generalize hV : World.alloc _ _ = U
  obtain ⟨u0, hbu⟩ := heapnewE hV
  obtain ⟨X, hX⟩ : ∃ X, X = w.heap.size := ⟨_, rfl⟩
  rw [← hX] at u0 ⊢
  have o0 := newcell u0 0 _ rfl; have o1 := newcell u0 1 _ rfl; have o2 := newcell u0 2 _ rfl; have o3 := newcell u0 3 _ rfl; have o4 := newcell u0 4 _ rfl
  have HO := Lib.hid u0; have HBU := Lib.hid hbu
  have HT := Lib.hid (HH.out.below hbu)
  have HBB := Lib.hid (Nat.le_trans hB hbu.size)
  clear hV u0 hbu hX
  go_wp2_with fail
  refine (ftop1 HT.out HN.out hm).mono ?_; rintro _ w2 ⟨rfl, hb2⟩
  have HT2 := Lib.hid (HT.out.below hb2); have HB2 := Lib.hid (below_on HBU.out hb2)
  have HOW := Lib.hid (up hb2 HO.out)
  have o1 := newcell HOW.out 1 _ rfl
  have hfb := (HT2.out.fb m (by rw [HN.out]; omega)).1
  have f1 : w2.cell? ⟨p m, 1, none⟩ = some (.int .i64 (T.fs m).pc) := hfb.get (i := 1) (by omega)
  have ff : ∀ i, w2.frozen? ⟨p m, i, none⟩ = false := hfb.fr
  have HFB := Lib.hid hfb
  clear hb2 o0 o2 o3 o4 hfb
  go_upto_region 19 with fail
  generalize hW : World.setCell _ _ _ = W
  have kw : KS (fun j => j = p m) w2 W := by rw [← hW]; exact KS.set w2 (p m) 1 _
  have hbw : Blk 57 W (p m) 26 (frF ⟨(T.fs m).fn, fn, (T.fs m).r⟩) := by
    rw [← hW]; exact (HFB.out.set 1 _).congr fun j hj => frF_pc _ _ j hj
  have how := (kw.block X (blk_lt HOW.out) (ne_ty HOW.out (show w2.heap[p m]? = _ from HFB.out) (by decide))).trans HOW.out
  have o1 := newcell how 1 _ rfl
  have KW := Lib.hid kw; have HBW := Lib.hid hbw
  clear hW kw how f1 ff
  obtain ⟨a, ha⟩ : ∃ a : Nat, fn % 24 = (a : Int) := ⟨(fn % 24).toNat, by omega⟩
  have ha24 : a < 24 := by omega
  have ha24i : (a : Int) < 24 := by omega
  have c0 : W.cell? ⟨p m, 2 + a, none⟩ = some (.int .u64 ((T.fs m).r a)) := by
    have := hbw.get (i := 2 + a) (by omega)
    rw [this]; unfold frF; rw [if_neg (by omega), if_neg (by omega), show 2 + a - 2 = a by omega]
  have ff : ∀ i, W.frozen? ⟨p m, i, none⟩ = false := hbw.fr
  have htm : Int.tmod fn 24 = (a : Int) := by rw [Int.tmod_eq_emod_of_nonneg hf]; exact ha
  have HA := Lib.hid ha
  clear hbw
  go_upto_region 20 with fail
  go_still_tail 12, (by kernel_rfl)
  go_wp2_with fail
  generalize hV : World.drew (World.setCell _ _ _) = V
  have hbv : Blk 57 V (p m) 26 (frF ⟨(T.fs m).fn, fn, fun i => if i = a then ((T.fs m).r a + 1) % 18446744073709551616 else (T.fs m).r i⟩) := by
    rw [← hV]; exact ((HBW.out.set (2 + a) _).congr fun j hj => frF_r _ a _ j hj).of rfl
  have kv : KS (fun j => j = p m) W V := by rw [← hV]; exact (KS.set W (p m) (2 + a) _).trans (.of_below (Below.refl _ _).drew)
  have KV := Lib.hid (KW.out.trans kv); have HBV := Lib.hid hbv
  clear hV kv hbv
  (try go_ret2)
  rw [HQ.out]
  obtain ⟨h1, h2⟩ := HT2.out.frameSet (m := m) (by rw [HN.out]; omega) KV.out HBV.out
  have e : touchT T fn = { T with fs := upM T.fs m ⟨(T.fs m).fn, fn, fun i => if i = a then ((T.fs m).r a + 1) % 18446744073709551616 else (T.fs m).r i⟩ } := by
    unfold touchT touch; rw [show T.nf - 1 = m by rw [HN.out]; omega, if_pos hf, HA.out, Int.toNat_natCast]
    congr 2
    congr 1
    funext i
    by_cases e : i = a
    · subst e; simp
    · simp only [e, if_false]
  rw [e]
  exact ⟨rfl, ⟨_, _, _, _, h1, fun j e => .inl e⟩, (KD.of_below HB2.out).trans h2 (fun j e => .inl e)⟩
set_option maxRecDepth 8000 in
set_option maxHeartbeats 1000000 in
theorem ldo_no {w : World} {B q : Nat} {T : Td} {p : Nat → Nat} {fv rv sv lv : Value} (h : ThA w B q T p fv rv sv) {kk : Int} (hk : kk < 0 ∨ 6 < kk) (fn : Int) {n : Nat} {L : Nat → Int} (pk pv : Int) (hu : UR w lv n L) (hB : B ≤ w.heap.size) (hb1 : T.nf ≤ 1000) (hb2 : T.ns ≤ 1000) (hb3 : T.row.length ≤ 80000) (hr : riseB T.row = true) :
    Calls Try.prog 9 #[.pointer (some ⟨q, 0, none⟩), opV ⟨kk, fn, n, L, pk, pv⟩ lv] w (DoA w B q (T) (0) (false) sv) := by
  refine Calls.veil fun Q HQ => ?_
  have HH := Lib.hid h; have HU := Lib.hid hu
  obtain ⟨la, lc, rfl, lc1, lc2⟩ := hu.slice
  unfold opV
  simp only
  clear h hu
  go_enter Try.func9, Try.ntmps9
  go_upto_region 1 with fail
  generalize hV : World.alloc _ _ = U
  obtain ⟨u0, hbu⟩ := heapnewE hV
  obtain ⟨X, hX⟩ : ∃ X, X = w.heap.size := ⟨_, rfl⟩
  rw [← hX] at u0 ⊢
  have o0 := newcell u0 0 _ rfl; have o1 := newcell u0 1 _ rfl; have o2 := newcell u0 2 _ rfl; have o3 := newcell u0 3 _ rfl; have o4 := newcell u0 4 _ rfl
  have HO := Lib.hid u0; have HBU := Lib.hid hbu
  have HT := Lib.hid (HH.out.below hbu)
  have HBB := Lib.hid (Nat.le_trans hB hbu.size)
  clear hV u0 hbu hX
  have k0 : ¬ kk = 0 := by omega
  have k1 : ¬ kk = 1 := by omega
  have k2 : ¬ kk = 2 := by omega
  have k3 : ¬ kk = 3 := by omega
  have k4 : ¬ kk = 4 := by omega
  have k5 : ¬ kk = 5 := by omega
  have k6 : ¬ kk = 6 := by omega
  go_wp2_with fail
  (try go_ret2)
  rw [HQ.out]
  exact ⟨rfl, ⟨_, _, _, _, HT.out, fun j e => .inl e⟩, KD.of_below HBU.out⟩
end Go.Proofs.Ytdnjconfmaiegaa
