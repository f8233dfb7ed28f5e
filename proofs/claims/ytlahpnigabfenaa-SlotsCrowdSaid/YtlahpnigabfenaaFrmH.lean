/- Layer 15: a call of a thread, by the law's do. -/
import Derived.Test.YtlahpnigabfenaaFrmE
import Derived.StillTailTactics
namespace Go.Proofs.Ytlahpnigabfenaa.Th
open Go.RowKit
set_option linter.unusedVariables false
set_option linter.unusedSimpArgs false
/-- What a call of a thread leaves of all else. -/
structure KD (w w' : World) (B : Nat) (sv : Value) : Prop where
  os : w'.os = w.os
  tape : w'.tape = w.tape
  output : w'.output = w.output
  size : w.heap.size ≤ w'.heap.size
  old : ∀ k, k < w.heap.size → k < B → w'.heap[k]? = w.heap[k]?
  ty : ∀ (k : Nat) (cur : Array Value) (t : TypeId), w.heap[k]? = some (.cells cur t (0, 0)) → t ≠ 50 → t ≠ 65 → t ≠ 69 → t ≠ 22 → w'.heap[k]? = w.heap[k]?
  u64 : ∀ (k : Nat) (cur : Array Value), w.heap[k]? = some (.cells cur 22 (0, 0)) → sv.ownBlock ≠ some k → w'.heap[k]? = w.heap[k]?
theorem KD.of_below {w w' : World} {B : Nat} {sv : Value} (h : Below w.heap.size w w') : KD w w' B sv :=
  ⟨h.os, h.tape, h.output, h.size, fun k hk _ => h.block k hk, fun k cur t hk _ _ _ _ => h.block k (blk_lt hk), fun k cur hk _ => h.block k (blk_lt hk)⟩
theorem KD.of_kq {w w' : World} {B q : Nat} {T : Td} {p : Nat → Nat} {fv rv sv : Value} (h : ThA w B q T p fv rv sv) (k : KQ w w' q fv sv) : KD w w' B sv :=
  ⟨k.os, k.tape, k.output, k.size, fun j hj hB => k.block j hj (by have := h.hq; omega) (fun e => by have := (h.fo.blk e).1; omega) (fun e => by have := (h.so.blk e).1; omega),
   fun j cur t hj h1 h2 h3 h4 => by obtain ⟨a, b, c⟩ := h.apart hj h1 h2 h4; exact k.block j (blk_lt hj) a b c,
   fun j cur hj hs => by
    refine k.block j (blk_lt hj) (fun e => ?_) (fun e => ?_) hs
    · subst e; have := h.blk; unfold Blk at this; rw [hj] at this; simp only [Option.some.injEq, Obj.cells.injEq] at this; exact absurd this.2.1 (by decide)
    · obtain ⟨_, _, c2, hc⟩ := h.fo.blk e
      rw [hj] at hc; simp only [Option.some.injEq, Obj.cells.injEq] at hc; exact absurd hc.2.1 (by decide)⟩
theorem KD.trans {a b c : World} {B : Nat} {sv sv' : Value} (h : KD a b B sv) (k : KD b c B sv') (hs : ∀ j, sv'.ownBlock = some j → sv.ownBlock = some j ∨ a.heap.size ≤ j) : KD a c B sv :=
  ⟨k.os.trans h.os, k.tape.trans h.tape, k.output.trans h.output, Nat.le_trans h.size k.size, fun j hj hB => (k.old j (Nat.lt_of_lt_of_le hj h.size) hB).trans (h.old j hj hB),
   fun j cur t hj h1 h2 h3 h4 => (k.ty j cur t ((h.ty j cur t hj h1 h2 h3 h4).trans hj) h1 h2 h3 h4).trans (h.ty j cur t hj h1 h2 h3 h4),
   fun j cur hj hx => (k.u64 j cur ((h.u64 j cur hj hx).trans hj) (fun e => by rcases hs j e with h | h; exact hx h; have := blk_lt hj; omega)).trans (h.u64 j cur hj hx)⟩
theorem KD.below {w w' w0 : World} {B : Nat} {sv : Value} (k : KD w w' B sv) (h0 : Below w0.heap.size w0 w) (hB : w0.heap.size ≤ B) : Below w0.heap.size w0 w' :=
  ⟨k.os.trans h0.os, k.tape.trans h0.tape, k.output.trans h0.output, Nat.le_trans h0.size k.size, fun j hj => (k.old j (Nat.lt_of_lt_of_le hj h0.size) (by omega)).trans (h0.block j hj)⟩
/-- A frame is written. -/
theorem ThA.frameSet {w W : World} {B q m : Nat} {T : Td} {p : Nat → Nat} {fv rv sv : Value} (h : ThA w B q T p fv rv sv) (hm : m < T.nf) {f : Fm} (k : KS (fun j => j = p m) w W) (hb : Blk 69 W (p m) 26 (frF f)) :
    ThA W B q { T with fs := upM T.fs m f } p fv rv sv ∧ KD w W B sv := by
  have hp := (h.fb m hm).1
  have ty : ∀ {j : Nat} {cur : Array Value} {t : TypeId}, w.heap[j]? = some (.cells cur t (0, 0)) → t ≠ 69 → W.heap[j]? = w.heap[j]? := fun {j cur t} hj ht => k.block j (blk_lt hj) (ne_ty hj (show w.heap[p m]? = _ from hp) ht)
  refine ⟨⟨h.hq, h.blk.of (ty h.blk (by decide)), h.fo.of fun j hj => ?_, fun i hi => ?_, h.inj, h.rw.np ⟨k.size, fun j cur hj => by rw [ty hj (by decide)]; exact hj⟩, h.so.of fun j hj => ?_, h.s1⟩, ⟨k.os, k.tape, k.output, k.size, fun j hj hB => k.block j hj (by have := (h.fb m hm).2; omega), fun j cur t hj _ _ h3 _ => ty hj h3, fun j cur hj _ => ty hj (by decide)⟩⟩
  · obtain ⟨_, _, cur, hc⟩ := h.fo.blk hj; exact ty hc (by decide)
  · unfold upM
    by_cases e : i = m
    · subst e; simp only [if_true]; exact ⟨hb, (h.fb i hm).2⟩
    · simp only [e, if_false]
      exact ⟨(h.fb i hi).1.of (k.block _ (blk_lt (h.fb i hi).1) fun e2 => e (h.inj i m hi hm e2)), (h.fb i hi).2⟩
  · obtain ⟨_, _, cur, hc⟩ := h.so.blk hj; exact ty hc (by decide)
theorem frF_pc (f : Fm) (fn : Int) (j : Nat) (hj : j < 26) : upF (frF f) 1 (.int .i64 fn) j = frF ⟨f.fn, fn, f.r⟩ j := by
  unfold upF frF
  by_cases e : j = 1
  · subst e; simp
  · rw [if_neg e]
    by_cases e0 : j = 0
    · rw [if_pos e0, if_pos e0]
    · rw [if_neg e0, if_neg e0, if_neg e, if_neg e]
theorem frF_r (f : Fm) (a : Nat) (x : Int) (j : Nat) (hj : j < 26) : upF (frF f) (2 + a) (.int .u64 x) j = frF ⟨f.fn, f.pc, fun i => if i = a then x else f.r i⟩ j := by
  unfold upF frF
  by_cases e : j = 2 + a
  · subst e
    rw [if_pos rfl, if_neg (by omega), if_neg (by omega)]
    simp only []
    rw [if_pos (by omega)]
  · rw [if_neg e]
    by_cases e0 : j = 0
    · rw [if_pos e0, if_pos e0]
    · rw [if_neg e0, if_neg e0]
      by_cases e1 : j = 1
      · rw [if_pos e1, if_pos e1]
      · rw [if_neg e1, if_neg e1]; simp only []; rw [if_neg (by omega)]
end Go.Proofs.Ytlahpnigabfenaa.Th
