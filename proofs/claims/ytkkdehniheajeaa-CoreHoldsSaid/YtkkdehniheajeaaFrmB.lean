/- Layer 15: a thread's methods. -/
import Derived.Test.YtkkdehniheajeaaFrmA
namespace Go.Proofs.Ytkkdehniheajeaa.Th
open Go.RowKit
set_option linter.unusedVariables false
set_option linter.unusedSimpArgs false
theorem info_one {T : TypeId} {z : Value} (h : (Try.prog.info? T).map (fun i => (i.zero, i.size, i.bytes)) = some (some z, 1, 8)) : ∃ i0, Try.prog.info? T = some i0 ∧ i0.zero = some z ∧ i0.size = 1 ∧ i0.bytes = 8 := by
  cases hq : Try.prog.info? T with
  | none => rw [hq] at h; cases h
  | some i =>
    rw [hq] at h
    simp only [Option.map_some, Option.some.injEq, Prod.mk.injEq] at h
    exact ⟨i, rfl, h.1, h.2.1, h.2.2⟩
/-- One more at an own list's end. -/
theorem push1 {T SL : TypeId} {z : Value} (uT : Try.prog.underlying SL = some (.slice T)) (iT : (Try.prog.info? T).map (fun i => (i.zero, i.size, i.bytes)) = some (some z, 1, 8)) (hz : z.cells.size = 1)
    {w : World} {B : Nat} {v : Value} {n : Nat} {xs : List Value} (h : OwnL T w B v n xs) (x : Value) (hx : x.oneCell' = true) (hn : n ≤ 1000000) (hB : B ≤ w.heap.size) :
    ∃ p c w', (Builtin.append_ #[SL, SL] SL #[v, .slice (some ⟨w.heap.size, 0, none⟩) 1 1]).run Try.prog (w.alloc (.cells #[x] T)) = .ok (.slice p (n + 1) c) w' ∧ OwnL T w' B (.slice p (n + 1) c) (n + 1) (xs ++ [x]) ∧ w.grownBy w' v.ownBlock ∧ ((Value.slice p (n + 1) c).ownBlock = v.ownBlock ∨ ∃ b, (Value.slice p (n + 1) c).ownBlock = some b ∧ w.heap.size ≤ b) := by
  obtain ⟨i0, hi, hz0, hz1, hz2⟩ := info_one iT
  have ha : OwnL T (w.alloc (.cells #[x] T)) B v n xs := h.below (by (repeat (first | exact Below.refl _ _ | assumption | refine below_new ?_ _ | refine Below.drew ?_ | refine below_drewN ?_ _ | refine below_on ?_ (by assumption))))
  obtain ⟨v', w', hr, h2, h3, _, h5⟩ := run_append_own_at (P := Try.prog) (w.alloc (.cells #[x] T)) B SL SL T i0 z 1 8 uT hi hz0 hz1 hz2 hz (by decide) v n xs ha ⟨w.heap.size, 0, none⟩ 1 1 [x] rfl (cell_one_new w x T) (by simpa using hx) (by unfold maxLen; omega) (by omega) (by simp; omega)
  obtain ⟨p, c, rfl, _, _⟩ := OwnL.slice h2
  refine ⟨p, c, w', hr, h2, ⟨h3.os, h3.tape, h3.output, by have := h3.size; simp at this; omega, fun k hk hne => (h3.block k (by simp; omega) hne).trans (heap_alloc_old w _ hk)⟩, ?_⟩
  rcases h5 with h5 | h5
  · exact .inl h5
  · exact .inr ⟨_, h5, by simp⟩
/-- All blocks but some are as they were. -/
structure KS (X : Nat → Prop) (w w' : World) : Prop where
  os : w'.os = w.os
  tape : w'.tape = w.tape
  output : w'.output = w.output
  size : w.heap.size ≤ w'.heap.size
  block : ∀ k, k < w.heap.size → ¬ X k → w'.heap[k]? = w.heap[k]?
theorem KS.of_below {X : Nat → Prop} {w w' : World} (h : Below w.heap.size w w') : KS X w w' := ⟨h.os, h.tape, h.output, h.size, fun k hk _ => h.block k hk⟩
theorem KS.trans {X : Nat → Prop} {a b c : World} (h : KS X a b) (k : KS X b c) : KS X a c :=
  ⟨k.os.trans h.os, k.tape.trans h.tape, k.output.trans h.output, Nat.le_trans h.size k.size, fun j hj hx => (k.block j (Nat.lt_of_lt_of_le hj h.size) hx).trans (h.block j hj hx)⟩
theorem KS.mono {X Y : Nat → Prop} {a b : World} (h : KS X a b) (k : ∀ j, X j → Y j) : KS Y a b := ⟨h.os, h.tape, h.output, h.size, fun j hj hx => h.block j hj fun e => hx (k j e)⟩
theorem KS.grown {a b : World} {v : Value} (h : a.grownBy b v.ownBlock) : KS (fun k => v.ownBlock = some k) a b := ⟨h.os, h.tape, h.output, h.size, fun j hj hx => h.block j hj fun e => hx e.symm⟩
theorem KS.set (w : World) (q i : Nat) (v : Value) : KS (fun k => k = q) w (w.setCell ⟨q, i, none⟩ v) := ⟨rfl, rfl, rfl, by simp [World.setCell], fun k _ hx => Below.heap_setCell _ _ _ _ hx⟩
theorem KS.setCells (w : World) (q o : Nat) (vs : List Value) : KS (fun k => k = q) w (w.setCells q o vs) := ⟨(os_setCells q vs o w).1, (os_setCells q vs o w).2.1, (os_setCells q vs o w).2.2, by rw [size_setCells]; exact Nat.le_refl _, fun k _ hx => heap_setCells_other q vs o w k hx⟩
theorem KS.kq {w w' : World} {q : Nat} {fv sv : Value} (h : KS (fun k => k = q ∨ fv.ownBlock = some k ∨ sv.ownBlock = some k) w w') : KQ w w' q fv sv := ⟨h.os, h.tape, h.output, h.size, fun k hk a b c => h.block k hk (by rintro (e | e | e) <;> contradiction)⟩
theorem KQ.trans {a b c : World} {q : Nat} {fv sv fv' sv' : Value} (h : KQ a b q fv sv) (k : KQ b c q fv' sv') (hf : ∀ j, fv'.ownBlock = some j → fv.ownBlock = some j ∨ a.heap.size ≤ j) (hs : ∀ j, sv'.ownBlock = some j → sv.ownBlock = some j ∨ a.heap.size ≤ j) : KQ a c q fv sv :=
  ⟨k.os.trans h.os, k.tape.trans h.tape, k.output.trans h.output, Nat.le_trans h.size k.size, fun j hj e1 e2 e3 => (k.block j (Nat.lt_of_lt_of_le hj h.size) e1 (fun e => by rcases hf j e with h | h; exact e2 h; omega) (fun e => by rcases hs j e with h | h; exact e3 h; omega)).trans (h.block j hj e1 e2 e3)⟩
/-- Rows of pairs, frames, words of a thread that are not touched. -/
theorem ThA.np {w w' : World} {B q : Nat} {T : Td} {p : Nat → Nat} {fv rv sv : Value} (h : ThA w B q T p fv rv sv) (k : KQ w w' q fv sv) : NP w w' :=
  ⟨k.size, fun j cur hj => by
    obtain ⟨a, b, c⟩ := h.apart hj (by decide) (by decide) (by decide)
    rw [k.block j (blk_lt hj) a b c]; exact hj⟩
theorem ThA.frm {w w' : World} {B q : Nat} {T : Td} {p : Nat → Nat} {fv rv sv : Value} (h : ThA w B q T p fv rv sv) (k : KQ w w' q fv sv) {i : Nat} (hi : i < T.nf) : Blk 76 w' (p i) 26 (frF (T.fs i)) := by
  have hb := (h.fb i hi).1
  obtain ⟨a, b, c⟩ := h.apart hb (by decide) (by decide) (by decide)
  exact hb.of (k.block _ (blk_lt hb) a b c)
theorem ThA.sep {w : World} {B q : Nat} {T : Td} {p : Nat → Nat} {fv rv sv : Value} (h : ThA w B q T p fv rv sv) {k : Nat} (hf : fv.ownBlock = some k) : sv.ownBlock ≠ some k := by
  intro e
  obtain ⟨_, _, c1, h1⟩ := h.fo.blk hf
  obtain ⟨_, _, c2, h2⟩ := h.so.blk e
  rw [h1] at h2
  simp only [Option.some.injEq, Obj.cells.injEq] at h2
  exact absurd h2.2.1 (by decide)
def upM (f : Nat → Fm) (k : Nat) (x : Fm) : Nat → Fm := fun i => if i = k then x else f i
/-- A frame more: the block of frames has grown, and the thread's is written. -/
theorem ThA.pushF {w w' : World} {B q : Nat} {T : Td} {p : Nat → Nat} {fv rv sv : Value} (h : ThA w B q T p fv rv sv) {b : Nat} {f : Fm} (hb : Blk 76 w b 26 (frF f)) (hB : B ≤ b) (hn : ∀ i, i < T.nf → p i ≠ b) {v' : Value}
    (ho : OwnL 77 w' B v' (T.nf + 1) (ptrs p T.nf ++ [.pointer (some ⟨b, 0, none⟩)])) (hg : w.grownBy w' fv.ownBlock) :
    ThA (w'.setCell ⟨q, 24, none⟩ v') B q { T with nf := T.nf + 1, fs := upM T.fs T.nf f } (fun i => if i = T.nf then b else p i) v' rv sv ∧ KQ w (w'.setCell ⟨q, 24, none⟩ v') q fv sv := by
  have hk : KQ w (w'.setCell ⟨q, 24, none⟩ v') q fv sv := KS.kq (((KS.grown hg).mono fun j e => .inr (.inl e)).trans ((KS.set w' q 24 v').mono fun j e => .inl e))
  have hq1 : Blk 60 w' q 27 (thF T fv rv sv) := h.blk.of (hg.block _ h.lt fun e => h.nfq.1 e.symm)
  have hvq : v'.ownBlock ≠ some q := fun e => by
    obtain ⟨_, _, cur, hc⟩ := ho.blk e
    have := hq1; unfold Blk at this; rw [hc] at this
    simp only [Option.some.injEq, Obj.cells.injEq] at this
    exact absurd this.2.1 (by decide)
  refine ⟨⟨h.hq, (hq1.set 24 v').congr fun j hj => ?_, ?_, fun i hi => ?_, fun i j hi hj e => ?_, h.rw.np (h.np hk), h.so.of fun k hk2 => ?_, h.s1⟩, hk⟩
  · unfold upF thF
    by_cases e : j = 24
    · subst e; simp
    · rw [if_neg e]; simp only [e, if_false]
  · have e : ptrs (fun i => if i = T.nf then b else p i) (T.nf + 1) = ptrs p T.nf ++ [.pointer (some ⟨b, 0, none⟩)] := by
      unfold ptrs
      rw [List.range_succ, List.map_append]
      congr 1
      · exact List.map_congr_left fun i hi => by simp only []; rw [if_neg (by have := List.mem_range.1 hi; omega)]
      · simp
    rw [e]
    exact ho.of fun k hk2 => Below.heap_setCell _ _ _ _ (fun e2 => hvq (by simp only at e2; rw [← e2]; exact hk2))
  · unfold upM
    by_cases e : i = T.nf
    · simp only [e, if_true]
      obtain ⟨a1, a2, a3⟩ := h.apart hb (by decide) (by decide) (by decide)
      exact ⟨hb.of (hk.block _ (blk_lt hb) a1 a2 a3), hB⟩
    · simp only [e, if_false]
      exact ⟨h.frm hk (by simp only at hi; omega), (h.fb i (by simp only at hi; omega)).2⟩
  · simp only at hi hj e
    by_cases e1 : i = T.nf <;> by_cases e2 : j = T.nf
    · omega
    · rw [if_pos e1, if_neg e2] at e; exact absurd e.symm (hn j (by omega))
    · rw [if_neg e1, if_pos e2] at e; exact absurd e (hn i (by omega))
    · rw [if_neg e1, if_neg e2] at e; exact h.inj i j (by omega) (by omega) e
  · have hkl := (h.so.blk hk2).2.1
    rw [Below.heap_setCell _ _ _ _ (fun e => h.nfq.2 (by simp only at e; rw [← e]; exact hk2)), hg.block _ hkl fun e => h.sep e.symm hk2]
/-- A word more. -/
theorem ThA.pushS {w w' : World} {B q : Nat} {T : Td} {p : Nat → Nat} {fv rv sv : Value} (h : ThA w B q T p fv rv sv) (x : Int) {v' : Value}
    (ho : OwnL 22 w' B v' (T.ns + 1) (ucells T.ns T.st ++ [.int .u64 x])) (hg : w.grownBy w' sv.ownBlock) :
    ThA (w'.setCell ⟨q, 26, none⟩ v') B q { T with ns := T.ns + 1, st := fun i => if i = T.ns then x else T.st i } p fv rv v' ∧ KQ w (w'.setCell ⟨q, 26, none⟩ v') q fv sv := by
  have hk : KQ w (w'.setCell ⟨q, 26, none⟩ v') q fv sv := KS.kq (((KS.grown hg).mono fun j e => .inr (.inr e)).trans ((KS.set w' q 26 v').mono fun j e => .inl e))
  have hq1 : Blk 60 w' q 27 (thF T fv rv sv) := h.blk.of (hg.block _ h.lt fun e => h.nfq.2 e.symm)
  have hvq : v'.ownBlock ≠ some q := fun e => by
    obtain ⟨_, _, cur, hc⟩ := ho.blk e
    have := hq1; unfold Blk at this; rw [hc] at this
    simp only [Option.some.injEq, Obj.cells.injEq] at this
    exact absurd this.2.1 (by decide)
  refine ⟨⟨h.hq, (hq1.set 26 v').congr fun j hj => ?_, h.fo.of fun k hk2 => ?_, fun i hi => ⟨h.frm hk hi, (h.fb i hi).2⟩, h.inj, h.rw.np (h.np hk), ?_, h.s1⟩, hk⟩
  · unfold upF thF
    by_cases e : j = 26
    · subst e; simp
    · rw [if_neg e]
      by_cases e2 : j = 25
      · subst e2; simp
      · by_cases e3 : j = 24
        · subst e3; simp
        · by_cases e4 : j < 12
          · rw [if_pos e4, if_pos e4]
          · rw [if_neg e4, if_neg e4, if_pos (by omega), if_pos (by omega)]
  · have hkl := (h.fo.blk hk2).2.1
    rw [Below.heap_setCell _ _ _ _ (fun e => h.nfq.1 (by simp only at e; rw [← e]; exact hk2)), hg.block _ hkl fun e => h.sep hk2 e.symm]
  · have e : ucells (T.ns + 1) (fun i => if i = T.ns then x else T.st i) = ucells T.ns T.st ++ [.int .u64 x] := by
      unfold ucells
      rw [List.range_succ, List.map_append]
      congr 1
      · exact List.map_congr_left fun i hi => by simp only []; rw [if_neg (by have := List.mem_range.1 hi; omega)]
      · simp
    simp only []
    rw [e]
    exact ho.of fun k hk2 => Below.heap_setCell _ _ _ _ (fun e2 => hvq (by simp only at e2; rw [← e2]; exact hk2))
/-- A field of the thread's own block is written. -/
theorem ThA.put {w : World} {B q : Nat} {T : Td} {p : Nat → Nat} {fv rv sv : Value} (h : ThA w B q T p fv rv sv) {T' : Td} {fv' rv' sv' : Value} {W : World} (hk : KS (fun k => k = q) w W)
    (hb : Blk 60 W q 27 (thF T' fv' rv' sv')) (hf : OwnL 77 w B fv' T'.nf (ptrs p T'.nf)) (hfo : ∀ i, i < T'.nf → i < T.nf ∧ T'.fs i = T.fs i) (hr : PO w rv' T'.row) (hs : OwnL 22 w B sv' T'.ns (ucells T'.ns T'.st)) (h1 : ∀ i, i < 12 → (T'.ss i).oneCell' = true) :
    ThA W B q T' p fv' rv' sv' ∧ KQ w W q fv sv := by
  have hkq : KQ w W q fv sv := KS.kq (hk.mono fun j e => .inl e)
  have ty : ∀ {k : Nat} {cur : Array Value} {t : TypeId}, w.heap[k]? = some (.cells cur t (0, 0)) → t ≠ 60 → k ≠ q := fun {k cur t} hc ht e => by
    subst e
    have := h.blk; unfold Blk at this; rw [hc] at this
    simp only [Option.some.injEq, Obj.cells.injEq] at this
    exact ht this.2.1
  refine ⟨⟨h.hq, hb, hf.of fun k hk2 => ?_, fun i hi => ?_, fun i j hi hj e => h.inj i j (hfo i hi).1 (hfo j hj).1 e, hr.np (h.np hkq), hs.of fun k hk2 => ?_, h1⟩, hkq⟩
  · obtain ⟨_, hl, cur, hc⟩ := hf.blk hk2
    exact hk.block k hl (ty hc (by decide))
  · rw [(hfo i hi).2]; exact ⟨h.frm hkq (hfo i hi).1, (h.fb i (hfo i hi).1).2⟩
  · obtain ⟨_, hl, cur, hc⟩ := hs.blk hk2
    exact hk.block k hl (ty hc (by decide))
end Go.Proofs.Ytkkdehniheajeaa.Th
