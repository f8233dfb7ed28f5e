/- Layer 15: a thread in memory: its block, its frames, its row and its stack. -/
import Derived.Test.YtkkdehniheajeaaRowP
import Derived.Test.YtkkdehniheajeaaMix
import Derived.Laws.AppendOwn
import Derived.Laws.AppendOwnNone
import Derived.Laws.IdiomCopy
import Derived.OwnWalk
import Derived.Deep.MidRow
import Derived.Deep.Cut
import Derived.Maps.AppendAt
namespace Go.Proofs.Ytkkdehniheajeaa.Th
open Go.RowKit
set_option linter.unusedVariables false
set_option linter.unusedSimpArgs false
theorem blk_lt {w : World} {b : Nat} {o : Obj} (h : w.heap[b]? = some o) : b < w.heap.size := (Array.getElem?_eq_some_iff.1 h).1
theorem newcell {w : World} {b : Nat} {arr : Array Value} {T : TypeId} (h : w.heap[b]? = some (.cells arr T (0, 0))) (k : Nat) (v : Value) (hk : arr[k]? = some v) : w.cell? ⟨b, k, none⟩ = some v := by
  rw [cell_of_row _ _ _ _ _ (0, 0) h]; exact hk
theorem newfree {w : World} {b : Nat} {arr : Array Value} {T : TypeId} (h : w.heap[b]? = some (.cells arr T (0, 0))) : ∀ i, w.frozen? ⟨b, i, none⟩ = false := fun i => frozen_of_row _ _ _ _ _ h
theorem up {w W : World} (h : Below w.heap.size w W) {b : Nat} {o : Obj} (k : w.heap[b]? = some o) : W.heap[b]? = some o := (h.block _ (blk_lt k)).trans k
theorem heapnewE {w V : World} {o : Obj} (h : w.alloc o = V) : V.heap[w.heap.size]? = some o ∧ Below w.heap.size w V := by
  subst h; exact ⟨heap_alloc_new w o, by (repeat (first | exact Below.refl _ _ | assumption | refine below_new ?_ _ | refine Below.drew ?_ | refine below_drewN ?_ _ | refine below_on ?_ (by assumption)))⟩
/-! ### A block known whole, by a function -/
def upF (F : Nat → Value) (k : Nat) (v : Value) : Nat → Value := fun j => if j = k then v else F j
def putF (F : Nat → Value) (o : Nat) (vs : List Value) : Nat → Value := fun j => if o ≤ j then (vs[j - o]?).getD (F j) else F j
def Blk (T : TypeId) (w : World) (b n : Nat) (F : Nat → Value) : Prop := w.heap[b]? = some (.cells ((List.range n).map F).toArray T (0, 0))
theorem Blk.get {T : TypeId} {w : World} {b n : Nat} {F : Nat → Value} (h : Blk T w b n F) {i : Nat} (hi : i < n) : w.cell? ⟨b, i, none⟩ = some (F i) :=
  newcell h i _ (by simp [List.getElem?_range hi])
theorem Blk.fr {T : TypeId} {w : World} {b n : Nat} {F : Nat → Value} (h : Blk T w b n F) (i : Nat) : w.frozen? ⟨b, i, none⟩ = false := newfree h i
theorem Blk.below {T : TypeId} {w W : World} {b n : Nat} {F : Nat → Value} (h : Blk T w b n F) (k : Below w.heap.size w W) : Blk T W b n F := up k h
theorem Blk.of {T : TypeId} {w W : World} {b n : Nat} {F : Nat → Value} (h : Blk T w b n F) (e : W.heap[b]? = w.heap[b]?) : Blk T W b n F := e.trans h
theorem Blk.congr {T : TypeId} {w : World} {b n : Nat} {F G : Nat → Value} (h : Blk T w b n F) (e : ∀ j, j < n → F j = G j) : Blk T w b n G := by
  unfold Blk; rw [h, List.map_congr_left fun j hj => e j (List.mem_range.1 hj)]
theorem Blk.set {T : TypeId} {w : World} {b n : Nat} {F : Nat → Value} (h : Blk T w b n F) (k : Nat) (v : Value) : Blk T (w.setCell ⟨b, k, none⟩ v) b n (upF F k v) := by
  unfold Blk
  rw [heap_setCell_same w b k _ _ v h]
  congr 2
  apply Array.ext'
  rw [Array.toList_setIfInBounds]
  simp only []
  apply List.ext_getElem?
  intro j
  rw [List.getElem?_set]
  by_cases hj : j < n
  · by_cases e : k = j
    · subst e; simp [upF, hj]
    · rw [if_neg e]; simp [upF, hj, Ne.symm e]
  · simp [hj]; omega
theorem Blk.setCells {T : TypeId} {b n : Nat} : ∀ (vs : List Value) (o : Nat) (w : World) (F : Nat → Value), Blk T w b n F → Blk T (w.setCells b o vs) b n (putF F o vs)
  | [], o, w, F, h => h.congr fun j _ => by unfold putF; simp
  | v :: r, o, w, F, h => by
    rw [World.setCells]
    refine (Blk.setCells r (o + 1) _ _ (h.set o v)).congr fun j _ => ?_
    unfold putF upF
    by_cases h1 : o + 1 ≤ j
    · rw [if_pos h1, if_neg (show ¬ j = o by omega), if_pos (show o ≤ j by omega), show j - o = (j - (o + 1)) + 1 by omega, List.getElem?_cons_succ]
    · rw [if_neg h1]
      by_cases h2 : j = o
      · subst h2; simp
      · rw [if_neg h2, if_neg (by omega)]
theorem heap_setCells_other (b : Nat) : ∀ (vs : List Value) (o : Nat) (w : World) (k : Nat), k ≠ b → (w.setCells b o vs).heap[k]? = w.heap[k]?
  | [], _, _, _, _ => rfl
  | v :: r, o, w, k, h => by rw [World.setCells, heap_setCells_other b r _ _ k h, Below.heap_setCell _ _ _ _ h]
theorem size_setCells (b : Nat) : ∀ (vs : List Value) (o : Nat) (w : World), (w.setCells b o vs).heap.size = w.heap.size
  | [], _, _ => rfl
  | v :: r, o, w => by rw [World.setCells, size_setCells b r]; simp [World.setCell]
theorem os_setCells (b : Nat) : ∀ (vs : List Value) (o : Nat) (w : World), (w.setCells b o vs).os = w.os ∧ (w.setCells b o vs).tape = w.tape ∧ (w.setCells b o vs).output = w.output
  | [], _, _ => ⟨rfl, rfl, rfl⟩
  | v :: r, o, w => by rw [World.setCells]; exact os_setCells b r _ _
theorem Blk.range {T : TypeId} {w : World} {b n : Nat} {F : Nat → Value} (h : Blk T w b n F) (o m : Nat) (hm : o + m ≤ n) : w.rangeAt b o ((List.range m).map fun i => F (o + i)) := fun j v hv => by
  have hj : j < m := by
    have := (List.getElem?_eq_some_iff.1 hv).1
    simpa using this
  rw [List.getElem?_map, List.getElem?_range hj] at hv
  simp only [Option.map_some, Option.some.injEq] at hv
  rw [← hv]; exact h.get (by omega)
theorem Blk.there {T : TypeId} {w : World} {b n : Nat} {F : Nat → Value} (h : Blk T w b n F) (o m : Nat) (hm : o + m ≤ n) : w.there b o m := fun j hj => ⟨by rw [h.get (by omega)]; rfl, h.fr _⟩
theorem Blk.ne {T T' : TypeId} {w : World} {b b' n n' : Nat} {F F' : Nat → Value} (h : Blk T w b n F) (h' : Blk T' w b' n' F') (hT : T ≠ T') : b ≠ b' := by
  intro e; subst e; unfold Blk at h h'; rw [h] at h'; simp only [Option.some.injEq, Obj.cells.injEq] at h'; exact hT h'.2.1
/-! ### Words -/
/-- A slice of words. -/
inductive UR (w : World) : Value → Nat → (Nat → Int) → Prop
  | nil (f) : UR w (.slice none 0 0) 0 f
  | odd (a : Addr) (c : Nat) (f) : c ≤ 9223372036854775807 → UR w (.slice (some a) 0 c) 0 f
  | row (g o n c : Nat) (f) : n ≤ c → c ≤ 9223372036854775807 → (∀ i, i < n → w.cell? ⟨g, o + i, none⟩ = some (.int .u64 (f i))) → UR w (.slice (some ⟨g, o, none⟩) n c) n f
theorem UR.below {w w' : World} {v : Value} {n : Nat} {f : Nat → Int} (h : UR w v n f) (k : Below w.heap.size w w') : UR w' v n f := by
  cases h with
  | nil => exact .nil _
  | odd a c _ h1 => exact .odd a c _ h1
  | row g o _ c _ h1 h2 h3 => exact .row g o n c f h1 h2 fun i hi => Ext.cell ⟨w', k⟩ (h3 i hi)
theorem UR.slice {w : World} {v : Value} {n : Nat} {f : Nat → Int} (h : UR w v n f) : ∃ p c, v = .slice p n c ∧ n ≤ c ∧ c ≤ 9223372036854775807 := by
  cases h with
  | nil => exact ⟨_, _, rfl, Nat.le_refl _, by decide⟩
  | odd a c _ h1 => exact ⟨_, _, rfl, Nat.zero_le _, h1⟩
  | row g o _ c _ h1 h2 h3 => exact ⟨_, _, rfl, h1, h2⟩
def ucells (n : Nat) (f : Nat → Int) : List Value := (List.range n).map fun i => .int .u64 (f i)
theorem ucells_len (n : Nat) (f : Nat → Int) : (ucells n f).length = n := by simp [ucells]
theorem ucells_get {n : Nat} {f : Nat → Int} {i : Nat} (h : i < n) : (ucells n f)[i]? = some (.int .u64 (f i)) := by simp [ucells, List.getElem?_range h]
theorem ucells_one {n : Nat} {f : Nat → Int} : ∀ u ∈ ucells n f, u.oneCell' = true := by
  intro u hu
  simp only [ucells, List.mem_map] at hu
  obtain ⟨_, _, rfl⟩ := hu
  rfl
/-- A list of cells is in a block of its own, with room behind it. -/
def OwnL (T : TypeId) (w : World) (B : Nat) (v : Value) (n : Nat) (xs : List Value) : Prop := w.ownsRow B T 1 v n xs
theorem OwnL.parts {T : TypeId} {w : World} {B : Nat} {v : Value} {n : Nat} {xs : List Value} (h : OwnL T w B v n xs) : (v = .slice none 0 0 ∧ n = 0) ∨ ∃ g c, v = .slice (some ⟨g, 0, none⟩) n c ∧ n ≤ c ∧ c ≤ 9223372036854775807 ∧ B ≤ g ∧ g < w.heap.size ∧ ∃ cur, w.heap[g]? = some (.cells cur T (0, 0)) ∧ cur.toList.take n = xs ∧ (∀ i, w.frozen? ⟨g, i, none⟩ = false) ∧ ∀ i u, i < n → xs[i]? = some u → w.cell? ⟨g, i, none⟩ = some u := by
  rcases h.2 with ⟨rfl, h0⟩ | ⟨g, cap, cur, rfl, hb, hh, h1, h2, h3, h4⟩
  · exact .inl ⟨rfl, h0⟩
  · refine .inr ⟨g, cap, rfl, h1, h2, hb, (Array.getElem?_eq_some_iff.1 hh).1, cur, hh, by simpa using h4, fun i => frozen_of_row _ _ _ _ _ hh, fun i u hi hu => ?_⟩
    rw [← h4, List.getElem?_take_of_lt (by omega)] at hu
    rw [cell_of_row _ g _ _ _ (0, 0) hh]; simpa using hu
theorem OwnL.slice {T : TypeId} {w : World} {B : Nat} {v : Value} {n : Nat} {xs : List Value} (h : OwnL T w B v n xs) : ∃ p c, v = .slice p n c ∧ n ≤ c ∧ c ≤ 9223372036854775807 := by
  rcases h.parts with ⟨rfl, rfl⟩ | ⟨g, c, rfl, h1, h2, _⟩
  · exact ⟨none, 0, rfl, Nat.le_refl _, by decide⟩
  · exact ⟨_, _, rfl, h1, h2⟩
/-- Where its block is as it was, it is. -/
theorem OwnL.of {T : TypeId} {w w' : World} {B : Nat} {v : Value} {n : Nat} {xs : List Value} (h : OwnL T w B v n xs) (k : ∀ b, v.ownBlock = some b → w'.heap[b]? = w.heap[b]?) : OwnL T w' B v n xs := by
  refine ⟨h.1, ?_⟩
  rcases h.2 with hn | ⟨g, cap, cur, rfl, hb, hgg, rest⟩
  · exact .inl hn
  · exact .inr ⟨g, cap, cur, rfl, hb, by rw [k g rfl]; exact hgg, rest⟩
theorem OwnL.blk {T : TypeId} {w : World} {B : Nat} {v : Value} {n : Nat} {xs : List Value} (h : OwnL T w B v n xs) {b : Nat} (hb : v.ownBlock = some b) : B ≤ b ∧ b < w.heap.size ∧ ∃ cur, w.heap[b]? = some (.cells cur T (0, 0)) := by
  rcases h.parts with ⟨rfl, _⟩ | ⟨g, c, rfl, _, _, h3, h4, cur, h5, _⟩
  · cases hb
  · simp only [Value.ownBlock, Option.some.injEq] at hb
    subst hb
    exact ⟨h3, h4, cur, h5⟩
theorem OwnL.below {T : TypeId} {w w' : World} {B : Nat} {v : Value} {n : Nat} {xs : List Value} (h : OwnL T w B v n xs) (k : Below w.heap.size w w') : OwnL T w' B v n xs := h.of fun b hb => k.block b (h.blk hb).2.1
theorem OwnL.nil {T : TypeId} (w : World) (B : Nat) : OwnL T w B (.slice none 0 0) 0 [] := ⟨rfl, .inl ⟨rfl, rfl⟩⟩
/-- Cut to fewer. -/
theorem OwnL.take {T : TypeId} {w : World} {B : Nat} {p : Option Addr} {n c m : Nat} {xs : List Value} (h : OwnL T w B (.slice p n c) n xs) (hm : m ≤ n) (h0 : 0 < n) : OwnL T w B (.slice p m c) m (xs.take m) := by
  rcases h.2 with ⟨hv, h1⟩ | ⟨g, cap, cur, hv, hb, hh, h1, h2, h3, h4⟩
  · omega
  · simp only [Value.slice.injEq, true_and] at hv
    obtain ⟨rfl, rfl⟩ := hv
    refine ⟨?_, .inr ⟨g, c, cur, rfl, hb, hh, by omega, h2, h3, ?_⟩⟩
    · have := h.1; simp only [List.length_take]; omega
    · rw [← h4, List.take_take]; congr 1; omega
theorem own_UR {w : World} {B : Nat} {v : Value} {n : Nat} {f : Nat → Int} (h : OwnL 22 w B v n (ucells n f)) : UR w v n f := by
  rcases h.parts with ⟨rfl, rfl⟩ | ⟨g, c, rfl, h1, h2, _, _, _, _, _, _, h3⟩
  · exact .nil _
  · refine .row g 0 n c f h1 h2 fun i hi => ?_
    rw [Nat.zero_add]; exact h3 i _ hi (ucells_get hi)
theorem uU64 : Try.prog.underlying 44 = some (.slice 22) := by kernel_rfl
theorem infoU64 : (Try.prog.info? 22).map (fun i => (i.zero, i.size, i.bytes)) = some (some (.int .u64 0), 1, 8) := by kernel_rfl
theorem uFrs : Try.prog.underlying 57 = some (.slice 77) := by kernel_rfl
theorem infoFr : (Try.prog.info? 77).map (fun i => (i.zero, i.size, i.bytes)) = some (some (.pointer none), 1, 8) := by kernel_rfl
/-! ### A thread -/
structure Fm where
  fn : Int
  pc : Int
  r : Nat → Int
structure Td where
  ret : Nat → Int
  ss : Nat → Value
  nf : Nat
  fs : Nat → Fm
  row : PL
  ns : Nat
  st : Nat → Int
def frF (f : Fm) : Nat → Value := fun i => if i = 0 then .int .i64 f.fn else if i = 1 then .int .i64 f.pc else .int .u64 (f.r (i - 2))
def thF (T : Td) (fv rv sv : Value) : Nat → Value := fun i => if i < 12 then .int .u64 (T.ret i) else if i < 24 then T.ss (i - 12) else if i = 24 then fv else if i = 25 then rv else sv
def ptrs (p : Nat → Nat) (n : Nat) : List Value := (List.range n).map fun i => .pointer (some ⟨p i, 0, none⟩)
theorem ptrs_get {p : Nat → Nat} {n i : Nat} (h : i < n) : (ptrs p n)[i]? = some (.pointer (some ⟨p i, 0, none⟩)) := by simp [ptrs, List.getElem?_range h]
theorem ptrs_len (p : Nat → Nat) (n : Nat) : (ptrs p n).length = n := by simp [ptrs]
structure ThA (w : World) (B q : Nat) (T : Td) (p : Nat → Nat) (fv rv sv : Value) : Prop where
  hq : B ≤ q
  blk : Blk 60 w q 27 (thF T fv rv sv)
  fo : OwnL 77 w B fv T.nf (ptrs p T.nf)
  fb : ∀ i, i < T.nf → Blk 76 w (p i) 26 (frF (T.fs i)) ∧ B ≤ p i
  inj : ∀ i j, i < T.nf → j < T.nf → p i = p j → i = j
  rw : PO w rv T.row
  so : OwnL 22 w B sv T.ns (ucells T.ns T.st)
  s1 : ∀ i, i < 12 → (T.ss i).oneCell' = true
/-- All blocks but these three are as they were. -/
structure KQ (w w' : World) (q : Nat) (fv sv : Value) : Prop where
  os : w'.os = w.os
  tape : w'.tape = w.tape
  output : w'.output = w.output
  size : w.heap.size ≤ w'.heap.size
  block : ∀ k, k < w.heap.size → k ≠ q → fv.ownBlock ≠ some k → sv.ownBlock ≠ some k → w'.heap[k]? = w.heap[k]?
theorem KQ.of_below {w w' : World} {q : Nat} {fv sv : Value} (h : Below w.heap.size w w') : KQ w w' q fv sv := ⟨h.os, h.tape, h.output, h.size, fun k hk _ _ _ => h.block k hk⟩
theorem ThA.below {w w' : World} {B q : Nat} {T : Td} {p : Nat → Nat} {fv rv sv : Value} (h : ThA w B q T p fv rv sv) (k : Below w.heap.size w w') : ThA w' B q T p fv rv sv :=
  ⟨h.hq, h.blk.below k, h.fo.below k, fun i hi => ⟨(h.fb i hi).1.below k, (h.fb i hi).2⟩, h.inj, h.rw.below k, h.so.below k, h.s1⟩
theorem ThA.lt {w : World} {B q : Nat} {T : Td} {p : Nat → Nat} {fv rv sv : Value} (h : ThA w B q T p fv rv sv) : q < w.heap.size := blk_lt h.blk
theorem KQ.below {w w' : World} {B q : Nat} {T : Td} {p : Nat → Nat} {fv rv sv : Value} (k : KQ w w' q fv sv) (h : ThA w B q T p fv rv sv) {w0 : World} (h0 : Below w0.heap.size w0 w) (hB : w0.heap.size ≤ B) : Below w0.heap.size w0 w' :=
  ⟨k.os.trans h0.os, k.tape.trans h0.tape, k.output.trans h0.output, Nat.le_trans h0.size k.size, fun j hj => (k.block j (Nat.lt_of_lt_of_le hj h0.size) (by have := h.hq; omega) (fun e => by have := (h.fo.blk e).1; omega) (fun e => by have := (h.so.blk e).1; omega)).trans (h0.block j hj)⟩
/-- Cells of a thread's block. -/
theorem ThA.cf {w : World} {B q : Nat} {T : Td} {p : Nat → Nat} {fv rv sv : Value} (h : ThA w B q T p fv rv sv) : w.cell? ⟨q, 24, none⟩ = some fv := h.blk.get (i := 24) (by omega)
theorem ThA.cr {w : World} {B q : Nat} {T : Td} {p : Nat → Nat} {fv rv sv : Value} (h : ThA w B q T p fv rv sv) : w.cell? ⟨q, 25, none⟩ = some rv := h.blk.get (i := 25) (by omega)
theorem ThA.cs {w : World} {B q : Nat} {T : Td} {p : Nat → Nat} {fv rv sv : Value} (h : ThA w B q T p fv rv sv) : w.cell? ⟨q, 26, none⟩ = some sv := h.blk.get (i := 26) (by omega)
theorem ThA.nfq {w : World} {B q : Nat} {T : Td} {p : Nat → Nat} {fv rv sv : Value} (h : ThA w B q T p fv rv sv) : fv.ownBlock ≠ some q ∧ sv.ownBlock ≠ some q := by
  constructor
  · intro e
    obtain ⟨_, _, cur, hc⟩ := h.fo.blk e
    have h2 := h.blk
    unfold Blk at h2
    rw [hc] at h2
    simp only [Option.some.injEq, Obj.cells.injEq] at h2
    exact absurd h2.2.1 (by decide)
  · intro e
    obtain ⟨_, _, cur, hc⟩ := h.so.blk e
    have h2 := h.blk
    unfold Blk at h2
    rw [hc] at h2
    simp only [Option.some.injEq, Obj.cells.injEq] at h2
    exact absurd h2.2.1 (by decide)
/-- A block of another type is none of a thread's. -/
theorem ThA.apart {w : World} {B q : Nat} {T : Td} {p : Nat → Nat} {fv rv sv : Value} (h : ThA w B q T p fv rv sv) {k : Nat} {cur : Array Value} {ty : TypeId} (hk : w.heap[k]? = some (.cells cur ty (0, 0))) (h1 : ty ≠ 60) (h2 : ty ≠ 77) (h3 : ty ≠ 22) : k ≠ q ∧ fv.ownBlock ≠ some k ∧ sv.ownBlock ≠ some k := by
  refine ⟨?_, ?_, ?_⟩
  · intro e; subst e
    have := h.blk; unfold Blk at this; rw [hk] at this
    simp only [Option.some.injEq, Obj.cells.injEq] at this
    exact h1 this.2.1
  · intro e
    obtain ⟨_, _, c2, hc⟩ := h.fo.blk e
    rw [hk] at hc
    simp only [Option.some.injEq, Obj.cells.injEq] at hc
    exact h2 hc.2.1
  · intro e
    obtain ⟨_, _, c2, hc⟩ := h.so.blk e
    rw [hk] at hc
    simp only [Option.some.injEq, Obj.cells.injEq] at hc
    exact h3 hc.2.1
theorem NP.setCells {w : World} {b o : Nat} {vs : List Value} {cur : Array Value} {T : TypeId} (h : w.heap[b]? = some (.cells cur T (0, 0))) (hT : T ≠ 138) : NP w (w.setCells b o vs) :=
  ⟨by rw [size_setCells]; exact Nat.le_refl _, fun k c hk => by
    by_cases e : k = b
    · subst e; rw [h] at hk; simp only [Option.some.injEq, Obj.cells.injEq] at hk; exact absurd hk.2.1 hT
    · rw [heap_setCells_other b vs o w k e]; exact hk⟩
end Go.Proofs.Ytkkdehniheajeaa.Th
