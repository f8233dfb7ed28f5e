/- FrmG: several texts in one. -/
import Derived.Test.YtlahpnigabfenaaPairG
import Derived.Test.YtlahpnigabfenaaMix
import Derived.Laws.AppendOwn
import Derived.Laws.AppendOwnNone
import Derived.Laws.IdiomCopy
import Derived.OwnWalk
import Derived.Deep.MidRow
import Derived.Deep.Cut
import Derived.Maps.AppendAt
/- Layer 15: a thread in memory: its block, its frames, its row and its stack. -/
namespace Go.Proofs.Ytlahpnigabfenaa.Th
open Go.RowKit
set_option linter.unusedVariables false
set_option linter.unusedSimpArgs false
theorem blk_lt {w : World} {b : Nat} {o : Obj} (h : w.heap[b]? = some o) : b < w.heap.size := (Array.getElem?_eq_some_iff.1 h).1
theorem newcell {w : World} {b : Nat} {arr : Array Value} {T : TypeId} (h : w.heap[b]? = some (.cells arr T (0, 0))) (k : Nat) (v : Value) (hk : arr[k]? = some v) : w.cell? ⟨b, k, none⟩ = some v := by
  rw [cell_of_row _ _ _ _ _ (0, 0) h]; exact hk
theorem newfree {w : World} {b : Nat} {arr : Array Value} {T : TypeId} (h : w.heap[b]? = some (.cells arr T (0, 0))) : ∀ i, w.frozen? ⟨b, i, none⟩ = false := fun i => frozen_of_row _ _ _ _ _ h
theorem up {w W : World} (h : Below w.heap.size w W) {b : Nat} {o : Obj} (k : w.heap[b]? = some o) : W.heap[b]? = some o := (h.block _ (blk_lt k)).trans k
theorem heapnewE {w V : World} {o : Obj} (h : w.alloc o = V) : V.heap[w.heap.size]? = some o ∧ Below w.heap.size w V := by
  subst h; exact ⟨heap_alloc_new w o, by (repeat (first | exact Below.refl _ _ | assumption | refine below_new ?_ _ | refine Below.drew ?_ | refine below_drewN ?_ _ | refine below_on ?_ (by assumption)))⟩
/-! ### A block known whole, by a function -/
def upF (F : Nat → Value) (k : Nat) (v : Value) : Nat → Value := fun j => if j = k then v else F j
def putF (F : Nat → Value) (o : Nat) (vs : List Value) : Nat → Value := fun j => if o ≤ j then (vs[j - o]?).getD (F j) else F j
def Blk (T : TypeId) (w : World) (b n : Nat) (F : Nat → Value) : Prop := w.heap[b]? = some (.cells ((List.range n).map F).toArray T (0, 0))
theorem Blk.get {T : TypeId} {w : World} {b n : Nat} {F : Nat → Value} (h : Blk T w b n F) {i : Nat} (hi : i < n) : w.cell? ⟨b, i, none⟩ = some (F i) :=
  newcell h i _ (by simp [List.getElem?_range hi])
theorem Blk.fr {T : TypeId} {w : World} {b n : Nat} {F : Nat → Value} (h : Blk T w b n F) (i : Nat) : w.frozen? ⟨b, i, none⟩ = false := newfree h i
theorem Blk.below {T : TypeId} {w W : World} {b n : Nat} {F : Nat → Value} (h : Blk T w b n F) (k : Below w.heap.size w W) : Blk T W b n F := up k h
theorem Blk.of {T : TypeId} {w W : World} {b n : Nat} {F : Nat → Value} (h : Blk T w b n F) (e : W.heap[b]? = w.heap[b]?) : Blk T W b n F := e.trans h
theorem Blk.congr {T : TypeId} {w : World} {b n : Nat} {F G : Nat → Value} (h : Blk T w b n F) (e : ∀ j, j < n → F j = G j) : Blk T w b n G := by
  unfold Blk; rw [h, List.map_congr_left fun j hj => e j (List.mem_range.1 hj)]
theorem Blk.set {T : TypeId} {w : World} {b n : Nat} {F : Nat → Value} (h : Blk T w b n F) (k : Nat) (v : Value) : Blk T (w.setCell ⟨b, k, none⟩ v) b n (upF F k v) := by
  unfold Blk
  rw [heap_setCell_same w b k _ _ v h]
  congr 2
  apply Array.ext'
  rw [Array.toList_setIfInBounds]
  simp only []
  apply List.ext_getElem?
  intro j
  rw [List.getElem?_set]
  by_cases hj : j < n
  · by_cases e : k = j
    · subst e; simp [upF, hj]
    · rw [if_neg e]; simp [upF, hj, Ne.symm e]
  · simp [hj]; omega
theorem Blk.setCells {T : TypeId} {b n : Nat} : ∀ (vs : List Value) (o : Nat) (w : World) (F : Nat → Value), Blk T w b n F → Blk T (w.setCells b o vs) b n (putF F o vs)
  | [], o, w, F, h => h.congr fun j _ => by unfold putF; simp
  | v :: r, o, w, F, h => by
    rw [World.setCells]
    refine (Blk.setCells r (o + 1) _ _ (h.set o v)).congr fun j _ => ?_
    unfold putF upF
    by_cases h1 : o + 1 ≤ j
    · rw [if_pos h1, if_neg (show ¬ j = o by omega), if_pos (show o ≤ j by omega), show j - o = (j - (o + 1)) + 1 by omega, List.getElem?_cons_succ]
    · rw [if_neg h1]
      by_cases h2 : j = o
      · subst h2; simp
      · rw [if_neg h2, if_neg (by omega)]
theorem heap_setCells_other (b : Nat) : ∀ (vs : List Value) (o : Nat) (w : World) (k : Nat), k ≠ b → (w.setCells b o vs).heap[k]? = w.heap[k]?
  | [], _, _, _, _ => rfl
  | v :: r, o, w, k, h => by rw [World.setCells, heap_setCells_other b r _ _ k h, Below.heap_setCell _ _ _ _ h]
theorem size_setCells (b : Nat) : ∀ (vs : List Value) (o : Nat) (w : World), (w.setCells b o vs).heap.size = w.heap.size
  | [], _, _ => rfl
  | v :: r, o, w => by rw [World.setCells, size_setCells b r]; simp [World.setCell]
theorem os_setCells (b : Nat) : ∀ (vs : List Value) (o : Nat) (w : World), (w.setCells b o vs).os = w.os ∧ (w.setCells b o vs).tape = w.tape ∧ (w.setCells b o vs).output = w.output
  | [], _, _ => ⟨rfl, rfl, rfl⟩
  | v :: r, o, w => by rw [World.setCells]; exact os_setCells b r _ _
theorem Blk.range {T : TypeId} {w : World} {b n : Nat} {F : Nat → Value} (h : Blk T w b n F) (o m : Nat) (hm : o + m ≤ n) : w.rangeAt b o ((List.range m).map fun i => F (o + i)) := fun j v hv => by
  have hj : j < m := by
    have := (List.getElem?_eq_some_iff.1 hv).1
    simpa using this
  rw [List.getElem?_map, List.getElem?_range hj] at hv
  simp only [Option.map_some, Option.some.injEq] at hv
  rw [← hv]; exact h.get (by omega)
theorem Blk.there {T : TypeId} {w : World} {b n : Nat} {F : Nat → Value} (h : Blk T w b n F) (o m : Nat) (hm : o + m ≤ n) : w.there b o m := fun j hj => ⟨by rw [h.get (by omega)]; rfl, h.fr _⟩
theorem Blk.ne {T T' : TypeId} {w : World} {b b' n n' : Nat} {F F' : Nat → Value} (h : Blk T w b n F) (h' : Blk T' w b' n' F') (hT : T ≠ T') : b ≠ b' := by
  intro e; subst e; unfold Blk at h h'; rw [h] at h'; simp only [Option.some.injEq, Obj.cells.injEq] at h'; exact hT h'.2.1
/-! ### Words -/
/-- A slice of words. -/
inductive UR (w : World) : Value → Nat → (Nat → Int) → Prop
  | nil (f) : UR w (.slice none 0 0) 0 f
  | odd (a : Addr) (c : Nat) (f) : c ≤ 9223372036854775807 → UR w (.slice (some a) 0 c) 0 f
  | row (g o n c : Nat) (f) : n ≤ c → c ≤ 9223372036854775807 → (∀ i, i < n → w.cell? ⟨g, o + i, none⟩ = some (.int .u64 (f i))) → UR w (.slice (some ⟨g, o, none⟩) n c) n f
theorem UR.below {w w' : World} {v : Value} {n : Nat} {f : Nat → Int} (h : UR w v n f) (k : Below w.heap.size w w') : UR w' v n f := by
  cases h with
  | nil => exact .nil _
  | odd a c _ h1 => exact .odd a c _ h1
  | row g o _ c _ h1 h2 h3 => exact .row g o n c f h1 h2 fun i hi => Ext.cell ⟨w', k⟩ (h3 i hi)
theorem UR.slice {w : World} {v : Value} {n : Nat} {f : Nat → Int} (h : UR w v n f) : ∃ p c, v = .slice p n c ∧ n ≤ c ∧ c ≤ 9223372036854775807 := by
  cases h with
  | nil => exact ⟨_, _, rfl, Nat.le_refl _, by decide⟩
  | odd a c _ h1 => exact ⟨_, _, rfl, Nat.zero_le _, h1⟩
  | row g o _ c _ h1 h2 h3 => exact ⟨_, _, rfl, h1, h2⟩
def ucells (n : Nat) (f : Nat → Int) : List Value := (List.range n).map fun i => .int .u64 (f i)
theorem ucells_len (n : Nat) (f : Nat → Int) : (ucells n f).length = n := by simp [ucells]
theorem ucells_get {n : Nat} {f : Nat → Int} {i : Nat} (h : i < n) : (ucells n f)[i]? = some (.int .u64 (f i)) := by simp [ucells, List.getElem?_range h]
theorem ucells_one {n : Nat} {f : Nat → Int} : ∀ u ∈ ucells n f, u.oneCell' = true := by
  intro u hu
  simp only [ucells, List.mem_map] at hu
  obtain ⟨_, _, rfl⟩ := hu
  rfl
/-- A list of cells is in a block of its own, with room behind it. -/
def OwnL (T : TypeId) (w : World) (B : Nat) (v : Value) (n : Nat) (xs : List Value) : Prop := w.ownsRow B T 1 v n xs
theorem OwnL.parts {T : TypeId} {w : World} {B : Nat} {v : Value} {n : Nat} {xs : List Value} (h : OwnL T w B v n xs) : (v = .slice none 0 0 ∧ n = 0) ∨ ∃ g c, v = .slice (some ⟨g, 0, none⟩) n c ∧ n ≤ c ∧ c ≤ 9223372036854775807 ∧ B ≤ g ∧ g < w.heap.size ∧ ∃ cur, w.heap[g]? = some (.cells cur T (0, 0)) ∧ cur.toList.take n = xs ∧ (∀ i, w.frozen? ⟨g, i, none⟩ = false) ∧ ∀ i u, i < n → xs[i]? = some u → w.cell? ⟨g, i, none⟩ = some u := by
  rcases h.2 with ⟨rfl, h0⟩ | ⟨g, cap, cur, rfl, hb, hh, h1, h2, h3, h4⟩
  · exact .inl ⟨rfl, h0⟩
  · refine .inr ⟨g, cap, rfl, h1, h2, hb, (Array.getElem?_eq_some_iff.1 hh).1, cur, hh, by simpa using h4, fun i => frozen_of_row _ _ _ _ _ hh, fun i u hi hu => ?_⟩
    rw [← h4, List.getElem?_take_of_lt (by omega)] at hu
    rw [cell_of_row _ g _ _ _ (0, 0) hh]; simpa using hu
theorem OwnL.slice {T : TypeId} {w : World} {B : Nat} {v : Value} {n : Nat} {xs : List Value} (h : OwnL T w B v n xs) : ∃ p c, v = .slice p n c ∧ n ≤ c ∧ c ≤ 9223372036854775807 := by
  rcases h.parts with ⟨rfl, rfl⟩ | ⟨g, c, rfl, h1, h2, _⟩
  · exact ⟨none, 0, rfl, Nat.le_refl _, by decide⟩
  · exact ⟨_, _, rfl, h1, h2⟩
/-- Where its block is as it was, it is. -/
theorem OwnL.of {T : TypeId} {w w' : World} {B : Nat} {v : Value} {n : Nat} {xs : List Value} (h : OwnL T w B v n xs) (k : ∀ b, v.ownBlock = some b → w'.heap[b]? = w.heap[b]?) : OwnL T w' B v n xs := by
  refine ⟨h.1, ?_⟩
  rcases h.2 with hn | ⟨g, cap, cur, rfl, hb, hgg, rest⟩
  · exact .inl hn
  · exact .inr ⟨g, cap, cur, rfl, hb, by rw [k g rfl]; exact hgg, rest⟩
theorem OwnL.blk {T : TypeId} {w : World} {B : Nat} {v : Value} {n : Nat} {xs : List Value} (h : OwnL T w B v n xs) {b : Nat} (hb : v.ownBlock = some b) : B ≤ b ∧ b < w.heap.size ∧ ∃ cur, w.heap[b]? = some (.cells cur T (0, 0)) := by
  rcases h.parts with ⟨rfl, _⟩ | ⟨g, c, rfl, _, _, h3, h4, cur, h5, _⟩
  · cases hb
  · simp only [Value.ownBlock, Option.some.injEq] at hb
    subst hb
    exact ⟨h3, h4, cur, h5⟩
theorem OwnL.below {T : TypeId} {w w' : World} {B : Nat} {v : Value} {n : Nat} {xs : List Value} (h : OwnL T w B v n xs) (k : Below w.heap.size w w') : OwnL T w' B v n xs := h.of fun b hb => k.block b (h.blk hb).2.1
theorem OwnL.nil {T : TypeId} (w : World) (B : Nat) : OwnL T w B (.slice none 0 0) 0 [] := ⟨rfl, .inl ⟨rfl, rfl⟩⟩
/-- Cut to fewer. -/
theorem OwnL.take {T : TypeId} {w : World} {B : Nat} {p : Option Addr} {n c m : Nat} {xs : List Value} (h : OwnL T w B (.slice p n c) n xs) (hm : m ≤ n) (h0 : 0 < n) : OwnL T w B (.slice p m c) m (xs.take m) := by
  rcases h.2 with ⟨hv, h1⟩ | ⟨g, cap, cur, hv, hb, hh, h1, h2, h3, h4⟩
  · omega
  · simp only [Value.slice.injEq, true_and] at hv
    obtain ⟨rfl, rfl⟩ := hv
    refine ⟨?_, .inr ⟨g, c, cur, rfl, hb, hh, by omega, h2, h3, ?_⟩⟩
    · have := h.1; simp only [List.length_take]; omega
    · rw [← h4, List.take_take]; congr 1; omega
theorem own_UR {w : World} {B : Nat} {v : Value} {n : Nat} {f : Nat → Int} (h : OwnL 22 w B v n (ucells n f)) : UR w v n f := by
  rcases h.parts with ⟨rfl, rfl⟩ | ⟨g, c, rfl, h1, h2, _, _, _, _, _, _, h3⟩
  · exact .nil _
  · refine .row g 0 n c f h1 h2 fun i hi => ?_
    rw [Nat.zero_add]; exact h3 i _ hi (ucells_get hi)
theorem uU64 : Try.prog.underlying 32 = some (.slice 22) := by kernel_rfl
theorem infoU64 : (Try.prog.info? 22).map (fun i => (i.zero, i.size, i.bytes)) = some (some (.int .u64 0), 1, 8) := by kernel_rfl
theorem uFrs : Try.prog.underlying 47 = some (.slice 65) := by kernel_rfl
theorem infoFr : (Try.prog.info? 65).map (fun i => (i.zero, i.size, i.bytes)) = some (some (.pointer none), 1, 8) := by kernel_rfl
/-! ### A thread -/
structure Fm where
  fn : Int
  pc : Int
  r : Nat → Int
structure Td where
  ret : Nat → Int
  ss : Nat → Value
  nf : Nat
  fs : Nat → Fm
  row : PL
  ns : Nat
  st : Nat → Int
def frF (f : Fm) : Nat → Value := fun i => if i = 0 then .int .i64 f.fn else if i = 1 then .int .i64 f.pc else .int .u64 (f.r (i - 2))
def thF (T : Td) (fv rv sv : Value) : Nat → Value := fun i => if i < 12 then .int .u64 (T.ret i) else if i < 24 then T.ss (i - 12) else if i = 24 then fv else if i = 25 then rv else sv
def ptrs (p : Nat → Nat) (n : Nat) : List Value := (List.range n).map fun i => .pointer (some ⟨p i, 0, none⟩)
theorem ptrs_get {p : Nat → Nat} {n i : Nat} (h : i < n) : (ptrs p n)[i]? = some (.pointer (some ⟨p i, 0, none⟩)) := by simp [ptrs, List.getElem?_range h]
theorem ptrs_len (p : Nat → Nat) (n : Nat) : (ptrs p n).length = n := by simp [ptrs]
structure ThA (w : World) (B q : Nat) (T : Td) (p : Nat → Nat) (fv rv sv : Value) : Prop where
  hq : B ≤ q
  blk : Blk 50 w q 27 (thF T fv rv sv)
  fo : OwnL 65 w B fv T.nf (ptrs p T.nf)
  fb : ∀ i, i < T.nf → Blk 69 w (p i) 26 (frF (T.fs i)) ∧ B ≤ p i
  inj : ∀ i j, i < T.nf → j < T.nf → p i = p j → i = j
  rw : PO w rv T.row
  so : OwnL 22 w B sv T.ns (ucells T.ns T.st)
  s1 : ∀ i, i < 12 → (T.ss i).oneCell' = true
/-- All blocks but these three are as they were. -/
structure KQ (w w' : World) (q : Nat) (fv sv : Value) : Prop where
  os : w'.os = w.os
  tape : w'.tape = w.tape
  output : w'.output = w.output
  size : w.heap.size ≤ w'.heap.size
  block : ∀ k, k < w.heap.size → k ≠ q → fv.ownBlock ≠ some k → sv.ownBlock ≠ some k → w'.heap[k]? = w.heap[k]?
theorem KQ.of_below {w w' : World} {q : Nat} {fv sv : Value} (h : Below w.heap.size w w') : KQ w w' q fv sv := ⟨h.os, h.tape, h.output, h.size, fun k hk _ _ _ => h.block k hk⟩
theorem ThA.below {w w' : World} {B q : Nat} {T : Td} {p : Nat → Nat} {fv rv sv : Value} (h : ThA w B q T p fv rv sv) (k : Below w.heap.size w w') : ThA w' B q T p fv rv sv :=
  ⟨h.hq, h.blk.below k, h.fo.below k, fun i hi => ⟨(h.fb i hi).1.below k, (h.fb i hi).2⟩, h.inj, h.rw.below k, h.so.below k, h.s1⟩
theorem ThA.lt {w : World} {B q : Nat} {T : Td} {p : Nat → Nat} {fv rv sv : Value} (h : ThA w B q T p fv rv sv) : q < w.heap.size := blk_lt h.blk
theorem KQ.below {w w' : World} {B q : Nat} {T : Td} {p : Nat → Nat} {fv rv sv : Value} (k : KQ w w' q fv sv) (h : ThA w B q T p fv rv sv) {w0 : World} (h0 : Below w0.heap.size w0 w) (hB : w0.heap.size ≤ B) : Below w0.heap.size w0 w' :=
  ⟨k.os.trans h0.os, k.tape.trans h0.tape, k.output.trans h0.output, Nat.le_trans h0.size k.size, fun j hj => (k.block j (Nat.lt_of_lt_of_le hj h0.size) (by have := h.hq; omega) (fun e => by have := (h.fo.blk e).1; omega) (fun e => by have := (h.so.blk e).1; omega)).trans (h0.block j hj)⟩
/-- Cells of a thread's block. -/
theorem ThA.cf {w : World} {B q : Nat} {T : Td} {p : Nat → Nat} {fv rv sv : Value} (h : ThA w B q T p fv rv sv) : w.cell? ⟨q, 24, none⟩ = some fv := h.blk.get (i := 24) (by omega)
theorem ThA.cr {w : World} {B q : Nat} {T : Td} {p : Nat → Nat} {fv rv sv : Value} (h : ThA w B q T p fv rv sv) : w.cell? ⟨q, 25, none⟩ = some rv := h.blk.get (i := 25) (by omega)
theorem ThA.cs {w : World} {B q : Nat} {T : Td} {p : Nat → Nat} {fv rv sv : Value} (h : ThA w B q T p fv rv sv) : w.cell? ⟨q, 26, none⟩ = some sv := h.blk.get (i := 26) (by omega)
theorem ThA.nfq {w : World} {B q : Nat} {T : Td} {p : Nat → Nat} {fv rv sv : Value} (h : ThA w B q T p fv rv sv) : fv.ownBlock ≠ some q ∧ sv.ownBlock ≠ some q := by
  constructor
  · intro e
    obtain ⟨_, _, cur, hc⟩ := h.fo.blk e
    have h2 := h.blk
    unfold Blk at h2
    rw [hc] at h2
    simp only [Option.some.injEq, Obj.cells.injEq] at h2
    exact absurd h2.2.1 (by decide)
  · intro e
    obtain ⟨_, _, cur, hc⟩ := h.so.blk e
    have h2 := h.blk
    unfold Blk at h2
    rw [hc] at h2
    simp only [Option.some.injEq, Obj.cells.injEq] at h2
    exact absurd h2.2.1 (by decide)
/-- A block of another type is none of a thread's. -/
theorem ThA.apart {w : World} {B q : Nat} {T : Td} {p : Nat → Nat} {fv rv sv : Value} (h : ThA w B q T p fv rv sv) {k : Nat} {cur : Array Value} {ty : TypeId} (hk : w.heap[k]? = some (.cells cur ty (0, 0))) (h1 : ty ≠ 50) (h2 : ty ≠ 65) (h3 : ty ≠ 22) : k ≠ q ∧ fv.ownBlock ≠ some k ∧ sv.ownBlock ≠ some k := by
  refine ⟨?_, ?_, ?_⟩
  · intro e; subst e
    have := h.blk; unfold Blk at this; rw [hk] at this
    simp only [Option.some.injEq, Obj.cells.injEq] at this
    exact h1 this.2.1
  · intro e
    obtain ⟨_, _, c2, hc⟩ := h.fo.blk e
    rw [hk] at hc
    simp only [Option.some.injEq, Obj.cells.injEq] at hc
    exact h2 hc.2.1
  · intro e
    obtain ⟨_, _, c2, hc⟩ := h.so.blk e
    rw [hk] at hc
    simp only [Option.some.injEq, Obj.cells.injEq] at hc
    exact h3 hc.2.1
theorem NP.setCells {w : World} {b o : Nat} {vs : List Value} {cur : Array Value} {T : TypeId} (h : w.heap[b]? = some (.cells cur T (0, 0))) (hT : T ≠ 156) : NP w (w.setCells b o vs) :=
  ⟨by rw [size_setCells]; exact Nat.le_refl _, fun k c hk => by
    by_cases e : k = b
    · subst e; rw [h] at hk; simp only [Option.some.injEq, Obj.cells.injEq] at hk; exact absurd hk.2.1 hT
    · rw [heap_setCells_other b vs o w k e]; exact hk⟩
end Go.Proofs.Ytlahpnigabfenaa.Th

/- Layer 15: a thread's methods. -/
namespace Go.Proofs.Ytlahpnigabfenaa.Th
open Go.RowKit
set_option linter.unusedVariables false
set_option linter.unusedSimpArgs false
theorem info_one {T : TypeId} {z : Value} (h : (Try.prog.info? T).map (fun i => (i.zero, i.size, i.bytes)) = some (some z, 1, 8)) : ∃ i0, Try.prog.info? T = some i0 ∧ i0.zero = some z ∧ i0.size = 1 ∧ i0.bytes = 8 := by
  cases hq : Try.prog.info? T with
  | none => rw [hq] at h; cases h
  | some i =>
    rw [hq] at h
    simp only [Option.map_some, Option.some.injEq, Prod.mk.injEq] at h
    exact ⟨i, rfl, h.1, h.2.1, h.2.2⟩
/-- One more at an own list's end. -/
theorem push1 {T SL : TypeId} {z : Value} (uT : Try.prog.underlying SL = some (.slice T)) (iT : (Try.prog.info? T).map (fun i => (i.zero, i.size, i.bytes)) = some (some z, 1, 8)) (hz : z.cells.size = 1)
    {w : World} {B : Nat} {v : Value} {n : Nat} {xs : List Value} (h : OwnL T w B v n xs) (x : Value) (hx : x.oneCell' = true) (hn : n ≤ 1000000) (hB : B ≤ w.heap.size) :
    ∃ p c w', (Builtin.append_ #[SL, SL] SL #[v, .slice (some ⟨w.heap.size, 0, none⟩) 1 1]).run Try.prog (w.alloc (.cells #[x] T)) = .ok (.slice p (n + 1) c) w' ∧ OwnL T w' B (.slice p (n + 1) c) (n + 1) (xs ++ [x]) ∧ w.grownBy w' v.ownBlock ∧ ((Value.slice p (n + 1) c).ownBlock = v.ownBlock ∨ ∃ b, (Value.slice p (n + 1) c).ownBlock = some b ∧ w.heap.size ≤ b) := by
  obtain ⟨i0, hi, hz0, hz1, hz2⟩ := info_one iT
  have ha : OwnL T (w.alloc (.cells #[x] T)) B v n xs := h.below (by (repeat (first | exact Below.refl _ _ | assumption | refine below_new ?_ _ | refine Below.drew ?_ | refine below_drewN ?_ _ | refine below_on ?_ (by assumption))))
  obtain ⟨v', w', hr, h2, h3, _, h5⟩ := run_append_own_at (P := Try.prog) (w.alloc (.cells #[x] T)) B SL SL T i0 z 1 8 uT hi hz0 hz1 hz2 hz (by decide) v n xs ha ⟨w.heap.size, 0, none⟩ 1 1 [x] rfl (cell_one_new w x T) (by simpa using hx) (by unfold maxLen; omega) (by omega) (by simp; omega)
  obtain ⟨p, c, rfl, _, _⟩ := OwnL.slice h2
  refine ⟨p, c, w', hr, h2, ⟨h3.os, h3.tape, h3.output, by have := h3.size; simp at this; omega, fun k hk hne => (h3.block k (by simp; omega) hne).trans (heap_alloc_old w _ hk)⟩, ?_⟩
  rcases h5 with h5 | h5
  · exact .inl h5
  · exact .inr ⟨_, h5, by simp⟩
/-- All blocks but some are as they were. -/
structure KS (X : Nat → Prop) (w w' : World) : Prop where
  os : w'.os = w.os
  tape : w'.tape = w.tape
  output : w'.output = w.output
  size : w.heap.size ≤ w'.heap.size
  block : ∀ k, k < w.heap.size → ¬ X k → w'.heap[k]? = w.heap[k]?
theorem KS.of_below {X : Nat → Prop} {w w' : World} (h : Below w.heap.size w w') : KS X w w' := ⟨h.os, h.tape, h.output, h.size, fun k hk _ => h.block k hk⟩
theorem KS.trans {X : Nat → Prop} {a b c : World} (h : KS X a b) (k : KS X b c) : KS X a c :=
  ⟨k.os.trans h.os, k.tape.trans h.tape, k.output.trans h.output, Nat.le_trans h.size k.size, fun j hj hx => (k.block j (Nat.lt_of_lt_of_le hj h.size) hx).trans (h.block j hj hx)⟩
theorem KS.mono {X Y : Nat → Prop} {a b : World} (h : KS X a b) (k : ∀ j, X j → Y j) : KS Y a b := ⟨h.os, h.tape, h.output, h.size, fun j hj hx => h.block j hj fun e => hx (k j e)⟩
theorem KS.grown {a b : World} {v : Value} (h : a.grownBy b v.ownBlock) : KS (fun k => v.ownBlock = some k) a b := ⟨h.os, h.tape, h.output, h.size, fun j hj hx => h.block j hj fun e => hx e.symm⟩
theorem KS.set (w : World) (q i : Nat) (v : Value) : KS (fun k => k = q) w (w.setCell ⟨q, i, none⟩ v) := ⟨rfl, rfl, rfl, by simp [World.setCell], fun k _ hx => Below.heap_setCell _ _ _ _ hx⟩
theorem KS.setCells (w : World) (q o : Nat) (vs : List Value) : KS (fun k => k = q) w (w.setCells q o vs) := ⟨(os_setCells q vs o w).1, (os_setCells q vs o w).2.1, (os_setCells q vs o w).2.2, by rw [size_setCells]; exact Nat.le_refl _, fun k _ hx => heap_setCells_other q vs o w k hx⟩
theorem KS.kq {w w' : World} {q : Nat} {fv sv : Value} (h : KS (fun k => k = q ∨ fv.ownBlock = some k ∨ sv.ownBlock = some k) w w') : KQ w w' q fv sv := ⟨h.os, h.tape, h.output, h.size, fun k hk a b c => h.block k hk (by rintro (e | e | e) <;> contradiction)⟩
theorem KQ.trans {a b c : World} {q : Nat} {fv sv fv' sv' : Value} (h : KQ a b q fv sv) (k : KQ b c q fv' sv') (hf : ∀ j, fv'.ownBlock = some j → fv.ownBlock = some j ∨ a.heap.size ≤ j) (hs : ∀ j, sv'.ownBlock = some j → sv.ownBlock = some j ∨ a.heap.size ≤ j) : KQ a c q fv sv :=
  ⟨k.os.trans h.os, k.tape.trans h.tape, k.output.trans h.output, Nat.le_trans h.size k.size, fun j hj e1 e2 e3 => (k.block j (Nat.lt_of_lt_of_le hj h.size) e1 (fun e => by rcases hf j e with h | h; exact e2 h; omega) (fun e => by rcases hs j e with h | h; exact e3 h; omega)).trans (h.block j hj e1 e2 e3)⟩
/-- Rows of pairs, frames, words of a thread that are not touched. -/
theorem ThA.np {w w' : World} {B q : Nat} {T : Td} {p : Nat → Nat} {fv rv sv : Value} (h : ThA w B q T p fv rv sv) (k : KQ w w' q fv sv) : NP w w' :=
  ⟨k.size, fun j cur hj => by
    obtain ⟨a, b, c⟩ := h.apart hj (by decide) (by decide) (by decide)
    rw [k.block j (blk_lt hj) a b c]; exact hj⟩
theorem ThA.frm {w w' : World} {B q : Nat} {T : Td} {p : Nat → Nat} {fv rv sv : Value} (h : ThA w B q T p fv rv sv) (k : KQ w w' q fv sv) {i : Nat} (hi : i < T.nf) : Blk 69 w' (p i) 26 (frF (T.fs i)) := by
  have hb := (h.fb i hi).1
  obtain ⟨a, b, c⟩ := h.apart hb (by decide) (by decide) (by decide)
  exact hb.of (k.block _ (blk_lt hb) a b c)
theorem ThA.sep {w : World} {B q : Nat} {T : Td} {p : Nat → Nat} {fv rv sv : Value} (h : ThA w B q T p fv rv sv) {k : Nat} (hf : fv.ownBlock = some k) : sv.ownBlock ≠ some k := by
  intro e
  obtain ⟨_, _, c1, h1⟩ := h.fo.blk hf
  obtain ⟨_, _, c2, h2⟩ := h.so.blk e
  rw [h1] at h2
  simp only [Option.some.injEq, Obj.cells.injEq] at h2
  exact absurd h2.2.1 (by decide)
def upM (f : Nat → Fm) (k : Nat) (x : Fm) : Nat → Fm := fun i => if i = k then x else f i
/-- A frame more: the block of frames has grown, and the thread's is written. -/
theorem ThA.pushF {w w' : World} {B q : Nat} {T : Td} {p : Nat → Nat} {fv rv sv : Value} (h : ThA w B q T p fv rv sv) {b : Nat} {f : Fm} (hb : Blk 69 w b 26 (frF f)) (hB : B ≤ b) (hn : ∀ i, i < T.nf → p i ≠ b) {v' : Value}
    (ho : OwnL 65 w' B v' (T.nf + 1) (ptrs p T.nf ++ [.pointer (some ⟨b, 0, none⟩)])) (hg : w.grownBy w' fv.ownBlock) :
    ThA (w'.setCell ⟨q, 24, none⟩ v') B q { T with nf := T.nf + 1, fs := upM T.fs T.nf f } (fun i => if i = T.nf then b else p i) v' rv sv ∧ KQ w (w'.setCell ⟨q, 24, none⟩ v') q fv sv := by
  have hk : KQ w (w'.setCell ⟨q, 24, none⟩ v') q fv sv := KS.kq (((KS.grown hg).mono fun j e => .inr (.inl e)).trans ((KS.set w' q 24 v').mono fun j e => .inl e))
  have hq1 : Blk 50 w' q 27 (thF T fv rv sv) := h.blk.of (hg.block _ h.lt fun e => h.nfq.1 e.symm)
  have hvq : v'.ownBlock ≠ some q := fun e => by
    obtain ⟨_, _, cur, hc⟩ := ho.blk e
    have := hq1; unfold Blk at this; rw [hc] at this
    simp only [Option.some.injEq, Obj.cells.injEq] at this
    exact absurd this.2.1 (by decide)
  refine ⟨⟨h.hq, (hq1.set 24 v').congr fun j hj => ?_, ?_, fun i hi => ?_, fun i j hi hj e => ?_, h.rw.np (h.np hk), h.so.of fun k hk2 => ?_, h.s1⟩, hk⟩
  · unfold upF thF
    by_cases e : j = 24
    · subst e; simp
    · rw [if_neg e]; simp only [e, if_false]
  · have e : ptrs (fun i => if i = T.nf then b else p i) (T.nf + 1) = ptrs p T.nf ++ [.pointer (some ⟨b, 0, none⟩)] := by
      unfold ptrs
      rw [List.range_succ, List.map_append]
      congr 1
      · exact List.map_congr_left fun i hi => by simp only []; rw [if_neg (by have := List.mem_range.1 hi; omega)]
      · simp
    rw [e]
    exact ho.of fun k hk2 => Below.heap_setCell _ _ _ _ (fun e2 => hvq (by simp only at e2; rw [← e2]; exact hk2))
  · unfold upM
    by_cases e : i = T.nf
    · simp only [e, if_true]
      obtain ⟨a1, a2, a3⟩ := h.apart hb (by decide) (by decide) (by decide)
      exact ⟨hb.of (hk.block _ (blk_lt hb) a1 a2 a3), hB⟩
    · simp only [e, if_false]
      exact ⟨h.frm hk (by simp only at hi; omega), (h.fb i (by simp only at hi; omega)).2⟩
  · simp only at hi hj e
    by_cases e1 : i = T.nf <;> by_cases e2 : j = T.nf
    · omega
    · rw [if_pos e1, if_neg e2] at e; exact absurd e.symm (hn j (by omega))
    · rw [if_neg e1, if_pos e2] at e; exact absurd e (hn i (by omega))
    · rw [if_neg e1, if_neg e2] at e; exact h.inj i j (by omega) (by omega) e
  · have hkl := (h.so.blk hk2).2.1
    rw [Below.heap_setCell _ _ _ _ (fun e => h.nfq.2 (by simp only at e; rw [← e]; exact hk2)), hg.block _ hkl fun e => h.sep e.symm hk2]
/-- A word more. -/
theorem ThA.pushS {w w' : World} {B q : Nat} {T : Td} {p : Nat → Nat} {fv rv sv : Value} (h : ThA w B q T p fv rv sv) (x : Int) {v' : Value}
    (ho : OwnL 22 w' B v' (T.ns + 1) (ucells T.ns T.st ++ [.int .u64 x])) (hg : w.grownBy w' sv.ownBlock) :
    ThA (w'.setCell ⟨q, 26, none⟩ v') B q { T with ns := T.ns + 1, st := fun i => if i = T.ns then x else T.st i } p fv rv v' ∧ KQ w (w'.setCell ⟨q, 26, none⟩ v') q fv sv := by
  have hk : KQ w (w'.setCell ⟨q, 26, none⟩ v') q fv sv := KS.kq (((KS.grown hg).mono fun j e => .inr (.inr e)).trans ((KS.set w' q 26 v').mono fun j e => .inl e))
  have hq1 : Blk 50 w' q 27 (thF T fv rv sv) := h.blk.of (hg.block _ h.lt fun e => h.nfq.2 e.symm)
  have hvq : v'.ownBlock ≠ some q := fun e => by
    obtain ⟨_, _, cur, hc⟩ := ho.blk e
    have := hq1; unfold Blk at this; rw [hc] at this
    simp only [Option.some.injEq, Obj.cells.injEq] at this
    exact absurd this.2.1 (by decide)
  refine ⟨⟨h.hq, (hq1.set 26 v').congr fun j hj => ?_, h.fo.of fun k hk2 => ?_, fun i hi => ⟨h.frm hk hi, (h.fb i hi).2⟩, h.inj, h.rw.np (h.np hk), ?_, h.s1⟩, hk⟩
  · unfold upF thF
    by_cases e : j = 26
    · subst e; simp
    · rw [if_neg e]
      by_cases e2 : j = 25
      · subst e2; simp
      · by_cases e3 : j = 24
        · subst e3; simp
        · by_cases e4 : j < 12
          · rw [if_pos e4, if_pos e4]
          · rw [if_neg e4, if_neg e4, if_pos (by omega), if_pos (by omega)]
  · have hkl := (h.fo.blk hk2).2.1
    rw [Below.heap_setCell _ _ _ _ (fun e => h.nfq.1 (by simp only at e; rw [← e]; exact hk2)), hg.block _ hkl fun e => h.sep hk2 e.symm]
  · have e : ucells (T.ns + 1) (fun i => if i = T.ns then x else T.st i) = ucells T.ns T.st ++ [.int .u64 x] := by
      unfold ucells
      rw [List.range_succ, List.map_append]
      congr 1
      · exact List.map_congr_left fun i hi => by simp only []; rw [if_neg (by have := List.mem_range.1 hi; omega)]
      · simp
    simp only []
    rw [e]
    exact ho.of fun k hk2 => Below.heap_setCell _ _ _ _ (fun e2 => hvq (by simp only at e2; rw [← e2]; exact hk2))
/-- A field of the thread's own block is written. -/
theorem ThA.put {w : World} {B q : Nat} {T : Td} {p : Nat → Nat} {fv rv sv : Value} (h : ThA w B q T p fv rv sv) {T' : Td} {fv' rv' sv' : Value} {W : World} (hk : KS (fun k => k = q) w W)
    (hb : Blk 50 W q 27 (thF T' fv' rv' sv')) (hf : OwnL 65 w B fv' T'.nf (ptrs p T'.nf)) (hfo : ∀ i, i < T'.nf → i < T.nf ∧ T'.fs i = T.fs i) (hr : PO w rv' T'.row) (hs : OwnL 22 w B sv' T'.ns (ucells T'.ns T'.st)) (h1 : ∀ i, i < 12 → (T'.ss i).oneCell' = true) :
    ThA W B q T' p fv' rv' sv' ∧ KQ w W q fv sv := by
  have hkq : KQ w W q fv sv := KS.kq (hk.mono fun j e => .inl e)
  have ty : ∀ {k : Nat} {cur : Array Value} {t : TypeId}, w.heap[k]? = some (.cells cur t (0, 0)) → t ≠ 50 → k ≠ q := fun {k cur t} hc ht e => by
    subst e
    have := h.blk; unfold Blk at this; rw [hc] at this
    simp only [Option.some.injEq, Obj.cells.injEq] at this
    exact ht this.2.1
  refine ⟨⟨h.hq, hb, hf.of fun k hk2 => ?_, fun i hi => ?_, fun i j hi hj e => h.inj i j (hfo i hi).1 (hfo j hj).1 e, hr.np (h.np hkq), hs.of fun k hk2 => ?_, h1⟩, hkq⟩
  · obtain ⟨_, hl, cur, hc⟩ := hf.blk hk2
    exact hk.block k hl (ty hc (by decide))
  · rw [(hfo i hi).2]; exact ⟨h.frm hkq (hfo i hi).1, (h.fb i (hfo i hi).1).2⟩
  · obtain ⟨_, hl, cur, hc⟩ := hs.blk hk2
    exact hk.block k hl (ty hc (by decide))
end Go.Proofs.Ytlahpnigabfenaa.Th

/- Layer 15: a thread's methods: New, Depth, Top, Call, Push, Pop, Fresh. -/
namespace Go.Proofs.Ytlahpnigabfenaa.Th
open Go.RowKit
set_option linter.unusedVariables false
set_option linter.unusedSimpArgs false
def ss0 : Nat → Value := fun i => if i < 3 then .bool false else if i < 6 then .int .u64 0 else .int .i64 0
def T0 : Td := ⟨fun _ => 0, ss0, 0, fun _ => ⟨0, 0, fun _ => 0⟩, [], 0, fun _ => 0⟩
theorem ss0_one : ∀ i, i < 12 → (ss0 i).oneCell' = true := by
  intro i _
  unfold ss0
  split
  · rfl
  · split <;> rfl
theorem fnew (w : World) (B : Nat) (hB : B ≤ w.heap.size) : Calls Try.prog 33 #[] w fun e w' => e = .returned (.pointer (some ⟨w.heap.size, 0, none⟩)) ∧ ThA w' B w.heap.size T0 (fun _ => 0) (.slice none 0 0) (.slice none 0 0) (.slice none 0 0) ∧ Below w.heap.size w w' := by
  refine Calls.veil fun Q HQ => ?_
  go_enter Try.func33, Try.ntmps33
  go_wp2_with fail
  (try go_ret)
  generalize hV : World.alloc _ _ = V
  obtain ⟨hh, hb⟩ := heapnewE hV
  rw [HQ.out]
  exact ⟨rfl, ⟨hB, hh, .nil _ _, fun i hi => absurd hi (by simp [T0]), fun i j hi => absurd hi (by simp [T0]), PO.nil _, .nil _ _, ss0_one⟩, hb⟩
theorem fdepth {w : World} {B q : Nat} {T : Td} {p : Nat → Nat} {fv rv sv : Value} (h : ThA w B q T p fv rv sv) : Calls Try.prog 19 #[.pointer (some ⟨q, 0, none⟩)] w fun e w' => e = .returned (.int .i64 T.nf) ∧ w = w' := by
  have cf := h.cf
  obtain ⟨a, c, rfl, _, _⟩ := h.fo.slice
  clear h
  go_enter Try.func19, Try.ntmps19
  go_wp2_with fail
  go_ret
  exact ⟨rfl, rfl⟩
theorem ftop0 {w : World} {B q : Nat} {T : Td} {p : Nat → Nat} {fv rv sv : Value} (h : ThA w B q T p fv rv sv) (hn : T.nf = 0) : Calls Try.prog 21 #[.pointer (some ⟨q, 0, none⟩)] w fun e w' => e = .returned (.pointer none) ∧ w = w' := by
  have D := Lib.hid (fdepth h)
  rw [hn] at D
  clear h hn
  go_enter Try.func21, Try.ntmps21
  go_wp2_with fail
  refine D.out.mono ?_; rintro _ _ ⟨rfl, rfl⟩
  go_wp2_with fail
  go_ret
  exact ⟨rfl, rfl⟩
theorem ftop1 {w : World} {B q m : Nat} {T : Td} {p : Nat → Nat} {fv rv sv : Value} (h : ThA w B q T p fv rv sv) (hn : T.nf = m + 1) (hm : m ≤ 1000000) : Calls Try.prog 21 #[.pointer (some ⟨q, 0, none⟩)] w fun e w' => e = .returned (.pointer (some ⟨p m, 0, none⟩)) ∧ Below w.heap.size w w' := by
  have D := Lib.hid (fdepth h)
  have cf := h.cf
  have fo := h.fo
  rw [hn] at D fo
  rcases fo.parts with ⟨_, h0⟩ | ⟨g, c, rfl, h1, h2, _, _, _, _, _, _, h3⟩
  · omega
  have cg := h3 m _ (by omega) (ptrs_get (by omega))
  have hne : ¬ ((m : Int) + 1 = 0) := by omega
  clear h hn fo h3
  go_enter Try.func21, Try.ntmps21
  go_wp2_with fail
  refine D.out.mono ?_; rintro _ _ ⟨rfl, rfl⟩
  clear D
  go_upto_region 3 with fail
  go_quiet (fail)
  have hb := below_drewN (Below.refl w.heap.size w) nq
  clear cf cg
  go_wp2_with fail
  go_ret
  exact ⟨rfl, hb⟩
def callT (T : Td) (fn : Int) (n : Nat) (L : Nat → Int) : Td := { T with nf := T.nf + 1, fs := upM T.fs T.nf ⟨fn, 0, fun i => if i < n then L i else 0⟩ }
theorem run_copyU {w : World} {v : Value} {n : Nat} {f : Nat → Int} (h : UR w v n f) (b o m c : Nat) (ht : w.there b o m) : ∃ k : Int, (Builtin.copy_ #[32, 32] 3 #[.slice (some ⟨b, o, none⟩) m c, v]).run Try.prog w = .ok (.int .i64 k) (w.setCells b o (ucells (min n m) f)) := by
  have hs : (Try.prog.info? 22).map (·.size) = some 1 := by
    obtain ⟨i0, hi, _, h1, _⟩ := info_one infoU64
    rw [hi]; simp [h1]
  cases h with
  | nil => exact ⟨0, by rw [run_copy_none (P := Try.prog) w 32 32 3 22 (some ⟨b, o, none⟩) none m c 0 0 uU64 hs (by simp)]; simp [ucells, World.setCells] <;> rfl⟩
  | odd a c' _ h1 => exact ⟨0, by rw [run_copy_none (P := Try.prog) w 32 32 3 22 (some ⟨b, o, none⟩) (some a) m c 0 c' uU64 hs (by simp)]; simp [ucells, World.setCells] <;> rfl⟩
  | row g o' _ c' _ h1 h2 h3 =>
    refine ⟨_, run_copy_cells (P := Try.prog) w 32 32 3 22 b o m c ⟨g, o', none⟩ n c' (ucells (min n m) f) uU64 hs (by rw [ucells_len] <;> rfl) (fun j v hv => ?_) (fun j hj => (ht j (by rw [ucells_len] at hj; omega)).1) (fun j hj => (ht j (by rw [ucells_len] at hj; omega)).2) ucells_one⟩
    have hj : j < min n m := by
      have := (List.getElem?_eq_some_iff.1 hv).1
      rwa [ucells_len] at this
    rw [ucells_get hj] at hv
    simp only [Option.some.injEq] at hv
    rw [← hv, addP]; exact h3 j (by omega)
theorem frF_copied (fn : Int) (n : Nat) (L : Nat → Int) (j : Nat) (hj : j < 26) : putF (frF ⟨fn, 0, fun _ => 0⟩) 2 (ucells (min n 24) L) j = frF ⟨fn, 0, fun i => if i < n then L i else 0⟩ j := by
  unfold putF frF
  by_cases h0 : j = 0
  · subst h0; simp
  · by_cases h1 : j = 1
    · subst h1; simp
    · rw [if_pos (by omega)]
      simp only [h0, h1, if_false]
      by_cases h2 : j - 2 < n
      · rw [ucells_get (by omega)]; simp [h2]
      · rw [List.getElem?_eq_none (by rw [ucells_len]; omega)]; simp [h2]
/-- An append whose run is known. -/
theorem wpList_append_run {w : World} {ops : Array Oper} {rest : List Oper} {o : Oper} {a : Act} {Q : Exit → Act → World → Prop} (hgd : o.guard = none) (s x : Operand) (SL : TypeId)
    (ho : o.op = .call { callee := .builtin .append, args := #[s, x], argTypes := #[SL, SL] }) (hty : o.type = SL) {v u v' : Value} {w' : World} (hs : a.eval s = v) (hx : a.eval x = u)
    (hr : (Builtin.append_ #[SL, SL] SL #[v, u]).run Try.prog w = .ok v' w') (h : wpList Try.prog ops Q rest (a.put o.dst v') w') : wpList Try.prog ops Q (o :: rest) a w := by
  refine wpList_plain hgd fun K hK => ?_
  unfold Oper.wp execOp
  simp only [ho, hty, resolve, invoke, builtin, Sem.run_bind, Sem.run_pure, Result.andThen_ok, List.map_toArray, List.map_cons, List.map_nil, hs, hx, hr]
  exact hK _ _ h
set_option maxRecDepth 8000 in
set_option maxHeartbeats 1000000 in
theorem fcall {w : World} {B q : Nat} {T : Td} {p : Nat → Nat} {fv rv sv v : Value} (h : ThA w B q T p fv rv sv) (fn : Int) {n : Nat} {L : Nat → Int} (hu : UR w v n L) (hB : B ≤ w.heap.size) (hf : T.nf ≤ 1000000) :
    Calls Try.prog 20 #[.pointer (some ⟨q, 0, none⟩), .int .i64 fn, v] w fun e w' => e = .returned (.tuple #[]) ∧ (∃ p' fv', ThA w' B q (callT T fn n L) p' fv' rv sv ∧ (∀ j, fv'.ownBlock = some j → fv.ownBlock = some j ∨ w.heap.size ≤ j)) ∧ KQ w w' q fv sv := by
  refine Calls.veil fun Q HQ => ?_
  have HH := Lib.hid h; have HU := Lib.hid hu
  obtain ⟨a, c, rfl, _, _⟩ := hu.slice
  clear h hu
  go_enter Try.func20, Try.ntmps20
  go_upto_region 2 with fail
  generalize hV : World.alloc _ _ = V
  obtain ⟨hh, hbv⟩ := heapnewE hV
  have hs : V.heap.size = w.heap.size + 1 := by rw [← hV]; simp
  have hb : Blk 69 V w.heap.size 26 (frF ⟨fn, 0, fun _ => 0⟩) := hh
  have HV := Lib.hid (HH.out.below hbv)
  obtain ⟨b, hbe⟩ : ∃ b, b = w.heap.size := ⟨_, rfl⟩
  have HBE := Lib.hid hbe
  rw [← hbe] at hb hs ⊢
  have HB := Lib.hid hb
  have HBV := Lib.hid hbv
  have HS := Lib.hid hs
  obtain ⟨k, hcp⟩ := run_copyU (HU.out.below hbv) b 2 24 24 (hb.there 2 24 (by omega))
  clear hV hh hbe hb hbv hs
  go_upto_region 3 with fail
  generalize hW : World.setCells _ _ _ _ = W
  have hbw : Blk 69 W b 26 (frF ⟨fn, 0, fun i => if i < n then L i else 0⟩) := by rw [← hW]; exact (Blk.setCells _ 2 V _ HB.out).congr fun j hj => frF_copied fn n L j hj
  have hkw : Below w.heap.size w W := by
    rw [← hW]
    have k := KS.setCells V b 2 (ucells (min n 24) L)
    exact ⟨k.os.trans HBV.out.os, k.tape.trans HBV.out.tape, k.output.trans HBV.out.output, Nat.le_trans HBV.out.size k.size, fun j hj => (k.block j (by have := HBV.out.size; omega) (by have := HBE.out; omega)).trans (HBV.out.block j hj)⟩
  have hT := HH.out.below hkw
  have HBW := Lib.hid hbw
  have HKW := Lib.hid hkw
  have HT := Lib.hid hT
  obtain ⟨pa, pc, W2, hrun, ho, hg, hloc⟩ := push1 uFrs infoFr (by rfl) hT.fo (.pointer (some ⟨b, 0, none⟩)) rfl hf (Nat.le_trans hB hkw.size)
  have cf := HT.out.cf
  have cfn := fun o => Ext.on cf o
  have hfin := hT.pushF hbw (by have := HBE.out; omega) (fun i hi => by have := blk_lt (HH.out.fb i hi).1; have := HBE.out; omega) ho hg
  have cq2 : W2.cell? ⟨q, 24, none⟩ = some fv := (World.cell?_of_block (a := ⟨q, 24, none⟩) (hg.block q hT.lt fun e => hT.nfq.1 e.symm)).trans cf
  have cq3 : ∀ i, W2.frozen? ⟨q, i, none⟩ = false := ((HT.out.blk.of (hg.block q hT.lt fun e => hT.nfq.1 e.symm)) : Blk 50 W2 q 27 _).fr
  have HFIN := Lib.hid hfin
  have HLOC := Lib.hid hloc
  obtain ⟨fa, fc, hfe, _, _⟩ := hT.fo.slice
  have HFE := Lib.hid hfe
  rw [hfe] at cf cfn hrun cq2
  clear hW hbw hkw hT ho hg hfin hloc hcp hfe
  go_wp2_with (at_builtin; refine wpList_append_run rfl (.tmp 22) (.tmp 24) 47 rfl rfl rfl rfl hrun ?_)
  refine bodyPost_end (v := .tuple #[]) (by simp [results, Try.results20, go_sem]) rfl ?_
  rw [HQ.out]
  refine ⟨rfl, ⟨_, _, HFIN.out.1, fun j hj => ?_⟩, ?_⟩
  · rcases HLOC.out with e | ⟨b', e, hb'⟩
    · exact .inl (by rw [← e]; exact hj)
    · rw [e] at hj; cases hj; exact .inr (by have := HKW.out.size; omega)
  · exact (KQ.of_below HKW.out).trans HFIN.out.2 (fun j e => .inl e) (fun j e => .inl e)
end Go.Proofs.Ytlahpnigabfenaa.Th
