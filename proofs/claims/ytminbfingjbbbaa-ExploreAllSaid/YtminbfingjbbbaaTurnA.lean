/- Layer 36: turns as rows of pairs (a thread, how many); rows of numbers. -/
import Derived.Test.YtminbfingjbbbaaPairA
import Derived.Test.YtminbfingjbbbaaMix
import Derived.Test.YtminbfingjbbbaaFrame
import Derived.Laws.AppendOwn
import Derived.Laws.AppendOwnNone
import Derived.OwnWalk
import Derived.Lib.LazyBuf
namespace Go.Proofs.Ytminbfingjbbbaa
open Go.RowKit
set_option linter.unusedVariables false
set_option linter.unusedSimpArgs false

theorem addP (g o j : Nat) : ((⟨g, o, none⟩ : Addr).add j) = ⟨g, o + j, none⟩ := by simp only [Addr.add]; split <;> simp_all
theorem PR.mkrow {w : World} {g o n c : Nat} {l : PL} (hn : n = l.length) (hc : n ≤ c) (hm : c ≤ 9223372036854775807) (h : ∀ i, i < l.length → w.cell? ⟨g, o + i * 2, none⟩ = some (.int .i64 (ky l i)) ∧ w.cell? ⟨g, o + i * 2 + 1, none⟩ = some (.int .i64 (vl l i))) : PR w (.slice (some ⟨g, o, none⟩) n c) l := by
  subst hn; exact .row g o c l hc hm h
theorem PR_of {w : World} {g o c n : Nat} (hc : n ≤ c) (hm : c ≤ 9223372036854775807) (f : Nat → Int × Int) (h : ∀ i, i < n → w.cell? ⟨g, o + i * 2, none⟩ = some (.int .i64 (f i).1) ∧ w.cell? ⟨g, o + i * 2 + 1, none⟩ = some (.int .i64 (f i).2)) : PR w (.slice (some ⟨g, o, none⟩) n c) ((List.range n).map f) := by
  refine .mkrow (by simp) hc hm fun i hi => ?_
  simp at hi
  have e1 : ky ((List.range n).map f) i = (f i).1 := by simp [ky, List.getD_eq_getElem?_getD, List.getElem?_map, List.getElem?_range hi]
  have e2 : vl ((List.range n).map f) i = (f i).2 := by simp [vl, List.getD_eq_getElem?_getD, List.getElem?_map, List.getElem?_range hi]
  rw [e1, e2]; exact h i hi
abbrev pairSh : List Fr.Sh := [.int .i64, .int .i64]
theorem pair_cells {w : World} {cs : List Value} (h : Fr.Sh.oks w pairSh cs) : ∃ k x : Int, cs = [.int .i64 k, .int .i64 x] := by
  obtain ⟨_, _, rfl, k0, h⟩ := Fr.get_cons h
  obtain ⟨_, _, rfl, k1, h⟩ := Fr.get_cons h
  obtain rfl := Fr.get_nil h
  obtain ⟨k, rfl, _⟩ := Fr.get_int k0
  obtain ⟨x, rfl, _⟩ := Fr.get_int k1
  exact ⟨k, x, rfl⟩
theorem pairs_open {w : World} {v : Value} (h : Fr.ok1 w (.slice pairSh) v) : ∃ l, PR w v l := by
  rcases Fr.get_slice h with rfl | ⟨a, len, cap, rfl, h1, h2, h3⟩
  · exact ⟨[], .nil⟩
  · rcases (by omega : len = 0 ∨ 0 < len) with rfl | h0
    · exact ⟨[], .odd a cap h2⟩
    · obtain ⟨cs0, h5, h6⟩ := h3 0 (by omega)
      obtain ⟨k, x, rfl⟩ := pair_cells h6
      have hs : a.spot = none := by
        have h7 := (World.cells?_some h5).2.2 0 (by decide)
        exact World.cell?_spot (by simpa [Addr.add] using h7)
      obtain ⟨g, off, spot⟩ := a
      simp only at hs
      subst hs
      have hall : ∀ i, ∃ p : Int × Int, i < len → w.cell? ⟨g, off + i * 2, none⟩ = some (.int .i64 p.1) ∧ w.cell? ⟨g, off + i * 2 + 1, none⟩ = some (.int .i64 p.2) := by
        intro i
        by_cases hi : i < len
        · obtain ⟨cs, h5, h6⟩ := h3 i (by omega)
          obtain ⟨k, x, rfl⟩ := pair_cells h6
          obtain ⟨_, _, h7⟩ := World.cells?_some h5
          have e : ((⟨g, off, none⟩ : Addr).add (i * pairSh.length)) = ⟨g, off + i * 2, none⟩ := addP _ _ _
          rw [e] at h7
          refine ⟨(k, x), fun _ => ⟨?_, ?_⟩⟩
          · simpa [Addr.add] using h7 0 (by decide)
          · simpa [Addr.add] using h7 1 (by decide)
        · exact ⟨(0, 0), fun h => absurd h hi⟩
      obtain ⟨f, hf⟩ := Classical.axiomOfChoice hall
      exact ⟨_, PR_of h1 h2 f hf⟩

/-! ### Rows of numbers -/
def icells (xs : List Int) : List Value := xs.map fun x => .int .i64 x
theorem icells_len (xs : List Int) : (icells xs).length = xs.length := by simp [icells]
theorem icells_app (a b : List Int) : icells (a ++ b) = icells a ++ icells b := by simp [icells]
theorem infoInt : (Try.prog.info? 3).map (fun i => (i.zero, i.size, i.bytes)) = some (some (.int .i64 0), 1, 8) := by kernel_rfl
abbrev OwnI (w : World) (B : Nat) (v : Value) (xs : List Int) : Prop := w.ownsRow B 3 1 v xs.length (icells xs)
theorem ownI_nil (w : World) (B : Nat) : OwnI w B (.slice none 0 0) [] := ⟨rfl, .inl ⟨rfl, rfl⟩⟩
theorem own_ge {w : World} {B : Nat} {e : TypeId} {size : Nat} {v : Value} {n : Nat} {xs : List Value} (h : w.ownsRow B e size v n xs) : ∀ k, v.ownBlock = some k → B ≤ k := by
  intro k hk
  rcases h.2 with ⟨rfl, _⟩ | ⟨g, cap, cur, rfl, hg, _⟩
  · cases hk
  · simp only [Value.ownBlock, Option.some.injEq] at hk; omega
theorem growI {W w0 w1 : World} {B : Nat} {e : TypeId} {size n : Nat} {v : Value} {l : List Value} (hown : w0.ownsRow B e size v n l) (hbel : Below B W w0) (hB : B ≤ W.heap.size) (hg : w0.grownBy w1 v.ownBlock) : Below B W w1 :=
  hbel.grown hg (by have := hbel.size; omega) (own_ge hown)
/-- A slice of numbers that is read. -/
inductive IR (w : World) : Value → List Int → Prop
  | nil : IR w (.slice none 0 0) []
  | row (g c : Nat) (xs : List Int) : xs.length ≤ c → c ≤ 9223372036854775807 → (∀ i, i < xs.length → w.cell? ⟨g, i, none⟩ = some (.int .i64 (xs.getD i 0))) → IR w (.slice (some ⟨g, 0, none⟩) xs.length c) xs
theorem ownI_IR {w : World} {B : Nat} {v : Value} {xs : List Int} (h : OwnI w B v xs) : IR w v xs := by
  rcases h.2 with ⟨rfl, h0⟩ | ⟨g, cap, cur, hv, hg, hh, hc, hm, hs, ht⟩
  · have e : xs = [] := List.eq_nil_of_length_eq_zero h0
    subst e; exact .nil
  · subst hv
    refine .row g cap xs hc hm fun i hi => ?_
    have h1 : (icells xs)[i]? = some (.int .i64 (xs.getD i 0)) := by simp [icells, List.getD_eq_getElem?_getD, List.getElem?_eq_getElem hi]
    rw [← ht, List.getElem?_take_of_lt (by omega)] at h1
    rw [cell_of_row _ g _ _ _ (0, 0) hh]; simpa using h1
theorem IR.below {w w' : World} {v : Value} {xs : List Int} (h : IR w v xs) (k : Below w.heap.size w w') : IR w' v xs := by
  cases h with
  | nil => exact .nil
  | row g c _ h1 h2 h3 => exact .row g c xs h1 h2 fun i hi => Ext.cell ⟨w', k⟩ (h3 i hi)
theorem IR.parts {w : World} {v : Value} {xs : List Int} (h : IR w v xs) : ∃ p c, v = .slice p xs.length c ∧ xs.length ≤ c ∧ c ≤ 9223372036854775807 ∧ Hid (∀ i, i < xs.length → ∃ g, p = some ⟨g, 0, none⟩ ∧ w.cell? ⟨g, i, none⟩ = some (.int .i64 (xs.getD i 0))) := by
  cases h with
  | nil => exact ⟨_, _, rfl, Nat.le_refl _, by decide, fun i hi => by simp at hi⟩
  | row g c _ h1 h2 h3 => exact ⟨_, _, rfl, h1, h2, fun i hi => ⟨g, rfl, h3 i hi⟩⟩

theorem blk_grown {w w1 : World} {B n : Nat} {v : Value} {xs : List Value} {g : Nat} {cs : Array Value} {T : TypeId} {o : Obj} (hb : w.heap[g]? = some (.cells cs T (0, 0))) (hown : (w.alloc o).ownsRow B 3 1 v n xs) (hg : (w.alloc o).grownBy w1 v.ownBlock) (hT : T ≠ 3) : w1.heap[g]? = some (.cells cs T (0, 0)) := by
  have hlt : g < w.heap.size := by
    rcases Nat.lt_or_ge g w.heap.size with h | h
    · exact h
    · rw [Array.getElem?_eq_none h] at hb; cases hb
  have ha : (w.alloc o).heap[g]? = some (.cells cs T (0, 0)) := (Below.heap_alloc w o g hlt).trans hb
  refine (hg.block g (by simp; omega) ?_).trans ha
  rcases hown.2 with ⟨rfl, _⟩ | ⟨g', cap, cur, rfl, _, hh, _⟩
  · simp [Value.ownBlock]
  · intro he
    have : g = g' := by simpa [Value.ownBlock] using he
    subst this
    rw [ha] at hh
    injection hh with hh
    injection hh with _ h2
    exact hT h2
/-! ### Picks -/
def manyN (m : Int) : Nat := (min (max m 0) 1000).toNat
def picksL (l : PL) : List Int := l.flatMap fun t => List.replicate (manyN t.2) t.1
theorem picks_app (a b : PL) : picksL (a ++ b) = picksL a ++ picksL b := by simp [picksL]
theorem picks_one (k v : Int) : picksL [(k, v)] = List.replicate (manyN v) k := by simp [picksL]
theorem picks_take {l : PL} {i : Nat} (h : i < l.length) : picksL (l.take (i + 1)) = picksL (l.take i) ++ List.replicate (manyN (vl l i)) (ky l i) := by
  rw [take_one h, picks_app, picks_one]
theorem manyN_le (m : Int) : manyN m ≤ 1000 := by unfold manyN; omega
theorem picks_len : ∀ l : PL, (picksL l).length ≤ l.length * 1000
  | [] => by simp [picksL]
  | p :: l => by
    have := picks_len l
    have h1 := manyN_le p.2
    have e : picksL (p :: l) = List.replicate (manyN p.2) p.1 ++ picksL l := by simp [picksL]
    rw [e, List.length_append, List.length_replicate, List.length_cons]; omega
theorem picks_get {l : PL} {i k : Nat} (h : i < l.length) (hk : k < manyN (vl l i)) : (picksL l).getD ((picksL (l.take i)).length + k) 0 = ky l i ∧ (picksL (l.take i)).length + k < (picksL l).length := by
  have e : picksL l = picksL (l.take i) ++ (List.replicate (manyN (vl l i)) (ky l i) ++ picksL (l.drop (i + 1))) := by
    have h1 : l = l.take i ++ ([(ky l i, vl l i)] ++ l.drop (i + 1)) := by
      rw [List.singleton_append, ← drop_one h, List.take_append_drop]
    conv => lhs; rw [h1]
    rw [picks_app, picks_app, picks_one]
  constructor
  · rw [e, List.getD_eq_getElem?_getD, List.getElem?_append_right (by omega), Nat.add_sub_cancel_left, List.getElem?_append_left (by simpa using hk)]
    simp [List.getElem?_replicate, hk]
  · rw [e, List.length_append, List.length_append, List.length_replicate]; omega
theorem rep_snoc (l : List Int) (k : Nat) (x : Int) : l ++ List.replicate (k + 1) x = l ++ List.replicate k x ++ [x] := by
  rw [List.replicate_succ', List.append_assoc]

end Go.Proofs.Ytminbfingjbbbaa
