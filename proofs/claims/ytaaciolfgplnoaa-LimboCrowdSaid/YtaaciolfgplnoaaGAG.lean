/- GAG: several texts in one. -/
import Derived.Test.YtaaciolfgplnoaaGAF
import Derived.Test.YtaaciolfgplnoaaGAD
import Derived.WalkKit
import Derived.Test.YtaaciolfgplnoaaGAA
import Derived.Test.YtaaciolfgplnoaaRows
import Derived.ProofKit
import Derived.Outline
import Derived.Lib.Hide
import Derived.Deep.Cut
import Derived.BigQuiet
import Derived.Test.YtaaciolfgplnoaaGAE
import Derived.Laws.AppendOwn
import Derived.Laws.AppendOwnNone
import Derived.OwnWalk
import Derived.Lib.LazyBuf
import Derived.Laws.IdiomCopy
import Derived.Deep.MidRow
import Derived.Maps.AppendAt
/- Layer 7: the calls that came in, as rows. -/
namespace Go.Proofs.Ytaaciolfgplnoaa.Gd
open Go.RowKit Go.Maps WordM EdgeM
set_option linter.unusedVariables false
set_option linter.unusedSimpArgs false
/-- A call's cells. -/
def Op7 (w : World) (g off : Nat) (k a e : Int) : Prop :=
  w.cell? ⟨g, off, none⟩ = some (.int .i64 k) ∧ w.cell? ⟨g, off + 1, none⟩ = some (.int .i64 a) ∧ w.cell? ⟨g, off + 2, none⟩ = some (.int .u64 e) ∧ 0 ≤ e ∧ e < 18446744073709551616
theorem Op7.below {w w' : World} {g off : Nat} {k a e : Int} (h : Op7 w g off k a e) (hb : Below w.heap.size w w') : Op7 w' g off k a e := by
  obtain ⟨h0, h1, h2, r⟩ := h
  exact ⟨Ext.use (Ext.cells h0) hb, Ext.use (Ext.cells h1) hb, Ext.use (Ext.cells h2) hb, r⟩
theorem Op7.lt {w : World} {g off : Nat} {k a e : Int} (h : Op7 w g off k a e) : g < w.heap.size := World.block_lt_of_cell? w ⟨g, off, none⟩ h.1
theorem gnew_yes (n : Nat) (w : World) (h0 : 0 < n) (h1 : n ≤ 250) : Calls Try.prog 27 #[.int .i64 n] w fun e w' => ∃ q g m, e = .returned (.pointer (some ⟨q, 0, none⟩)) ∧ w.heap.size ≤ q ∧ w.heap.size ≤ g ∧ w.heap.size ≤ m ∧ GA w' q g m n (fun _ => false) (fun _ => 0) 0 ∧ Below w.heap.size w w' :=
  (gnew n w).mono fun e w' ⟨hB, hh⟩ => by
    rcases hh with ⟨h2, _⟩ | ⟨_, _, q, g, m, he, hq, hg, hm, h⟩
    · exact absurd ⟨by omega, by omega⟩ h2
    · exact ⟨q, g, m, he, hq, hg, hm, by simpa using h, hB⟩
end Go.Proofs.Ytaaciolfgplnoaa.Gd

/- Rows of pairs: the mathematics. Nothing of the program. -/
namespace Go.Proofs.Ytaaciolfgplnoaa.Th
set_option linter.unusedVariables false
set_option linter.unusedSimpArgs false

abbrev PL := List (Int × Int)
def ky (l : PL) (i : Nat) : Int := (l.getD i (0, 0)).1
def vl (l : PL) (i : Nat) : Int := (l.getD i (0, 0)).2
theorem ky_drop (l : PL) (k i : Nat) : ky (l.drop k) i = ky l (k + i) := by simp [ky, List.getD_eq_getElem?_getD, List.getElem?_drop]
theorem vl_drop (l : PL) (k i : Nat) : vl (l.drop k) i = vl l (k + i) := by simp [vl, List.getD_eq_getElem?_getD, List.getElem?_drop]
theorem ky_take {l : PL} {k i : Nat} (h : i < k) : ky (l.take k) i = ky l i := by simp [ky, List.getD_eq_getElem?_getD, List.getElem?_take_of_lt h]
theorem vl_take {l : PL} {k i : Nat} (h : i < k) : vl (l.take k) i = vl l i := by simp [vl, List.getD_eq_getElem?_getD, List.getElem?_take_of_lt h]
/-- The cells of a row. -/
def pcells (l : PL) : List Value := l.flatMap fun p => [.int .i64 p.1, .int .i64 p.2]
end Go.Proofs.Ytaaciolfgplnoaa.Th

/- Layer 8's contracts, those that only read: rises, the same, where a key stands. -/
namespace Go.Proofs.Ytaaciolfgplnoaa.Th
open Go.RowKit
set_option linter.unusedVariables false
set_option linter.unusedSimpArgs false

theorem Calls.veil {P : Program} {f : FuncId} {args : Array Value} {w : World} {R : Ending → World → Prop} (h : ∀ Q : Ending → World → Prop, Hid (Q = R) → Calls P f args w Q) : Calls P f args w R := h R rfl

theorem ret_int {k : IntKind} {a b : Int} (h : a = b) : Ending.returned (.int k a) = .returned (.int k b) := by rw [h]
/-- A slice of pairs. -/
inductive PR (w : World) : Value → PL → Prop
  | nil : PR w (.slice none 0 0) []
  | odd (a : Addr) (c : Nat) : c ≤ 9223372036854775807 → PR w (.slice (some a) 0 c) []
  | row (g o c : Nat) (l : PL) : l.length ≤ c → c ≤ 9223372036854775807 → (∀ i, i < l.length → w.cell? ⟨g, o + i * 2, none⟩ = some (.int .i64 (ky l i)) ∧ w.cell? ⟨g, o + i * 2 + 1, none⟩ = some (.int .i64 (vl l i))) → PR w (.slice (some ⟨g, o, none⟩) l.length c) l
theorem PR.below {w w' : World} {v : Value} {l : PL} (h : PR w v l) (k : Below w.heap.size w w') : PR w' v l := by
  cases h with
  | nil => exact .nil
  | odd a c h1 => exact .odd a c h1
  | row g o c l h1 h2 h3 => exact .row g o c l h1 h2 fun i hi => ⟨(Ext.cell ⟨w', k⟩ (h3 i hi).1), (Ext.cell ⟨w', k⟩ (h3 i hi).2)⟩
theorem PR.opened {w : World} {v : Value} {l : PL} (h : PR w v l) (h0 : 0 < l.length) : ∃ g o c, v = .slice (some ⟨g, o, none⟩) l.length c ∧ l.length ≤ c ∧ c ≤ 9223372036854775807 ∧ Hid (∀ i, i < l.length → w.cell? ⟨g, o + i * 2, none⟩ = some (.int .i64 (ky l i)) ∧ w.cell? ⟨g, o + i * 2 + 1, none⟩ = some (.int .i64 (vl l i))) := by
  cases h with
  | nil => simp at h0
  | odd a c _ => simp at h0
  | row g o c _ h1 h2 h3 => exact ⟨g, o, c, rfl, h1, h2, h3⟩
theorem PR.slice {w : World} {v : Value} {l : PL} (h : PR w v l) : ∃ p c, v = .slice p l.length c ∧ l.length ≤ c ∧ c ≤ 9223372036854775807 := by
  cases h with
  | nil => exact ⟨_, _, rfl, Nat.le_refl _, by decide⟩
  | odd a c h1 => exact ⟨_, _, rfl, by simp, h1⟩
  | row g o c _ h1 h2 h3 => exact ⟨_, _, rfl, h1, h2⟩
theorem PR.parts {w : World} {v : Value} {l : PL} (h : PR w v l) : ∃ p c, v = .slice p l.length c ∧ l.length ≤ c ∧ c ≤ 9223372036854775807 ∧ Hid (∀ i, i < l.length → ∃ g o, p = some ⟨g, o, none⟩ ∧ w.cell? ⟨g, o + i * 2, none⟩ = some (.int .i64 (ky l i)) ∧ w.cell? ⟨g, o + i * 2 + 1, none⟩ = some (.int .i64 (vl l i))) := by
  cases h with
  | nil => exact ⟨_, _, rfl, Nat.le_refl _, by decide, fun i hi => by simp at hi⟩
  | odd a c h1 => exact ⟨_, _, rfl, by simp, h1, fun i hi => by simp at hi⟩
  | row g o c _ h1 h2 h3 => exact ⟨_, _, rfl, h1, h2, fun i hi => ⟨g, o, rfl, h3 i hi⟩⟩
theorem scO {w : World} {a b : Addr} {v u : Value} (k : w.cell? b = some u) (h : a ≠ b) : (w.setCell a v).cell? b = some u := (World.cell?_setCell_other w a b v h).trans k
theorem scS {w : World} {a : Addr} {v u : Value} (h : w.cell? a = some u) : (w.setCell a v).cell? a = some v := World.cell?_setCell_same w a v h
theorem scF {w : World} {a b : Addr} {v : Value} (h : w.frozen? b = false) : (w.setCell a v).frozen? b = false := (World.frozen?_setCell w a b v).trans h
/-- A variable of the type of a pair. -/
structure Cell2 (w : World) (b : Nat) (x y : Int) : Prop where
  c0 : w.cell? ⟨b, 0, none⟩ = some (.int .i64 x)
  c1 : w.cell? ⟨b, 1, none⟩ = some (.int .i64 y)
  f : ∀ i, w.frozen? ⟨b, i, none⟩ = false
theorem Cell2.new (w : World) (x y : Int) (T : TypeId) : Cell2 (w.alloc (.cells #[.int .i64 x, .int .i64 y] T)) w.heap.size x y :=
  ⟨Ext.made_in rfl (Below.refl _ _) 0 _ rfl, Ext.made_in rfl (Below.refl _ _) 1 _ rfl, Ext.made_fr rfl (Below.refl _ _)⟩
theorem Cell2.below {w w' : World} {b : Nat} {x y : Int} (h : Cell2 w b x y) (k : Below w.heap.size w w') : Cell2 w' b x y :=
  ⟨Ext.cell ⟨w', k⟩ h.c0, Ext.cell ⟨w', k⟩ h.c1, fun i => (k.frozen (p := ⟨b, i, none⟩) (World.block_lt_of_cell? w ⟨b, 0, none⟩ h.c0)).trans (h.f i)⟩
theorem Cell2.put {w : World} {b : Nat} {x y : Int} (h : Cell2 w b x y) (X Y : Int) : Cell2 ((w.setCell ⟨b, 0, none⟩ (.int .i64 X)).setCell ⟨b, 1, none⟩ (.int .i64 Y)) b X Y :=
  ⟨scO (scS h.c0) (by simp), scS (scO h.c1 (by simp)), fun i => scF (scF (h.f i))⟩
theorem Cell2.other {w : World} {b c i : Nat} {x y : Int} {v : Value} (h : Cell2 w b x y) (hb : c ≠ b) : Cell2 (w.setCell ⟨c, i, none⟩ v) b x y :=
  ⟨scO h.c0 (by simp [hb]), scO h.c1 (by simp [hb]), fun i => scF (h.f i)⟩
theorem PR.other {w : World} {b i : Nat} {v u : Value} {l : PL} (h : PR w v l) (B : Nat) (hB : B ≤ b) (hl : ∀ g o c, v = .slice (some ⟨g, o, none⟩) l.length c → 0 < l.length → g < B) : PR (w.setCell ⟨b, i, none⟩ u) v l := by
  cases h with
  | nil => exact .nil
  | odd a c h1 => exact .odd a c h1
  | row g o c _ h1 h2 h3 =>
    refine .row g o c l h1 h2 fun i hi => ?_
    have := hl g o c rfl (by omega)
    exact ⟨scO (h3 i hi).1 (by intro e; injection e; omega), scO (h3 i hi).2 (by intro e; injection e; omega)⟩
theorem PR.alloc {w : World} {v : Value} {l : PL} (h : PR w v l) (o : Obj) : PR (w.alloc o) v l := h.below (by (repeat (first | exact Below.refl _ _ | assumption | refine below_new ?_ _ | refine Below.drew ?_ | refine below_drewN ?_ _ | refine below_on ?_ (by assumption))))


end Go.Proofs.Ytaaciolfgplnoaa.Th

/- Layer 8's contracts that only read, further. -/
namespace Go.Proofs.Ytaaciolfgplnoaa.Th
open Go.RowKit
set_option linter.unusedVariables false
set_option linter.unusedSimpArgs false



end Go.Proofs.Ytaaciolfgplnoaa.Th

/- Layer 8's contracts: the reference's At; floor and ceiling. -/
namespace Go.Proofs.Ytaaciolfgplnoaa.Th
open Go.RowKit
set_option linter.unusedVariables false
set_option linter.unusedSimpArgs false

end Go.Proofs.Ytaaciolfgplnoaa.Th

/- Layer 8's contracts that make rows. -/
namespace Go.Proofs.Ytaaciolfgplnoaa.Th
open Go.RowKit
set_option linter.unusedVariables false
set_option linter.unusedSimpArgs false

abbrev OwnP (w : World) (B : Nat) (v : Value) (l : PL) : Prop := w.ownsRow B 166 2 v l.length (pcells l)
theorem own_none (w : World) : OwnP (w.alloc (.cells #[] 166)) w.heap.size (.slice (some ⟨w.heap.size, 0, none⟩) 0 0) [] :=
  ⟨rfl, .inr ⟨_, 0, _, rfl, Nat.le_refl _, heap_alloc_new w _, Nat.le_refl _, by decide, rfl, rfl⟩⟩
theorem own_nil (w : World) (B : Nat) : OwnP w B (.slice none 0 0) [] := ⟨rfl, .inl ⟨rfl, rfl⟩⟩
theorem own_ge {w : World} {B : Nat} {e : TypeId} {size : Nat} {v : Value} {n : Nat} {xs : List Value} (h : w.ownsRow B e size v n xs) : ∀ k, v.ownBlock = some k → B ≤ k := by
  intro k hk
  rcases h.2 with ⟨rfl, _⟩ | ⟨g, cap, cur, rfl, hg, _⟩
  · cases hk
  · simp only [Value.ownBlock, Option.some.injEq] at hk; omega
theorem grow_step {W w0 w1 : World} {B : Nat} {v : Value} {l : PL} (hown : OwnP w0 B v l) (hbel : Below B W w0) (hB : B ≤ W.heap.size) (hg : w0.grownBy w1 v.ownBlock) : Below B W w1 :=
  hbel.grown hg (by have := hbel.size; omega) (own_ge hown)
theorem addP (g o j : Nat) : ((⟨g, o, none⟩ : Addr).add j) = ⟨g, o + j, none⟩ := by simp only [Addr.add]; split <;> simp_all
theorem PR.cast {w : World} {p : Option Addr} {n m c : Nat} {l : PL} (h : PR w (.slice p n c) l) (e : n = m) : PR w (.slice p m c) l := by subst e; exact h
theorem PR.mkrow {w : World} {g o n c : Nat} {l : PL} (hn : n = l.length) (hc : n ≤ c) (hm : c ≤ 9223372036854775807) (h : ∀ i, i < l.length → w.cell? ⟨g, o + i * 2, none⟩ = some (.int .i64 (ky l i)) ∧ w.cell? ⟨g, o + i * 2 + 1, none⟩ = some (.int .i64 (vl l i))) : PR w (.slice (some ⟨g, o, none⟩) n c) l := by
  subst hn; exact .row g o c l hc hm h
theorem PR.take {w : World} {g o c : Nat} {l : PL} (h : PR w (.slice (some ⟨g, o, none⟩) l.length c) l) {r : Nat} (hr : r ≤ l.length) : PR w (.slice (some ⟨g, o, none⟩) r c) (l.take r) := by
  obtain ⟨p, c', e, h1, h2, h3⟩ := h.parts
  injection e with e1 _ e2
  subst e2
  refine .mkrow (by simp; omega) (by omega) h2 fun i hi => ?_
  simp at hi
  obtain ⟨g', o', e3, c0, c1⟩ := h3.out i (by omega)
  rw [← e1] at e3
  injection e3 with e3
  injection e3 with e4 e5 _
  subst e4; subst e5
  rw [ky_take (by omega), vl_take (by omega)]
  exact ⟨c0, c1⟩
theorem PR.drop {w : World} {g o c : Nat} {l : PL} (h : PR w (.slice (some ⟨g, o, none⟩) l.length c) l) {r : Nat} (hr : r ≤ l.length) : PR w (.slice (some ⟨g, o + r * 2, none⟩) (l.length - r) (c - r)) (l.drop r) := by
  obtain ⟨p, c', e, h1, h2, h3⟩ := h.parts
  injection e with e1 _ e2
  subst e2
  refine .mkrow (by simp) (by omega) (by omega) fun i hi => ?_
  simp at hi
  obtain ⟨g', o', e3, c0, c1⟩ := h3.out (r + i) (by omega)
  rw [← e1] at e3
  injection e3 with e3
  injection e3 with e4 e5 _
  subst e4; subst e5
  rw [ky_drop, vl_drop, show o + r * 2 + i * 2 = o + (r + i) * 2 by omega]
  exact ⟨c0, c1⟩
end Go.Proofs.Ytaaciolfgplnoaa.Th

/- Layer 8's contracts that make rows, further. -/
namespace Go.Proofs.Ytaaciolfgplnoaa.Th
open Go.RowKit
set_option linter.unusedVariables false
set_option linter.unusedSimpArgs false

end Go.Proofs.Ytaaciolfgplnoaa.Th

/- Rows of pairs that stay; a row of cells in a block of its own. -/
namespace Go.Proofs.Ytaaciolfgplnoaa.Th
open Go.RowKit
set_option linter.unusedVariables false
set_option linter.unusedSimpArgs false
/-- Of what was there each row of pairs is as it was. -/
structure NP (w w' : World) : Prop where
  size : w.heap.size ≤ w'.heap.size
  keep : ∀ (k : Nat) (cur : Array Value), w.heap[k]? = some (.cells cur 166 (0, 0)) → w'.heap[k]? = some (.cells cur 166 (0, 0))
theorem NP.refl (w : World) : NP w w := ⟨Nat.le_refl _, fun _ _ h => h⟩
theorem NP.trans {a b c : World} (h : NP a b) (k : NP b c) : NP a c := ⟨Nat.le_trans h.size k.size, fun i cur hi => k.keep i cur (h.keep i cur hi)⟩
theorem NP.below {a b : World} (h : Below a.heap.size a b) : NP a b := ⟨h.size, fun k cur hk => by rw [h.block k (Array.getElem?_eq_some_iff.1 hk).1]; exact hk⟩
theorem NP.set {a : World} {b i : Nat} {cur : Array Value} {T : TypeId} {fr : Nat × Nat} (v : Value) (h : a.heap[b]? = some (.cells cur T fr)) (hT : T ≠ 166) : NP a (a.setCell ⟨b, i, none⟩ v) :=
  ⟨by simp, fun k cur' hk => by
    rw [Below.heap_setCell _ _ _ _ (by
      intro e
      simp only at e
      subst e
      rw [h] at hk
      simp only [Option.some.injEq, Obj.cells.injEq] at hk
      exact hT hk.2.1)]
    exact hk⟩
/-- A slice of pairs, in a row of pairs of its own. -/
def PO (w : World) (v : Value) (l : PL) : Prop := PR w v l ∧ ∀ a n c, v = .slice (some a) n c → 0 < n → ∃ cur, w.heap[a.block]? = some (.cells cur 166 (0, 0))
theorem PO.np {w w' : World} {v : Value} {l : PL} (h : PO w v l) (k : NP w w') : PO w' v l := by
  refine ⟨?_, fun a n c e h0 => by obtain ⟨cur, hc⟩ := h.2 a n c e h0; exact ⟨cur, k.keep _ _ hc⟩⟩
  have h2 := h.2
  cases h.1 with
  | nil => exact .nil
  | odd a c h1 => exact .odd a c h1
  | row g o c l h1 h3 h4 =>
    refine .row g o c l h1 h3 fun i hi => ?_
    obtain ⟨cur, hc⟩ := h2 _ _ _ rfl (by omega)
    have hk := k.keep _ _ hc
    have e : w'.heap[g]? = w.heap[g]? := by rw [hc]; exact hk
    exact ⟨(World.cell?_of_block (w := w) (a := ⟨g, o + i * 2, none⟩) e).trans (h4 i hi).1, (World.cell?_of_block (w := w) (a := ⟨g, o + i * 2 + 1, none⟩) e).trans (h4 i hi).2⟩
theorem PO.below {w w' : World} {v : Value} {l : PL} (h : PO w v l) (k : Below w.heap.size w w') : PO w' v l := h.np (.below k)
theorem PO.nil (w : World) : PO w (.slice none 0 0) [] := ⟨.nil, fun _ _ _ e => by cases e⟩
/-- A row of cells in a block of its own. -/
def RowF (T : TypeId) (w : World) (g m : Nat) (F : Nat → Value) : Prop := ∃ cur : Array Value, w.heap[g]? = some (.cells cur T (0, 0)) ∧ cur.toList.take m = (List.range m).map F
theorem RowF.get {T : TypeId} {w : World} {g m : Nat} {F : Nat → Value} (h : RowF T w g m F) {j : Nat} (hj : j < m) : w.cell? ⟨g, j, none⟩ = some (F j) := by
  obtain ⟨cur, h1, h2⟩ := h
  have h3 : ((List.range m).map F)[j]? = some (F j) := by simp [List.getElem?_range hj]
  rw [← h2, List.getElem?_take_of_lt hj] at h3
  rw [cell_of_row _ _ _ _ _ (0, 0) h1]; simpa using h3
theorem RowF.set {T : TypeId} {w : World} {g m : Nat} {F : Nat → Value} (h : RowF T w g m F) (k : Nat) (x : Value) : RowF T (w.setCell ⟨g, k, none⟩ x) g m (fun j => if j = k then x else F j) := by
  obtain ⟨cur, h1, h2⟩ := h
  refine ⟨_, heap_setCell_same w g k _ _ _ h1, ?_⟩
  have e : ((List.range m).map F).set k x = (List.range m).map (fun j => if j = k then x else F j) := by
    apply List.ext_getElem?
    intro j
    rw [List.getElem?_set]
    by_cases hj : j < m
    · by_cases e : k = j
      · subst e; simp [hj]
      · rw [if_neg e]; simp [hj, Ne.symm e]
    · simp [hj]; omega
  rw [← e, ← h2]
  simp [List.take_set]
theorem RowF.congr {T : TypeId} {w : World} {g m : Nat} {F G : Nat → Value} (h : RowF T w g m F) (e : ∀ j, j < m → F j = G j) : RowF T w g m G := by
  obtain ⟨cur, h1, h2⟩ := h
  exact ⟨cur, h1, h2.trans (List.map_congr_left fun j hj => e j (List.mem_range.1 hj))⟩
theorem RowF.of {T : TypeId} {w w' : World} {g m : Nat} {F : Nat → Value} (h : RowF T w g m F) (e : w'.heap[g]? = w.heap[g]?) : RowF T w' g m F := by
  obtain ⟨cur, h1, h2⟩ := h
  exact ⟨cur, e.trans h1, h2⟩
theorem RowF.lt {T : TypeId} {w : World} {g m : Nat} {F : Nat → Value} (h : RowF T w g m F) : g < w.heap.size := by
  obtain ⟨cur, h1, h2⟩ := h
  exact (Array.getElem?_eq_some_iff.1 h1).1
theorem RowF.fr {T : TypeId} {w : World} {g m : Nat} {F : Nat → Value} (h : RowF T w g m F) (i : Nat) : w.frozen? ⟨g, i, none⟩ = false := by
  obtain ⟨cur, h1, h2⟩ := h
  exact frozen_of_row _ _ _ _ _ h1
theorem RowF.below {T : TypeId} {w w' : World} {g m : Nat} {F : Nat → Value} (h : RowF T w g m F) (k : Below w.heap.size w w') : RowF T w' g m F := h.of (k.block _ h.lt)
end Go.Proofs.Ytaaciolfgplnoaa.Th

/- Puts, in rows of their own. -/
namespace Go.Proofs.Ytaaciolfgplnoaa.Th
open Go.RowKit
set_option linter.unusedVariables false
set_option linter.unusedSimpArgs false
end Go.Proofs.Ytaaciolfgplnoaa.Th

/- Layer 15: a thread in memory: its block, its frames, its row and its stack. -/
namespace Go.Proofs.Ytaaciolfgplnoaa.Th
open Go.RowKit
set_option linter.unusedVariables false
set_option linter.unusedSimpArgs false
theorem blk_lt {w : World} {b : Nat} {o : Obj} (h : w.heap[b]? = some o) : b < w.heap.size := (Array.getElem?_eq_some_iff.1 h).1
theorem newcell {w : World} {b : Nat} {arr : Array Value} {T : TypeId} (h : w.heap[b]? = some (.cells arr T (0, 0))) (k : Nat) (v : Value) (hk : arr[k]? = some v) : w.cell? ⟨b, k, none⟩ = some v := by
  rw [cell_of_row _ _ _ _ _ (0, 0) h]; exact hk
theorem newfree {w : World} {b : Nat} {arr : Array Value} {T : TypeId} (h : w.heap[b]? = some (.cells arr T (0, 0))) : ∀ i, w.frozen? ⟨b, i, none⟩ = false := fun i => frozen_of_row _ _ _ _ _ h
theorem up {w W : World} (h : Below w.heap.size w W) {b : Nat} {o : Obj} (k : w.heap[b]? = some o) : W.heap[b]? = some o := (h.block _ (blk_lt k)).trans k
theorem heapnewE {w V : World} {o : Obj} (h : w.alloc o = V) : V.heap[w.heap.size]? = some o ∧ Below w.heap.size w V := by
  subst h; exact ⟨heap_alloc_new w o, by (repeat (first | exact Below.refl _ _ | assumption | refine below_new ?_ _ | refine Below.drew ?_ | refine below_drewN ?_ _ | refine below_on ?_ (by assumption)))⟩
/-! ### A block known whole, by a function -/
def upF (F : Nat → Value) (k : Nat) (v : Value) : Nat → Value := fun j => if j = k then v else F j
def putF (F : Nat → Value) (o : Nat) (vs : List Value) : Nat → Value := fun j => if o ≤ j then (vs[j - o]?).getD (F j) else F j
def Blk (T : TypeId) (w : World) (b n : Nat) (F : Nat → Value) : Prop := w.heap[b]? = some (.cells ((List.range n).map F).toArray T (0, 0))
theorem Blk.get {T : TypeId} {w : World} {b n : Nat} {F : Nat → Value} (h : Blk T w b n F) {i : Nat} (hi : i < n) : w.cell? ⟨b, i, none⟩ = some (F i) :=
  newcell h i _ (by simp [List.getElem?_range hi])
theorem Blk.fr {T : TypeId} {w : World} {b n : Nat} {F : Nat → Value} (h : Blk T w b n F) (i : Nat) : w.frozen? ⟨b, i, none⟩ = false := newfree h i
theorem Blk.below {T : TypeId} {w W : World} {b n : Nat} {F : Nat → Value} (h : Blk T w b n F) (k : Below w.heap.size w W) : Blk T W b n F := up k h
theorem Blk.of {T : TypeId} {w W : World} {b n : Nat} {F : Nat → Value} (h : Blk T w b n F) (e : W.heap[b]? = w.heap[b]?) : Blk T W b n F := e.trans h
theorem Blk.congr {T : TypeId} {w : World} {b n : Nat} {F G : Nat → Value} (h : Blk T w b n F) (e : ∀ j, j < n → F j = G j) : Blk T w b n G := by
  unfold Blk; rw [h, List.map_congr_left fun j hj => e j (List.mem_range.1 hj)]
theorem Blk.set {T : TypeId} {w : World} {b n : Nat} {F : Nat → Value} (h : Blk T w b n F) (k : Nat) (v : Value) : Blk T (w.setCell ⟨b, k, none⟩ v) b n (upF F k v) := by
  unfold Blk
  rw [heap_setCell_same w b k _ _ v h]
  congr 2
  apply Array.ext'
  rw [Array.toList_setIfInBounds]
  simp only []
  apply List.ext_getElem?
  intro j
  rw [List.getElem?_set]
  by_cases hj : j < n
  · by_cases e : k = j
    · subst e; simp [upF, hj]
    · rw [if_neg e]; simp [upF, hj, Ne.symm e]
  · simp [hj]; omega
theorem Blk.setCells {T : TypeId} {b n : Nat} : ∀ (vs : List Value) (o : Nat) (w : World) (F : Nat → Value), Blk T w b n F → Blk T (w.setCells b o vs) b n (putF F o vs)
  | [], o, w, F, h => h.congr fun j _ => by unfold putF; simp
  | v :: r, o, w, F, h => by
    rw [World.setCells]
    refine (Blk.setCells r (o + 1) _ _ (h.set o v)).congr fun j _ => ?_
    unfold putF upF
    by_cases h1 : o + 1 ≤ j
    · rw [if_pos h1, if_neg (show ¬ j = o by omega), if_pos (show o ≤ j by omega), show j - o = (j - (o + 1)) + 1 by omega, List.getElem?_cons_succ]
    · rw [if_neg h1]
      by_cases h2 : j = o
      · subst h2; simp
      · rw [if_neg h2, if_neg (by omega)]
theorem heap_setCells_other (b : Nat) : ∀ (vs : List Value) (o : Nat) (w : World) (k : Nat), k ≠ b → (w.setCells b o vs).heap[k]? = w.heap[k]?
  | [], _, _, _, _ => rfl
  | v :: r, o, w, k, h => by rw [World.setCells, heap_setCells_other b r _ _ k h, Below.heap_setCell _ _ _ _ h]
theorem size_setCells (b : Nat) : ∀ (vs : List Value) (o : Nat) (w : World), (w.setCells b o vs).heap.size = w.heap.size
  | [], _, _ => rfl
  | v :: r, o, w => by rw [World.setCells, size_setCells b r]; simp [World.setCell]
theorem os_setCells (b : Nat) : ∀ (vs : List Value) (o : Nat) (w : World), (w.setCells b o vs).os = w.os ∧ (w.setCells b o vs).tape = w.tape ∧ (w.setCells b o vs).output = w.output
  | [], _, _ => ⟨rfl, rfl, rfl⟩
  | v :: r, o, w => by rw [World.setCells]; exact os_setCells b r _ _
theorem Blk.range {T : TypeId} {w : World} {b n : Nat} {F : Nat → Value} (h : Blk T w b n F) (o m : Nat) (hm : o + m ≤ n) : w.rangeAt b o ((List.range m).map fun i => F (o + i)) := fun j v hv => by
  have hj : j < m := by
    have := (List.getElem?_eq_some_iff.1 hv).1
    simpa using this
  rw [List.getElem?_map, List.getElem?_range hj] at hv
  simp only [Option.map_some, Option.some.injEq] at hv
  rw [← hv]; exact h.get (by omega)
theorem Blk.there {T : TypeId} {w : World} {b n : Nat} {F : Nat → Value} (h : Blk T w b n F) (o m : Nat) (hm : o + m ≤ n) : w.there b o m := fun j hj => ⟨by rw [h.get (by omega)]; rfl, h.fr _⟩
theorem Blk.ne {T T' : TypeId} {w : World} {b b' n n' : Nat} {F F' : Nat → Value} (h : Blk T w b n F) (h' : Blk T' w b' n' F') (hT : T ≠ T') : b ≠ b' := by
  intro e; subst e; unfold Blk at h h'; rw [h] at h'; simp only [Option.some.injEq, Obj.cells.injEq] at h'; exact hT h'.2.1
/-! ### Words -/
/-- A slice of words. -/
inductive UR (w : World) : Value → Nat → (Nat → Int) → Prop
  | nil (f) : UR w (.slice none 0 0) 0 f
  | odd (a : Addr) (c : Nat) (f) : c ≤ 9223372036854775807 → UR w (.slice (some a) 0 c) 0 f
  | row (g o n c : Nat) (f) : n ≤ c → c ≤ 9223372036854775807 → (∀ i, i < n → w.cell? ⟨g, o + i, none⟩ = some (.int .u64 (f i))) → UR w (.slice (some ⟨g, o, none⟩) n c) n f
theorem UR.below {w w' : World} {v : Value} {n : Nat} {f : Nat → Int} (h : UR w v n f) (k : Below w.heap.size w w') : UR w' v n f := by
  cases h with
  | nil => exact .nil _
  | odd a c _ h1 => exact .odd a c _ h1
  | row g o _ c _ h1 h2 h3 => exact .row g o n c f h1 h2 fun i hi => Ext.cell ⟨w', k⟩ (h3 i hi)
theorem UR.slice {w : World} {v : Value} {n : Nat} {f : Nat → Int} (h : UR w v n f) : ∃ p c, v = .slice p n c ∧ n ≤ c ∧ c ≤ 9223372036854775807 := by
  cases h with
  | nil => exact ⟨_, _, rfl, Nat.le_refl _, by decide⟩
  | odd a c _ h1 => exact ⟨_, _, rfl, Nat.zero_le _, h1⟩
  | row g o _ c _ h1 h2 h3 => exact ⟨_, _, rfl, h1, h2⟩
def ucells (n : Nat) (f : Nat → Int) : List Value := (List.range n).map fun i => .int .u64 (f i)
theorem ucells_len (n : Nat) (f : Nat → Int) : (ucells n f).length = n := by simp [ucells]
theorem ucells_get {n : Nat} {f : Nat → Int} {i : Nat} (h : i < n) : (ucells n f)[i]? = some (.int .u64 (f i)) := by simp [ucells, List.getElem?_range h]
theorem ucells_one {n : Nat} {f : Nat → Int} : ∀ u ∈ ucells n f, u.oneCell' = true := by
  intro u hu
  simp only [ucells, List.mem_map] at hu
  obtain ⟨_, _, rfl⟩ := hu
  rfl
/-- A list of cells is in a block of its own, with room behind it. -/
def OwnL (T : TypeId) (w : World) (B : Nat) (v : Value) (n : Nat) (xs : List Value) : Prop := w.ownsRow B T 1 v n xs
theorem OwnL.parts {T : TypeId} {w : World} {B : Nat} {v : Value} {n : Nat} {xs : List Value} (h : OwnL T w B v n xs) : (v = .slice none 0 0 ∧ n = 0) ∨ ∃ g c, v = .slice (some ⟨g, 0, none⟩) n c ∧ n ≤ c ∧ c ≤ 9223372036854775807 ∧ B ≤ g ∧ g < w.heap.size ∧ ∃ cur, w.heap[g]? = some (.cells cur T (0, 0)) ∧ cur.toList.take n = xs ∧ (∀ i, w.frozen? ⟨g, i, none⟩ = false) ∧ ∀ i u, i < n → xs[i]? = some u → w.cell? ⟨g, i, none⟩ = some u := by
  rcases h.2 with ⟨rfl, h0⟩ | ⟨g, cap, cur, rfl, hb, hh, h1, h2, h3, h4⟩
  · exact .inl ⟨rfl, h0⟩
  · refine .inr ⟨g, cap, rfl, h1, h2, hb, (Array.getElem?_eq_some_iff.1 hh).1, cur, hh, by simpa using h4, fun i => frozen_of_row _ _ _ _ _ hh, fun i u hi hu => ?_⟩
    rw [← h4, List.getElem?_take_of_lt (by omega)] at hu
    rw [cell_of_row _ g _ _ _ (0, 0) hh]; simpa using hu
theorem OwnL.slice {T : TypeId} {w : World} {B : Nat} {v : Value} {n : Nat} {xs : List Value} (h : OwnL T w B v n xs) : ∃ p c, v = .slice p n c ∧ n ≤ c ∧ c ≤ 9223372036854775807 := by
  rcases h.parts with ⟨rfl, rfl⟩ | ⟨g, c, rfl, h1, h2, _⟩
  · exact ⟨none, 0, rfl, Nat.le_refl _, by decide⟩
  · exact ⟨_, _, rfl, h1, h2⟩
/-- Where its block is as it was, it is. -/
theorem OwnL.of {T : TypeId} {w w' : World} {B : Nat} {v : Value} {n : Nat} {xs : List Value} (h : OwnL T w B v n xs) (k : ∀ b, v.ownBlock = some b → w'.heap[b]? = w.heap[b]?) : OwnL T w' B v n xs := by
  refine ⟨h.1, ?_⟩
  rcases h.2 with hn | ⟨g, cap, cur, rfl, hb, hgg, rest⟩
  · exact .inl hn
  · exact .inr ⟨g, cap, cur, rfl, hb, by rw [k g rfl]; exact hgg, rest⟩
theorem OwnL.blk {T : TypeId} {w : World} {B : Nat} {v : Value} {n : Nat} {xs : List Value} (h : OwnL T w B v n xs) {b : Nat} (hb : v.ownBlock = some b) : B ≤ b ∧ b < w.heap.size ∧ ∃ cur, w.heap[b]? = some (.cells cur T (0, 0)) := by
  rcases h.parts with ⟨rfl, _⟩ | ⟨g, c, rfl, _, _, h3, h4, cur, h5, _⟩
  · cases hb
  · simp only [Value.ownBlock, Option.some.injEq] at hb
    subst hb
    exact ⟨h3, h4, cur, h5⟩
theorem OwnL.below {T : TypeId} {w w' : World} {B : Nat} {v : Value} {n : Nat} {xs : List Value} (h : OwnL T w B v n xs) (k : Below w.heap.size w w') : OwnL T w' B v n xs := h.of fun b hb => k.block b (h.blk hb).2.1
theorem OwnL.nil {T : TypeId} (w : World) (B : Nat) : OwnL T w B (.slice none 0 0) 0 [] := ⟨rfl, .inl ⟨rfl, rfl⟩⟩
/-- Cut to fewer. -/
theorem OwnL.take {T : TypeId} {w : World} {B : Nat} {p : Option Addr} {n c m : Nat} {xs : List Value} (h : OwnL T w B (.slice p n c) n xs) (hm : m ≤ n) (h0 : 0 < n) : OwnL T w B (.slice p m c) m (xs.take m) := by
  rcases h.2 with ⟨hv, h1⟩ | ⟨g, cap, cur, hv, hb, hh, h1, h2, h3, h4⟩
  · omega
  · simp only [Value.slice.injEq, true_and] at hv
    obtain ⟨rfl, rfl⟩ := hv
    refine ⟨?_, .inr ⟨g, c, cur, rfl, hb, hh, by omega, h2, h3, ?_⟩⟩
    · have := h.1; simp only [List.length_take]; omega
    · rw [← h4, List.take_take]; congr 1; omega
theorem uU64 : Try.prog.underlying 43 = some (.slice 22) := by kernel_rfl
theorem infoU64 : (Try.prog.info? 22).map (fun i => (i.zero, i.size, i.bytes)) = some (some (.int .u64 0), 1, 8) := by kernel_rfl
theorem uFrs : Try.prog.underlying 56 = some (.slice 49) := by kernel_rfl
theorem infoFr : (Try.prog.info? 49).map (fun i => (i.zero, i.size, i.bytes)) = some (some (.pointer none), 1, 8) := by kernel_rfl
/-! ### A thread -/
structure Fm where
  fn : Int
  pc : Int
  r : Nat → Int
structure Td where
  ret : Nat → Int
  ss : Nat → Value
  nf : Nat
  fs : Nat → Fm
  row : PL
  ns : Nat
  st : Nat → Int
def frF (f : Fm) : Nat → Value := fun i => if i = 0 then .int .i64 f.fn else if i = 1 then .int .i64 f.pc else .int .u64 (f.r (i - 2))
def thF (T : Td) (fv rv sv : Value) : Nat → Value := fun i => if i < 12 then .int .u64 (T.ret i) else if i < 24 then T.ss (i - 12) else if i = 24 then fv else if i = 25 then rv else sv
def ptrs (p : Nat → Nat) (n : Nat) : List Value := (List.range n).map fun i => .pointer (some ⟨p i, 0, none⟩)
theorem ptrs_get {p : Nat → Nat} {n i : Nat} (h : i < n) : (ptrs p n)[i]? = some (.pointer (some ⟨p i, 0, none⟩)) := by simp [ptrs, List.getElem?_range h]
structure ThA (w : World) (B q : Nat) (T : Td) (p : Nat → Nat) (fv rv sv : Value) : Prop where
  hq : B ≤ q
  blk : Blk 59 w q 27 (thF T fv rv sv)
  fo : OwnL 49 w B fv T.nf (ptrs p T.nf)
  fb : ∀ i, i < T.nf → Blk 48 w (p i) 26 (frF (T.fs i)) ∧ B ≤ p i
  inj : ∀ i j, i < T.nf → j < T.nf → p i = p j → i = j
  rw : PO w rv T.row
  so : OwnL 22 w B sv T.ns (ucells T.ns T.st)
  s1 : ∀ i, i < 12 → (T.ss i).oneCell' = true
/-- All blocks but these three are as they were. -/
structure KQ (w w' : World) (q : Nat) (fv sv : Value) : Prop where
  os : w'.os = w.os
  tape : w'.tape = w.tape
  output : w'.output = w.output
  size : w.heap.size ≤ w'.heap.size
  block : ∀ k, k < w.heap.size → k ≠ q → fv.ownBlock ≠ some k → sv.ownBlock ≠ some k → w'.heap[k]? = w.heap[k]?
theorem KQ.of_below {w w' : World} {q : Nat} {fv sv : Value} (h : Below w.heap.size w w') : KQ w w' q fv sv := ⟨h.os, h.tape, h.output, h.size, fun k hk _ _ _ => h.block k hk⟩
theorem ThA.below {w w' : World} {B q : Nat} {T : Td} {p : Nat → Nat} {fv rv sv : Value} (h : ThA w B q T p fv rv sv) (k : Below w.heap.size w w') : ThA w' B q T p fv rv sv :=
  ⟨h.hq, h.blk.below k, h.fo.below k, fun i hi => ⟨(h.fb i hi).1.below k, (h.fb i hi).2⟩, h.inj, h.rw.below k, h.so.below k, h.s1⟩
theorem ThA.lt {w : World} {B q : Nat} {T : Td} {p : Nat → Nat} {fv rv sv : Value} (h : ThA w B q T p fv rv sv) : q < w.heap.size := blk_lt h.blk
theorem KQ.below {w w' : World} {B q : Nat} {T : Td} {p : Nat → Nat} {fv rv sv : Value} (k : KQ w w' q fv sv) (h : ThA w B q T p fv rv sv) {w0 : World} (h0 : Below w0.heap.size w0 w) (hB : w0.heap.size ≤ B) : Below w0.heap.size w0 w' :=
  ⟨k.os.trans h0.os, k.tape.trans h0.tape, k.output.trans h0.output, Nat.le_trans h0.size k.size, fun j hj => (k.block j (Nat.lt_of_lt_of_le hj h0.size) (by have := h.hq; omega) (fun e => by have := (h.fo.blk e).1; omega) (fun e => by have := (h.so.blk e).1; omega)).trans (h0.block j hj)⟩
/-- Cells of a thread's block. -/
theorem ThA.cf {w : World} {B q : Nat} {T : Td} {p : Nat → Nat} {fv rv sv : Value} (h : ThA w B q T p fv rv sv) : w.cell? ⟨q, 24, none⟩ = some fv := h.blk.get (i := 24) (by omega)
theorem ThA.cs {w : World} {B q : Nat} {T : Td} {p : Nat → Nat} {fv rv sv : Value} (h : ThA w B q T p fv rv sv) : w.cell? ⟨q, 26, none⟩ = some sv := h.blk.get (i := 26) (by omega)
theorem ThA.nfq {w : World} {B q : Nat} {T : Td} {p : Nat → Nat} {fv rv sv : Value} (h : ThA w B q T p fv rv sv) : fv.ownBlock ≠ some q ∧ sv.ownBlock ≠ some q := by
  constructor
  · intro e
    obtain ⟨_, _, cur, hc⟩ := h.fo.blk e
    have h2 := h.blk
    unfold Blk at h2
    rw [hc] at h2
    simp only [Option.some.injEq, Obj.cells.injEq] at h2
    exact absurd h2.2.1 (by decide)
  · intro e
    obtain ⟨_, _, cur, hc⟩ := h.so.blk e
    have h2 := h.blk
    unfold Blk at h2
    rw [hc] at h2
    simp only [Option.some.injEq, Obj.cells.injEq] at h2
    exact absurd h2.2.1 (by decide)
/-- A block of another type is none of a thread's. -/
theorem ThA.apart {w : World} {B q : Nat} {T : Td} {p : Nat → Nat} {fv rv sv : Value} (h : ThA w B q T p fv rv sv) {k : Nat} {cur : Array Value} {ty : TypeId} (hk : w.heap[k]? = some (.cells cur ty (0, 0))) (h1 : ty ≠ 59) (h2 : ty ≠ 49) (h3 : ty ≠ 22) : k ≠ q ∧ fv.ownBlock ≠ some k ∧ sv.ownBlock ≠ some k := by
  refine ⟨?_, ?_, ?_⟩
  · intro e; subst e
    have := h.blk; unfold Blk at this; rw [hk] at this
    simp only [Option.some.injEq, Obj.cells.injEq] at this
    exact h1 this.2.1
  · intro e
    obtain ⟨_, _, c2, hc⟩ := h.fo.blk e
    rw [hk] at hc
    simp only [Option.some.injEq, Obj.cells.injEq] at hc
    exact h2 hc.2.1
  · intro e
    obtain ⟨_, _, c2, hc⟩ := h.so.blk e
    rw [hk] at hc
    simp only [Option.some.injEq, Obj.cells.injEq] at hc
    exact h3 hc.2.1
theorem NP.setCells {w : World} {b o : Nat} {vs : List Value} {cur : Array Value} {T : TypeId} (h : w.heap[b]? = some (.cells cur T (0, 0))) (hT : T ≠ 166) : NP w (w.setCells b o vs) :=
  ⟨by rw [size_setCells]; exact Nat.le_refl _, fun k c hk => by
    by_cases e : k = b
    · subst e; rw [h] at hk; simp only [Option.some.injEq, Obj.cells.injEq] at hk; exact absurd hk.2.1 hT
    · rw [heap_setCells_other b vs o w k e]; exact hk⟩
end Go.Proofs.Ytaaciolfgplnoaa.Th

/- Layer 15: a thread's methods. -/
namespace Go.Proofs.Ytaaciolfgplnoaa.Th
open Go.RowKit
set_option linter.unusedVariables false
set_option linter.unusedSimpArgs false
theorem info_one {T : TypeId} {z : Value} (h : (Try.prog.info? T).map (fun i => (i.zero, i.size, i.bytes)) = some (some z, 1, 8)) : ∃ i0, Try.prog.info? T = some i0 ∧ i0.zero = some z ∧ i0.size = 1 ∧ i0.bytes = 8 := by
  cases hq : Try.prog.info? T with
  | none => rw [hq] at h; cases h
  | some i =>
    rw [hq] at h
    simp only [Option.map_some, Option.some.injEq, Prod.mk.injEq] at h
    exact ⟨i, rfl, h.1, h.2.1, h.2.2⟩
/-- One more at an own list's end. -/
theorem push1 {T SL : TypeId} {z : Value} (uT : Try.prog.underlying SL = some (.slice T)) (iT : (Try.prog.info? T).map (fun i => (i.zero, i.size, i.bytes)) = some (some z, 1, 8)) (hz : z.cells.size = 1)
    {w : World} {B : Nat} {v : Value} {n : Nat} {xs : List Value} (h : OwnL T w B v n xs) (x : Value) (hx : x.oneCell' = true) (hn : n ≤ 1000000) (hB : B ≤ w.heap.size) :
    ∃ p c w', (Builtin.append_ #[SL, SL] SL #[v, .slice (some ⟨w.heap.size, 0, none⟩) 1 1]).run Try.prog (w.alloc (.cells #[x] T)) = .ok (.slice p (n + 1) c) w' ∧ OwnL T w' B (.slice p (n + 1) c) (n + 1) (xs ++ [x]) ∧ w.grownBy w' v.ownBlock ∧ ((Value.slice p (n + 1) c).ownBlock = v.ownBlock ∨ ∃ b, (Value.slice p (n + 1) c).ownBlock = some b ∧ w.heap.size ≤ b) := by
  obtain ⟨i0, hi, hz0, hz1, hz2⟩ := info_one iT
  have ha : OwnL T (w.alloc (.cells #[x] T)) B v n xs := h.below (by (repeat (first | exact Below.refl _ _ | assumption | refine below_new ?_ _ | refine Below.drew ?_ | refine below_drewN ?_ _ | refine below_on ?_ (by assumption))))
  obtain ⟨v', w', hr, h2, h3, _, h5⟩ := run_append_own_at (P := Try.prog) (w.alloc (.cells #[x] T)) B SL SL T i0 z 1 8 uT hi hz0 hz1 hz2 hz (by decide) v n xs ha ⟨w.heap.size, 0, none⟩ 1 1 [x] rfl (cell_one_new w x T) (by simpa using hx) (by unfold maxLen; omega) (by omega) (by simp; omega)
  obtain ⟨p, c, rfl, _, _⟩ := OwnL.slice h2
  refine ⟨p, c, w', hr, h2, ⟨h3.os, h3.tape, h3.output, by have := h3.size; simp at this; omega, fun k hk hne => (h3.block k (by simp; omega) hne).trans (heap_alloc_old w _ hk)⟩, ?_⟩
  rcases h5 with h5 | h5
  · exact .inl h5
  · exact .inr ⟨_, h5, by simp⟩
/-- All blocks but some are as they were. -/
structure KS (X : Nat → Prop) (w w' : World) : Prop where
  os : w'.os = w.os
  tape : w'.tape = w.tape
  output : w'.output = w.output
  size : w.heap.size ≤ w'.heap.size
  block : ∀ k, k < w.heap.size → ¬ X k → w'.heap[k]? = w.heap[k]?
theorem KS.of_below {X : Nat → Prop} {w w' : World} (h : Below w.heap.size w w') : KS X w w' := ⟨h.os, h.tape, h.output, h.size, fun k hk _ => h.block k hk⟩
theorem KS.trans {X : Nat → Prop} {a b c : World} (h : KS X a b) (k : KS X b c) : KS X a c :=
  ⟨k.os.trans h.os, k.tape.trans h.tape, k.output.trans h.output, Nat.le_trans h.size k.size, fun j hj hx => (k.block j (Nat.lt_of_lt_of_le hj h.size) hx).trans (h.block j hj hx)⟩
theorem KS.mono {X Y : Nat → Prop} {a b : World} (h : KS X a b) (k : ∀ j, X j → Y j) : KS Y a b := ⟨h.os, h.tape, h.output, h.size, fun j hj hx => h.block j hj fun e => hx (k j e)⟩
theorem KS.grown {a b : World} {v : Value} (h : a.grownBy b v.ownBlock) : KS (fun k => v.ownBlock = some k) a b := ⟨h.os, h.tape, h.output, h.size, fun j hj hx => h.block j hj fun e => hx e.symm⟩
theorem KS.set (w : World) (q i : Nat) (v : Value) : KS (fun k => k = q) w (w.setCell ⟨q, i, none⟩ v) := ⟨rfl, rfl, rfl, by simp [World.setCell], fun k _ hx => Below.heap_setCell _ _ _ _ hx⟩
theorem KS.setCells (w : World) (q o : Nat) (vs : List Value) : KS (fun k => k = q) w (w.setCells q o vs) := ⟨(os_setCells q vs o w).1, (os_setCells q vs o w).2.1, (os_setCells q vs o w).2.2, by rw [size_setCells]; exact Nat.le_refl _, fun k _ hx => heap_setCells_other q vs o w k hx⟩
theorem KS.kq {w w' : World} {q : Nat} {fv sv : Value} (h : KS (fun k => k = q ∨ fv.ownBlock = some k ∨ sv.ownBlock = some k) w w') : KQ w w' q fv sv := ⟨h.os, h.tape, h.output, h.size, fun k hk a b c => h.block k hk (by rintro (e | e | e) <;> contradiction)⟩
theorem KQ.trans {a b c : World} {q : Nat} {fv sv fv' sv' : Value} (h : KQ a b q fv sv) (k : KQ b c q fv' sv') (hf : ∀ j, fv'.ownBlock = some j → fv.ownBlock = some j ∨ a.heap.size ≤ j) (hs : ∀ j, sv'.ownBlock = some j → sv.ownBlock = some j ∨ a.heap.size ≤ j) : KQ a c q fv sv :=
  ⟨k.os.trans h.os, k.tape.trans h.tape, k.output.trans h.output, Nat.le_trans h.size k.size, fun j hj e1 e2 e3 => (k.block j (Nat.lt_of_lt_of_le hj h.size) e1 (fun e => by rcases hf j e with h | h; exact e2 h; omega) (fun e => by rcases hs j e with h | h; exact e3 h; omega)).trans (h.block j hj e1 e2 e3)⟩
/-- Rows of pairs, frames, words of a thread that are not touched. -/
theorem ThA.np {w w' : World} {B q : Nat} {T : Td} {p : Nat → Nat} {fv rv sv : Value} (h : ThA w B q T p fv rv sv) (k : KQ w w' q fv sv) : NP w w' :=
  ⟨k.size, fun j cur hj => by
    obtain ⟨a, b, c⟩ := h.apart hj (by decide) (by decide) (by decide)
    rw [k.block j (blk_lt hj) a b c]; exact hj⟩
theorem ThA.frm {w w' : World} {B q : Nat} {T : Td} {p : Nat → Nat} {fv rv sv : Value} (h : ThA w B q T p fv rv sv) (k : KQ w w' q fv sv) {i : Nat} (hi : i < T.nf) : Blk 48 w' (p i) 26 (frF (T.fs i)) := by
  have hb := (h.fb i hi).1
  obtain ⟨a, b, c⟩ := h.apart hb (by decide) (by decide) (by decide)
  exact hb.of (k.block _ (blk_lt hb) a b c)
theorem ThA.sep {w : World} {B q : Nat} {T : Td} {p : Nat → Nat} {fv rv sv : Value} (h : ThA w B q T p fv rv sv) {k : Nat} (hf : fv.ownBlock = some k) : sv.ownBlock ≠ some k := by
  intro e
  obtain ⟨_, _, c1, h1⟩ := h.fo.blk hf
  obtain ⟨_, _, c2, h2⟩ := h.so.blk e
  rw [h1] at h2
  simp only [Option.some.injEq, Obj.cells.injEq] at h2
  exact absurd h2.2.1 (by decide)
def upM (f : Nat → Fm) (k : Nat) (x : Fm) : Nat → Fm := fun i => if i = k then x else f i
/-- A frame more: the block of frames has grown, and the thread's is written. -/
theorem ThA.pushF {w w' : World} {B q : Nat} {T : Td} {p : Nat → Nat} {fv rv sv : Value} (h : ThA w B q T p fv rv sv) {b : Nat} {f : Fm} (hb : Blk 48 w b 26 (frF f)) (hB : B ≤ b) (hn : ∀ i, i < T.nf → p i ≠ b) {v' : Value}
    (ho : OwnL 49 w' B v' (T.nf + 1) (ptrs p T.nf ++ [.pointer (some ⟨b, 0, none⟩)])) (hg : w.grownBy w' fv.ownBlock) :
    ThA (w'.setCell ⟨q, 24, none⟩ v') B q { T with nf := T.nf + 1, fs := upM T.fs T.nf f } (fun i => if i = T.nf then b else p i) v' rv sv ∧ KQ w (w'.setCell ⟨q, 24, none⟩ v') q fv sv := by
  have hk : KQ w (w'.setCell ⟨q, 24, none⟩ v') q fv sv := KS.kq (((KS.grown hg).mono fun j e => .inr (.inl e)).trans ((KS.set w' q 24 v').mono fun j e => .inl e))
  have hq1 : Blk 59 w' q 27 (thF T fv rv sv) := h.blk.of (hg.block _ h.lt fun e => h.nfq.1 e.symm)
  have hvq : v'.ownBlock ≠ some q := fun e => by
    obtain ⟨_, _, cur, hc⟩ := ho.blk e
    have := hq1; unfold Blk at this; rw [hc] at this
    simp only [Option.some.injEq, Obj.cells.injEq] at this
    exact absurd this.2.1 (by decide)
  refine ⟨⟨h.hq, (hq1.set 24 v').congr fun j hj => ?_, ?_, fun i hi => ?_, fun i j hi hj e => ?_, h.rw.np (h.np hk), h.so.of fun k hk2 => ?_, h.s1⟩, hk⟩
  · unfold upF thF
    by_cases e : j = 24
    · subst e; simp
    · rw [if_neg e]; simp only [e, if_false]
  · have e : ptrs (fun i => if i = T.nf then b else p i) (T.nf + 1) = ptrs p T.nf ++ [.pointer (some ⟨b, 0, none⟩)] := by
      unfold ptrs
      rw [List.range_succ, List.map_append]
      congr 1
      · exact List.map_congr_left fun i hi => by simp only []; rw [if_neg (by have := List.mem_range.1 hi; omega)]
      · simp
    rw [e]
    exact ho.of fun k hk2 => Below.heap_setCell _ _ _ _ (fun e2 => hvq (by simp only at e2; rw [← e2]; exact hk2))
  · unfold upM
    by_cases e : i = T.nf
    · simp only [e, if_true]
      obtain ⟨a1, a2, a3⟩ := h.apart hb (by decide) (by decide) (by decide)
      exact ⟨hb.of (hk.block _ (blk_lt hb) a1 a2 a3), hB⟩
    · simp only [e, if_false]
      exact ⟨h.frm hk (by simp only at hi; omega), (h.fb i (by simp only at hi; omega)).2⟩
  · simp only at hi hj e
    by_cases e1 : i = T.nf <;> by_cases e2 : j = T.nf
    · omega
    · rw [if_pos e1, if_neg e2] at e; exact absurd e.symm (hn j (by omega))
    · rw [if_neg e1, if_pos e2] at e; exact absurd e (hn i (by omega))
    · rw [if_neg e1, if_neg e2] at e; exact h.inj i j (by omega) (by omega) e
  · have hkl := (h.so.blk hk2).2.1
    rw [Below.heap_setCell _ _ _ _ (fun e => h.nfq.2 (by simp only at e; rw [← e]; exact hk2)), hg.block _ hkl fun e => h.sep e.symm hk2]
/-- A field of the thread's own block is written. -/
theorem ThA.put {w : World} {B q : Nat} {T : Td} {p : Nat → Nat} {fv rv sv : Value} (h : ThA w B q T p fv rv sv) {T' : Td} {fv' rv' sv' : Value} {W : World} (hk : KS (fun k => k = q) w W)
    (hb : Blk 59 W q 27 (thF T' fv' rv' sv')) (hf : OwnL 49 w B fv' T'.nf (ptrs p T'.nf)) (hfo : ∀ i, i < T'.nf → i < T.nf ∧ T'.fs i = T.fs i) (hr : PO w rv' T'.row) (hs : OwnL 22 w B sv' T'.ns (ucells T'.ns T'.st)) (h1 : ∀ i, i < 12 → (T'.ss i).oneCell' = true) :
    ThA W B q T' p fv' rv' sv' ∧ KQ w W q fv sv := by
  have hkq : KQ w W q fv sv := KS.kq (hk.mono fun j e => .inl e)
  have ty : ∀ {k : Nat} {cur : Array Value} {t : TypeId}, w.heap[k]? = some (.cells cur t (0, 0)) → t ≠ 59 → k ≠ q := fun {k cur t} hc ht e => by
    subst e
    have := h.blk; unfold Blk at this; rw [hc] at this
    simp only [Option.some.injEq, Obj.cells.injEq] at this
    exact ht this.2.1
  refine ⟨⟨h.hq, hb, hf.of fun k hk2 => ?_, fun i hi => ?_, fun i j hi hj e => h.inj i j (hfo i hi).1 (hfo j hj).1 e, hr.np (h.np hkq), hs.of fun k hk2 => ?_, h1⟩, hkq⟩
  · obtain ⟨_, hl, cur, hc⟩ := hf.blk hk2
    exact hk.block k hl (ty hc (by decide))
  · rw [(hfo i hi).2]; exact ⟨h.frm hkq (hfo i hi).1, (h.fb i (hfo i hi).1).2⟩
  · obtain ⟨_, hl, cur, hc⟩ := hs.blk hk2
    exact hk.block k hl (ty hc (by decide))
end Go.Proofs.Ytaaciolfgplnoaa.Th
