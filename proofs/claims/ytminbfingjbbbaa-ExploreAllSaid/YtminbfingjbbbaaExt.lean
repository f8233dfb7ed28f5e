/- A region that draws its order, whose loads read memory that was there at its head, and whose callees may make memory but change none of it: one walk of the text's order. -/
import Derived.WalkKit
import Derived.Below
import Derived.Deep.QuietTactic
import Derived.BigQuiet
import Derived.WalkSmall
namespace Go.Proofs.Ytminbfingjbbbaa
open Go.RowKit

/-- A world in which all that W had is as it was. -/
structure Ext (W : World) where
  w : World
  h : Below W.heap.size W w

instance (W : World) : Nonempty (Ext W) := ⟨⟨W, Below.refl _ _⟩⟩

theorem Ext.cell {W : World} (x : Ext W) {b o : Nat} {v : Value} (h : W.cell? ⟨b, o, none⟩ = some v) : x.w.cell? ⟨b, o, none⟩ = some v :=
  (x.h.cell (p := ⟨b, o, none⟩) (World.block_lt_of_cell? W ⟨b, o, none⟩ h)).trans h

/-- The facts of the cells at hand, in every such world. -/
theorem Ext.cells {W : World} {b o : Nat} {v : Value} (h : W.cell? ⟨b, o, none⟩ = some v) : ∀ x : Ext W, x.w.cell? ⟨b, o, none⟩ = some v := fun x => x.cell h

theorem wp_region_ext {P : Program} {id : Nat} {Q : Exit → Act → World → Prop} {a : Act} (W : World) {l : List Oper} (hm : P.follows .mixedOrders = true) (hB : Region.lexB .any l.toArray = true)
    (h : wpQuiet P l.toArray (fun w' => ∃ x : Ext W, w' = x.w) (fun a' => ∀ w', (∃ x : Ext W, w' = x.w) → Q .normal a' w') l a) : (Code.region id l.toArray true).wp P Q a W :=
  wp_region_quiet (C := fun w' => ∃ x : Ext W, w' = x.w) hm hB ⟨⟨{ W with drawn := W.drawn + 1 }, ⟨rfl, rfl, rfl, Nat.le_refl _, fun _ _ => rfl⟩⟩, rfl⟩ (by simpa using h)

/-- A callee that makes memory at most; one that leaves the world alone. -/
theorem Ext.call {W : World} {x : Ext W} {P : Program} {f : FuncId} {args : Array Value} {v : Value}
    (h : Calls P f args x.w fun e w' => e = .returned v ∧ Below x.w.heap.size x.w w') : Calls P f args x.w fun e w' => e = .returned v ∧ ∃ y : Ext W, w' = y.w :=
  h.mono fun _ w' ⟨he, hb⟩ => ⟨he, ⟨w', x.h.trans (hb.mono x.h.size)⟩, rfl⟩
theorem Ext.same {W : World} {x : Ext W} {P : Program} {f : FuncId} {args : Array Value} {v : Value}
    (h : Calls P f args x.w fun e w' => e = .returned v ∧ x.w = w') : Calls P f args x.w fun e w' => e = .returned v ∧ ∃ y : Ext W, w' = y.w :=
  h.mono fun _ _ ⟨he, hb⟩ => ⟨he, x, hb.symm⟩

/-- The cells of the block that was made last, and of the one ahead of it. -/
theorem Ext.made {w W : World} {arr : Array Value} {T : TypeId} (hW : w.alloc (.cells arr T) = W) (i : Nat) (v : Value) (h : arr[i]? = some v) : ∀ x : Ext W, x.w.cell? ⟨w.heap.size, i, none⟩ = some v := by
  subst hW
  refine Ext.cells ?_
  rw [cell_of_row _ w.heap.size i arr T (0, 0) (heap_alloc_new w _)]
  exact h
theorem Ext.made1 {w W : World} {arr : Array Value} {T : TypeId} {o : Obj} (hW : (w.alloc (.cells arr T)).alloc o = W) (i : Nat) (v : Value) (h : arr[i]? = some v) : ∀ x : Ext W, x.w.cell? ⟨w.heap.size, i, none⟩ = some v := by
  subst hW
  intro x
  exact Ext.made (w := w) (arr := arr) (T := T) rfl i v h ⟨x.w, (Below.refl _ _ |>.alloc (Nat.le_refl _) o).trans (x.h.mono (by simp))⟩

/-- The same cells in a later world, said of that world itself; and that they may be written. -/
theorem Ext.made_in {w W w1 : World} {arr : Array Value} {T : TypeId} (hW : w.alloc (.cells arr T) = W) (hb : Below W.heap.size W w1) (i : Nat) (v : Value) (h : arr[i]? = some v) : w1.cell? ⟨w.heap.size, i, none⟩ = some v := Ext.made hW i v h ⟨w1, hb⟩
theorem Ext.made1_in {w W w1 : World} {arr : Array Value} {T : TypeId} {o : Obj} (hW : (w.alloc (.cells arr T)).alloc o = W) (hb : Below W.heap.size W w1) (i : Nat) (v : Value) (h : arr[i]? = some v) : w1.cell? ⟨w.heap.size, i, none⟩ = some v := Ext.made1 hW i v h ⟨w1, hb⟩
theorem Ext.made_fr {w W w1 : World} {arr : Array Value} {T : TypeId} (hW : w.alloc (.cells arr T) = W) (hb : Below W.heap.size W w1) (i : Nat) : w1.frozen? ⟨w.heap.size, i, none⟩ = false := by
  rw [hb.frozen (p := ⟨w.heap.size, i, none⟩) (by rw [← hW]; simp), ← hW]
  exact frozen_of_row _ w.heap.size i arr T (heap_alloc_new w _)
theorem Ext.made_free {w W : World} {arr : Array Value} {T : TypeId} (hW : w.alloc (.cells arr T) = W) (i : Nat) : ∀ x : Ext W, x.w.frozen? ⟨w.heap.size, i, none⟩ = false := fun x => Ext.made_fr hW x.h i
/-- Below, over new blocks. -/
theorem below_new {w W : World} (h : Below w.heap.size w W) (o : Obj) : Below w.heap.size w (W.alloc o) := h.alloc h.size o
theorem below_on {w W w1 : World} (h : Below w.heap.size w W) (k : Below W.heap.size W w1) : Below w.heap.size w w1 := h.trans (k.mono h.size)
theorem below_set {w W : World} (h : Below w.heap.size w W) {b i : Nat} (hb : w.heap.size ≤ b) (v : Value) : Below w.heap.size w (W.setCell ⟨b, i, none⟩ v) := h.setCell (p := ⟨b, i, none⟩) hb v

/-! ### All worlds of a stretch of code as 'x.w', x : Ext W0: the cells' facts stand once, for every such x -/
theorem ext_region {P : Program} {id : Nat} {Q : Exit → Act → World → Prop} {a : Act} {W : World} (x0 : Ext W) {l : List Oper} (hm : P.follows .mixedOrders = true) (hB : Region.lexB .any l.toArray = true)
    (h : wpQuiet P l.toArray (fun w' => ∃ x : Ext W, w' = x.w) (fun a' => ∀ w', (∃ x : Ext W, w' = x.w) → Q .normal a' w') l a) : (Code.region id l.toArray true).wp P Q a x0.w :=
  wp_region_quiet (C := fun w' => ∃ x : Ext W, w' = x.w) hm hB ⟨⟨{ x0.w with drawn := x0.w.drawn + 1 }, x0.h.trans ⟨rfl, rfl, rfl, Nat.le_refl _, fun _ _ => rfl⟩⟩, rfl⟩ (by simpa using h)

/-- A callee that makes memory at most, met where the world is such a one. -/
theorem Ext.step {W : World} {x : Ext W} {P : Program} {f : FuncId} {args : Array Value} {v : Value}
    (h : Calls P f args x.w fun e w' => e = .returned v ∧ Below x.w.heap.size x.w w') : Calls P f args x.w fun e w' => e = .returned v ∧ ∃ y : Ext W, y.w = w' :=
  h.mono fun _ w' ⟨he, hb⟩ => ⟨he, ⟨w', x.h.trans (hb.mono x.h.size)⟩, rfl⟩

/-- The world at hand, made the base. -/
theorem Ext.base {C : World → Prop} (W : World) (h : ∀ x : Ext W, C x.w) : C W := h ⟨W, Below.refl _ _⟩
/-- A cell's fact of the base, for each such world; of an elder base's facts: they stand. -/
theorem Ext.up {W W' : World} (hb : Below W.heap.size W W') {a : Addr} {v : Value} (h : ∀ x : Ext W, x.w.cell? a = some v) : ∀ x : Ext W', x.w.cell? a = some v :=
  fun x => h ⟨x.w, hb.trans (x.h.mono hb.size)⟩
theorem Ext.use {W U : World} {a : Addr} {v : Value} (h : ∀ x : Ext W, x.w.cell? a = some v) (hb : Below W.heap.size W U) : U.cell? a = some v := h ⟨U, hb⟩
theorem Ext.on {U : World} {a : Addr} {v : Value} (h : U.cell? a = some v) : ∀ o, (U.alloc o).cell? a = some v := fun o => (World.cell?_alloc_lt U o a (World.block_lt_of_cell? U a h)).trans h
theorem Ext.new {U V : World} {b i : Nat} {v : Value} {o : Obj} (h : U.cell? ⟨b, i, none⟩ = some v) (hV : U.alloc o = V) : ∀ x : Ext V, x.w.cell? ⟨b, i, none⟩ = some v := by
  subst hV; exact Ext.cells (Ext.on h o)
theorem Ext.base0 {w : World} {P : Program} {f : FuncId} {args : Array Value} {R : Ending → World → Prop} (h : ∀ x : Ext w, Calls P f args x.w R) : Calls P f args w R := h ⟨w, Below.refl _ _⟩
theorem Ext.below0 {w : World} (y : Ext w) : Below w.heap.size w y.w := y.h
theorem Ext.below {w W : World} (h : Below w.heap.size w W) (x : Ext W) : Below w.heap.size w x.w := h.trans (x.h.mono h.size)
end Go.Proofs.Ytminbfingjbbbaa
