/- A region that draws its order, whose loads read memory that was there at its head, and whose callees may make memory but change none of it: one walk of the text's order. -/
import Derived.WalkKit
import Derived.Below
import Derived.Deep.QuietTactic
import Derived.BigQuiet
import Derived.WalkSmall
namespace Go.Proofs.Ytphkmnjpaiecoaa
open Go.RowKit

/-- A world in which all that W had is as it was. -/
structure Ext (W : World) where
  w : World
  h : Below W.heap.size W w

instance (W : World) : Nonempty (Ext W) := ⟨⟨W, Below.refl _ _⟩⟩

theorem Ext.cell {W : World} (x : Ext W) {b o : Nat} {v : Value} (h : W.cell? ⟨b, o, none⟩ = some v) : x.w.cell? ⟨b, o, none⟩ = some v :=
  (x.h.cell (p := ⟨b, o, none⟩) (World.block_lt_of_cell? W ⟨b, o, none⟩ h)).trans h

/-- The facts of the cells at hand, in every such world. -/
theorem Ext.cells {W : World} {b o : Nat} {v : Value} (h : W.cell? ⟨b, o, none⟩ = some v) : ∀ x : Ext W, x.w.cell? ⟨b, o, none⟩ = some v := fun x => x.cell h

theorem wp_region_ext {P : Program} {id : Nat} {Q : Exit → Act → World → Prop} {a : Act} (W : World) {l : List Oper} (hm : P.follows .mixedOrders = true) (hB : Region.lexB .any l.toArray = true)
    (h : wpQuiet P l.toArray (fun w' => ∃ x : Ext W, w' = x.w) (fun a' => ∀ w', (∃ x : Ext W, w' = x.w) → Q .normal a' w') l a) : (Code.region id l.toArray true).wp P Q a W :=
  wp_region_quiet (C := fun w' => ∃ x : Ext W, w' = x.w) hm hB ⟨⟨{ W with drawn := W.drawn + 1 }, ⟨rfl, rfl, rfl, Nat.le_refl _, fun _ _ => rfl⟩⟩, rfl⟩ (by simpa using h)

/-- A callee that makes memory at most; one that leaves the world alone. -/
theorem Ext.call {W : World} {x : Ext W} {P : Program} {f : FuncId} {args : Array Value} {v : Value}
    (h : Calls P f args x.w fun e w' => e = .returned v ∧ Below x.w.heap.size x.w w') : Calls P f args x.w fun e w' => e = .returned v ∧ ∃ y : Ext W, w' = y.w :=
  h.mono fun _ w' ⟨he, hb⟩ => ⟨he, ⟨w', x.h.trans (hb.mono x.h.size)⟩, rfl⟩
theorem Ext.same {W : World} {x : Ext W} {P : Program} {f : FuncId} {args : Array Value} {v : Value}
    (h : Calls P f args x.w fun e w' => e = .returned v ∧ x.w = w') : Calls P f args x.w fun e w' => e = .returned v ∧ ∃ y : Ext W, w' = y.w :=
  h.mono fun _ _ ⟨he, hb⟩ => ⟨he, x, hb.symm⟩

/-- The cells of the block that was made last, and of the one ahead of it. -/
theorem Ext.made {w W : World} {arr : Array Value} {T : TypeId} (hW : w.alloc (.cells arr T) = W) (i : Nat) (v : Value) (h : arr[i]? = some v) : ∀ x : Ext W, x.w.cell? ⟨w.heap.size, i, none⟩ = some v := by
  subst hW
  refine Ext.cells ?_
  rw [cell_of_row _ w.heap.size i arr T (0, 0) (heap_alloc_new w _)]
  exact h
theorem Ext.made1 {w W : World} {arr : Array Value} {T : TypeId} {o : Obj} (hW : (w.alloc (.cells arr T)).alloc o = W) (i : Nat) (v : Value) (h : arr[i]? = some v) : ∀ x : Ext W, x.w.cell? ⟨w.heap.size, i, none⟩ = some v := by
  subst hW
  intro x
  exact Ext.made (w := w) (arr := arr) (T := T) rfl i v h ⟨x.w, (Below.refl _ _ |>.alloc (Nat.le_refl _) o).trans (x.h.mono (by simp))⟩
end Go.Proofs.Ytphkmnjpaiecoaa
