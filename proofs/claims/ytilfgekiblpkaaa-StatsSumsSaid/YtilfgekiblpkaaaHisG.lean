/- Layer 11: the laws' lives. -/
import Derived.Test.YtilfgekiblpkaaaHisE
namespace Go.Proofs.Ytilfgekiblpkaaa
open Go.RowKit
set_option linter.unusedVariables false
set_option linter.unusedSimpArgs false
def L3 : Nat → Ev := fun i => if i = 0 then ev0 else if i = 1 then { ev0 with bk := true } else { ev0 with th := 1 }
theorem L3_may : mayH L3 3 = true := by decide
theorem L3_opers : (stO L3 3).1 = [⟨0, ⟨0, 0, 0, 0, 0⟩, ⟨0, 0, 0, 0, []⟩, 0, 1⟩, ⟨1, ⟨0, 0, 0, 0, 0⟩, ⟨0, 0, 0, 0, []⟩, 2, -1⟩] := rfl
theorem L3_VR (w : World) (T : TypeId) : VR (w.alloc (.cells #[.int .i64 0, .bool false, .int .i64 0, .int .i64 0, .int .i64 0, .int .i64 0, .int .i64 0, .int .i64 0, .int .i64 0, .int .i64 0, .int .i64 0, .slice none 0 0, .int .i64 0, .bool true, .int .i64 0, .int .i64 0, .int .i64 0, .int .i64 0, .int .i64 0, .int .i64 0, .int .i64 0, .int .i64 0, .int .i64 0, .slice none 0 0, .int .i64 1, .bool false, .int .i64 0, .int .i64 0, .int .i64 0, .int .i64 0, .int .i64 0, .int .i64 0, .int .i64 0, .int .i64 0, .int .i64 0, .slice none 0 0] T)) (.slice (some ⟨w.heap.size, 0, none⟩) 3 3) 3 L3 := by
  refine .row _ 0 3 3 _ (Nat.le_refl _) (by decide) fun i hi => ⟨.slice none 0 0, fun j hj => ?_, ?_⟩
  · rw [cell_of_row _ _ _ _ _ (0, 0) (heap_alloc_new w _)]
    rcases (by omega : i = 0 ∨ i = 1 ∨ i = 2) with rfl | rfl | rfl <;> rcases (by omega : j = 0 ∨ j = 1 ∨ j = 2 ∨ j = 3 ∨ j = 4 ∨ j = 5 ∨ j = 6 ∨ j = 7 ∨ j = 8 ∨ j = 9 ∨ j = 10 ∨ j = 11) with rfl | rfl | rfl | rfl | rfl | rfl | rfl | rfl | rfl | rfl | rfl | rfl <;> rfl
  · rcases (by omega : i = 0 ∨ i = 1 ∨ i = 2) with rfl | rfl | rfl <;> exact .nil
end Go.Proofs.Ytilfgekiblpkaaa
