/- Layer 14: the reference's Clean. -/
import Derived.Test.YtnikggdnlijkkaaScrB
namespace Go.Proofs.Ytnikggdnlijkkaa
open Go.RowKit
set_option linter.unusedVariables false
set_option linter.unusedSimpArgs false
theorem mid_cell (w : World) (o0 o2 : Obj) (arr : Array Value) (T : TypeId) (i : Nat) (v : Value) (h : arr[i]? = some v) : (((w.alloc o0).alloc (.cells arr T)).alloc o2).cell? ⟨w.heap.size + 1, i, none⟩ = some v := by
  have e : w.heap.size + 1 = (w.alloc o0).heap.size := by simp
  rw [e]; exact Ext.made1 rfl i v h ⟨_, Below.refl _ _⟩
end Go.Proofs.Ytnikggdnlijkkaa
