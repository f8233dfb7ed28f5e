/- Layer 8's contracts: cuts. -/
import Derived.Test.YtdnjconfmaiegaaPairE
namespace Go.Proofs.Ytdnjconfmaiegaa
open Go.RowKit
set_option linter.unusedVariables false
set_option linter.unusedSimpArgs false

theorem PR.single1 {w : World} {o : Obj} {k x : Int} {T : TypeId} : PR ((w.alloc o).alloc (.cells #[.int .i64 k, .int .i64 x] T)) (.slice (some ⟨w.heap.size + 1, 0, none⟩) 1 1) [(k, x)] := by
  have := PR.single (w := w.alloc o) (k := k) (x := x) (T := T)
  simpa using this
end Go.Proofs.Ytdnjconfmaiegaa
