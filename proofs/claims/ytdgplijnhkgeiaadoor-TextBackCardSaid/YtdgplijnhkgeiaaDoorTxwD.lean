/- Layer 35: an answer as text, of the reference. -/
import Derived.Test.YtdgplijnhkgeiaaDoorTxwC
namespace Go.Proofs.YtdgplijnhkgeiaaDoor
open Go.RowKit
set_option linter.unusedVariables false
set_option linter.unusedSimpArgs false
open Go.Lib (itoa)
theorem answerT_eq (a : An) : answerT a = kS a.kind ++ restT a := by
  unfold answerT
  split
  · rfl
  · rename_i h
    unfold kS restT
    rw [if_neg h, if_neg (by omega), if_neg (by omega), if_neg (by omega)]; rfl
end Go.Proofs.YtdgplijnhkgeiaaDoor
