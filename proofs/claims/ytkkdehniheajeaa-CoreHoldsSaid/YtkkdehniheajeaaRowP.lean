/- Puts, in rows of their own. -/
import Derived.Test.YtkkdehniheajeaaRowA
namespace Go.Proofs.Ytkkdehniheajeaa.Th
open Go.RowKit
set_option linter.unusedVariables false
set_option linter.unusedSimpArgs false
end Go.Proofs.Ytkkdehniheajeaa.Th
