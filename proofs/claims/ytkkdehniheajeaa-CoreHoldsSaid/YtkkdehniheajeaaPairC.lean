/- Layer 8's contracts: the reference's At; floor and ceiling. -/
import Derived.Test.YtkkdehniheajeaaPairB
namespace Go.Proofs.Ytkkdehniheajeaa.Th
open Go.RowKit
set_option linter.unusedVariables false
set_option linter.unusedSimpArgs false

end Go.Proofs.Ytkkdehniheajeaa.Th
