/- Layer 8's contracts that only read, further. -/
import Derived.Test.YtkkdehniheajeaaPairA
namespace Go.Proofs.Ytkkdehniheajeaa.Th
open Go.RowKit
set_option linter.unusedVariables false
set_option linter.unusedSimpArgs false



end Go.Proofs.Ytkkdehniheajeaa.Th
