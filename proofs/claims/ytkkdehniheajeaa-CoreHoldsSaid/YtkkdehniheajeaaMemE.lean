/- Layer 6: same; the reference's. -/
import Derived.Test.YtkkdehniheajeaaMemD
namespace Go.Proofs.Ytkkdehniheajeaa.Mm
open Go.RowKit
set_option linter.unusedVariables false
set_option linter.unusedSimpArgs false



end Go.Proofs.Ytkkdehniheajeaa.Mm
