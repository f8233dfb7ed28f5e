/- Layer 16: the law's same. -/
import Derived.Test.YtfocficedkahiaaCorH
namespace Go.Proofs.Ytfocficedkahiaa
open Go.RowKit WordM EdgeM
set_option linter.unusedVariables false
set_option linter.unusedSimpArgs false
end Go.Proofs.Ytfocficedkahiaa
