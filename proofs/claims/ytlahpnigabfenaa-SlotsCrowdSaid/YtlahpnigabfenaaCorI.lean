/- Layer 16: the law's same. -/
import Derived.Test.YtlahpnigabfenaaCorH
namespace Go.Proofs.Ytlahpnigabfenaa
open Go.RowKit WordM EdgeM
set_option linter.unusedVariables false
set_option linter.unusedSimpArgs false
end Go.Proofs.Ytlahpnigabfenaa
