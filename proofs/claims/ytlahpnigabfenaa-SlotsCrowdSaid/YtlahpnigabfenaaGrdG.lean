/- Layer 7: the reference's Edge, Leads. -/
import Derived.Test.YtlahpnigabfenaaGrdF
namespace Go.Proofs.Ytlahpnigabfenaa.Gd
open Go.RowKit Go.Maps WordM EdgeM
set_option linter.unusedVariables false
set_option linter.unusedSimpArgs false
end Go.Proofs.Ytlahpnigabfenaa.Gd
