/- Layer 7: the reference's Edge, Leads. -/
import Derived.Test.YtjpkmkaiojnhgaaGrdF
namespace Go.Proofs.Ytjpkmkaiojnhgaa.Gd
open Go.RowKit Go.Maps WordM EdgeM
set_option linter.unusedVariables false
set_option linter.unusedSimpArgs false
end Go.Proofs.Ytjpkmkaiojnhgaa.Gd
