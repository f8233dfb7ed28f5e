/- Layer 16: the law's same. -/
import Derived.Test.YtjpkmkaiojnhgaaCorH
namespace Go.Proofs.Ytjpkmkaiojnhgaa
open Go.RowKit WordM EdgeM
set_option linter.unusedVariables false
set_option linter.unusedSimpArgs false
end Go.Proofs.Ytjpkmkaiojnhgaa
