/- Layer 8's contracts that make rows, further. -/
import Derived.Test.YtdgkgfapajlidaaPairD
namespace Go.Proofs.Ytdgkgfapajlidaa
open Go.RowKit
set_option linter.unusedVariables false
set_option linter.unusedSimpArgs false

end Go.Proofs.Ytdgkgfapajlidaa
