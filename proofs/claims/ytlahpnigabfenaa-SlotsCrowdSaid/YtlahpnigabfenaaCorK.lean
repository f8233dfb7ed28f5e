/- Layer 16: lives, and the walk of CoreLays. -/
import Derived.Test.YtlahpnigabfenaaCorJ
import Derived.Test.YtlahpnigabfenaaFrame
namespace Go.Proofs.Ytlahpnigabfenaa
open Go.RowKit WordM EdgeM
set_option linter.unusedVariables false
set_option linter.unusedSimpArgs false
theorem lv1 : Mm.ldI (3 + 8 * 1 + 7 * 7) (partF 1 3 7) (nodeI (1 : Nat) (7 : Nat) (1 % 4096) 4) = 2 := by decide
theorem lv2 : (false || !Mm.okA (3 + 8 * 1 + 7 * 7) (nodeI (1 : Nat) (7 : Nat) (1 % 4096) 4)) = false := by decide
theorem lv3 : Gd.leadsB 7 (fun i => decide (i < 5)) (fun _ => 0) 1 = true := by decide
theorem lv4 : mayC (1 : Nat) (7 : Nat) 5 = true := by decide
theorem lv5 : makeI 1 0 = 1 := by decide
end Go.Proofs.Ytlahpnigabfenaa
