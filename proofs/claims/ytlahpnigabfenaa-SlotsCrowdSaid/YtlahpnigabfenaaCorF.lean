/- Layer 16: the reference's word, of any place. -/
import Derived.Test.YtlahpnigabfenaaCorE
import Derived.Test.YtlahpnigabfenaaPlanG
import Derived.Test.YtlahpnigabfenaaGrdI
import Derived.Test.YtlahpnigabfenaaGrdJ
namespace Go.Proofs.Ytlahpnigabfenaa
open Go.RowKit WordM EdgeM
set_option linter.unusedVariables false
set_option linter.unusedSimpArgs false
theorem nodeF_0 (s q r : Nat) (hq : q < 5) (n2 : r ≠ 2) (n4 : r ≠ 4) (n5 : r ≠ 5) : nodeF 3 s q r = 0 := by
  unfold nodeF
  by_cases r0 : r = 0
  · rw [if_pos r0, if_neg (by omega)]
  · rw [if_neg r0, if_neg n2, if_neg n4, if_neg n5]
end Go.Proofs.Ytlahpnigabfenaa
