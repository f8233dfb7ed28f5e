/- Layer 19: the walk of LimboCrowd, by its name. -/
import Derived.Test.YtaaciolfgplnoaaLmbV
namespace Go.Proofs.Ytaaciolfgplnoaa
open Go.RowKit WordM EdgeM
theorem limboCrowd_walk (v0 v1 : Value) (w : World) (s0 : Fr.okN w [.int .i64, .int .i64, .int .u64] v0) (s1 : Fr.ok1 w (.slice [.int .i64, .int .i64]) v1) :
    Calls Try.prog 3 #[v0, v1] w fun e w' => e = .returned (.bool true) ∧ Below w.heap.size w w' := Lb.limboCrowd_walk v0 v1 w s0 s1
end Go.Proofs.Ytaaciolfgplnoaa
