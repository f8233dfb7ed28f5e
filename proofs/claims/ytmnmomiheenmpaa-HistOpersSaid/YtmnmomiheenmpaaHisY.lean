/- Layer 11: the walk of HistOpers. -/
import Derived.Test.YtmnmomiheenmpaaHisX
namespace Go.Proofs.Ytmnmomiheenmpaa
open Go.RowKit
theorem histOpers_walk (v0 : Value) (w : World) (s0 : Fr.ok1 w (.slice [.int .i64, .bool, .int .i64, .int .i64, .int .i64, .int .i64, .int .i64, .int .i64, .int .i64, .int .i64, .int .i64, .slice [.int .i64, .int .i64]]) v0) :
    Calls Try.prog 3 #[v0] w fun e w' => e = .returned (.bool true) ∧ Below w.heap.size w w' := by
  obtain ⟨n, L, h⟩ := events_open s0
  exact hopersLaw (Lib.hid fun n L v w h hn hp => hopen n L v w h hn hp) n L v0 w h
end Go.Proofs.Ytmnmomiheenmpaa
