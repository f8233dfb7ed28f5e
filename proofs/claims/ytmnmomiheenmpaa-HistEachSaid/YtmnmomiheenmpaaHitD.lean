/- Layer 11: the walk of HistEach. -/
import Derived.Test.YtmnmomiheenmpaaHitC
namespace Go.Proofs.Ytmnmomiheenmpaa
open Go.RowKit
theorem histEach_walk (v0 v1 v2 : Value) (w : World) (s0 : Fr.ok1 w (.slice [.int .i64, .bool, .int .i64, .int .i64, .int .i64, .int .i64, .int .i64, .int .i64, .int .i64, .int .i64, .int .i64, .slice [.int .i64, .int .i64]]) v0) (s1 : Fr.ok1 w (.int .i64) v1) (s2 : Fr.ok1 w (.int .i64) v2) :
    Calls Try.prog 4 #[v0, v1, v2] w fun e w' => e = .returned (.bool true) ∧ Below w.heap.size w w' := by
  obtain ⟨n, L, h⟩ := events_open s0
  obtain ⟨th, rfl, _⟩ := s1
  obtain ⟨till, rfl, _⟩ := s2
  exact heachLaw n L v0 th till w h
end Go.Proofs.Ytmnmomiheenmpaa
