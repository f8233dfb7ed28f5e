/- Layer 38: the walk of StatsCalls. -/
import Derived.Test.YtilfgekiblpkaaaStaK
import Derived.Test.YtilfgekiblpkaaaFrame
namespace Go.Proofs.Ytilfgekiblpkaaa
open Go.RowKit
set_option linter.unusedVariables false
theorem ints_open {w : World} : ∀ (n : Nat) (cs : List Value), Fr.Sh.oks w (List.replicate n (.int .i64)) cs → ∃ f : Nat → Int, cs = (List.range n).map fun i => .int .i64 (f i)
  | 0, cs, h => ⟨fun _ => 0, by rw [Fr.get_nil h]; rfl⟩
  | n + 1, cs, h => by
    rw [List.replicate_succ] at h
    obtain ⟨c, cs', rfl, k0, h2⟩ := Fr.get_cons h
    obtain ⟨x, rfl, _⟩ := Fr.get_int k0
    obtain ⟨f, rfl⟩ := ints_open n cs' h2
    refine ⟨fun i => match i with | 0 => x | i + 1 => f i, ?_⟩
    rw [List.range_succ_eq_map, List.map_cons, List.map_map]
    rfl
theorem sum_open {w : World} {v : Value} (h : Fr.okN w (List.replicate 42 (.int .i64)) v) : ∃ G : Nat → Int, v = .agg (c42 G).toArray := by
  obtain ⟨cs, rfl, h⟩ := h
  obtain ⟨f, rfl⟩ := ints_open 42 cs h
  exact ⟨f, rfl⟩
theorem two_open {w : World} {v : Value} (h : Fr.okN w [.int .i64, .int .i64] v) : ∃ x y : Int, v = .agg #[.int .i64 x, .int .i64 y] := by
  obtain ⟨cs, rfl, h⟩ := h
  obtain ⟨_, _, rfl, k0, h⟩ := Fr.get_cons h
  obtain ⟨_, _, rfl, k1, h⟩ := Fr.get_cons h
  obtain rfl := Fr.get_nil h
  obtain ⟨x, rfl, _⟩ := Fr.get_int k0
  obtain ⟨y, rfl, _⟩ := Fr.get_int k1
  exact ⟨x, y, rfl⟩
theorem statsCalls_walk (v0 v1 v2 : Value) (w : World) (s0 : Fr.ok1 w (.slice [.int .i64, .bool, .int .i64, .int .i64, .int .i64, .int .i64, .int .i64, .int .i64, .int .i64, .int .i64, .int .i64, .slice [.int .i64, .int .i64]]) v0) (s1 : Fr.okN w (List.replicate 42 (.int .i64)) v1) (s2 : Fr.okN w [.int .i64, .int .i64] v2) :
    Calls Try.prog 4 #[v0, v1, v2] w fun e w' => e = .returned (.bool true) ∧ Below w.heap.size w w' := by
  obtain ⟨n, L, h⟩ := events_open s0
  obtain ⟨G, rfl⟩ := sum_open s1
  obtain ⟨op, till, rfl⟩ := two_open s2
  exact scallsLaw n L v0 G op till w h
end Go.Proofs.Ytilfgekiblpkaaa
