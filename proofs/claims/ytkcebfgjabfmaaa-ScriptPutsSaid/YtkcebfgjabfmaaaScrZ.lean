/- Layer 14: ScriptPuts. -/
import Derived.Test.YtkcebfgjabfmaaaScrY2
import Derived.Test.YtkcebfgjabfmaaaScrY3
namespace Go.Proofs.Ytkcebfgjabfmaaa
open Go.RowKit WordM
set_option linter.unusedVariables false
set_option linter.unusedSimpArgs false
set_option maxHeartbeats 4000000 in
theorem scriptPuts_walk (v0 v1 : Value) (w : World) (s0 : Fr.okN w [.int .i64, .int .i64, .int .u64, .slice [.int .i64, .bool, .int .i64, .int .i64, .int .i64, .int .i64, .int .i64]] v0) (s1 : Fr.okN w [.int .i64, .int .i64, .int .u64, .slice [.int .i64, .bool, .int .i64, .int .i64, .int .i64, .int .i64, .int .i64]] v1) :
    Calls Try.prog 3 #[v0, v1] w fun e w' => e = .returned (.bool true) ∧ Below w.heap.size w w' := by
  obtain ⟨cs, rfl, s0⟩ := s0
  obtain ⟨_, _, rfl, k0, s0⟩ := Fr.get_cons s0
  obtain ⟨_, _, rfl, k1, s0⟩ := Fr.get_cons s0
  obtain ⟨_, _, rfl, k2, s0⟩ := Fr.get_cons s0
  obtain ⟨v, _, rfl, k3, s0⟩ := Fr.get_cons s0
  obtain rfl := Fr.get_nil s0
  obtain ⟨T, rfl, _⟩ := Fr.get_int k0
  obtain ⟨S, rfl, _⟩ := Fr.get_int k1
  obtain ⟨K, rfl, _⟩ := Fr.get_int k2
  obtain ⟨n, L, hE⟩ := ents_open k3
  obtain ⟨cs, rfl, s1⟩ := s1
  obtain ⟨_, _, rfl, j0, s1⟩ := Fr.get_cons s1
  obtain ⟨_, _, rfl, j1, s1⟩ := Fr.get_cons s1
  obtain ⟨_, _, rfl, j2, s1⟩ := Fr.get_cons s1
  obtain ⟨v', _, rfl, j3, s1⟩ := Fr.get_cons s1
  obtain rfl := Fr.get_nil s1
  obtain ⟨T', rfl, _⟩ := Fr.get_int j0
  obtain ⟨S', rfl, _⟩ := Fr.get_int j1
  obtain ⟨K', rfl, _⟩ := Fr.get_int j2
  obtain ⟨n', M, hE'⟩ := ents_open j3
  clear k0 k1 k2 k3 s0 j0 j1 j2 j3 s1
  show Calls _ _ #[.agg #[.int .i64 T, .int .i64 S, .int .u64 K, v], .agg #[.int .i64 T', .int .i64 S', .int .u64 K', v']] _ _
  have HE := Lib.hid (And.intro hE hE')
  obtain ⟨p, c, rfl, a1, a2, _⟩ := hE.parts
  obtain ⟨p', c', rfl, a1', a2', _⟩ := hE'.parts
  clear hE hE'
  rcases (by omega : (1000 < n ∧ n < 60000) ∨ (n ≤ 1000 ∧ 60010 < n') ∨ (60000 ≤ n ∧ n ≤ 60010 ∧ 60010 < n') ∨ 60010 < n ∨ (n ≤ 1000 ∧ n' ≤ 60010) ∨ (60000 ≤ n ∧ n ≤ 60010 ∧ n' ≤ 60010)) with ⟨hn, hm⟩ | ⟨hn, hm⟩ | ⟨hn, hk, hm⟩ | hn | ⟨hn, hm⟩ | ⟨hn, hk, hm⟩
  · exact puts_l1 T S K n T' S' K' n' p p' c c' w a1 a2 a1' a2' hn hm
  · exact puts_l2 T S K n T' S' K' n' p p' c c' w a1 a2 a1' a2' hn hm
  · exact puts_l3 T S K n T' S' K' n' p p' c c' w a1 a2 a1' a2' hn hk hm
  · exact puts_l4 T S K n T' S' K' n' p p' c c' w a1 a2 a1' a2' hn
  · exact puts_m1 T S K n T' S' K' n' p p' c c' w a1 a2 a1' a2' L M HE hn hm
  · exact puts_m2 T S K n T' S' K' n' p p' c c' w a1 a2 a1' a2' L M HE hn hk hm
end Go.Proofs.Ytkcebfgjabfmaaa
