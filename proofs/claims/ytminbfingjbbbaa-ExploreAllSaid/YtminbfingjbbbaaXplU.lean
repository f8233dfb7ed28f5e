/- Layer 36: the walk of ExploreAll. -/
import Derived.Test.YtminbfingjbbbaaXplT
namespace Go.Proofs.Ytminbfingjbbbaa
open Go.RowKit
set_option linter.unusedVariables false
set_option linter.unusedSimpArgs false
theorem mayX_nat {t m k : Int} (h : MayX t m k) : ∃ a b c : Nat, t = a ∧ m = b ∧ k = c ∧ (1 ≤ a ∧ a ≤ 6) ∧ (1 ≤ b ∧ b ≤ 1000) ∧ c ≤ 4 := by
  obtain ⟨h1, h2, h3⟩ := h
  exact ⟨t.toNat, m.toNat, k.toNat, by omega, by omega, by omega, by omega, by omega, by omega⟩
theorem exploreAll_walk (v0 v1 v2 : Value) (w : World) (s0 : Fr.okN w [.int .i64, .int .i64, .int .i64] v0) (s1 : Fr.ok1 w (.int .i64) v1) (s2 : Fr.ok1 w (.int .i64) v2) :
    Calls Try.prog 3 #[v0, v1, v2] w fun e w' => e = .returned (.bool true) ∧ Below w.heap.size w w' := by
  obtain ⟨cs, rfl, hcs⟩ := s0
  obtain ⟨_, _, rfl, k0, hcs⟩ := Fr.get_cons hcs
  obtain ⟨_, _, rfl, k1, hcs⟩ := Fr.get_cons hcs
  obtain ⟨_, _, rfl, k2, hcs⟩ := Fr.get_cons hcs
  obtain rfl := Fr.get_nil hcs
  obtain ⟨t, rfl, _⟩ := Fr.get_int k0
  obtain ⟨m, rfl, _⟩ := Fr.get_int k1
  obtain ⟨k, rfl, _⟩ := Fr.get_int k2
  obtain ⟨n, rfl, _⟩ := Fr.get_int s1
  obtain ⟨till, rfl, _⟩ := Fr.get_int s2
  by_cases hM : MayX t m k
  · obtain ⟨a, b, c, rfl, rfl, rfl, h1, h2, h3⟩ := mayX_nat hM
    by_cases hb : manyL a b c ≤ 3000
    · exact law_go a b c n till w h1 h2 h3 hb
    · exact law_big a b c n till w h1 h2 h3 (by omega)
  · exact law_no t m k n till w hM
end Go.Proofs.Ytminbfingjbbbaa
