/- Layer 11: how many threads a history has. -/
import Derived.Test.YtilfgekiblpkaaaHisJ
namespace Go.Proofs.Ytilfgekiblpkaaa
open Go.RowKit
set_option linter.unusedVariables false
set_option linter.unusedSimpArgs false
def thrH (L : Nat → Ev) : Nat → Int
  | 0 => 0
  | i + 1 => if (L i).th + 1 ≤ thrH L i then thrH L i else (L i).th + 1
theorem thrH_rng {L : Nat → Ev} {n : Nat} (hm : mayH L n = true) : ∀ i, i ≤ n → 0 ≤ thrH L i ∧ thrH L i ≤ 6
  | 0, _ => by simp [thrH]
  | i + 1, hi => by
    obtain ⟨h1, h2, _⟩ := mayH_at hm (by omega : i < n)
    have := thrH_rng hm i (by omega)
    rw [thrH]; split <;> omega
end Go.Proofs.Ytilfgekiblpkaaa
