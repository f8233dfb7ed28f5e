/- Layer 11: hist.Each: the iterator that it makes. -/
import Derived.Test.YtilfgekiblpkaaaHisO
namespace Go.Proofs.Ytilfgekiblpkaaa
open Go.RowKit
set_option linter.unusedVariables false
set_option linter.unusedSimpArgs false
def allO (L : Nat → Ev) (n : Nat) : List Opr := if mayH L n then (stO L n).1 else []
theorem hopersA (n : Nat) (L : Nat → Ev) (v : Value) (w : World) (h : VR w v n L) (hn : n ≤ 1000) (hpl : ∀ i, i < n → (L i).an.ps.length ≤ 100000) : Calls Try.prog 15 #[v] w fun e w' => ∃ (v' : Value) (l : List (Opr × Value)), e = .returned v' ∧ l.map (·.1) = allO L n ∧ OwnO w' w.heap.size v' l ∧ (∀ x ∈ l, PO w' x.2 x.1.an.ps) ∧ Below w.heap.size w w' := by
  cases hm : mayH L n with
  | true =>
    refine (hopers n L v w h hn hpl hm).mono ?_
    rintro _ w' ⟨v', l, rfl, h1, h2⟩
    exact ⟨v', l, rfl, by unfold allO; rw [hm]; exact h1, h2⟩
  | false =>
    refine (hopers0 n L v w h hn hm).mono ?_
    rintro _ w' ⟨rfl, hb⟩
    exact ⟨_, [], rfl, by unfold allO; rw [hm]; rfl, ⟨rfl, .inl ⟨rfl, rfl⟩⟩, by simp, hb⟩
end Go.Proofs.Ytilfgekiblpkaaa
