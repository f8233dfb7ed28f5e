/- Layer 7: a guard's Drop. -/
import Derived.Test.YtokeokgmopboiaaGrdC
namespace Go.Proofs.Ytokeokgmopboiaa.Gd
open Go.RowKit Go.Maps WordM EdgeM
set_option linter.unusedVariables false
set_option linter.unusedSimpArgs false
def dropH (n : Nat) (H : Nat → Bool) (G : Nat → Int) (e : Int) : Nat → Bool := if leadsB n H G e = true then setB H ((e % 4096).toNat - 1) false else H
def dropG (n : Nat) (H : Nat → Bool) (G : Nat → Int) (e : Int) : Nat → Int := if leadsB n H G e = true then updI G ((e % 4096).toNat - 1) ((G ((e % 4096).toNat - 1) + 1) % 1125899906842624) else G
theorem leads_parts {n : Nat} {H : Nat → Bool} {G : Nat → Int} {e : Int} (h : leadsB n H G e = true) : ∃ i : Nat, e % 4096 = i + 1 ∧ i < n ∧ H i = true ∧ G i = e / 4096 % 1125899906842624 := by
  unfold leadsB at h
  rw [Bool.and_eq_true, Bool.and_eq_true, decide_eq_true_eq, beq_iff_eq] at h
  obtain ⟨⟨h1, h2⟩, h3, h4⟩ := h
  exact ⟨(e % 4096).toNat - 1, by omega, by omega, h3, h4⟩
theorem make_gen (s : Int) {x : Int} (hx : 0 ≤ x) : makeI s x / 4096 % 1125899906842624 = x % 1125899906842624 := by
  have := slotI_bd s
  unfold makeI; omega
end Go.Proofs.Ytokeokgmopboiaa.Gd
