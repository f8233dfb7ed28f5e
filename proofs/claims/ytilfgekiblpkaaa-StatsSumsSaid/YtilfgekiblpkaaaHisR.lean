/- Layer 11: how many calls are open, counted by threads. -/
import Derived.Test.YtilfgekiblpkaaaHisK
import Derived.Test.YtilfgekiblpkaaaHisL
namespace Go.Proofs.Ytilfgekiblpkaaa
open Go.RowKit
set_option linter.unusedVariables false
set_option linter.unusedSimpArgs false
theorem thrH_mono (L : Nat → Ev) (i : Nat) : thrH L i ≤ thrH L (i + 1) ∧ (L i).th + 1 ≤ thrH L (i + 1) := by
  have e : thrH L (i + 1) = if (L i).th + 1 ≤ thrH L i then thrH L i else (L i).th + 1 := rfl
  rw [e]; split <;> omega
/-- An oper's thread is one of the history's. -/
theorem stO_th {L : Nat → Ev} {n : Nat} (hm : mayH L n = true) : ∀ i, i ≤ n → ∀ x ∈ (stO L i).1, 0 ≤ x.th ∧ x.th < thrH L i
  | 0, _, x, hx => by simp [stO] at hx
  | i + 1, hi, x, hx => by
    obtain ⟨h1, h2, h3⟩ := mayH_at hm (by omega : i < n)
    have ih := stO_th hm i (by omega)
    obtain ⟨m1, m2⟩ := thrH_mono L i
    rw [stO] at hx
    split at hx
    · rename_i hb
      rw [hb] at h3
      obtain ⟨x0, hx0, _⟩ := (oinv hm i (by omega)).d (L i).th h1 h3.symm
      simp only at hx
      rcases List.mem_or_eq_of_mem_set hx with hx | rfl
      · have := ih x hx; omega
      · rw [List.getD_eq_getElem?_getD, hx0]
        have := ih x0 (List.mem_of_getElem? hx0)
        simp only [Option.getD_some]; omega
    · simp only [List.mem_append, List.mem_singleton] at hx
      rcases hx with hx | rfl
      · have := ih x hx; omega
      · simp only; omega
def openT (O : List Opr) (t : Nat) : Bool := O.any fun x => decide (x.th = (t : Int)) && decide (x.to < 0)
theorem open_cnt {L : Nat → Ev} {n : Nat} (hm : mayH L n = true) : (List.range (thrH L n).toNat).countP (openT (stO L n).1) = (stO L n).1.countP (fun x => decide (x.to < 0)) := by
  have IC := (oinv hm n (Nat.le_refl _)).c
  have T := stO_th hm n (Nat.le_refl _)
  generalize (stO L n).1 = O at *
  rw [List.countP_eq_length_filter, List.countP_eq_length_filter]
  have h1 : ((O.filter fun x => decide (x.to < 0)).map fun x => x.th.toNat).Nodup := by
    unfold List.Nodup
    rw [List.pairwise_map]
    have hP : O.Pairwise fun a b => b.th = a.th → 0 ≤ a.to := by
      rw [List.pairwise_iff_getElem]
      intro i j hi hj hij e
      exact (IC i j _ _ hij (List.getElem?_eq_getElem hi) (List.getElem?_eq_getElem hj) e.symm).1
    refine (hP.filter _).imp_of_mem ?_
    · intro a b ha hb hab e
      have ha2 := List.mem_filter.1 ha
      have hb2 := List.mem_filter.1 hb
      have a1 := T a ha2.1
      have b1 := T b hb2.1
      have := hab (by omega)
      have := of_decide_eq_true ha2.2
      omega
  have h2 : ((List.range (thrH L n).toNat).filter (openT O)).Nodup := List.Pairwise.filter _ List.nodup_range
  have hp : ((List.range (thrH L n).toNat).filter (openT O)).Perm ((O.filter fun x => decide (x.to < 0)).map fun x => x.th.toNat) := by
    rw [List.perm_ext_iff_of_nodup h2 h1]
    intro t
    rw [List.mem_filter, List.mem_map]
    constructor
    · rintro ⟨_, h⟩
      unfold openT at h
      rw [List.any_eq_true] at h
      obtain ⟨x, hx, hx2⟩ := h
      rw [Bool.and_eq_true] at hx2
      have := of_decide_eq_true hx2.1
      exact ⟨x, List.mem_filter.2 ⟨hx, hx2.2⟩, by omega⟩
    · rintro ⟨x, hx, rfl⟩
      obtain ⟨hx, hx2⟩ := List.mem_filter.1 hx
      have := T x hx
      refine ⟨List.mem_range.2 (by omega), ?_⟩
      unfold openT
      rw [List.any_eq_true]
      exact ⟨x, hx, by rw [Bool.and_eq_true]; exact ⟨decide_eq_true (by omega), hx2⟩⟩
  have := hp.length_eq
  rw [List.length_map] at this
  exact this
end Go.Proofs.Ytilfgekiblpkaaa
