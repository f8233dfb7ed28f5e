/- Layer 36: where the reference's All stands on its way (no program). -/
import Derived.Test.YtminbfingjbbbaaXplH
namespace Go.Proofs.Ytminbfingjbbbaa
open Go.RowKit
set_option linter.unusedVariables false
set_option linter.unusedSimpArgs false
/-- The threads below th that one schedule goes on with. -/
def extT (m : Nat) (p : PL) (th : Nat) : List PL := (List.range th).flatMap fun x : Nat => if skipB p x = true then [] else (List.range m).map fun n : Nat => p ++ [((x : Int), (n : Int) + 1)]
theorem extT_all (t m : Nat) (p : PL) : extT m p t = extL t m p := rfl
theorem extT_skip {m : Nat} {p : PL} {th : Nat} (h : skipB p th = true) : extT m p (th + 1) = extT m p th := by
  unfold extT
  rw [List.range_succ, List.flatMap_append]
  simp [h]
theorem extT_go {m : Nat} {p : PL} {th : Nat} (h : skipB p th = false) : extT m p (th + 1) = extT m p th ++ (List.range m).map fun n : Nat => p ++ [((th : Int), (n : Int) + 1)] := by
  unfold extT
  rw [List.range_succ, List.flatMap_append]
  simp [h]
theorem range_map_succ (p : PL) (th n : Nat) : ((List.range (n + 1)).map fun n : Nat => p ++ [((th : Int), (n : Int) + 1)]) = ((List.range n).map fun n : Nat => p ++ [((th : Int), (n : Int) + 1)]) ++ [p ++ [((th : Int), (n : Int) + 1)]] := by
  rw [List.range_succ, List.map_append]; rfl
theorem take_flat {α β : Type} (f : α → List β) {l : List α} {j : Nat} {x : α} (h : l[j]? = some x) : (l.take (j + 1)).flatMap f = (l.take j).flatMap f ++ f x := by
  rw [List.take_add_one, h, List.flatMap_append]; simp
/-- No level is longer than what is gone through. -/
theorem many_mid (t m k : Nat) (ht : 1 ≤ t ∧ t ≤ 6) (hm : 1 ≤ m ∧ m ≤ 1000) (hk : manyL t m k ≤ 3000) : ∀ i, i ≤ k → manyL t m i ≤ 6000 := by
  intro i hi
  by_cases h0 : (t - 1) * m = 0
  · have ht1 : t = 1 := by
      rcases Nat.mul_eq_zero.1 h0 with h | h
      · omega
      · omega
    match i with
    | 0 => show 1 ≤ 6000; decide
    | 1 => exact Nat.le_trans (Nat.mul_le_mul ht.2 hm.2) (by decide)
    | j + 2 => show manyL t m (j + 1) * ((t - 1) * m) ≤ 6000; rw [h0]; simp
  · have hstep : ∀ j, 1 ≤ j → manyL t m j ≤ manyL t m (j + 1) := by
      intro j hj
      obtain ⟨u, rfl⟩ : ∃ u, j = u + 1 := ⟨j - 1, by omega⟩
      show manyL t m (u + 1) ≤ manyL t m (u + 1) * ((t - 1) * m)
      exact Nat.le_mul_of_pos_right _ (Nat.pos_of_ne_zero h0)
    have hmono : ∀ e j, 1 ≤ j → manyL t m j ≤ manyL t m (j + e) := by
      intro e
      induction e with
      | zero => intro j _; exact Nat.le_refl _
      | succ e ih => intro j hj; exact Nat.le_trans (ih j hj) (hstep (j + e) (by omega))
    rcases (by omega : i = 0 ∨ 1 ≤ i) with rfl | h1
    · show 1 ≤ 6000; decide
    · have := hmono (k - i) i h1
      rw [show i + (k - i) = k by omega] at this
      omega
end Go.Proofs.Ytminbfingjbbbaa
