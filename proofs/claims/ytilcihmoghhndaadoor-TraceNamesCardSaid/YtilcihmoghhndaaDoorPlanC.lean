/- Layer 5's reference: where a word is. -/
import Derived.Test.YtilcihmoghhndaaDoorPlanB
import Derived.Deep.Cut
namespace Go.Proofs.YtilcihmoghhndaaDoor
open Go.RowKit
set_option linter.unusedVariables false
set_option linter.unusedSimpArgs false

theorem wcells_get (T : Int) (n a : Nat) (h : a < n) : (wcells T n)[a * 3]? = some (.int .i64 (wk T a)) ∧ (wcells T n)[a * 3 + 1]? = some (.int .i64 (wi T a)) ∧ (wcells T n)[a * 3 + 2]? = some (.int .i64 (wj T a)) := by
  induction n with
  | zero => omega
  | succ n ih =>
    rw [wcells_succ]
    have hl := wcells_len T n
    by_cases hn : a < n
    · obtain ⟨h1, h2, h3⟩ := ih hn
      rw [List.getElem?_append_left (by omega), List.getElem?_append_left (by omega), List.getElem?_append_left (by omega)]
      exact ⟨h1, h2, h3⟩
    · have e : a = n := by omega
      subst e
      rw [List.getElem?_append_right (by omega), List.getElem?_append_right (by omega), List.getElem?_append_right (by omega), hl]
      refine ⟨?_, ?_, ?_⟩
      · rw [Nat.sub_self]; rfl
      · rw [Nat.add_sub_cancel_left]; rfl
      · rw [Nat.add_sub_cancel_left]; rfl

/-- The row that is owned, read cell by cell. -/
theorem own_cells {w : World} {B : Nat} {e : TypeId} {v : Value} {T : Int} {n : Nat} (h : w.ownsRow B e 3 v n (wcells T n)) (hn : 0 < n) :
    ∃ g cap, v = .slice (some ⟨g, 0, none⟩) n cap ∧ B ≤ g ∧ g < w.heap.size ∧ n ≤ cap ∧ cap ≤ maxLen ∧ ∀ a, a < n → w.cell? ⟨g, a * 3, none⟩ = some (.int .i64 (wk T a)) ∧ w.cell? ⟨g, a * 3 + 1, none⟩ = some (.int .i64 (wi T a)) ∧ w.cell? ⟨g, a * 3 + 2, none⟩ = some (.int .i64 (wj T a)) := by
  rcases h.2 with ⟨_, h0⟩ | ⟨g, cap, cur, hv, hg, hh, hc, hm, hs, ht⟩
  · omega
  · refine ⟨g, cap, hv, hg, ?_, hc, hm, ?_⟩
    · exact (Array.getElem?_eq_some_iff.1 hh).1
    · intro a ha
      obtain ⟨h1, h2, h3⟩ := wcells_get T n a ha
      have key : ∀ i u, i < n * 3 → (wcells T n)[i]? = some u → w.cell? ⟨g, i, none⟩ = some u := by
        intro i u hi hu
        rw [cell_of_row _ g i _ _ (0, 0) hh]
        rw [← ht, List.getElem?_take_of_lt hi] at hu
        simpa using hu
      exact ⟨key _ _ (by omega) h1, key _ _ (by omega) h2, key _ _ (by omega) h3⟩

end Go.Proofs.YtilcihmoghhndaaDoor
