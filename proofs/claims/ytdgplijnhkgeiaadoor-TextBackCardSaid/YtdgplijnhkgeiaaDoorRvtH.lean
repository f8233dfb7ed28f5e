/- Layer 35, histories: how long what is read may be (no program). -/
import Derived.Test.YtdgplijnhkgeiaaDoorRvtA
namespace Go.Proofs.YtdgplijnhkgeiaaDoor
open Go.RowKit
set_option linter.unusedVariables false
set_option linter.unusedSimpArgs false
theorem tailR_lens {k : Nat} {tl : List (List UInt8)} {a : An} (h : tailR k tl = .ok a) : a.ps.length ≤ tl.length := by
  unfold tailR at h
  split at h
  · split at h
    · split at h
      · cases h; exact Nat.zero_le _
      · cases h
    · cases h
  · split at h
    · split at h
      · split at h
        · cases h; exact Nat.zero_le _
        · cases h
      · cases h
    · split at h
      · split at h
        · rename_i ps hp
          cases h
          exact Nat.le_of_eq (pairsOf_len hp)
        · cases h
      · split at h
        · cases h; exact Nat.zero_le _
        · cases h
theorem answerR_lens {ws : List (List UInt8)} {a : An} (h : answerR ws = .ok a) : a.ps.length ≤ ws.length := by
  unfold answerR at h
  split at h
  · cases h
  · have h1 := tailR_lens h
    rw [List.length_tail] at h1
    omega
theorem eventW_lens : ∀ {ws : List (List UInt8)} {e : Ev}, eventW ws = .ok e → e.an.ps.length ≤ ws.length
  | [], e, h => by cases h
  | [_], e, h => by cases h
  | [_, _], e, h => by cases h
  | f :: s :: r :: rr, e, h => by
    rw [eventW_3] at h
    split at h
    · unfold evN at h
      split at h
      · cases h
      · split at h
        · split at h
          · rename_i a ha
            cases h
            have h2 := answerR_lens ha
            have h2 : a.ps.length ≤ (r :: rr).length := h2
            simp at h2 ⊢
            omega
          · cases h
        · split at h
          · cases h
            exact Nat.zero_le _
          · cases h
    · cases h
theorem hist_mems : ∀ (Ls : List (List UInt8)) (l : List Ev), histL Ls = .ok l → l.length ≤ Ls.length ∧ ∀ e ∈ l, ∃ x ∈ Ls, eventW (splitL 32 x) = .ok e
  | [], l, h => by
    have h : Except.ok [] = (Except.ok l : Except Int (List Ev)) := h
    cases h
    exact ⟨Nat.le_refl _, fun e he => by cases he⟩
  | [x], l, h => by
    by_cases hx : x = []
    · subst hx
      rw [hist_last0] at h
      cases h
      exact ⟨Nat.zero_le _, fun e he => by cases he⟩
    · cases he : eventW (splitL 32 x) with
      | error y => rw [hist_last_no hx he] at h; cases h
      | ok e => rw [hist_last_ok hx he] at h; cases h
  | x :: z :: r, l, h => by
    cases he : eventW (splitL 32 x) with
    | error y => rw [hist_no (by simp) he] at h; cases h
    | ok e =>
      have h2 := hist_ok [] (x := x) (r := z :: r) (by simp) he
      rw [preR_nil, h] at h2
      cases h3 : histL (z :: r) with
      | error y => rw [h3] at h2; cases h2
      | ok m =>
        rw [h3] at h2
        have h2 : Except.ok l = (Except.ok (e :: m) : Except Int (List Ev)) := h2
        cases h2
        obtain ⟨h4, h5⟩ := hist_mems (z :: r) m h3
        refine ⟨by simp at h4 ⊢; omega, fun e' he' => ?_⟩
        rcases List.mem_cons.1 he' with h6 | h6
        · rw [h6]; exact ⟨x, List.mem_cons_self, he⟩
        · obtain ⟨y, h7, h8⟩ := h5 e' h6
          exact ⟨y, List.mem_cons_of_mem _ h7, h8⟩
theorem callR_errs {ws : List (List UInt8)} {y : Int} (h : callR ws = .error y) : y ≠ 0 := by
  unfold callR at h
  split at h
  · cases h; decide
  · split at h
    · split at h
      · cases h
      · cases h; decide
    · cases h; decide
theorem tailR_errs {k : Nat} {tl : List (List UInt8)} {y : Int} (h : tailR k tl = .error y) : y ≠ 0 := by
  unfold tailR at h
  repeat' split at h
  all_goals first | (cases h; done) | (cases h; decide)
theorem answerR_errs {ws : List (List UInt8)} {y : Int} (h : answerR ws = .error y) : y ≠ 0 := by
  unfold answerR at h
  split at h
  · cases h; decide
  · exact tailR_errs h
theorem eventW_errs : ∀ {ws : List (List UInt8)} {y : Int}, eventW ws = .error y → y ≠ 0
  | [], y, h => by cases h; decide
  | [_], y, h => by cases h; decide
  | [_, _], y, h => by cases h; decide
  | f :: s :: r :: rr, y, h => by
    rw [eventW_3] at h
    split at h
    · unfold evN at h
      split at h
      · cases h; decide
      · split at h
        · split at h
          · cases h
          · rename_i z hz
            cases h
            exact answerR_errs hz
        · split at h
          · cases h
          · rename_i z hz
            cases h
            exact callR_errs hz
    · cases h; decide
theorem hist_errs : ∀ {Ls : List (List UInt8)} {y : Int}, histL Ls = .error y → y ≠ 0
  | [], y, h => by
    have h : Except.ok [] = (Except.error y : Except Int (List Ev)) := h
    cases h
  | [x], y, h => by
    by_cases hx : x = []
    · subst hx; rw [hist_last0] at h; cases h
    · cases he : eventW (splitL 32 x) with
      | error z => rw [hist_last_no hx he] at h; cases h; exact eventW_errs he
      | ok e => rw [hist_last_ok hx he] at h; cases h; decide
  | x :: z :: r, y, h => by
    cases he : eventW (splitL 32 x) with
    | error u => rw [hist_no (by simp) he] at h; cases h; exact eventW_errs he
    | ok e =>
      have h2 := hist_ok [] (x := x) (r := z :: r) (by simp) he
      rw [preR_nil, h] at h2
      cases h3 : histL (z :: r) with
      | error u =>
        rw [h3] at h2
        have h2 : Except.error y = (Except.error u : Except Int (List Ev)) := h2
        cases h2
        exact hist_errs h3
      | ok m => rw [h3] at h2; cases h2
end Go.Proofs.YtdgplijnhkgeiaaDoor
