/- Layer 35, reading: an answer, read: all ways. -/
import Derived.Test.YtdgplijnhkgeiaaDoorRtxP
namespace Go.Proofs.YtdgplijnhkgeiaaDoor
open Go.RowKit
open Go.Lib (cut itoa)
set_option linter.unusedVariables false
set_option linter.unusedSimpArgs false
theorem toanswer (s : List UInt8) (w : World) (hs : s.length ≤ 10000) (hv : VB w.heap.size w) :
    Calls Tryd.prog 26 #[tx s] w fun e w' => AnsE w.heap.size (answerR (splitL 32 s)) e w' ∧ Below w.heap.size w w' := by
  obtain ⟨hd, tl, hws⟩ := List.exists_cons_of_ne_nil (splitL_ne 32 s)
  rw [hws]
  cases hk : kdI ⟨hd.toArray⟩ with
  | none =>
    rw [answerR_none hk]
    exact (toanswer_none s hd tl w hs hv hws hk).mono fun _ _ h => h
  | some k =>
    rw [answerR_some hk]
    by_cases h1 : k = 1
    · subst h1
      by_cases hl : tl.length = 2
      · obtain ⟨x, y, rfl⟩ : ∃ x y, tl = [x, y] := by
          match tl, hl with
          | [x, y], _ => exact ⟨x, y, rfl⟩
        refine (toanswer_1 s hd _ w hs hv hws x y hk rfl).mono fun e w' h => ⟨?_, h.2⟩
        have h := h.1
        cases ha : numOf x with
        | none => rw [tailR_1x ha]; rw [ha] at h; exact h
        | some a =>
          cases hb : numOf y with
          | none => rw [tailR_1z hb]; rw [ha, hb] at h; exact h
          | some b => rw [tailR_1y ha hb]; rw [ha, hb] at h; exact ⟨_, h, ownQ_nil _ _⟩
      · rw [tailR_1n hl]
        exact (toanswer_1n s hd tl w hs hv hws hk hl).mono fun _ _ h => h
    · by_cases h2 : k = 2
      · subst h2
        by_cases hl : tl.length = 1
        · obtain ⟨x, rfl⟩ : ∃ x, tl = [x] := by
            match tl, hl with
            | [x], _ => exact ⟨x, rfl⟩
          refine (toanswer_2 s hd _ w hs hv hws x hk rfl).mono fun e w' h => ⟨?_, h.2⟩
          have h := h.1
          cases ha : numOf x with
          | none => rw [tailR_2x ha]; rw [ha] at h; exact h
          | some a => rw [tailR_2y ha]; rw [ha] at h; exact ⟨_, h, ownQ_nil _ _⟩
        · rw [tailR_2n hl]
          exact (toanswer_2n s hd tl w hs hv hws hk hl).mono fun _ _ h => h
      · by_cases h3 : k = 3
        · subst h3
          exact toanswer_3 s hd tl w hs hv hws hk
        · by_cases h0 : tl = []
          · subst h0
            rw [tailR_0 k h1 h2 h3]
            exact (toanswer_zero s hd [] w hs hv hws k hk h1 h2 h3 rfl).mono fun _ _ h => ⟨⟨_, h.1, ownQ_nil _ _⟩, h.2⟩
          · have hl : tl.length ≠ 0 := fun e => h0 (List.eq_nil_of_length_eq_zero e)
            rw [tailR_0n k h1 h2 h3 hl]
            exact (toanswer_zeron s hd tl w hs hv hws k hk h1 h2 h3 hl).mono fun _ _ h => h
end Go.Proofs.YtdgplijnhkgeiaaDoor
