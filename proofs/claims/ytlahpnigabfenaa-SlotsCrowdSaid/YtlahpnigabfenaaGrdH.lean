/- Layer 7: the reference's slots in a row of their own; a copy. -/
import Derived.Test.YtlahpnigabfenaaGrdG
import Derived.Laws.AppendOwn
import Derived.Laws.AppendOwnNone
import Derived.OwnWalk
namespace Go.Proofs.Ytlahpnigabfenaa.Gd
open Go.RowKit Go.Maps WordM EdgeM
set_option linter.unusedVariables false
set_option linter.unusedSimpArgs false
def cell2 (H : Nat → Bool) (G : Nat → Int) (j : Nat) : Value := if j % 2 = 0 then .bool (H (j / 2)) else .int .u64 (G (j / 2))
def cS2 (H : Nat → Bool) (G : Nat → Int) (n : Nat) : List Value := (List.range (n * 2)).map (cell2 H G)
theorem cS2_len (H : Nat → Bool) (G : Nat → Int) (n : Nat) : (cS2 H G n).length = n * 2 := by simp [cS2]
theorem cS2_get {H : Nat → Bool} {G : Nat → Int} {n j : Nat} (h : j < n * 2) : (cS2 H G n)[j]? = some (cell2 H G j) := by simp [cS2, List.getElem?_range h]
theorem cS2_set (H : Nat → Bool) (G : Nat → Int) {n i : Nat} (h : i < n) (b : Bool) : (cS2 H G n).set (i * 2) (.bool b) = cS2 (setB H i b) G n := by
  apply List.ext_getElem?
  intro j
  rw [List.getElem?_set]
  by_cases hj : j < n * 2
  · rw [cS2_get hj, cS2_get hj]
    by_cases e : i * 2 = j
    · rw [if_pos e, if_pos (by rw [cS2_len]; omega)]
      unfold cell2 setB
      rw [if_pos (by omega), if_pos (by omega)]
    · rw [if_neg e]
      unfold cell2
      split
      · unfold setB; rw [if_neg (by omega)]
      · rfl
  · have h5 : ∀ H G, (cS2 H G n)[j]? = none := fun H G => by rw [List.getElem?_eq_none (by rw [cS2_len]; omega)]
    rw [h5, h5, if_neg (by omega)]
theorem cS2_setG (H : Nat → Bool) (G : Nat → Int) {n i : Nat} (h : i < n) (v : Int) : (cS2 H G n).set (i * 2 + 1) (.int .u64 v) = cS2 H (updI G i v) n := by
  apply List.ext_getElem?
  intro j
  rw [List.getElem?_set]
  by_cases hj : j < n * 2
  · rw [cS2_get hj, cS2_get hj]
    by_cases e : i * 2 + 1 = j
    · rw [if_pos e, if_pos (by rw [cS2_len]; omega)]
      unfold cell2 updI
      rw [if_neg (by omega), if_pos (by omega)]
    · rw [if_neg e]
      unfold cell2
      split
      · rfl
      · unfold updI; rw [if_neg (by omega)]
  · have h5 : ∀ H G, (cS2 H G n)[j]? = none := fun H G => by rw [List.getElem?_eq_none (by rw [cS2_len]; omega)]
    rw [h5, h5, if_neg (by omega)]
theorem cS2_one (H : Nat → Bool) (G : Nat → Int) (n : Nat) : ∀ u ∈ cS2 H G n, u.oneCell' = true := by
  intro v hv
  simp only [cS2, List.mem_map] at hv
  obtain ⟨j, _, rfl⟩ := hv
  unfold cell2; split <;> rfl
theorem SR_news {w : World} {b n : Nat} {H : Nat → Bool} {G : Nat → Int} (h : SR w b n H G) (j : Nat) (u : Value) (hu : (cS2 H G n)[j]? = some u) : w.cell? ((⟨b, 0, none⟩ : Addr).add j) = some u := by
  have hj : j < n * 2 := by have := (List.getElem?_eq_some_iff.1 hu).1; rwa [cS2_len] at this
  rw [cS2_get hj] at hu
  cases hu
  rw [show ((⟨b, 0, none⟩ : Addr).add j) = ⟨b, j, none⟩ by simp only [Addr.add]; split <;> simp_all]
  obtain ⟨h0, h1⟩ := h (j / 2) (by omega)
  unfold cell2
  split
  · rw [show j = j / 2 * 2 by omega, h0, show j / 2 * 2 / 2 = j / 2 by omega]
  · rw [show j = j / 2 * 2 + 1 by omega, h1, show (j / 2 * 2 + 1) / 2 = j / 2 by omega]
end Go.Proofs.Ytlahpnigabfenaa.Gd
