/- Layer 8: the chapter's example; how an argument is opened. -/
import Derived.Test.YtkgfhomoipbjoaaDoorPairF
import Derived.Test.YtkgfhomoipbjoaaDoorFrame
namespace Go.Proofs.YtkgfhomoipbjoaaDoor
open Go.RowKit
set_option linter.unusedVariables false
set_option linter.unusedSimpArgs false

theorem PR_of {w : World} {g o c n : Nat} (hc : n ≤ c) (hm : c ≤ 9223372036854775807) (f : Nat → Int × Int) (h : ∀ i, i < n → w.cell? ⟨g, o + i * 2, none⟩ = some (.int .i64 (f i).1) ∧ w.cell? ⟨g, o + i * 2 + 1, none⟩ = some (.int .i64 (f i).2)) : PR w (.slice (some ⟨g, o, none⟩) n c) ((List.range n).map f) := by
  refine .mkrow (by simp) hc hm fun i hi => ?_
  simp at hi
  have e1 : ky ((List.range n).map f) i = (f i).1 := by simp [ky, List.getD_eq_getElem?_getD, List.getElem?_map, List.getElem?_range hi]
  have e2 : vl ((List.range n).map f) i = (f i).2 := by simp [vl, List.getD_eq_getElem?_getD, List.getElem?_map, List.getElem?_range hi]
  rw [e1, e2]; exact h i hi
abbrev pairSh : List Fr.Sh := [.int .i64, .int .i64]
theorem pair_cells {w : World} {cs : List Value} (h : Fr.Sh.oks w pairSh cs) : ∃ k x : Int, cs = [.int .i64 k, .int .i64 x] := by
  obtain ⟨_, _, rfl, k0, h⟩ := Fr.get_cons h
  obtain ⟨_, _, rfl, k1, h⟩ := Fr.get_cons h
  obtain rfl := Fr.get_nil h
  obtain ⟨k, rfl, _⟩ := Fr.get_int k0
  obtain ⟨x, rfl, _⟩ := Fr.get_int k1
  exact ⟨k, x, rfl⟩
theorem pairs_open {w : World} {v : Value} (h : Fr.ok1 w (.slice pairSh) v) : ∃ l, PR w v l := by
  rcases Fr.get_slice h with rfl | ⟨a, len, cap, rfl, h1, h2, h3⟩
  · exact ⟨[], .nil⟩
  · rcases (by omega : len = 0 ∨ 0 < len) with rfl | h0
    · exact ⟨[], .odd a cap h2⟩
    · obtain ⟨cs0, h5, h6⟩ := h3 0 (by omega)
      obtain ⟨k, x, rfl⟩ := pair_cells h6
      have hs : a.spot = none := by
        have h7 := (World.cells?_some h5).2.2 0 (by decide)
        exact World.cell?_spot (by simpa [Addr.add] using h7)
      obtain ⟨g, off, spot⟩ := a
      simp only at hs
      subst hs
      have hall : ∀ i, ∃ p : Int × Int, i < len → w.cell? ⟨g, off + i * 2, none⟩ = some (.int .i64 p.1) ∧ w.cell? ⟨g, off + i * 2 + 1, none⟩ = some (.int .i64 p.2) := by
        intro i
        by_cases hi : i < len
        · obtain ⟨cs, h5, h6⟩ := h3 i (by omega)
          obtain ⟨k, x, rfl⟩ := pair_cells h6
          obtain ⟨_, _, h7⟩ := World.cells?_some h5
          have e : ((⟨g, off, none⟩ : Addr).add (i * pairSh.length)) = ⟨g, off + i * 2, none⟩ := addP _ _ _
          rw [e] at h7
          refine ⟨(k, x), fun _ => ⟨?_, ?_⟩⟩
          · simpa [Addr.add] using h7 0 (by decide)
          · simpa [Addr.add] using h7 1 (by decide)
        · exact ⟨(0, 0), fun h => absurd h hi⟩
      obtain ⟨f, hf⟩ := Classical.axiomOfChoice hall
      exact ⟨_, PR_of h1 h2 f hf⟩

end Go.Proofs.YtkgfhomoipbjoaaDoor
