/- Layer 14: ScriptCleans. -/
import Derived.Test.YtnikggdnlijkkaaScrG
import Derived.Test.YtnikggdnlijkkaaScrC
import Derived.Test.YtnikggdnlijkkaaScrD
import Derived.Test.YtnikggdnlijkkaaFrame
namespace Go.Proofs.Ytnikggdnlijkkaa
open Go.RowKit WordM
set_option linter.unusedVariables false
set_option linter.unusedSimpArgs false
abbrev entSh : List Fr.Sh := [.int .i64, .bool, .int .i64, .int .i64, .int .i64, .int .i64, .int .i64]
theorem ent_cells {w : World} {cs : List Value} (h : Fr.Sh.oks w entSh cs) : ∃ e : Ent, cs = ecells e := by
  obtain ⟨_, _, rfl, k0, h⟩ := Fr.get_cons h
  obtain ⟨_, _, rfl, k1, h⟩ := Fr.get_cons h
  obtain ⟨_, _, rfl, k2, h⟩ := Fr.get_cons h
  obtain ⟨_, _, rfl, k3, h⟩ := Fr.get_cons h
  obtain ⟨_, _, rfl, k4, h⟩ := Fr.get_cons h
  obtain ⟨_, _, rfl, k5, h⟩ := Fr.get_cons h
  obtain ⟨_, _, rfl, k6, h⟩ := Fr.get_cons h
  obtain rfl := Fr.get_nil h
  obtain ⟨a, rfl, _⟩ := Fr.get_int k0
  obtain ⟨b, rfl⟩ := Fr.get_bool k1
  obtain ⟨c, rfl, _⟩ := Fr.get_int k2
  obtain ⟨d, rfl, _⟩ := Fr.get_int k3
  obtain ⟨e, rfl, _⟩ := Fr.get_int k4
  obtain ⟨f, rfl, _⟩ := Fr.get_int k5
  obtain ⟨g, rfl, _⟩ := Fr.get_int k6
  exact ⟨⟨a, b, c, d, e, f, g⟩, rfl⟩
theorem ents_open {w : World} {v : Value} (h : Fr.ok1 w (.slice entSh) v) : ∃ n L, ER w v n L := by
  rcases Fr.get_slice h with rfl | ⟨a, len, cap, rfl, h1, h2, h3⟩
  · exact ⟨0, fun _ => ⟨0, false, 0, 0, 0, 0, 0⟩, .nil _⟩
  · rcases (by omega : len = 0 ∨ 0 < len) with rfl | h0
    · exact ⟨0, fun _ => ⟨0, false, 0, 0, 0, 0, 0⟩, .odd a cap _ h2⟩
    · obtain ⟨cs0, h5, h6⟩ := h3 0 (by omega)
      obtain ⟨e, rfl⟩ := ent_cells h6
      have hs : a.spot = none := by
        have h7 := (World.cells?_some h5).2.2 0 (by decide)
        exact World.cell?_spot (by simpa [Addr.add, ecells] using h7)
      obtain ⟨g, off, spot⟩ := a
      simp only at hs
      subst hs
      have hall : ∀ i, ∃ e : Ent, i < len → ∀ j, j < 7 → w.cell? ⟨g, off + (i * 7 + j), none⟩ = (ecells e)[j]? := by
        intro i
        by_cases hi : i < len
        · obtain ⟨cs, h5, h6⟩ := h3 i (by omega)
          obtain ⟨e, rfl⟩ := ent_cells h6
          obtain ⟨_, _, h7⟩ := World.cells?_some h5
          refine ⟨e, fun _ j hj => ?_⟩
          have h8 := h7 j (by exact hj)
          have e1 : ((⟨g, off, none⟩ : Addr).add (i * entSh.length)) = ⟨g, off + i * 7, none⟩ := addE _ _ _
          rw [e1] at h8
          have e2 : ((⟨g, off + i * 7, none⟩ : Addr).add j) = ⟨g, off + (i * 7 + j), none⟩ := by rw [addE, Nat.add_assoc]
          rw [e2] at h8
          rw [h8]
        · exact ⟨⟨0, false, 0, 0, 0, 0, 0⟩, fun h => absurd h hi⟩
      obtain ⟨L, hL⟩ := Classical.axiomOfChoice hall
      exact ⟨len, L, .row g off len cap L h1 h2 hL⟩
end Go.Proofs.Ytnikggdnlijkkaa
