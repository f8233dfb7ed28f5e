/- Layer 40: the walk of TraceReplays. -/
import Derived.Test.YtpdcgpghimjenaaDoorTrcD
namespace Go.Proofs.YtpdcgpghimjenaaDoor
open Go.RowKit
set_option linter.unusedVariables false
theorem ur_open {w : World} {v : Value} (h : Fr.ok1 w (.slice [.int .u64]) v) : ∃ n f, UR w v n f := by
  rcases Fr.get_slice h with rfl | ⟨a, len, cap, rfl, h1, h2, h3⟩
  · exact ⟨0, fun _ => 0, .nil _⟩
  · rcases (by omega : len = 0 ∨ 0 < len) with rfl | h0
    · exact ⟨0, fun _ => 0, .odd a cap _ h2⟩
    · have key : ∀ i, i < len → ∃ n : Int, w.cell? (a.add i) = some (.int .u64 n) := by
        intro i hi
        obtain ⟨cs, h5, h6⟩ := h3 i (by omega)
        obtain ⟨_, _, rfl, k0, h6⟩ := Fr.get_cons h6
        obtain rfl := Fr.get_nil h6
        obtain ⟨n, rfl, _⟩ := Fr.get_int k0
        obtain ⟨_, _, h7⟩ := World.cells?_some h5
        have h8 := h7 0 (by simp)
        refine ⟨n, ?_⟩
        have e : (a.add (i * [Fr.Sh.int IntKind.u64].length)).add 0 = a.add i := by simp [Addr.add]
        rw [e] at h8; simpa using h8
      obtain ⟨n0, k0⟩ := key 0 h0
      have hs : a.spot = none := World.cell?_spot (by simpa [Addr.add] using k0)
      obtain ⟨g, off, spot⟩ := a
      simp only at hs
      subst hs
      have hall : ∀ i, ∃ n : Int, i < len → w.cell? ⟨g, off + i, none⟩ = some (.int .u64 n) := by
        intro i
        by_cases hi : i < len
        · obtain ⟨n, hn⟩ := key i hi
          rw [addP] at hn
          exact ⟨n, fun _ => hn⟩
        · exact ⟨0, fun h => absurd h hi⟩
      obtain ⟨f, hf⟩ := Classical.axiomOfChoice hall
      exact ⟨len, f, .row g off len cap f h1 h2 hf⟩
theorem cr_open {w : World} {v : Value} (h : Fr.ok1 w (.slice [.int .i64, .int .u64, .int .u64]) v) : ∃ n L, CR w v n L := by
  rcases Fr.get_slice h with rfl | ⟨a, len, cap, rfl, h1, h2, h3⟩
  · exact ⟨0, fun _ => ⟨0, 0, 0⟩, .nil _⟩
  · rcases (by omega : len = 0 ∨ 0 < len) with rfl | h0
    · exact ⟨0, fun _ => ⟨0, 0, 0⟩, .odd a cap _ h2⟩
    · have cs3 : ∀ {cs : List Value}, Fr.Sh.oks w [.int .i64, .int .u64, .int .u64] cs → ∃ x y z : Int, cs = [.int .i64 x, .int .u64 y, .int .u64 z] := by
        intro cs h
        obtain ⟨_, _, rfl, k0, h⟩ := Fr.get_cons h
        obtain ⟨_, _, rfl, k1, h⟩ := Fr.get_cons h
        obtain ⟨_, _, rfl, k2, h⟩ := Fr.get_cons h
        obtain rfl := Fr.get_nil h
        obtain ⟨x, rfl, _⟩ := Fr.get_int k0
        obtain ⟨y, rfl, _⟩ := Fr.get_int k1
        obtain ⟨z, rfl, _⟩ := Fr.get_int k2
        exact ⟨x, y, z, rfl⟩
      obtain ⟨cs0, h5, h6⟩ := h3 0 (by omega)
      obtain ⟨x, y, z, rfl⟩ := cs3 h6
      have hs : a.spot = none := by
        have h7 := (World.cells?_some h5).2.2 0 (by decide)
        exact World.cell?_spot (by simpa [Addr.add] using h7)
      obtain ⟨g, off, spot⟩ := a
      simp only at hs
      subst hs
      have hall : ∀ i, ∃ c : Ch, i < len → w.cell? ⟨g, off + i * 3, none⟩ = some (.int .i64 c.at_) ∧ w.cell? ⟨g, off + i * 3 + 1, none⟩ = some (.int .u64 c.was) ∧ w.cell? ⟨g, off + i * 3 + 2, none⟩ = some (.int .u64 c.is_) := by
        intro i
        by_cases hi : i < len
        · obtain ⟨cs, h5, h6⟩ := h3 i (by omega)
          obtain ⟨x, y, z, rfl⟩ := cs3 h6
          obtain ⟨_, _, h7⟩ := World.cells?_some h5
          have e : ((⟨g, off, none⟩ : Addr).add (i * [Fr.Sh.int IntKind.i64, Fr.Sh.int IntKind.u64, Fr.Sh.int IntKind.u64].length)) = ⟨g, off + i * 3, none⟩ := addP _ _ _
          rw [e] at h7
          refine ⟨⟨x, y, z⟩, fun _ => ⟨?_, ?_, ?_⟩⟩
          · simpa [Addr.add] using h7 0 (by decide)
          · simpa [Addr.add] using h7 1 (by decide)
          · simpa [Addr.add] using h7 2 (by decide)
        · exact ⟨⟨0, 0, 0⟩, fun h => absurd h hi⟩
      obtain ⟨L, hL⟩ := Classical.axiomOfChoice hall
      exact ⟨len, L, .row g off len cap L h1 h2 hL⟩
theorem traceReplays_walk (v0 v1 : Value) (w : World) (s0 : Fr.ok1 w (.slice [.int .u64]) v0) (s1 : Fr.ok1 w (.slice [.int .i64, .int .u64, .int .u64]) v1) :
    Calls Tryd.prog 4 #[v0, v1] w fun e w' => e = .returned (.bool true) ∧ Below w.heap.size w w' := by
  obtain ⟨n, f, h⟩ := ur_open s0
  obtain ⟨m, L, hl⟩ := cr_open s1
  exact treplays n m f L v0 v1 w h hl
end Go.Proofs.YtpdcgpghimjenaaDoor
