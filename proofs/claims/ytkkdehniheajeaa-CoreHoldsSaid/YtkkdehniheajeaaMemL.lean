/- Layer 6's laws: MemNone. -/
import Derived.Test.YtkkdehniheajeaaMemE
import Derived.Test.YtkkdehniheajeaaFrame
namespace Go.Proofs.Ytkkdehniheajeaa.Mm
open Go.RowKit
set_option linter.unusedVariables false
set_option linter.unusedSimpArgs false

theorem wf64m {n : Int} (h : (Lit.int .i64 n).wf = true) : -9223372036854775808 ≤ n ∧ n < 9223372036854775808 := by
  simp [Lit.wf, IntKind.min, IntKind.max, IntKind.signed, IntKind.bits] at h; omega
theorem wfu64m {n : Int} (h : (Lit.int .u64 n).wf = true) : 0 ≤ n ∧ n < 18446744073709551616 := by
  simp [Lit.wf, IntKind.min, IntKind.max, IntKind.signed, IntKind.bits] at h; omega

/-- The cells of an access. -/
def OpCells (w : World) (g off : Nat) (k a c is old x : Int) : Prop :=
  w.cell? ⟨g, off, none⟩ = some (.int .i64 k) ∧ w.cell? ⟨g, off + 1, none⟩ = some (.int .i64 a) ∧ w.cell? ⟨g, off + 2, none⟩ = some (.int .i64 c) ∧ w.cell? ⟨g, off + 3, none⟩ = some (.int .u64 is) ∧ w.cell? ⟨g, off + 4, none⟩ = some (.int .u64 old) ∧ w.cell? ⟨g, off + 5, none⟩ = some (.int .u64 x) ∧
    (0 ≤ is ∧ is < 18446744073709551616) ∧ (0 ≤ old ∧ old < 18446744073709551616) ∧ (0 ≤ x ∧ x < 18446744073709551616)
theorem OpCells.below {w w' : World} {g off : Nat} {k a c is old x : Int} (h : OpCells w g off k a c is old x) (hb : Below w.heap.size w w') : OpCells w' g off k a c is old x := by
  obtain ⟨h0, h1, h2, h3, h4, h5, r⟩ := h
  exact ⟨Ext.use (Ext.cells h0) hb, Ext.use (Ext.cells h1) hb, Ext.use (Ext.cells h2) hb, Ext.use (Ext.cells h3) hb, Ext.use (Ext.cells h4) hb, Ext.use (Ext.cells h5) hb, r⟩
def opSh : List Fr.Sh := [.int .i64, .int .i64, .int .i64, .int .u64, .int .u64, .int .u64]
theorem op_cells {w : World} {cs : List Value} (h : Fr.Sh.oks w opSh cs) : ∃ k a c is old x : Int, cs = [.int .i64 k, .int .i64 a, .int .i64 c, .int .u64 is, .int .u64 old, .int .u64 x] ∧ (0 ≤ is ∧ is < 18446744073709551616) ∧ (0 ≤ old ∧ old < 18446744073709551616) ∧ (0 ≤ x ∧ x < 18446744073709551616) := by
  obtain ⟨_, _, rfl, k0, h⟩ := Fr.get_cons h
  obtain ⟨_, _, rfl, k1, h⟩ := Fr.get_cons h
  obtain ⟨_, _, rfl, k2, h⟩ := Fr.get_cons h
  obtain ⟨_, _, rfl, k3, h⟩ := Fr.get_cons h
  obtain ⟨_, _, rfl, k4, h⟩ := Fr.get_cons h
  obtain ⟨_, _, rfl, k5, h⟩ := Fr.get_cons h
  obtain rfl := Fr.get_nil h
  obtain ⟨k, rfl, _⟩ := Fr.get_int k0
  obtain ⟨a, rfl, _⟩ := Fr.get_int k1
  obtain ⟨c, rfl, _⟩ := Fr.get_int k2
  obtain ⟨is, rfl, w1⟩ := Fr.get_int k3
  obtain ⟨old, rfl, w2⟩ := Fr.get_int k4
  obtain ⟨x, rfl, w3⟩ := Fr.get_int k5
  exact ⟨k, a, c, is, old, x, rfl, wfu64m w1, wfu64m w2, wfu64m w3⟩
theorem ops_open {w : World} {v : Value} (h : Fr.ok1 w (.slice opSh) v) : ∃ ao len cap, v = .slice ao len cap ∧ len ≤ cap ∧ cap ≤ 9223372036854775807 ∧ ∀ i, i < len → ∃ g off, ao = some ⟨g, off, none⟩ ∧ ∃ k a c is old x, OpCells w g (off + i * 6) k a c is old x := by
  rcases Fr.get_slice h with rfl | ⟨a, len, cap, rfl, h1, h2, h3⟩
  · exact ⟨none, 0, 0, rfl, Nat.le_refl _, by decide, fun i hi => by omega⟩
  · refine ⟨some a, len, cap, rfl, h1, h2, fun i hi => ?_⟩
    obtain ⟨cs0, h5, h6⟩ := h3 0 (by omega)
    obtain ⟨k, a1, c, is, old, x, rfl, _⟩ := op_cells h6
    have hs : a.spot = none := by
      have h7 := (World.cells?_some h5).2.2 0 (by decide)
      exact World.cell?_spot (by simpa [Addr.add] using h7)
    obtain ⟨g, off, spot⟩ := a
    simp only at hs
    subst hs
    obtain ⟨cs, h5, h6⟩ := h3 i (by omega)
    obtain ⟨k, a1, c, is, old, x, rfl, r⟩ := op_cells h6
    obtain ⟨_, _, h7⟩ := World.cells?_some h5
    have e : ((⟨g, off, none⟩ : Addr).add (i * opSh.length)) = ⟨g, off + i * 6, none⟩ := by
      simp [Addr.add, opSh] <;> (intro hh; subst hh; rfl)
    rw [e] at h7
    refine ⟨g, off, rfl, k, a1, c, is, old, x, ?_, ?_, ?_, ?_, ?_, ?_, r⟩
    · simpa [Addr.add] using h7 0 (by decide)
    · simpa [Addr.add] using h7 1 (by decide)
    · simpa [Addr.add] using h7 2 (by decide)
    · simpa [Addr.add] using h7 3 (by decide)
    · simpa [Addr.add] using h7 4 (by decide)
    · simpa [Addr.add] using h7 5 (by decide)
end Go.Proofs.Ytkkdehniheajeaa.Mm
