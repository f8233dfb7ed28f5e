/- Layer 7: the reference's Take, Drop, New. -/
import Derived.Test.YtlahpnigabfenaaGrdH
import Derived.Deep.RegionWith
namespace Go.Proofs.Ytlahpnigabfenaa.Gd
open Go.RowKit Go.Maps WordM EdgeM
set_option linter.unusedVariables false
set_option linter.unusedSimpArgs false
theorem SR.setOther {w : World} {b n : Nat} {H : Nat → Bool} {G : Nat → Int} (h : SR w b n H G) {k i : Nat} (hb : b ≠ k) (v : Value) : SR (w.setCell ⟨k, i, none⟩ v) b n H G := fun j hj => by
  obtain ⟨h0, h1⟩ := h j hj
  exact ⟨(World.cell?_of_block (Below.heap_setCell _ _ _ _ hb)).trans h0, (World.cell?_of_block (Below.heap_setCell _ _ _ _ hb)).trans h1⟩
theorem below_setC {B : Nat} {w W : World} (h : Below B w W) {b i : Nat} (hb : B ≤ b) (v : Value) : Below B w (W.setCell ⟨b, i, none⟩ v) := h.setCell (p := ⟨b, i, none⟩) hb v
def RPost (w : World) (b n : Nat) (H' : Nat → Bool) (G' : Nat → Int) (s' : Int) (t : Bool) (e : Ending) (w' : World) : Prop :=
  ∃ b' c', e = .returned (.tuple #[xV b' n c' s', .bool t]) ∧ SR w' b' n H' G' ∧ n ≤ c' ∧ c' ≤ 9223372036854775807 ∧ (b' = b ∨ w.heap.size ≤ b') ∧ Below w.heap.size w w'
end Go.Proofs.Ytlahpnigabfenaa.Gd
