/- Layer 7: the reference's guard; New of both. -/
import Derived.Test.YtlahpnigabfenaaGrdB
import Derived.Test.YtlahpnigabfenaaExt
import Derived.Deep.Cut
namespace Go.Proofs.Ytlahpnigabfenaa.Gd
open Go.RowKit Go.Maps WordM EdgeM
set_option linter.unusedVariables false
set_option linter.unusedSimpArgs false
def cS (H : Nat → Bool) (G : Nat → Int) (n : Nat) : List Value := (List.range n).flatMap fun i => [.bool (H i), .int .u64 (G i)]
/-- The slots of the reference's guard, as they are read. -/
def SR (w : World) (b n : Nat) (H : Nat → Bool) (G : Nat → Int) : Prop := ∀ i, i < n → w.cell? ⟨b, i * 2, none⟩ = some (.bool (H i)) ∧ w.cell? ⟨b, i * 2 + 1, none⟩ = some (.int .u64 (G i))
def xV (b n c : Nat) (s : Int) : Value := .agg #[.slice (some ⟨b, 0, none⟩) n c, .int .i64 s]
theorem SR.below {w w' : World} {b n : Nat} {H : Nat → Bool} {G : Nat → Int} (h : SR w b n H G) (k : Below w.heap.size w w') : SR w' b n H G := fun i hi => by
  obtain ⟨h0, h1⟩ := h i hi
  exact ⟨Ext.cell ⟨w', k⟩ h0, Ext.cell ⟨w', k⟩ h1⟩
theorem SR.k3 {w w' : World} {q g m b n : Nat} {H : Nat → Bool} {G : Nat → Int} (h : SR w b n H G) (k : K3 w w' q g m) (h1 : b ≠ q) (h2 : b ≠ g) (h3 : b ≠ m) : SR w' b n H G := fun i hi => by
  obtain ⟨c0, c1⟩ := h i hi
  have hb := k.block b (World.block_lt_of_cell? w ⟨b, i * 2, none⟩ c0) h1 h2 h3
  exact ⟨(World.cell?_of_block (a := ⟨b, i * 2, none⟩) hb).trans c0, (World.cell?_of_block (a := ⟨b, i * 2 + 1, none⟩) hb).trans c1⟩
def putI (s g : Int) (f t : Bool) : Int := s + 4096 * g + (if f then 4611686018427387904 else 0) + (if t then 9223372036854775808 else 0)
end Go.Proofs.Ytlahpnigabfenaa.Gd
