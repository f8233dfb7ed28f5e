/- Layer 7: the law's do, same, lives. -/
import Derived.Test.YtlahpnigabfenaaGrdI
namespace Go.Proofs.Ytlahpnigabfenaa.Gd
open Go.RowKit Go.Maps WordM EdgeM
set_option linter.unusedVariables false
set_option linter.unusedSimpArgs false
theorem made_slots (n : Nat) : madeCells #[.bool false, .int .u64 0] (n * 2) = (cS2 (fun _ => false) (fun _ => 0) n).toArray := by
  apply Array.toList_inj.1
  simp [madeCells, cS2]
  intro a ha
  unfold cell2
  rcases (by omega : a % 2 = 0 ∨ a % 2 = 1) with h | h <;> simp [h]
theorem edgeN_bd {n : Nat} {G : Nat → Int} (hG : ∀ i, 0 ≤ G i ∧ G i < 1125899906842624) (slot : Int) : 0 ≤ edgeN n G slot ∧ edgeN n G slot < 18446744073709551616 := by
  unfold edgeN
  split
  · have := makeI_bd slot (hG (slot.toNat - 1)).1
    omega
  · omega
/-- Both guards, alike. -/
structure GB (w : World) (q g m b n c : Nat) (H : Nat → Bool) (G : Nat → Int) (s : Int) : Prop where
  ga : GA w q g m n H G s
  sr : SR w b n H G
  bq : b ≠ q
  bg : b ≠ g
  bm : b ≠ m
  nc : n ≤ c
  cc : c ≤ 9223372036854775807
theorem GB.below {w w' : World} {q g m b n c : Nat} {H : Nat → Bool} {G : Nat → Int} {s : Int} (h : GB w q g m b n c H G s) (k : Below w.heap.size w w') : GB w' q g m b n c H G s :=
  ⟨h.ga.below k, h.sr.below k, h.bq, h.bg, h.bm, h.nc, h.cc⟩
theorem GB.lt {w : World} {q g m b n c : Nat} {H : Nat → Bool} {G : Nat → Int} {s : Int} (h : GB w q g m b n c H G s) : b < w.heap.size :=
  World.block_lt_of_cell? w ⟨b, 0 * 2, none⟩ (h.sr 0 h.ga.n0).1
end Go.Proofs.Ytlahpnigabfenaa.Gd
