/- Layer 38: Rate. -/
import Derived.Test.YtilfgekiblpkaaaStaI
import Derived.Deep.QuietTactic
namespace Go.Proofs.Ytilfgekiblpkaaa
open Go.RowKit
set_option linter.unusedVariables false
set_option linter.unusedSimpArgs false
theorem Ext.drewN' {w : World} {g o : Nat} {v : Value} (h : w.cell? ⟨g, o, none⟩ = some v) : ∀ n, (w.drewN n).cell? ⟨g, o, none⟩ = some v := fun n => by
  have := Ext.cell ⟨w.drewN n, below_drewN (Below.refl _ _) n⟩ h
  exact this
def rateI (a b : Int) : Int := wrap64 ((wrap64 (100 * wrap64 (a - b))).tdiv a)
set_option maxRecDepth 8000 in
set_option maxHeartbeats 4000000 in
theorem srate (G : Nat → Int) (op : Int) (w : World) : Calls Try.prog 13 #[.agg (c42 G).toArray, .int .i64 op] w fun e w' => ∃ (r : Int) (ok : Bool), e = .returned (.tuple #[.int .i64 r, .bool ok]) ∧ ((op < 0 ∨ 14 < op ∨ G op.toNat ≤ 0) → r = 0 ∧ ok = false) ∧ ((0 ≤ op ∧ op ≤ 14 ∧ 0 < G op.toNat) → ok = true ∧ r = rateI (G op.toNat) (G (15 + op.toNat))) ∧ Below w.heap.size w w' := by
  refine Calls.veil fun Q HQ => ?_
  go_enter Try.func13, Try.ntmps13
  go_upto_region 1 with fail
  generalize hV : World.alloc w _ = V
  have HRV := Lib.hid (show R42 V w.heap.size 29 G by rw [← hV]; exact heap_alloc_new w _)
  have HVB := Lib.hid (show Below w.heap.size w V by rw [← hV]; exact below_new (Below.refl _ _) _)
  clear hV
  by_cases h1 : 0 ≤ op
  · by_cases h2 : op < 15
    · obtain ⟨j, rfl⟩ : ∃ j : Nat, op = j := ⟨op.toNat, by omega⟩
      have hj : j < 15 := by omega
      have c0 := HRV.out.cell (i := j) (by omega)
      have c1 := HRV.out.cell (i := 15 + j) (by omega)
      rw [Int.toNat_natCast] at HQ
      clear h1
      by_cases h3 : G j ≤ 0
      · clear c1
        go_wp2_with fail
        (try go_ret2)
        (try go_ret)
        rw [HQ.out]
        exact ⟨0, false, rfl, fun _ => ⟨rfl, rfl⟩, fun h => absurd h3 (by omega), HVB.out⟩
      · go_upto_region 3 with fail
        have c0 := Ext.drewN' c0; have c1 := Ext.drewN' c1
        have hne : ¬ G j = 0 := by omega
        go_quiet (fail)
        clear c0 c1 hne
        have HF := Lib.hid (below_drewN HVB.out nq)
        have H3 := Lib.hid h3
        clear h3
        generalize V.drewN nq = W at *
        go_wp2_with fail
        (try go_ret2)
        (try go_ret)
        rw [HQ.out]
        exact ⟨rateI (G j) (G (15 + j)), true, rfl, fun h => absurd H3.out (by omega), fun _ => ⟨rfl, rfl⟩, HF.out⟩
    · go_wp2_with fail
      (try go_ret2)
      (try go_ret)
      rw [HQ.out]
      exact ⟨0, false, rfl, fun _ => ⟨rfl, rfl⟩, fun h => absurd h2 (by omega), HVB.out⟩
  · go_wp2_with fail
    (try go_ret2)
    (try go_ret)
    rw [HQ.out]
    exact ⟨0, false, rfl, fun _ => ⟨rfl, rfl⟩, fun h => absurd h1 (by omega), HVB.out⟩
end Go.Proofs.Ytilfgekiblpkaaa
