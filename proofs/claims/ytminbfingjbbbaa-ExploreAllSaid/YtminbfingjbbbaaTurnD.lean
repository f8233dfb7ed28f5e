/- Layer 36: lives. -/
import Derived.Test.YtminbfingjbbbaaTurnC
namespace Go.Proofs.Ytminbfingjbbbaa
open Go.RowKit
set_option linter.unusedVariables false
set_option linter.unusedSimpArgs false
set_option maxHeartbeats 2000000 in
theorem lives36_calls (w : World) : Calls Try.prog 6 #[] w fun e w' => e = .returned (.bool true) ∧ Below w.heap.size w w' := by
  refine Calls.veil fun Q HQ => ?_
  go_enter Try.func6, Try.ntmps6
  go_wp2_with fail
  refine (eat w).mono ?_; rintro _ w1 ⟨v, rfl, hP, hb1⟩
  obtain ⟨g, o, c, rfl, h1, h2, H3⟩ := hP.opened (by decide)
  have HB := Lib.hid hb1
  have z0 : ∀ y : Ext w1, y.w.cell? ⟨g, o, none⟩ = some (.int .i64 1) := Ext.cells (by simpa [ky] using (H3.out 0 (by decide)).1)
  have z1 : ∀ y : Ext w1, y.w.cell? ⟨g, o + 2, none⟩ = some (.int .i64 0) := Ext.cells (by simpa [ky] using (H3.out 1 (by decide)).1)
  have z2 : ∀ y : Ext w1, y.w.cell? ⟨g, o + 2 + 1, none⟩ = some (.int .i64 1) := Ext.cells (by simpa [vl] using (H3.out 1 (by decide)).2)
  clear hP hb1 H3
  go_wp2_with fail
  refine (ecount _).mono ?_; rintro _ _ ⟨rfl, rfl⟩
  have c0 := z0 ⟨_, Below.refl _ _⟩; have c1 := z1 ⟨_, Below.refl _ _⟩; have c2 := z2 ⟨_, Below.refl _ _⟩
  simp only at c0 c1 c2
  clear z0 z1 z2
  go_wp2_with fail
  (try go_ret)
  rw [HQ.out]
  exact ⟨rfl, HB.out⟩
end Go.Proofs.Ytminbfingjbbbaa
