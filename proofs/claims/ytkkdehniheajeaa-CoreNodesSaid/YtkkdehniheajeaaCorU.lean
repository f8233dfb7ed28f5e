/- Layer 16: the reference's At; a thread within nothing, copied. -/
import Derived.Test.YtkkdehniheajeaaCorT
namespace Go.Proofs.Ytkkdehniheajeaa
open Go.RowKit WordM EdgeM
set_option linter.unusedVariables false
set_option linter.unusedSimpArgs false
set_option maxRecDepth 8000 in
set_option maxHeartbeats 1000000 in
theorem rat (t s : Nat) (K sl fi : Int) (w : World) (t2 : t ≤ 6) (s2 : s ≤ 250) :
    Calls Try.prog 60 #[.agg #[.int .i64 t, .int .i64 s, .int .u64 K], .int .i64 sl, .int .i64 fi] w fun e w' => e = .returned (.int .i64 (nodeI t s sl fi)) ∧ Below w.heap.size w w' := by
  refine Calls.veil fun Q HQ => ?_
  by_cases hc : 1 ≤ sl ∧ sl ≤ s ∧ 0 ≤ fi ∧ fi < 7
  · have HN := Lib.hid (show nodeI t s sl fi = 3 + 8 * (t : Int) + 7 * (sl - 1) + fi from by unfold nodeI; rw [if_pos hc]; omega)
    obtain ⟨h1, h2, h3, h4⟩ := hc
    have g1 : ¬ sl < 1 := by omega
    have g2 : ¬ (s : Int) < sl := by omega
    have g3 : ¬ fi < 0 := by omega
    have g4 : ¬ 6 < fi := by omega
    go_enter Try.func60, Try.ntmps60
    go_upto_region 1 with fail
    generalize hV : World.alloc _ _ = U
    obtain ⟨u0, hbu⟩ := Th.heapnewE hV
    have o0 := Th.newcell u0 0 _ rfl; have o1 := Th.newcell u0 1 _ rfl
    have HB := Lib.hid hbu
    clear hV u0 hbu
    go_wp2_with fail
    (try go_ret)
    rw [HQ.out]
    exact ⟨by first | (rw [HN.out]; done) | (rw [HN.out]; rfl), HB.out⟩
  · have HN := Lib.hid (show nodeI t s sl fi = -1 from by unfold nodeI; rw [if_neg hc])
    rcases (by omega : sl < 1 ∨ (¬ sl < 1 ∧ (s : Int) < sl) ∨ (¬ sl < 1 ∧ ¬ (s : Int) < sl ∧ fi < 0) ∨ (¬ sl < 1 ∧ ¬ (s : Int) < sl ∧ ¬ fi < 0 ∧ 6 < fi)) with g1 | ⟨g1, g2⟩ | ⟨g1, g2, g3⟩ | ⟨g1, g2, g3, g4⟩
    all_goals
      clear hc
      go_enter Try.func60, Try.ntmps60
      go_upto_region 1 with fail
      generalize hV : World.alloc _ _ = U
      obtain ⟨u0, hbu⟩ := Th.heapnewE hV
      have o0 := Th.newcell u0 0 _ rfl; have o1 := Th.newcell u0 1 _ rfl
      have HB := Lib.hid hbu
      clear hV u0 hbu
      go_wp2_with fail
      (try go_ret)
      rw [HQ.out]
      exact ⟨by first | (rw [HN.out]; done) | (rw [HN.out]; rfl), HB.out⟩
/-! ### Clones of nothing -/
theorem u64sU : Try.prog.underlying 44 = some (.slice 22) := by kernel_rfl
theorem pairsU : Try.prog.underlying 58 = some (.slice 138) := by kernel_rfl
theorem clone0_u (w : World) : Calls Try.prog 62 #[.slice none 0 0] w fun e w' => e = .returned (.slice none 0 0) ∧ w = w' := by
  have qN : ∀ (w : World), (binOp .eql 44 (.slice none 0 0) (.slice none 0 0)).run Try.prog w = .ok (.bool true) w := fun w => Go.run_eql_slice_nil w _ _ none 0 0 u64sU
  go_enter Try.func62, Try.ntmps62
  go_wp2_with fail
  go_ret
  exact ⟨rfl, rfl⟩
theorem clone0_p (w : World) : Calls Try.prog 78 #[.slice none 0 0] w fun e w' => e = .returned (.slice none 0 0) ∧ w = w' := by
  have qN : ∀ (w : World), (binOp .eql 58 (.slice none 0 0) (.slice none 0 0)).run Try.prog w = .ok (.bool true) w := fun w => Go.run_eql_slice_nil w _ _ none 0 0 pairsU
  go_enter Try.func78, Try.ntmps78
  go_wp2_with fail
  go_ret
  exact ⟨rfl, rfl⟩
end Go.Proofs.Ytkkdehniheajeaa
