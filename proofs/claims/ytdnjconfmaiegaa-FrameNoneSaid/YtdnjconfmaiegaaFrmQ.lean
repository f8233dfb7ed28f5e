/- Layer 15: arrays of words are like themselves. -/
import Derived.Test.YtdnjconfmaiegaaFrmD
import Derived.Laws.StructEq
import Derived.ChangeKeysEq
namespace Go.Proofs.Ytdnjconfmaiegaa
open Go.RowKit
set_option linter.unusedVariables false
set_option linter.unusedSimpArgs false
theorem u64T : Try.prog.underlying 27 = some (.int .u64) := by kernel_rfl
theorem u24 : Try.prog.underlying 55 = some (.array 24 27) := by kernel_rfl
theorem u12' : Try.prog.underlying 28 = some (.array 12 27) := by kernel_rfl
theorem cells64 : Try.prog.cellsOf 27 = 1 := by kernel_rfl
theorem eq_words (d n : Nat) (t : TypeId) (ht : Try.prog.underlying t = some (.array n 27)) (f : Nat → Int) (w : World) : (Op.equalIn (d + 2) t (.agg (ucells n f).toArray) (.agg (ucells n f).toArray)).run Try.prog w = .ok true w := by
  obtain ⟨i0, hi, _, hs, _⟩ := info_one infoU64
  rw [run_equalIn_array w (d + 1) _ _ ht hi, cells64]
  have key : ∀ is : List Nat, (∀ i ∈ is, i < n) → (Op.eqItems (d + 1) 27 1 (ucells n f).toArray (ucells n f).toArray is).run Try.prog w = .ok true w := by
    intro is
    induction is with
    | nil => intro _; simp [Op.eqItems]
    | cons j is ih =>
      intro h
      have hj : j < n := h j (by simp)
      have px : (part 27 (ucells n f).toArray (j * 1)).run Try.prog w = .ok (.int .u64 (f j)) w := by
        simp [part, isAgg, run_underlying u64T, ucells, hj]
      have pe : (Op.equalIn (d + 1) 27 (.int .u64 (f j)) (.int .u64 (f j))).run Try.prog w = .ok true w := by
        rw [run_equalIn_int w d 27 .u64 .u64 _ _ u64T]; simp
      simp only [Op.eqItems, Sem.run_bind, px, pe, Result.andThen_ok, Bool.not_true, Bool.false_eq_true, if_false]
      exact ih fun i hi => h i (by simp [hi])
  exact key _ fun i hi => List.mem_range.1 hi
end Go.Proofs.Ytdnjconfmaiegaa
