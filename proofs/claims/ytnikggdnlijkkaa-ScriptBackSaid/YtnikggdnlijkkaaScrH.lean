/- Layer 14: which entries may be written. -/
import Derived.Test.YtnikggdnlijkkaaScrG
namespace Go.Proofs.Ytnikggdnlijkkaa
open Go.RowKit WordM
set_option linter.unusedVariables false
set_option linter.unusedSimpArgs false
def bareE (e : Ent) : Bool := decide (e.op = 0 ∧ e.key = 0 ∧ e.val = 0 ∧ e.hi = 0 ∧ e.lim = 0)
def rightE (e : Ent) : Bool := decide (0 ≤ e.th ∧ e.th ≤ 63) && (if e.bg then decide (0 ≤ e.op ∧ e.op ≤ 255 ∧ 0 ≤ e.lim ∧ e.lim ≤ 65535) else bareE e)
set_option maxHeartbeats 2000000 in
theorem swrong (th : Int) (bg : Bool) (op key val hi lim : Int) (w : World) :
    Calls Try.prog 29 #[.agg #[.int .i64 th, .bool bg, .int .i64 op, .int .i64 key, .int .i64 val, .int .i64 hi, .int .i64 lim]] w fun e w' => e = .returned (.bool (!rightE ⟨th, bg, op, key, val, hi, lim⟩)) ∧ Below w.heap.size w w' := by
  refine Calls.veil fun Q HQ => ?_
  rcases (by omega : th < 0 ∨ 63 < th ∨ (0 ≤ th ∧ th ≤ 63)) with h | h | ⟨h, h'⟩
  · have HN : ¬ (0 ≤ th ∧ th ≤ 63) := by omega
    go_enter Try.func29, Try.ntmps29
    go_wp2_with fail
    all_goals (try go_ret)
    all_goals (rw [HQ.out]; refine ⟨?_, by (repeat (first | exact Below.refl _ _ | assumption | refine below_new ?_ _ | refine Below.drew ?_ | refine below_drewN ?_ _ | refine below_on ?_ (by assumption)))⟩)
    all_goals (first | (simp_all [rightE, bareE]; done) | (simp_all [rightE, bareE]; omega) | (by_cases hl : lim ≤ 65535 <;> simp_all [rightE, bareE] <;> omega))
  · have HN : ¬ (0 ≤ th ∧ th ≤ 63) := by omega
    go_enter Try.func29, Try.ntmps29
    go_wp2_with fail
    all_goals (try go_ret)
    all_goals (rw [HQ.out]; refine ⟨?_, by (repeat (first | exact Below.refl _ _ | assumption | refine below_new ?_ _ | refine Below.drew ?_ | refine below_drewN ?_ _ | refine below_on ?_ (by assumption)))⟩)
    all_goals (first | (simp_all [rightE, bareE]; done) | (simp_all [rightE, bareE]; omega) | (by_cases hl : lim ≤ 65535 <;> simp_all [rightE, bareE] <;> omega))
  · cases bg with
    | false =>
      go_enter Try.func29, Try.ntmps29
      go_wp2_with fail
      all_goals (try go_ret)
      all_goals (rw [HQ.out]; refine ⟨?_, by (repeat (first | exact Below.refl _ _ | assumption | refine below_new ?_ _ | refine Below.drew ?_ | refine below_drewN ?_ _ | refine below_on ?_ (by assumption)))⟩)
      all_goals (first | (simp_all [rightE, bareE]; done) | (simp_all [rightE, bareE]; omega) | (by_cases hl : lim ≤ 65535 <;> simp_all [rightE, bareE] <;> omega))
    | true =>
      go_enter Try.func29, Try.ntmps29
      go_wp2_with fail
      all_goals (try go_ret)
      all_goals (rw [HQ.out]; refine ⟨?_, by (repeat (first | exact Below.refl _ _ | assumption | refine below_new ?_ _ | refine Below.drew ?_ | refine below_drewN ?_ _ | refine below_on ?_ (by assumption)))⟩)
      all_goals (first | (simp_all [rightE, bareE]; done) | (simp_all [rightE, bareE]; omega) | (by_cases hl : lim ≤ 65535 <;> simp_all [rightE, bareE] <;> omega))
end Go.Proofs.Ytnikggdnlijkkaa
