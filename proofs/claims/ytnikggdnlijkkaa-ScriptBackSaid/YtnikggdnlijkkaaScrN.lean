/- Layer 14: the reference's Same, of any two scripts. -/
import Derived.Test.YtnikggdnlijkkaaScrL
namespace Go.Proofs.Ytnikggdnlijkkaa
open Go.RowKit WordM
set_option linter.unusedVariables false
set_option linter.unusedSimpArgs false
theorem neqC (T S K T' S' K' : Int) (w : World) (h : ¬ (T = T' ∧ S = S' ∧ K = K')) :
    (binOp .neq 26 (.agg #[.int .i64 T, .int .i64 S, .int .u64 K]) (.agg #[.int .i64 T', .int .i64 S', .int .u64 K'])).run Try.prog w = .ok (.bool true) w := by
  by_cases h1 : T = T'
  · subst h1
    by_cases h2 : S = S'
    · subst h2
      have h3 : ¬ K = K' := fun e => h ⟨rfl, rfl, e⟩
      clear h
      go_simp
    · clear h
      go_simp
  · clear h
    go_simp
set_option maxHeartbeats 4000000 in
theorem rsame (T S K : Int) (n : Nat) (L : Nat → Ent) (T' S' K' : Int) (n' : Nat) (M : Nat → Ent) (va vb : Value) (w : World) (ha : ER w va n L) (hb : ER w vb n' M) (hn : n ≤ 100000) :
    Calls Try.prog 8 #[.agg #[.int .i64 T, .int .i64 S, .int .u64 K, va], .agg #[.int .i64 T', .int .i64 S', .int .u64 K', vb]] w fun e w' => e = .returned (.bool (sameS T S K n L T' S' K' n' M)) ∧ Below w.heap.size w w' := by
  by_cases hc : T = T' ∧ S = S' ∧ K = K'
  · obtain ⟨rfl, rfl, rfl⟩ := hc
    by_cases hl : n = n'
    · subst hl
      have e : sameS T S K n L T S K n M = sameR L M n := by simp [sameS]
      rw [e]
      exact rsameL T S K n L M va vb w ha hb hn
    · have e : sameS T S K n L T S K n' M = false := by simp [sameS, hl]
      rw [e]
      refine Calls.veil fun Q HQ => ?_
      obtain ⟨p, c, rfl, a1, a2⟩ := ha.slice
      obtain ⟨p', c', rfl, b1, b2⟩ := hb.slice
      clear ha hb
      go_enter Try.func8, Try.ntmps8
      go_wp2_with fail
      all_goals (try go_ret)
      all_goals (rw [HQ.out]; exact ⟨rfl, by (repeat (first | exact Below.refl _ _ | assumption | refine below_new ?_ _ | refine Below.drew ?_ | refine below_drewN ?_ _ | refine below_on ?_ (by assumption)))⟩)
  · have e : sameS T S K n L T' S' K' n' M = false := by
      unfold sameS
      rw [decide_eq_false (fun h => hc ⟨h.1, h.2.1, h.2.2.1⟩)]; rfl
    rw [e]
    refine Calls.veil fun Q HQ => ?_
    obtain ⟨p, c, rfl, a1, a2⟩ := ha.slice
    obtain ⟨p', c', rfl, b1, b2⟩ := hb.slice
    have hneq := fun w => neqC T S K T' S' K' w hc
    clear ha hb hc
    go_enter Try.func8, Try.ntmps8
    go_wp2_with fail
    all_goals (try go_ret)
    all_goals (rw [HQ.out]; exact ⟨rfl, by (repeat (first | exact Below.refl _ _ | assumption | refine below_new ?_ _ | refine Below.drew ?_ | refine below_drewN ?_ _ | refine below_on ?_ (by assumption)))⟩)
end Go.Proofs.Ytnikggdnlijkkaa
