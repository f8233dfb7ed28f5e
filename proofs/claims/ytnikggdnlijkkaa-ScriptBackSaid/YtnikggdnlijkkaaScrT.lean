/- Layer 14: script.Same. -/
import Derived.Test.YtnikggdnlijkkaaScrS
namespace Go.Proofs.Ytnikggdnlijkkaa
open Go.RowKit WordM
set_option linter.unusedVariables false
set_option linter.unusedSimpArgs false
theorem eqC (T S K T' S' K' : Int) (w : World) (h : ¬ (T = T' ∧ S = S' ∧ K = K')) :
    (binOp .eql 26 (.agg #[.int .i64 T, .int .i64 S, .int .u64 K]) (.agg #[.int .i64 T', .int .i64 S', .int .u64 K'])).run Try.prog w = .ok (.bool false) w := by
  by_cases h1 : T = T'
  · subst h1
    by_cases h2 : S = S'
    · subst h2
      have h3 : ¬ K = K' := fun e => h ⟨rfl, rfl, e⟩
      clear h
      go_simp
    · clear h
      go_simp
  · clear h
    go_simp
set_option maxHeartbeats 4000000 in
theorem ssame (T S K : Int) (n : Nat) (L : Nat → Ent) (T' S' K' : Int) (n' : Nat) (M : Nat → Ent) (va vb : Value) (w : World) (ha : ER w va n L) (hb : ER w vb n' M) (hn : n ≤ 100000) :
    Calls Try.prog 10 #[.agg #[.int .i64 T, .int .i64 S, .int .u64 K, va], .agg #[.int .i64 T', .int .i64 S', .int .u64 K', vb]] w fun e w' => e = .returned (.bool (sameS T S K n L T' S' K' n' M)) ∧ Below w.heap.size w w' := by
  obtain ⟨p, c, rfl, a1, a2⟩ := ha.slice
  obtain ⟨p', c', rfl, b1, b2⟩ := hb.slice
  by_cases hc : T = T' ∧ S = S' ∧ K = K'
  · obtain ⟨rfl, rfl, rfl⟩ := hc
    have e : sameS T S K n L T S K n' M = (decide (n = n') && sameR L M n) := by simp [sameS]
    rw [e]
    refine Calls.veil fun Q HQ => ?_
    have EQ := fun (w1 : World) (hb1 : Below w.heap.size w w1) => eequal n n' L M _ _ w1 (ha.below hb1) (hb.below hb1) hn
    generalize (decide (n = n') && sameR L M n) = r at EQ HQ
    have EQ := Lib.hid EQ
    clear ha hb
    go_enter Try.func10, Try.ntmps10
    go_wp2_with fail
    refine (EQ.out _ (by (repeat (first | exact Below.refl _ _ | assumption | refine below_new ?_ _ | refine Below.drew ?_ | refine below_drewN ?_ _ | refine below_on ?_ (by assumption))))).mono ?_; rintro _ w2 ⟨rfl, hb2⟩
    have HF := Lib.hid (show Below w.heap.size w w2 from below_on (by (repeat (first | exact Below.refl _ _ | assumption | refine below_new ?_ _ | refine Below.drew ?_ | refine below_drewN ?_ _ | refine below_on ?_ (by assumption)))) hb2)
    clear hb2
    go_wp2_with fail
    (try go_ret)
    rw [HQ.out]
    exact ⟨by first | rfl | simp, HF.out⟩
  · have e : sameS T S K n L T' S' K' n' M = false := by
      unfold sameS
      rw [decide_eq_false (fun h => hc ⟨h.1, h.2.1, h.2.2.1⟩)]; rfl
    rw [e]
    refine Calls.veil fun Q HQ => ?_
    have heq := fun w => eqC T S K T' S' K' w hc
    clear ha hb hc
    go_enter Try.func10, Try.ntmps10
    go_wp2_with fail
    all_goals (try go_ret)
    all_goals (rw [HQ.out]; exact ⟨rfl, by (repeat (first | exact Below.refl _ _ | assumption | refine below_new ?_ _ | refine Below.drew ?_ | refine below_drewN ?_ _ | refine below_on ?_ (by assumption)))⟩)
end Go.Proofs.Ytnikggdnlijkkaa
