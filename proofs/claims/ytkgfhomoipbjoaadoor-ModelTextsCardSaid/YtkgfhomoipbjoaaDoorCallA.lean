/- Layer 9's contracts: which calls may be; what they do. -/
import Derived.Test.YtkgfhomoipbjoaaDoorPairL
namespace Go.Proofs.YtkgfhomoipbjoaaDoor
open Go.RowKit
set_option linter.unusedVariables false
set_option linter.unusedSimpArgs false

def mayB (op key hi limit : Int) : Bool := decide ((op = 3 ∧ key ≤ hi ∧ 1 ≤ limit ∧ limit ≤ 1000) ∨ ((op = 4 ∨ op = 9) ∧ key ≤ hi) ∨ (op ≠ 3 ∧ op ≠ 4 ∧ op ≠ 9 ∧ 0 ≤ op ∧ op ≤ 14))
def readsB (op : Int) : Bool := decide (3 ≤ op ∧ op ≤ 9)
def changesB (op : Int) : Bool := decide (op = 0 ∨ op = 1)
def pairB (op : Int) : Bool := decide (op = 1 ∨ op = 2 ∨ (4 < op ∧ op < 9) ∨ op = 10)
theorem neq_b {a b : Int} (h : a ≠ b) : (a == b) = false := by rw [beq_eq_false_iff_ne]; exact h

set_option maxHeartbeats 1000000 in
theorem cmay (op key val hi limit : Int) (w : World) :
    Calls Tryd.prog 43 #[.agg #[.int .i64 op, .int .i64 key, .int .i64 val, .int .i64 hi, .int .i64 limit]] w fun e w' => e = .returned (.bool (mayB op key hi limit)) ∧ Below w.heap.size w w' := by
  refine Calls.veil fun Q HQ => ?_
  rcases (by omega : op = 3 ∨ op = 4 ∨ op = 9 ∨ (op ≠ 3 ∧ op ≠ 4 ∧ op ≠ 9)) with rfl | rfl | rfl | ⟨n3, n4, n9⟩
  · rcases (by omega : hi < key ∨ (key ≤ hi ∧ limit < 1) ∨ (key ≤ hi ∧ 1 ≤ limit ∧ 1000 < limit) ∨ (key ≤ hi ∧ 1 ≤ limit ∧ limit ≤ 1000)) with h1 | ⟨h1, h2⟩ | ⟨h1, h2, h3⟩ | ⟨h1, h2, h3⟩
    all_goals
      go_enter Tryd.func43, Tryd.ntmps43
      go_wp2_with fail
      (try go_ret)
      rw [HQ.out]
      exact ⟨ret_bool (by first | exact (decide_eq_true (by omega)).symm | exact (decide_eq_false (by omega)).symm | exact decide_eq_decide.2 (by omega)), by (repeat (first | exact Below.refl _ _ | assumption | refine below_new ?_ _ | refine Below.drew ?_ | refine below_drewN ?_ _ | refine below_on ?_ (by assumption)))⟩
  · rcases (by omega : hi < key ∨ key ≤ hi) with h1 | h1
    all_goals
      go_enter Tryd.func43, Tryd.ntmps43
      go_wp2_with fail
      (try go_ret)
      rw [HQ.out]
      exact ⟨ret_bool (by first | exact (decide_eq_true (by omega)).symm | exact (decide_eq_false (by omega)).symm | exact decide_eq_decide.2 (by omega)), by (repeat (first | exact Below.refl _ _ | assumption | refine below_new ?_ _ | refine Below.drew ?_ | refine below_drewN ?_ _ | refine below_on ?_ (by assumption)))⟩
  · rcases (by omega : hi < key ∨ key ≤ hi) with h1 | h1
    all_goals
      go_enter Tryd.func43, Tryd.ntmps43
      go_wp2_with fail
      (try go_ret)
      rw [HQ.out]
      exact ⟨ret_bool (by first | exact (decide_eq_true (by omega)).symm | exact (decide_eq_false (by omega)).symm | exact decide_eq_decide.2 (by omega)), by (repeat (first | exact Below.refl _ _ | assumption | refine below_new ?_ _ | refine Below.drew ?_ | refine below_drewN ?_ _ | refine below_on ?_ (by assumption)))⟩
  · have z3 := neq_b n3; have z4 := neq_b n4; have z9 := neq_b n9
    have y3 : (op != 3) = true := by rw [bne_iff_ne]; exact n3
    have N := Lib.hid (And.intro n3 (And.intro n4 n9))
    clear n3 n4 n9
    rcases (by omega : op < 0 ∨ (0 ≤ op ∧ op ≤ 14) ∨ (0 ≤ op ∧ 14 < op)) with h1 | ⟨h1, h2⟩ | ⟨h1, h2⟩
    all_goals
      go_enter Tryd.func43, Tryd.ntmps43
      go_wp2_with fail
      (try go_ret)
      rw [HQ.out]
      have N := N.out
      exact ⟨ret_bool (by first | exact (decide_eq_true (by omega)).symm | exact (decide_eq_false (by omega)).symm | exact decide_eq_decide.2 (by omega)), by (repeat (first | exact Below.refl _ _ | assumption | refine below_new ?_ _ | refine Below.drew ?_ | refine below_drewN ?_ _ | refine below_on ?_ (by assumption)))⟩
set_option maxHeartbeats 1000000 in
theorem rmay (op key val hi limit : Int) (w : World) :
    Calls Tryd.prog 35 #[.agg #[.int .i64 op, .int .i64 key, .int .i64 val, .int .i64 hi, .int .i64 limit]] w fun e w' => e = .returned (.bool (mayB op key hi limit)) ∧ Below w.heap.size w w' := by
  refine Calls.veil fun Q HQ => ?_
  rcases (by omega : op = 3 ∨ op = 4 ∨ op = 9 ∨ (op ≠ 3 ∧ op ≠ 4 ∧ op ≠ 9)) with rfl | rfl | rfl | ⟨n3, n4, n9⟩
  · rcases (by omega : hi < key ∨ (key ≤ hi ∧ limit ≤ 0) ∨ (key ≤ hi ∧ 0 < limit ∧ 1001 ≤ limit) ∨ (key ≤ hi ∧ 0 < limit ∧ limit < 1001)) with h1 | ⟨h1, h2⟩ | ⟨h1, h2, h3⟩ | ⟨h1, h2, h3⟩
    all_goals
      go_enter Tryd.func35, Tryd.ntmps35
      go_wp2_with fail
      (try go_ret)
      rw [HQ.out]
      exact ⟨ret_bool (by first | exact (decide_eq_true (by omega)).symm | exact (decide_eq_false (by omega)).symm | exact decide_eq_decide.2 (by omega)), by (repeat (first | exact Below.refl _ _ | assumption | refine below_new ?_ _ | refine Below.drew ?_ | refine below_drewN ?_ _ | refine below_on ?_ (by assumption)))⟩
  · rcases (by omega : hi < key ∨ key ≤ hi) with h1 | h1
    all_goals
      go_enter Tryd.func35, Tryd.ntmps35
      go_wp2_with fail
      (try go_ret)
      rw [HQ.out]
      exact ⟨ret_bool (by first | exact (decide_eq_true (by omega)).symm | exact (decide_eq_false (by omega)).symm | exact decide_eq_decide.2 (by omega)), by (repeat (first | exact Below.refl _ _ | assumption | refine below_new ?_ _ | refine Below.drew ?_ | refine below_drewN ?_ _ | refine below_on ?_ (by assumption)))⟩
  · rcases (by omega : hi < key ∨ key ≤ hi) with h1 | h1
    all_goals
      go_enter Tryd.func35, Tryd.ntmps35
      go_wp2_with fail
      (try go_ret)
      rw [HQ.out]
      exact ⟨ret_bool (by first | exact (decide_eq_true (by omega)).symm | exact (decide_eq_false (by omega)).symm | exact decide_eq_decide.2 (by omega)), by (repeat (first | exact Below.refl _ _ | assumption | refine below_new ?_ _ | refine Below.drew ?_ | refine below_drewN ?_ _ | refine below_on ?_ (by assumption)))⟩
  · have z3 := neq_b n3; have z4 := neq_b n4; have z9 := neq_b n9
    have y3 : (op != 3) = true := by rw [bne_iff_ne]; exact n3
    have N := Lib.hid (And.intro n3 (And.intro n4 n9))
    clear n3 n4 n9
    rcases (by omega : op < 0 ∨ (0 ≤ op ∧ op ≤ 14) ∨ (0 ≤ op ∧ 14 < op)) with h1 | ⟨h1, h2⟩ | ⟨h1, h2⟩
    all_goals
      go_enter Tryd.func35, Tryd.ntmps35
      go_wp2_with fail
      (try go_ret)
      rw [HQ.out]
      have N := N.out
      exact ⟨ret_bool (by first | exact (decide_eq_true (by omega)).symm | exact (decide_eq_false (by omega)).symm | exact decide_eq_decide.2 (by omega)), by (repeat (first | exact Below.refl _ _ | assumption | refine below_new ?_ _ | refine Below.drew ?_ | refine below_drewN ?_ _ | refine below_on ?_ (by assumption)))⟩
end Go.Proofs.YtkgfhomoipbjoaaDoor
