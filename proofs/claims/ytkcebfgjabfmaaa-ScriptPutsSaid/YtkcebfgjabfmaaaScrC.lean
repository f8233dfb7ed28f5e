/- Layer 14: the reference's Clean. -/
import Derived.Test.YtkcebfgjabfmaaaScrB
namespace Go.Proofs.Ytkcebfgjabfmaaa
open Go.RowKit
set_option linter.unusedVariables false
set_option linter.unusedSimpArgs false
theorem mid_cell (w : World) (o0 o2 : Obj) (arr : Array Value) (T : TypeId) (i : Nat) (v : Value) (h : arr[i]? = some v) : (((w.alloc o0).alloc (.cells arr T)).alloc o2).cell? ⟨w.heap.size + 1, i, none⟩ = some v := by
  have e : w.heap.size + 1 = (w.alloc o0).heap.size := by simp
  rw [e]; exact Ext.made1 rfl i v h ⟨_, Below.refl _ _⟩
set_option maxHeartbeats 8000000 in
theorem rclean (T S K : Int) (n c : Nat) (p : Option Addr) (w : World) (h1 : n ≤ c) (h2 : c ≤ 9223372036854775807) :
    Calls Try.prog 17 #[.agg #[.int .i64 T, .int .i64 S, .int .u64 K, .slice p n c]] w fun e w' => e = .returned (.agg #[.int .i64 (cl 1 6 T), .int .i64 (cl 7 250 S), .int .u64 (cl 1 1099511627776 K), .slice p (min n 60000) c]) ∧ Below w.heap.size w w' := by
  refine Calls.veil fun Q HQ => ?_
  rcases (by omega : T < 1 ∨ (1 ≤ T ∧ T ≤ 6) ∨ 6 < T) with q1 | ⟨q1, q2⟩ | q1 <;> rcases (by omega : S < 7 ∨ (7 ≤ S ∧ S ≤ 250) ∨ 250 < S) with q3 | ⟨q3, q4⟩ | q3 <;> rcases (by omega : K < 1 ∨ (1 ≤ K ∧ K ≤ 1099511627776) ∨ 1099511627776 < K) with q5 | ⟨q5, q6⟩ | q5 <;> rcases (by omega : n ≤ 60000 ∨ 60000 < n) with q7 | q7
  all_goals
    have E1 := Lib.hid (show cl 1 6 T = _ from by first | exact cl_lo q1 (by decide) | exact cl_mid q1 q2 | exact cl_hi q1 (by decide))
    have E2 := Lib.hid (show cl 7 250 S = _ from by first | exact cl_lo q3 (by decide) | exact cl_mid q3 q4 | exact cl_hi q3 (by decide))
    have E3 := Lib.hid (show cl 1 1099511627776 K = _ from by first | exact cl_lo q5 (by decide) | exact cl_mid q5 q6 | exact cl_hi q5 (by decide))
    have E4 := Lib.hid (show min n 60000 = _ from by first | exact Nat.min_eq_left q7 | exact Nat.min_eq_right (Nat.le_of_lt q7))
    go_enter Try.func17, Try.ntmps17
    go_wp2_with fail
    rw [HQ.out, E1.out, E2.out, E3.out, E4.out]
    exact bodyPost_ret (by simp [results, Try.results17, go_sem, mid_cell]) rfl ⟨rfl, by (repeat (first | exact Below.refl _ _ | assumption | refine below_new ?_ _ | refine Below.drew ?_ | refine below_drewN ?_ _ | refine below_on ?_ (by assumption)))⟩
end Go.Proofs.Ytkcebfgjabfmaaa
