/- Layer 36: may, behind, Count; the reference's Many. -/
import Derived.Test.YtminbfingjbbbaaXplB
import Derived.Test.YtminbfingjbbbaaTurnB
namespace Go.Proofs.Ytminbfingjbbbaa
open Go.RowKit
set_option linter.unusedVariables false
set_option linter.unusedSimpArgs false
def MayX (t m k : Int) : Prop := (1 ≤ t ∧ t ≤ 6) ∧ (1 ≤ m ∧ m ≤ 1000) ∧ 0 ≤ k ∧ k ≤ 4
theorem wrap_id {n : Int} (h : -9223372036854775808 ≤ n ∧ n ≤ 9223372036854775807) : wrap64 n = n := by unfold wrap64; omega
theorem wrapi_id {n : Int} (h : -9223372036854775808 ≤ n ∧ n ≤ 9223372036854775807) : IntKind.i64.wrap n = n := by simp only [IntKind.wrap_i64]; (try unfold wrap64); omega
theorem or_lt {j M : Nat} (h : j ≤ M) : j < M ∨ j = M := by omega
theorem lt_int {i k : Nat} (h : i < k) : (i : Int) < (k : Int) := by omega
theorem nlt_int {i k : Nat} (h : i = k) : ¬ (i : Int) < (k : Int) := by omega
theorem wr_k {i : Nat} (h : i ≤ 100000) : wrap64 ((i : Int) + 1) = (i : Int) + 1 := wrap_id (by omega)
theorem wri_k {i : Nat} (h : i ≤ 100000) : IntKind.i64.wrap ((i : Int) + 1) = (i : Int) + 1 := wrapi_id (by omega)
theorem meas1 {j M : Nat} (h : j < M) : M - ((j : Int) + 1).toNat < M - (j : Int).toNat := by omega
theorem xmay (t m k : Int) (w : World) (h : MayX t m k) : Calls Try.prog 12 #[.int .i64 t, .int .i64 m, .int .i64 k] w fun e w' => e = .returned (.bool true) ∧ w' = w := by
  refine Calls.veil fun Q HQ => ?_
  obtain ⟨⟨h1, h2⟩, ⟨h3, h4⟩, h5, h6⟩ := h
  go_enter Try.func12, Try.ntmps12
  go_wp2_with fail
  (try go_ret)
  rw [HQ.out]
  exact ⟨rfl, rfl⟩
theorem xmay_no (t m k : Int) (w : World) (h : ¬ MayX t m k) : Calls Try.prog 12 #[.int .i64 t, .int .i64 m, .int .i64 k] w fun e w' => e = .returned (.bool false) ∧ w' = w := by
  refine Calls.veil fun Q HQ => ?_
  by_cases h1 : 1 ≤ t
  · by_cases h2 : t ≤ 6
    · by_cases h3 : 1 ≤ m
      · by_cases h4 : m ≤ 1000
        · by_cases h5 : 0 ≤ k
          · by_cases h6 : k ≤ 4
            · exact absurd ⟨⟨h1, h2⟩, ⟨h3, h4⟩, h5, h6⟩ h
            · clear h
              go_enter Try.func12, Try.ntmps12
              go_wp2_with fail
              (try go_ret)
              rw [HQ.out]
              exact ⟨rfl, rfl⟩
          · clear h
            go_enter Try.func12, Try.ntmps12
            go_wp2_with fail
            (try go_ret)
            rw [HQ.out]
            exact ⟨rfl, rfl⟩
        · clear h
          go_enter Try.func12, Try.ntmps12
          go_wp2_with fail
          (try go_ret)
          rw [HQ.out]
          exact ⟨rfl, rfl⟩
      · clear h
        go_enter Try.func12, Try.ntmps12
        go_wp2_with fail
        (try go_ret)
        rw [HQ.out]
        exact ⟨rfl, rfl⟩
    · clear h
      go_enter Try.func12, Try.ntmps12
      go_wp2_with fail
      (try go_ret)
      rw [HQ.out]
      exact ⟨rfl, rfl⟩
  · clear h
    go_enter Try.func12, Try.ntmps12
    go_wp2_with fail
    (try go_ret)
    rw [HQ.out]
    exact ⟨rfl, rfl⟩
end Go.Proofs.Ytminbfingjbbbaa
