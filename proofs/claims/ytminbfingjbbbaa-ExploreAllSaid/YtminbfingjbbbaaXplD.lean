/- Layer 36: behind; the reference's Many where there is none. -/
import Derived.Test.YtminbfingjbbbaaXplC
namespace Go.Proofs.Ytminbfingjbbbaa
open Go.RowKit
set_option linter.unusedVariables false
set_option linter.unusedSimpArgs false
theorem rmany_no (t m k : Int) (w : World) (h : ¬ MayX t m k) : Calls Try.prog 4 #[.int .i64 t, .int .i64 m, .int .i64 k] w fun e w' => e = .returned (.int .i64 0) ∧ w' = w := by
  refine Calls.veil fun Q HQ => ?_
  by_cases h0 : 1 ≤ t
  case neg =>
    have g0 : t < 1 := by omega
    clear h h0
    go_enter Try.func4, Try.ntmps4
    go_wp2_with fail
    (try go_ret)
    rw [HQ.out]
    exact ⟨rfl, rfl⟩
  case pos =>
  by_cases h1 : t ≤ 6
  case neg =>
    have g0 : ¬ t < 1 := by omega
    have g1 : 6 < t := by omega
    clear h h0 h1
    go_enter Try.func4, Try.ntmps4
    go_wp2_with fail
    (try go_ret)
    rw [HQ.out]
    exact ⟨rfl, rfl⟩
  case pos =>
  by_cases h2 : 1 ≤ m
  case neg =>
    have g0 : ¬ t < 1 := by omega
    have g1 : ¬ 6 < t := by omega
    have g2 : m < 1 := by omega
    clear h h0 h1 h2
    go_enter Try.func4, Try.ntmps4
    go_wp2_with fail
    (try go_ret)
    rw [HQ.out]
    exact ⟨rfl, rfl⟩
  case pos =>
  by_cases h3 : m ≤ 1000
  case neg =>
    have g0 : ¬ t < 1 := by omega
    have g1 : ¬ 6 < t := by omega
    have g2 : ¬ m < 1 := by omega
    have g3 : 1000 < m := by omega
    clear h h0 h1 h2 h3
    go_enter Try.func4, Try.ntmps4
    go_wp2_with fail
    (try go_ret)
    rw [HQ.out]
    exact ⟨rfl, rfl⟩
  case pos =>
  by_cases h4 : 0 ≤ k
  case neg =>
    have g0 : ¬ t < 1 := by omega
    have g1 : ¬ 6 < t := by omega
    have g2 : ¬ m < 1 := by omega
    have g3 : ¬ 1000 < m := by omega
    have g4 : k < 0 := by omega
    clear h h0 h1 h2 h3 h4
    go_enter Try.func4, Try.ntmps4
    go_wp2_with fail
    (try go_ret)
    rw [HQ.out]
    exact ⟨rfl, rfl⟩
  case pos =>
  by_cases h5 : k ≤ 4
  case neg =>
    have g0 : ¬ t < 1 := by omega
    have g1 : ¬ 6 < t := by omega
    have g2 : ¬ m < 1 := by omega
    have g3 : ¬ 1000 < m := by omega
    have g4 : ¬ k < 0 := by omega
    have g5 : 4 < k := by omega
    clear h h0 h1 h2 h3 h4 h5
    go_enter Try.func4, Try.ntmps4
    go_wp2_with fail
    (try go_ret)
    rw [HQ.out]
    exact ⟨rfl, rfl⟩
  case pos =>
  exact absurd ⟨⟨h0, h1⟩, ⟨h2, h3⟩, h4, h5⟩ h
theorem pow_le (t m d : Nat) (ht : t ≤ 6) (hm : m ≤ 1000) (hd : d ≤ 3) : ((t - 1) * m) ^ d ≤ 125000000000 := by
  have h1 : (t - 1) * m ≤ 5000 := Nat.le_trans (Nat.mul_le_mul (by omega : t - 1 ≤ 5) hm) (by decide)
  have h2 := Nat.pow_le_pow_left h1 d
  rcases (by omega : d = 0 ∨ d = 1 ∨ d = 2 ∨ d = 3) with rfl | rfl | rfl | rfl
  all_goals exact Nat.le_trans h2 (by decide)
/-- One factor more. -/
theorem pow_step (t m d : Nat) (ht : 1 ≤ t ∧ t ≤ 6) (hm : m ≤ 1000) (hd : d < 3) : ∃ p x : Int, p = (((t - 1) * m) ^ d : Nat) ∧ x = (t : Int) - 1 ∧ (((t - 1) * m) ^ (d + 1) : Nat) = p * (x * m) ∧ -9223372036854775808 ≤ x * m ∧ x * m ≤ 9223372036854775807 ∧ -9223372036854775808 ≤ p * (x * m) ∧ p * (x * m) ≤ 9223372036854775807 := by
  have e1 : ((t : Int) - 1) = ((t - 1 : Nat) : Int) := by omega
  have e2 : (((t - 1) * m) ^ (d + 1) : Nat) = ((((t - 1) * m) ^ d : Nat) : Int) * (((t : Int) - 1) * m) := by
    rw [Nat.pow_succ, e1]; push_cast; rfl
  have b1 := pow_le t m (d + 1) ht.2 hm (by omega)
  have b2 : (t - 1) * m ≤ 5000 := Nat.le_trans (Nat.mul_le_mul (by omega : t - 1 ≤ 5) hm) (by decide)
  have e3 : ((t : Int) - 1) * m = (((t - 1) * m : Nat) : Int) := by rw [e1]; push_cast; rfl
  refine ⟨_, _, rfl, rfl, e2, ?_, ?_, ?_, ?_⟩
  · rw [e3]; omega
  · rw [e3]; omega
  · rw [← e2]; omega
  · rw [← e2]; omega
theorem xbehind (t m k : Nat) (w : World) (ht : 1 ≤ t ∧ t ≤ 6) (hm : m ≤ 1000) (hk : k ≤ 3) : Calls Try.prog 13 #[.int .i64 t, .int .i64 m, .int .i64 k] w fun e w' => e = .returned (.int .i64 (((t - 1) * m) ^ k : Nat)) ∧ w' = w := by
  refine Calls.veil fun Q HQ => ?_
  have ht1 : wrap64 ((t : Int) - 1) = (t : Int) - 1 := wrap_id (by omega)
  have ht2 : IntKind.i64.wrap ((t : Int) - 1) = (t : Int) - 1 := wrapi_id (by omega)
  obtain ⟨P, hP⟩ : ∃ P : Nat → Int, P = fun i => ((((t - 1) * m) ^ i : Nat) : Int) := ⟨_, rfl⟩
  have HP0 := Lib.hid (show P 0 = 1 by rw [hP]; rfl)
  have HPS := Lib.hid (show ∀ d, d < 3 → ∃ x : Int, x = (t : Int) - 1 ∧ P (d + 1) = P d * (x * m) ∧ (-9223372036854775808 ≤ x * m ∧ x * m ≤ 9223372036854775807) ∧ (-9223372036854775808 ≤ P d * (x * m) ∧ P d * (x * m) ≤ 9223372036854775807) from fun d hd => by
    obtain ⟨p, x, h1, h2, h3, h4, h5, h6, h7⟩ := pow_step t m d ht hm hd
    rw [hP]
    subst h1
    exact ⟨x, h2, h3, ⟨h4, h5⟩, h6, h7⟩)
  have e : ((((t - 1) * m) ^ k : Nat) : Int) = P k := by rw [hP]
  rw [e] at HQ
  have HK := Lib.hid hk
  clear ht hm hk hP e
  go_enter Try.func13, Try.ntmps13
  go_wp2_with fail
  go_loopw [7, 9] (fun nv iv wr => ∃ i : Nat, i ≤ k ∧ nv = .int .i64 (P i) ∧ iv = .int .i64 i ∧ wr = w) (fun _ iv _ => k - (intOf iv).toNat)
  case atStart => exact ⟨0, Nat.zero_le _, by rw [HP0.out], rfl, rfl⟩
  case round =>
    obtain ⟨i, hi, rfl, rfl, rfl⟩ := hrel
    rcases or_lt hi with hlt | heq
    · obtain ⟨x, hx, e, b1, b2⟩ := HPS.out i (Nat.lt_of_lt_of_le hlt HK.out)
      have HE := Lib.hid e
      have hik : (i : Int) < (k : Int) := lt_int hlt
      rw [← hx] at ht1 ht2
      have q1 := wrap_id b1
      have q2 := wrapi_id b1
      have q3 := wrap_id b2
      have q4 := wrapi_id b2
      have hw1 : wrap64 ((i : Int) + 1) = (i : Int) + 1 := wr_k (Nat.le_trans hi (Nat.le_trans HK.out (by decide)))
      have hw2 : IntKind.i64.wrap ((i : Int) + 1) = (i : Int) + 1 := wri_k (Nat.le_trans hi (Nat.le_trans HK.out (by decide)))
      have hx2 : (t : Int) - 1 = x := hx.symm
      have HX := Lib.hid hx
      generalize P i = p at *
      clear hx e b1 b2
      go_wp2_with fail
      go_roundw
      case rel => exact ⟨i + 1, hlt, by rw [HE.out], by go_num, (by first | rfl | trivial)⟩
      case measure => exact meas1 hlt
    · have hik : ¬ (i : Int) < (k : Int) := nlt_int heq
      subst heq
      go_wp2_with fail
      (try go_ret)
      rw [HQ.out]
      exact ⟨rfl, rfl⟩
end Go.Proofs.Ytminbfingjbbbaa
