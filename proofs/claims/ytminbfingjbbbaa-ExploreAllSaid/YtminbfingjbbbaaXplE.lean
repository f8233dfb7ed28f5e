/- Layer 36: Count; the reference's Many. -/
import Derived.Test.YtminbfingjbbbaaXplD
namespace Go.Proofs.Ytminbfingjbbbaa
open Go.RowKit
set_option linter.unusedVariables false
set_option linter.unusedSimpArgs false
theorem many_le (t m : Nat) (ht : t ≤ 6) (hm : m ≤ 1000) : ∀ k, k ≤ 4 → manyL t m k ≤ 750000000000000 := by
  intro k hk
  cases k with
  | zero => show 1 ≤ _; decide
  | succ d =>
    rw [many_pow]
    have h1 := pow_le t m d ht hm (by omega)
    have h2 : t * m ≤ 6000 := Nat.le_trans (Nat.mul_le_mul ht hm) (by decide)
    exact Nat.le_trans (Nat.mul_le_mul h2 h1) (by decide)
theorem xcount_no (t m k : Int) (w : World) (h : ¬ MayX t m k) : Calls Try.prog 5 #[.int .i64 t, .int .i64 m, .int .i64 k] w fun e w' => e = .returned (.int .i64 0) ∧ w' = w := by
  refine Calls.veil fun Q HQ => ?_
  go_enter Try.func5, Try.ntmps5
  go_wp2_with fail
  refine (xmay_no t m k _ h).mono ?_; rintro _ _ ⟨rfl, rfl⟩
  go_wp2_with fail
  (try go_ret)
  rw [HQ.out]
  exact ⟨rfl, rfl⟩
theorem mulc (t m : Nat) : ((t : Int) * (m : Int)) = ((t * m : Nat) : Int) := by push_cast; rfl
theorem nat_in {n : Nat} (h : n ≤ 750000000000000) : -9223372036854775808 ≤ (n : Int) ∧ (n : Int) ≤ 9223372036854775807 := by omega
theorem xcount (t m k : Nat) (w : World) (ht : 1 ≤ t ∧ t ≤ 6) (hm : 1 ≤ m ∧ m ≤ 1000) (hk : k ≤ 4) : Calls Try.prog 5 #[.int .i64 t, .int .i64 m, .int .i64 k] w fun e w' => e = .returned (.int .i64 (manyL t m k)) ∧ w' = w := by
  refine Calls.veil fun Q HQ => ?_
  have HM := Lib.hid (show MayX t m k from ⟨⟨by omega, by omega⟩, ⟨by omega, by omega⟩, by omega, by omega⟩)
  cases k with
  | zero =>
    have HE := Lib.hid (show manyL t m 0 = 1 from rfl)
    clear ht hm hk
    go_enter Try.func5, Try.ntmps5
    go_wp2_with fail
    refine (xmay _ _ _ _ HM.out).mono ?_; rintro _ _ ⟨rfl, rfl⟩
    go_wp2_with fail
    (try go_ret)
    rw [HQ.out, HE.out]
    exact ⟨rfl, rfl⟩
  | succ d =>
    have HXB := Lib.hid (fun W => xbehind t m d W ht hm.2 (by omega))
    have b1 : t * m ≤ 750000000000000 := Nat.le_trans (Nat.mul_le_mul ht.2 hm.2) (by decide)
    have b2 := many_le t m ht.2 hm.2 (d + 1) hk
    have HMP := Lib.hid (many_pow t m d)
    obtain ⟨P, hP⟩ : ∃ P : Nat, P = ((t - 1) * m) ^ d := ⟨_, rfl⟩
    rw [← hP] at HXB HMP
    rw [HMP.out] at b2
    have q1 : wrap64 ((t : Int) * (m : Int)) = (t : Int) * (m : Int) := by rw [mulc]; exact wrap_id (nat_in b1)
    have q2 : IntKind.i64.wrap ((t : Int) * (m : Int)) = (t : Int) * (m : Int) := by rw [mulc]; exact wrapi_id (nat_in b1)
    have q3 : wrap64 ((t : Int) * (m : Int) * (P : Int)) = (t : Int) * (m : Int) * (P : Int) := by rw [mulc, mulc]; exact wrap_id (nat_in b2)
    have q4 : IntKind.i64.wrap ((t : Int) * (m : Int) * (P : Int)) = (t : Int) * (m : Int) * (P : Int) := by rw [mulc, mulc]; exact wrapi_id (nat_in b2)
    have HF := Lib.hid (show ((manyL t m (d + 1) : Nat) : Int) = (t : Int) * (m : Int) * (P : Int) by rw [HMP.out, mulc, mulc])
    obtain ⟨R, hR⟩ : ∃ R : Int, R = ((manyL t m (d + 1) : Nat) : Int) := ⟨_, rfl⟩
    rw [← hR] at HF HQ
    have k0 : ((((d + 1 : Nat) : Int)) == 0) = false := beq_eq_false_iff_ne.2 (by omega)
    have k1 : wrap64 (((d + 1 : Nat) : Int) - 1) = (d : Int) := by rw [wrap_id (by omega)]; omega
    have k2 : IntKind.i64.wrap (((d + 1 : Nat) : Int) - 1) = (d : Int) := by rw [wrapi_id (by omega)]; omega
    obtain ⟨K, hK⟩ : ∃ K : Int, K = ((d + 1 : Nat) : Int) := ⟨_, rfl⟩
    rw [← hK] at HM k0 k1 k2 ⊢
    clear ht hm hk b1 b2 hP hR hK
    go_enter Try.func5, Try.ntmps5
    go_wp2_with fail
    refine (xmay _ _ _ _ HM.out).mono ?_; rintro _ _ ⟨rfl, rfl⟩
    go_wp2_with fail
    refine (HXB.out _).mono ?_; rintro _ _ ⟨rfl, rfl⟩
    go_wp2_with fail
    (try go_ret)
    rw [HQ.out, HF.out]
    exact ⟨rfl, rfl⟩
/-- Each turn more of the reference's Many. -/
theorem many_step (t m i : Nat) (ht : 1 ≤ t ∧ t ≤ 6) (hm : m ≤ 1000) (hi : i < 4) : ∃ n x : Int, n = (manyL t m i : Nat) ∧ x = (if i = 0 then (t : Int) else (t : Int) - 1) ∧ ((manyL t m (i + 1) : Nat) : Int) = n * x * m ∧ (-9223372036854775808 ≤ n * x ∧ n * x ≤ 9223372036854775807) ∧ (-9223372036854775808 ≤ n * x * m ∧ n * x * m ≤ 9223372036854775807) := by
  have hb := many_le t m ht.2 hm i (by omega)
  have hb1 := many_le t m ht.2 hm (i + 1) (by omega)
  cases i with
  | zero =>
    have e : ((1 : Int)) * t * m = ((t * m : Nat) : Int) := by push_cast; rw [Int.one_mul]
    have h3 : t * m ≤ 750000000000000 := hb1
    refine ⟨1, t, rfl, rfl, by rw [e]; rfl, by rw [Int.one_mul]; omega, by rw [e]; exact nat_in h3⟩
  | succ d =>
    have e0 : ((t : Int) - 1) = ((t - 1 : Nat) : Int) := by omega
    have e : ((manyL t m (d + 1) : Nat) : Int) * ((t : Int) - 1) * m = ((manyL t m (d + 2) : Nat) : Int) := by
      show _ = ((manyL t m (d + 1) * ((t - 1) * m) : Nat) : Int)
      rw [e0]; push_cast; rw [Int.mul_assoc]
    have h4 : manyL t m (d + 1) * (t - 1) ≤ 750000000000000 * 5 := Nat.mul_le_mul hb (by omega)
    have e5 : ((manyL t m (d + 1) : Nat) : Int) * ((t : Int) - 1) = ((manyL t m (d + 1) * (t - 1) : Nat) : Int) := by rw [e0]; push_cast; rfl
    refine ⟨_, (t : Int) - 1, rfl, by rw [if_neg (by omega)], e.symm, ?_, by rw [e]; exact nat_in hb1⟩
    rw [e5]
    generalize manyL t m (d + 1) * (t - 1) = z at h4
    omega
set_option maxHeartbeats 1000000 in
theorem rmany (t m k : Nat) (w : World) (ht : 1 ≤ t ∧ t ≤ 6) (hm : 1 ≤ m ∧ m ≤ 1000) (hk : k ≤ 4) : Calls Try.prog 4 #[.int .i64 t, .int .i64 m, .int .i64 k] w fun e w' => e = .returned (.int .i64 (manyL t m k)) ∧ w' = w := by
  refine Calls.veil fun Q HQ => ?_
  have g0 : ¬ (t : Int) < 1 := by omega
  have g1 : ¬ 6 < (t : Int) := by omega
  have g2 : ¬ (m : Int) < 1 := by omega
  have g3 : ¬ 1000 < (m : Int) := by omega
  have g4 : ¬ (k : Int) < 0 := by omega
  have g5 : ¬ 4 < (k : Int) := by omega
  have ht1 : wrap64 ((t : Int) - 1) = (t : Int) - 1 := wrap_id (by omega)
  have ht2 : IntKind.i64.wrap ((t : Int) - 1) = (t : Int) - 1 := wrapi_id (by omega)
  obtain ⟨P, hP⟩ : ∃ P : Nat → Int, P = fun i => ((manyL t m i : Nat) : Int) := ⟨_, rfl⟩
  have HP0 := Lib.hid (show P 0 = 1 by rw [hP]; rfl)
  have HPS := Lib.hid (show ∀ i, i < 4 → P (i + 1) = P i * (if i = 0 then (t : Int) else (t : Int) - 1) * m ∧ (-9223372036854775808 ≤ P i * (if i = 0 then (t : Int) else (t : Int) - 1) ∧ P i * (if i = 0 then (t : Int) else (t : Int) - 1) ≤ 9223372036854775807) ∧ (-9223372036854775808 ≤ P i * (if i = 0 then (t : Int) else (t : Int) - 1) * m ∧ P i * (if i = 0 then (t : Int) else (t : Int) - 1) * m ≤ 9223372036854775807) from fun i hi => by
    obtain ⟨n, x, h1, h2, h3, h4, h5⟩ := many_step t m i ht hm.2 hi
    rw [hP]
    subst h1 h2
    exact ⟨h3, h4, h5⟩)
  have e : ((manyL t m k : Nat) : Int) = P k := by rw [hP]
  rw [e] at HQ
  have HK := Lib.hid hk
  clear ht hm hk hP e
  go_enter Try.func4, Try.ntmps4
  go_wp2_with fail
  go_loopw [7, 8] (fun nv iv wr => ∃ i : Nat, i ≤ k ∧ nv = .int .i64 (P i) ∧ iv = .int .i64 i ∧ wr = w) (fun _ iv _ => k - (intOf iv).toNat)
  case atStart => exact ⟨0, Nat.zero_le _, by rw [HP0.out], rfl, rfl⟩
  case round =>
    obtain ⟨i, hi, rfl, rfl, rfl⟩ := hrel
    rcases or_lt hi with hlt | heq
    · obtain ⟨e, b1, b2⟩ := HPS.out i (Nat.lt_of_lt_of_le hlt HK.out)
      have hik : (i : Int) < (k : Int) := lt_int hlt
      have hw1 : wrap64 ((i : Int) + 1) = (i : Int) + 1 := wr_k (Nat.le_trans hi (Nat.le_trans HK.out (by decide)))
      have hw2 : IntKind.i64.wrap ((i : Int) + 1) = (i : Int) + 1 := wri_k (Nat.le_trans hi (Nat.le_trans HK.out (by decide)))
      by_cases hi0 : i = 0
      · rw [if_pos hi0] at e b1 b2
        have k0 : ((i : Int) == 0) = true := by rw [hi0]; rfl
        have HE := Lib.hid e
        have q1 := wrap_id b1
        have q2 := wrapi_id b1
        have q3 := wrap_id b2
        have q4 := wrapi_id b2
        generalize P i = p at *
        clear e b1 b2 hi0
        go_wp2_with fail
        go_roundw
        case rel => exact ⟨i + 1, hlt, by rw [HE.out], by go_num, (by first | rfl | trivial)⟩
        case measure => exact meas1 hlt
      · rw [if_neg hi0] at e b1 b2
        have k0 : ((i : Int) == 0) = false := beq_eq_false_iff_ne.2 (fun h => hi0 (by exact_mod_cast h))
        have HE := Lib.hid e
        have q1 := wrap_id b1
        have q2 := wrapi_id b1
        have q3 := wrap_id b2
        have q4 := wrapi_id b2
        generalize P i = p at *
        clear e b1 b2 hi0
        go_wp2_with fail
        go_roundw
        case rel => exact ⟨i + 1, hlt, by rw [HE.out], by go_num, (by first | rfl | trivial)⟩
        case measure => exact meas1 hlt
    · have hik : ¬ (i : Int) < (k : Int) := nlt_int heq
      subst heq
      go_wp2_with fail
      (try go_ret)
      rw [HQ.out]
      exact ⟨rfl, rfl⟩
end Go.Proofs.Ytminbfingjbbbaa
