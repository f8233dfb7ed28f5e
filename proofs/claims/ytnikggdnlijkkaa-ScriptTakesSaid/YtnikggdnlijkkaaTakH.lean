/- Layer 14: the reference's numbers. -/
import Derived.Test.YtnikggdnlijkkaaTakF
namespace Go.Proofs.Ytnikggdnlijkkaa
open Go.RowKit WordM
set_option linter.unusedVariables false
set_option linter.unusedSimpArgs false
theorem num_left (D : Nat → Int) : ∀ q, numB D (q + 1) = D 0 + 256 * numB (dropD D 1) q
  | 0 => by simp [numB]
  | q + 1 => by
    rw [numB, num_left D q, numB]
    have e1 : dropD D 1 q = D (q + 1) := by unfold dropD; rw [Nat.add_comm]
    rw [e1, Nat.pow_succ]
    generalize numB (dropD D 1) q = a
    generalize D (q + 1) = b
    generalize D 0 = c
    generalize (256 ^ q : Nat) = p
    have : ((p * 256 : Nat) : Int) * b = 256 * ((p : Int) * b) := by rw [Int.natCast_mul, Int.mul_comm (p : Int), Int.mul_assoc]; rfl
    rw [this]
    omega
theorem num_step (D : Nat → Int) (i q r : Nat) : numB (dropD D (i + q)) (r + 1) = 256 * numB (dropD D (i + (q + 1))) r + D (i + q) := by
  rw [num_left, dropD_drop]
  have : dropD D (i + q) 0 = D (i + q) := rfl
  rw [this, Nat.add_assoc]
  omega
theorem num_small {D : Nat → Int} (h : BY D) {m : Nat} (hm : m ≤ 7) : 0 ≤ numB D m ∧ numB D m < 72057594037927936 := by
  obtain ⟨a, b⟩ := num_bd h m
  refine ⟨a, Int.lt_of_lt_of_le b ?_⟩
  have : 256 ^ m ≤ 256 ^ 7 := Nat.pow_le_pow_right (by decide) hm
  omega
set_option maxHeartbeats 2000000 in
theorem rat (D : Nat → Int) (n i m : Nat) (v : Value) (w : World) (hL : BR w v n D) (hD : BY D) (hi : i + m ≤ n) (hm : 0 < m ∧ m ≤ 8) (hn : n ≤ 100000) :
    Calls Try.prog 16 #[v, .int .i64 i, .int .i64 m] w fun E w' => E = .returned (.int .u64 (numB (dropD D i) m)) ∧ w' = w := by
  refine Calls.veil fun Q HQ => ?_
  obtain ⟨g, o, c, rfl, a1, a2, hC⟩ := hL.parts (by omega)
  have HC := Lib.hid hC
  obtain ⟨m1, m2⟩ := hm
  clear hL hC
  go_enter Try.func16, Try.ntmps16
  go_wp2_with fail
  go_loopw [7, 8] (fun nv kv wr => ∃ r : Nat, r ≤ m ∧ ∃ z : Int, Hid (z = (r : Int) - 1) ∧ kv = .int .i64 z ∧ nv = .int .u64 (numB (dropD D (i + r)) (m - r)) ∧ wr = w)
    (fun _ kv _ => (intOf kv + 1).toNat)
  case atStart => exact ⟨m, by omega, _, Lib.hid rfl, rfl, by rw [Nat.sub_self]; rfl, rfl⟩
  case round =>
    obtain ⟨r, hr, z, HZ, rfl, rfl, rfl⟩ := hrel
    have hz := HZ.out
    clear HZ
    have hrr : r = 0 ∨ ∃ q, r = q + 1 := by cases r with
      | zero => exact .inl rfl
      | succ q => exact .inr ⟨q, rfl⟩
    rcases hrr with rfl | ⟨q, rfl⟩
    · have hz1 : z < 0 := by omega
      have hz2 : ¬ (0 ≤ z) := by omega
      have HN := Lib.hid (show numB (dropD D (i + 0)) (m - 0) = numB (dropD D i) m from rfl)
      clear hz
      go_wp2_with fail
      rw [HQ.out]
      exact ⟨by first | rfl | rw [HN.out], rfl⟩
    · have hz : z = (q : Int) := by omega
      subst hz
      have ci := HC.out (i + q) (by omega)
      have HS := Lib.hid (show numB (dropD D (i + q)) (m - q) = 256 * numB (dropD D (i + (q + 1))) (m - (q + 1)) + D (i + q) by
        have : m - q = (m - (q + 1)) + 1 := by omega
        rw [this]; exact num_step D i q _)
      obtain ⟨x1, x2⟩ := num_small (hD.drop (i + (q + 1))) (m := m - (q + 1)) (by omega)
      obtain ⟨d1, d2⟩ := hD (i + q)
      generalize numB (dropD D (i + (q + 1))) (m - (q + 1)) = x at *
      generalize D (i + q) = d at *
      have w1 := uw_id (256 * x) (by omega) (by omega)
      have w2 := uw_id d d1 (by omega)
      have w3 := uw_id (256 * x + d) (by omega) (by omega)
      have hqm : q ≤ m := by omega
      have hiq : (i : Int) + (q : Int) < 9223372036854775808 := by omega
      have hlt : i + q < n := by omega
      clear hz hr hn x1 x2 d1 d2 m2 a2
      go_wp2_with fail
      go_roundw
      case rel => exact ⟨q, by omega, _, Lib.hid rfl, by go_num, by rw [HS.out], by first | rfl | trivial⟩
      case measure => simp [intOf]
theorem rsigned (x : Int) (w : World) (h0 : 0 ≤ x) (h1 : x < 18446744073709551616) :
    Calls Try.prog 17 #[.int .u64 x] w fun E w' => E = .returned (.int .i64 (wrap64 x)) ∧ w' = w := by
  rcases (by omega : x < 9223372036854775808 ∨ 9223372036854775808 ≤ x) with h | h
  · go_enter Try.func17, Try.ntmps17
    go_wp2
    go_ret
    exact ⟨ret_int (by first | rfl | (simp only [IntKind.wrap_u64, IntKind.wrap_i64]; unfold wrap64; omega) | (unfold wrap64; omega)), rfl⟩
  · go_enter Try.func17, Try.ntmps17
    go_wp2
    go_ret
    exact ⟨ret_int (by first | rfl | (simp only [IntKind.wrap_u64, IntKind.wrap_i64]; unfold wrap64; omega) | (unfold wrap64; omega)), rfl⟩
theorem bits256 : ∀ x : Fin 256, eNo ((x.val : Nat) : Int) = decide (x.val / 64 % 2 = 1) ∧ eTh ((x.val : Nat) : Int) = ((x.val % 64 : Nat) : Int) ∧ eBg ((x.val : Nat) : Int) = decide (128 ≤ x.val) := by decide +kernel
theorem bits_of (x : Int) (h0 : 0 ≤ x) (h1 : x ≤ 255) : eNo x = decide (x / 64 % 2 = 1) ∧ eTh x = x % 64 ∧ eBg x = decide (128 ≤ x) := by
  obtain ⟨X, rfl⟩ := Int.eq_ofNat_of_zero_le h0
  obtain ⟨a, b, c⟩ := bits256 ⟨X, by omega⟩
  simp only at a b c
  refine ⟨a.trans ?_, b.trans (by omega), c.trans ?_⟩
  · exact decide_eq_decide.2 (by omega)
  · exact decide_eq_decide.2 (by omega)
end Go.Proofs.Ytnikggdnlijkkaa
