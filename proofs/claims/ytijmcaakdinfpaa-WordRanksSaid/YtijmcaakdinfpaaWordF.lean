/- The walks of WordFields, WordBits and WordRanks. -/
import Derived.Test.YtijmcaakdinfpaaWordR
import Derived.Test.YtijmcaakdinfpaaWordL
namespace Go.Proofs.Ytijmcaakdinfpaa
open Go.RowKit WordM

theorem mask_with (a b : Int) : maskI a b = withI 0 a b 18446744073709551615 := by
  unfold maskI withI
  split
  · rename_i h
    have ht := may_true h
    congr 1
    apply Nat.eq_of_testBit_eq; intro i
    rw [mask_bit, wth_bit]
    by_cases h1 : i < a.toNat
    · rw [if_pos h1, decide_eq_false (by omega)]; simp
    · rw [if_neg h1, decide_eq_true (by omega)]
      by_cases h2 : i < a.toNat + b.toNat
      · rw [if_pos h2, decide_eq_true (by omega), show (18446744073709551615 : Int).toNat = 2 ^ 64 - 1 from rfl, Nat.testBit_two_pow_sub_one, decide_eq_true (by omega)]; rfl
      · rw [if_neg h2, decide_eq_false (by omega)]; simp
  · rfl

theorem bit_calls (x a : Int) (w : World) (x1 : 0 ≤ x) (x2 : x < 18446744073709551616) :
    Calls Try.prog 14 #[.int .u64 x, .int .i64 a] w fun e w' => e = .returned (.bool (fieldI x a 1 == 1)) ∧ w = w' := by
  go_enter Try.func14, Try.ntmps14
  go_wp2_with fail
  refine (field_calls _ _ _ _ x1 x2).mono ?_; rintro e w' ⟨rfl, rfl⟩
  go_wp2_with fail
  go_ret
  exact ⟨rfl, rfl⟩

theorem turned_calls (x a : Int) (on : Bool) (w : World) (x1 : 0 ≤ x) (x2 : x < 18446744073709551616) :
    Calls Try.prog 15 #[.int .u64 x, .int .i64 a, .bool on] w fun e w' => e = .returned (.int .u64 (withI x a 1 (if on then 1 else 0))) ∧ w = w' := by
  cases on
  all_goals
    go_enter Try.func15, Try.ntmps15
    go_wp2_with fail
    refine (with_calls _ _ _ _ _ x1 x2 (by omega)).mono ?_; rintro e w' ⟨rfl, rfl⟩
    go_wp2_with fail
    go_ret
    exact ⟨rfl, rfl⟩

theorem refrank_calls (n : Int) (w : World) (h1 : -9223372036854775808 ≤ n) (h2 : n < 9223372036854775808) :
    Calls Try.prog 17 #[.int .i64 n] w fun e w' => e = .returned (.int .u64 (n + 9223372036854775808)) ∧ w = w' := by
  rcases (by omega : 0 ≤ n ∨ n < 0) with h | h
  · have HS := Lib.hid (show IntKind.u64.wrap n = n by rw [IntKind.wrap_u64]; omega)
    go_enter Try.func17, Try.ntmps17
    go_wp2
    go_ret
    exact ⟨ret_int (by first | rfl | (simp only [HS.out]; omega) | omega), rfl⟩
  · have HS := Lib.hid (show IntKind.u64.wrap (-(n + 1)) = -(n + 1) by rw [IntKind.wrap_u64]; omega)
    go_enter Try.func17, Try.ntmps17
    go_wp2
    go_ret
    exact ⟨ret_int (by first | rfl | omega), rfl⟩

theorem refbits_calls (n : Int) (w : World) (h1 : -9223372036854775808 ≤ n) (h2 : n < 9223372036854775808) :
    Calls Try.prog 19 #[.int .i64 n] w fun e w' => e = .returned (.int .u64 (IntKind.u64.wrap n)) ∧ w = w' := by
  rcases (by omega : 0 ≤ n ∨ n < 0) with h | h
  · go_enter Try.func19, Try.ntmps19
    go_wp2
    go_ret
    exact ⟨ret_int (by first | rfl | (rw [IntKind.wrap_u64]; omega)), rfl⟩
  · go_enter Try.func19, Try.ntmps19
    go_wp2
    go_ret
    exact ⟨ret_int (by first | rfl | (rw [IntKind.wrap_u64]; omega)), rfl⟩

theorem wordRanks_walk (v0 v1 : Value) (w : World) (s0 : Fr.ok1 w (.int .i64) v0) (s1 : Fr.ok1 w (.int .u64) v1) :
    Calls Try.prog 5 #[v0, v1] w fun e w' => e = .returned (.bool true) ∧ Below w.heap.size w w' := by
  obtain ⟨n, rfl, wn⟩ := Fr.get_int s0
  obtain ⟨x, rfl, wx⟩ := Fr.get_int s1
  clear s0 s1
  obtain ⟨n1, n2⟩ := wf64 wn
  obtain ⟨x1, x2⟩ := wfu64 wx
  clear wn wx
  have HS := Lib.hid (show IntKind.u64.wrap (wrap64 x) = x by rw [IntKind.wrap_u64]; unfold wrap64; omega)
  have hw : -9223372036854775808 ≤ wrap64 x ∧ wrap64 x < 9223372036854775808 := by unfold wrap64; omega
  have HW := Lib.hid hw; clear hw
  go_enter Try.func5, Try.ntmps5
  go_wp2_with fail
  refine (rank_calls _ _ n1 n2).mono ?_; rintro e w' ⟨rfl, rfl⟩
  go_wp2_with fail
  refine (refrank_calls _ _ n1 n2).mono ?_; rintro e w' ⟨rfl, rfl⟩
  go_wp2_with fail
  refine (bits_calls _ _).mono ?_; rintro e w' ⟨rfl, rfl⟩
  go_wp2_with fail
  refine (refbits_calls _ _ n1 n2).mono ?_; rintro e w' ⟨rfl, rfl⟩
  go_wp2_with fail
  refine (of_calls _ _ x1 x2).mono ?_; rintro e w' ⟨rfl, rfl⟩
  go_wp2_with fail
  refine (refrank_calls _ _ (by omega) (by omega)).mono ?_; rintro e w' ⟨rfl, rfl⟩
  rw [show x - 9223372036854775808 + 9223372036854775808 = x by omega]
  go_wp2_with fail
  refine (signed_calls _ _).mono ?_; rintro e w' ⟨rfl, rfl⟩
  go_wp2_with fail
  refine (refbits_calls _ _ HW.out.1 HW.out.2).mono ?_; rintro e w' ⟨rfl, rfl⟩
  rw [HS.out]
  go_wp2_with fail
  refine (lives_calls _).mono ?_; rintro e w' ⟨rfl, rfl⟩
  go_wp2_with fail
  go_ret
  exact ⟨rfl, Below.refl _ _⟩

theorem wordBits_walk (v0 v1 v2 : Value) (w : World) (s0 : Fr.ok1 w (.int .u64) v0) (s1 : Fr.ok1 w (.int .i64) v1) (s2 : Fr.ok1 w (.bool) v2) :
    Calls Try.prog 4 #[v0, v1, v2] w fun e w' => e = .returned (.bool true) ∧ Below w.heap.size w w' := by
  obtain ⟨x, rfl, wx⟩ := Fr.get_int s0
  obtain ⟨a, rfl, wa⟩ := Fr.get_int s1
  obtain ⟨b, rfl⟩ := Fr.get_bool s2
  clear s0 s1 s2
  obtain ⟨a1, a2⟩ := wf64 wa
  obtain ⟨x1, x2⟩ := wfu64 wx
  clear wa wx
  cases b
  all_goals
    go_enter Try.func4, Try.ntmps4
    go_wp2_with fail
    refine (bit_calls _ _ _ x1 x2).mono ?_; rintro e w' ⟨rfl, rfl⟩
    go_wp2_with fail
    refine (reffield_calls _ _ _ _ x1 x2 a1 a2 (by omega) (by omega)).mono ?_; rintro e wa ⟨rfl, hb⟩
    have HB := Lib.hid hb; clear hb
    go_wp2_with fail
    refine (turned_calls _ _ _ _ x1 x2).mono ?_; rintro e w' ⟨rfl, rfl⟩
    go_wp2_with fail
    refine (refwith_calls _ _ _ _ _ x1 x2 (by omega) (by omega) a1 a2 (by omega) (by omega)).mono ?_; rintro e wb ⟨rfl, hb⟩
    have HB2 := Lib.hid (HB.out.trans (hb.mono HB.out.size)); clear hb
    go_wp2_with fail
    refine (lives_calls _).mono ?_; rintro e w' ⟨rfl, rfl⟩
    go_wp2_with fail
    go_ret
    exact ⟨by simp, HB2.out⟩

set_option maxHeartbeats 1000000 in
theorem wordFields_walk (v0 v1 v2 : Value) (w : World) (s0 : Fr.ok1 w (.int .u64) v0) (s1 : Fr.ok1 w (.int .u64) v1) (s2 : Fr.okN w [.int .i64, .int .i64] v2) :
    Calls Try.prog 3 #[v0, v1, v2] w fun e w' => e = .returned (.bool true) ∧ Below w.heap.size w w' := by
  obtain ⟨x, rfl, wx⟩ := Fr.get_int s0
  obtain ⟨n, rfl, wn⟩ := Fr.get_int s1
  obtain ⟨cs, rfl, hcs⟩ := s2
  obtain ⟨_, _, rfl, k0, hcs⟩ := Fr.get_cons hcs
  obtain ⟨_, _, rfl, k1, hcs⟩ := Fr.get_cons hcs
  obtain rfl := Fr.get_nil hcs
  obtain ⟨a, rfl, wa⟩ := Fr.get_int k0
  obtain ⟨b, rfl, wb⟩ := Fr.get_int k1
  clear s0 s1 k0 k1 hcs
  obtain ⟨x1, x2⟩ := wfu64 wx
  obtain ⟨n1, n2⟩ := wfu64 wn
  obtain ⟨a1, a2⟩ := wf64 wa
  obtain ⟨b1, b2⟩ := wf64 wb
  clear wx wn wa wb
  have HM := Lib.hid (mask_with a b)
  show Calls Try.prog _ #[_, _, .agg #[.int .i64 a, .int .i64 b]] w _
  go_enter Try.func3, Try.ntmps3
  go_wp2_with fail
  go_quiet (fail)
  have HB0 := Lib.hid (below_drewN ((Below.refl w.heap.size w).alloc (Nat.le_refl _) (.cells #[.int .i64 a, .int .i64 b] 23)) nq)
  go_wp2_with fail
  refine (field_calls _ _ _ _ x1 x2).mono ?_; rintro e w' ⟨rfl, rfl⟩
  go_wp2_with fail
  refine (reffield_calls _ _ _ _ x1 x2 a1 a2 b1 b2).mono ?_; rintro e wa ⟨rfl, hb⟩
  have HB := Lib.hid (HB0.out.trans (hb.mono HB0.out.size)); clear hb HB0
  go_wp2_with fail
  refine (with_calls _ _ _ _ _ x1 x2 n1).mono ?_; rintro e w' ⟨rfl, rfl⟩
  go_wp2_with fail
  refine (refwith_calls _ _ _ _ _ x1 x2 n1 n2 a1 a2 b1 b2).mono ?_; rintro e wb ⟨rfl, hb⟩
  have HB2 := Lib.hid (HB.out.trans (hb.mono HB.out.size)); clear hb HB
  go_wp2_with fail
  refine (mask_calls _ _ _).mono ?_; rintro e w' ⟨rfl, rfl⟩
  rw [HM.out]
  go_wp2_with fail
  refine (refwith_calls _ _ _ _ _ (by omega) (by omega) (by omega) (by omega) a1 a2 b1 b2).mono ?_; rintro e wc ⟨rfl, hb⟩
  have HB3 := Lib.hid (HB2.out.trans (hb.mono HB2.out.size)); clear hb HB2
  go_wp2_with fail
  refine (lives_calls _).mono ?_; rintro e w' ⟨rfl, rfl⟩
  go_wp2_with fail
  go_ret
  exact ⟨rfl, HB3.out⟩
end Go.Proofs.Ytijmcaakdinfpaa
