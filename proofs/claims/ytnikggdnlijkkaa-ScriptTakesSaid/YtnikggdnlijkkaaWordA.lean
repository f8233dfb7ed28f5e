/- Contracts of layer 1's functions. -/
import Derived.Test.YtnikggdnlijkkaaWordM
import Derived.Test.YtnikggdnlijkkaaRows
import Derived.WalkKit
import Derived.ProofKit
import Derived.Outline
import Derived.Lib.Hide
namespace Go.Proofs.Ytnikggdnlijkkaa
open Go.RowKit WordM

theorem ret_int {k : IntKind} {a b : Int} (h : a = b) : Ending.returned (.int k a) = .returned (.int k b) := by rw [h]

theorem may_calls (a b : Int) (w : World) :
    Calls Try.prog 33 #[.int .i64 a, .int .i64 b] w fun e w' => e = .returned (.bool (mayB a b)) ∧ w = w' := by
  by_cases h : mayB a b = true
  · obtain ⟨h1, h2, h3, h4, h5⟩ := may_true h
    rw [h]; clear h
    go_enter Try.func33, Try.ntmps33
    go_wp2
    go_ret
    exact ⟨rfl, rfl⟩
  · have hf : mayB a b = false := by simpa using h
    have h' := may_false hf
    rw [hf]; clear h hf
    by_cases h1 : 0 ≤ a
    all_goals by_cases h2 : a ≤ 63
    all_goals by_cases h3 : 1 ≤ b
    all_goals by_cases h4 : b ≤ 64
    all_goals try (have h5 : ¬ a + b ≤ 64 := by omega)
    all_goals try clear h'
    all_goals
      go_enter Try.func33, Try.ntmps33
      go_wp2
      go_ret
      exact ⟨rfl, rfl⟩

theorem mask_calls (a b : Int) (w : World) :
    Calls Try.prog 34 #[.int .i64 a, .int .i64 b] w fun e w' => e = .returned (.int .u64 (maskI a b)) ∧ w = w' := by
  by_cases h : mayB a b = true
  · have hs := Lib.hid (mask_spell a b h)
    obtain ⟨h1, h2, h3, h4, h5⟩ := may_true h
    go_enter Try.func34, Try.ntmps34
    go_wp2_with (go_at_call 33; refine (may_calls _ _ _).mono ?_; rintro e w' ⟨rfl, rfl⟩)
    go_ret
    exact ⟨ret_int hs.out, rfl⟩
  · have hf : mayB a b = false := by simpa using h
    have hm : maskI a b = 0 := by unfold maskI; rw [if_neg h]
    rw [hm]; clear h hm
    go_enter Try.func34, Try.ntmps34
    go_wp2_with (go_at_call 33; refine (may_calls _ _ _).mono ?_; rintro e w' ⟨rfl, rfl⟩)
    go_ret
    exact ⟨rfl, rfl⟩

theorem field_calls (x a b : Int) (w : World) (x1 : 0 ≤ x) (x2 : x < 18446744073709551616) :
    Calls Try.prog 26 #[.int .u64 x, .int .i64 a, .int .i64 b] w fun e w' => e = .returned (.int .u64 (fieldI x a b)) ∧ w = w' := by
  by_cases h : mayB a b = true
  · have hs := Lib.hid (field_spell x a b h x1 x2)
    obtain ⟨h1, h2, h3, h4, h5⟩ := may_true h
    go_enter Try.func26, Try.ntmps26
    go_wp2_with (first | (go_at_call 33; refine (may_calls _ _ _).mono ?_; rintro e w' ⟨rfl, rfl⟩) | (go_at_call 34; refine (mask_calls _ _ _).mono ?_; rintro e w' ⟨rfl, rfl⟩))
    go_ret
    exact ⟨ret_int hs.out, rfl⟩
  · have hf : mayB a b = false := by simpa using h
    have hm : fieldI x a b = 0 := by unfold fieldI; rw [if_neg h]
    rw [hm]; clear h hm
    go_enter Try.func26, Try.ntmps26
    go_wp2_with (go_at_call 33; refine (may_calls _ _ _).mono ?_; rintro e w' ⟨rfl, rfl⟩)
    go_ret
    exact ⟨rfl, rfl⟩

theorem with_calls (x a b n : Int) (w : World) (x1 : 0 ≤ x) (x2 : x < 18446744073709551616) (n1 : 0 ≤ n) :
    Calls Try.prog 32 #[.int .u64 x, .int .i64 a, .int .i64 b, .int .u64 n] w fun e w' => e = .returned (.int .u64 (withI x a b n)) ∧ w = w' := by
  by_cases h : mayB a b = true
  · have hs := Lib.hid (with_spell x a b n h x1 x2 n1)
    obtain ⟨h1, h2, h3, h4, h5⟩ := may_true h
    go_enter Try.func32, Try.ntmps32
    go_wp2_with (first | (go_at_call 33; refine (may_calls _ _ _).mono ?_; rintro e w' ⟨rfl, rfl⟩) | (go_at_call 34; refine (mask_calls _ _ _).mono ?_; rintro e w' ⟨rfl, rfl⟩))
    go_ret
    exact ⟨ret_int hs.out, rfl⟩
  · have hf : mayB a b = false := by simpa using h
    have hm : withI x a b n = x := by unfold withI; rw [if_neg h]
    rw [hm]; clear h hm
    go_enter Try.func32, Try.ntmps32
    go_wp2_with (go_at_call 33; refine (may_calls _ _ _).mono ?_; rintro e w' ⟨rfl, rfl⟩)
    go_ret
    exact ⟨rfl, rfl⟩

theorem bits_calls (n : Int) (w : World) :
    Calls Try.prog 31 #[.int .i64 n] w fun e w' => e = .returned (.int .u64 (IntKind.u64.wrap n)) ∧ w = w' := by
  go_enter Try.func31, Try.ntmps31
  go_wp2
  go_ret
  exact ⟨rfl, rfl⟩


theorem signed_calls (n : Int) (w : World) :
    Calls Try.prog 35 #[.int .u64 n] w fun e w' => e = .returned (.int .i64 (wrap64 n)) ∧ w = w' := by
  go_enter Try.func35, Try.ntmps35
  go_wp2
  go_ret
  exact ⟨rfl, rfl⟩


theorem bit_calls (x a : Int) (w : World) (x1 : 0 ≤ x) (x2 : x < 18446744073709551616) :
    Calls Try.prog 25 #[.int .u64 x, .int .i64 a] w fun e w' => e = .returned (.bool (fieldI x a 1 == 1)) ∧ w = w' := by
  go_enter Try.func25, Try.ntmps25
  go_wp2_with fail
  refine (field_calls _ _ _ _ x1 x2).mono ?_; rintro e w' ⟨rfl, rfl⟩
  go_wp2_with fail
  go_ret
  exact ⟨rfl, rfl⟩

theorem turned_calls (x a : Int) (on : Bool) (w : World) (x1 : 0 ≤ x) (x2 : x < 18446744073709551616) :
    Calls Try.prog 30 #[.int .u64 x, .int .i64 a, .bool on] w fun e w' => e = .returned (.int .u64 (withI x a 1 (if on then 1 else 0))) ∧ w = w' := by
  cases on
  all_goals
    go_enter Try.func30, Try.ntmps30
    go_wp2_with fail
    refine (with_calls _ _ _ _ _ x1 x2 (by omega)).mono ?_; rintro e w' ⟨rfl, rfl⟩
    go_wp2_with fail
    go_ret
    exact ⟨rfl, rfl⟩

theorem wf64 {n : Int} (h : (Lit.int .i64 n).wf = true) : -9223372036854775808 ≤ n ∧ n < 9223372036854775808 := by
  simp [Lit.wf, IntKind.min, IntKind.max, IntKind.signed, IntKind.bits] at h; omega
theorem wfu64 {n : Int} (h : (Lit.int .u64 n).wf = true) : 0 ≤ n ∧ n < 18446744073709551616 := by
  simp [Lit.wf, IntKind.min, IntKind.max, IntKind.signed, IntKind.bits] at h; omega
end Go.Proofs.Ytnikggdnlijkkaa
