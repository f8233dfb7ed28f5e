/- The walks of WordRises and WordKeeps. -/
import Derived.Test.YtijmcaakdinfpaaWordA
import Derived.Test.YtijmcaakdinfpaaFrame
import Derived.Below
import Derived.Deep.QuietTactic
import Derived.BigQuiet
import Derived.WalkSmall
namespace Go.Proofs.Ytijmcaakdinfpaa
open Go.RowKit WordM

theorem wf64 {n : Int} (h : (Lit.int .i64 n).wf = true) : -9223372036854775808 ≤ n ∧ n < 9223372036854775808 := by
  simp [Lit.wf, IntKind.min, IntKind.max, IntKind.signed, IntKind.bits] at h; omega
theorem wfu64 {n : Int} (h : (Lit.int .u64 n).wf = true) : 0 ≤ n ∧ n < 18446744073709551616 := by
  simp [Lit.wf, IntKind.min, IntKind.max, IntKind.signed, IntKind.bits] at h; omega

theorem lives_calls (w : World) : Calls Try.prog 13 #[] w fun e w' => e = .returned (.bool true) ∧ w = w' := by
  have h1 : withI 0 4 8 511 = 4080 := by decide +kernel
  have H := Lib.hid h1; clear h1
  go_enter Try.func13, Try.ntmps13
  go_wp2_with fail
  refine (with_calls _ _ _ _ _ (by omega) (by omega) (by omega)).mono ?_; rintro e w' ⟨rfl, rfl⟩
  rw [H.out]
  go_wp2_with fail
  refine (rank_calls _ _ (by omega) (by omega)).mono ?_; rintro e w' ⟨rfl, rfl⟩
  go_wp2_with fail
  go_ret
  exact ⟨rfl, rfl⟩

theorem wordRises_walk (v0 v1 : Value) (w : World) (s0 : Fr.ok1 w (.int .i64) v0) (s1 : Fr.ok1 w (.int .i64) v1) :
    Calls Try.prog 7 #[v0, v1] w fun e w' => e = .returned (.bool true) ∧ Below w.heap.size w w' := by
  obtain ⟨m, rfl, wm⟩ := Fr.get_int s0
  obtain ⟨n, rfl, wn⟩ := Fr.get_int s1
  clear s0 s1
  obtain ⟨m1, m2⟩ := wf64 wm
  obtain ⟨n1, n2⟩ := wf64 wn
  clear wm wn
  have hs : wrap64 (IntKind.u64.wrap m) = m := by rw [IntKind.wrap_u64]; unfold wrap64; omega
  have HS := Lib.hid hs; clear hs
  rcases (by omega : (m < n) ∨ (n ≤ m)) with h | h
  all_goals
    first | (have hd : decide (m < n) = false := decide_eq_false (by omega)) | (have hd : decide (m < n) = true := decide_eq_true (by omega))
    go_enter Try.func7, Try.ntmps7
    go_wp2_with fail
    refine (rank_calls _ _ (by omega) (by omega)).mono ?_; rintro e w' ⟨rfl, rfl⟩
    go_wp2_with fail
    refine (rank_calls _ _ (by omega) (by omega)).mono ?_; rintro e w' ⟨rfl, rfl⟩
    go_wp2_with fail
    refine (rank_calls _ _ (by omega) (by omega)).mono ?_; rintro e w' ⟨rfl, rfl⟩
    go_wp2_with fail
    refine (of_calls _ _ (by omega) (by omega)).mono ?_; rintro e w' ⟨rfl, rfl⟩
    rw [show m + 9223372036854775808 - 9223372036854775808 = m by omega]
    go_wp2_with fail
    refine (bits_calls _ _).mono ?_; rintro e w' ⟨rfl, rfl⟩
    go_wp2_with fail
    refine (signed_calls _ _).mono ?_; rintro e w' ⟨rfl, rfl⟩
    rw [HS.out]
    go_wp2_with fail
    refine (lives_calls _).mono ?_; rintro e w' ⟨rfl, rfl⟩
    go_wp2_with fail
    go_ret
    exact ⟨rfl, Below.refl _ _⟩

set_option maxHeartbeats 4000000 in
theorem wordKeeps_walk (v0 v1 v2 : Value) (w : World) (s0 : Fr.ok1 w (.int .u64) v0) (s1 : Fr.ok1 w (.int .u64) v1) (s2 : Fr.okN w [.int .i64, .int .i64, .int .i64, .int .i64] v2) :
    Calls Try.prog 6 #[v0, v1, v2] w fun e w' => e = .returned (.bool true) ∧ Below w.heap.size w w' := by
  obtain ⟨x, rfl, wx⟩ := Fr.get_int s0
  obtain ⟨n, rfl, wn⟩ := Fr.get_int s1
  obtain ⟨cs, rfl, hcs⟩ := s2
  obtain ⟨_, _, rfl, k0, hcs⟩ := Fr.get_cons hcs
  obtain ⟨_, _, rfl, k1, hcs⟩ := Fr.get_cons hcs
  obtain ⟨_, _, rfl, k2, hcs⟩ := Fr.get_cons hcs
  obtain ⟨_, _, rfl, k3, hcs⟩ := Fr.get_cons hcs
  obtain rfl := Fr.get_nil hcs
  obtain ⟨a, rfl, wa⟩ := Fr.get_int k0
  obtain ⟨b, rfl, wb⟩ := Fr.get_int k1
  obtain ⟨c, rfl, wc⟩ := Fr.get_int k2
  obtain ⟨d, rfl, wd⟩ := Fr.get_int k3
  clear s0 s1 k0 k1 k2 k3 hcs
  obtain ⟨x1, x2⟩ := wfu64 wx
  obtain ⟨n1, n2⟩ := wfu64 wn
  obtain ⟨a1, a2⟩ := wf64 wa
  obtain ⟨b1, b2⟩ := wf64 wb
  obtain ⟨c1, c2⟩ := wf64 wc
  obtain ⟨d1, d2⟩ := wf64 wd
  clear wx wn wa wb wc wd
  show Calls Try.prog _ #[_, _, .agg #[.int .i64 a, .int .i64 b, .int .i64 c, .int .i64 d]] w _
  rcases (by omega : (a < 0) ∨ (0 ≤ a ∧ 63 < a) ∨ (0 ≤ a ∧ a ≤ 63 ∧ b < 1) ∨ (0 ≤ a ∧ a ≤ 63 ∧ 1 ≤ b ∧ 64 - a < b) ∨ (0 ≤ a ∧ a ≤ 63 ∧ 1 ≤ b ∧ b ≤ 64 - a)) with h | ⟨h, h'⟩ | ⟨h, h', h''⟩ | ⟨h, h', h'', h3⟩ | ⟨h, h', h'', h3⟩
  iterate 4
    case _ =>
      have HX := Lib.hid (with_not (x := x) (a := a) (b := b) (n := n) (by omega))
      go_enter Try.func6, Try.ntmps6
      go_wp2_with fail
      go_quiet (fail)
      go_wp2_with fail
      refine (with_calls _ _ _ _ _ (by omega) (by omega) (by omega)).mono ?_; rintro e w' ⟨rfl, rfl⟩
      rw [HX.out]
      go_wp2_with fail
      refine (lives_calls _).mono ?_; rintro e w' ⟨rfl, rfl⟩
      go_wp2_with fail
      go_ret
      exact ⟨rfl, below_drewN ((Below.refl _ _).alloc (Nat.le_refl _) _) _⟩
  have HX := Lib.hid (field_with (x := x) (a := a) (b := b) (n := n) (by omega))
  have HO := Lib.hid (field_with_other (x := x) (a := a) (b := b) (n := n) (c := c) (d := d) (by omega))
  have xb := with_bd x a b n x1 x2
  rcases (by omega : (c < 0) ∨ (0 ≤ c ∧ d < 1) ∨ (0 ≤ c ∧ 1 ≤ d ∧ 64 < d) ∨ (0 ≤ c ∧ 1 ≤ d ∧ d ≤ 64 ∧ 64 - d < c) ∨ (0 ≤ c ∧ 1 ≤ d ∧ d ≤ 64 ∧ c ≤ 64 - d ∧ c < a + b ∧ a < c + d) ∨ (0 ≤ c ∧ 1 ≤ d ∧ d ≤ 64 ∧ c ≤ 64 - d ∧ a + b ≤ c) ∨ (0 ≤ c ∧ 1 ≤ d ∧ d ≤ 64 ∧ c ≤ 64 - d ∧ c < a + b ∧ c + d ≤ a)) with g | ⟨g, g'⟩ | ⟨g, g', g3⟩ | ⟨g, g', g3, g4⟩ | ⟨g, g', g3, g4, g5, g6⟩ | ⟨g, g', g3, g4, g5⟩ | ⟨g, g', g3, g4, g5, g6⟩
  all_goals
    first | (have q1 : decide (a + b ≤ c) = false := decide_eq_false (by omega)) | (have q1 : decide (a + b ≤ c) = true := decide_eq_true (by omega)) | skip
    first | (have q2 : decide (c + d ≤ a) = false := decide_eq_false (by omega)) | (have q2 : decide (c + d ≤ a) = true := decide_eq_true (by omega)) | skip
    go_enter Try.func6, Try.ntmps6
    go_wp2_with fail
    go_quiet (fail)
    go_wp2_with fail
    refine (with_calls _ _ _ _ _ (by omega) (by omega) (by omega)).mono ?_; rintro e w' ⟨rfl, rfl⟩
    go_wp2_with fail
    refine (field_calls _ _ _ _ (by omega) (by omega)).mono ?_; rintro e w' ⟨rfl, rfl⟩
    rw [HX.out]
    go_wp2_with fail
    refine (field_calls _ _ _ _ (by omega) (by omega)).mono ?_; rintro e w' ⟨rfl, rfl⟩
    go_wp2_with fail
  iterate 5
    case _ =>
      refine (lives_calls _).mono ?_; rintro e w' ⟨rfl, rfl⟩
      go_wp2_with fail
      go_ret
      exact ⟨rfl, below_drewN ((Below.refl _ _).alloc (Nat.le_refl _) _) _⟩
  all_goals
    refine (field_calls _ _ _ _ (by omega) (by omega)).mono ?_; rintro e w' ⟨rfl, rfl⟩
    rw [HO.out (by omega)]
    go_wp2_with fail
    refine (field_calls _ _ _ _ (by omega) (by omega)).mono ?_; rintro e w' ⟨rfl, rfl⟩
    go_wp2_with fail
    refine (lives_calls _).mono ?_; rintro e w' ⟨rfl, rfl⟩
    go_wp2_with fail
    go_ret
    exact ⟨rfl, below_drewN ((Below.refl _ _).alloc (Nat.le_refl _) _) _⟩
end Go.Proofs.Ytijmcaakdinfpaa
