/- The walks of layer 4's statements. -/
import Derived.Test.YtmgpdohlkmbamaaBadgeA
import Derived.Test.YtmgpdohlkmbamaaFrame
import Derived.Test.YtmgpdohlkmbamaaExt
namespace Go.Proofs.Ytmgpdohlkmbamaa
open Go.RowKit WordM EdgeM

theorem lives4_calls (w : World) : Calls Try.prog 10 #[] w fun e w' => e = .returned (.bool true) ∧ w = w' := by
  have H1 := Lib.hid (show headI 5 (0 / 4096 + 1) = 4101 by decide)
  go_enter Try.func10, Try.ntmps10
  go_wp2_with fail
  refine (bchanged_calls _ _ _ (by omega) (by omega)).mono ?_; rintro _ _ ⟨rfl, rfl⟩
  rw [H1.out]
  go_wp2_with fail
  refine (bactive_calls _ _ (by omega)).mono ?_; rintro _ _ ⟨rfl, rfl⟩
  go_wp2_with fail
  go_ret
  exact ⟨rfl, rfl⟩

theorem refslot4_calls (n : Int) (w : World) (n1 : -9223372036854775808 ≤ n) (n2 : n < 9223372036854775808) :
    Calls Try.prog 19 #[.int .i64 n] w fun e w' => e = .returned (.int .u64 (slotI n)) ∧ w = w' := by
  rcases (by omega : n < 0 ∨ n = 0 ∨ (0 < n ∧ n < 4096) ∨ (0 < n ∧ 4096 ≤ n)) with h | h | ⟨h, h'⟩ | ⟨h, h'⟩
  all_goals
    first
      | have HS := Lib.hid (show slotI n = n from slotI_of (by omega) (by omega))
      | have HS := Lib.hid (show slotI n = 0 from slotI_not (by omega))
    try have HU := Lib.hid (show IntKind.u64.wrap n = n by rw [IntKind.wrap_u64]; omega)
    try subst h
    go_enter Try.func19, Try.ntmps19
    go_wp2
    go_ret
    exact ⟨ret_int (by rw [HS.out]), rfl⟩

theorem refhead4_calls (s g : Int) (w : World) (s1 : -9223372036854775808 ≤ s) (s2 : s < 9223372036854775808) (g1 : 0 ≤ g) :
    Calls Try.prog 7 #[.int .i64 s, .int .u64 g] w fun e w' => e = .returned (.int .u64 (headI s g)) ∧ w = w' := by
  have hb := slotI_bd s
  have hm : 0 ≤ g % 4503599627370496 ∧ g % 4503599627370496 < 4503599627370496 := by omega
  have HH := Lib.hid (show headI s g = slotI s + 4096 * (g % 4503599627370496) from rfl)
  go_enter Try.func7, Try.ntmps7
  go_wp2_with fail
  refine (refslot4_calls _ _ s1 s2).mono ?_; rintro _ _ ⟨rfl, rfl⟩
  go_wp2_with fail
  go_ret
  exact ⟨ret_int (by rw [HH.out]), rfl⟩

theorem refepoch4_calls (h : Int) (w : World) (h1 : 0 ≤ h) (h2 : h < 18446744073709551616) :
    Calls Try.prog 12 #[.int .u64 h] w fun e w' => e = .returned (.tuple #[.int .u64 (if oddB h then h / 2 else 0), .bool (oddB h)]) ∧ w = w' := by
  cases ho : oddB h
  · have hh := oddB_false ho
    clear ho
    go_enter Try.func12, Try.ntmps12
    go_wp2
    go_ret2
    exact ⟨rfl, rfl⟩
  · have hh := oddB_true ho
    have hz : (h % 2 == 0) = false := by rw [beq_eq_false_iff_ne]; omega
    clear ho
    have Hh := Lib.hid hh; clear hh
    go_enter Try.func12, Try.ntmps12
    go_wp2
    go_ret2
    exact ⟨rfl, rfl⟩

theorem refold4_calls (s ep : Int) (w : World) (s1 : 0 ≤ s) (s2 : s < 18446744073709551616) :
    Calls Try.prog 16 #[.int .u64 s, .int .u64 ep] w fun e w' => e = .returned (.bool (oldB s ep)) ∧ w = w' := by
  rcases (by omega : 18446744073709551612 < s ∨ (s ≤ 18446744073709551612 ∧ s + 3 ≤ ep) ∨ (s ≤ 18446744073709551612 ∧ ep < s + 3)) with h | ⟨h, h'⟩ | ⟨h, h'⟩
  all_goals
    first
      | have HL := Lib.hid (show oldB s ep = true from decide_eq_true (by omega))
      | have HL := Lib.hid (show oldB s ep = false from decide_eq_false (by omega))
    try have hd : decide (s + 3 ≤ ep) = false := decide_eq_false (by omega)
    go_enter Try.func16, Try.ntmps16
    go_wp2
    go_ret
    exact ⟨by rw [HL.out]; simp, rfl⟩

theorem badgeHeads_walk (v0 v1 v2 : Value) (w : World) (s0 : Fr.ok1 w (.int .i64) v0) (s1 : Fr.ok1 w (.int .u64) v1) (s2 : Fr.ok1 w (.int .u64) v2) :
    Calls Try.prog 3 #[v0, v1, v2] w fun e w' => e = .returned (.bool true) ∧ Below w.heap.size w w' := by
  obtain ⟨s, rfl, ws⟩ := Fr.get_int s0
  obtain ⟨g, rfl, wg⟩ := Fr.get_int s1
  obtain ⟨h, rfl, wh⟩ := Fr.get_int s2
  obtain ⟨a1, a2⟩ := wf64 ws
  obtain ⟨g1, g2⟩ := wfu64 wg
  obtain ⟨h1, h2⟩ := wfu64 wh
  clear s0 s1 s2 ws wg wh
  go_enter Try.func3, Try.ntmps3
  go_wp2_with (first | (go_at_call 6; refine (bhead_calls _ _ _ ?_).mono ?_; omega; rintro _ _ ⟨rfl, rfl⟩) | (go_at_call 8; refine (bslot_calls _ _ ?_ ?_).mono ?_; omega; omega; rintro _ _ ⟨rfl, rfl⟩) | (go_at_call 9; refine (bchanged_calls _ _ _ ?_ ?_).mono ?_; omega; omega; rintro _ _ ⟨rfl, rfl⟩) | (go_at_call 14; refine (bactive_calls _ _ ?_).mono ?_; omega; rintro _ _ ⟨rfl, rfl⟩) | (go_at_call 11; refine (bepoch_calls _ _ ?_ ?_).mono ?_; omega; omega; rintro _ _ ⟨rfl, rfl⟩) | (go_at_call 13; refine (blags_calls _ _ _ ?_ ?_).mono ?_; omega; omega; rintro _ _ ⟨rfl, rfl⟩) | (go_at_call 15; refine (bold_calls _ _ _ ?_ ?_).mono ?_; omega; omega; rintro _ _ ⟨rfl, rfl⟩) | (go_at_call 17; refine (bbag_calls _ _ ?_ ?_).mono ?_; omega; omega; rintro _ _ ⟨rfl, rfl⟩) | (go_at_call 19; refine (refslot4_calls _ _ ?_ ?_).mono ?_; omega; omega; rintro _ _ ⟨rfl, rfl⟩) | (go_at_call 7; refine (refhead4_calls _ _ _ ?_ ?_ ?_).mono ?_; omega; omega; omega; rintro _ _ ⟨rfl, rfl⟩) | (go_at_call 12; refine (refepoch4_calls _ _ ?_ ?_).mono ?_; omega; omega; rintro _ _ ⟨rfl, rfl⟩) | (go_at_call 16; refine (refold4_calls _ _ _ ?_ ?_).mono ?_; omega; omega; rintro _ _ ⟨rfl, rfl⟩) | (go_at_call 10; refine (lives4_calls _).mono ?_; rintro _ _ ⟨rfl, rfl⟩))
  go_ret
  exact ⟨by simp, Below.refl _ _⟩

theorem badgeEpochs_walk (v0 v1 v2 : Value) (w : World) (s0 : Fr.ok1 w (.int .u64) v0) (s1 : Fr.ok1 w (.int .u64) v1) (s2 : Fr.ok1 w (.int .u64) v2) :
    Calls Try.prog 4 #[v0, v1, v2] w fun e w' => e = .returned (.bool true) ∧ Below w.heap.size w w' := by
  obtain ⟨x, rfl, wx⟩ := Fr.get_int s0
  obtain ⟨g, rfl, wg⟩ := Fr.get_int s1
  obtain ⟨h, rfl, wh⟩ := Fr.get_int s2
  obtain ⟨x1, x2⟩ := wfu64 wx
  obtain ⟨g1, g2⟩ := wfu64 wg
  obtain ⟨h1, h2⟩ := wfu64 wh
  clear s0 s1 s2 wx wg wh
  have ha : g % 9223372036854775808 * 2 + 1 = 1 + 2 * (g % 9223372036854775808) := by omega
  cases ho : oddB x
  · have hl : lagsB x g = false := by unfold lagsB; rw [ho]; rfl
    go_enter Try.func4, Try.ntmps4
    go_wp2_with (first | (go_at_call 6; refine (bhead_calls _ _ _ ?_).mono ?_; omega; rintro _ _ ⟨rfl, rfl⟩) | (go_at_call 8; refine (bslot_calls _ _ ?_ ?_).mono ?_; omega; omega; rintro _ _ ⟨rfl, rfl⟩) | (go_at_call 9; refine (bchanged_calls _ _ _ ?_ ?_).mono ?_; omega; omega; rintro _ _ ⟨rfl, rfl⟩) | (go_at_call 14; refine (bactive_calls _ _ ?_).mono ?_; omega; rintro _ _ ⟨rfl, rfl⟩) | (go_at_call 11; refine (bepoch_calls _ _ ?_ ?_).mono ?_; omega; omega; rintro _ _ ⟨rfl, rfl⟩) | (go_at_call 13; refine (blags_calls _ _ _ ?_ ?_).mono ?_; omega; omega; rintro _ _ ⟨rfl, rfl⟩) | (go_at_call 15; refine (bold_calls _ _ _ ?_ ?_).mono ?_; omega; omega; rintro _ _ ⟨rfl, rfl⟩) | (go_at_call 17; refine (bbag_calls _ _ ?_ ?_).mono ?_; omega; omega; rintro _ _ ⟨rfl, rfl⟩) | (go_at_call 19; refine (refslot4_calls _ _ ?_ ?_).mono ?_; omega; omega; rintro _ _ ⟨rfl, rfl⟩) | (go_at_call 7; refine (refhead4_calls _ _ _ ?_ ?_ ?_).mono ?_; omega; omega; omega; rintro _ _ ⟨rfl, rfl⟩) | (go_at_call 12; refine (refepoch4_calls _ _ ?_ ?_).mono ?_; omega; omega; rintro _ _ ⟨rfl, rfl⟩) | (go_at_call 16; refine (refold4_calls _ _ _ ?_ ?_).mono ?_; omega; omega; rintro _ _ ⟨rfl, rfl⟩) | (go_at_call 10; refine (lives4_calls _).mono ?_; rintro _ _ ⟨rfl, rfl⟩))
    go_ret
    exact ⟨by simp, Below.refl _ _⟩
  · cases hq : (x / 2 != g)
    all_goals
      have hl : lagsB x g = (true && (x / 2 != g)) := by unfold lagsB; rw [ho]
      rw [hq] at hl
      simp only [Bool.and_true, Bool.and_false] at hl
      go_enter Try.func4, Try.ntmps4
      go_wp2_with (first | (go_at_call 6; refine (bhead_calls _ _ _ ?_).mono ?_; omega; rintro _ _ ⟨rfl, rfl⟩) | (go_at_call 8; refine (bslot_calls _ _ ?_ ?_).mono ?_; omega; omega; rintro _ _ ⟨rfl, rfl⟩) | (go_at_call 9; refine (bchanged_calls _ _ _ ?_ ?_).mono ?_; omega; omega; rintro _ _ ⟨rfl, rfl⟩) | (go_at_call 14; refine (bactive_calls _ _ ?_).mono ?_; omega; rintro _ _ ⟨rfl, rfl⟩) | (go_at_call 11; refine (bepoch_calls _ _ ?_ ?_).mono ?_; omega; omega; rintro _ _ ⟨rfl, rfl⟩) | (go_at_call 13; refine (blags_calls _ _ _ ?_ ?_).mono ?_; omega; omega; rintro _ _ ⟨rfl, rfl⟩) | (go_at_call 15; refine (bold_calls _ _ _ ?_ ?_).mono ?_; omega; omega; rintro _ _ ⟨rfl, rfl⟩) | (go_at_call 17; refine (bbag_calls _ _ ?_ ?_).mono ?_; omega; omega; rintro _ _ ⟨rfl, rfl⟩) | (go_at_call 19; refine (refslot4_calls _ _ ?_ ?_).mono ?_; omega; omega; rintro _ _ ⟨rfl, rfl⟩) | (go_at_call 7; refine (refhead4_calls _ _ _ ?_ ?_ ?_).mono ?_; omega; omega; omega; rintro _ _ ⟨rfl, rfl⟩) | (go_at_call 12; refine (refepoch4_calls _ _ ?_ ?_).mono ?_; omega; omega; rintro _ _ ⟨rfl, rfl⟩) | (go_at_call 16; refine (refold4_calls _ _ _ ?_ ?_).mono ?_; omega; omega; rintro _ _ ⟨rfl, rfl⟩) | (go_at_call 10; refine (lives4_calls _).mono ?_; rintro _ _ ⟨rfl, rfl⟩))
      go_ret
      exact ⟨by simp, Below.refl _ _⟩

set_option maxHeartbeats 1000000 in
theorem badgeBack_walk (v0 v1 v2 : Value) (w : World) (s0 : Fr.ok1 w (.int .u64) v0) (s1 : Fr.okN w [.int .u64, .int .u64] v1) (s2 : Fr.ok1 w (.int .i64) v2) :
    Calls Try.prog 5 #[v0, v1, v2] w fun e w' => e = .returned (.bool true) ∧ Below w.heap.size w w' := by
  obtain ⟨h, rfl, wh⟩ := Fr.get_int s0
  obtain ⟨cs, rfl, hcs⟩ := s1
  obtain ⟨_, _, rfl, k0, hcs⟩ := Fr.get_cons hcs
  obtain ⟨_, _, rfl, k1, hcs⟩ := Fr.get_cons hcs
  obtain rfl := Fr.get_nil hcs
  obtain ⟨e, rfl, we⟩ := Fr.get_int k0
  obtain ⟨l, rfl, wl⟩ := Fr.get_int k1
  obtain ⟨s, rfl, ws⟩ := Fr.get_int s2
  obtain ⟨h1, h2⟩ := wfu64 wh
  obtain ⟨e1, e2⟩ := wfu64 we
  obtain ⟨l1, l2⟩ := wfu64 wl
  obtain ⟨a1, a2⟩ := wf64 ws
  clear s0 s2 k0 k1 hcs wh we wl ws
  show Calls Try.prog _ #[_, .agg #[.int .u64 e, .int .u64 l], _] w _
  have ha : oddB (1 + 2 * (e % 9223372036854775808)) = true := by unfold oddB; rw [beq_iff_eq]; omega
  have hd : (1 + 2 * (e % 9223372036854775808)) / 2 = e % 9223372036854775808 := by omega
  have hl : lagsB (1 + 2 * (e % 9223372036854775808)) (e % 9223372036854775808) = false := by unfold lagsB; rw [hd]; simp
  obtain ⟨n, hn⟩ : ∃ n, n = headI s (h / 4096 + 1) := ⟨_, rfl⟩
  have nb := headI_bd s (g := h / 4096 + 1) (by omega)
  have sb := slotI_bd s
  have q1 : (n == h) = false := by rw [beq_eq_false_iff_ne, hn]; unfold headI; omega
  have q2 : n % 4096 = slotI s := by rw [hn]; unfold headI; omega
  obtain ⟨m, hm⟩ : ∃ m, m = headI s (n / 4096 + 1) := ⟨_, rfl⟩
  have q3 : (m == h) = false := by rw [beq_eq_false_iff_ne, hm, hn]; unfold headI; omega
  rw [← hn] at nb
  have HN := Lib.hid hn.symm; clear hn
  have HM := Lib.hid hm.symm; clear hm
  have hslot : (0 ≤ s ∧ s < 4096 ∧ slotI s = s) ∨ s < 0 ∨ (0 ≤ s ∧ 4096 ≤ s) := by
    rcases (by omega : (0 ≤ s ∧ s < 4096) ∨ s < 0 ∨ (0 ≤ s ∧ 4096 ≤ s)) with ⟨k, k'⟩ | k | k
    · exact .inl ⟨k, k', slotI_of k (by omega)⟩
    · exact .inr (.inl k)
    · exact .inr (.inr k)
  have hold : ((e % 3 == l % 3) = false) ∨ ((e % 3 == l % 3) = true ∧ l ≤ e) ∨ ((e % 3 == l % 3) = true ∧ e < l ∧ oldB e l = true) := by
    cases hq : (e % 3 == l % 3)
    · exact .inl rfl
    · have hq' : e % 3 = l % 3 := by simpa using hq
      rcases (by omega : l ≤ e ∨ e < l) with k | k
      · exact .inr (.inl ⟨rfl, k⟩)
      · exact .inr (.inr ⟨rfl, k, decide_eq_true (by omega)⟩)
  rcases hslot with ⟨p1, p2, p3⟩ | p | ⟨p1, p2⟩
  all_goals
    rcases hold with o | ⟨o1, o2⟩ | ⟨o1, o2, o3⟩
    all_goals
      go_enter Try.func5, Try.ntmps5
      go_wp2_with fail
      go_quiet (fail)
      go_wp2_with (first | (go_at_call 9; refine (bchanged_calls _ _ _ ?_ ?_).mono ?_; omega; omega; rintro _ _ ⟨rfl, rfl⟩; first | rw [HN.out] | rw [HM.out]) | first | (go_at_call 6; refine (bhead_calls _ _ _ ?_).mono ?_; omega; rintro _ _ ⟨rfl, rfl⟩) | (go_at_call 8; refine (bslot_calls _ _ ?_ ?_).mono ?_; omega; omega; rintro _ _ ⟨rfl, rfl⟩) | (go_at_call 9; refine (bchanged_calls _ _ _ ?_ ?_).mono ?_; omega; omega; rintro _ _ ⟨rfl, rfl⟩) | (go_at_call 14; refine (bactive_calls _ _ ?_).mono ?_; omega; rintro _ _ ⟨rfl, rfl⟩) | (go_at_call 11; refine (bepoch_calls _ _ ?_ ?_).mono ?_; omega; omega; rintro _ _ ⟨rfl, rfl⟩) | (go_at_call 13; refine (blags_calls _ _ _ ?_ ?_).mono ?_; omega; omega; rintro _ _ ⟨rfl, rfl⟩) | (go_at_call 15; refine (bold_calls _ _ _ ?_ ?_).mono ?_; omega; omega; rintro _ _ ⟨rfl, rfl⟩) | (go_at_call 17; refine (bbag_calls _ _ ?_ ?_).mono ?_; omega; omega; rintro _ _ ⟨rfl, rfl⟩) | (go_at_call 19; refine (refslot4_calls _ _ ?_ ?_).mono ?_; omega; omega; rintro _ _ ⟨rfl, rfl⟩) | (go_at_call 7; refine (refhead4_calls _ _ _ ?_ ?_ ?_).mono ?_; omega; omega; omega; rintro _ _ ⟨rfl, rfl⟩) | (go_at_call 12; refine (refepoch4_calls _ _ ?_ ?_).mono ?_; omega; omega; rintro _ _ ⟨rfl, rfl⟩) | (go_at_call 16; refine (refold4_calls _ _ _ ?_ ?_).mono ?_; omega; omega; rintro _ _ ⟨rfl, rfl⟩) | (go_at_call 10; refine (lives4_calls _).mono ?_; rintro _ _ ⟨rfl, rfl⟩))
      go_ret
      exact ⟨by simp, below_drewN ((Below.refl _ _).alloc (Nat.le_refl _) _) _⟩
end Go.Proofs.Ytmgpdohlkmbamaa
