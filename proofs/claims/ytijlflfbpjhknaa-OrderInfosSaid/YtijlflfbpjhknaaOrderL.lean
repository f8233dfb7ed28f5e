/- The walks of layer 2's statements. -/
import Derived.Test.YtijlflfbpjhknaaOrderA
import Derived.Test.YtijlflfbpjhknaaFrame
namespace Go.Proofs.Ytijlflfbpjhknaa
open Go.RowKit WordM EdgeM

theorem lives2_calls (w : World) : Calls Try.prog 9 #[] w fun e w' => e = .returned (.bool true) ∧ Below w.heap.size w w' := by
  have h1 : lessB 0 5 (topI 1) 0 = true := by decide
  have h2 : lessB (topI 1) 0 (topI 3) 0 = true := by decide
  have h3 : infoI true 2 = 5 := by decide
  go_enter Try.func9, Try.ntmps9
  go_wp2_with (first | (go_at_call 21; refine (comparei_calls _ _ _).mono ?_; rintro _ _ ⟨rfl, rfl⟩) | (go_at_call 22; refine (compareu_calls _ _ _).mono ?_; rintro _ _ ⟨rfl, rfl⟩) | (go_at_call 7; refine (oright_calls _ _ _).mono ?_; rintro _ _ ⟨rfl, _⟩) | (go_at_call 11; refine (ocmp_calls _ _ _ _ _ ?_ ?_ ?_ ?_).mono ?_; omega; omega; omega; omega; rintro _ _ ⟨rfl, _⟩) | (go_at_call 12; refine (oless_calls _ _ _ _ _ ?_ ?_ ?_ ?_).mono ?_; omega; omega; omega; omega; rintro _ _ ⟨rfl, _⟩) | (go_at_call 13; refine (omax_calls _ _ _ _ _ ?_ ?_ ?_ ?_).mono ?_; omega; omega; omega; omega; rintro _ _ ⟨rfl, _⟩) | (go_at_call 14; refine (oside_calls _ _ _ _ _ ?_ ?_ ?_ ?_).mono ?_; omega; omega; omega; omega; rintro _ _ ⟨rfl, _⟩) | (go_at_call 15; refine (ouser_calls _ _).mono ?_; rintro _ _ ⟨rfl, _⟩) | (go_at_call 16; refine (otop_calls _ _).mono ?_; rintro _ _ ⟨rfl, _⟩) | (go_at_call 17; refine (oin_calls _ _ _ _ _).mono ?_; rintro _ _ ⟨rfl, _⟩) | (go_at_call 18; refine (oinfo_calls _ _ _).mono ?_; rintro _ _ ⟨rfl, rfl⟩) | (go_at_call 20; refine (oread_calls _ _ ?_ ?_).mono ?_; omega; omega; rintro _ _ ⟨rfl, rfl⟩))
  go_ret
  exact ⟨rfl, by (repeat (first | exact Below.refl _ _ | assumption | refine below_new ?_ _ | refine Below.drew ?_ | refine below_drewN ?_ _ | refine below_on ?_ (by assumption)))⟩

theorem refright2_calls (c n : Int) (w : World) : Calls Try.prog 8 #[.agg #[.int .i64 c, .int .i64 n]] w fun e w' => e = .returned (.bool (rightB c n)) ∧ Below w.heap.size w w' := by
  rcases (by omega : c = 0 ∨ c < 0 ∨ (0 < c ∧ 4 ≤ c) ∨ (0 < c ∧ c < 4)) with h | h | ⟨h, h'⟩ | ⟨h, h'⟩
  · subst h
    go_enter Try.func8, Try.ntmps8
    go_wp2
    go_ret
    exact ⟨by simp [rightB], (Below.refl _ _).alloc (Nat.le_refl _) _⟩
  · have hz : (c == 0) = false := by rw [beq_eq_false_iff_ne]; omega
    have HR := Lib.hid (show rightB c n = false from decide_eq_false (by omega))
    go_enter Try.func8, Try.ntmps8
    go_wp2
    go_ret
    exact ⟨by rw [HR.out]; simp, (Below.refl _ _).alloc (Nat.le_refl _) _⟩
  all_goals
    have hz : (c == 0) = false := by rw [beq_eq_false_iff_ne]; omega
    cases hn : (n == 0)
    all_goals
      first
        | have HR := Lib.hid (show rightB c n = false from decide_eq_false (by simp at hn; omega))
        | have HR := Lib.hid (show rightB c n = true from decide_eq_true (by simp at hn; omega))
      go_enter Try.func8, Try.ntmps8
      go_wp2
      go_ret
      exact ⟨by rw [HR.out]; first | (simp; done) | (simp; omega), (Below.refl _ _).alloc (Nat.le_refl _) _⟩

theorem less_is (c n d m : Int) : lessB c n d m = if c = d then decide (n < m) else decide (c < d) := by
  unfold lessB cmpI cmp3
  split
  · split
    · simp [*]
    · split <;> simp [*]
  · split
    · simp [*]
    · split <;> simp [*]

theorem refless2_calls (c n d m : Int) (w : World) :
    Calls Try.prog 10 #[.agg #[.int .i64 c, .int .i64 n], .agg #[.int .i64 d, .int .i64 m]] w fun e w' => e = .returned (.bool (lessB c n d m)) ∧ Below w.heap.size w w' := by
  have HL := Lib.hid (less_is c n d m)
  cases hc : (c == d)
  all_goals
    go_enter Try.func10, Try.ntmps10
    go_wp2
    go_ret
    first
      | exact ⟨by rw [HL.out, if_neg (by simpa using hc)]; rfl, by (repeat (first | exact Below.refl _ _ | assumption | refine below_new ?_ _ | refine Below.drew ?_ | refine below_drewN ?_ _ | refine below_on ?_ (by assumption)))⟩
      | exact ⟨by rw [HL.out, if_pos (by simpa using hc)]; rfl, by (repeat (first | exact Below.refl _ _ | assumption | refine below_new ?_ _ | refine Below.drew ?_ | refine below_drewN ?_ _ | refine below_on ?_ (by assumption)))⟩

theorem refinfo2_calls (leaf : Bool) (k : Int) (w : World) (k1 : -9223372036854775808 ≤ k) (k2 : k < 9223372036854775808) : Calls Try.prog 19 #[.bool leaf, .int .i64 k] w fun e w' => e = .returned (.int .u64 (infoI leaf k)) ∧ w = w' := by
  rcases (by omega : k < 0 ∨ (0 ≤ k ∧ 3 < k) ∨ (0 ≤ k ∧ k ≤ 3)) with h | ⟨h, h'⟩ | ⟨h, h'⟩
  iterate 2
    case _ =>
      have HI := Lib.hid (show infoI leaf k = 0 by unfold infoI; rw [if_neg (by omega)])
      go_enter Try.func19, Try.ntmps19
      go_wp2
      go_ret
      exact ⟨ret_int (by rw [HI.out]), rfl⟩
  cases leaf
  · have HI := Lib.hid (show infoI false k = 2 * k by unfold infoI; rw [if_pos ⟨h, h'⟩]; simp)
    go_enter Try.func19, Try.ntmps19
    go_wp2
    go_ret
    exact ⟨ret_int (by rw [HI.out]), rfl⟩
  · have HI := Lib.hid (show infoI true k = 2 * k + 1 by unfold infoI; rw [if_pos ⟨h, h'⟩]; simp)
    go_enter Try.func19, Try.ntmps19
    go_wp2
    go_ret
    exact ⟨ret_int (by rw [HI.out]), rfl⟩

theorem orderInfos_walk (v0 v1 v2 : Value) (w : World) (s0 : Fr.ok1 w (.bool) v0) (s1 : Fr.ok1 w (.int .i64) v1) (s2 : Fr.ok1 w (.int .u64) v2) :
    Calls Try.prog 5 #[v0, v1, v2] w fun e w' => e = .returned (.bool true) ∧ Below w.heap.size w w' := by
  obtain ⟨leaf, rfl⟩ := Fr.get_bool s0
  obtain ⟨k, rfl, wk⟩ := Fr.get_int s1
  obtain ⟨x, rfl, wx⟩ := Fr.get_int s2
  obtain ⟨k1, k2⟩ := wf64 wk
  obtain ⟨x1, x2⟩ := wfu64 wx
  clear s0 s1 s2 wk wx
  rcases (by omega : x ≤ 7 ∨ 7 < x) with h | h
  · have hd : decide (x ≤ 7) = true := decide_eq_true h
    have hi : infoI (x % 2 == 1) (x / 2) = x := by
      unfold infoI; rw [if_pos (by omega)]
      cases hq : (x % 2 == 1)
      · have : ¬ x % 2 = 1 := by simpa using hq
        simp; omega
      · have : x % 2 = 1 := by simpa using hq
        simp; omega
    go_enter Try.func5, Try.ntmps5
    go_wp2_with (first | (go_at_call 21; refine (comparei_calls _ _ _).mono ?_; rintro _ _ ⟨rfl, rfl⟩) | (go_at_call 22; refine (compareu_calls _ _ _).mono ?_; rintro _ _ ⟨rfl, rfl⟩) | (go_at_call 7; refine (oright_calls _ _ _).mono ?_; rintro _ _ ⟨rfl, _⟩) | (go_at_call 11; refine (ocmp_calls _ _ _ _ _ ?_ ?_ ?_ ?_).mono ?_; omega; omega; omega; omega; rintro _ _ ⟨rfl, _⟩) | (go_at_call 12; refine (oless_calls _ _ _ _ _ ?_ ?_ ?_ ?_).mono ?_; omega; omega; omega; omega; rintro _ _ ⟨rfl, _⟩) | (go_at_call 13; refine (omax_calls _ _ _ _ _ ?_ ?_ ?_ ?_).mono ?_; omega; omega; omega; omega; rintro _ _ ⟨rfl, _⟩) | (go_at_call 14; refine (oside_calls _ _ _ _ _ ?_ ?_ ?_ ?_).mono ?_; omega; omega; omega; omega; rintro _ _ ⟨rfl, _⟩) | (go_at_call 15; refine (ouser_calls _ _).mono ?_; rintro _ _ ⟨rfl, _⟩) | (go_at_call 16; refine (otop_calls _ _).mono ?_; rintro _ _ ⟨rfl, _⟩) | (go_at_call 17; refine (oin_calls _ _ _ _ _).mono ?_; rintro _ _ ⟨rfl, _⟩) | (go_at_call 18; refine (oinfo_calls _ _ _).mono ?_; rintro _ _ ⟨rfl, rfl⟩) | (go_at_call 20; refine (oread_calls _ _ ?_ ?_).mono ?_; omega; omega; rintro _ _ ⟨rfl, rfl⟩) | (go_at_call 8; refine (refright2_calls _ _ _).mono ?_; rintro _ _ ⟨rfl, _⟩) | (go_at_call 10; refine (refless2_calls _ _ _ _ _).mono ?_; rintro _ _ ⟨rfl, _⟩) | (go_at_call 19; refine (refinfo2_calls _ _ _ ?_ ?_).mono ?_; omega; omega; rintro _ _ ⟨rfl, rfl⟩) | (go_at_call 9; refine (lives2_calls _).mono ?_; rintro _ _ ⟨rfl, _⟩))
    go_ret
    exact ⟨by simp, by (repeat (first | exact Below.refl _ _ | assumption | refine below_new ?_ _ | refine Below.drew ?_ | refine below_drewN ?_ _ | refine below_on ?_ (by assumption)))⟩
  · have hd : decide (x ≤ 7) = false := decide_eq_false (by omega)
    go_enter Try.func5, Try.ntmps5
    go_wp2_with (first | (go_at_call 21; refine (comparei_calls _ _ _).mono ?_; rintro _ _ ⟨rfl, rfl⟩) | (go_at_call 22; refine (compareu_calls _ _ _).mono ?_; rintro _ _ ⟨rfl, rfl⟩) | (go_at_call 7; refine (oright_calls _ _ _).mono ?_; rintro _ _ ⟨rfl, _⟩) | (go_at_call 11; refine (ocmp_calls _ _ _ _ _ ?_ ?_ ?_ ?_).mono ?_; omega; omega; omega; omega; rintro _ _ ⟨rfl, _⟩) | (go_at_call 12; refine (oless_calls _ _ _ _ _ ?_ ?_ ?_ ?_).mono ?_; omega; omega; omega; omega; rintro _ _ ⟨rfl, _⟩) | (go_at_call 13; refine (omax_calls _ _ _ _ _ ?_ ?_ ?_ ?_).mono ?_; omega; omega; omega; omega; rintro _ _ ⟨rfl, _⟩) | (go_at_call 14; refine (oside_calls _ _ _ _ _ ?_ ?_ ?_ ?_).mono ?_; omega; omega; omega; omega; rintro _ _ ⟨rfl, _⟩) | (go_at_call 15; refine (ouser_calls _ _).mono ?_; rintro _ _ ⟨rfl, _⟩) | (go_at_call 16; refine (otop_calls _ _).mono ?_; rintro _ _ ⟨rfl, _⟩) | (go_at_call 17; refine (oin_calls _ _ _ _ _).mono ?_; rintro _ _ ⟨rfl, _⟩) | (go_at_call 18; refine (oinfo_calls _ _ _).mono ?_; rintro _ _ ⟨rfl, rfl⟩) | (go_at_call 20; refine (oread_calls _ _ ?_ ?_).mono ?_; omega; omega; rintro _ _ ⟨rfl, rfl⟩) | (go_at_call 8; refine (refright2_calls _ _ _).mono ?_; rintro _ _ ⟨rfl, _⟩) | (go_at_call 10; refine (refless2_calls _ _ _ _ _).mono ?_; rintro _ _ ⟨rfl, _⟩) | (go_at_call 19; refine (refinfo2_calls _ _ _ ?_ ?_).mono ?_; omega; omega; rintro _ _ ⟨rfl, rfl⟩) | (go_at_call 9; refine (lives2_calls _).mono ?_; rintro _ _ ⟨rfl, _⟩))
    go_ret
    exact ⟨by simp, by (repeat (first | exact Below.refl _ _ | assumption | refine below_new ?_ _ | refine Below.drew ?_ | refine below_drewN ?_ _ | refine below_on ?_ (by assumption)))⟩
set_option maxHeartbeats 1000000 in
theorem orderKeys_walk (v0 v1 v2 : Value) (w : World) (s0 : Fr.okN w [.int .i64, .int .i64] v0) (s1 : Fr.okN w [.int .i64, .int .i64] v1) (s2 : Fr.ok1 w (.int .i64) v2) :
    Calls Try.prog 4 #[v0, v1, v2] w fun e w' => e = .returned (.bool true) ∧ Below w.heap.size w w' := by
  obtain ⟨cs, rfl, hcs⟩ := s0
  obtain ⟨_, _, rfl, k0, hcs⟩ := Fr.get_cons hcs
  obtain ⟨_, _, rfl, k1, hcs⟩ := Fr.get_cons hcs
  obtain rfl := Fr.get_nil hcs
  obtain ⟨ds, rfl, hds⟩ := s1
  obtain ⟨_, _, rfl, k2, hds⟩ := Fr.get_cons hds
  obtain ⟨_, _, rfl, k3, hds⟩ := Fr.get_cons hds
  obtain rfl := Fr.get_nil hds
  obtain ⟨c, rfl, wc⟩ := Fr.get_int k0
  obtain ⟨n, rfl, wn⟩ := Fr.get_int k1
  obtain ⟨lo, rfl, wl⟩ := Fr.get_int k2
  obtain ⟨hi, rfl, wh⟩ := Fr.get_int k3
  obtain ⟨k, rfl, wk⟩ := Fr.get_int s2
  obtain ⟨c1, c2⟩ := wf64 wc
  obtain ⟨n1, n2⟩ := wf64 wn
  obtain ⟨l1, l2⟩ := wf64 wl
  obtain ⟨h1, h2⟩ := wf64 wh
  obtain ⟨b1, b2⟩ := wf64 wk
  clear s2 k0 k1 k2 k3 hcs hds wc wn wl wh wk
  show Calls Try.prog _ #[.agg #[.int .i64 c, .int .i64 n], .agg #[.int .i64 lo, .int .i64 hi], _] w _
  have hk : (topI k = 3 ∧ (k == 1) = false ∧ (k == 2) = false) ∨ (topI k = k ∧ (k == 1) = true) ∨ (topI k = k ∧ (k == 1) = false ∧ (k == 2) = true) := by
    rcases (by omega : k = 1 ∨ (k ≠ 1 ∧ k = 2) ∨ (k ≠ 1 ∧ k ≠ 2)) with h | ⟨h, h'⟩ | ⟨h, h'⟩
    · subst h; exact .inr (.inl ⟨rfl, rfl⟩)
    · subst h'; exact .inr (.inr ⟨rfl, rfl, rfl⟩)
    · exact .inl ⟨by unfold topI; rw [if_neg (by omega)], by rw [beq_eq_false_iff_ne]; exact h, by rw [beq_eq_false_iff_ne]; exact h'⟩
  have hin : ((c == 0) = false ∧ inB c n lo hi = false) ∨ ((c == 0) = true ∧ n < lo ∧ inB c n lo hi = false) ∨ ((c == 0) = true ∧ lo ≤ n ∧ inB c n lo hi = decide (n ≤ hi)) := by
    cases hc : (c == 0)
    · exact .inl ⟨rfl, decide_eq_false (by simp at hc; omega)⟩
    · simp at hc; subst hc
      rcases (by omega : n < lo ∨ lo ≤ n) with h | h
      · exact .inr (.inl ⟨rfl, h, decide_eq_false (by omega)⟩)
      · exact .inr (.inr ⟨rfl, h, by unfold inB; simp [h]⟩)
  rcases hk with ⟨q1, q2, q3⟩ | ⟨q1, q2⟩ | ⟨q1, q2, q3⟩
  all_goals
    rcases hin with ⟨p1, p2⟩ | ⟨p1, p2, p3⟩ | ⟨p1, p2, p3⟩
    all_goals
      go_enter Try.func4, Try.ntmps4
      go_wp2_with fail
      generalize hW : World.alloc (World.alloc _ _) _ = W at *
      have hBW : Below w.heap.size w W := by rw [← hW]; (repeat (first | exact Below.refl _ _ | assumption | refine below_new ?_ _ | refine Below.drew ?_ | refine below_drewN ?_ _ | refine below_on ?_ (by assumption)))
      have x0 := Ext.made1 hW 0 _ rfl; have x1 := Ext.made1 hW 1 _ rfl; have y0 := Ext.made hW 0 _ rfl; have y1 := Ext.made hW 1 _ rfl
      simp only [World.size_alloc] at y0 y1
      clear hW
      refine Ext.base W (C := fun w' => Code.wp _ _ _ _ w') (fun x => ?_)
      (refine ext_region _ (by kernel_rfl) (by kernel_rfl) ?_; (repeat (go_big_quiet_step (first | (go_at_call 21; refine Ext.same (comparei_calls _ _ _) <;> omega) | (go_at_call 22; refine Ext.same (compareu_calls _ _ _) <;> omega) | (go_at_call 7; refine Ext.call (oright_calls _ _ _) <;> omega) | (go_at_call 11; refine Ext.call (ocmp_calls _ _ _ _ _ ?_ ?_ ?_ ?_) <;> omega) | (go_at_call 12; refine Ext.call (oless_calls _ _ _ _ _ ?_ ?_ ?_ ?_) <;> omega) | (go_at_call 13; refine Ext.call (omax_calls _ _ _ _ _ ?_ ?_ ?_ ?_) <;> omega) | (go_at_call 14; refine Ext.call (oside_calls _ _ _ _ _ ?_ ?_ ?_ ?_) <;> omega) | (go_at_call 15; refine Ext.call (ouser_calls _ _) <;> omega) | (go_at_call 16; refine Ext.call (otop_calls _ _) <;> omega) | (go_at_call 17; refine Ext.call (oin_calls _ _ _ _ _) <;> omega) | (go_at_call 18; refine Ext.same (oinfo_calls _ _ _) <;> omega) | (go_at_call 20; refine Ext.same (oread_calls _ _ ?_ ?_) <;> omega) | (go_at_call 8; refine Ext.call (refright2_calls _ _ _) <;> omega) | (go_at_call 10; refine Ext.call (refless2_calls _ _ _ _ _) <;> omega) | (go_at_call 19; refine Ext.same (refinfo2_calls _ _ _ ?_ ?_) <;> omega) | (go_at_call 9; refine Ext.call (lives2_calls _) <;> omega)))); refine wpQuiet_nil ?_; rintro _ ⟨_, rfl⟩)
      go_wp2_with (first | (go_at_call 21; refine (comparei_calls _ _ _).mono ?_; rintro _ _ ⟨rfl, rfl⟩) | (go_at_call 22; refine (compareu_calls _ _ _).mono ?_; rintro _ _ ⟨rfl, rfl⟩) | (go_at_call 7; refine (Ext.step (oright_calls _ _ _)).mono ?_; rintro _ _ ⟨rfl, _, rfl⟩) | (go_at_call 11; refine (Ext.step (ocmp_calls _ _ _ _ _ ?_ ?_ ?_ ?_)).mono ?_; omega; omega; omega; omega; rintro _ _ ⟨rfl, _, rfl⟩) | (go_at_call 12; refine (Ext.step (oless_calls _ _ _ _ _ ?_ ?_ ?_ ?_)).mono ?_; omega; omega; omega; omega; rintro _ _ ⟨rfl, _, rfl⟩) | (go_at_call 13; refine (Ext.step (omax_calls _ _ _ _ _ ?_ ?_ ?_ ?_)).mono ?_; omega; omega; omega; omega; rintro _ _ ⟨rfl, _, rfl⟩) | (go_at_call 14; refine (Ext.step (oside_calls _ _ _ _ _ ?_ ?_ ?_ ?_)).mono ?_; omega; omega; omega; omega; rintro _ _ ⟨rfl, _, rfl⟩) | (go_at_call 15; refine (Ext.step (ouser_calls _ _)).mono ?_; rintro _ _ ⟨rfl, _, rfl⟩) | (go_at_call 16; refine (Ext.step (otop_calls _ _)).mono ?_; rintro _ _ ⟨rfl, _, rfl⟩) | (go_at_call 17; refine (Ext.step (oin_calls _ _ _ _ _)).mono ?_; rintro _ _ ⟨rfl, _, rfl⟩) | (go_at_call 18; refine (oinfo_calls _ _ _).mono ?_; rintro _ _ ⟨rfl, rfl⟩) | (go_at_call 20; refine (oread_calls _ _ ?_ ?_).mono ?_; omega; omega; rintro _ _ ⟨rfl, rfl⟩) | (go_at_call 8; refine (Ext.step (refright2_calls _ _ _)).mono ?_; rintro _ _ ⟨rfl, _, rfl⟩) | (go_at_call 10; refine (Ext.step (refless2_calls _ _ _ _ _)).mono ?_; rintro _ _ ⟨rfl, _, rfl⟩) | (go_at_call 19; refine (refinfo2_calls _ _ _ ?_ ?_).mono ?_; omega; omega; rintro _ _ ⟨rfl, rfl⟩) | (go_at_call 9; refine (Ext.step (lives2_calls _)).mono ?_; rintro _ _ ⟨rfl, _, rfl⟩) | (refine ext_region _ (by kernel_rfl) (by kernel_rfl) ?_; (repeat (go_big_quiet_step (first | (go_at_call 21; refine Ext.same (comparei_calls _ _ _) <;> omega) | (go_at_call 22; refine Ext.same (compareu_calls _ _ _) <;> omega) | (go_at_call 7; refine Ext.call (oright_calls _ _ _) <;> omega) | (go_at_call 11; refine Ext.call (ocmp_calls _ _ _ _ _ ?_ ?_ ?_ ?_) <;> omega) | (go_at_call 12; refine Ext.call (oless_calls _ _ _ _ _ ?_ ?_ ?_ ?_) <;> omega) | (go_at_call 13; refine Ext.call (omax_calls _ _ _ _ _ ?_ ?_ ?_ ?_) <;> omega) | (go_at_call 14; refine Ext.call (oside_calls _ _ _ _ _ ?_ ?_ ?_ ?_) <;> omega) | (go_at_call 15; refine Ext.call (ouser_calls _ _) <;> omega) | (go_at_call 16; refine Ext.call (otop_calls _ _) <;> omega) | (go_at_call 17; refine Ext.call (oin_calls _ _ _ _ _) <;> omega) | (go_at_call 18; refine Ext.same (oinfo_calls _ _ _) <;> omega) | (go_at_call 20; refine Ext.same (oread_calls _ _ ?_ ?_) <;> omega) | (go_at_call 8; refine Ext.call (refright2_calls _ _ _) <;> omega) | (go_at_call 10; refine Ext.call (refless2_calls _ _ _ _ _) <;> omega) | (go_at_call 19; refine Ext.same (refinfo2_calls _ _ _ ?_ ?_) <;> omega) | (go_at_call 9; refine Ext.call (lives2_calls _) <;> omega)))); refine wpQuiet_nil ?_; rintro _ ⟨_, rfl⟩))
      go_ret
      exact ⟨by simp, Ext.below hBW _⟩

end Go.Proofs.Ytijlflfbpjhknaa
