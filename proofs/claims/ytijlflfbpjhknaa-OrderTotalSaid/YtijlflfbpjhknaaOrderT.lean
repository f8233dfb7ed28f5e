/- The walk of OrderTotal. -/
import Derived.Test.YtijlflfbpjhknaaOrderL
import Derived.RegionTactic
import Derived.ChangeAlike
import Derived.BigRegion
namespace Go.Proofs.Ytijlflfbpjhknaa
open Go.RowKit WordM EdgeM

theorem key3 (c n d m : Int) : ((c == d) = false ∧ (d == c) = false ∧ lessB c n d m = true ∧ lessB d m c n = false ∧ cmpI c n d m = -1 ∧ cmpI d m c n = 1) ∨ (c = d ∧ (n == m) = false ∧ (m == n) = false ∧ lessB c n d m = true ∧ lessB d m c n = false ∧ cmpI c n d m = -1 ∧ cmpI d m c n = 1) ∨
    ((c == d) = false ∧ (d == c) = false ∧ lessB c n d m = false ∧ lessB d m c n = true ∧ cmpI c n d m = 1 ∧ cmpI d m c n = -1) ∨ (c = d ∧ (n == m) = false ∧ (m == n) = false ∧ lessB c n d m = false ∧ lessB d m c n = true ∧ cmpI c n d m = 1 ∧ cmpI d m c n = -1) ∨ (c = d ∧ n = m) := by
  rcases (by omega : c < d ∨ d < c ∨ c = d) with h | h | h
  · left; simp [lessB, cmpI, cmp3, show c ≠ d by omega, show d ≠ c by omega, h, show ¬ d < c by omega]
  · right; right; left; simp [lessB, cmpI, cmp3, show c ≠ d by omega, show d ≠ c by omega, h, show ¬ c < d by omega]
  · subst h
    rcases (by omega : n < m ∨ m < n ∨ n = m) with h | h | h
    · right; left; simp [lessB, cmpI, cmp3, h, show ¬ m < n by omega, show n ≠ m by omega, show m ≠ n by omega]
    · right; right; right; left; simp [lessB, cmpI, cmp3, h, show ¬ n < m by omega, show n ≠ m by omega, show m ≠ n by omega]
    · subst h; right; right; right; right; exact ⟨rfl, rfl⟩
theorem less_irrefl (c n : Int) : lessB c n c n = false := by simp [lessB, cmpI, cmp3]
theorem cmp_refl (c n : Int) : cmpI c n c n = 0 := by simp [cmpI, cmp3]
theorem less_iff (c n d m : Int) : lessB c n d m = true ↔ c < d ∨ (c = d ∧ n < m) := by
  rw [less_is]
  split
  · rename_i h; simp [h]
  · rename_i h; simp; omega
theorem less_trans {c n d m f l : Int} (h : lessB c n d m = true) (k : lessB d m f l = true) : lessB c n f l = true := by
  rw [less_iff] at *; omega

set_option maxHeartbeats 4000000 in
theorem orderTotal_walk (v0 v1 v2 : Value) (w : World) (s0 : Fr.okN w [.int .i64, .int .i64] v0) (s1 : Fr.okN w [.int .i64, .int .i64] v1) (s2 : Fr.okN w [.int .i64, .int .i64] v2) :
    Calls Try.prog 6 #[v0, v1, v2] w fun e w' => e = .returned (.bool true) ∧ Below w.heap.size w w' := by
  obtain ⟨cs, rfl, hcs⟩ := s0
  obtain ⟨_, _, rfl, k0, hcs⟩ := Fr.get_cons hcs
  obtain ⟨_, _, rfl, k1, hcs⟩ := Fr.get_cons hcs
  obtain rfl := Fr.get_nil hcs
  obtain ⟨ds, rfl, hds⟩ := s1
  obtain ⟨_, _, rfl, k2, hds⟩ := Fr.get_cons hds
  obtain ⟨_, _, rfl, k3, hds⟩ := Fr.get_cons hds
  obtain rfl := Fr.get_nil hds
  obtain ⟨es, rfl, hes⟩ := s2
  obtain ⟨_, _, rfl, k4, hes⟩ := Fr.get_cons hes
  obtain ⟨_, _, rfl, k5, hes⟩ := Fr.get_cons hes
  obtain rfl := Fr.get_nil hes
  obtain ⟨c, rfl, wc⟩ := Fr.get_int k0
  obtain ⟨n, rfl, wn⟩ := Fr.get_int k1
  obtain ⟨d, rfl, wd⟩ := Fr.get_int k2
  obtain ⟨m, rfl, wm⟩ := Fr.get_int k3
  obtain ⟨f, rfl, wf⟩ := Fr.get_int k4
  obtain ⟨l, rfl, wl⟩ := Fr.get_int k5
  obtain ⟨n1, n2⟩ := wf64 wn
  obtain ⟨m1, m2⟩ := wf64 wm
  obtain ⟨l1, l2⟩ := wf64 wl
  clear k0 k1 k2 k3 k4 k5 hcs hds hes wc wn wd wm wf wl
  show Calls Try.prog _ #[.agg #[.int .i64 c, .int .i64 n], .agg #[.int .i64 d, .int .i64 m], .agg #[.int .i64 f, .int .i64 l]] w _
  have hi1 := less_irrefl c n; have hi2 := less_irrefl d m
  have hr1 := cmp_refl c n
  have htr : lessB c n d m = true → (lessB d m f l = false ∨ (lessB d m f l = true ∧ lessB c n f l = true)) := fun h => by
    cases hk : lessB d m f l
    · exact .inl rfl
    · exact .inr ⟨rfl, less_trans h hk⟩
  have HT := Lib.hid htr; clear htr
  have hk := key3 c n d m
  obtain ⟨r1, hq1⟩ : ∃ r, rightB c n = r := ⟨_, rfl⟩
  obtain ⟨r2, hq2⟩ : ∃ r, rightB d m = r := ⟨_, rfl⟩
  obtain ⟨r3, hq3⟩ : ∃ r, rightB f l = r := ⟨_, rfl⟩
  go_enter Try.func6, Try.ntmps6
  go_wp2_with fail
  generalize hW : World.alloc (World.alloc (World.alloc w _) _) _ = W
  have hBW : Below w.heap.size w W := by rw [← hW]; (repeat (first | exact Below.refl _ _ | assumption | refine below_new ?_ _ | refine Below.drew ?_ | refine below_drewN ?_ _ | refine below_on ?_ (by assumption)))
  have x0 : ∀ y : Ext W, y.w.cell? ⟨w.heap.size, 0, none⟩ = some (.int .i64 c) := Ext.cells (by subst hW; go_simp)
  have x1 : ∀ y : Ext W, y.w.cell? ⟨w.heap.size, 1, none⟩ = some (.int .i64 n) := Ext.cells (by subst hW; go_simp)
  have y0 : ∀ y : Ext W, y.w.cell? ⟨w.heap.size + 1, 0, none⟩ = some (.int .i64 d) := Ext.cells (by subst hW; go_simp)
  have y1 : ∀ y : Ext W, y.w.cell? ⟨w.heap.size + 1, 1, none⟩ = some (.int .i64 m) := Ext.cells (by subst hW; go_simp)
  have z0 : ∀ y : Ext W, y.w.cell? ⟨w.heap.size + 1 + 1, 0, none⟩ = some (.int .i64 f) := Ext.cells (by subst hW; go_simp)
  have z1 : ∀ y : Ext W, y.w.cell? ⟨w.heap.size + 1 + 1, 1, none⟩ = some (.int .i64 l) := Ext.cells (by subst hW; go_simp)
  have hWs : W.heap.size = w.heap.size + 1 + 1 + 1 := by rw [← hW]; simp
  clear hW
  obtain ⟨x, hx⟩ : ∃ x : Ext W, x.w = W := ⟨⟨W, Below.refl _ _⟩, rfl⟩; rw [← hx]; clear hx
  by_cases hr : r1 = true ∧ r2 = true ∧ r3 = true
  · obtain ⟨rfl, rfl, rfl⟩ := hr
    rcases hk with ⟨k1, k6, k2, k3, k4, k5⟩ | ⟨rfl, k1, k6, k2, k3, k4, k5⟩ | ⟨k1, k6, k2, k3, k4, k5⟩ | ⟨rfl, k1, k6, k2, k3, k4, k5⟩ | ⟨rfl, rfl⟩
    rotate_left 2
    clear HT
    rotate_left
    clear HT
    rotate_left
    clear HT
    rotate_left
    rcases HT.out k2 with h1 | ⟨h1, h2⟩
    rotate_left 2
    rcases HT.out k2 with h1 | ⟨h1, h2⟩
    all_goals
      go_wp2_with (first | (go_at_call 21; refine (comparei_calls _ _ _).mono ?_; rintro _ _ ⟨rfl, rfl⟩) | (go_at_call 22; refine (compareu_calls _ _ _).mono ?_; rintro _ _ ⟨rfl, rfl⟩) | (go_at_call 7; refine (Ext.step (oright_calls _ _ _)).mono ?_; rintro _ _ ⟨rfl, _, rfl⟩) | (go_at_call 11; refine (Ext.step (ocmp_calls _ _ _ _ _ ?_ ?_ ?_ ?_)).mono ?_; omega; omega; omega; omega; rintro _ _ ⟨rfl, _, rfl⟩) | (go_at_call 12; refine (Ext.step (oless_calls _ _ _ _ _ ?_ ?_ ?_ ?_)).mono ?_; omega; omega; omega; omega; rintro _ _ ⟨rfl, _, rfl⟩) | (go_at_call 13; refine (Ext.step (omax_calls _ _ _ _ _ ?_ ?_ ?_ ?_)).mono ?_; omega; omega; omega; omega; rintro _ _ ⟨rfl, _, rfl⟩) | (go_at_call 14; refine (Ext.step (oside_calls _ _ _ _ _ ?_ ?_ ?_ ?_)).mono ?_; omega; omega; omega; omega; rintro _ _ ⟨rfl, _, rfl⟩) | (go_at_call 15; refine (Ext.step (ouser_calls _ _)).mono ?_; rintro _ _ ⟨rfl, _, rfl⟩) | (go_at_call 16; refine (Ext.step (otop_calls _ _)).mono ?_; rintro _ _ ⟨rfl, _, rfl⟩) | (go_at_call 17; refine (Ext.step (oin_calls _ _ _ _ _)).mono ?_; rintro _ _ ⟨rfl, _, rfl⟩) | (go_at_call 18; refine (oinfo_calls _ _ _).mono ?_; rintro _ _ ⟨rfl, rfl⟩) | (go_at_call 20; refine (oread_calls _ _ ?_ ?_).mono ?_; omega; omega; rintro _ _ ⟨rfl, rfl⟩) | (go_at_call 8; refine (Ext.step (refright2_calls _ _ _)).mono ?_; rintro _ _ ⟨rfl, _, rfl⟩) | (go_at_call 10; refine (Ext.step (refless2_calls _ _ _ _ _)).mono ?_; rintro _ _ ⟨rfl, _, rfl⟩) | (go_at_call 19; refine (refinfo2_calls _ _ _ ?_ ?_).mono ?_; omega; omega; rintro _ _ ⟨rfl, rfl⟩) | (go_at_call 9; refine (Ext.step (lives2_calls _)).mono ?_; rintro _ _ ⟨rfl, _, rfl⟩) | (refine ext_region _ (by kernel_rfl) (by kernel_rfl) ?_; (repeat (go_big_quiet_step (first | (go_at_call 21; refine Ext.same (comparei_calls _ _ _) <;> omega) | (go_at_call 22; refine Ext.same (compareu_calls _ _ _) <;> omega) | (go_at_call 7; refine Ext.call (oright_calls _ _ _) <;> omega) | (go_at_call 11; refine Ext.call (ocmp_calls _ _ _ _ _ ?_ ?_ ?_ ?_) <;> omega) | (go_at_call 12; refine Ext.call (oless_calls _ _ _ _ _ ?_ ?_ ?_ ?_) <;> omega) | (go_at_call 13; refine Ext.call (omax_calls _ _ _ _ _ ?_ ?_ ?_ ?_) <;> omega) | (go_at_call 14; refine Ext.call (oside_calls _ _ _ _ _ ?_ ?_ ?_ ?_) <;> omega) | (go_at_call 15; refine Ext.call (ouser_calls _ _) <;> omega) | (go_at_call 16; refine Ext.call (otop_calls _ _) <;> omega) | (go_at_call 17; refine Ext.call (oin_calls _ _ _ _ _) <;> omega) | (go_at_call 18; refine Ext.same (oinfo_calls _ _ _) <;> omega) | (go_at_call 20; refine Ext.same (oread_calls _ _ ?_ ?_) <;> omega) | (go_at_call 8; refine Ext.call (refright2_calls _ _ _) <;> omega) | (go_at_call 10; refine Ext.call (refless2_calls _ _ _ _ _) <;> omega) | (go_at_call 19; refine Ext.same (refinfo2_calls _ _ _ ?_ ?_) <;> omega) | (go_at_call 9; refine Ext.call (lives2_calls _) <;> omega)))); refine wpQuiet_nil ?_; rintro _ ⟨_, rfl⟩))
      try simp only [k2, if_true]
      try simp only [k2, Bool.false_eq_true, if_false]
      try simp only [hi1, Bool.false_eq_true, if_false]
      generalize hU : Ext.w _ = U
      have hb : Below W.heap.size W U := by rw [← hU]; exact Ext.h _
      have hBx := below_on hBW hb
      have u0 := Ext.use x0 hb; have u1 := Ext.use x1 hb; have t0 := Ext.use y0 hb; have t1 := Ext.use y1 hb
      clear hU hb
      generalize hV : World.alloc _ _ = V
      have hBV : Below w.heap.size w V := by rw [← hV]; (repeat (first | exact Below.refl _ _ | assumption | refine below_new ?_ _ | refine Below.drew ?_ | refine below_drewN ?_ _ | refine below_on ?_ (by assumption)))
      have p0 := Ext.made hV 0 _ rfl; have p1 := Ext.made hV 1 _ rfl
      have x0 := Ext.new u0 hV; have x1 := Ext.new u1 hV; have y0 := Ext.new t0 hV; have y1 := Ext.new t1 hV
      clear hV u0 u1 t0 t1 z0 z1
      obtain ⟨x, hx⟩ : ∃ x : Ext V, x.w = V := ⟨⟨V, Below.refl _ _⟩, rfl⟩; rw [← hx]; clear hx
      (refine ext_region _ (by kernel_rfl) (by kernel_rfl) ?_; (repeat (go_big_quiet_step (first | (go_at_call 21; refine Ext.same (comparei_calls _ _ _) <;> omega) | (go_at_call 22; refine Ext.same (compareu_calls _ _ _) <;> omega) | (go_at_call 7; refine Ext.call (oright_calls _ _ _) <;> omega) | (go_at_call 11; refine Ext.call (ocmp_calls _ _ _ _ _ ?_ ?_ ?_ ?_) <;> omega) | (go_at_call 12; refine Ext.call (oless_calls _ _ _ _ _ ?_ ?_ ?_ ?_) <;> omega) | (go_at_call 13; refine Ext.call (omax_calls _ _ _ _ _ ?_ ?_ ?_ ?_) <;> omega) | (go_at_call 14; refine Ext.call (oside_calls _ _ _ _ _ ?_ ?_ ?_ ?_) <;> omega) | (go_at_call 15; refine Ext.call (ouser_calls _ _) <;> omega) | (go_at_call 16; refine Ext.call (otop_calls _ _) <;> omega) | (go_at_call 17; refine Ext.call (oin_calls _ _ _ _ _) <;> omega) | (go_at_call 18; refine Ext.same (oinfo_calls _ _ _) <;> omega) | (go_at_call 20; refine Ext.same (oread_calls _ _ ?_ ?_) <;> omega) | (go_at_call 8; refine Ext.call (refright2_calls _ _ _) <;> omega) | (go_at_call 10; refine Ext.call (refless2_calls _ _ _ _ _) <;> omega) | (go_at_call 19; refine Ext.same (refinfo2_calls _ _ _ ?_ ?_) <;> omega) | (go_at_call 9; refine Ext.call (lives2_calls _) <;> omega)))); refine wpQuiet_nil ?_; rintro _ ⟨_, rfl⟩)
      go_wp2_with (first | (go_at_call 21; refine (comparei_calls _ _ _).mono ?_; rintro _ _ ⟨rfl, rfl⟩) | (go_at_call 22; refine (compareu_calls _ _ _).mono ?_; rintro _ _ ⟨rfl, rfl⟩) | (go_at_call 7; refine (Ext.step (oright_calls _ _ _)).mono ?_; rintro _ _ ⟨rfl, _, rfl⟩) | (go_at_call 11; refine (Ext.step (ocmp_calls _ _ _ _ _ ?_ ?_ ?_ ?_)).mono ?_; omega; omega; omega; omega; rintro _ _ ⟨rfl, _, rfl⟩) | (go_at_call 12; refine (Ext.step (oless_calls _ _ _ _ _ ?_ ?_ ?_ ?_)).mono ?_; omega; omega; omega; omega; rintro _ _ ⟨rfl, _, rfl⟩) | (go_at_call 13; refine (Ext.step (omax_calls _ _ _ _ _ ?_ ?_ ?_ ?_)).mono ?_; omega; omega; omega; omega; rintro _ _ ⟨rfl, _, rfl⟩) | (go_at_call 14; refine (Ext.step (oside_calls _ _ _ _ _ ?_ ?_ ?_ ?_)).mono ?_; omega; omega; omega; omega; rintro _ _ ⟨rfl, _, rfl⟩) | (go_at_call 15; refine (Ext.step (ouser_calls _ _)).mono ?_; rintro _ _ ⟨rfl, _, rfl⟩) | (go_at_call 16; refine (Ext.step (otop_calls _ _)).mono ?_; rintro _ _ ⟨rfl, _, rfl⟩) | (go_at_call 17; refine (Ext.step (oin_calls _ _ _ _ _)).mono ?_; rintro _ _ ⟨rfl, _, rfl⟩) | (go_at_call 18; refine (oinfo_calls _ _ _).mono ?_; rintro _ _ ⟨rfl, rfl⟩) | (go_at_call 20; refine (oread_calls _ _ ?_ ?_).mono ?_; omega; omega; rintro _ _ ⟨rfl, rfl⟩) | (go_at_call 8; refine (Ext.step (refright2_calls _ _ _)).mono ?_; rintro _ _ ⟨rfl, _, rfl⟩) | (go_at_call 10; refine (Ext.step (refless2_calls _ _ _ _ _)).mono ?_; rintro _ _ ⟨rfl, _, rfl⟩) | (go_at_call 19; refine (refinfo2_calls _ _ _ ?_ ?_).mono ?_; omega; omega; rintro _ _ ⟨rfl, rfl⟩) | (go_at_call 9; refine (Ext.step (lives2_calls _)).mono ?_; rintro _ _ ⟨rfl, _, rfl⟩) | (refine ext_region _ (by kernel_rfl) (by kernel_rfl) ?_; (repeat (go_big_quiet_step (first | (go_at_call 21; refine Ext.same (comparei_calls _ _ _) <;> omega) | (go_at_call 22; refine Ext.same (compareu_calls _ _ _) <;> omega) | (go_at_call 7; refine Ext.call (oright_calls _ _ _) <;> omega) | (go_at_call 11; refine Ext.call (ocmp_calls _ _ _ _ _ ?_ ?_ ?_ ?_) <;> omega) | (go_at_call 12; refine Ext.call (oless_calls _ _ _ _ _ ?_ ?_ ?_ ?_) <;> omega) | (go_at_call 13; refine Ext.call (omax_calls _ _ _ _ _ ?_ ?_ ?_ ?_) <;> omega) | (go_at_call 14; refine Ext.call (oside_calls _ _ _ _ _ ?_ ?_ ?_ ?_) <;> omega) | (go_at_call 15; refine Ext.call (ouser_calls _ _) <;> omega) | (go_at_call 16; refine Ext.call (otop_calls _ _) <;> omega) | (go_at_call 17; refine Ext.call (oin_calls _ _ _ _ _) <;> omega) | (go_at_call 18; refine Ext.same (oinfo_calls _ _ _) <;> omega) | (go_at_call 20; refine Ext.same (oread_calls _ _ ?_ ?_) <;> omega) | (go_at_call 8; refine Ext.call (refright2_calls _ _ _) <;> omega) | (go_at_call 10; refine Ext.call (refless2_calls _ _ _ _ _) <;> omega) | (go_at_call 19; refine Ext.same (refinfo2_calls _ _ _ ?_ ?_) <;> omega) | (go_at_call 9; refine Ext.call (lives2_calls _) <;> omega)))); refine wpQuiet_nil ?_; rintro _ ⟨_, rfl⟩))
      all_goals first | (exfalso; simp_all; done) | (go_ret; exact ⟨by simp, Ext.below hBV _⟩)
  · cases r1 <;> cases r2 <;> cases r3
    all_goals first
      | exact absurd ⟨rfl, rfl, rfl⟩ hr
      | (go_wp2_with (first | (go_at_call 21; refine (comparei_calls _ _ _).mono ?_; rintro _ _ ⟨rfl, rfl⟩) | (go_at_call 22; refine (compareu_calls _ _ _).mono ?_; rintro _ _ ⟨rfl, rfl⟩) | (go_at_call 7; refine (Ext.step (oright_calls _ _ _)).mono ?_; rintro _ _ ⟨rfl, _, rfl⟩) | (go_at_call 11; refine (Ext.step (ocmp_calls _ _ _ _ _ ?_ ?_ ?_ ?_)).mono ?_; omega; omega; omega; omega; rintro _ _ ⟨rfl, _, rfl⟩) | (go_at_call 12; refine (Ext.step (oless_calls _ _ _ _ _ ?_ ?_ ?_ ?_)).mono ?_; omega; omega; omega; omega; rintro _ _ ⟨rfl, _, rfl⟩) | (go_at_call 13; refine (Ext.step (omax_calls _ _ _ _ _ ?_ ?_ ?_ ?_)).mono ?_; omega; omega; omega; omega; rintro _ _ ⟨rfl, _, rfl⟩) | (go_at_call 14; refine (Ext.step (oside_calls _ _ _ _ _ ?_ ?_ ?_ ?_)).mono ?_; omega; omega; omega; omega; rintro _ _ ⟨rfl, _, rfl⟩) | (go_at_call 15; refine (Ext.step (ouser_calls _ _)).mono ?_; rintro _ _ ⟨rfl, _, rfl⟩) | (go_at_call 16; refine (Ext.step (otop_calls _ _)).mono ?_; rintro _ _ ⟨rfl, _, rfl⟩) | (go_at_call 17; refine (Ext.step (oin_calls _ _ _ _ _)).mono ?_; rintro _ _ ⟨rfl, _, rfl⟩) | (go_at_call 18; refine (oinfo_calls _ _ _).mono ?_; rintro _ _ ⟨rfl, rfl⟩) | (go_at_call 20; refine (oread_calls _ _ ?_ ?_).mono ?_; omega; omega; rintro _ _ ⟨rfl, rfl⟩) | (go_at_call 8; refine (Ext.step (refright2_calls _ _ _)).mono ?_; rintro _ _ ⟨rfl, _, rfl⟩) | (go_at_call 10; refine (Ext.step (refless2_calls _ _ _ _ _)).mono ?_; rintro _ _ ⟨rfl, _, rfl⟩) | (go_at_call 19; refine (refinfo2_calls _ _ _ ?_ ?_).mono ?_; omega; omega; rintro _ _ ⟨rfl, rfl⟩) | (go_at_call 9; refine (Ext.step (lives2_calls _)).mono ?_; rintro _ _ ⟨rfl, _, rfl⟩) | (refine ext_region _ (by kernel_rfl) (by kernel_rfl) ?_; (repeat (go_big_quiet_step (first | (go_at_call 21; refine Ext.same (comparei_calls _ _ _) <;> omega) | (go_at_call 22; refine Ext.same (compareu_calls _ _ _) <;> omega) | (go_at_call 7; refine Ext.call (oright_calls _ _ _) <;> omega) | (go_at_call 11; refine Ext.call (ocmp_calls _ _ _ _ _ ?_ ?_ ?_ ?_) <;> omega) | (go_at_call 12; refine Ext.call (oless_calls _ _ _ _ _ ?_ ?_ ?_ ?_) <;> omega) | (go_at_call 13; refine Ext.call (omax_calls _ _ _ _ _ ?_ ?_ ?_ ?_) <;> omega) | (go_at_call 14; refine Ext.call (oside_calls _ _ _ _ _ ?_ ?_ ?_ ?_) <;> omega) | (go_at_call 15; refine Ext.call (ouser_calls _ _) <;> omega) | (go_at_call 16; refine Ext.call (otop_calls _ _) <;> omega) | (go_at_call 17; refine Ext.call (oin_calls _ _ _ _ _) <;> omega) | (go_at_call 18; refine Ext.same (oinfo_calls _ _ _) <;> omega) | (go_at_call 20; refine Ext.same (oread_calls _ _ ?_ ?_) <;> omega) | (go_at_call 8; refine Ext.call (refright2_calls _ _ _) <;> omega) | (go_at_call 10; refine Ext.call (refless2_calls _ _ _ _ _) <;> omega) | (go_at_call 19; refine Ext.same (refinfo2_calls _ _ _ ?_ ?_) <;> omega) | (go_at_call 9; refine Ext.call (lives2_calls _) <;> omega)))); refine wpQuiet_nil ?_; rintro _ ⟨_, rfl⟩))
         go_ret
         exact ⟨rfl, Ext.below hBW _⟩)
end Go.Proofs.Ytijlflfbpjhknaa
