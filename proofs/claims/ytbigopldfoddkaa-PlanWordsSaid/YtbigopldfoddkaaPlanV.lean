/- The walk of PlanWords. -/
import Derived.Test.YtbigopldfoddkaaPlanW
namespace Go.Proofs.Ytbigopldfoddkaa
open Go.RowKit
set_option linter.unusedVariables false
set_option linter.unusedSimpArgs false

theorem thread_at (T S i m k : Int) (t1 : 1 ≤ T) (t2 : T ≤ 6) (hm : (m = 0 ∧ k = 1) ∨ (m = 1 ∧ k = 2)) (a : Nat) (h : (a : Int) < wordsI T S) : (wk T a = k ∧ wi T a = i ∧ wj T a = 0) ↔ (a : Int) = threadI T i m := by
  constructor
  · rintro ⟨e1, e2, e3⟩
    rcases what_back T S a t1 t2 (by omega) h with ⟨h, k⟩ | ⟨h, k⟩ | ⟨h, k⟩ | ⟨h, k⟩ | ⟨h, k⟩ | ⟨h, k⟩ <;> rcases hm with ⟨rfl, rfl⟩ | ⟨rfl, rfl⟩ <;> first | omega | (rw [← e2]; exact k.symm)
  · intro e
    unfold threadI at e
    split at e
    · obtain ⟨n, rfl⟩ := Int.eq_ofNat_of_zero_le (show 0 ≤ i by omega)
      rcases hm with ⟨rfl, rfl⟩ | ⟨rfl, rfl⟩
      · exact wk_at T n a (by omega) 0 (by omega) (by omega)
      · exact wk_at T n a (by omega) 1 (by omega) (by omega)
    · omega
theorem bag_at (T S i j m k : Int) (t1 : 1 ≤ T) (t2 : T ≤ 6) (hm : (m = 2 ∧ k = 3) ∨ (m = 5 ∧ k = 4)) (a : Nat) (h : (a : Int) < wordsI T S) : (wk T a = k ∧ wi T a = i ∧ wj T a = j) ↔ (a : Int) = ofBagI T i m j := by
  constructor
  · rintro ⟨e1, e2, e3⟩
    rcases what_back T S a t1 t2 (by omega) h with ⟨h, k⟩ | ⟨h, k⟩ | ⟨h, k⟩ | ⟨h, k⟩ | ⟨h, k⟩ | ⟨h, k⟩ <;> rcases hm with ⟨rfl, rfl⟩ | ⟨rfl, rfl⟩ <;> first | omega | (rw [← e2, ← e3]; exact k.symm)
  · intro e
    unfold ofBagI threadI at e
    split at e
    · split at e
      · obtain ⟨n, rfl⟩ := Int.eq_ofNat_of_zero_le (show 0 ≤ i by omega)
        obtain ⟨q, rfl⟩ := Int.eq_ofNat_of_zero_le (show 0 ≤ j by omega)
        rcases hm with ⟨rfl, rfl⟩ | ⟨rfl, rfl⟩
        · obtain ⟨h1, h2, h3⟩ := wk_at T n a (by omega) (2 + q) (by omega) (by omega)
          rw [h1, h2, h3, if_neg (by omega), if_neg (by omega), if_pos (by omega), if_neg (by omega), if_neg (by omega), if_pos (by omega)]
          exact ⟨rfl, rfl, by omega⟩
        · obtain ⟨h1, h2, h3⟩ := wk_at T n a (by omega) (5 + q) (by omega) (by omega)
          rw [h1, h2, h3, if_neg (by omega), if_neg (by omega), if_neg (by omega), if_neg (by omega), if_neg (by omega), if_neg (by omega)]
          exact ⟨rfl, rfl, by omega⟩
      · omega
    · omega
theorem node_at (t s : Nat) (i j : Int) (t1 : 1 ≤ t) (t2 : t ≤ 6) (a : Nat) (h : (a : Int) < wordsI t s) : (wk t a = 5 ∧ wi t a = i ∧ wj t a = j) ↔ (a : Int) = nodeI t s i j := by
  constructor
  · rintro ⟨e1, e2, e3⟩
    rcases what_back t s a (by omega) (by omega) (by omega) h with ⟨h, k⟩ | ⟨h, k⟩ | ⟨h, k⟩ | ⟨h, k⟩ | ⟨h, k⟩ | ⟨h, k⟩ <;> first | omega | (rw [← e2, ← e3]; exact k.symm)
  · intro e
    unfold nodeI at e
    split at e
    · obtain ⟨n, hn⟩ := Int.eq_ofNat_of_zero_le (show 0 ≤ i - 1 by omega)
      obtain ⟨q, rfl⟩ := Int.eq_ofNat_of_zero_le (show 0 ≤ j by omega)
      obtain ⟨h1, h2, h3⟩ := wn_at t n q a (by omega) (by omega)
      rw [h1, h2, h3]
      exact ⟨rfl, by omega, rfl⟩
    · omega

set_option maxHeartbeats 2000000 in
set_option maxRecDepth 100000 in
theorem planWords_walk (v0 v1 v2 : Value) (w : World) (s0 : Fr.okN w [.int .i64, .int .i64, .int .u64] v0) (s1 : Fr.ok1 w (.int .i64) v1) (s2 : Fr.ok1 w (.int .i64) v2) :
    Calls Try.prog 3 #[v0, v1, v2] w fun e w' => e = .returned (.bool true) ∧ Below w.heap.size w w' := by
  obtain ⟨cs, rfl, hcs⟩ := s0
  obtain ⟨_, _, rfl, k0, hcs⟩ := Fr.get_cons hcs
  obtain ⟨_, _, rfl, k1, hcs⟩ := Fr.get_cons hcs
  obtain ⟨_, _, rfl, k2, hcs⟩ := Fr.get_cons hcs
  obtain rfl := Fr.get_nil hcs
  obtain ⟨T, rfl, wT⟩ := Fr.get_int k0
  obtain ⟨S, rfl, wS⟩ := Fr.get_int k1
  obtain ⟨K, rfl, wK⟩ := Fr.get_int k2
  obtain ⟨i, rfl, wi⟩ := Fr.get_int s1
  obtain ⟨j, rfl, wj⟩ := Fr.get_int s2
  clear s1 s2 k0 k1 k2 hcs wT wS wK wi wj
  show Calls Try.prog _ #[.agg #[.int .i64 T, .int .i64 S, .int .u64 K], _, _] w _
  go_enter Try.func3, Try.ntmps3
  go_wp2_with fail
  generalize hW : World.alloc w _ = W
  have hBW : Below w.heap.size w W := by rw [← hW]; (repeat (first | exact Below.refl _ _ | assumption | refine below_new ?_ _ | refine Below.drew ?_ | refine below_drewN ?_ _ | refine below_on ?_ (by assumption)))
  have z0 : W.cell? ⟨w.heap.size, 0, none⟩ = some (.int .i64 T) := Ext.made_in hW (Below.refl _ _) 0 _ rfl
  have z1 : W.cell? ⟨w.heap.size, 1, none⟩ = some (.int .i64 S) := Ext.made_in hW (Below.refl _ _) 1 _ rfl
  have z2 : W.cell? ⟨w.heap.size, 2, none⟩ = some (.int .u64 K) := Ext.made_in hW (Below.refl _ _) 2 _ rfl
  clear hW
  cases hm : mayC T S K
  · refine (pnew_no _ _ _ _ hm).mono ?_; rintro _ w1 ⟨rfl, hb⟩
    have z0 := Ext.cells (Ext.use (Ext.cells z0) hb); have z1 := Ext.cells (Ext.use (Ext.cells z1) hb); have z2 := Ext.cells (Ext.use (Ext.cells z2) hb)
    have hB1 := below_on hBW hb
    clear hBW hb
    obtain ⟨x, hx⟩ : ∃ x : Ext w1, x.w = w1 := ⟨⟨w1, Below.refl _ _⟩, rfl⟩; rw [← hx]; clear hx
    go_wp2_with (first | (go_at_call 7; refine (Ext.step (rmay_calls _ _ _ _)).mono ?_; rintro _ _ ⟨rfl, _, rfl⟩) | (go_at_call 22; refine (Ext.step (pslots_calls _ _ _ _ (by exact y0 _) (by exact y1 _) ?_ ?_ ?_ ?_)).mono ?_; omega; omega; omega; omega; rintro _ _ ⟨rfl, _, rfl⟩) | (go_at_call 17; refine (Ext.step (pwords_calls _ _ _ _ (by exact y0 _) (by exact y1 _) ?_ ?_ ?_ ?_)).mono ?_; omega; omega; omega; omega; rintro _ _ ⟨rfl, _, rfl⟩) | (go_at_call 20; refine (Ext.step (pthread_calls _ _ _ _ _ _ (by exact y0 _) (by exact y1 _) ?_ ?_ ?_ ?_ ?_ ?_)).mono ?_; omega; omega; omega; omega; omega; omega; rintro _ _ ⟨rfl, _, rfl⟩) | (go_at_call 21; refine (Ext.step (pofbag_calls _ _ _ _ _ _ _ (by exact y0 _) (by exact y1 _) ?_ ?_ ?_ ?_ ?_ ?_)).mono ?_; omega; omega; omega; omega; omega; omega; rintro _ _ ⟨rfl, _, rfl⟩) | (go_at_call 12; refine (Ext.step (pactive_calls _ _ _ _ _ (by exact y0 _) (by exact y1 _) ?_ ?_ ?_ ?_)).mono ?_; omega; omega; omega; omega; rintro _ _ ⟨rfl, _, rfl⟩) | (go_at_call 13; refine (Ext.step (pvictim_calls _ _ _ _ _ (by exact y0 _) (by exact y1 _) ?_ ?_ ?_ ?_)).mono ?_; omega; omega; omega; omega; rintro _ _ ⟨rfl, _, rfl⟩) | (go_at_call 14; refine (Ext.step (pstamp_calls _ _ _ _ _ _ (by exact y0 _) (by exact y1 _) ?_ ?_ ?_ ?_)).mono ?_; omega; omega; omega; omega; rintro _ _ ⟨rfl, _, rfl⟩) | (go_at_call 15; refine (Ext.step (pbag_calls _ _ _ _ _ _ (by exact y0 _) (by exact y1 _) ?_ ?_ ?_ ?_)).mono ?_; omega; omega; omega; omega; rintro _ _ ⟨rfl, _, rfl⟩) | (go_at_call 16; refine (Ext.step (pnode_calls _ _ _ _ _ _ (by exact y0 _) (by exact y1 _) ?_ ?_ ?_ ?_)).mono ?_; omega; omega; omega; omega; rintro _ _ ⟨rfl, _, rfl⟩) | (go_at_call 8; refine (Ext.step (pmay_calls _ _ _ _)).mono ?_; rintro _ _ ⟨rfl, _, rfl⟩) | (go_at_call 19; refine (Ext.step (pwhat_calls _ _ _ _ _ (by exact y0 _) (by exact y1 _) ?_ ?_ ?_ ?_)).mono ?_; omega; omega; omega; omega; rintro _ _ ⟨rfl, _, rfl⟩) | (go_at_call 9; refine (Ext.step (lives5_calls _)).mono ?_; rintro _ _ ⟨rfl, _, rfl⟩) | (with_reducible refine ext_region _ ?_ ?_ ?_; kernel_rfl; kernel_rfl; (repeat (go_big_quiet_step (first | (go_at_call 7; refine Ext.call (rmay_calls _ _ _ _) <;> omega) | (go_at_call 22; refine Ext.call (pslots_calls _ _ _ _ (by exact y0 _) (by exact y1 _) ?_ ?_ ?_ ?_) <;> omega) | (go_at_call 17; refine Ext.call (pwords_calls _ _ _ _ (by exact y0 _) (by exact y1 _) ?_ ?_ ?_ ?_) <;> omega) | (go_at_call 20; refine Ext.call (pthread_calls _ _ _ _ _ _ (by exact y0 _) (by exact y1 _) ?_ ?_ ?_ ?_ ?_ ?_) <;> omega) | (go_at_call 21; refine Ext.call (pofbag_calls _ _ _ _ _ _ _ (by exact y0 _) (by exact y1 _) ?_ ?_ ?_ ?_ ?_ ?_) <;> omega) | (go_at_call 12; refine Ext.call (pactive_calls _ _ _ _ _ (by exact y0 _) (by exact y1 _) ?_ ?_ ?_ ?_) <;> omega) | (go_at_call 13; refine Ext.call (pvictim_calls _ _ _ _ _ (by exact y0 _) (by exact y1 _) ?_ ?_ ?_ ?_) <;> omega) | (go_at_call 14; refine Ext.call (pstamp_calls _ _ _ _ _ _ (by exact y0 _) (by exact y1 _) ?_ ?_ ?_ ?_) <;> omega) | (go_at_call 15; refine Ext.call (pbag_calls _ _ _ _ _ _ (by exact y0 _) (by exact y1 _) ?_ ?_ ?_ ?_) <;> omega) | (go_at_call 16; refine Ext.call (pnode_calls _ _ _ _ _ _ (by exact y0 _) (by exact y1 _) ?_ ?_ ?_ ?_) <;> omega) | (go_at_call 8; refine Ext.call (pmay_calls _ _ _ _) <;> omega) | (go_at_call 19; refine Ext.call (pwhat_calls _ _ _ _ _ (by exact y0 _) (by exact y1 _) ?_ ?_ ?_ ?_) <;> omega) | (go_at_call 9; refine Ext.call (lives5_calls _) <;> omega)))); refine wpQuiet_nil ?_; rintro _ ⟨_, rfl⟩))
    go_ret
    exact ⟨by simp, Ext.below hB1 _⟩
  · obtain ⟨t1, t2, s1, s2, _, _⟩ := mayC_true hm
    obtain ⟨t, rfl⟩ := Int.eq_ofNat_of_zero_le (show 0 ≤ T by omega)
    obtain ⟨s, rfl⟩ := Int.eq_ofNat_of_zero_le (show 0 ≤ S by omega)
    refine (pnew_yes _ _ _ _ hm).mono ?_; rintro _ w1 ⟨p, rfl, hp, hh, hb⟩
    have y0 : ∀ x : Ext w1, x.w.cell? ⟨p, 0, none⟩ = some (.int .i64 t) := Ext.cells (by rw [cell_of_row _ p 0 _ _ (0, 0) hh]; rfl)
    have y1 : ∀ x : Ext w1, x.w.cell? ⟨p, 1, none⟩ = some (.int .i64 s) := Ext.cells (by rw [cell_of_row _ p 1 _ _ (0, 0) hh]; rfl)
    have y2 : ∀ x : Ext w1, x.w.cell? ⟨p, 2, none⟩ = some (.int .u64 K) := Ext.cells (by rw [cell_of_row _ p 2 _ _ (0, 0) hh]; rfl)
    have z0 := Ext.cells (Ext.use (Ext.cells z0) hb); have z1 := Ext.cells (Ext.use (Ext.cells z1) hb); have z2 := Ext.cells (Ext.use (Ext.cells z2) hb)
    have hB1 := below_on hBW hb
    clear hb hh hp hBW
    obtain ⟨x, hx⟩ : ∃ x : Ext w1, x.w = w1 := ⟨⟨w1, Below.refl _ _⟩, rfl⟩; rw [← hx]; clear hx
    go_wp2_with (first | (go_at_call 7; refine (Ext.step (rmay_calls _ _ _ _)).mono ?_; rintro _ _ ⟨rfl, _, rfl⟩) | (go_at_call 22; refine (Ext.step (pslots_calls _ _ _ _ (by exact y0 _) (by exact y1 _) ?_ ?_ ?_ ?_)).mono ?_; omega; omega; omega; omega; rintro _ _ ⟨rfl, _, rfl⟩) | (go_at_call 17; refine (Ext.step (pwords_calls _ _ _ _ (by exact y0 _) (by exact y1 _) ?_ ?_ ?_ ?_)).mono ?_; omega; omega; omega; omega; rintro _ _ ⟨rfl, _, rfl⟩) | (go_at_call 20; refine (Ext.step (pthread_calls _ _ _ _ _ _ (by exact y0 _) (by exact y1 _) ?_ ?_ ?_ ?_ ?_ ?_)).mono ?_; omega; omega; omega; omega; omega; omega; rintro _ _ ⟨rfl, _, rfl⟩) | (go_at_call 21; refine (Ext.step (pofbag_calls _ _ _ _ _ _ _ (by exact y0 _) (by exact y1 _) ?_ ?_ ?_ ?_ ?_ ?_)).mono ?_; omega; omega; omega; omega; omega; omega; rintro _ _ ⟨rfl, _, rfl⟩) | (go_at_call 12; refine (Ext.step (pactive_calls _ _ _ _ _ (by exact y0 _) (by exact y1 _) ?_ ?_ ?_ ?_)).mono ?_; omega; omega; omega; omega; rintro _ _ ⟨rfl, _, rfl⟩) | (go_at_call 13; refine (Ext.step (pvictim_calls _ _ _ _ _ (by exact y0 _) (by exact y1 _) ?_ ?_ ?_ ?_)).mono ?_; omega; omega; omega; omega; rintro _ _ ⟨rfl, _, rfl⟩) | (go_at_call 14; refine (Ext.step (pstamp_calls _ _ _ _ _ _ (by exact y0 _) (by exact y1 _) ?_ ?_ ?_ ?_)).mono ?_; omega; omega; omega; omega; rintro _ _ ⟨rfl, _, rfl⟩) | (go_at_call 15; refine (Ext.step (pbag_calls _ _ _ _ _ _ (by exact y0 _) (by exact y1 _) ?_ ?_ ?_ ?_)).mono ?_; omega; omega; omega; omega; rintro _ _ ⟨rfl, _, rfl⟩) | (go_at_call 16; refine (Ext.step (pnode_calls _ _ _ _ _ _ (by exact y0 _) (by exact y1 _) ?_ ?_ ?_ ?_)).mono ?_; omega; omega; omega; omega; rintro _ _ ⟨rfl, _, rfl⟩) | (go_at_call 8; refine (Ext.step (pmay_calls _ _ _ _)).mono ?_; rintro _ _ ⟨rfl, _, rfl⟩) | (go_at_call 19; refine (Ext.step (pwhat_calls _ _ _ _ _ (by exact y0 _) (by exact y1 _) ?_ ?_ ?_ ?_)).mono ?_; omega; omega; omega; omega; rintro _ _ ⟨rfl, _, rfl⟩) | (go_at_call 9; refine (Ext.step (lives5_calls _)).mono ?_; rintro _ _ ⟨rfl, _, rfl⟩) | (with_reducible refine ext_region _ ?_ ?_ ?_; kernel_rfl; kernel_rfl; (repeat (go_big_quiet_step (first | (go_at_call 7; refine Ext.call (rmay_calls _ _ _ _) <;> omega) | (go_at_call 22; refine Ext.call (pslots_calls _ _ _ _ (by exact y0 _) (by exact y1 _) ?_ ?_ ?_ ?_) <;> omega) | (go_at_call 17; refine Ext.call (pwords_calls _ _ _ _ (by exact y0 _) (by exact y1 _) ?_ ?_ ?_ ?_) <;> omega) | (go_at_call 20; refine Ext.call (pthread_calls _ _ _ _ _ _ (by exact y0 _) (by exact y1 _) ?_ ?_ ?_ ?_ ?_ ?_) <;> omega) | (go_at_call 21; refine Ext.call (pofbag_calls _ _ _ _ _ _ _ (by exact y0 _) (by exact y1 _) ?_ ?_ ?_ ?_ ?_ ?_) <;> omega) | (go_at_call 12; refine Ext.call (pactive_calls _ _ _ _ _ (by exact y0 _) (by exact y1 _) ?_ ?_ ?_ ?_) <;> omega) | (go_at_call 13; refine Ext.call (pvictim_calls _ _ _ _ _ (by exact y0 _) (by exact y1 _) ?_ ?_ ?_ ?_) <;> omega) | (go_at_call 14; refine Ext.call (pstamp_calls _ _ _ _ _ _ (by exact y0 _) (by exact y1 _) ?_ ?_ ?_ ?_) <;> omega) | (go_at_call 15; refine Ext.call (pbag_calls _ _ _ _ _ _ (by exact y0 _) (by exact y1 _) ?_ ?_ ?_ ?_) <;> omega) | (go_at_call 16; refine Ext.call (pnode_calls _ _ _ _ _ _ (by exact y0 _) (by exact y1 _) ?_ ?_ ?_ ?_) <;> omega) | (go_at_call 8; refine Ext.call (pmay_calls _ _ _ _) <;> omega) | (go_at_call 19; refine Ext.call (pwhat_calls _ _ _ _ _ (by exact y0 _) (by exact y1 _) ?_ ?_ ?_ ?_) <;> omega) | (go_at_call 9; refine Ext.call (lives5_calls _) <;> omega)))); refine wpQuiet_nil ?_; rintro _ ⟨_, rfl⟩))
    refine (rwords_calls _ _ _ _ (by omega) (by omega) (by omega) (by omega)).mono ?_; rintro _ w3 ⟨v, rfl, hown, hb⟩
    obtain ⟨g, cap, rfl, hg, hgw, hnc, hcm, hcells⟩ := own_cells hown (by omega)
    have hb := Ext.on2 hb
    have y0 := Ext.cells (Ext.use y0 hb); have y1 := Ext.cells (Ext.use y1 hb); have y2 := Ext.cells (Ext.use y2 hb)
    have z0 := Ext.cells (Ext.use z0 hb); have z1 := Ext.cells (Ext.use z1 hb); have z2 := Ext.cells (Ext.use z2 hb)
    have hB3 := below_on hB1 hb
    clear hb hown hB1 hg
    have hwn := wordsI_nat t s
    generalize hN : 3 + 8 * t + 7 * s = N at *
    have hN2 : N ≤ 1801 ∧ 60 ≤ N := by omega
    have hcm' : cap ≤ 9223372036854775807 := hcm
    have hat : ∀ (k1 k2 k3 r : Int), (∀ a : Nat, (a : Int) < wordsI t s → ((wk t a = k1 ∧ wi t a = k2 ∧ wj t a = k3) ↔ (a : Int) = r)) → (r = -1 ∨ (0 ≤ r ∧ r < N)) → ∀ x : Ext w3,
        Calls Try.prog 11 #[.slice (some ⟨g, 0, none⟩) N cap, .agg #[.int .i64 k1, .int .i64 k2, .int .i64 k3]] x.w fun e w' => e = .returned (.int .i64 r) ∧ Below x.w.heap.size x.w w' := fun k1 k2 k3 r h1 h2 x =>
      rat_calls t N g cap k1 k2 k3 r x.w hN2.1 hnc hcm (fun a ha => ⟨x.cell (hcells a ha).1, x.cell (hcells a ha).2.1, x.cell (hcells a ha).2.2⟩) (by have := x.h.size; omega) (fun a ha => h1 a (by omega)) h2
    have HAT1 := Lib.hid (hat 1 i 0 (threadI t i 0) (thread_at t s i 0 1 t1 t2 (.inl ⟨rfl, rfl⟩)) (by unfold threadI; split <;> omega))
    have HAT2 := Lib.hid (hat 2 i 0 (threadI t i 1) (thread_at t s i 1 2 t1 t2 (.inr ⟨rfl, rfl⟩)) (by unfold threadI; split <;> omega))
    have HAT3 := Lib.hid (hat 3 i j (ofBagI t i 2 j) (bag_at t s i j 2 3 t1 t2 (.inl ⟨rfl, rfl⟩)) (by unfold ofBagI threadI; split <;> (try split) <;> omega))
    have HAT4 := Lib.hid (hat 4 i j (ofBagI t i 5 j) (bag_at t s i j 5 4 t1 t2 (.inr ⟨rfl, rfl⟩)) (by unfold ofBagI threadI; split <;> (try split) <;> omega))
    have HAT5 := Lib.hid (hat 5 i j (nodeI t s i j) (node_at t s i j (by omega) (by omega)) (by unfold nodeI; split <;> omega))
    clear hat hN hcells hcm hgw hm hN2
    obtain ⟨x, hx⟩ : ∃ x : Ext w3, x.w = w3 := ⟨⟨w3, Below.refl _ _⟩, rfl⟩; rw [← hx]; clear hx
    go_wp2_with (first | (go_at_call 11; with_reducible refine (Ext.step (HAT1.out _)).mono ?_; rintro _ _ ⟨rfl, _, rfl⟩) | (go_at_call 11; with_reducible refine (Ext.step (HAT2.out _)).mono ?_; rintro _ _ ⟨rfl, _, rfl⟩) | (go_at_call 11; with_reducible refine (Ext.step (HAT3.out _)).mono ?_; rintro _ _ ⟨rfl, _, rfl⟩) | (go_at_call 11; with_reducible refine (Ext.step (HAT4.out _)).mono ?_; rintro _ _ ⟨rfl, _, rfl⟩) | (go_at_call 11; with_reducible refine (Ext.step (HAT5.out _)).mono ?_; rintro _ _ ⟨rfl, _, rfl⟩) | (go_at_call 18; refine (Ext.step (pconf_calls _ _ _ _ _ (by exact y0 _) (by exact y1 _) (by exact y2 _))).mono ?_; rintro _ _ ⟨rfl, _, rfl⟩) | (go_at_call 22; refine (Ext.step (pslots_calls _ _ _ _ (by exact y0 _) (by exact y1 _) ?_ ?_ ?_ ?_)).mono ?_; omega; omega; omega; omega; rintro _ _ ⟨rfl, _, rfl⟩) | (go_at_call 17; refine (Ext.step (pwords_calls _ _ _ _ (by exact y0 _) (by exact y1 _) ?_ ?_ ?_ ?_)).mono ?_; omega; omega; omega; omega; rintro _ _ ⟨rfl, _, rfl⟩) | (go_at_call 20; refine (Ext.step (pthread_calls _ _ _ _ _ _ (by exact y0 _) (by exact y1 _) ?_ ?_ ?_ ?_ ?_ ?_)).mono ?_; omega; omega; omega; omega; omega; omega; rintro _ _ ⟨rfl, _, rfl⟩) | (go_at_call 21; refine (Ext.step (pofbag_calls _ _ _ _ _ _ _ (by exact y0 _) (by exact y1 _) ?_ ?_ ?_ ?_ ?_ ?_)).mono ?_; omega; omega; omega; omega; omega; omega; rintro _ _ ⟨rfl, _, rfl⟩) | (go_at_call 12; refine (Ext.step (pactive_calls _ _ _ _ _ (by exact y0 _) (by exact y1 _) ?_ ?_ ?_ ?_)).mono ?_; omega; omega; omega; omega; rintro _ _ ⟨rfl, _, rfl⟩) | (go_at_call 13; refine (Ext.step (pvictim_calls _ _ _ _ _ (by exact y0 _) (by exact y1 _) ?_ ?_ ?_ ?_)).mono ?_; omega; omega; omega; omega; rintro _ _ ⟨rfl, _, rfl⟩) | (go_at_call 14; refine (Ext.step (pstamp_calls _ _ _ _ _ _ (by exact y0 _) (by exact y1 _) ?_ ?_ ?_ ?_)).mono ?_; omega; omega; omega; omega; rintro _ _ ⟨rfl, _, rfl⟩) | (go_at_call 15; refine (Ext.step (pbag_calls _ _ _ _ _ _ (by exact y0 _) (by exact y1 _) ?_ ?_ ?_ ?_)).mono ?_; omega; omega; omega; omega; rintro _ _ ⟨rfl, _, rfl⟩) | (go_at_call 16; refine (Ext.step (pnode_calls _ _ _ _ _ _ (by exact y0 _) (by exact y1 _) ?_ ?_ ?_ ?_)).mono ?_; omega; omega; omega; omega; rintro _ _ ⟨rfl, _, rfl⟩) | (go_at_call 8; refine (Ext.step (pmay_calls _ _ _ _)).mono ?_; rintro _ _ ⟨rfl, _, rfl⟩) | (go_at_call 19; refine (Ext.step (pwhat_calls _ _ _ _ _ (by exact y0 _) (by exact y1 _) ?_ ?_ ?_ ?_)).mono ?_; omega; omega; omega; omega; rintro _ _ ⟨rfl, _, rfl⟩) | (go_at_call 9; refine (Ext.step (lives5_calls _)).mono ?_; rintro _ _ ⟨rfl, _, rfl⟩) | (with_reducible refine ext_region _ ?_ ?_ ?_; kernel_rfl; kernel_rfl; (repeat (go_big_quiet_step (first | (go_at_call 11; with_reducible refine Ext.call (HAT1.out _) <;> omega) | (go_at_call 11; with_reducible refine Ext.call (HAT2.out _) <;> omega) | (go_at_call 11; with_reducible refine Ext.call (HAT3.out _) <;> omega) | (go_at_call 11; with_reducible refine Ext.call (HAT4.out _) <;> omega) | (go_at_call 11; with_reducible refine Ext.call (HAT5.out _) <;> omega) | (go_at_call 18; refine Ext.call (pconf_calls _ _ _ _ _ (by exact y0 _) (by exact y1 _) (by exact y2 _)) <;> omega) | (go_at_call 22; refine Ext.call (pslots_calls _ _ _ _ (by exact y0 _) (by exact y1 _) ?_ ?_ ?_ ?_) <;> omega) | (go_at_call 17; refine Ext.call (pwords_calls _ _ _ _ (by exact y0 _) (by exact y1 _) ?_ ?_ ?_ ?_) <;> omega) | (go_at_call 20; refine Ext.call (pthread_calls _ _ _ _ _ _ (by exact y0 _) (by exact y1 _) ?_ ?_ ?_ ?_ ?_ ?_) <;> omega) | (go_at_call 21; refine Ext.call (pofbag_calls _ _ _ _ _ _ _ (by exact y0 _) (by exact y1 _) ?_ ?_ ?_ ?_ ?_ ?_) <;> omega) | (go_at_call 12; refine Ext.call (pactive_calls _ _ _ _ _ (by exact y0 _) (by exact y1 _) ?_ ?_ ?_ ?_) <;> omega) | (go_at_call 13; refine Ext.call (pvictim_calls _ _ _ _ _ (by exact y0 _) (by exact y1 _) ?_ ?_ ?_ ?_) <;> omega) | (go_at_call 14; refine Ext.call (pstamp_calls _ _ _ _ _ _ (by exact y0 _) (by exact y1 _) ?_ ?_ ?_ ?_) <;> omega) | (go_at_call 15; refine Ext.call (pbag_calls _ _ _ _ _ _ (by exact y0 _) (by exact y1 _) ?_ ?_ ?_ ?_) <;> omega) | (go_at_call 16; refine Ext.call (pnode_calls _ _ _ _ _ _ (by exact y0 _) (by exact y1 _) ?_ ?_ ?_ ?_) <;> omega) | (go_at_call 8; refine Ext.call (pmay_calls _ _ _ _) <;> omega) | (go_at_call 19; refine Ext.call (pwhat_calls _ _ _ _ _ (by exact y0 _) (by exact y1 _) ?_ ?_ ?_ ?_) <;> omega) | (go_at_call 9; refine Ext.call (lives5_calls _) <;> omega)))); refine wpQuiet_nil ?_; rintro _ ⟨_, rfl⟩))
    go_ret
    exact ⟨by simp, Ext.below hB3 _⟩
end Go.Proofs.Ytbigopldfoddkaa
