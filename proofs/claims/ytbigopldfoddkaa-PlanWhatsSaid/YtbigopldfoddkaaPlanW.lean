/- The walks of PlanWhats and PlanWords. -/
import Derived.Test.YtbigopldfoddkaaPlanN
import Derived.Test.YtbigopldfoddkaaPlanL
import Derived.Test.YtbigopldfoddkaaFrame
import Derived.Laws.StructEq
import Derived.Deep.Cut
namespace Go.Proofs.Ytbigopldfoddkaa
open Go.RowKit
set_option linter.unusedVariables false
set_option linter.unusedSimpArgs false

theorem wordsI_nat (t s : Nat) : wordsI t s = ((3 + 8 * t + 7 * s : Nat) : Int) := by unfold wordsI; omega

theorem Ext.on2 {W w' : World} {x : Ext W} (h : Below x.w.heap.size x.w w') : Below W.heap.size W w' := x.h.trans (h.mono x.h.size)

set_option maxHeartbeats 2000000 in
set_option maxRecDepth 100000 in
theorem planWhats_walk (v0 v1 : Value) (w : World) (s0 : Fr.okN w [.int .i64, .int .i64, .int .u64] v0) (s1 : Fr.ok1 w (.int .i64) v1) :
    Calls Try.prog 4 #[v0, v1] w fun e w' => e = .returned (.bool true) ∧ Below w.heap.size w w' := by
  obtain ⟨cs, rfl, hcs⟩ := s0
  obtain ⟨_, _, rfl, k0, hcs⟩ := Fr.get_cons hcs
  obtain ⟨_, _, rfl, k1, hcs⟩ := Fr.get_cons hcs
  obtain ⟨_, _, rfl, k2, hcs⟩ := Fr.get_cons hcs
  obtain rfl := Fr.get_nil hcs
  obtain ⟨T, rfl, wT⟩ := Fr.get_int k0
  obtain ⟨S, rfl, wS⟩ := Fr.get_int k1
  obtain ⟨K, rfl, wK⟩ := Fr.get_int k2
  obtain ⟨a, rfl, wa⟩ := Fr.get_int s1
  obtain ⟨a1, a2⟩ := wf64p wa
  clear s1 k0 k1 k2 hcs wT wS wK wa
  show Calls Try.prog _ #[.agg #[.int .i64 T, .int .i64 S, .int .u64 K], _] w _
  go_enter Try.func4, Try.ntmps4
  go_wp2_with fail
  generalize hW : World.alloc w _ = W
  have hBW : Below w.heap.size w W := by rw [← hW]; (repeat (first | exact Below.refl _ _ | assumption | refine below_new ?_ _ | refine Below.drew ?_ | refine below_drewN ?_ _ | refine below_on ?_ (by assumption)))
  have z0 : W.cell? ⟨w.heap.size, 0, none⟩ = some (.int .i64 T) := Ext.made_in hW (Below.refl _ _) 0 _ rfl
  have z1 : W.cell? ⟨w.heap.size, 1, none⟩ = some (.int .i64 S) := Ext.made_in hW (Below.refl _ _) 1 _ rfl
  have z2 : W.cell? ⟨w.heap.size, 2, none⟩ = some (.int .u64 K) := Ext.made_in hW (Below.refl _ _) 2 _ rfl
  clear hW
  refine (pnwhat_calls _ _).mono ?_; rintro _ w1 ⟨rfl, hb⟩
  have z0 := Ext.use (Ext.cells z0) hb; have z1 := Ext.use (Ext.cells z1) hb; have z2 := Ext.use (Ext.cells z2) hb
  have hB1 := below_on hBW hb
  clear hBW hb
  go_upto_region 3 with (fail)
  generalize hU : World.alloc w1 _ = U
  have hBU : Below w.heap.size w U := by rw [← hU]; (repeat (first | exact Below.refl _ _ | assumption | refine below_new ?_ _ | refine Below.drew ?_ | refine below_drewN ?_ _ | refine below_on ?_ (by assumption)))
  have z0 := Ext.new z0 hU; have z1 := Ext.new z1 hU; have z2 := Ext.new z2 hU
  have q0 : ∀ x : Ext U, x.w.cell? ⟨w1.heap.size, 0, none⟩ = some (.int .i64 0) := Ext.made hU 0 _ rfl
  have q1 : ∀ x : Ext U, x.w.cell? ⟨w1.heap.size, 1, none⟩ = some (.int .i64 0) := Ext.made hU 1 _ rfl
  have q2 : ∀ x : Ext U, x.w.cell? ⟨w1.heap.size, 2, none⟩ = some (.int .i64 0) := Ext.made hU 2 _ rfl
  clear hU hB1
  obtain ⟨x, hx⟩ : ∃ x : Ext U, x.w = U := ⟨⟨U, Below.refl _ _⟩, rfl⟩; rw [← hx]; clear hx
  cases hm : mayC T S K
  · go_wp2_with (first | (go_at_call 17; refine (Ext.step (pnwords_calls _)).mono ?_; rintro _ _ ⟨rfl, _, rfl⟩) | (go_at_call 18; refine (Ext.step (pnconf_calls _)).mono ?_; rintro _ _ ⟨rfl, _, rfl⟩) | (go_at_call 20; refine (Ext.step (pnthread_calls _ _ _)).mono ?_; rintro _ _ ⟨rfl, _, rfl⟩) | (go_at_call 21; refine (Ext.step (pnofbag_calls _ _ _)).mono ?_; rintro _ _ ⟨rfl, _, rfl⟩) | (go_at_call 12; refine (Ext.step (pnactive_calls _ _)).mono ?_; rintro _ _ ⟨rfl, _, rfl⟩) | (go_at_call 13; refine (Ext.step (pnvictim_calls _ _)).mono ?_; rintro _ _ ⟨rfl, _, rfl⟩) | (go_at_call 14; refine (Ext.step (pnstamp_calls _ _)).mono ?_; rintro _ _ ⟨rfl, _, rfl⟩) | (go_at_call 15; refine (Ext.step (pnbag_calls _ _)).mono ?_; rintro _ _ ⟨rfl, _, rfl⟩) | (go_at_call 16; refine (Ext.step (pnnode_calls _ _)).mono ?_; rintro _ _ ⟨rfl, _, rfl⟩) | (go_at_call 19; refine (Ext.step (pnwhat_calls _ _)).mono ?_; rintro _ _ ⟨rfl, _, rfl⟩) | (go_at_call 7; refine (Ext.step (rmay_calls _ _ _ _)).mono ?_; rintro _ _ ⟨rfl, _, rfl⟩) | (go_at_call 9; refine (Ext.step (lives5_calls _)).mono ?_; rintro _ _ ⟨rfl, _, rfl⟩) | (with_reducible refine ext_region _ ?_ ?_ ?_; kernel_rfl; kernel_rfl; (repeat (go_big_quiet_step (first | (go_at_call 17; refine Ext.call (pnwords_calls _) <;> omega) | (go_at_call 18; refine Ext.call (pnconf_calls _) <;> omega) | (go_at_call 20; refine Ext.call (pnthread_calls _ _ _) <;> omega) | (go_at_call 21; refine Ext.call (pnofbag_calls _ _ _) <;> omega) | (go_at_call 12; refine Ext.call (pnactive_calls _ _) <;> omega) | (go_at_call 13; refine Ext.call (pnvictim_calls _ _) <;> omega) | (go_at_call 14; refine Ext.call (pnstamp_calls _ _) <;> omega) | (go_at_call 15; refine Ext.call (pnbag_calls _ _) <;> omega) | (go_at_call 16; refine Ext.call (pnnode_calls _ _) <;> omega) | (go_at_call 19; refine Ext.call (pnwhat_calls _ _) <;> omega) | (go_at_call 7; refine Ext.call (rmay_calls _ _ _ _) <;> omega) | (go_at_call 9; refine Ext.call (lives5_calls _) <;> omega)))); refine wpQuiet_nil ?_; rintro _ ⟨_, rfl⟩))
    go_ret
    exact ⟨rfl, Ext.below hBU _⟩
  · obtain ⟨t1, t2, s1, s2, _, _⟩ := mayC_true hm
    obtain ⟨t, rfl⟩ := Int.eq_ofNat_of_zero_le (show 0 ≤ T by omega)
    obtain ⟨s, rfl⟩ := Int.eq_ofNat_of_zero_le (show 0 ≤ S by omega)
    go_wp2_with (first | (go_at_call 17; refine (Ext.step (pnwords_calls _)).mono ?_; rintro _ _ ⟨rfl, _, rfl⟩) | (go_at_call 18; refine (Ext.step (pnconf_calls _)).mono ?_; rintro _ _ ⟨rfl, _, rfl⟩) | (go_at_call 20; refine (Ext.step (pnthread_calls _ _ _)).mono ?_; rintro _ _ ⟨rfl, _, rfl⟩) | (go_at_call 21; refine (Ext.step (pnofbag_calls _ _ _)).mono ?_; rintro _ _ ⟨rfl, _, rfl⟩) | (go_at_call 12; refine (Ext.step (pnactive_calls _ _)).mono ?_; rintro _ _ ⟨rfl, _, rfl⟩) | (go_at_call 13; refine (Ext.step (pnvictim_calls _ _)).mono ?_; rintro _ _ ⟨rfl, _, rfl⟩) | (go_at_call 14; refine (Ext.step (pnstamp_calls _ _)).mono ?_; rintro _ _ ⟨rfl, _, rfl⟩) | (go_at_call 15; refine (Ext.step (pnbag_calls _ _)).mono ?_; rintro _ _ ⟨rfl, _, rfl⟩) | (go_at_call 16; refine (Ext.step (pnnode_calls _ _)).mono ?_; rintro _ _ ⟨rfl, _, rfl⟩) | (go_at_call 19; refine (Ext.step (pnwhat_calls _ _)).mono ?_; rintro _ _ ⟨rfl, _, rfl⟩) | (go_at_call 7; refine (Ext.step (rmay_calls _ _ _ _)).mono ?_; rintro _ _ ⟨rfl, _, rfl⟩) | (go_at_call 9; refine (Ext.step (lives5_calls _)).mono ?_; rintro _ _ ⟨rfl, _, rfl⟩) | (with_reducible refine ext_region _ ?_ ?_ ?_; kernel_rfl; kernel_rfl; (repeat (go_big_quiet_step (first | (go_at_call 17; refine Ext.call (pnwords_calls _) <;> omega) | (go_at_call 18; refine Ext.call (pnconf_calls _) <;> omega) | (go_at_call 20; refine Ext.call (pnthread_calls _ _ _) <;> omega) | (go_at_call 21; refine Ext.call (pnofbag_calls _ _ _) <;> omega) | (go_at_call 12; refine Ext.call (pnactive_calls _ _) <;> omega) | (go_at_call 13; refine Ext.call (pnvictim_calls _ _) <;> omega) | (go_at_call 14; refine Ext.call (pnstamp_calls _ _) <;> omega) | (go_at_call 15; refine Ext.call (pnbag_calls _ _) <;> omega) | (go_at_call 16; refine Ext.call (pnnode_calls _ _) <;> omega) | (go_at_call 19; refine Ext.call (pnwhat_calls _ _) <;> omega) | (go_at_call 7; refine Ext.call (rmay_calls _ _ _ _) <;> omega) | (go_at_call 9; refine Ext.call (lives5_calls _) <;> omega)))); refine wpQuiet_nil ?_; rintro _ ⟨_, rfl⟩))
    refine (pnew_yes _ _ _ _ hm).mono ?_; rintro _ w2 ⟨p, rfl, hp, hh, hb⟩
    have hb := Ext.on2 hb
    have x0 : w2.cell? ⟨p, 0, none⟩ = some (.int .i64 t) := by rw [cell_of_row _ p 0 _ _ (0, 0) hh]; rfl
    have x1 : w2.cell? ⟨p, 1, none⟩ = some (.int .i64 s) := by rw [cell_of_row _ p 1 _ _ (0, 0) hh]; rfl
    have z0 := Ext.use z0 hb; have z1 := Ext.use z1 hb; have z2 := Ext.use z2 hb
    have hB2 := below_on hBU hb
    clear hb hh hp q0 q1 q2 hBU
    go_wp2_with fail
    refine (rwords_calls _ _ _ _ (by omega) (by omega) (by omega) (by omega)).mono ?_; rintro _ w3 ⟨v, rfl, hown, hb⟩
    obtain ⟨g, cap, rfl, hg, hgw, hnc, hcm, hcells⟩ := own_cells hown (by omega)
    have HCE := Lib.hid hcells
    have x0 := Ext.use (Ext.cells x0) hb; have x1 := Ext.use (Ext.cells x1) hb
    have hB3 := below_on hB2 hb
    clear hb hown hcells hg hB2 z0 z1 z2
    have hwn := wordsI_nat t s
    generalize hN : 3 + 8 * t + 7 * s = N at *
    have hN2 : N ≤ 1801 ∧ 60 ≤ N := by omega
    clear hN
    have hcm' : cap ≤ 9223372036854775807 := hcm
    go_wp2_with fail
    cases ha : isW t s a
    · have ka : ¬ (0 ≤ a ∧ a < wordsI t s) := of_decide_eq_false ha
      rw [hwn] at ka
      clear hwn
      refine (pwhat_no _ _ _ _ _ ha x0 x1 t1 t2 s1 s2).mono ?_; rintro _ w4 ⟨rfl, hb⟩
      have hB4 := below_on hB3 hb
      clear hb hB3 x0 x1 HCE
      go_upto_region 10 with (fail)
      generalize hV : World.alloc w4 _ = V
      have hBV : Below w.heap.size w V := by rw [← hV]; (repeat (first | exact Below.refl _ _ | assumption | refine below_new ?_ _ | refine Below.drew ?_ | refine below_drewN ?_ _ | refine below_on ?_ (by assumption)))
      have q0 : ∀ x : Ext V, x.w.cell? ⟨w4.heap.size, 0, none⟩ = some (.int .i64 0) := Ext.made hV 0 _ rfl
      have q1 : ∀ x : Ext V, x.w.cell? ⟨w4.heap.size, 1, none⟩ = some (.int .i64 0) := Ext.made hV 1 _ rfl
      have q2 : ∀ x : Ext V, x.w.cell? ⟨w4.heap.size, 2, none⟩ = some (.int .i64 0) := Ext.made hV 2 _ rfl
      clear hV hB4
      obtain ⟨x, hx⟩ : ∃ x : Ext V, x.w = V := ⟨⟨V, Below.refl _ _⟩, rfl⟩; rw [← hx]; clear hx
      rcases (by omega : a < 0 ∨ (0 ≤ a ∧ (N : Int) ≤ a)) with g | ⟨g, g'⟩
      all_goals
        go_wp2_with (first | (go_at_call 17; refine (Ext.step (pnwords_calls _)).mono ?_; rintro _ _ ⟨rfl, _, rfl⟩) | (go_at_call 18; refine (Ext.step (pnconf_calls _)).mono ?_; rintro _ _ ⟨rfl, _, rfl⟩) | (go_at_call 20; refine (Ext.step (pnthread_calls _ _ _)).mono ?_; rintro _ _ ⟨rfl, _, rfl⟩) | (go_at_call 21; refine (Ext.step (pnofbag_calls _ _ _)).mono ?_; rintro _ _ ⟨rfl, _, rfl⟩) | (go_at_call 12; refine (Ext.step (pnactive_calls _ _)).mono ?_; rintro _ _ ⟨rfl, _, rfl⟩) | (go_at_call 13; refine (Ext.step (pnvictim_calls _ _)).mono ?_; rintro _ _ ⟨rfl, _, rfl⟩) | (go_at_call 14; refine (Ext.step (pnstamp_calls _ _)).mono ?_; rintro _ _ ⟨rfl, _, rfl⟩) | (go_at_call 15; refine (Ext.step (pnbag_calls _ _)).mono ?_; rintro _ _ ⟨rfl, _, rfl⟩) | (go_at_call 16; refine (Ext.step (pnnode_calls _ _)).mono ?_; rintro _ _ ⟨rfl, _, rfl⟩) | (go_at_call 19; refine (Ext.step (pnwhat_calls _ _)).mono ?_; rintro _ _ ⟨rfl, _, rfl⟩) | (go_at_call 7; refine (Ext.step (rmay_calls _ _ _ _)).mono ?_; rintro _ _ ⟨rfl, _, rfl⟩) | (go_at_call 9; refine (Ext.step (lives5_calls _)).mono ?_; rintro _ _ ⟨rfl, _, rfl⟩) | (with_reducible refine ext_region _ ?_ ?_ ?_; kernel_rfl; kernel_rfl; (repeat (go_big_quiet_step (first | (go_at_call 17; refine Ext.call (pnwords_calls _) <;> omega) | (go_at_call 18; refine Ext.call (pnconf_calls _) <;> omega) | (go_at_call 20; refine Ext.call (pnthread_calls _ _ _) <;> omega) | (go_at_call 21; refine Ext.call (pnofbag_calls _ _ _) <;> omega) | (go_at_call 12; refine Ext.call (pnactive_calls _ _) <;> omega) | (go_at_call 13; refine Ext.call (pnvictim_calls _ _) <;> omega) | (go_at_call 14; refine Ext.call (pnstamp_calls _ _) <;> omega) | (go_at_call 15; refine Ext.call (pnbag_calls _ _) <;> omega) | (go_at_call 16; refine Ext.call (pnnode_calls _ _) <;> omega) | (go_at_call 19; refine Ext.call (pnwhat_calls _ _) <;> omega) | (go_at_call 7; refine Ext.call (rmay_calls _ _ _ _) <;> omega) | (go_at_call 9; refine Ext.call (lives5_calls _) <;> omega)))); refine wpQuiet_nil ?_; rintro _ ⟨_, rfl⟩))
        go_ret
        exact ⟨rfl, Ext.below hBV _⟩
    · obtain ⟨g1, g2⟩ : (0 ≤ a ∧ a < wordsI t s) := of_decide_eq_true ha
      rw [hwn] at g2
      clear hwn
      refine (pwhat_yes _ _ _ _ _ ha x0 x1 t1 t2 s1 s2).mono ?_; rintro _ w4 ⟨rfl, hb⟩
      have hB4 := below_on hB3 hb
      obtain ⟨n, rfl⟩ := Int.eq_ofNat_of_zero_le g1
      obtain ⟨c0, c1, c2⟩ := HCE.out n (by omega)
      have c0 := Ext.use (Ext.cells c0) hb; have c1 := Ext.use (Ext.cells c1) hb; have c2 := Ext.use (Ext.cells c2) hb
      clear hb hB3 x0 x1 HCE
      generalize wk t n = k1 at *
      generalize wi t n = k2 at *
      generalize wj t n = k3 at *
      go_upto_region 10 with (fail)
      generalize hV : World.alloc w4 _ = V
      have hBV : Below w.heap.size w V := by rw [← hV]; (repeat (first | exact Below.refl _ _ | assumption | refine below_new ?_ _ | refine Below.drew ?_ | refine below_drewN ?_ _ | refine below_on ?_ (by assumption)))
      have q0 : ∀ x : Ext V, x.w.cell? ⟨w4.heap.size, 0, none⟩ = some (.int .i64 k1) := Ext.made hV 0 _ rfl
      have q1 : ∀ x : Ext V, x.w.cell? ⟨w4.heap.size, 1, none⟩ = some (.int .i64 k2) := Ext.made hV 1 _ rfl
      have q2 : ∀ x : Ext V, x.w.cell? ⟨w4.heap.size, 2, none⟩ = some (.int .i64 k3) := Ext.made hV 2 _ rfl
      have y0 := Ext.new c0 hV; have y1 := Ext.new c1 hV; have y2 := Ext.new c2 hV
      clear hV hB4 c0 c1 c2
      obtain ⟨x, hx⟩ : ∃ x : Ext V, x.w = V := ⟨⟨V, Below.refl _ _⟩, rfl⟩; rw [← hx]; clear hx
      have hlt : n < N := by omega
      clear g1 a1 a2 ha hm t1 t2 s1 s2 g2 hN2 hcm
      go_wp2_with (first | (go_at_call 17; refine (Ext.step (pnwords_calls _)).mono ?_; rintro _ _ ⟨rfl, _, rfl⟩) | (go_at_call 18; refine (Ext.step (pnconf_calls _)).mono ?_; rintro _ _ ⟨rfl, _, rfl⟩) | (go_at_call 20; refine (Ext.step (pnthread_calls _ _ _)).mono ?_; rintro _ _ ⟨rfl, _, rfl⟩) | (go_at_call 21; refine (Ext.step (pnofbag_calls _ _ _)).mono ?_; rintro _ _ ⟨rfl, _, rfl⟩) | (go_at_call 12; refine (Ext.step (pnactive_calls _ _)).mono ?_; rintro _ _ ⟨rfl, _, rfl⟩) | (go_at_call 13; refine (Ext.step (pnvictim_calls _ _)).mono ?_; rintro _ _ ⟨rfl, _, rfl⟩) | (go_at_call 14; refine (Ext.step (pnstamp_calls _ _)).mono ?_; rintro _ _ ⟨rfl, _, rfl⟩) | (go_at_call 15; refine (Ext.step (pnbag_calls _ _)).mono ?_; rintro _ _ ⟨rfl, _, rfl⟩) | (go_at_call 16; refine (Ext.step (pnnode_calls _ _)).mono ?_; rintro _ _ ⟨rfl, _, rfl⟩) | (go_at_call 19; refine (Ext.step (pnwhat_calls _ _)).mono ?_; rintro _ _ ⟨rfl, _, rfl⟩) | (go_at_call 7; refine (Ext.step (rmay_calls _ _ _ _)).mono ?_; rintro _ _ ⟨rfl, _, rfl⟩) | (go_at_call 9; refine (Ext.step (lives5_calls _)).mono ?_; rintro _ _ ⟨rfl, _, rfl⟩) | (with_reducible refine ext_region _ ?_ ?_ ?_; kernel_rfl; kernel_rfl; (repeat (go_big_quiet_step (first | (go_at_call 17; refine Ext.call (pnwords_calls _) <;> omega) | (go_at_call 18; refine Ext.call (pnconf_calls _) <;> omega) | (go_at_call 20; refine Ext.call (pnthread_calls _ _ _) <;> omega) | (go_at_call 21; refine Ext.call (pnofbag_calls _ _ _) <;> omega) | (go_at_call 12; refine Ext.call (pnactive_calls _ _) <;> omega) | (go_at_call 13; refine Ext.call (pnvictim_calls _ _) <;> omega) | (go_at_call 14; refine Ext.call (pnstamp_calls _ _) <;> omega) | (go_at_call 15; refine Ext.call (pnbag_calls _ _) <;> omega) | (go_at_call 16; refine Ext.call (pnnode_calls _ _) <;> omega) | (go_at_call 19; refine Ext.call (pnwhat_calls _ _) <;> omega) | (go_at_call 7; refine Ext.call (rmay_calls _ _ _ _) <;> omega) | (go_at_call 9; refine Ext.call (lives5_calls _) <;> omega)))); refine wpQuiet_nil ?_; rintro _ ⟨_, rfl⟩))
      go_ret
      exact ⟨by simp, Ext.below hBV _⟩
end Go.Proofs.Ytbigopldfoddkaa
