/- Layer 8's contracts that make rows, further. -/
import Derived.Test.YtkgfhomoipbjoaaDoorPairD
namespace Go.Proofs.YtkgfhomoipbjoaaDoor
open Go.RowKit
set_option linter.unusedVariables false
set_option linter.unusedSimpArgs false

theorem rput_one (w : World) (k x : Int) (T : TypeId) : PR (w.alloc (.cells #[.int .i64 k, .int .i64 x] T)) (.slice (some ⟨w.heap.size, 0, none⟩) 1 1) [(k, x)] := PR.single
set_option maxHeartbeats 1000000 in
theorem rput (l : PL) (v : Value) (k x : Int) (w : World) (h : PR w v l) (hn : l.length ≤ 90000) :
    Calls Tryd.prog 36 #[v, .agg #[.int .i64 k, .int .i64 x]] w fun e w' => ∃ v', e = .returned (.tuple #[v', .bool (!hereB l k)]) ∧ PR w' v' (putL l (k, x)) ∧ Below w.heap.size w w' := by
  have H := Lib.hid h
  have hle := lbN_le l k
  refine Calls.veil fun Q HQ => ?_
  cases hh : hereB l k
  · have HPUT := Lib.hid (putL_new (p := (k, x)) hh)
    have HH := Lib.hid hh
    obtain ⟨r, hr2⟩ : ∃ r : Nat, r = lbN l k := ⟨_, rfl⟩
    rw [← hr2] at hle HPUT
    cases h with
    | nil =>
      have hr0 : r = 0 := by simpa using hle
      subst hr0
      clear hle hn
      have hn : ([] : PL).length ≤ 90000 := by simp
      go_enter Tryd.func36, Tryd.ntmps36
      have HRR := Lib.hid hr2
      clear hr2 hh
      go_wp2_with fail
      generalize hW : World.alloc w _ = W
      have hBW : Below w.heap.size w W := by rw [← hW]; (repeat (first | exact Below.refl _ _ | assumption | refine below_new ?_ _ | refine Below.drew ?_ | refine below_drewN ?_ _ | refine below_on ?_ (by assumption)))
      have hC : Cell2 W w.heap.size k x := by rw [← hW]; exact Cell2.new w k x _
      clear hW
      refine (rat _ _ k W (H.out.below hBW) (by omega)).mono ?_; rintro _ w1 ⟨rfl, hb1⟩
      rw [HH.out, ← HRR.out]
      have hC := hC.below hb1
      have hB1 := below_on hBW hb1
      clear hBW hb1
      have HB := Lib.hid hB1
      have HC := Lib.hid hC
      clear hC hB1
      go_wp2_with (at_builtin; refine wpList_append_pr rfl (.tmp 18) (.tmp 21) rfl w1.heap.size _ [] rfl (own_none w1) _ ([]) rfl ((.nil : PR w1 _ _).alloc _) (by simp <;> omega) (by simp) ?_)
      intro v1 w2 hown hg
      have hb2 := grow_step (W := w1) (own_none w1) (by (repeat (first | exact Below.refl _ _ | assumption | refine below_new ?_ _ | refine Below.drew ?_ | refine below_drewN ?_ _ | refine below_on ?_ (by assumption)))) (Nat.le_refl _) hg
      have HO := Lib.hid hown
      have hC2 := HC.out.below hb2
      have z0 := hC2.c0; have z1 := hC2.c1
      clear hown hg hC2
      go_wp2_with (at_builtin; refine wpList_append_pr rfl (.tmp 23) (.tmp 25) rfl w1.heap.size _ _ rfl (HO.out.alloc _) _ [(k, x)] rfl PR.single (by simp <;> omega) (by have := hb2.size; simp; omega) ?_)
      intro v2 w3 hown hg
      have hb3 := grow_step (W := w1) (HO.out.alloc _) (by exact hb2.alloc (by have := hb2.size; omega) _) (Nat.le_refl _) hg
      have HO2 := Lib.hid hown
      clear hown hg z0 z1
      go_wp2_with (at_builtin; refine wpList_append_pr rfl (.tmp 27) (.tmp 30) rfl w1.heap.size _ _ rfl HO2.out _ ([]) rfl ((.nil : PR w1 _ _).below hb3) (by simp <;> omega) (by have := hb3.size; omega) ?_)
      intro v3 w4 hown hg
      have hb4 := grow_step (W := w1) HO2.out hb3 (Nat.le_refl _) hg
      have HP := Lib.hid (own_PR hown)
      have HB4 := Lib.hid (below_on HB.out hb4)
      clear hown hg hb2 hb3 hb4
      go_wp2_with fail
      (try go_ret2)
      rw [HQ.out]
      exact ⟨v3, by first | rfl | (rw [HH.out]; rfl), by rw [HPUT.out]; simpa using HP.out, HB4.out⟩
    | odd ad c hc0 =>
      have hr0 : r = 0 := by simpa using hle
      subst hr0
      clear hle hn
      have hn : ([] : PL).length ≤ 90000 := by simp
      go_enter Tryd.func36, Tryd.ntmps36
      have HRR := Lib.hid hr2
      clear hr2 hh
      go_wp2_with fail
      generalize hW : World.alloc w _ = W
      have hBW : Below w.heap.size w W := by rw [← hW]; (repeat (first | exact Below.refl _ _ | assumption | refine below_new ?_ _ | refine Below.drew ?_ | refine below_drewN ?_ _ | refine below_on ?_ (by assumption)))
      have hC : Cell2 W w.heap.size k x := by rw [← hW]; exact Cell2.new w k x _
      clear hW
      refine (rat _ _ k W (H.out.below hBW) (by omega)).mono ?_; rintro _ w1 ⟨rfl, hb1⟩
      rw [HH.out, ← HRR.out]
      have hC := hC.below hb1
      have hB1 := below_on hBW hb1
      clear hBW hb1
      have HB := Lib.hid hB1
      have HC := Lib.hid hC
      clear hC hB1
      rcases (by omega : c = 0 ∨ 0 < c) with rfl | hrc
      · skip
        go_wp2_with (at_builtin; refine wpList_append_pr rfl (.tmp 18) (.tmp 21) rfl w1.heap.size _ [] rfl (own_none w1) _ ([]) rfl ((.odd _ _ (by omega) : PR w1 _ _).alloc _) (by simp <;> omega) (by simp) ?_)
        intro v1 w2 hown hg
        have hb2 := grow_step (W := w1) (own_none w1) (by (repeat (first | exact Below.refl _ _ | assumption | refine below_new ?_ _ | refine Below.drew ?_ | refine below_drewN ?_ _ | refine below_on ?_ (by assumption)))) (Nat.le_refl _) hg
        have HO := Lib.hid hown
        have hC2 := HC.out.below hb2
        have z0 := hC2.c0; have z1 := hC2.c1
        clear hown hg hC2
        go_wp2_with (at_builtin; refine wpList_append_pr rfl (.tmp 23) (.tmp 25) rfl w1.heap.size _ _ rfl (HO.out.alloc _) _ [(k, x)] rfl PR.single (by simp <;> omega) (by have := hb2.size; simp; omega) ?_)
        intro v2 w3 hown hg
        have hb3 := grow_step (W := w1) (HO.out.alloc _) (by exact hb2.alloc (by have := hb2.size; omega) _) (Nat.le_refl _) hg
        have HO2 := Lib.hid hown
        clear hown hg z0 z1
        go_wp2_with (at_builtin; refine wpList_append_pr rfl (.tmp 27) (.tmp 30) rfl w1.heap.size _ _ rfl HO2.out _ ([]) rfl ((.odd _ _ (by omega) : PR w1 _ _).below hb3) (by simp <;> omega) (by have := hb3.size; omega) ?_)
        intro v3 w4 hown hg
        have hb4 := grow_step (W := w1) HO2.out hb3 (Nat.le_refl _) hg
        have HP := Lib.hid (own_PR hown)
        have HB4 := Lib.hid (below_on HB.out hb4)
        clear hown hg hb2 hb3 hb4
        go_wp2_with fail
        (try go_ret2)
        rw [HQ.out]
        exact ⟨v3, by first | rfl | (rw [HH.out]; rfl), by rw [HPUT.out]; simpa using HP.out, HB4.out⟩
      · have hne : c ≠ 0 := by omega
        go_wp2_with (at_builtin; refine wpList_append_pr rfl (.tmp 18) (.tmp 21) rfl w1.heap.size _ [] rfl (own_none w1) _ ([]) rfl ((.odd _ _ (by omega) : PR w1 _ _).alloc _) (by simp <;> omega) (by simp) ?_)
        intro v1 w2 hown hg
        have hb2 := grow_step (W := w1) (own_none w1) (by (repeat (first | exact Below.refl _ _ | assumption | refine below_new ?_ _ | refine Below.drew ?_ | refine below_drewN ?_ _ | refine below_on ?_ (by assumption)))) (Nat.le_refl _) hg
        have HO := Lib.hid hown
        have hC2 := HC.out.below hb2
        have z0 := hC2.c0; have z1 := hC2.c1
        clear hown hg hC2
        go_wp2_with (at_builtin; refine wpList_append_pr rfl (.tmp 23) (.tmp 25) rfl w1.heap.size _ _ rfl (HO.out.alloc _) _ [(k, x)] rfl PR.single (by simp <;> omega) (by have := hb2.size; simp; omega) ?_)
        intro v2 w3 hown hg
        have hb3 := grow_step (W := w1) (HO.out.alloc _) (by exact hb2.alloc (by have := hb2.size; omega) _) (Nat.le_refl _) hg
        have HO2 := Lib.hid hown
        clear hown hg z0 z1
        go_wp2_with (at_builtin; refine wpList_append_pr rfl (.tmp 27) (.tmp 30) rfl w1.heap.size _ _ rfl HO2.out _ ([]) rfl ((.odd _ _ (by omega) : PR w1 _ _).below hb3) (by simp <;> omega) (by have := hb3.size; omega) ?_)
        intro v3 w4 hown hg
        have hb4 := grow_step (W := w1) HO2.out hb3 (Nat.le_refl _) hg
        have HP := Lib.hid (own_PR hown)
        have HB4 := Lib.hid (below_on HB.out hb4)
        clear hown hg hb2 hb3 hb4
        go_wp2_with fail
        (try go_ret2)
        rw [HQ.out]
        exact ⟨v3, by first | rfl | (rw [HH.out]; rfl), by rw [HPUT.out]; simpa using HP.out, HB4.out⟩
    | row g o c _ h1 h2 h3 =>
      clear h3
      go_enter Tryd.func36, Tryd.ntmps36
      have HRR := Lib.hid hr2
      clear hr2 hh
      go_wp2_with fail
      generalize hW : World.alloc w _ = W
      have hBW : Below w.heap.size w W := by rw [← hW]; (repeat (first | exact Below.refl _ _ | assumption | refine below_new ?_ _ | refine Below.drew ?_ | refine below_drewN ?_ _ | refine below_on ?_ (by assumption)))
      have hC : Cell2 W w.heap.size k x := by rw [← hW]; exact Cell2.new w k x _
      clear hW
      refine (rat _ _ k W (H.out.below hBW) (by omega)).mono ?_; rintro _ w1 ⟨rfl, hb1⟩
      rw [HH.out, ← HRR.out]
      have hC := hC.below hb1
      have hB1 := below_on hBW hb1
      clear hBW hb1
      have HB := Lib.hid hB1
      have HC := Lib.hid hC
      clear hC hB1
      rcases (by omega : r < c ∨ r = c) with hrc | hrc
      · have hne : c ≠ r := by omega
        go_wp2_with (at_builtin; refine wpList_append_pr rfl (.tmp 18) (.tmp 21) rfl w1.heap.size _ [] rfl (own_none w1) _ (l.take r) rfl ((((H.out.below HB.out).take hle) : PR w1 _ _).alloc _) (by simp <;> omega) (by simp) ?_)
        intro v1 w2 hown hg
        have hb2 := grow_step (W := w1) (own_none w1) (by (repeat (first | exact Below.refl _ _ | assumption | refine below_new ?_ _ | refine Below.drew ?_ | refine below_drewN ?_ _ | refine below_on ?_ (by assumption)))) (Nat.le_refl _) hg
        have HO := Lib.hid hown
        have hC2 := HC.out.below hb2
        have z0 := hC2.c0; have z1 := hC2.c1
        clear hown hg hC2
        go_wp2_with (at_builtin; refine wpList_append_pr rfl (.tmp 23) (.tmp 25) rfl w1.heap.size _ _ rfl (HO.out.alloc _) _ [(k, x)] rfl PR.single (by simp <;> omega) (by have := hb2.size; simp; omega) ?_)
        intro v2 w3 hown hg
        have hb3 := grow_step (W := w1) (HO.out.alloc _) (by exact hb2.alloc (by have := hb2.size; omega) _) (Nat.le_refl _) hg
        have HO2 := Lib.hid hown
        clear hown hg z0 z1
        go_wp2_with (at_builtin; refine wpList_append_pr rfl (.tmp 27) (.tmp 30) rfl w1.heap.size _ _ rfl HO2.out _ (l.drop r) rfl ((((H.out.below HB.out).drop hle) : PR w1 _ _).below hb3) (by simp <;> omega) (by have := hb3.size; omega) ?_)
        intro v3 w4 hown hg
        have hb4 := grow_step (W := w1) HO2.out hb3 (Nat.le_refl _) hg
        have HP := Lib.hid (own_PR hown)
        have HB4 := Lib.hid (below_on HB.out hb4)
        clear hown hg hb2 hb3 hb4
        go_wp2_with fail
        (try go_ret2)
        rw [HQ.out]
        exact ⟨v3, by first | rfl | (rw [HH.out]; rfl), by rw [HPUT.out]; simpa using HP.out, HB4.out⟩
      · have hlr : l.length = r := by omega
        have HLR := Lib.hid hlr
        subst hrc
        clear hlr
        go_wp2_with (at_builtin; refine wpList_append_pr rfl (.tmp 18) (.tmp 21) rfl w1.heap.size _ [] rfl (own_none w1) _ (l.take r) rfl ((((H.out.below HB.out).take hle) : PR w1 _ _).alloc _) (by simp <;> omega) (by simp) ?_)
        intro v1 w2 hown hg
        have hb2 := grow_step (W := w1) (own_none w1) (by (repeat (first | exact Below.refl _ _ | assumption | refine below_new ?_ _ | refine Below.drew ?_ | refine below_drewN ?_ _ | refine below_on ?_ (by assumption)))) (Nat.le_refl _) hg
        have HO := Lib.hid hown
        have hC2 := HC.out.below hb2
        have z0 := hC2.c0; have z1 := hC2.c1
        clear hown hg hC2
        go_wp2_with (at_builtin; refine wpList_append_pr rfl (.tmp 23) (.tmp 25) rfl w1.heap.size _ _ rfl (HO.out.alloc _) _ [(k, x)] rfl PR.single (by simp <;> omega) (by have := hb2.size; simp; omega) ?_)
        intro v2 w3 hown hg
        have hb3 := grow_step (W := w1) (HO.out.alloc _) (by exact hb2.alloc (by have := hb2.size; omega) _) (Nat.le_refl _) hg
        have HO2 := Lib.hid hown
        clear hown hg z0 z1
        go_wp2_with (at_builtin; refine wpList_append_pr rfl (.tmp 27) (.tmp 30) rfl w1.heap.size _ _ rfl HO2.out _ (l.drop l.length) rfl (((PR.drop_all (l := l) (by omega)) : PR w1 _ _).below hb3) (by simp <;> omega) (by have := hb3.size; omega) ?_)
        intro v3 w4 hown hg
        have hb4 := grow_step (W := w1) HO2.out hb3 (Nat.le_refl _) hg
        have HP := Lib.hid (own_PR hown)
        have HB4 := Lib.hid (below_on HB.out hb4)
        clear hown hg hb2 hb3 hb4
        go_wp2_with fail
        (try go_ret2)
        rw [HQ.out]
        exact ⟨v3, by first | rfl | (rw [HH.out]; rfl), by rw [HPUT.out]; (have := HP.out; rw [List.drop_eq_nil_of_le (show l.length ≤ r by have := HLR.out; omega)]; simpa using this), HB4.out⟩
  · have HPUT := Lib.hid (putL_old (p := (k, x)) hh)
    have HH := Lib.hid hh
    obtain ⟨p, c, rfl, _, _⟩ := h.slice
    clear h
    go_enter Tryd.func36, Tryd.ntmps36
    clear hh
    go_wp2_with fail
    generalize hW : World.alloc w _ = W
    have hBW : Below w.heap.size w W := by rw [← hW]; (repeat (first | exact Below.refl _ _ | assumption | refine below_new ?_ _ | refine Below.drew ?_ | refine below_drewN ?_ _ | refine below_on ?_ (by assumption)))
    have hC : Cell2 W w.heap.size k x := by rw [← hW]; exact Cell2.new w k x _
    clear hW
    refine (rat _ _ k W (H.out.below hBW) (by omega)).mono ?_; rintro _ w1 ⟨rfl, hb1⟩
    rw [HH.out]
    have hB1 := below_on hBW hb1
    clear hBW hb1 hC
    go_wp2_with fail
    (try go_ret2)
    rw [HQ.out]
    exact ⟨_, by first | rfl | (rw [HH.out]; rfl), by rw [HPUT.out]; exact H.out.below hB1, hB1⟩
set_option maxHeartbeats 1000000 in
theorem rdrop (l : PL) (v : Value) (k : Int) (w : World) (h : PR w v l) (hr : riseB l = true) (hn : l.length ≤ 90000) :
    Calls Tryd.prog 37 #[v, .int .i64 k] w fun e w' => ∃ v', e = .returned (.tuple #[v', .bool (hereB l k)]) ∧ PR w' v' (dropL l k) ∧ Below w.heap.size w w' := by
  have H := Lib.hid h
  have hle := lbN_le l k
  refine Calls.veil fun Q HQ => ?_
  cases hh : hereB l k
  · have HPUT := Lib.hid (dropL_not hh)
    have HH := Lib.hid hh
    obtain ⟨p, c, rfl, _, _⟩ := h.slice
    clear h hr
    go_enter Tryd.func37, Tryd.ntmps37
    clear hh
    go_wp2_with fail
    refine (rat _ _ k w H.out (by omega)).mono ?_; rintro _ w1 ⟨rfl, hb1⟩
    rw [HH.out]
    go_wp2_with fail
    (try go_ret2)
    rw [HQ.out]
    exact ⟨_, by first | rfl | (rw [HH.out]; rfl), by rw [HPUT.out]; exact H.out.below hb1, hb1⟩
  · have HPUT := Lib.hid (dropL_here hh)
    have HH := Lib.hid hh
    have hlt : lbN l k < l.length := by
      have := here_at hr k
      rw [hh] at this
      have := this.symm
      simp only [Bool.and_eq_true, decide_eq_true_eq] at this
      exact this.1
    obtain ⟨r, hr2⟩ : ∃ r : Nat, r = lbN l k := ⟨_, rfl⟩
    rw [← hr2] at hle hlt HPUT
    clear hr
    cases h with
    | nil => simp at hlt
    | odd a c _ => simp at hlt
    | row g o c _ h1 h2 h3 =>
      clear h3
      go_enter Tryd.func37, Tryd.ntmps37
      have HRR := Lib.hid hr2
      clear hr2 hh
      go_wp2_with fail
      refine (rat _ _ k w H.out (by omega)).mono ?_; rintro _ w1 ⟨rfl, hb1⟩
      rw [HH.out, ← HRR.out]
      have HB := Lib.hid hb1
      clear hb1
      rcases (by omega : r + 1 < c ∨ r + 1 = c) with hrc | hrc
      · have hne : c ≠ r + 1 := by omega
        go_wp2_with (at_builtin; refine wpList_append_pr rfl (.tmp 18) (.tmp 21) rfl w1.heap.size _ [] rfl (own_none w1) _ (l.take r) rfl ((((H.out.below HB.out).take hle) : PR w1 _ _).alloc _) (by simp <;> omega) (by simp) ?_)
        intro v1 w2 hown hg
        have hb2 := grow_step (W := w1) (own_none w1) (by (repeat (first | exact Below.refl _ _ | assumption | refine below_new ?_ _ | refine Below.drew ?_ | refine below_drewN ?_ _ | refine below_on ?_ (by assumption)))) (Nat.le_refl _) hg
        have HO := Lib.hid hown
        clear hown hg
        go_wp2_with (at_builtin; refine wpList_append_pr rfl (.tmp 23) (.tmp 27) rfl w1.heap.size _ _ rfl HO.out _ (l.drop (r + 1)) rfl ((((H.out.below HB.out).drop (r := r + 1) hlt) : PR w1 _ _).below hb2) (by simp <;> omega) (by have := hb2.size; omega) ?_)
        intro v3 w4 hown hg
        have hb4 := grow_step (W := w1) HO.out hb2 (Nat.le_refl _) hg
        have HP := Lib.hid (own_PR hown)
        have HB4 := Lib.hid (below_on HB.out hb4)
        clear hown hg hb2 hb4
        go_wp2_with fail
        (try go_ret2)
        rw [HQ.out]
        exact ⟨v3, by first | rfl | (rw [HH.out]; rfl), by rw [HPUT.out]; simpa using HP.out, HB4.out⟩
      · have hlr : l.length = r + 1 := by omega
        have HLR := Lib.hid hlr
        subst hrc
        clear hlr
        go_wp2_with (at_builtin; refine wpList_append_pr rfl (.tmp 18) (.tmp 21) rfl w1.heap.size _ [] rfl (own_none w1) _ (l.take r) rfl ((((H.out.below HB.out).take hle) : PR w1 _ _).alloc _) (by simp <;> omega) (by simp) ?_)
        intro v1 w2 hown hg
        have hb2 := grow_step (W := w1) (own_none w1) (by (repeat (first | exact Below.refl _ _ | assumption | refine below_new ?_ _ | refine Below.drew ?_ | refine below_drewN ?_ _ | refine below_on ?_ (by assumption)))) (Nat.le_refl _) hg
        have HO := Lib.hid hown
        clear hown hg
        go_wp2_with (at_builtin; refine wpList_append_pr rfl (.tmp 23) (.tmp 27) rfl w1.heap.size _ _ rfl HO.out _ (l.drop l.length) rfl (((PR.drop_all (l := l) (by omega)) : PR w1 _ _).below hb2) (by simp <;> omega) (by have := hb2.size; omega) ?_)
        intro v3 w4 hown hg
        have hb4 := grow_step (W := w1) HO.out hb2 (Nat.le_refl _) hg
        have HP := Lib.hid (own_PR hown)
        have HB4 := Lib.hid (below_on HB.out hb4)
        clear hown hg hb2 hb4
        go_wp2_with fail
        (try go_ret2)
        rw [HQ.out]
        exact ⟨v3, by first | rfl | (rw [HH.out]; rfl), by rw [HPUT.out]; (have := HP.out; rw [List.drop_eq_nil_of_le (show l.length ≤ r + 1 by have := HLR.out; omega)]; simpa using this), HB4.out⟩
theorem drop_end (w1 : World) (v0 v2 : Value) (l0 l2 : PL) (T' : TypeId) (p0 : PR w1 v0 l0) (p2 : PR w1 v2 l2) (hl : l0.length ≤ 100000 ∧ l2.length ≤ 100000) :
    Calls Tryd.prog 54 #[.slice (some ⟨w1.heap.size, 0, none⟩) 2 2] (w1.drew.alloc (.cells #[v0, v2] T')) fun e w' => ∃ v', e = .returned v' ∧ PR w' v' (l0 ++ l2) ∧ Below w1.heap.size w1 w' := by
  have hd : Below w1.heap.size w1 w1.drew := (Below.refl _ _).drew
  refine (pjoin2 2 _ v0 v2 l0 l2 _ (by omega) (by omega) (Ext.made_in (w := w1.drew) rfl (Below.refl _ _) 0 _ rfl) (Ext.made_in (w := w1.drew) rfl (Below.refl _ _) 1 _ rfl) ((p0.below hd).alloc _) ((p2.below hd).alloc _) hl).mono ?_
  rintro _ w' ⟨v', rfl, h1, h2⟩
  exact ⟨v', rfl, h1, below_on (below_new hd _) h2⟩
set_option maxHeartbeats 1000000 in
theorem pdrop (l : PL) (v : Value) (k : Int) (w : World) (h : PR w v l) (hr : riseB l = true) (hn : l.length ≤ 90000) :
    Calls Tryd.prog 45 #[v, .int .i64 k] w fun e w' => ∃ v', e = .returned (.tuple #[v', .bool (hereB l k)]) ∧ PR w' v' (dropL l k) ∧ Below w.heap.size w w' := by
  have H := Lib.hid h; have HR := Lib.hid hr
  have hle := lbN_le l k
  refine Calls.veil fun Q HQ => ?_
  cases hh : hereB l k
  · have HPUT := Lib.hid (dropL_not hh)
    have HH := Lib.hid hh
    obtain ⟨p, c, rfl, _, _⟩ := h.slice
    clear h hr
    go_enter Tryd.func45, Tryd.ntmps45
    clear hh
    go_wp2_with fail
    refine (pfind _ _ k w H.out HR.out (by omega)).mono ?_; rintro _ w1 ⟨rfl, hb1⟩
    rw [HH.out]
    go_wp2_with fail
    refine (pclone l _ w1 (H.out.below hb1) (by omega)).mono ?_; rintro _ w2 ⟨v', rfl, hP, hb2⟩
    have HP := Lib.hid hP
    have hB2 := below_on hb1 hb2
    clear hP
    go_wp2_with fail
    (try go_ret2)
    rw [HQ.out]
    exact ⟨v', by first | rfl | (rw [HH.out]; rfl), by rw [HPUT.out]; exact HP.out, hB2⟩
  · have HPUT := Lib.hid (dropL_here hh)
    have HH := Lib.hid hh
    have hlt : lbN l k < l.length := by
      have := here_at hr k
      rw [hh] at this
      have := this.symm
      simp only [Bool.and_eq_true, decide_eq_true_eq] at this
      exact this.1
    obtain ⟨r, hr2⟩ : ∃ r : Nat, r = lbN l k := ⟨_, rfl⟩
    rw [← hr2] at hle hlt HPUT
    clear hr
    cases h with
    | nil => simp at hlt
    | odd a c _ => simp at hlt
    | row g o c _ h1 h2 h3 =>
      clear h3
      go_enter Tryd.func45, Tryd.ntmps45
      have HRR := Lib.hid hr2
      clear hr2 hh
      go_wp2_with fail
      refine (pfind _ _ k w H.out HR.out (by omega)).mono ?_; rintro _ w1 ⟨rfl, hb1⟩
      rw [HH.out, ← HRR.out]
      have HB := Lib.hid hb1
      clear hb1
      go_wp2_with fail
      have hA : IntKind.i64.wrap ((r : Int) + 1) = ((r + 1 : Nat) : Int) := by rw [show ((r + 1 : Nat) : Int) = (r : Int) + 1 by omega]; exact IntWalk.i64_in _ (by omega)
      rcases (by omega : r + 1 < c ∨ r + 1 = c) with hrc | hrc
      · have hne : c ≠ r + 1 := by omega
        (with_reducible refine wp_region_mix (fun w' => ∃ y : Ext w1, w' = y.w) ?_ ?_ ?_ ?_; kernel_rfl; kernel_rfl; exact ⟨⟨w1.drew, (Below.refl _ _).drew⟩, rfl⟩)
        repeat (first | ((with_reducible refine mix_plain (by kernel_rfl) ?_); (first | go_big_quiet_skip | (go_big_quiet_want; go_big_quiet_op; go_big_quiet_on)); (with_reducible refine mix_on ?_)) | ((with_reducible refine mix_skip (by kernel_rfl) ?_); go_big_quiet_skip; (with_reducible refine mix_on ?_)))
        ((with_reducible refine wpMix_chain (by kernel_rfl) (by kernel_rfl) (fun K HK => ?_)); go_step)
        refine HK.out _ _ ⟨⟨_, by (repeat (first | exact Below.refl _ _ | assumption | refine below_new ?_ _ | refine Below.drew ?_ | refine below_drewN ?_ _ | refine below_on ?_ (by assumption)))⟩, rfl⟩ ?_
        clear HK K
        repeat (first | ((with_reducible refine mix_plain (by kernel_rfl) ?_); (first | go_big_quiet_skip | (go_big_quiet_want; go_big_quiet_op; go_big_quiet_on)); (with_reducible refine mix_on ?_)) | ((with_reducible refine mix_skip (by kernel_rfl) ?_); go_big_quiet_skip; (with_reducible refine mix_on ?_)))
        ((with_reducible refine wpMix_chain (by kernel_rfl) (by kernel_rfl) (fun K HK => ?_)); go_step)
        refine (drop_end w1 _ _ _ _ _ ((H.out.below HB.out).take hle) ((H.out.below HB.out).drop (r := r + 1) hlt) ⟨by simp <;> omega, by simp <;> omega⟩).mono ?_; rintro _ w2 ⟨v', rfl, hP, hb2⟩
        have HP := Lib.hid hP
        refine HK.out _ _ ⟨⟨w2, hb2⟩, rfl⟩ ?_
        have hB := Lib.hid (below_on HB.out hb2)
        clear HK K hP hb2 hA
        repeat (first | ((with_reducible refine mix_plain (by kernel_rfl) ?_); (first | go_big_quiet_skip | (go_big_quiet_want; go_big_quiet_op; go_big_quiet_on)); (with_reducible refine mix_on ?_)) | ((with_reducible refine mix_skip (by kernel_rfl) ?_); go_big_quiet_skip; (with_reducible refine mix_on ?_)))
        refine wpMix_nil ?_
        go_wp2_with fail
        (try go_ret2)
        rw [HQ.out]
        exact ⟨v', by first | rfl | (rw [HH.out]; rfl), by rw [HPUT.out]; simpa using HP.out, hB.out⟩
      · have hlr : l.length = r + 1 := by omega
        have HLR := Lib.hid hlr
        subst hrc
        clear hlr
        (with_reducible refine wp_region_mix (fun w' => ∃ y : Ext w1, w' = y.w) ?_ ?_ ?_ ?_; kernel_rfl; kernel_rfl; exact ⟨⟨w1.drew, (Below.refl _ _).drew⟩, rfl⟩)
        repeat (first | ((with_reducible refine mix_plain (by kernel_rfl) ?_); (first | go_big_quiet_skip | (go_big_quiet_want; go_big_quiet_op; go_big_quiet_on)); (with_reducible refine mix_on ?_)) | ((with_reducible refine mix_skip (by kernel_rfl) ?_); go_big_quiet_skip; (with_reducible refine mix_on ?_)))
        ((with_reducible refine wpMix_chain (by kernel_rfl) (by kernel_rfl) (fun K HK => ?_)); go_step)
        refine HK.out _ _ ⟨⟨_, by (repeat (first | exact Below.refl _ _ | assumption | refine below_new ?_ _ | refine Below.drew ?_ | refine below_drewN ?_ _ | refine below_on ?_ (by assumption)))⟩, rfl⟩ ?_
        clear HK K
        repeat (first | ((with_reducible refine mix_plain (by kernel_rfl) ?_); (first | go_big_quiet_skip | (go_big_quiet_want; go_big_quiet_op; go_big_quiet_on)); (with_reducible refine mix_on ?_)) | ((with_reducible refine mix_skip (by kernel_rfl) ?_); go_big_quiet_skip; (with_reducible refine mix_on ?_)))
        ((with_reducible refine wpMix_chain (by kernel_rfl) (by kernel_rfl) (fun K HK => ?_)); go_step)
        refine (drop_end w1 _ _ _ _ _ ((H.out.below HB.out).take hle) (PR.drop_all (l := l) (by omega)) ⟨by simp <;> omega, by simp <;> omega⟩).mono ?_; rintro _ w2 ⟨v', rfl, hP, hb2⟩
        have HP := Lib.hid hP
        refine HK.out _ _ ⟨⟨w2, hb2⟩, rfl⟩ ?_
        have hB := Lib.hid (below_on HB.out hb2)
        clear HK K hP hb2 hA
        repeat (first | ((with_reducible refine mix_plain (by kernel_rfl) ?_); (first | go_big_quiet_skip | (go_big_quiet_want; go_big_quiet_op; go_big_quiet_on)); (with_reducible refine mix_on ?_)) | ((with_reducible refine mix_skip (by kernel_rfl) ?_); go_big_quiet_skip; (with_reducible refine mix_on ?_)))
        refine wpMix_nil ?_
        go_wp2_with fail
        (try go_ret2)
        rw [HQ.out]
        exact ⟨v', by first | rfl | (rw [HH.out]; rfl), by rw [HPUT.out]; (have := HP.out; rw [HLR.out] at this; simpa using this), hB.out⟩
end Go.Proofs.YtkgfhomoipbjoaaDoor
