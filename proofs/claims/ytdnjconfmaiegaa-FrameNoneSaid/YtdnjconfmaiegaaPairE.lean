/- Layer 8's contracts that make rows, further. -/
import Derived.Test.YtdnjconfmaiegaaPairD
namespace Go.Proofs.Ytdnjconfmaiegaa
open Go.RowKit
set_option linter.unusedVariables false
set_option linter.unusedSimpArgs false

theorem rput_one (w : World) (k x : Int) (T : TypeId) : PR (w.alloc (.cells #[.int .i64 k, .int .i64 x] T)) (.slice (some ⟨w.heap.size, 0, none⟩) 1 1) [(k, x)] := PR.single
set_option maxHeartbeats 1000000 in
theorem rput (l : PL) (v : Value) (k x : Int) (w : World) (h : PR w v l) (hn : l.length ≤ 90000) :
    Calls Try.prog 24 #[v, .agg #[.int .i64 k, .int .i64 x]] w fun e w' => ∃ v', e = .returned (.tuple #[v', .bool (!hereB l k)]) ∧ PR w' v' (putL l (k, x)) ∧ Below w.heap.size w w' := by
  have H := Lib.hid h
  have hle := lbN_le l k
  refine Calls.veil fun Q HQ => ?_
  cases hh : hereB l k
  · have HPUT := Lib.hid (putL_new (p := (k, x)) hh)
    have HH := Lib.hid hh
    obtain ⟨r, hr2⟩ : ∃ r : Nat, r = lbN l k := ⟨_, rfl⟩
    rw [← hr2] at hle HPUT
    cases h with
    | nil =>
      have hr0 : r = 0 := by simpa using hle
      subst hr0
      clear hle hn
      have hn : ([] : PL).length ≤ 90000 := by simp
      go_enter Try.func24, Try.ntmps24
      have HRR := Lib.hid hr2
      clear hr2 hh
      go_wp2_with fail
      generalize hW : World.alloc w _ = W
      have hBW : Below w.heap.size w W := by rw [← hW]; (repeat (first | exact Below.refl _ _ | assumption | refine below_new ?_ _ | refine Below.drew ?_ | refine below_drewN ?_ _ | refine below_on ?_ (by assumption)))
      have hC : Cell2 W w.heap.size k x := by rw [← hW]; exact Cell2.new w k x _
      clear hW
      refine (rat _ _ k W (H.out.below hBW) (by omega)).mono ?_; rintro _ w1 ⟨rfl, hb1⟩
      rw [HH.out, ← HRR.out]
      have hC := hC.below hb1
      have hB1 := below_on hBW hb1
      clear hBW hb1
      have HB := Lib.hid hB1
      have HC := Lib.hid hC
      clear hC hB1
      go_wp2_with (at_builtin; refine wpList_append_pr rfl (.tmp 18) (.tmp 21) rfl w1.heap.size _ [] rfl (own_none w1) _ ([]) rfl ((.nil : PR w1 _ _).alloc _) (by simp <;> omega) (by simp) ?_)
      intro v1 w2 hown hg
      have hb2 := grow_step (W := w1) (own_none w1) (by (repeat (first | exact Below.refl _ _ | assumption | refine below_new ?_ _ | refine Below.drew ?_ | refine below_drewN ?_ _ | refine below_on ?_ (by assumption)))) (Nat.le_refl _) hg
      have HO := Lib.hid hown
      have hC2 := HC.out.below hb2
      have z0 := hC2.c0; have z1 := hC2.c1
      clear hown hg hC2
      go_wp2_with (at_builtin; refine wpList_append_pr rfl (.tmp 23) (.tmp 25) rfl w1.heap.size _ _ rfl (HO.out.alloc _) _ [(k, x)] rfl PR.single (by simp <;> omega) (by have := hb2.size; simp; omega) ?_)
      intro v2 w3 hown hg
      have hb3 := grow_step (W := w1) (HO.out.alloc _) (by exact hb2.alloc (by have := hb2.size; omega) _) (Nat.le_refl _) hg
      have HO2 := Lib.hid hown
      clear hown hg z0 z1
      go_wp2_with (at_builtin; refine wpList_append_pr rfl (.tmp 27) (.tmp 30) rfl w1.heap.size _ _ rfl HO2.out _ ([]) rfl ((.nil : PR w1 _ _).below hb3) (by simp <;> omega) (by have := hb3.size; omega) ?_)
      intro v3 w4 hown hg
      have hb4 := grow_step (W := w1) HO2.out hb3 (Nat.le_refl _) hg
      have HP := Lib.hid (own_PR hown)
      have HB4 := Lib.hid (below_on HB.out hb4)
      clear hown hg hb2 hb3 hb4
      go_wp2_with fail
      (try go_ret2)
      rw [HQ.out]
      exact ⟨v3, by first | rfl | (rw [HH.out]; rfl), by rw [HPUT.out]; simpa using HP.out, HB4.out⟩
    | odd ad c hc0 =>
      have hr0 : r = 0 := by simpa using hle
      subst hr0
      clear hle hn
      have hn : ([] : PL).length ≤ 90000 := by simp
      go_enter Try.func24, Try.ntmps24
      have HRR := Lib.hid hr2
      clear hr2 hh
      go_wp2_with fail
      generalize hW : World.alloc w _ = W
      have hBW : Below w.heap.size w W := by rw [← hW]; (repeat (first | exact Below.refl _ _ | assumption | refine below_new ?_ _ | refine Below.drew ?_ | refine below_drewN ?_ _ | refine below_on ?_ (by assumption)))
      have hC : Cell2 W w.heap.size k x := by rw [← hW]; exact Cell2.new w k x _
      clear hW
      refine (rat _ _ k W (H.out.below hBW) (by omega)).mono ?_; rintro _ w1 ⟨rfl, hb1⟩
      rw [HH.out, ← HRR.out]
      have hC := hC.below hb1
      have hB1 := below_on hBW hb1
      clear hBW hb1
      have HB := Lib.hid hB1
      have HC := Lib.hid hC
      clear hC hB1
      rcases (by omega : c = 0 ∨ 0 < c) with rfl | hrc
      · skip
        go_wp2_with (at_builtin; refine wpList_append_pr rfl (.tmp 18) (.tmp 21) rfl w1.heap.size _ [] rfl (own_none w1) _ ([]) rfl ((.odd _ _ (by omega) : PR w1 _ _).alloc _) (by simp <;> omega) (by simp) ?_)
        intro v1 w2 hown hg
        have hb2 := grow_step (W := w1) (own_none w1) (by (repeat (first | exact Below.refl _ _ | assumption | refine below_new ?_ _ | refine Below.drew ?_ | refine below_drewN ?_ _ | refine below_on ?_ (by assumption)))) (Nat.le_refl _) hg
        have HO := Lib.hid hown
        have hC2 := HC.out.below hb2
        have z0 := hC2.c0; have z1 := hC2.c1
        clear hown hg hC2
        go_wp2_with (at_builtin; refine wpList_append_pr rfl (.tmp 23) (.tmp 25) rfl w1.heap.size _ _ rfl (HO.out.alloc _) _ [(k, x)] rfl PR.single (by simp <;> omega) (by have := hb2.size; simp; omega) ?_)
        intro v2 w3 hown hg
        have hb3 := grow_step (W := w1) (HO.out.alloc _) (by exact hb2.alloc (by have := hb2.size; omega) _) (Nat.le_refl _) hg
        have HO2 := Lib.hid hown
        clear hown hg z0 z1
        go_wp2_with (at_builtin; refine wpList_append_pr rfl (.tmp 27) (.tmp 30) rfl w1.heap.size _ _ rfl HO2.out _ ([]) rfl ((.odd _ _ (by omega) : PR w1 _ _).below hb3) (by simp <;> omega) (by have := hb3.size; omega) ?_)
        intro v3 w4 hown hg
        have hb4 := grow_step (W := w1) HO2.out hb3 (Nat.le_refl _) hg
        have HP := Lib.hid (own_PR hown)
        have HB4 := Lib.hid (below_on HB.out hb4)
        clear hown hg hb2 hb3 hb4
        go_wp2_with fail
        (try go_ret2)
        rw [HQ.out]
        exact ⟨v3, by first | rfl | (rw [HH.out]; rfl), by rw [HPUT.out]; simpa using HP.out, HB4.out⟩
      · have hne : c ≠ 0 := by omega
        go_wp2_with (at_builtin; refine wpList_append_pr rfl (.tmp 18) (.tmp 21) rfl w1.heap.size _ [] rfl (own_none w1) _ ([]) rfl ((.odd _ _ (by omega) : PR w1 _ _).alloc _) (by simp <;> omega) (by simp) ?_)
        intro v1 w2 hown hg
        have hb2 := grow_step (W := w1) (own_none w1) (by (repeat (first | exact Below.refl _ _ | assumption | refine below_new ?_ _ | refine Below.drew ?_ | refine below_drewN ?_ _ | refine below_on ?_ (by assumption)))) (Nat.le_refl _) hg
        have HO := Lib.hid hown
        have hC2 := HC.out.below hb2
        have z0 := hC2.c0; have z1 := hC2.c1
        clear hown hg hC2
        go_wp2_with (at_builtin; refine wpList_append_pr rfl (.tmp 23) (.tmp 25) rfl w1.heap.size _ _ rfl (HO.out.alloc _) _ [(k, x)] rfl PR.single (by simp <;> omega) (by have := hb2.size; simp; omega) ?_)
        intro v2 w3 hown hg
        have hb3 := grow_step (W := w1) (HO.out.alloc _) (by exact hb2.alloc (by have := hb2.size; omega) _) (Nat.le_refl _) hg
        have HO2 := Lib.hid hown
        clear hown hg z0 z1
        go_wp2_with (at_builtin; refine wpList_append_pr rfl (.tmp 27) (.tmp 30) rfl w1.heap.size _ _ rfl HO2.out _ ([]) rfl ((.odd _ _ (by omega) : PR w1 _ _).below hb3) (by simp <;> omega) (by have := hb3.size; omega) ?_)
        intro v3 w4 hown hg
        have hb4 := grow_step (W := w1) HO2.out hb3 (Nat.le_refl _) hg
        have HP := Lib.hid (own_PR hown)
        have HB4 := Lib.hid (below_on HB.out hb4)
        clear hown hg hb2 hb3 hb4
        go_wp2_with fail
        (try go_ret2)
        rw [HQ.out]
        exact ⟨v3, by first | rfl | (rw [HH.out]; rfl), by rw [HPUT.out]; simpa using HP.out, HB4.out⟩
    | row g o c _ h1 h2 h3 =>
      clear h3
      go_enter Try.func24, Try.ntmps24
      have HRR := Lib.hid hr2
      clear hr2 hh
      go_wp2_with fail
      generalize hW : World.alloc w _ = W
      have hBW : Below w.heap.size w W := by rw [← hW]; (repeat (first | exact Below.refl _ _ | assumption | refine below_new ?_ _ | refine Below.drew ?_ | refine below_drewN ?_ _ | refine below_on ?_ (by assumption)))
      have hC : Cell2 W w.heap.size k x := by rw [← hW]; exact Cell2.new w k x _
      clear hW
      refine (rat _ _ k W (H.out.below hBW) (by omega)).mono ?_; rintro _ w1 ⟨rfl, hb1⟩
      rw [HH.out, ← HRR.out]
      have hC := hC.below hb1
      have hB1 := below_on hBW hb1
      clear hBW hb1
      have HB := Lib.hid hB1
      have HC := Lib.hid hC
      clear hC hB1
      rcases (by omega : r < c ∨ r = c) with hrc | hrc
      · have hne : c ≠ r := by omega
        go_wp2_with (at_builtin; refine wpList_append_pr rfl (.tmp 18) (.tmp 21) rfl w1.heap.size _ [] rfl (own_none w1) _ (l.take r) rfl ((((H.out.below HB.out).take hle) : PR w1 _ _).alloc _) (by simp <;> omega) (by simp) ?_)
        intro v1 w2 hown hg
        have hb2 := grow_step (W := w1) (own_none w1) (by (repeat (first | exact Below.refl _ _ | assumption | refine below_new ?_ _ | refine Below.drew ?_ | refine below_drewN ?_ _ | refine below_on ?_ (by assumption)))) (Nat.le_refl _) hg
        have HO := Lib.hid hown
        have hC2 := HC.out.below hb2
        have z0 := hC2.c0; have z1 := hC2.c1
        clear hown hg hC2
        go_wp2_with (at_builtin; refine wpList_append_pr rfl (.tmp 23) (.tmp 25) rfl w1.heap.size _ _ rfl (HO.out.alloc _) _ [(k, x)] rfl PR.single (by simp <;> omega) (by have := hb2.size; simp; omega) ?_)
        intro v2 w3 hown hg
        have hb3 := grow_step (W := w1) (HO.out.alloc _) (by exact hb2.alloc (by have := hb2.size; omega) _) (Nat.le_refl _) hg
        have HO2 := Lib.hid hown
        clear hown hg z0 z1
        go_wp2_with (at_builtin; refine wpList_append_pr rfl (.tmp 27) (.tmp 30) rfl w1.heap.size _ _ rfl HO2.out _ (l.drop r) rfl ((((H.out.below HB.out).drop hle) : PR w1 _ _).below hb3) (by simp <;> omega) (by have := hb3.size; omega) ?_)
        intro v3 w4 hown hg
        have hb4 := grow_step (W := w1) HO2.out hb3 (Nat.le_refl _) hg
        have HP := Lib.hid (own_PR hown)
        have HB4 := Lib.hid (below_on HB.out hb4)
        clear hown hg hb2 hb3 hb4
        go_wp2_with fail
        (try go_ret2)
        rw [HQ.out]
        exact ⟨v3, by first | rfl | (rw [HH.out]; rfl), by rw [HPUT.out]; simpa using HP.out, HB4.out⟩
      · have hlr : l.length = r := by omega
        have HLR := Lib.hid hlr
        subst hrc
        clear hlr
        go_wp2_with (at_builtin; refine wpList_append_pr rfl (.tmp 18) (.tmp 21) rfl w1.heap.size _ [] rfl (own_none w1) _ (l.take r) rfl ((((H.out.below HB.out).take hle) : PR w1 _ _).alloc _) (by simp <;> omega) (by simp) ?_)
        intro v1 w2 hown hg
        have hb2 := grow_step (W := w1) (own_none w1) (by (repeat (first | exact Below.refl _ _ | assumption | refine below_new ?_ _ | refine Below.drew ?_ | refine below_drewN ?_ _ | refine below_on ?_ (by assumption)))) (Nat.le_refl _) hg
        have HO := Lib.hid hown
        have hC2 := HC.out.below hb2
        have z0 := hC2.c0; have z1 := hC2.c1
        clear hown hg hC2
        go_wp2_with (at_builtin; refine wpList_append_pr rfl (.tmp 23) (.tmp 25) rfl w1.heap.size _ _ rfl (HO.out.alloc _) _ [(k, x)] rfl PR.single (by simp <;> omega) (by have := hb2.size; simp; omega) ?_)
        intro v2 w3 hown hg
        have hb3 := grow_step (W := w1) (HO.out.alloc _) (by exact hb2.alloc (by have := hb2.size; omega) _) (Nat.le_refl _) hg
        have HO2 := Lib.hid hown
        clear hown hg z0 z1
        go_wp2_with (at_builtin; refine wpList_append_pr rfl (.tmp 27) (.tmp 30) rfl w1.heap.size _ _ rfl HO2.out _ (l.drop l.length) rfl (((PR.drop_all (l := l) (by omega)) : PR w1 _ _).below hb3) (by simp <;> omega) (by have := hb3.size; omega) ?_)
        intro v3 w4 hown hg
        have hb4 := grow_step (W := w1) HO2.out hb3 (Nat.le_refl _) hg
        have HP := Lib.hid (own_PR hown)
        have HB4 := Lib.hid (below_on HB.out hb4)
        clear hown hg hb2 hb3 hb4
        go_wp2_with fail
        (try go_ret2)
        rw [HQ.out]
        exact ⟨v3, by first | rfl | (rw [HH.out]; rfl), by rw [HPUT.out]; (have := HP.out; rw [List.drop_eq_nil_of_le (show l.length ≤ r by have := HLR.out; omega)]; simpa using this), HB4.out⟩
  · have HPUT := Lib.hid (putL_old (p := (k, x)) hh)
    have HH := Lib.hid hh
    obtain ⟨p, c, rfl, _, _⟩ := h.slice
    clear h
    go_enter Try.func24, Try.ntmps24
    clear hh
    go_wp2_with fail
    generalize hW : World.alloc w _ = W
    have hBW : Below w.heap.size w W := by rw [← hW]; (repeat (first | exact Below.refl _ _ | assumption | refine below_new ?_ _ | refine Below.drew ?_ | refine below_drewN ?_ _ | refine below_on ?_ (by assumption)))
    have hC : Cell2 W w.heap.size k x := by rw [← hW]; exact Cell2.new w k x _
    clear hW
    refine (rat _ _ k W (H.out.below hBW) (by omega)).mono ?_; rintro _ w1 ⟨rfl, hb1⟩
    rw [HH.out]
    have hB1 := below_on hBW hb1
    clear hBW hb1 hC
    go_wp2_with fail
    (try go_ret2)
    rw [HQ.out]
    exact ⟨_, by first | rfl | (rw [HH.out]; rfl), by rw [HPUT.out]; exact H.out.below hB1, hB1⟩
end Go.Proofs.Ytdnjconfmaiegaa
