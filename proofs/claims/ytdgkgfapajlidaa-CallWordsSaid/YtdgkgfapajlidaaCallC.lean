/- Layer 9's contracts: which answers fit. -/
import Derived.Test.YtdgkgfapajlidaaCallB
namespace Go.Proofs.Ytdgkgfapajlidaa
open Go.RowKit
set_option linter.unusedVariables false
set_option linter.unusedSimpArgs false

def keyB (op key ak : Int) : Bool := decide (((op = 1 ∨ op = 2) → ak = key) ∧ (op = 7 → ak ≤ key) ∧ (op = 8 → key ≤ ak))
def listB (lo hi limit : Int) (l : PL) : Bool := riseB l && decide ((l.length : Int) ≤ limit) && decide (l = [] ∨ (lo ≤ ky l 0 ∧ ky l (l.length - 1) ≤ hi))
def fieldsB (op key hi limit k ak n : Int) (l : PL) : Bool := if k = 1 then keyB op key ak else if k = 2 then decide (0 ≤ n) else if k = 3 then listB key hi limit l else true
def fitsB (op key hi limit k ak av n : Int) (l : PL) : Bool := toldB k ak av n l && (decide (k = 8) || (mayB op key hi limit && kindB op k && fieldsB op key hi limit k ak n l))
def withinB (l : PL) (lo hi : Int) : Bool := decide (∀ i, i < l.length → lo ≤ ky l i ∧ ky l i ≤ hi) && riseB l

theorem within_list (l : PL) (lo hi : Int) : withinB l lo hi = (riseB l && decide (l = [] ∨ (lo ≤ ky l 0 ∧ ky l (l.length - 1) ≤ hi))) := by
  unfold withinB
  cases hr : riseB l
  · simp
  · rw [Bool.and_true, Bool.true_and]
    refine decide_eq_decide.2 ⟨fun h => ?_, fun h i hi => ?_⟩
    · rcases Nat.eq_zero_or_pos l.length with h0 | h0
      · exact .inl (List.eq_nil_of_length_eq_zero h0)
      · exact .inr ⟨(h 0 h0).1, (h (l.length - 1) (by omega)).2⟩
    · rcases h with rfl | ⟨h1, h2⟩
      · simp at hi
      · constructor
        · rcases Nat.eq_zero_or_pos i with rfl | h0
          · exact h1
          · have := rise_lt hr h0 hi; omega
        · rcases (by omega : i = l.length - 1 ∨ i < l.length - 1) with rfl | h0
          · exact h2
          · have := rise_lt hr h0 (show l.length - 1 < l.length by omega); omega

set_option maxHeartbeats 1000000 in
theorem ckey (op key val hi limit ak : Int) (w : World) :
    Calls Try.prog 28 #[callV op key val hi limit, .int .i64 ak] w fun e w' => e = .returned (.bool (keyB op key ak)) ∧ Below w.heap.size w w' := by
  refine Calls.veil fun Q HQ => ?_
  rcases (by omega : op = 1 ∨ op = 2 ∨ op = 7 ∨ op = 8 ∨ (op ≠ 1 ∧ op ≠ 2 ∧ op ≠ 7 ∧ op ≠ 8)) with rfl | rfl | rfl | rfl | ⟨n1, n2, n7, n8⟩
  · cases he : (ak == key)
    all_goals
      have HE := Lib.hid he
      go_enter Try.func28, Try.ntmps28
      go_wp2_with fail
      (try go_ret)
      rw [HQ.out]
      have he := HE.out
      simp only [beq_iff_eq, beq_eq_false_iff_ne] at he
      exact ⟨ret_bool (by first | exact (decide_eq_true (by omega)).symm | exact (decide_eq_false (by omega)).symm), by (repeat (first | exact Below.refl _ _ | assumption | refine below_new ?_ _ | refine Below.drew ?_ | refine below_drewN ?_ _ | refine below_on ?_ (by assumption)))⟩
  · cases he : (ak == key)
    all_goals
      have HE := Lib.hid he
      go_enter Try.func28, Try.ntmps28
      go_wp2_with fail
      (try go_ret)
      rw [HQ.out]
      have he := HE.out
      simp only [beq_iff_eq, beq_eq_false_iff_ne] at he
      exact ⟨ret_bool (by first | exact (decide_eq_true (by omega)).symm | exact (decide_eq_false (by omega)).symm), by (repeat (first | exact Below.refl _ _ | assumption | refine below_new ?_ _ | refine Below.drew ?_ | refine below_drewN ?_ _ | refine below_on ?_ (by assumption)))⟩
  · rcases (by omega : ak ≤ key ∨ key < ak) with h1 | h1
    all_goals
      go_enter Try.func28, Try.ntmps28
      go_wp2_with fail
      (try go_ret)
      rw [HQ.out]
      exact ⟨ret_bool (by first | exact (decide_eq_true (by omega)).symm | exact (decide_eq_false (by omega)).symm | exact decide_eq_decide.2 (by omega)), by (repeat (first | exact Below.refl _ _ | assumption | refine below_new ?_ _ | refine Below.drew ?_ | refine below_drewN ?_ _ | refine below_on ?_ (by assumption)))⟩
  · rcases (by omega : key ≤ ak ∨ ak < key) with h1 | h1
    all_goals
      go_enter Try.func28, Try.ntmps28
      go_wp2_with fail
      (try go_ret)
      rw [HQ.out]
      exact ⟨ret_bool (by first | exact (decide_eq_true (by omega)).symm | exact (decide_eq_false (by omega)).symm | exact decide_eq_decide.2 (by omega)), by (repeat (first | exact Below.refl _ _ | assumption | refine below_new ?_ _ | refine Below.drew ?_ | refine below_drewN ?_ _ | refine below_on ?_ (by assumption)))⟩
  · have z1 := neq_b n1; have z2 := neq_b n2; have z7 := neq_b n7; have z8 := neq_b n8
    have HK : Hid (keyB op key ak = true) := Lib.hid (decide_eq_true (by omega))
    clear n1 n2 n7 n8
    go_enter Try.func28, Try.ntmps28
    go_wp2_with fail
    (try go_ret)
    rw [HQ.out, HK.out]
    exact ⟨ret_bool rfl, by (repeat (first | exact Below.refl _ _ | assumption | refine below_new ?_ _ | refine Below.drew ?_ | refine below_drewN ?_ _ | refine below_on ?_ (by assumption)))⟩
set_option maxHeartbeats 1000000 in
theorem clist (op key val hi limit : Int) (v : Value) (l : PL) (w : World) (h : PR w v l) (hn : l.length ≤ 100000) :
    Calls Try.prog 29 #[callV op key val hi limit, v] w fun e w' => e = .returned (.bool (listB key hi limit l)) ∧ Below w.heap.size w w' := by
  have HP := Lib.hid h
  refine Calls.veil fun Q HQ => ?_
  cases hr : riseB l
  · obtain ⟨p, c, rfl, _, _⟩ := h.slice
    clear h
    have HR := Lib.hid hr
    have HL := Lib.hid (show listB key hi limit l = false by unfold listB; rw [hr]; rfl)
    clear hr
    go_enter Try.func29, Try.ntmps29
    go_wp2_with fail
    refine (prises l _ _ (HP.out.alloc _) hn).mono ?_; rintro _ w1 ⟨rfl, hb⟩
    rw [HR.out]
    have hb := below_on (below_new (Below.refl w.heap.size w) _) hb
    go_wp2_with fail
    (try go_ret)
    rw [HQ.out, HL.out]
    exact ⟨ret_bool rfl, hb⟩
  · have HR := Lib.hid hr
    rcases (by omega : limit < (l.length : Int) ∨ (l.length : Int) ≤ limit) with hl | hl
    · obtain ⟨p, c, rfl, _, _⟩ := h.slice
      clear h
      have HL := Lib.hid (show listB key hi limit l = false by unfold listB; rw [decide_eq_false (show ¬ ((l.length : Int) ≤ limit) by omega)]; simp)
      clear hr
      go_enter Try.func29, Try.ntmps29
      go_wp2_with fail
      generalize hW : World.alloc w _ = W
      have hBW : Below w.heap.size w W := by rw [← hW]; (repeat (first | exact Below.refl _ _ | assumption | refine below_new ?_ _ | refine Below.drew ?_ | refine below_drewN ?_ _ | refine below_on ?_ (by assumption)))
      have c4 : W.cell? ⟨w.heap.size, 4, none⟩ = some (.int .i64 limit) := Ext.made_in hW (Below.refl _ _) 4 _ rfl
      clear hW
      refine (prises l _ W (HP.out.below hBW) hn).mono ?_; rintro _ w1 ⟨rfl, hb⟩
      rw [HR.out]
      have c4 := Ext.cell ⟨w1, hb⟩ c4
      simp only at c4
      have hb := below_on hBW hb
      go_wp2_with fail
      (try go_ret)
      rw [HQ.out, HL.out]
      exact ⟨ret_bool rfl, hb⟩
    · rcases Nat.eq_zero_or_pos l.length with h0 | h0
      · have e : l = [] := List.eq_nil_of_length_eq_zero h0
        subst e
        obtain ⟨p, c, rfl, _, _⟩ := h.slice
        have HL := Lib.hid (show listB key hi limit [] = true by unfold listB; rw [hr, decide_eq_true hl]; simp)
        clear h h0
        show Calls _ _ #[_, .slice p 0 c] _ _
        clear hr
        go_enter Try.func29, Try.ntmps29
        go_wp2_with fail
        generalize hW : World.alloc w _ = W
        have hBW : Below w.heap.size w W := by rw [← hW]; (repeat (first | exact Below.refl _ _ | assumption | refine below_new ?_ _ | refine Below.drew ?_ | refine below_drewN ?_ _ | refine below_on ?_ (by assumption)))
        have c4 : W.cell? ⟨w.heap.size, 4, none⟩ = some (.int .i64 limit) := Ext.made_in hW (Below.refl _ _) 4 _ rfl
        clear hW
        refine (prises [] _ W (HP.out.below hBW) hn).mono ?_; rintro _ w1 ⟨rfl, hb⟩
        rw [HR.out]
        have c4 := Ext.cell ⟨w1, hb⟩ c4
        simp only at c4
        have hb := below_on hBW hb
        have hl : (0 : Int) ≤ limit := by simpa using hl
        go_wp2_with fail
        go_quiet (fail)
        have hb := below_drewN hb nq
        go_wp2_with fail
        (try go_ret)
        rw [HQ.out, HL.out]
        exact ⟨ret_bool rfl, hb⟩
      · obtain ⟨m, hm⟩ : ∃ m, l.length = m + 1 := ⟨l.length - 1, by omega⟩
        obtain ⟨g, o, c, rfl, h1, h2, H3⟩ := h.opened h0
        have q0 := (H3.out 0 h0).1
        have q1 := (H3.out m (by omega)).1
        simp only [Nat.zero_mul, Nat.add_zero] at q0
        have HL : Hid (listB key hi limit l = (decide (key ≤ ky l 0) && decide (ky l m ≤ hi))) := by
          unfold listB
          have hne : l ≠ [] := by intro e; rw [e] at h0; simp at h0
          rw [hr, decide_eq_true hl, show l.length - 1 = m by omega]
          refine Lib.hid ?_
          rw [Bool.eq_iff_iff]; simp [hne]
        obtain ⟨nn, hnn⟩ : ∃ nn, nn = l.length := ⟨_, rfl⟩
        rw [← hnn] at h1 hm hl hn h0 ⊢
        have HNN := Lib.hid hnn
        clear hnn
        have e0 : ((nn : Int) == 0) = false := neq_b (by omega)
        have e1 : (nn == 0) = false := by rw [beq_eq_false_iff_ne]; omega
        have hA : IntKind.i64.wrap ((nn : Int) - 1) = (m : Int) := by rw [show (nn : Int) - 1 = m by omega]; exact IntWalk.i64_in _ (by omega)
        have hml : (m : Int) < (nn : Int) := by omega
        have hl0 : (0 : Int) < (nn : Int) := by omega
        clear h H3 hm hr
        cases hd : decide (key ≤ ky l 0) <;> cases he : decide (ky l m ≤ hi)
        all_goals
          rw [hd, he] at HL
          go_enter Try.func29, Try.ntmps29
          go_wp2_with fail
          generalize hW : World.alloc w _ = W
          have hBW : Below w.heap.size w W := by rw [← hW]; (repeat (first | exact Below.refl _ _ | assumption | refine below_new ?_ _ | refine Below.drew ?_ | refine below_drewN ?_ _ | refine below_on ?_ (by assumption)))
          have c1 : W.cell? ⟨w.heap.size, 1, none⟩ = some (.int .i64 key) := Ext.made_in hW (Below.refl _ _) 1 _ rfl
          have c3 : W.cell? ⟨w.heap.size, 3, none⟩ = some (.int .i64 hi) := Ext.made_in hW (Below.refl _ _) 3 _ rfl
          have c4 : W.cell? ⟨w.heap.size, 4, none⟩ = some (.int .i64 limit) := Ext.made_in hW (Below.refl _ _) 4 _ rfl
          clear hW
          refine (prises l _ W (PR.cast (HP.out.below hBW) HNN.out.symm) (by rw [← HNN.out]; exact hn)).mono ?_; rintro _ w1 ⟨rfl, hb⟩
          rw [HR.out]
          have c1 := Ext.cell ⟨w1, hb⟩ c1; have c3 := Ext.cell ⟨w1, hb⟩ c3; have c4 := Ext.cell ⟨w1, hb⟩ c4
          have hb := below_on hBW hb
          have q0 := Ext.cell ⟨w1, hb⟩ q0; have q1 := Ext.cell ⟨w1, hb⟩ q1
          simp only at c1 c3 c4 q0 q1
          go_wp2_with fail
          go_quiet (fail)
          have hb := below_drewN hb nq
          clear hA hml hl0
          go_wp2_with fail
          (try go_ret)
          rw [HQ.out, HL.out]
          exact ⟨ret_bool rfl, hb⟩
set_option maxHeartbeats 1000000 in
theorem cfields (op key val hi limit k ak av n : Int) (v : Value) (l : PL) (w : World) (h : PR w v l) (hn : l.length ≤ 100000) :
    Calls Try.prog 22 #[callV op key val hi limit, ansV k ak av n v] w fun e w' => e = .returned (.bool (fieldsB op key hi limit k ak n l)) ∧ Below w.heap.size w w' := by
  have HP := Lib.hid h
  obtain ⟨p, c, rfl, _, _⟩ := h.slice
  clear h
  refine Calls.veil fun Q HQ => ?_
  rcases (by omega : k = 1 ∨ k = 2 ∨ k = 3 ∨ (k ≠ 1 ∧ k ≠ 2 ∧ k ≠ 3)) with rfl | rfl | rfl | ⟨n1, n2, n3⟩
  · go_enter Try.func22, Try.ntmps22
    go_wp2_with fail
    refine (ckey op key val hi limit ak _).mono ?_; rintro _ w1 ⟨rfl, hb⟩
    have hb := below_on (below_new (below_new (Below.refl w.heap.size w) _) _) hb
    go_wp2_with fail
    (try go_ret)
    rw [HQ.out]
    exact ⟨ret_bool rfl, hb⟩
  · rcases (by omega : 0 ≤ n ∨ n < 0) with h1 | h1
    all_goals
      go_enter Try.func22, Try.ntmps22
      go_wp2_with fail
      (try go_ret)
      rw [HQ.out]
      exact ⟨ret_bool (show _ = decide (0 ≤ n) by first | exact (decide_eq_true (by omega)).symm | exact (decide_eq_false (by omega)).symm | rfl), by (repeat (first | exact Below.refl _ _ | assumption | refine below_new ?_ _ | refine Below.drew ?_ | refine below_drewN ?_ _ | refine below_on ?_ (by assumption)))⟩
  · go_enter Try.func22, Try.ntmps22
    go_wp2_with fail
    refine (clist op key val hi limit _ l _ ((HP.out.alloc _).alloc _) hn).mono ?_; rintro _ w1 ⟨rfl, hb⟩
    have hb := below_on (below_new (below_new (Below.refl w.heap.size w) _) _) hb
    go_wp2_with fail
    (try go_ret)
    rw [HQ.out]
    exact ⟨ret_bool rfl, hb⟩
  · have z1 := neq_b n1; have z2 := neq_b n2; have z3 := neq_b n3
    have HF := Lib.hid (show fieldsB op key hi limit k ak n l = true by unfold fieldsB; rw [if_neg n1, if_neg n2, if_neg n3])
    clear n1 n2 n3
    go_enter Try.func22, Try.ntmps22
    go_wp2_with fail
    (try go_ret)
    rw [HQ.out, HF.out]
    exact ⟨ret_bool rfl, by (repeat (first | exact Below.refl _ _ | assumption | refine below_new ?_ _ | refine Below.drew ?_ | refine below_drewN ?_ _ | refine below_on ?_ (by assumption)))⟩
set_option maxHeartbeats 1000000 in
theorem cfits (op key val hi limit k ak av n : Int) (v : Value) (l : PL) (w : World) (h : PR w v l) (hn : l.length ≤ 100000) :
    Calls Try.prog 15 #[callV op key val hi limit, ansV k ak av n v] w fun e w' => e = .returned (.bool (fitsB op key hi limit k ak av n l)) ∧ Below w.heap.size w w' := by
  have HP := Lib.hid h
  obtain ⟨p, c, rfl, _, _⟩ := h.slice
  clear h
  refine Calls.veil fun Q HQ => ?_
  have HF : Hid (fitsB op key hi limit k ak av n l = (toldB k ak av n l && (decide (k = 8) || (mayB op key hi limit && kindB op k && fieldsB op key hi limit k ak n l)))) := Lib.hid rfl
  go_enter Try.func15, Try.ntmps15
  go_wp2_with fail
  generalize hW : World.alloc (World.alloc w _) _ = W
  have hBW : Below w.heap.size w W := by rw [← hW]; (repeat (first | exact Below.refl _ _ | assumption | refine below_new ?_ _ | refine Below.drew ?_ | refine below_drewN ?_ _ | refine below_on ?_ (by assumption)))
  have C0 := Lib.hid (And.intro (Ext.made1_in hW (Below.refl _ _) 0 (.int .i64 op) rfl) (And.intro (Ext.made1_in hW (Below.refl _ _) 1 (.int .i64 key) rfl) (And.intro (Ext.made1_in hW (Below.refl _ _) 2 (.int .i64 val) rfl) (And.intro (Ext.made1_in hW (Below.refl _ _) 3 (.int .i64 hi) rfl) (Ext.made1_in hW (Below.refl _ _) 4 (.int .i64 limit) rfl)))))
  have hs : ∀ o, (World.alloc w o).heap.size = w.heap.size + 1 := fun o => by simp
  have A0 := Lib.hid (And.intro (Ext.made_in hW (Below.refl _ _) 0 (.int .i64 k) rfl) (And.intro (Ext.made_in hW (Below.refl _ _) 1 (.int .i64 ak) rfl) (And.intro (Ext.made_in hW (Below.refl _ _) 2 (.int .i64 av) rfl) (And.intro (Ext.made_in hW (Below.refl _ _) 3 (.int .i64 n) rfl) (Ext.made_in hW (Below.refl _ _) 4 (.slice p l.length c) rfl)))))
  simp only [hs] at A0
  clear hW hs
  refine (conly k ak av n _ l W (HP.out.below hBW) hn).mono ?_; rintro _ w1 ⟨rfl, hb⟩
  obtain ⟨x0, x1, x2, x3, x4⟩ := C0.out
  obtain ⟨y0, y1, y2, y3, y4⟩ := A0.out
  have x0 := Ext.cell ⟨w1, hb⟩ x0; have x1 := Ext.cell ⟨w1, hb⟩ x1; have x2 := Ext.cell ⟨w1, hb⟩ x2; have x3 := Ext.cell ⟨w1, hb⟩ x3; have x4 := Ext.cell ⟨w1, hb⟩ x4
  have y0 := Ext.cell ⟨w1, hb⟩ y0; have y1 := Ext.cell ⟨w1, hb⟩ y1; have y2 := Ext.cell ⟨w1, hb⟩ y2; have y3 := Ext.cell ⟨w1, hb⟩ y3; have y4 := Ext.cell ⟨w1, hb⟩ y4
  simp only at x0 x1 x2 x3 x4 y0 y1 y2 y3 y4
  have HX := Lib.hid (And.intro x0 (And.intro x1 (And.intro x2 (And.intro x3 x4))))
  have HY := Lib.hid (And.intro y0 (And.intro y1 (And.intro y2 (And.intro y3 y4))))
  have HB := Lib.hid (below_on hBW hb)
  clear hBW hb C0 A0
  cases ht : toldB k ak av n l
  · have HT := Lib.hid ht
    clear ht
    go_wp2_with fail
    (try go_ret)
    rw [HQ.out, HF.out, HT.out]
    exact ⟨ret_bool rfl, HB.out⟩
  · have HT := Lib.hid ht
    clear ht
    cases h8 : (k == 8)
    · have H8 := Lib.hid h8
      go_wp2_with fail
      refine (cmay op key val hi limit w1).mono ?_; rintro _ w2 ⟨rfl, hb⟩
      have HB2 := Lib.hid (below_on HB.out hb)
      have x0 := Ext.cell ⟨w2, hb⟩ x0; have x1 := Ext.cell ⟨w2, hb⟩ x1; have x2 := Ext.cell ⟨w2, hb⟩ x2; have x3 := Ext.cell ⟨w2, hb⟩ x3; have x4 := Ext.cell ⟨w2, hb⟩ x4
      have y0 := Ext.cell ⟨w2, hb⟩ y0; have y1 := Ext.cell ⟨w2, hb⟩ y1; have y2 := Ext.cell ⟨w2, hb⟩ y2; have y3 := Ext.cell ⟨w2, hb⟩ y3; have y4 := Ext.cell ⟨w2, hb⟩ y4
      simp only at x0 x1 x2 x3 x4 y0 y1 y2 y3 y4
      clear hb
      cases hm : mayB op key hi limit
      · have HM := Lib.hid hm
        clear hm
        go_wp2_with fail
        (try go_ret)
        rw [HQ.out, HF.out, HT.out, HM.out]
        have h8 := H8.out
        exact ⟨ret_bool (by simp at h8; simp [h8]), HB2.out⟩
      · have HM := Lib.hid hm
        clear hm
        go_wp2_with fail
        refine (ckind op k w2).mono ?_; rintro _ w3 ⟨rfl, hb⟩
        have HB3 := Lib.hid (below_on HB2.out hb)
        have x0 := Ext.cell ⟨w3, hb⟩ x0; have x1 := Ext.cell ⟨w3, hb⟩ x1; have x2 := Ext.cell ⟨w3, hb⟩ x2; have x3 := Ext.cell ⟨w3, hb⟩ x3; have x4 := Ext.cell ⟨w3, hb⟩ x4
        have y0 := Ext.cell ⟨w3, hb⟩ y0; have y1 := Ext.cell ⟨w3, hb⟩ y1; have y2 := Ext.cell ⟨w3, hb⟩ y2; have y3 := Ext.cell ⟨w3, hb⟩ y3; have y4 := Ext.cell ⟨w3, hb⟩ y4
        simp only at x0 x1 x2 x3 x4 y0 y1 y2 y3 y4
        clear hb
        cases hk : kindB op k
        · have HK := Lib.hid hk
          clear hk
          go_wp2_with fail
          (try go_ret)
          rw [HQ.out, HF.out, HT.out, HM.out, HK.out]
          have h8 := H8.out
          exact ⟨ret_bool (by simp at h8; simp [h8]), HB3.out⟩
        · have HK := Lib.hid hk
          clear hk
          go_wp2_with fail
          refine (cfields op key val hi limit k ak av n _ l w3 (HP.out.below HB3.out) hn).mono ?_; rintro _ w4 ⟨rfl, hb⟩
          have HB4 := Lib.hid (below_on HB3.out hb)
          clear hb x0 x1 x2 x3 x4 y0 y1 y2 y3 y4
          go_wp2_with fail
          (try go_ret)
          rw [HQ.out, HF.out, HT.out, HM.out, HK.out]
          have h8 := H8.out
          exact ⟨ret_bool (by simp at h8; simp [h8]), HB4.out⟩
    · have H8 := Lib.hid h8
      go_wp2_with fail
      (try go_ret)
      rw [HQ.out, HF.out, HT.out]
      have h8 := H8.out
      exact ⟨ret_bool (by simp at h8; simp [h8]), HB.out⟩
set_option maxHeartbeats 1000000 in
theorem lives9_calls (w : World) : Calls Try.prog 14 #[] w fun e w' => e = .returned (.bool true) ∧ Below w.heap.size w w' := by
  refine Calls.veil fun Q HQ => ?_
  go_enter Try.func14, Try.ntmps14
  go_wp2_with fail
  generalize hW : World.alloc w _ = W
  have hBW : Below w.heap.size w W := by rw [← hW]; (repeat (first | exact Below.refl _ _ | assumption | refine below_new ?_ _ | refine Below.drew ?_ | refine below_drewN ?_ _ | refine below_on ?_ (by assumption)))
  have y0 := Ext.made_in hW (Below.refl _ _) 0 (.int .i64 1) rfl; have y1 := Ext.made_in hW (Below.refl _ _) 1 (.int .i64 5) rfl; have y2 := Ext.made_in hW (Below.refl _ _) 2 (.int .i64 1) rfl
  have y3 := Ext.made_in hW (Below.refl _ _) 3 (.int .i64 0) rfl; have y4 := Ext.made_in hW (Below.refl _ _) 4 (.slice none 0 0) rfl
  clear hW
  refine (cfits 2 5 0 0 0 1 5 1 0 _ [] W .nil (by decide)).mono ?_; rintro _ w1 ⟨rfl, hb⟩
  rw [show fitsB 2 5 0 0 1 5 1 0 [] = true by decide]
  have y0 := Ext.cell ⟨w1, hb⟩ y0; have y1 := Ext.cell ⟨w1, hb⟩ y1; have y2 := Ext.cell ⟨w1, hb⟩ y2; have y3 := Ext.cell ⟨w1, hb⟩ y3; have y4 := Ext.cell ⟨w1, hb⟩ y4
  simp only at y0 y1 y2 y3 y4
  have hb := below_on hBW hb
  go_wp2_with fail
  refine (cfits 2 6 0 0 0 1 5 1 0 _ [] w1 .nil (by decide)).mono ?_; rintro _ w2 ⟨rfl, hb2⟩
  rw [show fitsB 2 6 0 0 1 5 1 0 [] = false by decide]
  have hb := below_on hb hb2
  clear y0 y1 y2 y3 y4
  go_wp2_with fail
  (try go_ret)
  rw [HQ.out]
  exact ⟨ret_bool rfl, hb⟩
end Go.Proofs.Ytdgkgfapajlidaa
