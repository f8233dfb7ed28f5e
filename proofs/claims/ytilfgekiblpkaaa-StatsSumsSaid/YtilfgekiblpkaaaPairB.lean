/- Layer 8's contracts that only read, further. -/
import Derived.Test.YtilfgekiblpkaaaPairA
namespace Go.Proofs.Ytilfgekiblpkaaa
open Go.RowKit
set_option linter.unusedVariables false
set_option linter.unusedSimpArgs false

set_option maxHeartbeats 2000000 in
theorem rsame (a b : PL) (va vb : Value) (w : World) (ha : PR w va a) (hb : PR w vb b) (hn : a.length ≤ 100000) :
    Calls Try.prog 26 #[va, vb] w fun e w' => e = .returned (.bool (sameB a b)) ∧ Below w.heap.size w w' := by
  refine Calls.veil fun Q HQ => ?_
  by_cases hl : a.length = b.length
  · cases ha with
    | nil =>
      have hb0 : b = [] := List.eq_nil_of_length_eq_zero (by simpa using hl.symm)
      subst hb0
      have hQ : sameB [] [] = true := rfl
      rcases (show ∃ p c, vb = .slice p 0 c by cases hb with | nil => exact ⟨_, _, rfl⟩ | odd a c => exact ⟨_, _, rfl⟩ | row g o c => exact ⟨_, _, rfl⟩) with ⟨p, c, rfl⟩
      clear hb hl
      go_enter Try.func26, Try.ntmps26
      go_wp2_with fail
      refine wp_loop_rounds 1 ?_
      rw [rounds_succ]
      go_wp2_with fail
      (try go_ret)
      rw [HQ.out]
      exact ⟨ret_bool hQ.symm, Below.refl _ _⟩
    | odd aa cc hcc =>
      have hb0 : b = [] := List.eq_nil_of_length_eq_zero (by simpa using hl.symm)
      subst hb0
      have hQ : sameB [] [] = true := rfl
      rcases (show ∃ p c, vb = .slice p 0 c by cases hb with | nil => exact ⟨_, _, rfl⟩ | odd a c => exact ⟨_, _, rfl⟩ | row g o c => exact ⟨_, _, rfl⟩) with ⟨p, c, rfl⟩
      clear hb hl
      go_enter Try.func26, Try.ntmps26
      go_wp2_with fail
      refine wp_loop_rounds 1 ?_
      rw [rounds_succ]
      go_wp2_with fail
      (try go_ret)
      rw [HQ.out]
      exact ⟨ret_bool hQ.symm, Below.refl _ _⟩
    | row g o c _ h1 h2 h3 =>
      have H3 := Lib.hid h3
      clear h3
      rcases (show (a.length = 0) ∨ (0 < a.length) by omega) with h0 | h0
      · have ha0 : a = [] := List.eq_nil_of_length_eq_zero h0
        subst ha0
        have hb0 : b = [] := List.eq_nil_of_length_eq_zero (by simpa using hl.symm)
        subst hb0
        have hQ : sameB [] [] = true := rfl
        rcases (show ∃ p c, vb = .slice p 0 c by cases hb with | nil => exact ⟨_, _, rfl⟩ | odd a c => exact ⟨_, _, rfl⟩ | row g o c => exact ⟨_, _, rfl⟩) with ⟨p, c', rfl⟩
        clear hb hl H3 h0 h1 h2 hn
        show Calls _ _ #[.slice _ 0 _, _] _ _
        go_enter Try.func26, Try.ntmps26
        go_wp2_with fail
        refine wp_loop_rounds 1 ?_
        rw [rounds_succ]
        go_wp2_with fail
        (try go_ret)
        rw [HQ.out]
        exact ⟨ret_bool hQ.symm, Below.refl _ _⟩
      · cases hb with
        | nil => exact absurd hl (by show a.length ≠ 0; omega)
        | odd a c => exact absurd hl (by show _ ≠ 0; omega)
        | row g' o' c' _ k1 k2 k3 =>
          have K3 := Lib.hid k3
          clear k3
          obtain ⟨n, hn'⟩ : ∃ n, n = a.length := ⟨_, rfl⟩
          rw [← hl, ← hn'] at k1 ⊢
          rw [← hn'] at h0 h1 hn
          have HL := Lib.hid hl
          have HN := Lib.hid hn'
          clear hl hn'
          go_enter Try.func26, Try.ntmps26
          go_wp2_with fail
          go_loopw [5] (fun iv wr => ∃ i : Nat, i ≤ n ∧ iv = .int .i64 (i : Int) ∧ (∀ k, k < i → ky a k = ky b k ∧ vl a k = vl b k) ∧ Below w.heap.size w wr)
            (fun iv _ => n - (intOf iv).toNat)
          case atStart => exact ⟨0, by omega, rfl, by omega, Below.refl _ _⟩
          case round =>
            obtain ⟨i, hi, rfl, hk, hbel⟩ := hrel
            have HK := Lib.hid hk; clear hk
            rcases (by omega : i < n ∨ n ≤ i) with hlt | hge
            · have c0 := Ext.cell ⟨wr, hbel⟩ (H3.out i (by rw [← HN.out]; exact hlt)).1
              have c1 := Ext.cell ⟨wr, hbel⟩ (H3.out i (by rw [← HN.out]; exact hlt)).2
              have d0 := Ext.cell ⟨wr, hbel⟩ (K3.out i (by rw [← HL.out, ← HN.out]; exact hlt)).1
              have d1 := Ext.cell ⟨wr, hbel⟩ (K3.out i (by rw [← HL.out, ← HN.out]; exact hlt)).2
              simp only at c0 c1 d0 d1
              by_cases hc : ky a i = ky b i ∧ vl a i = vl b i
              · rw [← hc.1] at d0
                rw [← hc.2] at d1
                have HC := Lib.hid hc; clear hc
                go_wp2_with fail
                go_quiet (fail)
                have hbel' : Below w.heap.size w (wr.drewN nq) := below_drewN hbel _
                go_wp2_with fail
                go_roundw
                case rel => exact ⟨i + 1, by omega, by go_num, fun k hk => by rcases (by omega : k < i ∨ k = i) with h | rfl; exact HK.out k h; exact HC.out, hbel'⟩
                case measure => simp [intOf]; omega
              · have HC := Lib.hid hc
                rcases (show (ky a i == ky b i) = false ∨ ((ky a i == ky b i) = true ∧ (vl a i == vl b i) = false) by
                  by_cases e : ky a i = ky b i
                  · right; exact ⟨by simpa using e, by rw [beq_eq_false_iff_ne]; exact fun e' => hc ⟨e, e'⟩⟩
                  · left; simpa using e) with q | ⟨q, q'⟩
                all_goals
                  clear hc
                  go_wp2_with fail
                  go_quiet (fail)
                  have hbel' : Below w.heap.size w (wr.drewN nq) := below_drewN hbel _
                  go_wp2_with fail
                  (try go_ret)
                  rw [HQ.out]
                  exact ⟨ret_bool (same_not (by rw [← HN.out]; exact hlt) HC.out).symm, hbel'⟩
            · go_wp2_with fail
              (try go_ret)
              rw [HQ.out]
              exact ⟨ret_bool (same_all HL.out fun k hk => HK.out k (by rw [← HN.out] at hk; omega)).symm, hbel⟩
  · have hs := same_len hl
    have hne : ((a.length : Int) != (b.length : Int)) = true := by rw [bne_iff_ne]; omega
    have hne' : ((a.length : Int) == (b.length : Int)) = false := by rw [beq_eq_false_iff_ne]; omega
    rcases (show ∃ p c, va = .slice p a.length c by cases ha with | nil => exact ⟨_, _, rfl⟩ | odd a c => exact ⟨_, _, rfl⟩ | row g o c => exact ⟨_, _, rfl⟩) with ⟨p, c, rfl⟩
    rcases (show ∃ p c, vb = .slice p b.length c by cases hb with | nil => exact ⟨_, _, rfl⟩ | odd a c => exact ⟨_, _, rfl⟩ | row g o c => exact ⟨_, _, rfl⟩) with ⟨p', c', rfl⟩
    clear ha hb hl
    have HS := Lib.hid hs; clear hs
    generalize a.length = x at *
    generalize b.length = y at *
    go_enter Try.func26, Try.ntmps26
    go_wp2_with fail
    (try go_ret)
    rw [HQ.out]
    exact ⟨ret_bool HS.out.symm, Below.refl _ _⟩


end Go.Proofs.Ytilfgekiblpkaaa
