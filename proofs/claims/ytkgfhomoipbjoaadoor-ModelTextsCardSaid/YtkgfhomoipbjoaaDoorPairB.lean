/- Layer 8's contracts that only read, further. -/
import Derived.Test.YtkgfhomoipbjoaaDoorPairA
namespace Go.Proofs.YtkgfhomoipbjoaaDoor
open Go.RowKit
set_option linter.unusedVariables false
set_option linter.unusedSimpArgs false

set_option maxHeartbeats 2000000 in
theorem rsame (a b : PL) (va vb : Value) (w : World) (ha : PR w va a) (hb : PR w vb b) (hn : a.length ≤ 100000) :
    Calls Tryd.prog 19 #[va, vb] w fun e w' => e = .returned (.bool (sameB a b)) ∧ Below w.heap.size w w' := by
  refine Calls.veil fun Q HQ => ?_
  by_cases hl : a.length = b.length
  · cases ha with
    | nil =>
      have hb0 : b = [] := List.eq_nil_of_length_eq_zero (by simpa using hl.symm)
      subst hb0
      have hQ : sameB [] [] = true := rfl
      rcases (show ∃ p c, vb = .slice p 0 c by cases hb with | nil => exact ⟨_, _, rfl⟩ | odd a c => exact ⟨_, _, rfl⟩ | row g o c => exact ⟨_, _, rfl⟩) with ⟨p, c, rfl⟩
      clear hb hl
      go_enter Tryd.func19, Tryd.ntmps19
      go_wp2_with fail
      refine wp_loop_rounds 1 ?_
      rw [rounds_succ]
      go_wp2_with fail
      (try go_ret)
      rw [HQ.out]
      exact ⟨ret_bool hQ.symm, Below.refl _ _⟩
    | odd aa cc hcc =>
      have hb0 : b = [] := List.eq_nil_of_length_eq_zero (by simpa using hl.symm)
      subst hb0
      have hQ : sameB [] [] = true := rfl
      rcases (show ∃ p c, vb = .slice p 0 c by cases hb with | nil => exact ⟨_, _, rfl⟩ | odd a c => exact ⟨_, _, rfl⟩ | row g o c => exact ⟨_, _, rfl⟩) with ⟨p, c, rfl⟩
      clear hb hl
      go_enter Tryd.func19, Tryd.ntmps19
      go_wp2_with fail
      refine wp_loop_rounds 1 ?_
      rw [rounds_succ]
      go_wp2_with fail
      (try go_ret)
      rw [HQ.out]
      exact ⟨ret_bool hQ.symm, Below.refl _ _⟩
    | row g o c _ h1 h2 h3 =>
      have H3 := Lib.hid h3
      clear h3
      rcases (show (a.length = 0) ∨ (0 < a.length) by omega) with h0 | h0
      · have ha0 : a = [] := List.eq_nil_of_length_eq_zero h0
        subst ha0
        have hb0 : b = [] := List.eq_nil_of_length_eq_zero (by simpa using hl.symm)
        subst hb0
        have hQ : sameB [] [] = true := rfl
        rcases (show ∃ p c, vb = .slice p 0 c by cases hb with | nil => exact ⟨_, _, rfl⟩ | odd a c => exact ⟨_, _, rfl⟩ | row g o c => exact ⟨_, _, rfl⟩) with ⟨p, c', rfl⟩
        clear hb hl H3 h0 h1 h2 hn
        show Calls _ _ #[.slice _ 0 _, _] _ _
        go_enter Tryd.func19, Tryd.ntmps19
        go_wp2_with fail
        refine wp_loop_rounds 1 ?_
        rw [rounds_succ]
        go_wp2_with fail
        (try go_ret)
        rw [HQ.out]
        exact ⟨ret_bool hQ.symm, Below.refl _ _⟩
      · cases hb with
        | nil => exact absurd hl (by show a.length ≠ 0; omega)
        | odd a c => exact absurd hl (by show _ ≠ 0; omega)
        | row g' o' c' _ k1 k2 k3 =>
          have K3 := Lib.hid k3
          clear k3
          obtain ⟨n, hn'⟩ : ∃ n, n = a.length := ⟨_, rfl⟩
          rw [← hl, ← hn'] at k1 ⊢
          rw [← hn'] at h0 h1 hn
          have HL := Lib.hid hl
          have HN := Lib.hid hn'
          clear hl hn'
          go_enter Tryd.func19, Tryd.ntmps19
          go_wp2_with fail
          go_loopw [5] (fun iv wr => ∃ i : Nat, i ≤ n ∧ iv = .int .i64 (i : Int) ∧ (∀ k, k < i → ky a k = ky b k ∧ vl a k = vl b k) ∧ Below w.heap.size w wr)
            (fun iv _ => n - (intOf iv).toNat)
          case atStart => exact ⟨0, by omega, rfl, by omega, Below.refl _ _⟩
          case round =>
            obtain ⟨i, hi, rfl, hk, hbel⟩ := hrel
            have HK := Lib.hid hk; clear hk
            rcases (by omega : i < n ∨ n ≤ i) with hlt | hge
            · have c0 := Ext.cell ⟨wr, hbel⟩ (H3.out i (by rw [← HN.out]; exact hlt)).1
              have c1 := Ext.cell ⟨wr, hbel⟩ (H3.out i (by rw [← HN.out]; exact hlt)).2
              have d0 := Ext.cell ⟨wr, hbel⟩ (K3.out i (by rw [← HL.out, ← HN.out]; exact hlt)).1
              have d1 := Ext.cell ⟨wr, hbel⟩ (K3.out i (by rw [← HL.out, ← HN.out]; exact hlt)).2
              simp only at c0 c1 d0 d1
              by_cases hc : ky a i = ky b i ∧ vl a i = vl b i
              · rw [← hc.1] at d0
                rw [← hc.2] at d1
                have HC := Lib.hid hc; clear hc
                go_wp2_with fail
                go_quiet (fail)
                have hbel' : Below w.heap.size w (wr.drewN nq) := below_drewN hbel _
                go_wp2_with fail
                go_roundw
                case rel => exact ⟨i + 1, by omega, by go_num, fun k hk => by rcases (by omega : k < i ∨ k = i) with h | rfl; exact HK.out k h; exact HC.out, hbel'⟩
                case measure => simp [intOf]; omega
              · have HC := Lib.hid hc
                rcases (show (ky a i == ky b i) = false ∨ ((ky a i == ky b i) = true ∧ (vl a i == vl b i) = false) by
                  by_cases e : ky a i = ky b i
                  · right; exact ⟨by simpa using e, by rw [beq_eq_false_iff_ne]; exact fun e' => hc ⟨e, e'⟩⟩
                  · left; simpa using e) with q | ⟨q, q'⟩
                all_goals
                  clear hc
                  go_wp2_with fail
                  go_quiet (fail)
                  have hbel' : Below w.heap.size w (wr.drewN nq) := below_drewN hbel _
                  go_wp2_with fail
                  (try go_ret)
                  rw [HQ.out]
                  exact ⟨ret_bool (same_not (by rw [← HN.out]; exact hlt) HC.out).symm, hbel'⟩
            · go_wp2_with fail
              (try go_ret)
              rw [HQ.out]
              exact ⟨ret_bool (same_all HL.out fun k hk => HK.out k (by rw [← HN.out] at hk; omega)).symm, hbel⟩
  · have hs := same_len hl
    have hne : ((a.length : Int) != (b.length : Int)) = true := by rw [bne_iff_ne]; omega
    have hne' : ((a.length : Int) == (b.length : Int)) = false := by rw [beq_eq_false_iff_ne]; omega
    rcases (show ∃ p c, va = .slice p a.length c by cases ha with | nil => exact ⟨_, _, rfl⟩ | odd a c => exact ⟨_, _, rfl⟩ | row g o c => exact ⟨_, _, rfl⟩) with ⟨p, c, rfl⟩
    rcases (show ∃ p c, vb = .slice p b.length c by cases hb with | nil => exact ⟨_, _, rfl⟩ | odd a c => exact ⟨_, _, rfl⟩ | row g o c => exact ⟨_, _, rfl⟩) with ⟨p', c', rfl⟩
    clear ha hb hl
    have HS := Lib.hid hs; clear hs
    generalize a.length = x at *
    generalize b.length = y at *
    go_enter Tryd.func19, Tryd.ntmps19
    go_wp2_with fail
    (try go_ret)
    rw [HQ.out]
    exact ⟨ret_bool HS.out.symm, Below.refl _ _⟩

theorem pfind1 (l : PL) (v : Value) (key : Int) (i : Nat) (pl pk : Nat) (w : World) (h : PR w v l) (hi : i < l.length) (hl : w.cell? ⟨pl, 0, none⟩ = some v) (hk : w.cell? ⟨pk, 0, none⟩ = some (.int .i64 key)) :
    Calls Tryd.prog 56 #[.int .i64 i, .pointer (some ⟨pl, 0, none⟩), .pointer (some ⟨pk, 0, none⟩)] w fun e w' => e = .returned (.bool (decide (key ≤ ky l i))) ∧ Below w.heap.size w w' := by
  refine Calls.veil fun Q HQ => ?_
  cases h with
  | nil => simp at hi
  | odd a c _ => simp at hi
  | row g o c _ h1 h2 h3 =>
    have c0 := (h3 i hi).1
    clear h3
    have hI : (i : Int) < (l.length : Int) := by omega
    go_enter Tryd.func56, Tryd.ntmps56
    go_wp2_with fail
    go_quiet (fail)
    go_wp2_with fail
    (try go_ret)
    rw [HQ.out]
    exact ⟨rfl, below_drewN (Below.refl _ _) _⟩
set_option maxHeartbeats 2000000 in
theorem psearch (l : PL) (v : Value) (key : Int) (pl pk : Nat) (w : World) (h : PR w v l) (hr : riseB l = true) (hn : l.length ≤ 100000) (hl : w.cell? ⟨pl, 0, none⟩ = some v) (hk : w.cell? ⟨pk, 0, none⟩ = some (.int .i64 key)) :
    Calls Tryd.prog 55 #[.int .i64 l.length, .func (.func 56) #[] #[.pointer (some ⟨pl, 0, none⟩), .pointer (some ⟨pk, 0, none⟩)]] w fun e w' => e = .returned (.int .i64 (lbN l key)) ∧ Below w.heap.size w w' := by
  have H := Lib.hid h; have HR := Lib.hid hr
  clear h hr
  refine Calls.veil fun Q HQ => ?_
  go_enter Tryd.func55, Tryd.ntmps55
  go_wp2_with fail
  go_loopw [5, 6] (fun iv jv wr => ∃ i j : Nat, i ≤ j ∧ j ≤ l.length ∧ iv = .int .i64 i ∧ jv = .int .i64 j ∧ (∀ k, k < i → ky l k < key) ∧ (∀ k, j ≤ k → k < l.length → key ≤ ky l k) ∧ Below w.heap.size w wr)
    (fun iv jv _ => (intOf jv).toNat - (intOf iv).toNat)
  case atStart => exact ⟨0, l.length, by omega, by omega, rfl, rfl, by omega, by omega, Below.refl _ _⟩
  case round =>
    obtain ⟨i, j, hij, hj, rfl, rfl, k1, k2, hbel⟩ := hrel
    have K1 := Lib.hid k1; have K2 := Lib.hid k2; clear k1 k2
    rcases (by omega : i < j ∨ i = j) with hlt | heq
    · obtain ⟨m, hm⟩ : ∃ m : Nat, m = (i + j) / 2 := ⟨_, rfl⟩
      have hM : ((i : Int) + (j : Int)) / 2 = (m : Int) := by omega
      have hm1 : i ≤ m := by omega
      have hm2 : m < j := by omega
      clear hm
      have HPR := Lib.hid (H.out.below hbel)
      have hl' := Ext.cell ⟨wr, hbel⟩ hl; have hk' := Ext.cell ⟨wr, hbel⟩ hk
      simp only at hl' hk'
      have HL' := Lib.hid hl'; have HK' := Lib.hid hk'
      clear hl' hk'
      rcases (by omega : key ≤ ky l m ∨ ky l m < key) with hc | hc
      · have HC := Lib.hid hc
        have hD : decide (key ≤ ky l m) = true := by simpa using hc
        clear hc
        go_wp2_with fail
        refine (pfind1 l v key m pl pk wr HPR.out (by omega) HL'.out HK'.out).mono ?_; rintro _ w1 ⟨rfl, hb1⟩
        have hbel' := below_on hbel hb1
        clear hM
        go_wp2_with fail
        go_roundw
        case rel => exact ⟨i, m, by omega, by omega, rfl, rfl, K1.out, fun k h1 h2 => by rcases (by omega : m = k ∨ m < k) with rfl | h3; exact HC.out; have := rise_lt HR.out h3 h2; have := HC.out; omega, hbel'⟩
        case measure => simp [intOf]; omega
      · have HC := Lib.hid hc
        have hD : decide (key ≤ ky l m) = false := by simpa using hc
        clear hc
        go_wp2_with fail
        refine (pfind1 l v key m pl pk wr HPR.out (by omega) HL'.out HK'.out).mono ?_; rintro _ w1 ⟨rfl, hb1⟩
        have hbel' := below_on hbel hb1
        clear hM
        go_wp2_with fail
        go_roundw
        case rel => exact ⟨m + 1, j, by omega, by omega, by go_num, rfl, fun k h1 => by rcases (by omega : k = m ∨ k < m) with rfl | h3; exact HC.out; have := rise_lt HR.out h3 (show m < l.length by omega); have := HC.out; omega, K2.out, hbel'⟩
        case measure => simp [intOf]; omega
    · subst heq
      go_wp2_with fail
      (try go_ret)
      rw [HQ.out]
      exact ⟨ret_int (by rw [lbN_is hj K1.out K2.out]), hbel⟩

set_option maxHeartbeats 1000000 in
theorem pfind (l : PL) (v : Value) (key : Int) (w : World) (h : PR w v l) (hr : riseB l = true) (hn : l.length ≤ 100000) :
    Calls Tryd.prog 50 #[v, .int .i64 key] w fun e w' => e = .returned (.tuple #[.int .i64 (lbN l key), .bool (hereB l key)]) ∧ Below w.heap.size w w' := by
  have H := Lib.hid h; have HR := Lib.hid hr
  have HA := Lib.hid (here_at HR.out key)
  have hle := lbN_le l key
  refine Calls.veil fun Q HQ => ?_
  rcases (by omega : lbN l key < l.length ∨ lbN l key = l.length) with hlt | hge
  · obtain ⟨g, o, c, rfl, h1, h2, H3⟩ := h.opened (by omega)
    clear h hr
    have c0 := (H3.out _ hlt).1
    obtain ⟨r, hr⟩ : ∃ r, r = lbN l key := ⟨_, rfl⟩
    rw [← hr] at hlt c0 hle
    have hI : (r : Int) < (l.length : Int) := by omega
    go_enter Tryd.func50, Tryd.ntmps50
    have HRR := Lib.hid hr
    clear hr
    go_wp2_with fail
    generalize hW : World.alloc (World.alloc w _) _ = W
    have hBW : Below w.heap.size w W := by rw [← hW]; (repeat (first | exact Below.refl _ _ | assumption | refine below_new ?_ _ | refine Below.drew ?_ | refine below_drewN ?_ _ | refine below_on ?_ (by assumption)))
    have y0 : W.cell? ⟨w.heap.size, 0, none⟩ = some (.slice (some ⟨g, o, none⟩) l.length c) := Ext.made1_in hW (Below.refl _ _) 0 _ rfl
    have y1 : W.cell? ⟨w.heap.size + 1, 0, none⟩ = some (.int .i64 key) := by
      have := Ext.made_in hW (Below.refl _ _) 0 (.int .i64 key) rfl
      simpa using this
    clear hW
    refine (psearch l _ key _ _ W (H.out.below hBW) HR.out hn y0 y1).mono ?_; rintro _ w1 ⟨rfl, hb1⟩
    have hB1 := below_on hBW hb1
    have z0 := Ext.cell ⟨w1, hb1⟩ y0; have z1 := Ext.cell ⟨w1, hb1⟩ y1
    have c0 := Ext.cell ⟨w1, hB1⟩ c0
    simp only at z0 z1 c0
    clear y0 y1
    have HA := HA.out
    rw [← HRR.out] at HA ⊢
    rw [decide_eq_true hlt] at HA
    have HA := Lib.hid HA
    cases hE : (ky l r == key)
    all_goals
      have HE := Lib.hid hE
      go_wp2_with fail
      go_quiet (fail)
      go_wp2_with fail
      (try go_ret2)
      rw [HQ.out]
      exact ⟨by have := HA.out; rw [HE.out] at this; rw [← HRR.out, this]; rfl, below_drewN hB1 _⟩
  · obtain ⟨p, c, rfl, h1, h2⟩ := h.slice
    clear h hr
    have hI' : decide ((lbN l key : Int) < (l.length : Int)) = false := decide_eq_false (by omega)
    have hN : decide (lbN l key < l.length) = false := decide_eq_false (by omega)
    have HN := Lib.hid hN
    clear hge
    go_enter Tryd.func50, Tryd.ntmps50
    go_wp2_with fail
    generalize hW : World.alloc (World.alloc w _) _ = W
    have hBW : Below w.heap.size w W := by rw [← hW]; (repeat (first | exact Below.refl _ _ | assumption | refine below_new ?_ _ | refine Below.drew ?_ | refine below_drewN ?_ _ | refine below_on ?_ (by assumption)))
    have y0 : W.cell? ⟨w.heap.size, 0, none⟩ = some (.slice p l.length c) := Ext.made1_in hW (Below.refl _ _) 0 _ rfl
    have y1 : W.cell? ⟨w.heap.size + 1, 0, none⟩ = some (.int .i64 key) := by
      have := Ext.made_in hW (Below.refl _ _) 0 (.int .i64 key) rfl
      simpa using this
    clear hW
    refine (psearch l _ key _ _ W (H.out.below hBW) HR.out hn y0 y1).mono ?_; rintro _ w1 ⟨rfl, hb1⟩
    have hB1 := below_on hBW hb1
    have z0 := Ext.cell ⟨w1, hb1⟩ y0; have z1 := Ext.cell ⟨w1, hb1⟩ y1
    simp only at z0 z1
    clear y0 y1
    go_wp2_with fail
    go_quiet (fail)
    go_wp2_with fail
    (try go_ret2)
    rw [HQ.out]
    exact ⟨by have := HA.out; rw [HN.out] at this; rw [this]; rfl, below_drewN hB1 _⟩
end Go.Proofs.YtkgfhomoipbjoaaDoor
