/- Layer 35, reading: the reference's ReadAnswer, all ways; two answers that are the same. -/
import Derived.Test.YtdgplijnhkgeiaaDoorRtxWN
import Derived.Test.YtdgplijnhkgeiaaDoorRtxW0
import Derived.Test.YtdgplijnhkgeiaaDoorRtxW1
import Derived.Test.YtdgplijnhkgeiaaDoorRtxW2
import Derived.Test.YtdgplijnhkgeiaaDoorRtxW3
import Derived.Test.YtdgplijnhkgeiaaDoorRtxU
import Derived.Test.YtdgplijnhkgeiaaDoorRtxS
namespace Go.Proofs.YtdgplijnhkgeiaaDoor
open Go.RowKit
set_option linter.unusedVariables false
set_option linter.unusedSimpArgs false
theorem rreadanswer (v : Value) (hd : List UInt8) (tl : List (List UInt8)) (w : World) (hv : SR w v (hd :: tl)) (hl : tl.length ≤ 5000) (hx : ∀ x ∈ tl, x.length ≤ 4999) :
    Calls Tryd.prog 11 #[v] w fun e w' => ∃ av, e = .returned (.tuple #[.agg (ancells (ansP (answerR (hd :: tl))).1 av).toArray, .int .i64 (ansP (answerR (hd :: tl))).2]) ∧ OwnQ w' w.heap.size av (ansP (answerR (hd :: tl))).1.ps ∧ Below w.heap.size w w' := by
  cases hk : kdI ⟨hd.toArray⟩ with
  | none => rw [answerR_none hk]; exact rreadanswer_none v hd tl w hv hl hx hk
  | some k =>
    rw [answerR_some hk]
    by_cases h1 : k = 1
    · subst h1; exact rreadanswer_1 v hd tl w hv hl hx hk
    · by_cases h2 : k = 2
      · subst h2; exact rreadanswer_2 v hd tl w hv hl hx hk
      · by_cases h3 : k = 3
        · subst h3; exact rreadanswer_3 v hd tl w hv hl hx hk
        · exact rreadanswer_0 v hd tl w hv hl hx k hk h1 h2 h3
set_option maxHeartbeats 2000000 in
theorem rsame (a b : PL) (va vb : Value) (w : World) (ha : PR w va a) (hb : PR w vb b) (hn : a.length ≤ 100000) :
    Calls Tryd.prog 28 #[va, vb] w fun e w' => e = .returned (.bool (sameB a b)) ∧ Below w.heap.size w w' := by
  refine Calls.veil fun Q HQ => ?_
  by_cases hl : a.length = b.length
  · cases ha with
    | nil =>
      have hb0 : b = [] := List.eq_nil_of_length_eq_zero (by simpa using hl.symm)
      subst hb0
      have hQ : sameB [] [] = true := rfl
      rcases (show ∃ p c, vb = .slice p 0 c by cases hb with | nil => exact ⟨_, _, rfl⟩ | odd a c => exact ⟨_, _, rfl⟩ | row g o c => exact ⟨_, _, rfl⟩) with ⟨p, c, rfl⟩
      clear hb hl
      go_enter Tryd.func28, Tryd.ntmps28
      go_wp2_with fail
      refine wp_loop_rounds 1 ?_
      rw [rounds_succ]
      go_wp2_with fail
      (try go_ret)
      rw [HQ.out]
      exact ⟨ret_bool hQ.symm, Below.refl _ _⟩
    | odd aa cc hcc =>
      have hb0 : b = [] := List.eq_nil_of_length_eq_zero (by simpa using hl.symm)
      subst hb0
      have hQ : sameB [] [] = true := rfl
      rcases (show ∃ p c, vb = .slice p 0 c by cases hb with | nil => exact ⟨_, _, rfl⟩ | odd a c => exact ⟨_, _, rfl⟩ | row g o c => exact ⟨_, _, rfl⟩) with ⟨p, c, rfl⟩
      clear hb hl
      go_enter Tryd.func28, Tryd.ntmps28
      go_wp2_with fail
      refine wp_loop_rounds 1 ?_
      rw [rounds_succ]
      go_wp2_with fail
      (try go_ret)
      rw [HQ.out]
      exact ⟨ret_bool hQ.symm, Below.refl _ _⟩
    | row g o c _ h1 h2 h3 =>
      have H3 := Lib.hid h3
      clear h3
      rcases (show (a.length = 0) ∨ (0 < a.length) by omega) with h0 | h0
      · have ha0 : a = [] := List.eq_nil_of_length_eq_zero h0
        subst ha0
        have hb0 : b = [] := List.eq_nil_of_length_eq_zero (by simpa using hl.symm)
        subst hb0
        have hQ : sameB [] [] = true := rfl
        rcases (show ∃ p c, vb = .slice p 0 c by cases hb with | nil => exact ⟨_, _, rfl⟩ | odd a c => exact ⟨_, _, rfl⟩ | row g o c => exact ⟨_, _, rfl⟩) with ⟨p, c', rfl⟩
        clear hb hl H3 h0 h1 h2 hn
        show Calls _ _ #[.slice _ 0 _, _] _ _
        go_enter Tryd.func28, Tryd.ntmps28
        go_wp2_with fail
        refine wp_loop_rounds 1 ?_
        rw [rounds_succ]
        go_wp2_with fail
        (try go_ret)
        rw [HQ.out]
        exact ⟨ret_bool hQ.symm, Below.refl _ _⟩
      · cases hb with
        | nil => exact absurd hl (by show a.length ≠ 0; omega)
        | odd a c => exact absurd hl (by show _ ≠ 0; omega)
        | row g' o' c' _ k1 k2 k3 =>
          have K3 := Lib.hid k3
          clear k3
          obtain ⟨n, hn'⟩ : ∃ n, n = a.length := ⟨_, rfl⟩
          rw [← hl, ← hn'] at k1 ⊢
          rw [← hn'] at h0 h1 hn
          have HL := Lib.hid hl
          have HN := Lib.hid hn'
          clear hl hn'
          go_enter Tryd.func28, Tryd.ntmps28
          go_wp2_with fail
          go_loopw [5] (fun iv wr => ∃ i : Nat, i ≤ n ∧ iv = .int .i64 (i : Int) ∧ (∀ k, k < i → ky a k = ky b k ∧ vl a k = vl b k) ∧ Below w.heap.size w wr)
            (fun iv _ => n - (intOf iv).toNat)
          case atStart => exact ⟨0, by omega, rfl, by omega, Below.refl _ _⟩
          case round =>
            obtain ⟨i, hi, rfl, hk, hbel⟩ := hrel
            have HK := Lib.hid hk; clear hk
            rcases (by omega : i < n ∨ n ≤ i) with hlt | hge
            · have c0 := Ext.cell ⟨wr, hbel⟩ (H3.out i (by rw [← HN.out]; exact hlt)).1
              have c1 := Ext.cell ⟨wr, hbel⟩ (H3.out i (by rw [← HN.out]; exact hlt)).2
              have d0 := Ext.cell ⟨wr, hbel⟩ (K3.out i (by rw [← HL.out, ← HN.out]; exact hlt)).1
              have d1 := Ext.cell ⟨wr, hbel⟩ (K3.out i (by rw [← HL.out, ← HN.out]; exact hlt)).2
              simp only at c0 c1 d0 d1
              by_cases hc : ky a i = ky b i ∧ vl a i = vl b i
              · rw [← hc.1] at d0
                rw [← hc.2] at d1
                have HC := Lib.hid hc; clear hc
                go_wp2_with fail
                go_quiet (fail)
                have hbel' : Below w.heap.size w (wr.drewN nq) := below_drewN hbel _
                go_wp2_with fail
                go_roundw
                case rel => exact ⟨i + 1, by omega, by go_num, fun k hk => by rcases (by omega : k < i ∨ k = i) with h | rfl; exact HK.out k h; exact HC.out, hbel'⟩
                case measure => simp [intOf]; omega
              · have HC := Lib.hid hc
                rcases (show (ky a i == ky b i) = false ∨ ((ky a i == ky b i) = true ∧ (vl a i == vl b i) = false) by
                  by_cases e : ky a i = ky b i
                  · right; exact ⟨by simpa using e, by rw [beq_eq_false_iff_ne]; exact fun e' => hc ⟨e, e'⟩⟩
                  · left; simpa using e) with q | ⟨q, q'⟩
                all_goals
                  clear hc
                  go_wp2_with fail
                  go_quiet (fail)
                  have hbel' : Below w.heap.size w (wr.drewN nq) := below_drewN hbel _
                  go_wp2_with fail
                  (try go_ret)
                  rw [HQ.out]
                  exact ⟨ret_bool (same_not (by rw [← HN.out]; exact hlt) HC.out).symm, hbel'⟩
            · go_wp2_with fail
              (try go_ret)
              rw [HQ.out]
              exact ⟨ret_bool (same_all HL.out fun k hk => HK.out k (by rw [← HN.out] at hk; omega)).symm, hbel⟩
  · have hs := same_len hl
    have hne : ((a.length : Int) != (b.length : Int)) = true := by rw [bne_iff_ne]; omega
    have hne' : ((a.length : Int) == (b.length : Int)) = false := by rw [beq_eq_false_iff_ne]; omega
    rcases (show ∃ p c, va = .slice p a.length c by cases ha with | nil => exact ⟨_, _, rfl⟩ | odd a c => exact ⟨_, _, rfl⟩ | row g o c => exact ⟨_, _, rfl⟩) with ⟨p, c, rfl⟩
    rcases (show ∃ p c, vb = .slice p b.length c by cases hb with | nil => exact ⟨_, _, rfl⟩ | odd a c => exact ⟨_, _, rfl⟩ | row g o c => exact ⟨_, _, rfl⟩) with ⟨p', c', rfl⟩
    clear ha hb hl
    have HS := Lib.hid hs; clear hs
    generalize a.length = x at *
    generalize b.length = y at *
    go_enter Tryd.func28, Tryd.ntmps28
    go_wp2_with fail
    (try go_ret)
    rw [HQ.out]
    exact ⟨ret_bool HS.out.symm, Below.refl _ _⟩
theorem sameB_self (l : PL) : sameB l l = true := by simp [sameB]
set_option maxHeartbeats 1000000 in
theorem rsame9e (a : An) (v v' : Value) (w : World) (h : PR w v a.ps) (h' : PR w v' a.ps) (hn : a.ps.length ≤ 100000) : Calls Tryd.prog 12 #[.agg #[.int .i64 a.kind, .int .i64 a.key, .int .i64 a.val, .int .i64 a.n, v], .agg #[.int .i64 a.kind, .int .i64 a.key, .int .i64 a.val, .int .i64 a.n, v']] w fun e w' => e = .returned (.bool true) ∧ Below w.heap.size w w' := by
  obtain ⟨k, key, val, n, l⟩ := a
  simp only at *
  have HP := Lib.hid h; have HP' := Lib.hid h'
  obtain ⟨p, c, rfl, _, _⟩ := h.slice
  obtain ⟨p', c', rfl, _, _⟩ := h'.slice
  clear h h'
  refine Calls.veil fun Q HQ => ?_
  have RS := fun W (hb : Below w.heap.size w W) => rsame l l _ _ W (HP.out.below hb) (HP'.out.below hb) hn
  rw [sameB_self] at RS
  have RS := Lib.hid RS
  go_enter Tryd.func12, Tryd.ntmps12
  go_wp2_with fail
  refine (RS.out _ (by (repeat (first | exact Below.refl _ _ | assumption | refine below_new ?_ _ | refine Below.drew ?_ | refine below_drewN ?_ _ | refine below_on ?_ (by assumption))))).mono ?_; rintro _ w1 ⟨rfl, hb⟩
  have HB := Lib.hid (below_on (below_new (below_new (Below.refl w.heap.size w) _) _) hb)
  clear hb
  go_wp2_with fail
  (try go_ret)
  rw [HQ.out]
  exact ⟨rfl, HB.out⟩
/-- ReadCall, in one. -/
theorem treadcall (s : List UInt8) (w : World) (hs : s.length ≤ 5000) (hv : VB w.heap.size w) :
    Calls Tryd.prog 8 #[tx s] w fun e w' => e = .returned (.tuple #[caV (callP (callR (splitL 32 s))).1, .int .i64 (callP (callR (splitL 32 s))).2]) ∧ Below w.heap.size w w' := by
  cases hr : callR (splitL 32 s) with
  | ok c => exact treadcall_ok s w hs hv c hr
  | error y => exact treadcall_no s w hs hv y hr
/-- ReadAnswer, in one. -/
theorem treadanswer (s : List UInt8) (w : World) (hs : s.length ≤ 5000) (hv : VB w.heap.size w) :
    Calls Tryd.prog 10 #[tx s] w fun e w' => ∃ v, e = .returned (.tuple #[.agg (ancells (ansP (answerR (splitL 32 s))).1 v).toArray, .int .i64 (ansP (answerR (splitL 32 s))).2]) ∧ PR w' v (ansP (answerR (splitL 32 s))).1.ps ∧ Below w.heap.size w w' := by
  cases hr : answerR (splitL 32 s) with
  | ok a => exact treadanswer_ok s w hs hv a hr
  | error y => exact (treadanswer_no s w hs hv y hr).mono fun e w' h => ⟨_, h.1, .nil, h.2⟩
theorem pairsOf_le : ∀ {l : List (List UInt8)} {ps : PL}, pairsOf l = some ps → ps.length ≤ l.length := fun h => Nat.le_of_eq (pairsOf_len h)
theorem answerR_len (ws : List (List UInt8)) : (ansP (answerR ws)).1.ps.length ≤ ws.length := by
  unfold answerR
  split
  · exact Nat.zero_le _
  · rename_i k hk
    unfold tailR
    split
    · split
      · split <;> exact Nat.zero_le _
      · exact Nat.zero_le _
    · split
      · split
        · split <;> exact Nat.zero_le _
        · exact Nat.zero_le _
      · split
        · split
          · rename_i ps hp
            have h := pairsOf_len hp
            rw [List.length_tail] at h
            show ps.length ≤ _
            omega
          · exact Nat.zero_le _
        · split <;> exact Nat.zero_le _
end Go.Proofs.YtdgplijnhkgeiaaDoor
