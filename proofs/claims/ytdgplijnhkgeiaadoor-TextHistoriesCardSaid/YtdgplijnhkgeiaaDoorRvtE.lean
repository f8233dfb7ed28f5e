/- Layer 35, histories: the reference's ReadHistory. (By gen_rvte.py.) -/
import Derived.Test.YtdgplijnhkgeiaaDoorRvtC
namespace Go.Proofs.YtdgplijnhkgeiaaDoor
open Go.RowKit
set_option linter.unusedVariables false
set_option linter.unusedSimpArgs false
theorem callR_err {ws : List (List UInt8)} {y : Int} (h : callR ws = .error y) : y ≠ 0 := by
  unfold callR at h
  split at h
  · cases h; decide
  · split at h
    · split at h
      · cases h
      · cases h; decide
    · cases h; decide
theorem tailR_err {k : Nat} {tl : List (List UInt8)} {y : Int} (h : tailR k tl = .error y) : y ≠ 0 := by
  unfold tailR at h
  repeat' split at h
  all_goals first | (cases h; done) | (cases h; decide)
theorem answerR_err {ws : List (List UInt8)} {y : Int} (h : answerR ws = .error y) : y ≠ 0 := by
  unfold answerR at h
  split at h
  · cases h; decide
  · exact tailR_err h
theorem ev_back {s r : List UInt8} {rr : List (List UInt8)} {t : Int} (hn : numOf s = some t) : ((ansP (answerR (r :: rr))).2 ≠ 0 ∧ eventW (bakW :: s :: r :: rr) = .error (ansP (answerR (r :: rr))).2) ∨ ((ansP (answerR (r :: rr))).2 = 0 ∧ eventW (bakW :: s :: r :: rr) = .ok ⟨t, true, ⟨0, 0, 0, 0, 0⟩, (ansP (answerR (r :: rr))).1⟩) := by
  rw [eventW_back hn]
  cases ha : answerR (r :: rr) with
  | ok a => exact .inr ⟨rfl, rfl⟩
  | error y => exact .inl ⟨answerR_err ha, rfl⟩
theorem ev_beg {s r : List UInt8} {rr : List (List UInt8)} {t : Int} (hn : numOf s = some t) : ((callP (callR (r :: rr))).2 ≠ 0 ∧ eventW (begW :: s :: r :: rr) = .error (callP (callR (r :: rr))).2) ∨ ((callP (callR (r :: rr))).2 = 0 ∧ eventW (begW :: s :: r :: rr) = .ok ⟨t, false, (callP (callR (r :: rr))).1, ⟨0, 0, 0, 0, []⟩⟩) := by
  rw [eventW_beg hn]
  cases ha : callR (r :: rr) with
  | ok a => exact .inr ⟨rfl, rfl⟩
  | error y => exact .inl ⟨callR_err ha, rfl⟩
/-- Where the history stands that is read so far, in no box. -/
structure HV (W1 : World) (ov : Value) (acc : List (Ev × Value)) (V : World) : Prop where
  own : OwnV V W1.heap.size ov acc
  qs : ∀ p ∈ acc, OwnQ V W1.heap.size p.2 p.1.an.ps
  bl : Below W1.heap.size W1 V
theorem HV.on {W1 : World} {ov : Value} {acc : List (Ev × Value)} {V V' : World} (h : HV W1 ov acc V) (k : Below V.heap.size V V') : HV W1 ov acc V' :=
  ⟨World.ownsRow.kept h.own (grown_of_below k) (by cases ov.ownBlock <;> simp), fun p hp => World.ownsRow.kept (h.qs p hp) (grown_of_below k) (by cases p.2.ownBlock <;> simp), below_on h.bl k⟩
theorem HV.step {W1 : World} {ov ov' : Value} {acc : List (Ev × Value)} {V V' : World} {e : Ev} {v : Value} (h : HV W1 ov acc V) (hv : OwnQ V W1.heap.size v e.an.ps) (hown : OwnV V' W1.heap.size ov' (acc ++ [(e, v)])) (hg : V.grownBy V' ov.ownBlock) : HV W1 ov' (acc ++ [(e, v)]) V' := by
  refine ⟨hown, fun p hp => ?_, h.bl.grown hg h.bl.size (ownV_ge h.own)⟩
  rcases List.mem_append.1 hp with hp | hp
  · exact World.ownsRow.kept (h.qs p hp) hg (ownQV_ne (h.qs p hp) h.own)
  · rw [List.mem_singleton.1 hp]
    exact World.ownsRow.kept hv hg (ownQV_ne hv h.own)
theorem own_cap {w : World} {B m c : Nat} {q : Option Addr} {L : List (List UInt8)} (h : OwnT w B (.slice q m c) L) : L.length ≤ c := by
  rcases h.2 with ⟨h1, h2⟩ | ⟨g, cap, cur, hv, hb, hh, hc, hm, hs, ht⟩
  · rw [h2]; exact Nat.zero_le _
  · simp only [Value.slice.injEq] at hv
    rw [hv.2.2]; exact hc
theorem own_tail {w3 W : World} {B pw m c3 : Nat} {f s2 r : List UInt8} {rr : List (List UInt8)} (h : OwnT w3 B (.slice (some ⟨pw, 0, none⟩) m c3) (f :: s2 :: r :: rr)) (hm : m = rr.length + 3) (hb : Below w3.heap.size w3 W) : SR W (.slice (some ⟨pw, 2, none⟩) (m - 2) (c3 - 2)) (r :: rr) := by
  obtain ⟨p, k, h1, h2, h3, h4⟩ := own_SR h
  simp only [Value.slice.injEq] at h1
  obtain ⟨e1, e2, e3⟩ := h1
  subst e1 e3
  refine ⟨_, _, by rw [show m - 2 = (r :: rr).length by simp; omega], by simp at h2 ⊢; omega, by omega, fun i x hx => ⟨pw, 2, rfl, ?_⟩⟩
  obtain ⟨g, o, e4, h6⟩ := h4 (i + 2) x (by simpa using hx)
  injection e4 with e4
  injection e4 with e4 e5
  subst e4 e5
  rw [Nat.zero_add] at h6
  rw [show 2 + i = i + 2 by omega]
  exact Ext.cell ⟨W, hb⟩ h6
theorem ownsRow_lt {w : World} {B : Nat} {T : TypeId} {z : Nat} {v : Value} {n : Nat} {xs : List Value} (h : w.ownsRow B T z v n xs) : ∀ k, v.ownBlock = some k → k < w.heap.size := by
  intro k hk
  rcases h.2 with ⟨rfl, _⟩ | ⟨g, cap, cur, rfl, hg, hh, _⟩
  · cases hk
  · simp only [Value.ownBlock, Option.some.injEq] at hk
    subst hk
    exact (Array.getElem?_eq_some_iff.1 hh).1
theorem HV.lt {W1 : World} {ov : Value} {acc : List (Ev × Value)} {V : World} (h : HV W1 ov acc V) : (∀ k, ov.ownBlock = some k → k < V.heap.size) ∧ ∀ p ∈ acc, ∀ k, p.2.ownBlock = some k → k < V.heap.size :=
  ⟨ownsRow_lt h.own, fun p hp => ownsRow_lt (h.qs p hp)⟩
theorem putRow_grown (C i : Nat) (l : List Value) (W : World) : W.grownBy (putRow C i l W) (some C) :=
  ⟨(putRow_below C (Nat.zero_le _) l i W).os, (putRow_below C (Nat.zero_le _) l i W).tape, (putRow_below C (Nat.zero_le _) l i W).output, (putRow_below C (Nat.zero_le _) l i W).size, fun k _ h => putRow_other C l i W (fun e => h (by rw [e]))⟩
theorem HV.put {W1 : World} {ov : Value} {acc : List (Ev × Value)} {V : World} {C : Nat} (h : HV W1 ov acc V) (hC : W1.heap.size ≤ C) (h1 : ∀ k, ov.ownBlock = some k → k < C) (h2 : ∀ p ∈ acc, ∀ k, p.2.ownBlock = some k → k < C) (i : Nat) (l : List Value) : HV W1 ov acc (putRow C i l V) := by
  refine ⟨World.ownsRow.kept h.own (putRow_grown C i l V) (.inr fun e => absurd (h1 C e) (Nat.lt_irrefl _)), fun p hp => World.ownsRow.kept (h.qs p hp) (putRow_grown C i l V) (.inr fun e => absurd (h2 p hp C e) (Nat.lt_irrefl _)), h.bl.trans (putRow_below C hC l i V)⟩
theorem idx_lt2 {P : List (List UInt8)} {j n : Nat} (h : j < n) (hl : n = P.length) : ∃ u, P[j]? = some u ∧ P.drop j = u :: P.drop (j + 1) := by
  subst hl
  exact ⟨P[j], List.getElem?_eq_getElem h, List.drop_eq_getElem_cons h⟩
set_option maxRecDepth 16000 in
set_option maxHeartbeats 8000000 in
theorem rreadhist (s : List UInt8) (w : World) (hs : s.length ≤ 4000) :
    Calls Tryd.prog 14 #[tx s] w fun e w' => ∃ v, e = .returned (.tuple #[v, .int .i64 (hisP (histL (splitL 10 s))).2]) ∧ VL w' v (hisP (histL (splitL 10 s))).1 ∧ Below w.heap.size w w' := by
  refine Calls.veil fun Q HQ => ?_
  obtain ⟨r0, hr0⟩ : ∃ r, r = histL (splitL 10 s) := ⟨_, rfl⟩
  rw [← hr0] at HQ
  have HR0 := Lib.hid hr0
  have HS := Lib.hid hs
  have RC0 : Calls Tryd.prog 7 #[tx s, .int .u8 10] w fun e w' => ∃ v, e = .returned v ∧ OwnT w' w.heap.size v (splitL 10 s) ∧ Below w.heap.size w w' := rcutO s 10 w (by omega)
  have RC0 := Lib.hid RC0
  have HSL := Lib.hid (splitL_len 10 s)
  have HSW := Lib.hid (splitL_word 10 s)
  have HSN := Lib.hid (Nat.pos_of_ne_zero fun e => splitL_ne 10 s (List.eq_nil_of_length_eq_zero e))
  clear hr0 hs
  go_enter Tryd.func14, Tryd.ntmps14
  go_wp2_with fail
  refine RC0.out.mono ?_; rintro _ W1 ⟨pv, rfl, hot, hb⟩
  have HB1 := Lib.hid hb
  obtain ⟨q, qc, rfl⟩ := ownT_slice hot
  have HOT := Lib.hid hot
  clear hot hb RC0
  generalize splitL 10 s = Ls at *
  obtain ⟨n, hn⟩ : ∃ n, n = Ls.length := ⟨_, rfl⟩
  have HNN := Lib.hid hn
  rw [← hn]
  rw [← hn] at HOT HSL HSN
  obtain ⟨u0, hu0, _⟩ := idx_lt2 HSN.out hn
  obtain ⟨pb, rfl, _⟩ := ownT_cell HOT.out hu0
  have hn4 : n ≤ 4001 := by have := HSL.out; have := HS.out; omega
  have HN4 := Lib.hid hn4
  clear hn hu0 hn4
  go_wp2_with fail
  go_loopw [4, 6] (fun ov iv wr => ∃ (i : Nat) (acc : List (Ev × Value)), i < n ∧ acc.length ≤ i ∧ iv = .int .i64 i ∧ Hid (r0 = preR (acc.map Prod.fst) (histL (Ls.drop i))) ∧ Hid (HV W1 ov acc wr))
    (fun _ iv _ => n - (intOf iv).toNat)
  case atStart => exact ⟨0, [], HSN.out, Nat.le_refl _, rfl, Lib.hid (by rw [List.drop_zero, HR0.out]; exact (preR_nil _).symm), Lib.hid ⟨ownV_nil _ _, (fun p hp => by cases hp), Below.refl _ _⟩⟩
  case round =>
    obtain ⟨i, acc, hi, hai, rfl, HI, HW⟩ := hrel
    obtain ⟨op, oc, rfl⟩ := ownV_slice HW.out.own
    obtain ⟨x, hx, hdr⟩ := idx_lt2 hi HNN.out
    obtain ⟨pb', e0, c0⟩ := ownT_cell HOT.out hx
    injection e0 with e0
    injection e0 with e0
    subst e0
    have c0 := Ext.cell ⟨wr, HW.out.bl⟩ c0
    simp only at c0
    have HXW := Lib.hid (HSW.out x (List.mem_of_getElem? hx))
    have HDR := Lib.hid hdr
    have HAI := Lib.hid hai
    have hiI : (i : Int) < (n : Int) := by omega
    have HI4 := Lib.hid (show i ≤ 4001 by have := HN4.out; omega)
    have hw1 : wrap64 ((i : Int) + 1) = (i : Int) + 1 := wrap_id ⟨by omega, by have := HI4.out; omega⟩
    have hw2 : IntKind.i64.wrap ((i : Int) + 1) = (i : Int) + 1 := wrapi_id ⟨by omega, by have := HI4.out; omega⟩
    have hw3 : wrap64 ((n : Int) - 1) = (n : Int) - 1 := wrap_id ⟨by omega, by have := HN4.out; omega⟩
    have hw4 : IntKind.i64.wrap ((n : Int) - 1) = (n : Int) - 1 := wrapi_id ⟨by omega, by have := HN4.out; omega⟩
    have RC : Calls Tryd.prog 7 #[tx x, .int .u8 32] wr fun e w' => ∃ v, e = .returned v ∧ OwnT w' wr.heap.size v (splitL 32 x) ∧ Below wr.heap.size wr w' := rcutO x 32 wr (by have := HXW.out; have := HS.out; omega)
    have RC := Lib.hid RC
    have HB := Lib.hid (show Below w.heap.size w wr from HB1.out.trans (HW.out.bl.mono HB1.out.size))
    clear hx hdr hai
    by_cases hl : i + 1 = n
    · have HDE : Hid (Ls.drop i = [x]) := Lib.hid (by rw [HDR.out, List.drop_eq_nil_of_le (by rw [← HNN.out]; omega)])
      have k1 : ((i : Int) == (n : Int) - 1) = true := beq_iff_eq.2 (by omega)
      have HL := Lib.hid hl
      clear hl
      by_cases hx0 : x = []
      · subst hx0
        have HOK := Lib.hid (show r0 = .ok (acc.map Prod.fst) by rw [HI.out, HDE.out, hist_last0]; simp [preR])
        go_wp2_with fail
        (try go_ret)
        rw [HQ.out, HOK.out]
        exact ⟨_, rfl, ownV_VL HW.out.own HW.out.qs, HB.out⟩
      · have k3 : (x == []) = false := beq_eq_false_iff_ne.2 hx0
        have HER := Lib.hid (fun (y : Int) (h : eventW (splitL 32 x) = .error y) => show r0 = .error y by rw [HI.out, HDE.out, hist_last_no hx0 h]; rfl)
        have HLO := Lib.hid (fun (e : Ev) (h : eventW (splitL 32 x) = .ok e) => show r0 = .error 5 by rw [HI.out, HDE.out, hist_last_ok hx0 h]; rfl)
        clear hx0 HDE
        go_wp2_with fail
        refine RC.out.mono ?_; rintro _ w3 ⟨wv, rfl, hot, hb⟩
        obtain ⟨q3, c3, rfl⟩ := ownT_slice hot
        have HOW := Lib.hid hot
        have HV3 := Lib.hid (HW.out.on hb)
        have HB3 := Lib.hid (below_on HB.out hb)
        have HUW := Lib.hid (fun u hu => Nat.le_trans (splitL_word 32 x u hu) (Nat.le_trans HXW.out HS.out))
        have HUL := Lib.hid (show (splitL 32 x).length ≤ 4001 by have := splitL_len 32 x; have := HXW.out; have := HS.out; omega)
        clear hot hb RC HW HB c0
        generalize splitL 32 x = ws at *
        by_cases hm : ws.length < 3
        · have hm1 : (ws.length : Int) < 3 := by omega
          have HOK := Lib.hid (HER.out 4 (eventW_short hm))
          clear hm
          go_wp2_with fail
          (try go_ret)
          rw [HQ.out, HOK.out]
          exact ⟨_, rfl, .nil _, HB3.out⟩
        obtain ⟨f, s2, r, rr, rfl⟩ : ∃ f s2 r rr, ws = f :: s2 :: r :: rr := by
          match ws, hm with
          | [], h => exact absurd (by simp) h
          | [_], h => exact absurd (by simp) h
          | [_, _], h => exact absurd (by simp) h
          | f :: s2 :: r :: rr, _ => exact ⟨f, s2, r, rr, rfl⟩
        clear hm
        obtain ⟨m, hm⟩ : ∃ m, m = (f :: s2 :: r :: rr).length := ⟨_, rfl⟩
        have HMM : Hid (m = rr.length + 3) := Lib.hid hm
        obtain ⟨pw, hq3, d0⟩ := ownT_cell HOW.out (j := 0) (u := f) rfl
        obtain ⟨pw', e1, d1⟩ := ownT_cell HOW.out (j := 1) (u := s2) rfl
        subst hq3
        injection e1 with e1
        injection e1 with e1
        subst e1
        rw [← hm] at HOW ⊢
        have hcap := own_cap HOW.out
        rw [← hm] at hcap
        have m0 : ¬ (m : Int) < 3 := by have := HMM.out; omega
        have m1 : (0 : Int) < (m : Int) := by have := HMM.out; omega
        have m2 : (1 : Int) < (m : Int) := by have := HMM.out; omega
        have m3 : 0 < m := by have := HMM.out; omega
        have m4 : 1 < m := by have := HMM.out; omega
        have m5 : (2 : Int) ≤ (m : Int) := by have := HMM.out; omega
        have m6 : 2 ≤ m := by have := HMM.out; omega
        have m7 : ¬ c3 = 2 := by have := HMM.out; omega
        have m8 : m ≤ c3 := hcap
        have m9 : (m : Int) ≤ (c3 : Int) := by omega
        clear hm hcap
        have HOP := Lib.hid (fun (W : World) (h : Below w3.heap.size w3 W) => own_tail (HOW.out) HMM.out h)
        by_cases hf1 : f = begW
        case neg =>
          by_cases hf2 : f = bakW
          case neg =>
            have HOK := Lib.hid (HER.out 4 (eventW_word hf1 hf2))
            have k5 : ¬ f = [98, 101, 103, 105, 110] := hf1
            have k6 : ¬ f = [98, 97, 99, 107] := hf2
            have k7 : (f == [98, 101, 103, 105, 110]) = false := beq_eq_false_iff_ne.2 k5
            have k8 : (f == [98, 97, 99, 107]) = false := beq_eq_false_iff_ne.2 k6
            clear hf1 hf2
            go_wp2_with fail
            (try go_ret)
            rw [HQ.out, HOK.out]
            exact ⟨_, rfl, .nil _, HB3.out⟩
          case pos =>
            subst hf2
            unfold bakW at *
            cases hn : numOf s2 with
            | none =>
              have HOK := Lib.hid (HER.out 4 (eventW_num hn))
              have PN := Lib.hid (rparse_no s2 w3 (numOf_not hn) (Nat.le_trans (HUW.out s2 (by simp)) (by decide)))
              clear hn
              go_wp2_with fail
              refine PN.out.mono ?_; rintro _ w5 ⟨rfl, hb⟩
              have HB5 := Lib.hid (below_on HB3.out hb)
              clear hb
              go_wp2_with fail
              (try go_ret)
              rw [HQ.out, HOK.out]
              exact ⟨_, rfl, .nil _, HB5.out⟩
            | some t =>
              have HEV := ev_back (r := r) (rr := rr) hn
              have PY := Lib.hid (rparse s2 t w3 (numOf_is hn))
              have HRA := Lib.hid (fun (W : World) (v : Value) (h : SR W v (r :: rr)) => rreadanswer v r rr W h (by have := HUL.out; simp at this; omega) (fun u hu => Nat.le_trans (HUW.out u (by simp [hu])) (by decide)))
              have HRC := Lib.hid (fun (W : World) (v : Value) (h : SR W v (r :: rr)) => rreadcall v r rr W h (by have := HUL.out; simp at this; omega) (fun u hu => Nat.le_trans (HUW.out u (by simp [hu])) (by decide)))
              clear hn
              obtain ⟨⟨⟨cop, ckey, cval, chi, clim⟩, cy⟩, hcp⟩ : ∃ x, x = callP (callR (r :: rr)) := ⟨_, rfl⟩
              obtain ⟨⟨⟨ak, akey, aval, an, aps⟩, ay⟩, hap⟩ : ∃ x, x = ansP (answerR (r :: rr)) := ⟨_, rfl⟩
              rw [← hcp] at HRC
              rw [← hap] at HRA
              rw [← hap] at HEV
              simp only at HRA HRC HEV
              simp only [ancells] at HRA
              have HEV := Lib.hid HEV
              clear hcp hap
              go_wp2_with fail
              refine PY.out.mono ?_; rintro _ w5 ⟨rfl, hb⟩
              have hb35 := hb
              have d0 := Ext.cell ⟨w5, hb⟩ d0
              simp only at d0
              have HV5 := Lib.hid (HV3.out.on hb)
              have HB5 := Lib.hid (below_on HB3.out hb)
              have HS5 := Lib.hid (show SR w5 (.slice (some ⟨pw, 2, none⟩) (m - 2) (c3 - 2)) (r :: rr) from HOP.out w5 hb)
              clear hb hb35 PY
              go_upto_region 15 with fail
              obtain ⟨C, hC⟩ : ∃ C, C = w5.heap.size := ⟨_, rfl⟩
              rw [← hC]
              have hbk := HV5.out.lt
              rw [← hC] at hbk
              have FLT := Lib.hid hbk
              clear hbk
              generalize hU : World.alloc w5 _ = U
              have FU := Lib.hid (show HV W1 (.slice op acc.length oc) acc U ∧ Below w.heap.size w U ∧ SR U (.slice (some ⟨pw, 2, none⟩) (m - 2) (c3 - 2)) (r :: rr) ∧ U.heap[C]? = some (.cells (evcells ⟨t, true, ⟨0, 0, 0, 0, 0⟩, ⟨0, 0, 0, 0, []⟩⟩ (.slice none 0 0)).toArray 45 (0, 0)) ∧ W1.heap.size ≤ C ∧ C < U.heap.size by
                rw [← hU, hC]
                have hk : Below w5.heap.size w5 (w5.alloc (.cells #[.int .i64 t, .bool true, .int .i64 0, .int .i64 0, .int .i64 0, .int .i64 0, .int .i64 0, .int .i64 0, .int .i64 0, .int .i64 0, .int .i64 0, .slice none 0 0] 45)) := below_new (Below.refl _ _) _
                exact ⟨HV5.out.on hk, below_new HB5.out _, HS5.out.below hk, heap_alloc_new w5 _, HV5.out.bl.size, by simp⟩)
              clear hU hC HV5 HB5 HS5 d0 d1 HV3 HB3
              go_wp2_with fail
              refine (HRA.out U _ FU.out.2.2.1).mono ?_; rintro _ w6 ⟨v, rfl, hown, hb⟩
              obtain ⟨q7, c7, rfl⟩ := ownQ_slice hown
              have F6 := Lib.hid (show HV W1 (.slice op acc.length oc) acc w6 ∧ Below w.heap.size w w6 ∧ SR w6 (.slice (some ⟨pw, 2, none⟩) (m - 2) (c3 - 2)) (r :: rr) ∧ w6.heap[C]? = some (.cells (evcells ⟨t, true, ⟨0, 0, 0, 0, 0⟩, ⟨0, 0, 0, 0, []⟩⟩ (.slice none 0 0)).toArray 45 (0, 0)) ∧ OwnQ w6 U.heap.size (.slice q7 aps.length c7) aps from ⟨FU.out.1.on hb, below_on FU.out.2.1 hb, FU.out.2.2.1.below hb, upk hb FU.out.2.2.2.1, hown⟩)
              clear hb hown HRA
              go_upto_region 16 with fail
              obtain ⟨CA, hCA⟩ : ∃ C, C = w6.heap.size := ⟨_, rfl⟩
              rw [← hCA]
              generalize hU : World.alloc w6 _ = U2
              have F7 := Lib.hid (show HV W1 (.slice op acc.length oc) acc U2 ∧ Below w.heap.size w U2 ∧ SR U2 (.slice (some ⟨pw, 2, none⟩) (m - 2) (c3 - 2)) (r :: rr) ∧ U2.heap[C]? = some (.cells (evcells ⟨t, true, ⟨0, 0, 0, 0, 0⟩, ⟨0, 0, 0, 0, []⟩⟩ (.slice none 0 0)).toArray 45 (0, 0)) ∧ OwnQ U2 U.heap.size (.slice q7 aps.length c7) aps ∧ U2.heap[CA]? = some (.cells (ancells ⟨ak, akey, aval, an, aps⟩ (.slice q7 aps.length c7)).toArray 33 (0, 0)) by
                rw [← hU, hCA]
                have hk : Below w6.heap.size w6 (w6.alloc (.cells #[.int .i64 ak, .int .i64 akey, .int .i64 aval, .int .i64 an, .slice q7 aps.length c7] 33)) := below_new (Below.refl _ _) _
                exact ⟨F6.out.1.on hk, below_new F6.out.2.1 _, F6.out.2.2.1.below hk, upk hk F6.out.2.2.2.1, World.ownsRow.alloc F6.out.2.2.2.2 _, heap_alloc_new w6 _⟩)
              clear hU hCA F6
              go_wp2_with fail
              refine (HRC.out U2 _ F7.out.2.2.1).mono ?_; rintro _ w8 ⟨rfl, hb⟩
              have F8 := Lib.hid (show HV W1 (.slice op acc.length oc) acc w8 ∧ Below w.heap.size w w8 ∧ w8.heap[C]? = some (.cells (evcells ⟨t, true, ⟨0, 0, 0, 0, 0⟩, ⟨0, 0, 0, 0, []⟩⟩ (.slice none 0 0)).toArray 45 (0, 0)) ∧ OwnQ w8 U.heap.size (.slice q7 aps.length c7) aps ∧ w8.heap[CA]? = some (.cells (ancells ⟨ak, akey, aval, an, aps⟩ (.slice q7 aps.length c7)).toArray 33 (0, 0)) from ⟨F7.out.1.on hb, below_on F7.out.2.1 hb, upk hb F7.out.2.2.2.1, World.ownsRow.kept F7.out.2.2.2.2.1 (grown_of_below hb) (by cases (Value.slice q7 aps.length c7).ownBlock <;> simp), upk hb F7.out.2.2.2.2.2⟩)
              clear hb HRC F7
              go_upto_region 17 with fail
              obtain ⟨CC, hCC⟩ : ∃ C, C = w8.heap.size := ⟨_, rfl⟩
              rw [← hCC]
              generalize hU : World.alloc w8 _ = U3
              have F9 := Lib.hid (show HV W1 (.slice op acc.length oc) acc U3 ∧ Below w.heap.size w U3 ∧ U3.heap[C]? = some (.cells (evcells ⟨t, true, ⟨0, 0, 0, 0, 0⟩, ⟨0, 0, 0, 0, []⟩⟩ (.slice none 0 0)).toArray 45 (0, 0)) ∧ OwnQ U3 U.heap.size (.slice q7 aps.length c7) aps ∧ U3.heap[CA]? = some (.cells (ancells ⟨ak, akey, aval, an, aps⟩ (.slice q7 aps.length c7)).toArray 33 (0, 0)) ∧ U3.heap[CC]? = some (.cells (cacells ⟨cop, ckey, cval, chi, clim⟩).toArray 26 (0, 0)) by
                rw [← hU, hCC]
                have hk : Below w8.heap.size w8 (w8.alloc (.cells #[.int .i64 cop, .int .i64 ckey, .int .i64 cval, .int .i64 chi, .int .i64 clim] 26)) := below_new (Below.refl _ _) _
                exact ⟨F8.out.1.on hk, below_new F8.out.2.1 _, upk hk F8.out.2.2.1, World.ownsRow.alloc F8.out.2.2.2.1 _, upk hk F8.out.2.2.2.2, heap_alloc_new w8 _⟩)
              clear hU hCC F8
              have x0 : U3.cell? ⟨C, 0, none⟩ = some (.int .i64 t) := rowc F9.out.2.2.1 _ rfl
              have x1 : U3.cell? ⟨C, 1, none⟩ = some (.bool true) := rowc F9.out.2.2.1 _ rfl
              have x2 : U3.cell? ⟨C, 2, none⟩ = some (.int .i64 0) := rowc F9.out.2.2.1 _ rfl
              have x3 : U3.cell? ⟨C, 3, none⟩ = some (.int .i64 0) := rowc F9.out.2.2.1 _ rfl
              have x4 : U3.cell? ⟨C, 4, none⟩ = some (.int .i64 0) := rowc F9.out.2.2.1 _ rfl
              have x5 : U3.cell? ⟨C, 5, none⟩ = some (.int .i64 0) := rowc F9.out.2.2.1 _ rfl
              have x6 : U3.cell? ⟨C, 6, none⟩ = some (.int .i64 0) := rowc F9.out.2.2.1 _ rfl
              have x7 : U3.cell? ⟨C, 7, none⟩ = some (.int .i64 0) := rowc F9.out.2.2.1 _ rfl
              have x8 : U3.cell? ⟨C, 8, none⟩ = some (.int .i64 0) := rowc F9.out.2.2.1 _ rfl
              have x9 : U3.cell? ⟨C, 9, none⟩ = some (.int .i64 0) := rowc F9.out.2.2.1 _ rfl
              have x10 : U3.cell? ⟨C, 10, none⟩ = some (.int .i64 0) := rowc F9.out.2.2.1 _ rfl
              have x11 : U3.cell? ⟨C, 11, none⟩ = some (.slice none 0 0) := rowc F9.out.2.2.1 _ rfl
              have xf : ∀ i, U3.frozen? ⟨C, i, none⟩ = false := fun i => frozen_of_row _ _ _ _ _ F9.out.2.2.1
              have y0 : U3.cell? ⟨CA, 0, none⟩ = some (.int .i64 ak) := rowc F9.out.2.2.2.2.1 _ rfl
              have y1 : U3.cell? ⟨CA, 1, none⟩ = some (.int .i64 akey) := rowc F9.out.2.2.2.2.1 _ rfl
              have y2 : U3.cell? ⟨CA, 2, none⟩ = some (.int .i64 aval) := rowc F9.out.2.2.2.2.1 _ rfl
              have y3 : U3.cell? ⟨CA, 3, none⟩ = some (.int .i64 an) := rowc F9.out.2.2.2.2.1 _ rfl
              have y4 : U3.cell? ⟨CA, 4, none⟩ = some (.slice q7 aps.length c7) := rowc F9.out.2.2.2.2.1 _ rfl
              go_upto_region 21 with fail
              generalize hW6 : World.setCell _ _ _ = w9
              have H9 := Lib.hid (show w9 = putRow C 7 (ancells ⟨ak, akey, aval, an, aps⟩ (.slice q7 aps.length c7)) U3 by rw [← hW6]; rfl)
              clear hW6 x0 x1 x2 x3 x4 x5 x6 x7 x8 x9 x10 x11 y0 y1 y2 y3 y4 xf
              have HC9 := Lib.hid (show w9.heap[C]? = some (.cells (evcells ⟨t, true, ⟨0, 0, 0, 0, 0⟩, ⟨ak, akey, aval, an, aps⟩⟩ (.slice q7 aps.length c7)).toArray 45 (0, 0)) by
                rw [H9.out]; exact putRow_at C (ancells ⟨ak, akey, aval, an, aps⟩ (.slice q7 aps.length c7)) 7 U3 _ F9.out.2.2.1 (of_decide_eq_true rfl))
              have HQ9 := Lib.hid (show OwnQ w9 W1.heap.size (.slice q7 aps.length c7) (⟨t, true, ⟨0, 0, 0, 0, 0⟩, ⟨ak, akey, aval, an, aps⟩⟩ : Ev).an.ps by rw [H9.out]; exact ownQ_mono (putRow_own FU.out.2.2.2.2.2 _ _ F9.out.2.2.2.1) FU.out.1.bl.size)
              have HV9 := Lib.hid (show HV W1 (.slice op acc.length oc) acc w9 from by rw [H9.out]; exact HV.put F9.out.1 FU.out.2.2.2.2.1 FLT.out.1 FLT.out.2 _ _)
              have HB9 := Lib.hid (show Below w.heap.size w w9 by rw [H9.out]; exact F9.out.2.1.trans (putRow_below C (Nat.le_trans HB1.out.size FU.out.2.2.2.2.1) _ _ _))
              rcases HEV.out with ⟨hy, he⟩ | ⟨hy, he⟩
              · have HOK := Lib.hid (HER.out _ he)
                have k9 : (ay != 0) = true := by simpa using hy
                clear hy he
                go_wp2_with fail
                (try go_ret)
                rw [HQ.out, HOK.out]
                exact ⟨_, rfl, .nil _, HB9.out⟩
              · subst hy
                have HOK := Lib.hid (HLO.out _ he)
                clear he
                go_wp2_with fail
                (try go_ret)
                rw [HQ.out, HOK.out]
                exact ⟨_, rfl, .nil _, HB9.out⟩
        case pos =>
          subst hf1
          unfold begW at *
          cases hn : numOf s2 with
          | none =>
            have HOK := Lib.hid (HER.out 4 (eventW_num hn))
            have PN := Lib.hid (rparse_no s2 w3 (numOf_not hn) (Nat.le_trans (HUW.out s2 (by simp)) (by decide)))
            clear hn
            go_wp2_with fail
            refine PN.out.mono ?_; rintro _ w5 ⟨rfl, hb⟩
            have HB5 := Lib.hid (below_on HB3.out hb)
            clear hb
            go_wp2_with fail
            (try go_ret)
            rw [HQ.out, HOK.out]
            exact ⟨_, rfl, .nil _, HB5.out⟩
          | some t =>
            have HEV := ev_beg (r := r) (rr := rr) hn
            have PY := Lib.hid (rparse s2 t w3 (numOf_is hn))
            have HRA := Lib.hid (fun (W : World) (v : Value) (h : SR W v (r :: rr)) => rreadanswer v r rr W h (by have := HUL.out; simp at this; omega) (fun u hu => Nat.le_trans (HUW.out u (by simp [hu])) (by decide)))
            have HRC := Lib.hid (fun (W : World) (v : Value) (h : SR W v (r :: rr)) => rreadcall v r rr W h (by have := HUL.out; simp at this; omega) (fun u hu => Nat.le_trans (HUW.out u (by simp [hu])) (by decide)))
            clear hn
            obtain ⟨⟨⟨cop, ckey, cval, chi, clim⟩, cy⟩, hcp⟩ : ∃ x, x = callP (callR (r :: rr)) := ⟨_, rfl⟩
            obtain ⟨⟨⟨ak, akey, aval, an, aps⟩, ay⟩, hap⟩ : ∃ x, x = ansP (answerR (r :: rr)) := ⟨_, rfl⟩
            rw [← hcp] at HRC
            rw [← hap] at HRA
            rw [← hcp] at HEV
            simp only at HRA HRC HEV
            simp only [ancells] at HRA
            have HEV := Lib.hid HEV
            clear hcp hap
            go_wp2_with fail
            refine PY.out.mono ?_; rintro _ w5 ⟨rfl, hb⟩
            have hb35 := hb
            have d0 := Ext.cell ⟨w5, hb⟩ d0
            simp only at d0
            have HV5 := Lib.hid (HV3.out.on hb)
            have HB5 := Lib.hid (below_on HB3.out hb)
            have HS5 := Lib.hid (show SR w5 (.slice (some ⟨pw, 2, none⟩) (m - 2) (c3 - 2)) (r :: rr) from HOP.out w5 hb)
            clear hb hb35 PY
            go_upto_region 15 with fail
            obtain ⟨C, hC⟩ : ∃ C, C = w5.heap.size := ⟨_, rfl⟩
            rw [← hC]
            have hbk := HV5.out.lt
            rw [← hC] at hbk
            have FLT := Lib.hid hbk
            clear hbk
            generalize hU : World.alloc w5 _ = U
            have FU := Lib.hid (show HV W1 (.slice op acc.length oc) acc U ∧ Below w.heap.size w U ∧ SR U (.slice (some ⟨pw, 2, none⟩) (m - 2) (c3 - 2)) (r :: rr) ∧ U.heap[C]? = some (.cells (evcells ⟨t, false, ⟨0, 0, 0, 0, 0⟩, ⟨0, 0, 0, 0, []⟩⟩ (.slice none 0 0)).toArray 45 (0, 0)) ∧ W1.heap.size ≤ C ∧ C < U.heap.size by
              rw [← hU, hC]
              have hk : Below w5.heap.size w5 (w5.alloc (.cells #[.int .i64 t, .bool false, .int .i64 0, .int .i64 0, .int .i64 0, .int .i64 0, .int .i64 0, .int .i64 0, .int .i64 0, .int .i64 0, .int .i64 0, .slice none 0 0] 45)) := below_new (Below.refl _ _) _
              exact ⟨HV5.out.on hk, below_new HB5.out _, HS5.out.below hk, heap_alloc_new w5 _, HV5.out.bl.size, by simp⟩)
            clear hU hC HV5 HB5 HS5 d0 d1 HV3 HB3
            go_wp2_with fail
            refine (HRA.out U _ FU.out.2.2.1).mono ?_; rintro _ w6 ⟨v, rfl, hown, hb⟩
            obtain ⟨q7, c7, rfl⟩ := ownQ_slice hown
            have F6 := Lib.hid (show HV W1 (.slice op acc.length oc) acc w6 ∧ Below w.heap.size w w6 ∧ SR w6 (.slice (some ⟨pw, 2, none⟩) (m - 2) (c3 - 2)) (r :: rr) ∧ w6.heap[C]? = some (.cells (evcells ⟨t, false, ⟨0, 0, 0, 0, 0⟩, ⟨0, 0, 0, 0, []⟩⟩ (.slice none 0 0)).toArray 45 (0, 0)) ∧ OwnQ w6 U.heap.size (.slice q7 aps.length c7) aps from ⟨FU.out.1.on hb, below_on FU.out.2.1 hb, FU.out.2.2.1.below hb, upk hb FU.out.2.2.2.1, hown⟩)
            clear hb hown HRA
            go_upto_region 16 with fail
            obtain ⟨CA, hCA⟩ : ∃ C, C = w6.heap.size := ⟨_, rfl⟩
            rw [← hCA]
            generalize hU : World.alloc w6 _ = U2
            have F7 := Lib.hid (show HV W1 (.slice op acc.length oc) acc U2 ∧ Below w.heap.size w U2 ∧ SR U2 (.slice (some ⟨pw, 2, none⟩) (m - 2) (c3 - 2)) (r :: rr) ∧ U2.heap[C]? = some (.cells (evcells ⟨t, false, ⟨0, 0, 0, 0, 0⟩, ⟨0, 0, 0, 0, []⟩⟩ (.slice none 0 0)).toArray 45 (0, 0)) ∧ OwnQ U2 U.heap.size (.slice q7 aps.length c7) aps ∧ U2.heap[CA]? = some (.cells (ancells ⟨ak, akey, aval, an, aps⟩ (.slice q7 aps.length c7)).toArray 33 (0, 0)) by
              rw [← hU, hCA]
              have hk : Below w6.heap.size w6 (w6.alloc (.cells #[.int .i64 ak, .int .i64 akey, .int .i64 aval, .int .i64 an, .slice q7 aps.length c7] 33)) := below_new (Below.refl _ _) _
              exact ⟨F6.out.1.on hk, below_new F6.out.2.1 _, F6.out.2.2.1.below hk, upk hk F6.out.2.2.2.1, World.ownsRow.alloc F6.out.2.2.2.2 _, heap_alloc_new w6 _⟩)
            clear hU hCA F6
            go_wp2_with fail
            refine (HRC.out U2 _ F7.out.2.2.1).mono ?_; rintro _ w8 ⟨rfl, hb⟩
            have F8 := Lib.hid (show HV W1 (.slice op acc.length oc) acc w8 ∧ Below w.heap.size w w8 ∧ w8.heap[C]? = some (.cells (evcells ⟨t, false, ⟨0, 0, 0, 0, 0⟩, ⟨0, 0, 0, 0, []⟩⟩ (.slice none 0 0)).toArray 45 (0, 0)) ∧ OwnQ w8 U.heap.size (.slice q7 aps.length c7) aps ∧ w8.heap[CA]? = some (.cells (ancells ⟨ak, akey, aval, an, aps⟩ (.slice q7 aps.length c7)).toArray 33 (0, 0)) from ⟨F7.out.1.on hb, below_on F7.out.2.1 hb, upk hb F7.out.2.2.2.1, World.ownsRow.kept F7.out.2.2.2.2.1 (grown_of_below hb) (by cases (Value.slice q7 aps.length c7).ownBlock <;> simp), upk hb F7.out.2.2.2.2.2⟩)
            clear hb HRC F7
            go_upto_region 17 with fail
            obtain ⟨CC, hCC⟩ : ∃ C, C = w8.heap.size := ⟨_, rfl⟩
            rw [← hCC]
            generalize hU : World.alloc w8 _ = U3
            have F9 := Lib.hid (show HV W1 (.slice op acc.length oc) acc U3 ∧ Below w.heap.size w U3 ∧ U3.heap[C]? = some (.cells (evcells ⟨t, false, ⟨0, 0, 0, 0, 0⟩, ⟨0, 0, 0, 0, []⟩⟩ (.slice none 0 0)).toArray 45 (0, 0)) ∧ OwnQ U3 U.heap.size (.slice q7 aps.length c7) aps ∧ U3.heap[CA]? = some (.cells (ancells ⟨ak, akey, aval, an, aps⟩ (.slice q7 aps.length c7)).toArray 33 (0, 0)) ∧ U3.heap[CC]? = some (.cells (cacells ⟨cop, ckey, cval, chi, clim⟩).toArray 26 (0, 0)) by
              rw [← hU, hCC]
              have hk : Below w8.heap.size w8 (w8.alloc (.cells #[.int .i64 cop, .int .i64 ckey, .int .i64 cval, .int .i64 chi, .int .i64 clim] 26)) := below_new (Below.refl _ _) _
              exact ⟨F8.out.1.on hk, below_new F8.out.2.1 _, upk hk F8.out.2.2.1, World.ownsRow.alloc F8.out.2.2.2.1 _, upk hk F8.out.2.2.2.2, heap_alloc_new w8 _⟩)
            clear hU hCC F8
            have x0 : U3.cell? ⟨C, 0, none⟩ = some (.int .i64 t) := rowc F9.out.2.2.1 _ rfl
            have x1 : U3.cell? ⟨C, 1, none⟩ = some (.bool false) := rowc F9.out.2.2.1 _ rfl
            have x2 : U3.cell? ⟨C, 2, none⟩ = some (.int .i64 0) := rowc F9.out.2.2.1 _ rfl
            have x3 : U3.cell? ⟨C, 3, none⟩ = some (.int .i64 0) := rowc F9.out.2.2.1 _ rfl
            have x4 : U3.cell? ⟨C, 4, none⟩ = some (.int .i64 0) := rowc F9.out.2.2.1 _ rfl
            have x5 : U3.cell? ⟨C, 5, none⟩ = some (.int .i64 0) := rowc F9.out.2.2.1 _ rfl
            have x6 : U3.cell? ⟨C, 6, none⟩ = some (.int .i64 0) := rowc F9.out.2.2.1 _ rfl
            have x7 : U3.cell? ⟨C, 7, none⟩ = some (.int .i64 0) := rowc F9.out.2.2.1 _ rfl
            have x8 : U3.cell? ⟨C, 8, none⟩ = some (.int .i64 0) := rowc F9.out.2.2.1 _ rfl
            have x9 : U3.cell? ⟨C, 9, none⟩ = some (.int .i64 0) := rowc F9.out.2.2.1 _ rfl
            have x10 : U3.cell? ⟨C, 10, none⟩ = some (.int .i64 0) := rowc F9.out.2.2.1 _ rfl
            have x11 : U3.cell? ⟨C, 11, none⟩ = some (.slice none 0 0) := rowc F9.out.2.2.1 _ rfl
            have xf : ∀ i, U3.frozen? ⟨C, i, none⟩ = false := fun i => frozen_of_row _ _ _ _ _ F9.out.2.2.1
            have y0 : U3.cell? ⟨CC, 0, none⟩ = some (.int .i64 cop) := rowc F9.out.2.2.2.2.2 _ rfl
            have y1 : U3.cell? ⟨CC, 1, none⟩ = some (.int .i64 ckey) := rowc F9.out.2.2.2.2.2 _ rfl
            have y2 : U3.cell? ⟨CC, 2, none⟩ = some (.int .i64 cval) := rowc F9.out.2.2.2.2.2 _ rfl
            have y3 : U3.cell? ⟨CC, 3, none⟩ = some (.int .i64 chi) := rowc F9.out.2.2.2.2.2 _ rfl
            have y4 : U3.cell? ⟨CC, 4, none⟩ = some (.int .i64 clim) := rowc F9.out.2.2.2.2.2 _ rfl
            go_upto_region 21 with fail
            generalize hW6 : World.setCell _ _ _ = w9
            have H9 := Lib.hid (show w9 = putRow C 2 (cacells ⟨cop, ckey, cval, chi, clim⟩) U3 by rw [← hW6]; rfl)
            clear hW6 x0 x1 x2 x3 x4 x5 x6 x7 x8 x9 x10 x11 y0 y1 y2 y3 y4 xf
            have HC9 := Lib.hid (show w9.heap[C]? = some (.cells (evcells ⟨t, false, ⟨cop, ckey, cval, chi, clim⟩, ⟨0, 0, 0, 0, []⟩⟩ (.slice none 0 0)).toArray 45 (0, 0)) by
              rw [H9.out]; exact putRow_at C (cacells ⟨cop, ckey, cval, chi, clim⟩) 2 U3 _ F9.out.2.2.1 (of_decide_eq_true rfl))
            have HQ9 := Lib.hid (show OwnQ w9 W1.heap.size (.slice none 0 0) (⟨t, false, ⟨cop, ckey, cval, chi, clim⟩, ⟨0, 0, 0, 0, []⟩⟩ : Ev).an.ps by exact ownQ_nil _ _)
            have HV9 := Lib.hid (show HV W1 (.slice op acc.length oc) acc w9 from by rw [H9.out]; exact HV.put F9.out.1 FU.out.2.2.2.2.1 FLT.out.1 FLT.out.2 _ _)
            have HB9 := Lib.hid (show Below w.heap.size w w9 by rw [H9.out]; exact F9.out.2.1.trans (putRow_below C (Nat.le_trans HB1.out.size FU.out.2.2.2.2.1) _ _ _))
            rcases HEV.out with ⟨hy, he⟩ | ⟨hy, he⟩
            · have HOK := Lib.hid (HER.out _ he)
              have k9 : (cy != 0) = true := by simpa using hy
              clear hy he
              go_wp2_with fail
              (try go_ret)
              rw [HQ.out, HOK.out]
              exact ⟨_, rfl, .nil _, HB9.out⟩
            · subst hy
              have HOK := Lib.hid (HLO.out _ he)
              clear he
              go_wp2_with fail
              (try go_ret)
              rw [HQ.out, HOK.out]
              exact ⟨_, rfl, .nil _, HB9.out⟩
    · have HNE := Lib.hid (show Ls.drop (i + 1) ≠ [] from fun e => by have := List.drop_eq_nil_iff.1 e; rw [← HNN.out] at this; omega)
      have k1 : ((i : Int) == (n : Int) - 1) = false := beq_eq_false_iff_ne.2 (by omega)
      have k2 : ¬ (i : Int) = (n : Int) - 1 := by omega
      have HL := Lib.hid (show i + 1 < n by omega)
      have HER := Lib.hid (fun (y : Int) (h : eventW (splitL 32 x) = .error y) => show r0 = .error y by rw [HI.out, HDR.out, hist_no HNE.out h]; rfl)
      have HGO := Lib.hid (fun (e : Ev) (h : eventW (splitL 32 x) = .ok e) => show r0 = preR (acc.map Prod.fst ++ [e]) (histL (Ls.drop (i + 1))) by rw [HI.out, HDR.out, hist_ok _ HNE.out h])
      clear hl HNE
      go_wp2_with fail
      refine RC.out.mono ?_; rintro _ w3 ⟨wv, rfl, hot, hb⟩
      obtain ⟨q3, c3, rfl⟩ := ownT_slice hot
      have HOW := Lib.hid hot
      have HV3 := Lib.hid (HW.out.on hb)
      have HB3 := Lib.hid (below_on HB.out hb)
      have HUW := Lib.hid (fun u hu => Nat.le_trans (splitL_word 32 x u hu) (Nat.le_trans HXW.out HS.out))
      have HUL := Lib.hid (show (splitL 32 x).length ≤ 4001 by have := splitL_len 32 x; have := HXW.out; have := HS.out; omega)
      clear hot hb RC HW HB c0
      generalize splitL 32 x = ws at *
      by_cases hm : ws.length < 3
      · have hm1 : (ws.length : Int) < 3 := by omega
        have HOK := Lib.hid (HER.out 4 (eventW_short hm))
        clear hm
        go_wp2_with fail
        (try go_ret)
        rw [HQ.out, HOK.out]
        exact ⟨_, rfl, .nil _, HB3.out⟩
      obtain ⟨f, s2, r, rr, rfl⟩ : ∃ f s2 r rr, ws = f :: s2 :: r :: rr := by
        match ws, hm with
        | [], h => exact absurd (by simp) h
        | [_], h => exact absurd (by simp) h
        | [_, _], h => exact absurd (by simp) h
        | f :: s2 :: r :: rr, _ => exact ⟨f, s2, r, rr, rfl⟩
      clear hm
      obtain ⟨m, hm⟩ : ∃ m, m = (f :: s2 :: r :: rr).length := ⟨_, rfl⟩
      have HMM : Hid (m = rr.length + 3) := Lib.hid hm
      obtain ⟨pw, hq3, d0⟩ := ownT_cell HOW.out (j := 0) (u := f) rfl
      obtain ⟨pw', e1, d1⟩ := ownT_cell HOW.out (j := 1) (u := s2) rfl
      subst hq3
      injection e1 with e1
      injection e1 with e1
      subst e1
      rw [← hm] at HOW ⊢
      have hcap := own_cap HOW.out
      rw [← hm] at hcap
      have m0 : ¬ (m : Int) < 3 := by have := HMM.out; omega
      have m1 : (0 : Int) < (m : Int) := by have := HMM.out; omega
      have m2 : (1 : Int) < (m : Int) := by have := HMM.out; omega
      have m3 : 0 < m := by have := HMM.out; omega
      have m4 : 1 < m := by have := HMM.out; omega
      have m5 : (2 : Int) ≤ (m : Int) := by have := HMM.out; omega
      have m6 : 2 ≤ m := by have := HMM.out; omega
      have m7 : ¬ c3 = 2 := by have := HMM.out; omega
      have m8 : m ≤ c3 := hcap
      have m9 : (m : Int) ≤ (c3 : Int) := by omega
      clear hm hcap
      have HOP := Lib.hid (fun (W : World) (h : Below w3.heap.size w3 W) => own_tail (HOW.out) HMM.out h)
      by_cases hf1 : f = begW
      case neg =>
        by_cases hf2 : f = bakW
        case neg =>
          have HOK := Lib.hid (HER.out 4 (eventW_word hf1 hf2))
          have k5 : ¬ f = [98, 101, 103, 105, 110] := hf1
          have k6 : ¬ f = [98, 97, 99, 107] := hf2
          have k7 : (f == [98, 101, 103, 105, 110]) = false := beq_eq_false_iff_ne.2 k5
          have k8 : (f == [98, 97, 99, 107]) = false := beq_eq_false_iff_ne.2 k6
          clear hf1 hf2
          go_wp2_with fail
          (try go_ret)
          rw [HQ.out, HOK.out]
          exact ⟨_, rfl, .nil _, HB3.out⟩
        case pos =>
          subst hf2
          unfold bakW at *
          cases hn : numOf s2 with
          | none =>
            have HOK := Lib.hid (HER.out 4 (eventW_num hn))
            have PN := Lib.hid (rparse_no s2 w3 (numOf_not hn) (Nat.le_trans (HUW.out s2 (by simp)) (by decide)))
            clear hn
            go_wp2_with fail
            refine PN.out.mono ?_; rintro _ w5 ⟨rfl, hb⟩
            have HB5 := Lib.hid (below_on HB3.out hb)
            clear hb
            go_wp2_with fail
            (try go_ret)
            rw [HQ.out, HOK.out]
            exact ⟨_, rfl, .nil _, HB5.out⟩
          | some t =>
            have HEV := ev_back (r := r) (rr := rr) hn
            have PY := Lib.hid (rparse s2 t w3 (numOf_is hn))
            have HRA := Lib.hid (fun (W : World) (v : Value) (h : SR W v (r :: rr)) => rreadanswer v r rr W h (by have := HUL.out; simp at this; omega) (fun u hu => Nat.le_trans (HUW.out u (by simp [hu])) (by decide)))
            have HRC := Lib.hid (fun (W : World) (v : Value) (h : SR W v (r :: rr)) => rreadcall v r rr W h (by have := HUL.out; simp at this; omega) (fun u hu => Nat.le_trans (HUW.out u (by simp [hu])) (by decide)))
            clear hn
            obtain ⟨⟨⟨cop, ckey, cval, chi, clim⟩, cy⟩, hcp⟩ : ∃ x, x = callP (callR (r :: rr)) := ⟨_, rfl⟩
            obtain ⟨⟨⟨ak, akey, aval, an, aps⟩, ay⟩, hap⟩ : ∃ x, x = ansP (answerR (r :: rr)) := ⟨_, rfl⟩
            rw [← hcp] at HRC
            rw [← hap] at HRA
            rw [← hap] at HEV
            simp only at HRA HRC HEV
            simp only [ancells] at HRA
            have HEV := Lib.hid HEV
            clear hcp hap
            go_wp2_with fail
            refine PY.out.mono ?_; rintro _ w5 ⟨rfl, hb⟩
            have hb35 := hb
            have d0 := Ext.cell ⟨w5, hb⟩ d0
            simp only at d0
            have HV5 := Lib.hid (HV3.out.on hb)
            have HB5 := Lib.hid (below_on HB3.out hb)
            have HS5 := Lib.hid (show SR w5 (.slice (some ⟨pw, 2, none⟩) (m - 2) (c3 - 2)) (r :: rr) from HOP.out w5 hb)
            clear hb hb35 PY
            go_upto_region 15 with fail
            obtain ⟨C, hC⟩ : ∃ C, C = w5.heap.size := ⟨_, rfl⟩
            rw [← hC]
            have hbk := HV5.out.lt
            rw [← hC] at hbk
            have FLT := Lib.hid hbk
            clear hbk
            generalize hU : World.alloc w5 _ = U
            have FU := Lib.hid (show HV W1 (.slice op acc.length oc) acc U ∧ Below w.heap.size w U ∧ SR U (.slice (some ⟨pw, 2, none⟩) (m - 2) (c3 - 2)) (r :: rr) ∧ U.heap[C]? = some (.cells (evcells ⟨t, true, ⟨0, 0, 0, 0, 0⟩, ⟨0, 0, 0, 0, []⟩⟩ (.slice none 0 0)).toArray 45 (0, 0)) ∧ W1.heap.size ≤ C ∧ C < U.heap.size by
              rw [← hU, hC]
              have hk : Below w5.heap.size w5 (w5.alloc (.cells #[.int .i64 t, .bool true, .int .i64 0, .int .i64 0, .int .i64 0, .int .i64 0, .int .i64 0, .int .i64 0, .int .i64 0, .int .i64 0, .int .i64 0, .slice none 0 0] 45)) := below_new (Below.refl _ _) _
              exact ⟨HV5.out.on hk, below_new HB5.out _, HS5.out.below hk, heap_alloc_new w5 _, HV5.out.bl.size, by simp⟩)
            clear hU hC HV5 HB5 HS5 d0 d1 HV3 HB3
            go_wp2_with fail
            refine (HRA.out U _ FU.out.2.2.1).mono ?_; rintro _ w6 ⟨v, rfl, hown, hb⟩
            obtain ⟨q7, c7, rfl⟩ := ownQ_slice hown
            have F6 := Lib.hid (show HV W1 (.slice op acc.length oc) acc w6 ∧ Below w.heap.size w w6 ∧ SR w6 (.slice (some ⟨pw, 2, none⟩) (m - 2) (c3 - 2)) (r :: rr) ∧ w6.heap[C]? = some (.cells (evcells ⟨t, true, ⟨0, 0, 0, 0, 0⟩, ⟨0, 0, 0, 0, []⟩⟩ (.slice none 0 0)).toArray 45 (0, 0)) ∧ OwnQ w6 U.heap.size (.slice q7 aps.length c7) aps from ⟨FU.out.1.on hb, below_on FU.out.2.1 hb, FU.out.2.2.1.below hb, upk hb FU.out.2.2.2.1, hown⟩)
            clear hb hown HRA
            go_upto_region 16 with fail
            obtain ⟨CA, hCA⟩ : ∃ C, C = w6.heap.size := ⟨_, rfl⟩
            rw [← hCA]
            generalize hU : World.alloc w6 _ = U2
            have F7 := Lib.hid (show HV W1 (.slice op acc.length oc) acc U2 ∧ Below w.heap.size w U2 ∧ SR U2 (.slice (some ⟨pw, 2, none⟩) (m - 2) (c3 - 2)) (r :: rr) ∧ U2.heap[C]? = some (.cells (evcells ⟨t, true, ⟨0, 0, 0, 0, 0⟩, ⟨0, 0, 0, 0, []⟩⟩ (.slice none 0 0)).toArray 45 (0, 0)) ∧ OwnQ U2 U.heap.size (.slice q7 aps.length c7) aps ∧ U2.heap[CA]? = some (.cells (ancells ⟨ak, akey, aval, an, aps⟩ (.slice q7 aps.length c7)).toArray 33 (0, 0)) by
              rw [← hU, hCA]
              have hk : Below w6.heap.size w6 (w6.alloc (.cells #[.int .i64 ak, .int .i64 akey, .int .i64 aval, .int .i64 an, .slice q7 aps.length c7] 33)) := below_new (Below.refl _ _) _
              exact ⟨F6.out.1.on hk, below_new F6.out.2.1 _, F6.out.2.2.1.below hk, upk hk F6.out.2.2.2.1, World.ownsRow.alloc F6.out.2.2.2.2 _, heap_alloc_new w6 _⟩)
            clear hU hCA F6
            go_wp2_with fail
            refine (HRC.out U2 _ F7.out.2.2.1).mono ?_; rintro _ w8 ⟨rfl, hb⟩
            have F8 := Lib.hid (show HV W1 (.slice op acc.length oc) acc w8 ∧ Below w.heap.size w w8 ∧ w8.heap[C]? = some (.cells (evcells ⟨t, true, ⟨0, 0, 0, 0, 0⟩, ⟨0, 0, 0, 0, []⟩⟩ (.slice none 0 0)).toArray 45 (0, 0)) ∧ OwnQ w8 U.heap.size (.slice q7 aps.length c7) aps ∧ w8.heap[CA]? = some (.cells (ancells ⟨ak, akey, aval, an, aps⟩ (.slice q7 aps.length c7)).toArray 33 (0, 0)) from ⟨F7.out.1.on hb, below_on F7.out.2.1 hb, upk hb F7.out.2.2.2.1, World.ownsRow.kept F7.out.2.2.2.2.1 (grown_of_below hb) (by cases (Value.slice q7 aps.length c7).ownBlock <;> simp), upk hb F7.out.2.2.2.2.2⟩)
            clear hb HRC F7
            go_upto_region 17 with fail
            obtain ⟨CC, hCC⟩ : ∃ C, C = w8.heap.size := ⟨_, rfl⟩
            rw [← hCC]
            generalize hU : World.alloc w8 _ = U3
            have F9 := Lib.hid (show HV W1 (.slice op acc.length oc) acc U3 ∧ Below w.heap.size w U3 ∧ U3.heap[C]? = some (.cells (evcells ⟨t, true, ⟨0, 0, 0, 0, 0⟩, ⟨0, 0, 0, 0, []⟩⟩ (.slice none 0 0)).toArray 45 (0, 0)) ∧ OwnQ U3 U.heap.size (.slice q7 aps.length c7) aps ∧ U3.heap[CA]? = some (.cells (ancells ⟨ak, akey, aval, an, aps⟩ (.slice q7 aps.length c7)).toArray 33 (0, 0)) ∧ U3.heap[CC]? = some (.cells (cacells ⟨cop, ckey, cval, chi, clim⟩).toArray 26 (0, 0)) by
              rw [← hU, hCC]
              have hk : Below w8.heap.size w8 (w8.alloc (.cells #[.int .i64 cop, .int .i64 ckey, .int .i64 cval, .int .i64 chi, .int .i64 clim] 26)) := below_new (Below.refl _ _) _
              exact ⟨F8.out.1.on hk, below_new F8.out.2.1 _, upk hk F8.out.2.2.1, World.ownsRow.alloc F8.out.2.2.2.1 _, upk hk F8.out.2.2.2.2, heap_alloc_new w8 _⟩)
            clear hU hCC F8
            have x0 : U3.cell? ⟨C, 0, none⟩ = some (.int .i64 t) := rowc F9.out.2.2.1 _ rfl
            have x1 : U3.cell? ⟨C, 1, none⟩ = some (.bool true) := rowc F9.out.2.2.1 _ rfl
            have x2 : U3.cell? ⟨C, 2, none⟩ = some (.int .i64 0) := rowc F9.out.2.2.1 _ rfl
            have x3 : U3.cell? ⟨C, 3, none⟩ = some (.int .i64 0) := rowc F9.out.2.2.1 _ rfl
            have x4 : U3.cell? ⟨C, 4, none⟩ = some (.int .i64 0) := rowc F9.out.2.2.1 _ rfl
            have x5 : U3.cell? ⟨C, 5, none⟩ = some (.int .i64 0) := rowc F9.out.2.2.1 _ rfl
            have x6 : U3.cell? ⟨C, 6, none⟩ = some (.int .i64 0) := rowc F9.out.2.2.1 _ rfl
            have x7 : U3.cell? ⟨C, 7, none⟩ = some (.int .i64 0) := rowc F9.out.2.2.1 _ rfl
            have x8 : U3.cell? ⟨C, 8, none⟩ = some (.int .i64 0) := rowc F9.out.2.2.1 _ rfl
            have x9 : U3.cell? ⟨C, 9, none⟩ = some (.int .i64 0) := rowc F9.out.2.2.1 _ rfl
            have x10 : U3.cell? ⟨C, 10, none⟩ = some (.int .i64 0) := rowc F9.out.2.2.1 _ rfl
            have x11 : U3.cell? ⟨C, 11, none⟩ = some (.slice none 0 0) := rowc F9.out.2.2.1 _ rfl
            have xf : ∀ i, U3.frozen? ⟨C, i, none⟩ = false := fun i => frozen_of_row _ _ _ _ _ F9.out.2.2.1
            have y0 : U3.cell? ⟨CA, 0, none⟩ = some (.int .i64 ak) := rowc F9.out.2.2.2.2.1 _ rfl
            have y1 : U3.cell? ⟨CA, 1, none⟩ = some (.int .i64 akey) := rowc F9.out.2.2.2.2.1 _ rfl
            have y2 : U3.cell? ⟨CA, 2, none⟩ = some (.int .i64 aval) := rowc F9.out.2.2.2.2.1 _ rfl
            have y3 : U3.cell? ⟨CA, 3, none⟩ = some (.int .i64 an) := rowc F9.out.2.2.2.2.1 _ rfl
            have y4 : U3.cell? ⟨CA, 4, none⟩ = some (.slice q7 aps.length c7) := rowc F9.out.2.2.2.2.1 _ rfl
            go_upto_region 21 with fail
            generalize hW6 : World.setCell _ _ _ = w9
            have H9 := Lib.hid (show w9 = putRow C 7 (ancells ⟨ak, akey, aval, an, aps⟩ (.slice q7 aps.length c7)) U3 by rw [← hW6]; rfl)
            clear hW6 x0 x1 x2 x3 x4 x5 x6 x7 x8 x9 x10 x11 y0 y1 y2 y3 y4 xf
            have HC9 := Lib.hid (show w9.heap[C]? = some (.cells (evcells ⟨t, true, ⟨0, 0, 0, 0, 0⟩, ⟨ak, akey, aval, an, aps⟩⟩ (.slice q7 aps.length c7)).toArray 45 (0, 0)) by
              rw [H9.out]; exact putRow_at C (ancells ⟨ak, akey, aval, an, aps⟩ (.slice q7 aps.length c7)) 7 U3 _ F9.out.2.2.1 (of_decide_eq_true rfl))
            have HQ9 := Lib.hid (show OwnQ w9 W1.heap.size (.slice q7 aps.length c7) (⟨t, true, ⟨0, 0, 0, 0, 0⟩, ⟨ak, akey, aval, an, aps⟩⟩ : Ev).an.ps by rw [H9.out]; exact ownQ_mono (putRow_own FU.out.2.2.2.2.2 _ _ F9.out.2.2.2.1) FU.out.1.bl.size)
            have HV9 := Lib.hid (show HV W1 (.slice op acc.length oc) acc w9 from by rw [H9.out]; exact HV.put F9.out.1 FU.out.2.2.2.2.1 FLT.out.1 FLT.out.2 _ _)
            have HB9 := Lib.hid (show Below w.heap.size w w9 by rw [H9.out]; exact F9.out.2.1.trans (putRow_below C (Nat.le_trans HB1.out.size FU.out.2.2.2.2.1) _ _ _))
            rcases HEV.out with ⟨hy, he⟩ | ⟨hy, he⟩
            · have HOK := Lib.hid (HER.out _ he)
              have k9 : (ay != 0) = true := by simpa using hy
              clear hy he
              go_wp2_with fail
              (try go_ret)
              rw [HQ.out, HOK.out]
              exact ⟨_, rfl, .nil _, HB9.out⟩
            · subst hy
              have HGN := Lib.hid (HGO.out _ he)
              clear he
              have z0 : w9.cell? ⟨C, 0, none⟩ = some (.int .i64 t) := rowc HC9.out _ rfl
              have z1 : w9.cell? ⟨C, 1, none⟩ = some (.bool true) := rowc HC9.out _ rfl
              have z2 : w9.cell? ⟨C, 2, none⟩ = some (.int .i64 0) := rowc HC9.out _ rfl
              have z3 : w9.cell? ⟨C, 3, none⟩ = some (.int .i64 0) := rowc HC9.out _ rfl
              have z4 : w9.cell? ⟨C, 4, none⟩ = some (.int .i64 0) := rowc HC9.out _ rfl
              have z5 : w9.cell? ⟨C, 5, none⟩ = some (.int .i64 0) := rowc HC9.out _ rfl
              have z6 : w9.cell? ⟨C, 6, none⟩ = some (.int .i64 0) := rowc HC9.out _ rfl
              have z7 : w9.cell? ⟨C, 7, none⟩ = some (.int .i64 ak) := rowc HC9.out _ rfl
              have z8 : w9.cell? ⟨C, 8, none⟩ = some (.int .i64 akey) := rowc HC9.out _ rfl
              have z9 : w9.cell? ⟨C, 9, none⟩ = some (.int .i64 aval) := rowc HC9.out _ rfl
              have z10 : w9.cell? ⟨C, 10, none⟩ = some (.int .i64 an) := rowc HC9.out _ rfl
              have z11 : w9.cell? ⟨C, 11, none⟩ = some (.slice q7 aps.length c7) := rowc HC9.out _ rfl
              go_wp2_with (at_builtin; refine wpList_append_v1 rfl (.tmp 98) (.tmp 100) rfl W1.heap.size _ acc ⟨t, true, ⟨0, 0, 0, 0, 0⟩, ⟨ak, akey, aval, an, aps⟩⟩ q7 aps.length c7 w9.heap.size 1 rfl (World.ownsRow.alloc HV9.out.own _) rfl (new_cells w9 (evcells ⟨t, true, ⟨0, 0, 0, 0, 0⟩, ⟨ak, akey, aval, an, aps⟩⟩ (.slice q7 aps.length c7)) 45) (by have := HAI.out; have := HI4.out; omega) (size_al _ HV9.out.bl.size) ?_)
              intro v1 w10 hown hg
              have H10 := Lib.hid (HV.step (HV9.out.on ((Below.refl w9.heap.size w9).alloc (Nat.le_refl _) _)) (e := ⟨t, true, ⟨0, 0, 0, 0, 0⟩, ⟨ak, akey, aval, an, aps⟩⟩) (v := (.slice q7 aps.length c7)) (World.ownsRow.alloc HQ9.out _) hown hg)
              have HIN := Lib.hid (show r0 = preR ((acc ++ [((⟨t, true, ⟨0, 0, 0, 0, 0⟩, ⟨ak, akey, aval, an, aps⟩⟩ : Ev), ((.slice q7 aps.length c7) : Value))]).map Prod.fst) (histL (Ls.drop (i + 1))) by rw [HGN.out]; simp)
              clear hown hg z0 z1 z2 z3 z4 z5 z6 z7 z8 z9 z10 z11
              go_wp2_with fail
              go_roundw
              case rel => exact ⟨i + 1, _, HL.out, by have := HAI.out; simp; omega, by go_num, HIN, H10⟩
              case measure => exact meas1 (Nat.lt_of_succ_lt HL.out)
      case pos =>
        subst hf1
        unfold begW at *
        cases hn : numOf s2 with
        | none =>
          have HOK := Lib.hid (HER.out 4 (eventW_num hn))
          have PN := Lib.hid (rparse_no s2 w3 (numOf_not hn) (Nat.le_trans (HUW.out s2 (by simp)) (by decide)))
          clear hn
          go_wp2_with fail
          refine PN.out.mono ?_; rintro _ w5 ⟨rfl, hb⟩
          have HB5 := Lib.hid (below_on HB3.out hb)
          clear hb
          go_wp2_with fail
          (try go_ret)
          rw [HQ.out, HOK.out]
          exact ⟨_, rfl, .nil _, HB5.out⟩
        | some t =>
          have HEV := ev_beg (r := r) (rr := rr) hn
          have PY := Lib.hid (rparse s2 t w3 (numOf_is hn))
          have HRA := Lib.hid (fun (W : World) (v : Value) (h : SR W v (r :: rr)) => rreadanswer v r rr W h (by have := HUL.out; simp at this; omega) (fun u hu => Nat.le_trans (HUW.out u (by simp [hu])) (by decide)))
          have HRC := Lib.hid (fun (W : World) (v : Value) (h : SR W v (r :: rr)) => rreadcall v r rr W h (by have := HUL.out; simp at this; omega) (fun u hu => Nat.le_trans (HUW.out u (by simp [hu])) (by decide)))
          clear hn
          obtain ⟨⟨⟨cop, ckey, cval, chi, clim⟩, cy⟩, hcp⟩ : ∃ x, x = callP (callR (r :: rr)) := ⟨_, rfl⟩
          obtain ⟨⟨⟨ak, akey, aval, an, aps⟩, ay⟩, hap⟩ : ∃ x, x = ansP (answerR (r :: rr)) := ⟨_, rfl⟩
          rw [← hcp] at HRC
          rw [← hap] at HRA
          rw [← hcp] at HEV
          simp only at HRA HRC HEV
          simp only [ancells] at HRA
          have HEV := Lib.hid HEV
          clear hcp hap
          go_wp2_with fail
          refine PY.out.mono ?_; rintro _ w5 ⟨rfl, hb⟩
          have hb35 := hb
          have d0 := Ext.cell ⟨w5, hb⟩ d0
          simp only at d0
          have HV5 := Lib.hid (HV3.out.on hb)
          have HB5 := Lib.hid (below_on HB3.out hb)
          have HS5 := Lib.hid (show SR w5 (.slice (some ⟨pw, 2, none⟩) (m - 2) (c3 - 2)) (r :: rr) from HOP.out w5 hb)
          clear hb hb35 PY
          go_upto_region 15 with fail
          obtain ⟨C, hC⟩ : ∃ C, C = w5.heap.size := ⟨_, rfl⟩
          rw [← hC]
          have hbk := HV5.out.lt
          rw [← hC] at hbk
          have FLT := Lib.hid hbk
          clear hbk
          generalize hU : World.alloc w5 _ = U
          have FU := Lib.hid (show HV W1 (.slice op acc.length oc) acc U ∧ Below w.heap.size w U ∧ SR U (.slice (some ⟨pw, 2, none⟩) (m - 2) (c3 - 2)) (r :: rr) ∧ U.heap[C]? = some (.cells (evcells ⟨t, false, ⟨0, 0, 0, 0, 0⟩, ⟨0, 0, 0, 0, []⟩⟩ (.slice none 0 0)).toArray 45 (0, 0)) ∧ W1.heap.size ≤ C ∧ C < U.heap.size by
            rw [← hU, hC]
            have hk : Below w5.heap.size w5 (w5.alloc (.cells #[.int .i64 t, .bool false, .int .i64 0, .int .i64 0, .int .i64 0, .int .i64 0, .int .i64 0, .int .i64 0, .int .i64 0, .int .i64 0, .int .i64 0, .slice none 0 0] 45)) := below_new (Below.refl _ _) _
            exact ⟨HV5.out.on hk, below_new HB5.out _, HS5.out.below hk, heap_alloc_new w5 _, HV5.out.bl.size, by simp⟩)
          clear hU hC HV5 HB5 HS5 d0 d1 HV3 HB3
          go_wp2_with fail
          refine (HRA.out U _ FU.out.2.2.1).mono ?_; rintro _ w6 ⟨v, rfl, hown, hb⟩
          obtain ⟨q7, c7, rfl⟩ := ownQ_slice hown
          have F6 := Lib.hid (show HV W1 (.slice op acc.length oc) acc w6 ∧ Below w.heap.size w w6 ∧ SR w6 (.slice (some ⟨pw, 2, none⟩) (m - 2) (c3 - 2)) (r :: rr) ∧ w6.heap[C]? = some (.cells (evcells ⟨t, false, ⟨0, 0, 0, 0, 0⟩, ⟨0, 0, 0, 0, []⟩⟩ (.slice none 0 0)).toArray 45 (0, 0)) ∧ OwnQ w6 U.heap.size (.slice q7 aps.length c7) aps from ⟨FU.out.1.on hb, below_on FU.out.2.1 hb, FU.out.2.2.1.below hb, upk hb FU.out.2.2.2.1, hown⟩)
          clear hb hown HRA
          go_upto_region 16 with fail
          obtain ⟨CA, hCA⟩ : ∃ C, C = w6.heap.size := ⟨_, rfl⟩
          rw [← hCA]
          generalize hU : World.alloc w6 _ = U2
          have F7 := Lib.hid (show HV W1 (.slice op acc.length oc) acc U2 ∧ Below w.heap.size w U2 ∧ SR U2 (.slice (some ⟨pw, 2, none⟩) (m - 2) (c3 - 2)) (r :: rr) ∧ U2.heap[C]? = some (.cells (evcells ⟨t, false, ⟨0, 0, 0, 0, 0⟩, ⟨0, 0, 0, 0, []⟩⟩ (.slice none 0 0)).toArray 45 (0, 0)) ∧ OwnQ U2 U.heap.size (.slice q7 aps.length c7) aps ∧ U2.heap[CA]? = some (.cells (ancells ⟨ak, akey, aval, an, aps⟩ (.slice q7 aps.length c7)).toArray 33 (0, 0)) by
            rw [← hU, hCA]
            have hk : Below w6.heap.size w6 (w6.alloc (.cells #[.int .i64 ak, .int .i64 akey, .int .i64 aval, .int .i64 an, .slice q7 aps.length c7] 33)) := below_new (Below.refl _ _) _
            exact ⟨F6.out.1.on hk, below_new F6.out.2.1 _, F6.out.2.2.1.below hk, upk hk F6.out.2.2.2.1, World.ownsRow.alloc F6.out.2.2.2.2 _, heap_alloc_new w6 _⟩)
          clear hU hCA F6
          go_wp2_with fail
          refine (HRC.out U2 _ F7.out.2.2.1).mono ?_; rintro _ w8 ⟨rfl, hb⟩
          have F8 := Lib.hid (show HV W1 (.slice op acc.length oc) acc w8 ∧ Below w.heap.size w w8 ∧ w8.heap[C]? = some (.cells (evcells ⟨t, false, ⟨0, 0, 0, 0, 0⟩, ⟨0, 0, 0, 0, []⟩⟩ (.slice none 0 0)).toArray 45 (0, 0)) ∧ OwnQ w8 U.heap.size (.slice q7 aps.length c7) aps ∧ w8.heap[CA]? = some (.cells (ancells ⟨ak, akey, aval, an, aps⟩ (.slice q7 aps.length c7)).toArray 33 (0, 0)) from ⟨F7.out.1.on hb, below_on F7.out.2.1 hb, upk hb F7.out.2.2.2.1, World.ownsRow.kept F7.out.2.2.2.2.1 (grown_of_below hb) (by cases (Value.slice q7 aps.length c7).ownBlock <;> simp), upk hb F7.out.2.2.2.2.2⟩)
          clear hb HRC F7
          go_upto_region 17 with fail
          obtain ⟨CC, hCC⟩ : ∃ C, C = w8.heap.size := ⟨_, rfl⟩
          rw [← hCC]
          generalize hU : World.alloc w8 _ = U3
          have F9 := Lib.hid (show HV W1 (.slice op acc.length oc) acc U3 ∧ Below w.heap.size w U3 ∧ U3.heap[C]? = some (.cells (evcells ⟨t, false, ⟨0, 0, 0, 0, 0⟩, ⟨0, 0, 0, 0, []⟩⟩ (.slice none 0 0)).toArray 45 (0, 0)) ∧ OwnQ U3 U.heap.size (.slice q7 aps.length c7) aps ∧ U3.heap[CA]? = some (.cells (ancells ⟨ak, akey, aval, an, aps⟩ (.slice q7 aps.length c7)).toArray 33 (0, 0)) ∧ U3.heap[CC]? = some (.cells (cacells ⟨cop, ckey, cval, chi, clim⟩).toArray 26 (0, 0)) by
            rw [← hU, hCC]
            have hk : Below w8.heap.size w8 (w8.alloc (.cells #[.int .i64 cop, .int .i64 ckey, .int .i64 cval, .int .i64 chi, .int .i64 clim] 26)) := below_new (Below.refl _ _) _
            exact ⟨F8.out.1.on hk, below_new F8.out.2.1 _, upk hk F8.out.2.2.1, World.ownsRow.alloc F8.out.2.2.2.1 _, upk hk F8.out.2.2.2.2, heap_alloc_new w8 _⟩)
          clear hU hCC F8
          have x0 : U3.cell? ⟨C, 0, none⟩ = some (.int .i64 t) := rowc F9.out.2.2.1 _ rfl
          have x1 : U3.cell? ⟨C, 1, none⟩ = some (.bool false) := rowc F9.out.2.2.1 _ rfl
          have x2 : U3.cell? ⟨C, 2, none⟩ = some (.int .i64 0) := rowc F9.out.2.2.1 _ rfl
          have x3 : U3.cell? ⟨C, 3, none⟩ = some (.int .i64 0) := rowc F9.out.2.2.1 _ rfl
          have x4 : U3.cell? ⟨C, 4, none⟩ = some (.int .i64 0) := rowc F9.out.2.2.1 _ rfl
          have x5 : U3.cell? ⟨C, 5, none⟩ = some (.int .i64 0) := rowc F9.out.2.2.1 _ rfl
          have x6 : U3.cell? ⟨C, 6, none⟩ = some (.int .i64 0) := rowc F9.out.2.2.1 _ rfl
          have x7 : U3.cell? ⟨C, 7, none⟩ = some (.int .i64 0) := rowc F9.out.2.2.1 _ rfl
          have x8 : U3.cell? ⟨C, 8, none⟩ = some (.int .i64 0) := rowc F9.out.2.2.1 _ rfl
          have x9 : U3.cell? ⟨C, 9, none⟩ = some (.int .i64 0) := rowc F9.out.2.2.1 _ rfl
          have x10 : U3.cell? ⟨C, 10, none⟩ = some (.int .i64 0) := rowc F9.out.2.2.1 _ rfl
          have x11 : U3.cell? ⟨C, 11, none⟩ = some (.slice none 0 0) := rowc F9.out.2.2.1 _ rfl
          have xf : ∀ i, U3.frozen? ⟨C, i, none⟩ = false := fun i => frozen_of_row _ _ _ _ _ F9.out.2.2.1
          have y0 : U3.cell? ⟨CC, 0, none⟩ = some (.int .i64 cop) := rowc F9.out.2.2.2.2.2 _ rfl
          have y1 : U3.cell? ⟨CC, 1, none⟩ = some (.int .i64 ckey) := rowc F9.out.2.2.2.2.2 _ rfl
          have y2 : U3.cell? ⟨CC, 2, none⟩ = some (.int .i64 cval) := rowc F9.out.2.2.2.2.2 _ rfl
          have y3 : U3.cell? ⟨CC, 3, none⟩ = some (.int .i64 chi) := rowc F9.out.2.2.2.2.2 _ rfl
          have y4 : U3.cell? ⟨CC, 4, none⟩ = some (.int .i64 clim) := rowc F9.out.2.2.2.2.2 _ rfl
          go_upto_region 21 with fail
          generalize hW6 : World.setCell _ _ _ = w9
          have H9 := Lib.hid (show w9 = putRow C 2 (cacells ⟨cop, ckey, cval, chi, clim⟩) U3 by rw [← hW6]; rfl)
          clear hW6 x0 x1 x2 x3 x4 x5 x6 x7 x8 x9 x10 x11 y0 y1 y2 y3 y4 xf
          have HC9 := Lib.hid (show w9.heap[C]? = some (.cells (evcells ⟨t, false, ⟨cop, ckey, cval, chi, clim⟩, ⟨0, 0, 0, 0, []⟩⟩ (.slice none 0 0)).toArray 45 (0, 0)) by
            rw [H9.out]; exact putRow_at C (cacells ⟨cop, ckey, cval, chi, clim⟩) 2 U3 _ F9.out.2.2.1 (of_decide_eq_true rfl))
          have HQ9 := Lib.hid (show OwnQ w9 W1.heap.size (.slice none 0 0) (⟨t, false, ⟨cop, ckey, cval, chi, clim⟩, ⟨0, 0, 0, 0, []⟩⟩ : Ev).an.ps by exact ownQ_nil _ _)
          have HV9 := Lib.hid (show HV W1 (.slice op acc.length oc) acc w9 from by rw [H9.out]; exact HV.put F9.out.1 FU.out.2.2.2.2.1 FLT.out.1 FLT.out.2 _ _)
          have HB9 := Lib.hid (show Below w.heap.size w w9 by rw [H9.out]; exact F9.out.2.1.trans (putRow_below C (Nat.le_trans HB1.out.size FU.out.2.2.2.2.1) _ _ _))
          rcases HEV.out with ⟨hy, he⟩ | ⟨hy, he⟩
          · have HOK := Lib.hid (HER.out _ he)
            have k9 : (cy != 0) = true := by simpa using hy
            clear hy he
            go_wp2_with fail
            (try go_ret)
            rw [HQ.out, HOK.out]
            exact ⟨_, rfl, .nil _, HB9.out⟩
          · subst hy
            have HGN := Lib.hid (HGO.out _ he)
            clear he
            have z0 : w9.cell? ⟨C, 0, none⟩ = some (.int .i64 t) := rowc HC9.out _ rfl
            have z1 : w9.cell? ⟨C, 1, none⟩ = some (.bool false) := rowc HC9.out _ rfl
            have z2 : w9.cell? ⟨C, 2, none⟩ = some (.int .i64 cop) := rowc HC9.out _ rfl
            have z3 : w9.cell? ⟨C, 3, none⟩ = some (.int .i64 ckey) := rowc HC9.out _ rfl
            have z4 : w9.cell? ⟨C, 4, none⟩ = some (.int .i64 cval) := rowc HC9.out _ rfl
            have z5 : w9.cell? ⟨C, 5, none⟩ = some (.int .i64 chi) := rowc HC9.out _ rfl
            have z6 : w9.cell? ⟨C, 6, none⟩ = some (.int .i64 clim) := rowc HC9.out _ rfl
            have z7 : w9.cell? ⟨C, 7, none⟩ = some (.int .i64 0) := rowc HC9.out _ rfl
            have z8 : w9.cell? ⟨C, 8, none⟩ = some (.int .i64 0) := rowc HC9.out _ rfl
            have z9 : w9.cell? ⟨C, 9, none⟩ = some (.int .i64 0) := rowc HC9.out _ rfl
            have z10 : w9.cell? ⟨C, 10, none⟩ = some (.int .i64 0) := rowc HC9.out _ rfl
            have z11 : w9.cell? ⟨C, 11, none⟩ = some (.slice none 0 0) := rowc HC9.out _ rfl
            go_wp2_with (at_builtin; refine wpList_append_v1 rfl (.tmp 98) (.tmp 100) rfl W1.heap.size _ acc ⟨t, false, ⟨cop, ckey, cval, chi, clim⟩, ⟨0, 0, 0, 0, []⟩⟩ none 0 0 w9.heap.size 1 rfl (World.ownsRow.alloc HV9.out.own _) rfl (new_cells w9 (evcells ⟨t, false, ⟨cop, ckey, cval, chi, clim⟩, ⟨0, 0, 0, 0, []⟩⟩ (.slice none 0 0)) 45) (by have := HAI.out; have := HI4.out; omega) (size_al _ HV9.out.bl.size) ?_)
            intro v1 w10 hown hg
            have H10 := Lib.hid (HV.step (HV9.out.on ((Below.refl w9.heap.size w9).alloc (Nat.le_refl _) _)) (e := ⟨t, false, ⟨cop, ckey, cval, chi, clim⟩, ⟨0, 0, 0, 0, []⟩⟩) (v := (.slice none 0 0)) (World.ownsRow.alloc HQ9.out _) hown hg)
            have HIN := Lib.hid (show r0 = preR ((acc ++ [((⟨t, false, ⟨cop, ckey, cval, chi, clim⟩, ⟨0, 0, 0, 0, []⟩⟩ : Ev), ((.slice none 0 0) : Value))]).map Prod.fst) (histL (Ls.drop (i + 1))) by rw [HGN.out]; simp)
            clear hown hg z0 z1 z2 z3 z4 z5 z6 z7 z8 z9 z10 z11
            go_wp2_with fail
            go_roundw
            case rel => exact ⟨i + 1, _, HL.out, by have := HAI.out; simp; omega, by go_num, HIN, H10⟩
            case measure => exact meas1 (Nat.lt_of_succ_lt HL.out)
end Go.Proofs.YtdgplijnhkgeiaaDoor
