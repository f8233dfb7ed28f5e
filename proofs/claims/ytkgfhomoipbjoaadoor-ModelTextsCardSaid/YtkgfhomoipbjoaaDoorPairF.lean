/- Layer 8's contracts: cuts. -/
import Derived.Test.YtkgfhomoipbjoaaDoorPairE
namespace Go.Proofs.YtkgfhomoipbjoaaDoor
open Go.RowKit
set_option linter.unusedVariables false
set_option linter.unusedSimpArgs false

set_option maxHeartbeats 2000000 in
theorem rcut (l : PL) (v : Value) (lo hi limit : Int) (w : World) (h : PR w v l) (hn : l.length ≤ 90000) :
    Calls Tryd.prog 16 #[v, .int .i64 lo, .int .i64 hi, .int .i64 limit] w fun e w' => ∃ v', e = .returned v' ∧ PR w' v' (cutL l lo hi limit) ∧ Below w.heap.size w w' := by
  refine Calls.veil fun Q HQ => ?_
  obtain ⟨p, c, rfl, h1, h2, H3⟩ := h.parts
  clear h
  go_enter Tryd.func16, Tryd.ntmps16
  go_wp2_with fail
  go_loopw [9, 10] (fun ov iv wr => ∃ (i n : Nat) (p' : Option Addr) (c' : Nat), i ≤ l.length ∧ n ≤ i ∧ ov = .slice p' n c' ∧ iv = .int .i64 i ∧ Hid (n = (cutL (l.take i) lo hi limit).length ∧ OwnP wr w.heap.size (.slice p' n c') (cutL (l.take i) lo hi limit)) ∧ Below w.heap.size w wr)
    (fun _ iv _ => l.length - (intOf iv).toNat)
  case atStart => exact ⟨0, 0, none, 0, by omega, by omega, rfl, rfl, Lib.hid ⟨by simp [cutL, betw], by simp [cutL, betw]; exact own_nil _ _⟩, Below.refl _ _⟩
  case round =>
    obtain ⟨i, n, p', c', hi', hni, rfl, rfl, HO, hbel⟩ := hrel
    rcases (by omega : i < l.length ∨ i = l.length) with hlt | heq
    · obtain ⟨g, o, rfl, c0, c1⟩ := H3.out i hlt
      have c0 := Ext.cell ⟨wr, hbel⟩ c0; have c1 := Ext.cell ⟨wr, hbel⟩ c1
      simp only at c0 c1
      have HN : Hid (cutL (l.take (i + 1)) lo hi limit = if lo ≤ ky l i ∧ ky l i ≤ hi ∧ (n : Int) < limit then cutL (l.take i) lo hi limit ++ [(ky l i, vl l i)] else cutL (l.take i) lo hi limit) := by
        rw [take_one hlt, cut_snoc, ← HO.out.1]; exact Lib.hid rfl
      have HBel := Lib.hid hbel
      clear hbel
      rcases (by omega : ky l i < lo ∨ (lo ≤ ky l i ∧ hi < ky l i) ∨ (lo ≤ ky l i ∧ ky l i ≤ hi ∧ limit ≤ n) ∨ (lo ≤ ky l i ∧ ky l i ≤ hi ∧ (n : Int) < limit)) with q | ⟨q, q'⟩ | ⟨q, q', q2⟩ | ⟨q, q', q2⟩
      · have HQ1 := Lib.hid q
        go_wp2_with fail
        go_roundw
        case rel =>
          have e := HN.out
          rw [if_neg (by have := HQ1.out; omega)] at e
          exact ⟨i + 1, n, p', c', by omega, by omega, rfl, by go_num, Lib.hid (by rw [e]; exact HO.out), HBel.out⟩
        case measure => simp [intOf]; omega
      · have HQ1 := Lib.hid q'
        go_wp2_with fail
        go_roundw
        case rel =>
          have e := HN.out
          rw [if_neg (by have := HQ1.out; omega)] at e
          exact ⟨i + 1, n, p', c', by omega, by omega, rfl, by go_num, Lib.hid (by rw [e]; exact HO.out), HBel.out⟩
        case measure => simp [intOf]; omega
      · have HQ1 := Lib.hid q2
        go_wp2_with fail
        go_roundw
        case rel =>
          have e := HN.out
          rw [if_neg (by have := HQ1.out; omega)] at e
          exact ⟨i + 1, n, p', c', by omega, by omega, rfl, by go_num, Lib.hid (by rw [e]; exact HO.out), HBel.out⟩
        case measure => simp [intOf]; omega
      · have HQ1 := Lib.hid (And.intro q (And.intro q' q2))
        have HLN := Lib.hid (show (cutL (l.take i) lo hi limit).length ≤ 90000 by have := HO.out.1; omega)
        go_wp2_with (at_builtin; refine wpList_append_pr rfl (.tmp 39) (.tmp 44) rfl w.heap.size _ (cutL (l.take i) lo hi limit) rfl (HO.out.2.alloc _) _ [(ky l i, vl l i)] rfl PR.single (by have := HLN.out; simp; omega) (by have := HBel.out.size; simp; omega) ?_)
        intro v1 w1 hown hg
        have hb := grow_step (W := w) (HO.out.2.alloc _) (HBel.out.alloc HBel.out.size _) (Nat.le_refl _) hg
        obtain ⟨p1, c1', hv1, _, _⟩ := (own_PR hown).slice
        have e1 : (cutL (l.take i) lo hi limit ++ [(ky l i, vl l i)]).length = n + 1 := by rw [List.length_append, ← HO.out.1]; rfl
        rw [e1] at hv1
        subst hv1
        have HOwn := Lib.hid (And.intro e1 hown)
        clear hown hg e1
        go_wp2_with fail
        go_roundw
        case rel =>
          have e := HN.out
          rw [if_pos HQ1.out] at e
          exact ⟨i + 1, n + 1, p1, c1', by omega, by omega, rfl, by go_num, Lib.hid (by rw [e]; exact ⟨HOwn.out.1.symm, HOwn.out.2⟩), hb⟩
        case measure => simp [intOf]; omega
    · have HE := Lib.hid heq
      have hge : l.length ≤ i := by omega
      clear heq
      have HP := HO.out.2
      rw [HE.out, List.take_length] at HP
      have HP := Lib.hid (own_PR HP)
      go_wp2_with fail
      (try go_ret)
      rw [HQ.out]
      exact ⟨_, rfl, HP.out, hbel⟩
theorem PR.single1 {w : World} {o : Obj} {k x : Int} {T : TypeId} : PR ((w.alloc o).alloc (.cells #[.int .i64 k, .int .i64 x] T)) (.slice (some ⟨w.heap.size + 1, 0, none⟩) 1 1) [(k, x)] := by
  have := PR.single (w := w.alloc o) (k := k) (x := x) (T := T)
  simpa using this
set_option maxHeartbeats 2000000 in
theorem pcut (l : PL) (v : Value) (lo hi limit : Int) (w : World) (h : PR w v l) (hr : riseB l = true) (hn : l.length ≤ 90000) :
    Calls Tryd.prog 33 #[v, .int .i64 lo, .int .i64 hi, .int .i64 limit] w fun e w' => ∃ v', e = .returned v' ∧ PR w' v' (cutL l lo hi limit) ∧ Below w.heap.size w w' := by
  have H := Lib.hid h; have HR := Lib.hid hr
  have hle := lbN_le l lo
  refine Calls.veil fun Q HQ => ?_
  obtain ⟨p, c, rfl, h1, h2, H3⟩ := h.parts
  clear h hr
  go_enter Tryd.func33, Tryd.ntmps33
  go_wp2_with fail
  refine (pfind _ _ lo w H.out HR.out (by omega)).mono ?_; rintro _ w1 ⟨rfl, hb1⟩
  obtain ⟨r, hr2⟩ : ∃ r : Nat, r = lbN l lo := ⟨_, rfl⟩
  rw [← hr2] at hle ⊢
  have HRR := Lib.hid hr2
  clear hr2
  generalize hereB l lo = hb
  rcases (by omega : r < l.length ∨ r = l.length) with hrl | hrl
  · obtain ⟨g, o, rfl, _, _⟩ := H3.out r hrl
    have hne : c ≠ r := by omega
    have hsub : ((l.length - r : Nat) : Int) = (l.length : Int) - r := by omega
    obtain ⟨s1, s2⟩ := lbN_spec HR.out lo
    rw [← HRR.out] at s1 s2
    have HS := Lib.hid (And.intro s1 s2)
    have HR1 := Lib.hid hb1
    clear s1 s2 hsub
    obtain ⟨m, hm⟩ : ∃ m, m = l.length - r := ⟨_, rfl⟩
    have hm' : l.length = r + m := by omega
    have HM := Lib.hid hm'
    have hm0 : m ≤ 90000 := by omega
    clear hm'
    go_wp2_with fail
    rw [← hm]
    clear hm
    go_loopw [9, 24] (fun ov iv wr => ∃ (i n : Nat) (p' : Option Addr) (c' : Nat), i ≤ m ∧ n ≤ i ∧ ov = .slice p' n c' ∧ iv = .int .i64 i ∧ Hid (n = (cutL (l.take (r + i)) lo hi limit).length ∧ OwnP wr w1.heap.size (.slice p' n c') (cutL (l.take (r + i)) lo hi limit)) ∧ Below w1.heap.size w1 wr)
      (fun _ iv _ => m - (intOf iv).toNat)
    case atStart =>
      have e : cutL (l.take (r + 0)) lo hi limit = [] := by
        unfold cutL
        rw [betw_nil (fun k hk => ?_)]
        · simp
        · simp at hk; rw [ky_take (by omega)]; have := HS.out.1 k (by omega); omega
      exact ⟨0, 0, none, 0, by omega, by omega, rfl, rfl, Lib.hid (by rw [e]; exact ⟨rfl, own_nil _ _⟩), Below.refl _ _⟩
    case round =>
      obtain ⟨i, n, p', c', hi', hni, rfl, rfl, HO, hbel⟩ := hrel
      rcases (by omega : i < m ∨ i = m) with hlt | heq
      · have hj : r + i < l.length := by have := HM.out; omega
        have hbw := below_on HR1.out hbel
        obtain ⟨g', o', e, c0, c1⟩ := H3.out (r + i) hj
        injection e with e
        injection e with e1 e2 _
        subst e1; subst e2
        have c0 := Ext.cell ⟨wr, hbw⟩ c0; have c1 := Ext.cell ⟨wr, hbw⟩ c1
        simp only [show o + (r + i) * 2 = o + r * 2 + i * 2 by omega] at c0 c1
        have hlo := HS.out.2 (r + i) (by omega) hj
        have HN : Hid (cutL (l.take (r + i + 1)) lo hi limit = if lo ≤ ky l (r + i) ∧ ky l (r + i) ≤ hi ∧ (n : Int) < limit then cutL (l.take (r + i)) lo hi limit ++ [(ky l (r + i), vl l (r + i))] else cutL (l.take (r + i)) lo hi limit) := by
          rw [take_one hj, cut_snoc, ← HO.out.1]; exact Lib.hid rfl
        have HBel := Lib.hid hbel
        have HLO := Lib.hid hlo
        clear hbel hbw hlo hj
        generalize hk : ky l (r + i) = kk at *
        generalize hv : vl l (r + i) = vv at *
        have HK := Lib.hid hk
        clear hk hv
        rcases (by omega : hi < kk ∨ (kk ≤ hi ∧ limit ≤ n) ∨ (kk ≤ hi ∧ (n : Int) < limit)) with q | ⟨q, q2⟩ | ⟨q, q2⟩
        · have HQ1 := Lib.hid q
          go_wp2_with fail
          (try go_ret)
          rw [HQ.out]
          refine ⟨_, rfl, ?_, below_on HR1.out (below_new HBel.out _)⟩
          have e : cutL l lo hi limit = cutL (l.take (r + i)) lo hi limit := by
            unfold cutL
            rw [betw_take (r := r + i) (fun k h1 h2 => ?_)]
            rcases (by omega : k = r + i ∨ r + i < k) with rfl | h3
            · have := HQ1.out; rw [← HK.out] at this; omega
            · have := rise_lt HR.out h3 h2; have := HQ1.out; rw [← HK.out] at this; omega
          rw [e]
          exact (own_PR HO.out.2).alloc _
        · have HQ1 := Lib.hid q2
          go_wp2_with fail
          (try go_ret)
          rw [HQ.out]
          refine ⟨_, rfl, ?_, below_on HR1.out (below_new HBel.out _)⟩
          rw [cut_full (r := r + i) (by have := HQ1.out; rw [← HO.out.1]; exact this)]
          exact (own_PR HO.out.2).alloc _
        · have HQ1 := Lib.hid (And.intro q q2)
          have HLN := Lib.hid (show (cutL (l.take (r + i)) lo hi limit).length ≤ 90000 by have := HO.out.1; omega)
          go_wp2_with (at_builtin; refine wpList_append_pr rfl (.tmp 38) (.tmp 40) rfl w1.heap.size _ (cutL (l.take (r + i)) lo hi limit) rfl ((HO.out.2.alloc _).alloc _) _ [(kk, vv)] rfl PR.single1 (by have := HLN.out; simp; omega) (by have := HBel.out.size; simp; omega) ?_)
          intro v1 w2 hown hg
          have hb := grow_step (W := w1) ((HO.out.2.alloc _).alloc _) ((HBel.out.alloc HBel.out.size _).alloc (by have := HBel.out.size; simp; omega) _) (Nat.le_refl _) hg
          obtain ⟨p1, c1', hv1, _, _⟩ := (own_PR hown).slice
          have e1 : (cutL (l.take (r + i)) lo hi limit ++ [(kk, vv)]).length = n + 1 := by rw [List.length_append, ← HO.out.1]; rfl
          rw [e1] at hv1
          subst hv1
          have HOwn := Lib.hid (And.intro e1 hown)
          clear hown hg e1
          go_wp2_with fail
          go_roundw
          case rel =>
            have e := HN.out
            rw [if_pos ⟨HLO.out, HQ1.out⟩] at e
            exact ⟨i + 1, n + 1, p1, c1', by omega, by omega, rfl, by go_num, Lib.hid (by rw [show r + (i + 1) = r + i + 1 by omega, e]; exact ⟨HOwn.out.1.symm, HOwn.out.2⟩), hb⟩
          case measure => simp [intOf]; omega
      · have HE := Lib.hid heq
        have hge : m ≤ i := by omega
        clear heq
        have HP := HO.out.2
        rw [HE.out, ← HM.out, List.take_length] at HP
        have HP := Lib.hid (own_PR HP)
        have hbw := below_on HR1.out hbel
        go_wp2_with fail
        (try go_ret)
        rw [HQ.out]
        exact ⟨_, rfl, HP.out, hbw⟩
  · have hcut : cutL l lo hi limit = [] := by
      obtain ⟨s1, s2⟩ := lbN_spec HR.out lo
      rw [← HRR.out] at s1 s2
      unfold cutL
      rw [betw_nil (fun k hk => by have := s1 k (by omega); omega)]; simp
    have HCUT := Lib.hid hcut
    have hlr : l.length = r := by omega
    clear hcut hrl H3
    have HLR := Lib.hid hlr
    rw [hlr] at h1 ⊢
    clear hlr
    have hpp : p = none ∧ c = r ∨ (∃ a, p = some a ∧ c = r) ∨ (∃ a, p = some a ∧ r < c) := by
      cases p with
      | none =>
        left; refine ⟨rfl, ?_⟩
        have := HLR.out
        obtain ⟨p', c', e, _, _⟩ := H.out.slice
        have hh := H.out
        generalize hvv : Value.slice none l.length c = vv at hh
        cases hh with
        | nil => injection hvv with _ h3 h4; simp at this; omega
        | odd a c _ => injection hvv with h3; cases h3
        | row g o c _ k1 k2 k3 => injection hvv with h3; cases h3
      | some a =>
        right
        rcases (by omega : c = r ∨ r < c) with h | h
        · exact .inl ⟨a, rfl, h⟩
        · exact .inr ⟨a, rfl, h⟩
    have HB1 := Lib.hid hb1
    clear hb1
    rcases hpp with ⟨rfl, rfl⟩ | ⟨⟨g, o, q⟩, rfl, rfl⟩ | ⟨⟨g, o, q⟩, rfl, hrc⟩
    · go_wp2_with fail
      refine wp_loop_rounds 1 ?_
      rw [rounds_succ]
      go_wp2_with fail
      (try go_ret)
      rw [HQ.out, HCUT.out]
      exact ⟨_, rfl, .nil, HB1.out⟩
    · go_wp2_with fail
      refine wp_loop_rounds 1 ?_
      rw [rounds_succ]
      go_wp2_with fail
      (try go_ret)
      rw [HQ.out, HCUT.out]
      exact ⟨_, rfl, .nil, HB1.out⟩
    · have hne : c ≠ r := by omega
      go_wp2_with fail
      refine wp_loop_rounds 1 ?_
      rw [rounds_succ]
      go_wp2_with fail
      (try go_ret)
      rw [HQ.out, HCUT.out]
      exact ⟨_, rfl, .nil, HB1.out⟩
end Go.Proofs.YtkgfhomoipbjoaaDoor
