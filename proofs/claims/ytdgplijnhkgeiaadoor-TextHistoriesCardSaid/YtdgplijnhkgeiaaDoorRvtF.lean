/- Layer 35, histories: two histories that are the same. -/
import Derived.Test.YtdgplijnhkgeiaaDoorRvtC
namespace Go.Proofs.YtdgplijnhkgeiaaDoor
open Go.RowKit
set_option linter.unusedVariables false
set_option linter.unusedSimpArgs false
theorem evc_below {w w' : World} {g o : Nat} {e : Ev} {v : Value} (h : EvC w g o e v) (k : Below w.heap.size w w') : EvC w' g o e v :=
  ⟨Ext.use (Ext.cells h.c0) k, Ext.use (Ext.cells h.c1) k, Ext.use (Ext.cells h.c2) k, Ext.use (Ext.cells h.c3) k, Ext.use (Ext.cells h.c4) k, Ext.use (Ext.cells h.c5) k, Ext.use (Ext.cells h.c6) k, Ext.use (Ext.cells h.c7) k, Ext.use (Ext.cells h.c8) k, Ext.use (Ext.cells h.c9) k, Ext.use (Ext.cells h.c10) k, Ext.use (Ext.cells h.c11) k⟩
theorem eventW_len : ∀ {ws : List (List UInt8)} {e : Ev}, eventW ws = .ok e → e.an.ps.length ≤ ws.length
  | [], e, h => by cases h
  | [_], e, h => by cases h
  | [_, _], e, h => by cases h
  | f :: s :: r :: rr, e, h => by
    rw [eventW_3] at h
    split at h
    · unfold evN at h
      split at h
      · cases h
      · split at h
        · split at h
          · rename_i a ha
            cases h
            have h2 := answerR_len (r :: rr)
            rw [ha] at h2
            have h2 : a.ps.length ≤ (r :: rr).length := h2
            simp at h2 ⊢
            omega
          · cases h
        · split at h
          · cases h
            exact Nat.zero_le _
          · cases h
    · cases h
theorem hist_mem : ∀ (Ls : List (List UInt8)) (l : List Ev), histL Ls = .ok l → l.length ≤ Ls.length ∧ ∀ e ∈ l, ∃ x ∈ Ls, eventW (splitL 32 x) = .ok e
  | [], l, h => by
    have h : Except.ok [] = (Except.ok l : Except Int (List Ev)) := h
    cases h
    exact ⟨Nat.le_refl _, fun e he => by cases he⟩
  | [x], l, h => by
    by_cases hx : x = []
    · subst hx
      rw [hist_last0] at h
      cases h
      exact ⟨Nat.zero_le _, fun e he => by cases he⟩
    · cases he : eventW (splitL 32 x) with
      | error y => rw [hist_last_no hx he] at h; cases h
      | ok e => rw [hist_last_ok hx he] at h; cases h
  | x :: z :: r, l, h => by
    cases he : eventW (splitL 32 x) with
    | error y => rw [hist_no (by simp) he] at h; cases h
    | ok e =>
      have h2 := hist_ok [] (x := x) (r := z :: r) (by simp) he
      rw [preR_nil, h] at h2
      cases h3 : histL (z :: r) with
      | error y => rw [h3] at h2; cases h2
      | ok m =>
        rw [h3] at h2
        have h2 : Except.ok l = (Except.ok ([e] ++ m) : Except Int (List Ev)) := h2
        cases h2
        obtain ⟨h4, h5⟩ := hist_mem (z :: r) m h3
        refine ⟨by simp at h4 ⊢; omega, fun e' he' => ?_⟩
        rcases List.mem_append.1 he' with h6 | h6
        · rw [List.mem_singleton.1 h6]; exact ⟨x, List.mem_cons_self, he⟩
        · obtain ⟨y, h7, h8⟩ := h5 e' h6
          exact ⟨y, List.mem_cons_of_mem _ h7, h8⟩
set_option maxRecDepth 16000 in
set_option maxHeartbeats 4000000 in
theorem rsameV (n : Nat) (L : Nat → Ev) (v v' : Value) (w : World) (h : VR w v n L) (h' : VR w v' n L) (hn : n ≤ 5000) (hp : ∀ i, i < n → (L i).an.ps.length ≤ 100000) :
    Calls Tryd.prog 15 #[v, v'] w fun e w' => e = .returned (.bool true) ∧ Below w.heap.size w w' := by
  refine Calls.veil fun Q HQ => ?_
  obtain ⟨p, c, rfl, hc1, hc2, HA⟩ := h.parts
  obtain ⟨p', c', rfl, hd1, hd2, HA'⟩ := h'.parts
  have HP := Lib.hid hp
  clear h h' hp
  go_enter Tryd.func15, Tryd.ntmps15
  go_wp2_with fail
  go_loopw [5] (fun iv wr => ∃ i : Nat, i ≤ n ∧ iv = .int .i64 i ∧ Hid (Below w.heap.size w wr)) (fun iv _ => n - (intOf iv).toNat)
  case atStart => exact ⟨0, Nat.zero_le _, rfl, Lib.hid (Below.refl _ _)⟩
  case round =>
    obtain ⟨i, hi, rfl, HW⟩ := hrel
    rcases (by omega : i < n ∨ i = n) with hlt | heq
    · obtain ⟨g, o, rfl, hat⟩ := HA.out (by omega)
      obtain ⟨g', o', rfl, hat'⟩ := HA'.out (by omega)
      obtain ⟨fv, hc, hpr⟩ := hat.cells i hlt
      obtain ⟨fv', hd, hpr'⟩ := hat'.cells i hlt
      have HPL := Lib.hid (HP.out i hlt)
      have hc := evc_below hc HW.out
      have hd := evc_below hd HW.out
      have HPR := Lib.hid (hpr.below HW.out)
      have HPR' := Lib.hid (hpr'.below HW.out)
      obtain ⟨fp, fc, rfl, _, _⟩ := hpr.slice
      obtain ⟨fp', fc', rfl, _, _⟩ := hpr'.slice
      clear hpr hpr' hat hat'
      generalize L i = e at hc hd HPR HPR' HPL
      obtain ⟨th, bk, ⟨cop, ckey, cval, chi, clim⟩, ⟨ak, akey, aval, an, ps⟩⟩ := e
      have c0 := Ext.cells hc.c0; have c1 := Ext.cells hc.c1; have c2 := Ext.cells hc.c2; have c3 := Ext.cells hc.c3; have c4 := Ext.cells hc.c4; have c5 := Ext.cells hc.c5; have c6 := Ext.cells hc.c6; have c7 := Ext.cells hc.c7; have c8 := Ext.cells hc.c8; have c9 := Ext.cells hc.c9; have c10 := Ext.cells hc.c10; have c11 := Ext.cells hc.c11
      have d0 := Ext.cells hd.c0; have d1 := Ext.cells hd.c1; have d2 := Ext.cells hd.c2; have d3 := Ext.cells hd.c3; have d4 := Ext.cells hd.c4; have d5 := Ext.cells hd.c5; have d6 := Ext.cells hd.c6; have d7 := Ext.cells hd.c7; have d8 := Ext.cells hd.c8; have d9 := Ext.cells hd.c9; have d10 := Ext.cells hd.c10; have d11 := Ext.cells hd.c11
      simp only at c0 c1 c2 c3 c4 c5 c6 c7 c8 c9 c10 c11 d0 d1 d2 d3 d4 d5 d6 d7 d8 d9 d10 d11 HPR HPR' HPL
      have hii : (i : Int) < n := by omega
      have hw1 : wrap64 ((i : Int) + 1) = (i : Int) + 1 := wrap_id ⟨by omega, by omega⟩
      have hw2 : IntKind.i64.wrap ((i : Int) + 1) = (i : Int) + 1 := wrapi_id ⟨by omega, by omega⟩
      clear hc hd
      go_wp2_with fail
      (with_reducible refine wp_region_mix (fun w' => ∃ y : Ext wr, w' = y.w) ?_ ?_ ?_ ?_; kernel_rfl; kernel_rfl; exact ⟨⟨wr.drew, (Below.refl _ _).drew⟩, rfl⟩)
      repeat (first | ((with_reducible refine mix_skip (by kernel_rfl) ?_); go_big_quiet_skip; (with_reducible refine mix_on ?_)) | ((with_reducible refine mix_plain (by kernel_rfl) ?_); (first | go_big_quiet_skip | (go_big_quiet_want; go_big_quiet_op; go_big_quiet_on)); (with_reducible refine mix_on ?_)))
      ((with_reducible refine wpMix_chain (by kernel_rfl) (by kernel_rfl) (fun K HK => ?_)); go_step)
      refine (rsame9e ⟨ak, akey, aval, an, ps⟩ _ _ _ (HPR.out.below (Below.refl _ _).drew) (HPR'.out.below (Below.refl _ _).drew) HPL.out).mono ?_; rintro _ w2 ⟨rfl, hb2⟩
      have hb2 := below_on (Below.refl wr.heap.size wr).drew hb2
      refine HK.out _ _ ⟨⟨w2, hb2⟩, rfl⟩ ?_
      clear HK K
      have HW2 := Lib.hid (below_on HW.out hb2)
      repeat (first | ((with_reducible refine mix_skip (by kernel_rfl) ?_); go_big_quiet_skip; (with_reducible refine mix_on ?_)) | ((with_reducible refine mix_plain (by kernel_rfl) ?_); (first | go_big_quiet_skip | (go_big_quiet_want; go_big_quiet_op; go_big_quiet_on)); (with_reducible refine mix_on ?_)))
      refine wpMix_nil ?_
      go_wp2_with fail
      go_roundw
      case rel => exact ⟨i + 1, by omega, by go_num, HW2⟩
      case measure => simp [intOf]; omega
    · have hge : ¬ (i : Int) < n := by omega
      clear heq
      go_wp2_with fail
      (try go_ret)
      rw [HQ.out]
      exact ⟨rfl, HW.out⟩
end Go.Proofs.YtdgplijnhkgeiaaDoor
