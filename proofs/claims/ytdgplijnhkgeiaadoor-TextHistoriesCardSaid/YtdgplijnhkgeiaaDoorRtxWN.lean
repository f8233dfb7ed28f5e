/- Layer 35, reading: the reference's ReadAnswer. (By gen_rtxw.py, VAR=N.) -/
import Derived.Test.YtdgplijnhkgeiaaDoorRtxV
namespace Go.Proofs.YtdgplijnhkgeiaaDoor
open Go.RowKit
set_option linter.unusedVariables false
set_option linter.unusedSimpArgs false
set_option maxRecDepth 8000 in
set_option maxHeartbeats 8000000 in
theorem rreadanswer_none (v : Value) (hd : List UInt8) (tl : List (List UInt8)) (w : World) (hv : SR w v (hd :: tl)) (hl : tl.length ≤ 5000) (hx : ∀ x ∈ tl, x.length ≤ 4999) (hk : kdI ⟨hd.toArray⟩ = none) :
    Calls Tryd.prog 11 #[v] w fun e w' => ∃ av, e = .returned (.tuple #[.agg (ancells (ansP (Except.error 3)).1 av).toArray, .int .i64 (ansP (Except.error 3)).2]) ∧ OwnQ w' w.heap.size av (ansP (Except.error 3)).1.ps ∧ Below w.heap.size w w' := by
  refine Calls.veil fun Q HQ => ?_
  have HXL := Lib.hid hx
  have HLN := Lib.hid hl
  have HSR := Lib.hid hv
  obtain ⟨p, c, rfl, hc1, hc2, hc3⟩ := hv
  obtain ⟨g, o, rfl, hc4⟩ := hc3 0 hd rfl
  obtain ⟨H, hH⟩ : ∃ H : ByteArray, H = ⟨hd.toArray⟩ := ⟨_, rfl⟩
  have HC0 := Lib.hid (show w.cell? ⟨g, o, none⟩ = some (.string H) by rw [hH]; exact hc4)
  have HCW := Lib.hid (show ∀ (k : Nat) x, tl[k]? = some x → w.cell? ⟨g, o + (k + 1), none⟩ = some (tx x) from fun k x h => by
    obtain ⟨g', o', e1, e2⟩ := hc3 (k + 1) x h
    injection e1 with e1
    injection e1 with e3 e4
    subst e3 e4
    exact e2)
  have HKD := Lib.hid (show kdI H = none by rw [hH]; exact hk)
  have hln : (hd :: tl).length = tl.length + 1 := rfl
  rw [hln] at hc1 ⊢
  obtain ⟨n, hn⟩ : ∃ n, n = tl.length + 1 := ⟨_, rfl⟩
  have HNN := Lib.hid hn
  rw [← hn] at hc1 ⊢
  have hn0 : (0 : Int) < n := by omega
  have hn1 : 0 < n := by omega
  have hg2 : decide ((0 : Int) < n) = true := by simpa using hn0
  clear hc3 hc4 hx hl hH hln hn hk
  go_enter Tryd.func11, Tryd.ntmps11
  go_upto_region 1 with fail
  generalize hV : World.alloc w _ = V
  have F0 := Lib.hid (show Below w.heap.size w V ∧ V.heap.size = w.heap.size + 1 ∧ V.heap[w.heap.size]? = some (.cells (ancells ⟨0, 0, 0, 0, []⟩ (.slice none 0 0)).toArray 33 (0, 0)) by
    rw [← hV]; exact ⟨below_new (Below.refl _ _) _, by simp, heap_alloc_new w _⟩)
  clear hV
  go_wp2_with fail
  go_loopw [4, 5] (fun ov iv wr => ∃ i : Nat, i ≤ 9 ∧ ov = .int .i64 (fnd kindAt H i) ∧ iv = .int .i64 i ∧ Hid (Below V.heap.size V wr))
    (fun _ iv _ => 9 - (intOf iv).toNat)
  case atStart => exact ⟨0, by omega, rfl, rfl, Lib.hid (Below.refl _ _)⟩
  case round =>
    obtain ⟨i, hi, rfl, rfl, HI⟩ := hrel
    rcases (by omega : i < 9 ∨ i = 9) with hlt | heq
    · have RW : ∀ W, Calls Tryd.prog 27 #[.int .i64 (i : Nat)] W fun e w' => e = .returned (.string (kindAt i)) ∧ Below W.heap.size W w' := fun W => by
        have h := rkind (i : Int) W
        rwa [← kS_eq hlt] at h
      have RW := Lib.hid RW
      obtain ⟨fi, hfi⟩ : ∃ x, x = fnd kindAt H i := ⟨_, rfl⟩
      have HF1 : Hid (fnd kindAt H (i + 1) = if kindAt i = H then (i : Int) else fi) := Lib.hid (by rw [hfi]; rfl)
      rw [← hfi]
      clear hfi
      generalize kindAt i = y at RW HF1
      have il : (i : Int) < 9 := by omega
      have hw1 : wrap64 ((i : Int) + 1) = (i : Int) + 1 := wrap_id ⟨by omega, by omega⟩
      have hw2 : IntKind.i64.wrap ((i : Int) + 1) = (i : Int) + 1 := wrapi_id ⟨by omega, by omega⟩
      have cH := Ext.cells (Ext.cell ⟨wr, (F0.out.1.trans (HI.out.mono (by have := F0.out.2.1; omega)))⟩ HC0.out)
      by_cases he : y = H
      · have HF2 := HF1.out
        rw [if_pos he] at HF2
        have HF2 := Lib.hid HF2
        have hs := str_t he
        clear he HF1
        go_wp2_with fail
        (with_reducible refine wp_region_mix (fun w' => ∃ y : Ext wr, w' = y.w) ?_ ?_ ?_ ?_; kernel_rfl; kernel_rfl; exact ⟨⟨wr.drew, (Below.refl _ _).drew⟩, rfl⟩)
        repeat (first | ((with_reducible refine mix_skip (by kernel_rfl) ?_); go_big_quiet_skip; (with_reducible refine mix_on ?_)) | ((with_reducible refine mix_plain (by kernel_rfl) ?_); (first | go_big_quiet_skip | (go_big_quiet_want; go_big_quiet_op; go_big_quiet_on)); (with_reducible refine mix_on ?_)))
        ((with_reducible refine wpMix_chain (by kernel_rfl) (by kernel_rfl) (fun K HK => ?_)); go_step)
        refine (RW.out _).mono ?_; rintro _ w2 ⟨rfl, hb2⟩
        have hb2 := below_on (Below.refl wr.heap.size wr).drew hb2
        refine HK.out _ _ ⟨⟨w2, hb2⟩, rfl⟩ ?_
        clear HK K
        have HW2 := Lib.hid (below_on HI.out hb2)
        repeat (first | ((with_reducible refine mix_skip (by kernel_rfl) ?_); go_big_quiet_skip; (with_reducible refine mix_on ?_)) | ((with_reducible refine mix_plain (by kernel_rfl) ?_); (first | go_big_quiet_skip | (go_big_quiet_want; go_big_quiet_op; go_big_quiet_on)); (with_reducible refine mix_on ?_)))
        refine wpMix_nil ?_
        go_wp2_with fail
        go_roundw
        case rel => exact ⟨i + 1, by omega, by rw [HF2.out], by go_num, HW2⟩
        case measure => simp [intOf]; omega
      · have HF2 := HF1.out
        rw [if_neg he] at HF2
        have HF2 := Lib.hid HF2
        have hs := str_f he
        clear he HF1
        go_wp2_with fail
        (with_reducible refine wp_region_mix (fun w' => ∃ y : Ext wr, w' = y.w) ?_ ?_ ?_ ?_; kernel_rfl; kernel_rfl; exact ⟨⟨wr.drew, (Below.refl _ _).drew⟩, rfl⟩)
        repeat (first | ((with_reducible refine mix_skip (by kernel_rfl) ?_); go_big_quiet_skip; (with_reducible refine mix_on ?_)) | ((with_reducible refine mix_plain (by kernel_rfl) ?_); (first | go_big_quiet_skip | (go_big_quiet_want; go_big_quiet_op; go_big_quiet_on)); (with_reducible refine mix_on ?_)))
        ((with_reducible refine wpMix_chain (by kernel_rfl) (by kernel_rfl) (fun K HK => ?_)); go_step)
        refine (RW.out _).mono ?_; rintro _ w2 ⟨rfl, hb2⟩
        have hb2 := below_on (Below.refl wr.heap.size wr).drew hb2
        refine HK.out _ _ ⟨⟨w2, hb2⟩, rfl⟩ ?_
        clear HK K
        have HW2 := Lib.hid (below_on HI.out hb2)
        repeat (first | ((with_reducible refine mix_skip (by kernel_rfl) ?_); go_big_quiet_skip; (with_reducible refine mix_on ?_)) | ((with_reducible refine mix_plain (by kernel_rfl) ?_); (first | go_big_quiet_skip | (go_big_quiet_want; go_big_quiet_op; go_big_quiet_on)); (with_reducible refine mix_on ?_)))
        refine wpMix_nil ?_
        go_wp2_with fail
        go_roundw
        case rel => exact ⟨i + 1, by omega, by rw [HF2.out], by go_num, HW2⟩
        case measure => simp [intOf]; omega
    · have HFO := fnd_kd H
      rw [HKD.out, ← heq] at HFO
      simp only at HFO
      have hge : ¬ (i : Int) < 9 := by omega
      clear heq
      rw [HFO]
      clear HFO
      have HOK := Lib.hid (show ansP (Except.error 3) = (⟨0, 0, 0, 0, []⟩, 3) from rfl)
      have HB := Lib.hid (F0.out.1.trans (HI.out.mono (by have := F0.out.2.1; omega)))
      have hr := (HI.out.block w.heap.size (by have := F0.out.2.1; omega)).trans F0.out.2.2
      have HRR := Lib.hid hr
      have y0 : wr.cell? ⟨w.heap.size, 0, none⟩ = some (.int .i64 0) := by simp [World.cell?, hr, ancells]
      have y1 : wr.cell? ⟨w.heap.size, 1, none⟩ = some (.int .i64 0) := by simp [World.cell?, hr, ancells]
      have y2 : wr.cell? ⟨w.heap.size, 2, none⟩ = some (.int .i64 0) := by simp [World.cell?, hr, ancells]
      have y3 : wr.cell? ⟨w.heap.size, 3, none⟩ = some (.int .i64 0) := by simp [World.cell?, hr, ancells]
      have y4 : wr.cell? ⟨w.heap.size, 4, none⟩ = some (.slice none 0 0) := by simp [World.cell?, hr, ancells]
      have yf0 : wr.frozen? ⟨w.heap.size, 0, none⟩ = false := by simp [World.frozen?, hr]
      have yf1 : wr.frozen? ⟨w.heap.size, 1, none⟩ = false := by simp [World.frozen?, hr]
      have yf2 : wr.frozen? ⟨w.heap.size, 2, none⟩ = false := by simp [World.frozen?, hr]
      have yf3 : wr.frozen? ⟨w.heap.size, 3, none⟩ = false := by simp [World.frozen?, hr]
      have yf4 : wr.frozen? ⟨w.heap.size, 4, none⟩ = false := by simp [World.frozen?, hr]
      clear hr
      go_wp2_with fail
      generalize hW6 : World.setCell _ _ _ = w6
      have H6 := Lib.hid (show w6 = putA wr w.heap.size ⟨0, 0, 0, 0, []⟩ (.slice none 0 0) from hW6.symm)
      clear hW6
      have h6 : w6.heap[w.heap.size]? = some (.cells (ancells ⟨0, 0, 0, 0, []⟩ (.slice none 0 0)).toArray 33 (0, 0)) := by rw [H6.out]; exact putA_at _ _ HRR.out
      have z0 : w6.cell? ⟨w.heap.size, 0, none⟩ = some (.int .i64 0) := by simp [World.cell?, h6, ancells]
      have z1 : w6.cell? ⟨w.heap.size, 1, none⟩ = some (.int .i64 0) := by simp [World.cell?, h6, ancells]
      have z2 : w6.cell? ⟨w.heap.size, 2, none⟩ = some (.int .i64 0) := by simp [World.cell?, h6, ancells]
      have z3 : w6.cell? ⟨w.heap.size, 3, none⟩ = some (.int .i64 0) := by simp [World.cell?, h6, ancells]
      have z4 : w6.cell? ⟨w.heap.size, 4, none⟩ = some (.slice none 0 0) := by simp [World.cell?, h6, ancells]
      refine bodyPost_ret (v := .tuple #[.agg #[.int .i64 0, .int .i64 0, .int .i64 0, .int .i64 0, .slice none 0 0], .int .i64 3]) (by simp [results, Tryd.results11, go_sem, z0, z1, z2, z3, z4]) rfl ?_
      have hb6 : Below w.heap.size w w6 := by rw [H6.out]; exact HB.out.trans (putA_below _ _ _ _ (Nat.le_refl _))
      rw [HQ.out, HOK.out]
      exact ⟨_, rfl, ownQ_nil _ _, hb6⟩
end Go.Proofs.YtdgplijnhkgeiaaDoor
