/- Layer 35, reading: the reference's ReadCall. (By gen_rtxu.py.) -/
import Derived.Test.YtdgplijnhkgeiaaDoorRtxV
namespace Go.Proofs.YtdgplijnhkgeiaaDoor
open Go.RowKit
set_option linter.unusedVariables false
set_option linter.unusedSimpArgs false
set_option maxRecDepth 8000 in
set_option maxHeartbeats 4000000 in
theorem rreadcall (v : Value) (hd : List UInt8) (tl : List (List UInt8)) (w : World) (hv : SR w v (hd :: tl)) (hl : tl.length ≤ 5000) (hx : ∀ x ∈ tl, x.length ≤ 5000) :
    Calls Tryd.prog 9 #[v] w fun e w' => e = .returned (.tuple #[caV (callP (callR (hd :: tl))).1, .int .i64 (callP (callR (hd :: tl))).2]) ∧ Below w.heap.size w w' := by
  refine Calls.veil fun Q HQ => ?_
  have HXL := Lib.hid hx
  have HLN := Lib.hid hl
  have HSR := Lib.hid hv
  obtain ⟨p, c, rfl, hc1, hc2, hc3⟩ := hv
  obtain ⟨g, o, rfl, hc4⟩ := hc3 0 hd rfl
  obtain ⟨H, hH⟩ : ∃ H : ByteArray, H = ⟨hd.toArray⟩ := ⟨_, rfl⟩
  have HC0 := Lib.hid (show w.cell? ⟨g, o, none⟩ = some (.string H) by rw [hH]; exact hc4)
  have HCW := Lib.hid (show ∀ (k : Nat) x, tl[k]? = some x → w.cell? ⟨g, o + (k + 1), none⟩ = some (tx x) from fun k x h => by
    obtain ⟨g', o', e1, e2⟩ := hc3 (k + 1) x h
    injection e1 with e1
    injection e1 with e3 e4
    subst e3 e4
    exact e2)
  have HHD := Lib.hid hH
  have hln : (hd :: tl).length = tl.length + 1 := rfl
  rw [hln] at hc1 ⊢
  obtain ⟨n, hn⟩ : ∃ n, n = tl.length + 1 := ⟨_, rfl⟩
  have HNN := Lib.hid hn
  rw [← hn] at hc1 ⊢
  have hn0 : (0 : Int) < n := by omega
  have hn1 : 0 < n := by omega
  have hg2 : decide ((0 : Int) < n) = true := by simpa using hn0
  clear hc3 hc4 hx hl hH hln hn
  go_enter Tryd.func9, Tryd.ntmps9
  go_upto_region 1 with fail
  generalize hV : World.alloc w _ = V
  have F0 := Lib.hid (show Below w.heap.size w V ∧ V.heap.size = w.heap.size + 1 ∧ V.heap[w.heap.size]? = some (.cells (cacells ⟨0, 0, 0, 0, 0⟩).toArray 26 (0, 0)) by
    rw [← hV]; exact ⟨below_new (Below.refl _ _) _, by simp, heap_alloc_new w _⟩)
  clear hV
  go_wp2_with fail
  go_loopw [4, 5] (fun ov iv wr => ∃ i : Nat, i ≤ 15 ∧ ov = .int .i64 (fnd wordAt H i) ∧ iv = .int .i64 i ∧ Hid (Below V.heap.size V wr))
    (fun _ iv _ => 15 - (intOf iv).toNat)
  case atStart => exact ⟨0, by omega, rfl, rfl, Lib.hid (Below.refl _ _)⟩
  case round =>
    obtain ⟨i, hi, rfl, rfl, HI⟩ := hrel
    rcases (by omega : i < 15 ∨ i = 15) with hlt | heq
    · have RW : ∀ W, Calls Tryd.prog 22 #[.int .i64 (i : Nat)] W fun e w' => e = .returned (.string (wordAt i)) ∧ Below W.heap.size W w' := fun W => by
        have h := rword (i : Int) W
        rwa [show wordS (i : Int) = wordAt i by unfold wordS; rw [if_pos (by omega)]; rfl] at h
      have RW := Lib.hid RW
      obtain ⟨fi, hfi⟩ : ∃ x, x = fnd wordAt H i := ⟨_, rfl⟩
      have HF1 : Hid (fnd wordAt H (i + 1) = if wordAt i = H then (i : Int) else fi) := Lib.hid (by rw [hfi]; rfl)
      rw [← hfi]
      clear hfi
      generalize wordAt i = y at RW HF1
      have il : (i : Int) < 15 := by omega
      have hw1 : wrap64 ((i : Int) + 1) = (i : Int) + 1 := wrap_id ⟨by omega, by omega⟩
      have hw2 : IntKind.i64.wrap ((i : Int) + 1) = (i : Int) + 1 := wrapi_id ⟨by omega, by omega⟩
      have cH := Ext.cells (Ext.cell ⟨wr, (F0.out.1.trans (HI.out.mono (by have := F0.out.2.1; omega)))⟩ HC0.out)
      by_cases he : y = H
      · have HF2 := HF1.out
        rw [if_pos he] at HF2
        have HF2 := Lib.hid HF2
        have hs := str_t he
        clear he HF1
        go_wp2_with fail
        (with_reducible refine wp_region_mix (fun w' => ∃ y : Ext wr, w' = y.w) ?_ ?_ ?_ ?_; kernel_rfl; kernel_rfl; exact ⟨⟨wr.drew, (Below.refl _ _).drew⟩, rfl⟩)
        repeat (first | ((with_reducible refine mix_skip (by kernel_rfl) ?_); go_big_quiet_skip; (with_reducible refine mix_on ?_)) | ((with_reducible refine mix_plain (by kernel_rfl) ?_); (first | go_big_quiet_skip | (go_big_quiet_want; go_big_quiet_op; go_big_quiet_on)); (with_reducible refine mix_on ?_)))
        ((with_reducible refine wpMix_chain (by kernel_rfl) (by kernel_rfl) (fun K HK => ?_)); go_step)
        refine (RW.out _).mono ?_; rintro _ w2 ⟨rfl, hb2⟩
        have hb2 := below_on (Below.refl wr.heap.size wr).drew hb2
        refine HK.out _ _ ⟨⟨w2, hb2⟩, rfl⟩ ?_
        clear HK K
        have HW2 := Lib.hid (below_on HI.out hb2)
        repeat (first | ((with_reducible refine mix_skip (by kernel_rfl) ?_); go_big_quiet_skip; (with_reducible refine mix_on ?_)) | ((with_reducible refine mix_plain (by kernel_rfl) ?_); (first | go_big_quiet_skip | (go_big_quiet_want; go_big_quiet_op; go_big_quiet_on)); (with_reducible refine mix_on ?_)))
        refine wpMix_nil ?_
        go_wp2_with fail
        go_roundw
        case rel => exact ⟨i + 1, by omega, by rw [HF2.out], by go_num, HW2⟩
        case measure => simp [intOf]; omega
      · have HF2 := HF1.out
        rw [if_neg he] at HF2
        have HF2 := Lib.hid HF2
        have hs := str_f he
        clear he HF1
        go_wp2_with fail
        (with_reducible refine wp_region_mix (fun w' => ∃ y : Ext wr, w' = y.w) ?_ ?_ ?_ ?_; kernel_rfl; kernel_rfl; exact ⟨⟨wr.drew, (Below.refl _ _).drew⟩, rfl⟩)
        repeat (first | ((with_reducible refine mix_skip (by kernel_rfl) ?_); go_big_quiet_skip; (with_reducible refine mix_on ?_)) | ((with_reducible refine mix_plain (by kernel_rfl) ?_); (first | go_big_quiet_skip | (go_big_quiet_want; go_big_quiet_op; go_big_quiet_on)); (with_reducible refine mix_on ?_)))
        ((with_reducible refine wpMix_chain (by kernel_rfl) (by kernel_rfl) (fun K HK => ?_)); go_step)
        refine (RW.out _).mono ?_; rintro _ w2 ⟨rfl, hb2⟩
        have hb2 := below_on (Below.refl wr.heap.size wr).drew hb2
        refine HK.out _ _ ⟨⟨w2, hb2⟩, rfl⟩ ?_
        clear HK K
        have HW2 := Lib.hid (below_on HI.out hb2)
        repeat (first | ((with_reducible refine mix_skip (by kernel_rfl) ?_); go_big_quiet_skip; (with_reducible refine mix_on ?_)) | ((with_reducible refine mix_plain (by kernel_rfl) ?_); (first | go_big_quiet_skip | (go_big_quiet_want; go_big_quiet_op; go_big_quiet_on)); (with_reducible refine mix_on ?_)))
        refine wpMix_nil ?_
        go_wp2_with fail
        go_roundw
        case rel => exact ⟨i + 1, by omega, by rw [HF2.out], by go_num, HW2⟩
        case measure => simp [intOf]; omega
    · subst heq
      have HFO := fnd_op H
      cases hop : opI H with
      | none =>
        rw [hop] at HFO
        simp only at HFO
        rw [HFO]
        have HOK := Lib.hid (show callP (callR (hd :: tl)) = (⟨0, 0, 0, 0, 0⟩, 3) by rw [callR_none (by rw [show (hd :: tl).headD [] = hd from rfl, ← HHD.out]; exact hop)]; rfl)
        have HB := Lib.hid (F0.out.1.trans (HI.out.mono (by have := F0.out.2.1; omega)))
        have hr := (HI.out.block w.heap.size (by have := F0.out.2.1; omega)).trans F0.out.2.2
        clear HFO hop
        have HRR := Lib.hid hr
        have x0 : wr.cell? ⟨w.heap.size, 0, none⟩ = some (.int .i64 0) := by simp [World.cell?, hr, cacells]
        have x1 : wr.cell? ⟨w.heap.size, 1, none⟩ = some (.int .i64 0) := by simp [World.cell?, hr, cacells]
        have x2 : wr.cell? ⟨w.heap.size, 2, none⟩ = some (.int .i64 0) := by simp [World.cell?, hr, cacells]
        have x3 : wr.cell? ⟨w.heap.size, 3, none⟩ = some (.int .i64 0) := by simp [World.cell?, hr, cacells]
        have x4 : wr.cell? ⟨w.heap.size, 4, none⟩ = some (.int .i64 0) := by simp [World.cell?, hr, cacells]
        have xf0 : wr.frozen? ⟨w.heap.size, 0, none⟩ = false := by simp [World.frozen?, hr]
        have xf1 : wr.frozen? ⟨w.heap.size, 1, none⟩ = false := by simp [World.frozen?, hr]
        have xf2 : wr.frozen? ⟨w.heap.size, 2, none⟩ = false := by simp [World.frozen?, hr]
        have xf3 : wr.frozen? ⟨w.heap.size, 3, none⟩ = false := by simp [World.frozen?, hr]
        have xf4 : wr.frozen? ⟨w.heap.size, 4, none⟩ = false := by simp [World.frozen?, hr]
        clear hr
        go_wp2_with fail
        generalize hW6 : World.setCell _ _ _ = w6
        have H6 := Lib.hid (show w6 = put5 wr w.heap.size ⟨0, 0, 0, 0, 0⟩ from hW6.symm)
        clear hW6
        have h6 : w6.heap[w.heap.size]? = some (.cells (cacells ⟨0, 0, 0, 0, 0⟩).toArray 26 (0, 0)) := by rw [H6.out]; exact put5_at _ HRR.out
        have z0 : w6.cell? ⟨w.heap.size, 0, none⟩ = some (.int .i64 0) := by simp [World.cell?, h6, cacells]
        have z1 : w6.cell? ⟨w.heap.size, 1, none⟩ = some (.int .i64 0) := by simp [World.cell?, h6, cacells]
        have z2 : w6.cell? ⟨w.heap.size, 2, none⟩ = some (.int .i64 0) := by simp [World.cell?, h6, cacells]
        have z3 : w6.cell? ⟨w.heap.size, 3, none⟩ = some (.int .i64 0) := by simp [World.cell?, h6, cacells]
        have z4 : w6.cell? ⟨w.heap.size, 4, none⟩ = some (.int .i64 0) := by simp [World.cell?, h6, cacells]
        refine bodyPost_ret (v := .tuple #[.agg #[.int .i64 0, .int .i64 0, .int .i64 0, .int .i64 0, .int .i64 0], .int .i64 3]) (by simp [results, Tryd.results9, go_sem, z0, z1, z2, z3, z4]) rfl ?_
        rw [HQ.out, HOK.out]
        exact ⟨rfl, by rw [H6.out]; exact HB.out.trans (put5_below _ _ _ (Nat.le_refl _))⟩
      | some k =>
        rw [hop] at HFO
        simp only at HFO
        rw [HFO]
        have HOP := Lib.hid (show opI ⟨((hd :: tl).headD []).toArray⟩ = some k by rw [show (hd :: tl).headD [] = hd from rfl, ← HHD.out]; exact hop)
        have hk15 := (op_lt hop).1
        have hkn : ¬ (k : Int) < 0 := by omega
        clear HFO hop hk15
        go_wp2_with fail
        refine (rhas (k : Int) wr).mono ?_; rintro _ w2 ⟨rfl, hb2⟩
        generalize hb0 : hasN k 0 = b0
        generalize hb1 : hasN k 1 = b1
        generalize hb2' : hasN k 2 = b2
        generalize hb3 : hasN k 3 = b3
        have HHB := Lib.hid (show ∀ i, i < 4 → #[Value.bool b0, .bool b1, .bool b2, .bool b3][i]? = some (.bool (hasN k i)) from fun i hi => by
          rw [← hb0, ← hb1, ← hb2', ← hb3]
          rcases (by omega : i = 0 ∨ i = 1 ∨ i = 2 ∨ i = 3) with rfl | rfl | rfl | rfl <;> rfl)
        have HB2 := Lib.hid (below_on HI.out hb2)
        clear hb0 hb1 hb2' hb3 hb2
        go_upto_region 11 with fail
        obtain ⟨hb, hhb⟩ : ∃ x, x = w2.heap.size := ⟨_, rfl⟩
        rw [← hhb]
        generalize hU : World.alloc (World.alloc w2 _) _ = U
        have FU := Lib.hid (show Below w.heap.size w U ∧ w.heap.size < hb ∧ U.heap.size = hb + 1 + 1 ∧ U.heap[w.heap.size]? = some (.cells (cacells ⟨0, 0, 0, 0, 0⟩).toArray 26 (0, 0)) ∧ U.heap[hb]? = some (.cells #[.bool b0, .bool b1, .bool b2, .bool b3] 57 (0, 0)) ∧ U.heap[hb + 1]? = some (.cells (nA ⟨k, 0, 0, 0, 0⟩) 59 (0, 0)) by
          have hs := HB2.out.size
          have hs2 := F0.out.2.1
          rw [← hU, hhb]
          refine ⟨((F0.out.1.trans (HB2.out.mono (by omega))).alloc (by omega) _).alloc (by simp; omega) _, by omega, by simp, ?_, ?_, ?_⟩
          · exact (Below.heap_alloc _ _ _ (by simp; omega)).trans ((Below.heap_alloc _ _ _ (by omega)).trans ((HB2.out.block _ (by omega)).trans F0.out.2.2))
          · exact (Below.heap_alloc _ _ _ (by simp)).trans (heap_alloc_new w2 _)
          · have := heap_alloc_new (w2.alloc (.cells #[.bool b0, .bool b1, .bool b2, .bool b3] 57)) (.cells #[.int .i64 0, .int .i64 0, .int .i64 0, .int .i64 0] 59)
            simp only [World.size_alloc] at this
            exact this)
        have HNL := Lib.hid (kN_len k)
        have HNM := Lib.hid (fun (i j : Nat) (h : i ≤ j) => kN_mono (k : Int) h)
        clear hU hhb HI HB2
        go_wp2_with fail
        go_loopw [8, 9, 10, 11] (fun av iv _ _ wr => ∃ (i : Nat) (ns : List Int), i ≤ 4 ∧ iv = .int .i64 i ∧ av = .int .i64 ((kN k i : Nat) + 1) ∧ Hid (kN k i ≤ tl.length ∧ numsOf (tl.take (kN k i)) = some ns) ∧ Hid (KXq (hb + 1) U wr ∧ wr.heap[hb + 1]? = some (.cells (nA (withL ⟨k, 0, 0, 0, 0⟩ ((partsL k).take (kN k i)) ns)) 59 (0, 0))))
          (fun _ iv _ _ _ => 4 - (intOf iv).toNat)
        case atStart => exact ⟨0, [], by omega, rfl, rfl, Lib.hid ⟨Nat.zero_le _, rfl⟩, Lib.hid ⟨KXq.refl _ _, FU.out.2.2.2.2.2⟩⟩
        case round =>
          obtain ⟨i, ns, hi, rfl, rfl, HN1, HW⟩ := hrel
          have HBW := Lib.hid (show Below w.heap.size w wr from FU.out.1.trans (HW.out.1.below (by have := FU.out.2.1; omega) FU.out.1.size))
          have hr := (HW.out.1.block w.heap.size (by have := FU.out.2.1; have := FU.out.2.2.1; omega) (by have := FU.out.2.1; omega)).trans FU.out.2.2.2.1
          obtain ⟨q, hq⟩ : ∃ q, q = kN k i := ⟨_, rfl⟩
          have HQK := Lib.hid hq
          rw [← hq] at HN1 HW ⊢
          have hq3 : q ≤ 3 := by have := HNM.out i 4 hi; have := HNL.out; omega
          clear hq
          rcases (by omega : i < 4 ∨ i = 4) with hlt | heq
          · have hh := HHB.out i hlt
            have h0 : wr.cell? ⟨hb, i, none⟩ = some (.bool (hasN k i)) := rowc ((HW.out.1.block hb (by have := FU.out.2.2.1; omega) (by omega)).trans FU.out.2.2.2.2.1) _ hh
            have hi4 : (i : Int) < 4 := by omega
            have hw1 : wrap64 ((i : Int) + 1) = (i : Int) + 1 := wrap_id ⟨by omega, by omega⟩
            have hw2 : IntKind.i64.wrap ((i : Int) + 1) = (i : Int) + 1 := wrapi_id ⟨by omega, by omega⟩
            have hw3 : wrap64 ((q : Int) + 1 + 1) = (q : Int) + 1 + 1 := wrap_id ⟨by omega, by omega⟩
            have hw4 : IntKind.i64.wrap ((q : Int) + 1 + 1) = (q : Int) + 1 + 1 := wrapi_id ⟨by omega, by omega⟩
            clear hh hq3
            cases hbi : hasN k i with
            | false =>
              rw [hbi] at h0
              have HKN := Lib.hid (show kN k (i + 1) = q by rw [HQK.out]; exact kN_n hbi)
              clear hbi hr
              go_wp2_with fail
              go_roundw
              case rel => exact ⟨i + 1, ns, by omega, by go_num, by rw [HKN.out], by rw [HKN.out]; exact HN1, by rw [HKN.out]; exact HW⟩
              case measure => simp [intOf]; omega
            | true =>
              rw [hbi] at h0
              have HKN := Lib.hid (show kN k (i + 1) = q + 1 by rw [HQK.out]; exact kN_y hbi)
              have HAT := Lib.hid (show (partsL k)[q]? = some (i : Int) by rw [HQK.out]; exact kN_at k hlt hbi)
              have HTK := Lib.hid (show (partsL k).take (kN k (i + 1)) = (partsL k).take q ++ [(i : Int)] by rw [HQK.out]; exact kN_take k hlt hbi)
              clear hbi
              by_cases hge : tl.length ≤ q
              · have hn1 : (n : Int) ≤ (q : Int) + 1 := by have := HNN.out; omega
                have HOK := Lib.hid (show callP (callR (hd :: tl)) = (⟨0, 0, 0, 0, 0⟩, 4) by
                  rw [callR_len HOP.out (by
                    have h1 := (List.getElem?_eq_some_iff.1 HAT.out).1
                    show tl.length ≠ _
                    omega)]; rfl)
                have HB := HBW
                clear hge
                have HRR := Lib.hid hr
                have x0 : wr.cell? ⟨w.heap.size, 0, none⟩ = some (.int .i64 0) := by simp [World.cell?, hr, cacells]
                have x1 : wr.cell? ⟨w.heap.size, 1, none⟩ = some (.int .i64 0) := by simp [World.cell?, hr, cacells]
                have x2 : wr.cell? ⟨w.heap.size, 2, none⟩ = some (.int .i64 0) := by simp [World.cell?, hr, cacells]
                have x3 : wr.cell? ⟨w.heap.size, 3, none⟩ = some (.int .i64 0) := by simp [World.cell?, hr, cacells]
                have x4 : wr.cell? ⟨w.heap.size, 4, none⟩ = some (.int .i64 0) := by simp [World.cell?, hr, cacells]
                have xf0 : wr.frozen? ⟨w.heap.size, 0, none⟩ = false := by simp [World.frozen?, hr]
                have xf1 : wr.frozen? ⟨w.heap.size, 1, none⟩ = false := by simp [World.frozen?, hr]
                have xf2 : wr.frozen? ⟨w.heap.size, 2, none⟩ = false := by simp [World.frozen?, hr]
                have xf3 : wr.frozen? ⟨w.heap.size, 3, none⟩ = false := by simp [World.frozen?, hr]
                have xf4 : wr.frozen? ⟨w.heap.size, 4, none⟩ = false := by simp [World.frozen?, hr]
                clear hr
                go_wp2_with fail
                generalize hW6 : World.setCell _ _ _ = w6
                have H6 := Lib.hid (show w6 = put5 wr w.heap.size ⟨0, 0, 0, 0, 0⟩ from hW6.symm)
                clear hW6
                have h6 : w6.heap[w.heap.size]? = some (.cells (cacells ⟨0, 0, 0, 0, 0⟩).toArray 26 (0, 0)) := by rw [H6.out]; exact put5_at _ HRR.out
                have z0 : w6.cell? ⟨w.heap.size, 0, none⟩ = some (.int .i64 0) := by simp [World.cell?, h6, cacells]
                have z1 : w6.cell? ⟨w.heap.size, 1, none⟩ = some (.int .i64 0) := by simp [World.cell?, h6, cacells]
                have z2 : w6.cell? ⟨w.heap.size, 2, none⟩ = some (.int .i64 0) := by simp [World.cell?, h6, cacells]
                have z3 : w6.cell? ⟨w.heap.size, 3, none⟩ = some (.int .i64 0) := by simp [World.cell?, h6, cacells]
                have z4 : w6.cell? ⟨w.heap.size, 4, none⟩ = some (.int .i64 0) := by simp [World.cell?, h6, cacells]
                refine bodyPost_ret (v := .tuple #[.agg #[.int .i64 0, .int .i64 0, .int .i64 0, .int .i64 0, .int .i64 0], .int .i64 4]) (by simp [results, Tryd.results9, go_sem, z0, z1, z2, z3, z4]) rfl ?_
                rw [HQ.out, HOK.out]
                exact ⟨rfl, by rw [H6.out]; exact HB.out.trans (put5_below _ _ _ (Nat.le_refl _))⟩
              · have hn1 : ¬ (n : Int) ≤ (q : Int) + 1 := by have := HNN.out; omega
                have hn2 : (q : Int) + 1 < (n : Int) := by omega
                have hn3 : q + 1 < n := by omega
                obtain ⟨x, hx⟩ : ∃ x, tl[q]? = some x := ⟨tl[q]'(by omega), List.getElem?_eq_getElem (by omega)⟩
                have HX := Lib.hid hx
                have c0 := Ext.cell ⟨wr, HBW.out⟩ (HCW.out q x hx)
                simp only at c0
                clear hx hge
                cases hnx : numOf x with
                | none =>
                  have HOK := Lib.hid (show callP (callR (hd :: tl)) = (⟨0, 0, 0, 0, 0⟩, 4) by
                    rw [callR_bad HOP.out (numsOf_bad (List.mem_of_getElem? HX.out) hnx)]; rfl)
                  have PN := Lib.hid (rparse_no x wr (numOf_not hnx) (by have := HXL.out x (List.mem_of_getElem? HX.out); omega))
                  clear hnx
                  have HR := Lib.hid hr
                  clear hr
                  go_wp2_with fail
                  refine PN.out.mono ?_; rintro _ w5 ⟨rfl, hb5⟩
                  have HB := Lib.hid (HBW.out.trans (hb5.mono HBW.out.size))
                  have hr := upk hb5 HR.out
                  clear hb5 c0 h0
                  have HRR := Lib.hid hr
                  have x0 : w5.cell? ⟨w.heap.size, 0, none⟩ = some (.int .i64 0) := by simp [World.cell?, hr, cacells]
                  have x1 : w5.cell? ⟨w.heap.size, 1, none⟩ = some (.int .i64 0) := by simp [World.cell?, hr, cacells]
                  have x2 : w5.cell? ⟨w.heap.size, 2, none⟩ = some (.int .i64 0) := by simp [World.cell?, hr, cacells]
                  have x3 : w5.cell? ⟨w.heap.size, 3, none⟩ = some (.int .i64 0) := by simp [World.cell?, hr, cacells]
                  have x4 : w5.cell? ⟨w.heap.size, 4, none⟩ = some (.int .i64 0) := by simp [World.cell?, hr, cacells]
                  have xf0 : w5.frozen? ⟨w.heap.size, 0, none⟩ = false := by simp [World.frozen?, hr]
                  have xf1 : w5.frozen? ⟨w.heap.size, 1, none⟩ = false := by simp [World.frozen?, hr]
                  have xf2 : w5.frozen? ⟨w.heap.size, 2, none⟩ = false := by simp [World.frozen?, hr]
                  have xf3 : w5.frozen? ⟨w.heap.size, 3, none⟩ = false := by simp [World.frozen?, hr]
                  have xf4 : w5.frozen? ⟨w.heap.size, 4, none⟩ = false := by simp [World.frozen?, hr]
                  clear hr
                  go_wp2_with fail
                  generalize hW6 : World.setCell _ _ _ = w6
                  have H6 := Lib.hid (show w6 = put5 w5 w.heap.size ⟨0, 0, 0, 0, 0⟩ from hW6.symm)
                  clear hW6
                  have h6 : w6.heap[w.heap.size]? = some (.cells (cacells ⟨0, 0, 0, 0, 0⟩).toArray 26 (0, 0)) := by rw [H6.out]; exact put5_at _ HRR.out
                  have z0 : w6.cell? ⟨w.heap.size, 0, none⟩ = some (.int .i64 0) := by simp [World.cell?, h6, cacells]
                  have z1 : w6.cell? ⟨w.heap.size, 1, none⟩ = some (.int .i64 0) := by simp [World.cell?, h6, cacells]
                  have z2 : w6.cell? ⟨w.heap.size, 2, none⟩ = some (.int .i64 0) := by simp [World.cell?, h6, cacells]
                  have z3 : w6.cell? ⟨w.heap.size, 3, none⟩ = some (.int .i64 0) := by simp [World.cell?, h6, cacells]
                  have z4 : w6.cell? ⟨w.heap.size, 4, none⟩ = some (.int .i64 0) := by simp [World.cell?, h6, cacells]
                  refine bodyPost_ret (v := .tuple #[.agg #[.int .i64 0, .int .i64 0, .int .i64 0, .int .i64 0, .int .i64 0], .int .i64 4]) (by simp [results, Tryd.results9, go_sem, z0, z1, z2, z3, z4]) rfl ?_
                  rw [HQ.out, HOK.out]
                  exact ⟨rfl, by rw [H6.out]; exact HB.out.trans (put5_below _ _ _ (Nat.le_refl _))⟩
                | some a =>
                  have HNA := Lib.hid hnx
                  have PY := Lib.hid (rparse x a wr (numOf_is hnx))
                  clear hnx hr
                  go_wp2_with fail
                  refine PY.out.mono ?_; rintro _ w5 ⟨rfl, hb5⟩
                  have H5 := Lib.hid (And.intro (HW.out.1.on hb5) (upk hb5 HW.out.2))
                  obtain ⟨z, hz⟩ := nA_get (withL ⟨k, 0, 0, 0, 0⟩ ((partsL k).take q) ns) hlt
                  have n0 : w5.cell? ⟨hb + 1, i, none⟩ = some (.int .i64 z) := rowc H5.out.2 _ hz
                  have n1 : w5.frozen? ⟨hb + 1, i, none⟩ = false := frozen_of_row _ _ _ _ _ H5.out.2
                  have HLS := Lib.hid (show ((partsL k).take q).length = ns.length by
                    have h1 := (List.getElem?_eq_some_iff.1 HAT.out).1
                    have h2 := numsOf_len HN1.out.2
                    rw [List.length_take] at h2 ⊢
                    have := HN1.out.1
                    omega)
                  have HNS := Lib.hid (show numsOf (tl.take (q + 1)) = some (ns ++ [a]) by rw [List.take_add_one, HX.out]; exact numsOf_snoc x a HN1.out.2 HNA.out)
                  have HTL := Lib.hid (show q + 1 ≤ tl.length from (List.getElem?_eq_some_iff.1 HX.out).1)
                  clear hz hb5 c0 h0
                  go_wp2_with fail
                  go_roundw
                  case rel =>
                    refine ⟨i + 1, ns ++ [a], by omega, by go_num, by rw [HKN.out]; simp, by rw [HKN.out]; exact Lib.hid ⟨HTL.out, HNS.out⟩, ?_⟩
                    rw [HTK.out, withL_snoc _ _ _ _ _ HLS.out, ← nA_set _ hlt]
                    exact Lib.hid ⟨H5.out.1.set _, heap_setCell_same _ (hb + 1) i _ _ _ H5.out.2⟩
                  case measure => simp [intOf]; omega
          · subst heq
            have HQ4 := Lib.hid (show q = (partsL k).length by rw [HQK.out]; exact kN_all k)
            by_cases hm : tl.length = q
            · have hn1 : ((q : Int) + 1 != (n : Int)) = false := by have := HNN.out; simp; omega
              have hn2 : (q : Int) + 1 = (n : Int) := by have := HNN.out; omega
              have HOK := Lib.hid (show callP (callR (hd :: tl)) = (withL ⟨k, 0, 0, 0, 0⟩ ((partsL k).take q) ns, 0) by
                have h1 := HN1.out.2
                rw [← hm, List.take_length] at h1
                rw [callR_ok HOP.out (by show tl.length = _; rw [← HQ4.out]; exact hm) h1, HQ4.out, List.take_length]; rfl)
              have hop := withL_op ((partsL k).take q) ns ⟨k, 0, 0, 0, 0⟩
              have hnn := HW.out.2
              have HB := HBW
              generalize withL ⟨k, 0, 0, 0, 0⟩ ((partsL k).take q) ns = cc at hop hnn HOK
              obtain ⟨oo, key, val, hh, lim⟩ := cc
              simp only at hop
              subst hop
              have n0 : wr.cell? ⟨hb + 1, 0, none⟩ = some (.int .i64 key) := rowc hnn _ rfl
              have n1 : wr.cell? ⟨hb + 1, 1, none⟩ = some (.int .i64 val) := rowc hnn _ rfl
              have n2 : wr.cell? ⟨hb + 1, 2, none⟩ = some (.int .i64 hh) := rowc hnn _ rfl
              have n3 : wr.cell? ⟨hb + 1, 3, none⟩ = some (.int .i64 lim) := rowc hnn _ rfl
              clear hnn hm
              have HRR := Lib.hid hr
              have x0 : wr.cell? ⟨w.heap.size, 0, none⟩ = some (.int .i64 0) := by simp [World.cell?, hr, cacells]
              have x1 : wr.cell? ⟨w.heap.size, 1, none⟩ = some (.int .i64 0) := by simp [World.cell?, hr, cacells]
              have x2 : wr.cell? ⟨w.heap.size, 2, none⟩ = some (.int .i64 0) := by simp [World.cell?, hr, cacells]
              have x3 : wr.cell? ⟨w.heap.size, 3, none⟩ = some (.int .i64 0) := by simp [World.cell?, hr, cacells]
              have x4 : wr.cell? ⟨w.heap.size, 4, none⟩ = some (.int .i64 0) := by simp [World.cell?, hr, cacells]
              have xf0 : wr.frozen? ⟨w.heap.size, 0, none⟩ = false := by simp [World.frozen?, hr]
              have xf1 : wr.frozen? ⟨w.heap.size, 1, none⟩ = false := by simp [World.frozen?, hr]
              have xf2 : wr.frozen? ⟨w.heap.size, 2, none⟩ = false := by simp [World.frozen?, hr]
              have xf3 : wr.frozen? ⟨w.heap.size, 3, none⟩ = false := by simp [World.frozen?, hr]
              have xf4 : wr.frozen? ⟨w.heap.size, 4, none⟩ = false := by simp [World.frozen?, hr]
              clear hr
              go_wp2_with fail
              generalize hW6 : World.setCell _ _ _ = w6
              have H6 := Lib.hid (show w6 = put5 wr w.heap.size ⟨k, key, val, hh, lim⟩ from hW6.symm)
              clear hW6
              have h6 : w6.heap[w.heap.size]? = some (.cells (cacells ⟨k, key, val, hh, lim⟩).toArray 26 (0, 0)) := by rw [H6.out]; exact put5_at _ HRR.out
              have z0 : w6.cell? ⟨w.heap.size, 0, none⟩ = some (.int .i64 k) := by simp [World.cell?, h6, cacells]
              have z1 : w6.cell? ⟨w.heap.size, 1, none⟩ = some (.int .i64 key) := by simp [World.cell?, h6, cacells]
              have z2 : w6.cell? ⟨w.heap.size, 2, none⟩ = some (.int .i64 val) := by simp [World.cell?, h6, cacells]
              have z3 : w6.cell? ⟨w.heap.size, 3, none⟩ = some (.int .i64 hh) := by simp [World.cell?, h6, cacells]
              have z4 : w6.cell? ⟨w.heap.size, 4, none⟩ = some (.int .i64 lim) := by simp [World.cell?, h6, cacells]
              refine bodyPost_ret (v := .tuple #[.agg #[.int .i64 k, .int .i64 key, .int .i64 val, .int .i64 hh, .int .i64 lim], .int .i64 0]) (by simp [results, Tryd.results9, go_sem, z0, z1, z2, z3, z4]) rfl ?_
              rw [HQ.out, HOK.out]
              exact ⟨rfl, by rw [H6.out]; exact HB.out.trans (put5_below _ _ _ (Nat.le_refl _))⟩
            · have hn1 : ((q : Int) + 1 != (n : Int)) = true := by have := HNN.out; simp; omega
              have hn2 : ¬ (q : Int) + 1 = (n : Int) := by have := HNN.out; omega
              have HOK := Lib.hid (show callP (callR (hd :: tl)) = (⟨0, 0, 0, 0, 0⟩, 4) by
                rw [callR_len HOP.out (by show tl.length ≠ _; rw [← HQ4.out]; exact hm)]; rfl)
              have HB := HBW
              clear hm
              have HRR := Lib.hid hr
              have x0 : wr.cell? ⟨w.heap.size, 0, none⟩ = some (.int .i64 0) := by simp [World.cell?, hr, cacells]
              have x1 : wr.cell? ⟨w.heap.size, 1, none⟩ = some (.int .i64 0) := by simp [World.cell?, hr, cacells]
              have x2 : wr.cell? ⟨w.heap.size, 2, none⟩ = some (.int .i64 0) := by simp [World.cell?, hr, cacells]
              have x3 : wr.cell? ⟨w.heap.size, 3, none⟩ = some (.int .i64 0) := by simp [World.cell?, hr, cacells]
              have x4 : wr.cell? ⟨w.heap.size, 4, none⟩ = some (.int .i64 0) := by simp [World.cell?, hr, cacells]
              have xf0 : wr.frozen? ⟨w.heap.size, 0, none⟩ = false := by simp [World.frozen?, hr]
              have xf1 : wr.frozen? ⟨w.heap.size, 1, none⟩ = false := by simp [World.frozen?, hr]
              have xf2 : wr.frozen? ⟨w.heap.size, 2, none⟩ = false := by simp [World.frozen?, hr]
              have xf3 : wr.frozen? ⟨w.heap.size, 3, none⟩ = false := by simp [World.frozen?, hr]
              have xf4 : wr.frozen? ⟨w.heap.size, 4, none⟩ = false := by simp [World.frozen?, hr]
              clear hr
              go_wp2_with fail
              generalize hW6 : World.setCell _ _ _ = w6
              have H6 := Lib.hid (show w6 = put5 wr w.heap.size ⟨0, 0, 0, 0, 0⟩ from hW6.symm)
              clear hW6
              have h6 : w6.heap[w.heap.size]? = some (.cells (cacells ⟨0, 0, 0, 0, 0⟩).toArray 26 (0, 0)) := by rw [H6.out]; exact put5_at _ HRR.out
              have z0 : w6.cell? ⟨w.heap.size, 0, none⟩ = some (.int .i64 0) := by simp [World.cell?, h6, cacells]
              have z1 : w6.cell? ⟨w.heap.size, 1, none⟩ = some (.int .i64 0) := by simp [World.cell?, h6, cacells]
              have z2 : w6.cell? ⟨w.heap.size, 2, none⟩ = some (.int .i64 0) := by simp [World.cell?, h6, cacells]
              have z3 : w6.cell? ⟨w.heap.size, 3, none⟩ = some (.int .i64 0) := by simp [World.cell?, h6, cacells]
              have z4 : w6.cell? ⟨w.heap.size, 4, none⟩ = some (.int .i64 0) := by simp [World.cell?, h6, cacells]
              refine bodyPost_ret (v := .tuple #[.agg #[.int .i64 0, .int .i64 0, .int .i64 0, .int .i64 0, .int .i64 0], .int .i64 4]) (by simp [results, Tryd.results9, go_sem, z0, z1, z2, z3, z4]) rfl ?_
              rw [HQ.out, HOK.out]
              exact ⟨rfl, by rw [H6.out]; exact HB.out.trans (put5_below _ _ _ (Nat.le_refl _))⟩

end Go.Proofs.YtdgplijnhkgeiaaDoor
