/- Layer 35, reading: the reference's ReadAnswer. (By gen_rtxw.py, VAR=3.) -/
import Derived.Test.YtdgplijnhkgeiaaDoorRtxV
namespace Go.Proofs.YtdgplijnhkgeiaaDoor
open Go.RowKit
set_option linter.unusedVariables false
set_option linter.unusedSimpArgs false
set_option maxRecDepth 8000 in
set_option maxHeartbeats 8000000 in
theorem rreadanswer_3 (v : Value) (hd : List UInt8) (tl : List (List UInt8)) (w : World) (hv : SR w v (hd :: tl)) (hl : tl.length ≤ 5000) (hx : ∀ x ∈ tl, x.length ≤ 4999) (hk : kdI ⟨hd.toArray⟩ = some 3) :
    Calls Tryd.prog 11 #[v] w fun e w' => ∃ av, e = .returned (.tuple #[.agg (ancells (ansP (tailR 3 tl)).1 av).toArray, .int .i64 (ansP (tailR 3 tl)).2]) ∧ OwnQ w' w.heap.size av (ansP (tailR 3 tl)).1.ps ∧ Below w.heap.size w w' := by
  refine Calls.veil fun Q HQ => ?_
  have HXL := Lib.hid hx
  have HLN := Lib.hid hl
  have HSR := Lib.hid hv
  obtain ⟨p, c, rfl, hc1, hc2, hc3⟩ := hv
  obtain ⟨g, o, rfl, hc4⟩ := hc3 0 hd rfl
  obtain ⟨H, hH⟩ : ∃ H : ByteArray, H = ⟨hd.toArray⟩ := ⟨_, rfl⟩
  have HC0 := Lib.hid (show w.cell? ⟨g, o, none⟩ = some (.string H) by rw [hH]; exact hc4)
  have HCW := Lib.hid (show ∀ (k : Nat) x, tl[k]? = some x → w.cell? ⟨g, o + (k + 1), none⟩ = some (tx x) from fun k x h => by
    obtain ⟨g', o', e1, e2⟩ := hc3 (k + 1) x h
    injection e1 with e1
    injection e1 with e3 e4
    subst e3 e4
    exact e2)
  have HKD := Lib.hid (show kdI H = some 3 by rw [hH]; exact hk)
  have hln : (hd :: tl).length = tl.length + 1 := rfl
  rw [hln] at hc1 ⊢
  obtain ⟨n, hn⟩ : ∃ n, n = tl.length + 1 := ⟨_, rfl⟩
  have HNN := Lib.hid hn
  rw [← hn] at hc1 ⊢
  have hn0 : (0 : Int) < n := by omega
  have hn1 : 0 < n := by omega
  have hg2 : decide ((0 : Int) < n) = true := by simpa using hn0
  clear hc3 hc4 hx hl hH hln hn hk
  go_enter Tryd.func11, Tryd.ntmps11
  go_upto_region 1 with fail
  generalize hV : World.alloc w _ = V
  have F0 := Lib.hid (show Below w.heap.size w V ∧ V.heap.size = w.heap.size + 1 ∧ V.heap[w.heap.size]? = some (.cells (ancells ⟨0, 0, 0, 0, []⟩ (.slice none 0 0)).toArray 33 (0, 0)) by
    rw [← hV]; exact ⟨below_new (Below.refl _ _) _, by simp, heap_alloc_new w _⟩)
  clear hV
  go_wp2_with fail
  go_loopw [4, 5] (fun ov iv wr => ∃ i : Nat, i ≤ 9 ∧ ov = .int .i64 (fnd kindAt H i) ∧ iv = .int .i64 i ∧ Hid (Below V.heap.size V wr))
    (fun _ iv _ => 9 - (intOf iv).toNat)
  case atStart => exact ⟨0, by omega, rfl, rfl, Lib.hid (Below.refl _ _)⟩
  case round =>
    obtain ⟨i, hi, rfl, rfl, HI⟩ := hrel
    rcases (by omega : i < 9 ∨ i = 9) with hlt | heq
    · have RW : ∀ W, Calls Tryd.prog 27 #[.int .i64 (i : Nat)] W fun e w' => e = .returned (.string (kindAt i)) ∧ Below W.heap.size W w' := fun W => by
        have h := rkind (i : Int) W
        rwa [← kS_eq hlt] at h
      have RW := Lib.hid RW
      obtain ⟨fi, hfi⟩ : ∃ x, x = fnd kindAt H i := ⟨_, rfl⟩
      have HF1 : Hid (fnd kindAt H (i + 1) = if kindAt i = H then (i : Int) else fi) := Lib.hid (by rw [hfi]; rfl)
      rw [← hfi]
      clear hfi
      generalize kindAt i = y at RW HF1
      have il : (i : Int) < 9 := by omega
      have hw1 : wrap64 ((i : Int) + 1) = (i : Int) + 1 := wrap_id ⟨by omega, by omega⟩
      have hw2 : IntKind.i64.wrap ((i : Int) + 1) = (i : Int) + 1 := wrapi_id ⟨by omega, by omega⟩
      have cH := Ext.cells (Ext.cell ⟨wr, (F0.out.1.trans (HI.out.mono (by have := F0.out.2.1; omega)))⟩ HC0.out)
      by_cases he : y = H
      · have HF2 := HF1.out
        rw [if_pos he] at HF2
        have HF2 := Lib.hid HF2
        have hs := str_t he
        clear he HF1
        go_wp2_with fail
        (with_reducible refine wp_region_mix (fun w' => ∃ y : Ext wr, w' = y.w) ?_ ?_ ?_ ?_; kernel_rfl; kernel_rfl; exact ⟨⟨wr.drew, (Below.refl _ _).drew⟩, rfl⟩)
        repeat (first | ((with_reducible refine mix_skip (by kernel_rfl) ?_); go_big_quiet_skip; (with_reducible refine mix_on ?_)) | ((with_reducible refine mix_plain (by kernel_rfl) ?_); (first | go_big_quiet_skip | (go_big_quiet_want; go_big_quiet_op; go_big_quiet_on)); (with_reducible refine mix_on ?_)))
        ((with_reducible refine wpMix_chain (by kernel_rfl) (by kernel_rfl) (fun K HK => ?_)); go_step)
        refine (RW.out _).mono ?_; rintro _ w2 ⟨rfl, hb2⟩
        have hb2 := below_on (Below.refl wr.heap.size wr).drew hb2
        refine HK.out _ _ ⟨⟨w2, hb2⟩, rfl⟩ ?_
        clear HK K
        have HW2 := Lib.hid (below_on HI.out hb2)
        repeat (first | ((with_reducible refine mix_skip (by kernel_rfl) ?_); go_big_quiet_skip; (with_reducible refine mix_on ?_)) | ((with_reducible refine mix_plain (by kernel_rfl) ?_); (first | go_big_quiet_skip | (go_big_quiet_want; go_big_quiet_op; go_big_quiet_on)); (with_reducible refine mix_on ?_)))
        refine wpMix_nil ?_
        go_wp2_with fail
        go_roundw
        case rel => exact ⟨i + 1, by omega, by rw [HF2.out], by go_num, HW2⟩
        case measure => simp [intOf]; omega
      · have HF2 := HF1.out
        rw [if_neg he] at HF2
        have HF2 := Lib.hid HF2
        have hs := str_f he
        clear he HF1
        go_wp2_with fail
        (with_reducible refine wp_region_mix (fun w' => ∃ y : Ext wr, w' = y.w) ?_ ?_ ?_ ?_; kernel_rfl; kernel_rfl; exact ⟨⟨wr.drew, (Below.refl _ _).drew⟩, rfl⟩)
        repeat (first | ((with_reducible refine mix_skip (by kernel_rfl) ?_); go_big_quiet_skip; (with_reducible refine mix_on ?_)) | ((with_reducible refine mix_plain (by kernel_rfl) ?_); (first | go_big_quiet_skip | (go_big_quiet_want; go_big_quiet_op; go_big_quiet_on)); (with_reducible refine mix_on ?_)))
        ((with_reducible refine wpMix_chain (by kernel_rfl) (by kernel_rfl) (fun K HK => ?_)); go_step)
        refine (RW.out _).mono ?_; rintro _ w2 ⟨rfl, hb2⟩
        have hb2 := below_on (Below.refl wr.heap.size wr).drew hb2
        refine HK.out _ _ ⟨⟨w2, hb2⟩, rfl⟩ ?_
        clear HK K
        have HW2 := Lib.hid (below_on HI.out hb2)
        repeat (first | ((with_reducible refine mix_skip (by kernel_rfl) ?_); go_big_quiet_skip; (with_reducible refine mix_on ?_)) | ((with_reducible refine mix_plain (by kernel_rfl) ?_); (first | go_big_quiet_skip | (go_big_quiet_want; go_big_quiet_op; go_big_quiet_on)); (with_reducible refine mix_on ?_)))
        refine wpMix_nil ?_
        go_wp2_with fail
        go_roundw
        case rel => exact ⟨i + 1, by omega, by rw [HF2.out], by go_num, HW2⟩
        case measure => simp [intOf]; omega
    · have HFO := fnd_kd H
      rw [HKD.out, ← heq] at HFO
      simp only at HFO
      have hge : ¬ (i : Int) < 9 := by omega
      clear heq
      have HFO : fnd kindAt H i = 3 := HFO
      rw [HFO]
      clear HFO
      have HSU := Lib.hid (show w.heap.size < wr.heap.size by have := HI.out.size; have := F0.out.2.1; omega)
      have HBW := Lib.hid (F0.out.1.trans (HI.out.mono (by have := F0.out.2.1; omega)))
      have HRR0 := Lib.hid ((HI.out.block w.heap.size (by have := F0.out.2.1; omega)).trans F0.out.2.2)
      go_upto_region 10 with fail
      obtain ⟨A, hA⟩ : ∃ A, A = wr.heap.size := ⟨_, rfl⟩
      rw [← hA] at HSU ⊢
      generalize hU : World.alloc wr _ = U
      have FU := Lib.hid (show Below w.heap.size w U ∧ A < U.heap.size ∧ U.heap[w.heap.size]? = some (.cells (ancells ⟨0, 0, 0, 0, []⟩ (.slice none 0 0)).toArray 33 (0, 0)) ∧ U.heap[A]? = some (.cells (ancells ⟨3, 0, 0, 0, []⟩ (.slice none 0 0)).toArray 33 (0, 0)) by
        rw [← hU, hA]
        exact ⟨below_new HBW.out _, by simp, (Below.heap_alloc _ _ _ (by rw [← hA]; exact HSU.out)).trans HRR0.out, heap_alloc_new wr _⟩)
      clear hU hA HRR0 HBW HI hge
      clear hn0 hn1 hg2
      go_wp2_with fail
      go_loopw [8, 9, 10, 11, 12, 13] (fun nv iv _ _ _ _ wr => ∃ (i : Nat) (NS : List Int), i ≤ tl.length ∧ iv = .int .i64 ((i : Int) + 1) ∧ Hid (flatO 3 (tl.take i) = some NS) ∧ Hid (OwnN wr U.heap.size nv NS ∧ Below U.heap.size U wr))
        (fun _ iv _ _ _ _ _ => tl.length + 1 - (intOf iv).toNat)
      case atStart => exact ⟨0, [], by omega, rfl, Lib.hid (by unfold flatO; split <;> rfl), Lib.hid ⟨ownN_nil _ _, Below.refl _ _⟩⟩
      case round =>
        obtain ⟨i, NS, hi, rfl, HNS, HO⟩ := hrel
        obtain ⟨np, nc, hnv, HNC⟩ := ownN_cells HO.out.1
        subst hnv
        have HNC := Lib.hid HNC
        rcases (by omega : i < tl.length ∨ i = tl.length) with hlt | heq
        · obtain ⟨x, hx⟩ : ∃ x, tl[i]? = some x := ⟨tl[i], List.getElem?_eq_getElem hlt⟩
          have HX := Lib.hid hx
          have HXM := Lib.hid (List.mem_of_getElem? hx)
          have HBW := Lib.hid (FU.out.1.trans (HO.out.2.mono (Nat.le_of_lt (Nat.lt_trans HSU.out FU.out.2.1))))
          have c0 := Ext.cell ⟨wr, HBW.out⟩ (HCW.out i x hx)
          simp only at c0
          have c1 := fun u => Ext.on c0 u
          have il : (i : Int) + 1 < (n : Int) := by have := HNN.out; omega
          have il2 : i + 1 < n := by have := HNN.out; omega
          have hw1 : wrap64 ((i : Int) + 1 + 1) = (i : Int) + 1 + 1 := wrap_id ⟨by omega, by have := HLN.out; omega⟩
          have hw2 : IntKind.i64.wrap ((i : Int) + 1 + 1) = (i : Int) + 1 + 1 := wrapi_id ⟨by omega, by have := HLN.out; omega⟩
          clear hx
          go_upto_region 22 with fail
          generalize hV1 : World.alloc wr _ = V1
          have F1 := Lib.hid (show Below U.heap.size U V1 ∧ OwnN V1 U.heap.size (.slice np NS.length nc) NS ∧ OwnT V1 0 (.slice (some ⟨wr.heap.size, 0, none⟩) 1 1) [x] ∧ V1.cell? ⟨g, o + (i + 1), none⟩ = some (tx x) by
            rw [← hV1]; exact ⟨HO.out.2.alloc HO.out.2.size _, World.ownsRow.alloc HO.out.1 _, ownT_new wr x 0 (Nat.zero_le _), c1 _⟩)
          have c2 := F1.out.2.2.2
          clear hV1 c0 c1 HO HBW HNC
          go_wp2_with fail
          have RC : Calls Tryd.prog 7 #[tx x, .int .u8 58] V1 fun e w' => ∃ v, e = .returned v ∧ OwnT w' V1.heap.size v (splitL 58 x) ∧ Below V1.heap.size V1 w' := rcutO x 58 V1 (by have := HXL.out x HXM.out; omega)
          refine RC.mono ?_; rintro _ W3 ⟨pv, rfl, hot, hb3⟩
          have HUL := Lib.hid (show ∀ u ∈ splitL 58 x, u.length ≤ 5000 from fun u hu => Nat.le_trans (splitL_word 58 x u hu) (by have := HXL.out x HXM.out; omega))
          have F3 := Lib.hid (show Below U.heap.size U W3 ∧ OwnN W3 U.heap.size (.slice np NS.length nc) NS ∧ OwnT W3 0 pv (splitL 58 x) from ⟨below_on F1.out.1 hb3, World.ownsRow.kept F1.out.2.1 (grown_of_below hb3) (by cases (Value.slice np NS.length nc).ownBlock <;> simp), own_zero hot⟩)
          obtain ⟨q, qc, rfl⟩ := ownT_slice hot
          have HS2 := Lib.hid (show (splitL 58 x).length ≠ 2 → tailR 3 tl = .error 4 from fun h => tailR_none (flatO_bad2 HXM.out h))
          have HM := Lib.hid (show ∀ ms, numsOf (splitL 58 x) = some ms → (splitL 58 x).length = 2 → flatO 3 (tl.take (i + 1)) = some (NS ++ ms) from fun ms h h2 => by
            rw [List.take_add_one, HX.out]
            exact flatO_snoc HNS.out (by show numsOf (if 3 = 3 then splitL 58 x else [x]) = some ms; rw [if_pos rfl]; exact h) fun _ => h2)
          have HF := Lib.hid (show ∀ u, u ∈ splitL 58 x → numOf u = none → tailR 3 tl = .error 4 from fun u hu h => tailR_none (flatO_bad (k := 3) HXM.out (by show u ∈ (if 3 = 3 then splitL 58 x else [x]); rw [if_pos rfl]; exact hu) h))
          have HPL := Lib.hid (show (splitL 58 x).length ≤ 5001 by have := splitL_len 58 x; have := HXL.out x HXM.out; omega)
          clear hot hb3 RC F1 c2
          generalize splitL 58 x = P at *
          by_cases hP2 : P.length = 2
          case neg =>
            have h1 : ((P.length : Int) != 2) = true := by simp; omega
            have h2 : ¬ (P.length : Int) = 2 := by omega
            have HOK := Lib.hid (show ansP (tailR 3 tl) = (⟨0, 0, 0, 0, []⟩, 4) by rw [HS2.out hP2]; rfl)
            have HB := Lib.hid (FU.out.1.trans (F3.out.1.mono (Nat.le_of_lt (Nat.lt_trans HSU.out FU.out.2.1))))
            have hr := (F3.out.1.block w.heap.size (Nat.lt_trans HSU.out FU.out.2.1)).trans FU.out.2.2.1
            clear hP2
            have HRR := Lib.hid hr
            have y0 : W3.cell? ⟨w.heap.size, 0, none⟩ = some (.int .i64 0) := by simp [World.cell?, hr, ancells]
            have y1 : W3.cell? ⟨w.heap.size, 1, none⟩ = some (.int .i64 0) := by simp [World.cell?, hr, ancells]
            have y2 : W3.cell? ⟨w.heap.size, 2, none⟩ = some (.int .i64 0) := by simp [World.cell?, hr, ancells]
            have y3 : W3.cell? ⟨w.heap.size, 3, none⟩ = some (.int .i64 0) := by simp [World.cell?, hr, ancells]
            have y4 : W3.cell? ⟨w.heap.size, 4, none⟩ = some (.slice none 0 0) := by simp [World.cell?, hr, ancells]
            have yf0 : W3.frozen? ⟨w.heap.size, 0, none⟩ = false := by simp [World.frozen?, hr]
            have yf1 : W3.frozen? ⟨w.heap.size, 1, none⟩ = false := by simp [World.frozen?, hr]
            have yf2 : W3.frozen? ⟨w.heap.size, 2, none⟩ = false := by simp [World.frozen?, hr]
            have yf3 : W3.frozen? ⟨w.heap.size, 3, none⟩ = false := by simp [World.frozen?, hr]
            have yf4 : W3.frozen? ⟨w.heap.size, 4, none⟩ = false := by simp [World.frozen?, hr]
            clear hr
            go_wp2_with fail
            generalize hW6 : World.setCell _ _ _ = w6
            have H6 := Lib.hid (show w6 = putA W3 w.heap.size ⟨0, 0, 0, 0, []⟩ (.slice none 0 0) from hW6.symm)
            clear hW6
            have h6 : w6.heap[w.heap.size]? = some (.cells (ancells ⟨0, 0, 0, 0, []⟩ (.slice none 0 0)).toArray 33 (0, 0)) := by rw [H6.out]; exact putA_at _ _ HRR.out
            have z0 : w6.cell? ⟨w.heap.size, 0, none⟩ = some (.int .i64 0) := by simp [World.cell?, h6, ancells]
            have z1 : w6.cell? ⟨w.heap.size, 1, none⟩ = some (.int .i64 0) := by simp [World.cell?, h6, ancells]
            have z2 : w6.cell? ⟨w.heap.size, 2, none⟩ = some (.int .i64 0) := by simp [World.cell?, h6, ancells]
            have z3 : w6.cell? ⟨w.heap.size, 3, none⟩ = some (.int .i64 0) := by simp [World.cell?, h6, ancells]
            have z4 : w6.cell? ⟨w.heap.size, 4, none⟩ = some (.slice none 0 0) := by simp [World.cell?, h6, ancells]
            refine bodyPost_ret (v := .tuple #[.agg #[.int .i64 0, .int .i64 0, .int .i64 0, .int .i64 0, .slice none 0 0], .int .i64 4]) (by simp [results, Tryd.results11, go_sem, z0, z1, z2, z3, z4]) rfl ?_
            have hb6 : Below w.heap.size w w6 := by rw [H6.out]; exact HB.out.trans (putA_below _ _ _ _ (Nat.le_refl _))
            rw [HQ.out, HOK.out]
            exact ⟨_, rfl, ownQ_nil _ _, hb6⟩
          case pos =>
          have HP2 := Lib.hid hP2
          rw [hP2]
          rw [hP2] at F3
          have HM := Lib.hid (fun ms h => HM.out ms h HP2.out)
          clear hP2 HS2
          have hml : P.length = 2 := HP2.out
          obtain ⟨u0, hu0⟩ : ∃ u, P[0]? = some u := ⟨P[0]'(by omega), List.getElem?_eq_getElem (by omega)⟩
          obtain ⟨pb, rfl, _⟩ := ownT_cell F3.out.2.2 hu0
          clear hu0
          go_wp2_with fail
          go_loopw [8, 11, 12, 13] (fun nv jv _ _ wr => ∃ (j : Nat) (ms : List Int), j ≤ 2 ∧ jv = .int .i64 j ∧ Hid (numsOf (P.take j) = some ms) ∧ Hid (Below U.heap.size U wr ∧ OwnN wr U.heap.size nv (NS ++ ms) ∧ OwnT wr 0 (.slice (some ⟨pb, 0, none⟩) 2 qc) P))
            (fun _ jv _ _ _ => 2 - (intOf jv).toNat)
          case atStart => exact ⟨0, [], by omega, rfl, Lib.hid rfl, Lib.hid (by rw [List.append_nil]; exact F3.out)⟩
          case round =>
            obtain ⟨j, ms, hj, rfl, HMS, HJ⟩ := hrel
            rcases or_lt hj with hjlt | hjeq
            · obtain ⟨u, hu⟩ := idx_lt hjlt hml
              obtain ⟨ug, hq, d0⟩ := ownT_cell HJ.out.2.2 hu
              have HUU := Lib.hid hu
              have hjI : (j : Int) < 2 := lt2 hjlt
              have hw3 : wrap64 ((j : Int) + 1) = (j : Int) + 1 := wr_s (Nat.lt_of_lt_of_le hjlt (by decide))
              have hw4 : IntKind.i64.wrap ((j : Int) + 1) = (j : Int) + 1 := wri_s (Nat.lt_of_lt_of_le hjlt (by decide))
              injection hq with hq
              injection hq with hq
              subst hq
              clear hu
              cases hn : numOf u with
              | none =>
                have HOK := Lib.hid (show ansP (tailR 3 tl) = (⟨0, 0, 0, 0, []⟩, 4) by rw [HF.out u (List.mem_of_getElem? HUU.out) hn]; rfl)
                have PN := rparse_no u wr (numOf_not hn) (Nat.le_trans (HUL.out u (List.mem_of_getElem? HUU.out)) (by decide))
                have PN := Lib.hid PN
                clear hn
                go_wp2_with fail
                refine PN.out.mono ?_; rintro _ w5 ⟨rfl, hb5⟩
                have HB := Lib.hid (FU.out.1.trans ((HJ.out.1.mono (Nat.le_of_lt (Nat.lt_trans HSU.out FU.out.2.1))).trans (hb5.mono (Nat.le_trans (Nat.le_of_lt (Nat.lt_trans HSU.out FU.out.2.1)) HJ.out.1.size))))
                have hr := (hb5.block w.heap.size (Nat.lt_of_lt_of_le (Nat.lt_trans HSU.out FU.out.2.1) HJ.out.1.size)).trans ((HJ.out.1.block w.heap.size (Nat.lt_trans HSU.out FU.out.2.1)).trans FU.out.2.2.1)
                clear hb5 d0
                have HRR := Lib.hid hr
                have y0 : w5.cell? ⟨w.heap.size, 0, none⟩ = some (.int .i64 0) := by simp [World.cell?, hr, ancells]
                have y1 : w5.cell? ⟨w.heap.size, 1, none⟩ = some (.int .i64 0) := by simp [World.cell?, hr, ancells]
                have y2 : w5.cell? ⟨w.heap.size, 2, none⟩ = some (.int .i64 0) := by simp [World.cell?, hr, ancells]
                have y3 : w5.cell? ⟨w.heap.size, 3, none⟩ = some (.int .i64 0) := by simp [World.cell?, hr, ancells]
                have y4 : w5.cell? ⟨w.heap.size, 4, none⟩ = some (.slice none 0 0) := by simp [World.cell?, hr, ancells]
                have yf0 : w5.frozen? ⟨w.heap.size, 0, none⟩ = false := by simp [World.frozen?, hr]
                have yf1 : w5.frozen? ⟨w.heap.size, 1, none⟩ = false := by simp [World.frozen?, hr]
                have yf2 : w5.frozen? ⟨w.heap.size, 2, none⟩ = false := by simp [World.frozen?, hr]
                have yf3 : w5.frozen? ⟨w.heap.size, 3, none⟩ = false := by simp [World.frozen?, hr]
                have yf4 : w5.frozen? ⟨w.heap.size, 4, none⟩ = false := by simp [World.frozen?, hr]
                clear hr
                go_wp2_with fail
                generalize hW6 : World.setCell _ _ _ = w6
                have H6 := Lib.hid (show w6 = putA w5 w.heap.size ⟨0, 0, 0, 0, []⟩ (.slice none 0 0) from hW6.symm)
                clear hW6
                have h6 : w6.heap[w.heap.size]? = some (.cells (ancells ⟨0, 0, 0, 0, []⟩ (.slice none 0 0)).toArray 33 (0, 0)) := by rw [H6.out]; exact putA_at _ _ HRR.out
                have z0 : w6.cell? ⟨w.heap.size, 0, none⟩ = some (.int .i64 0) := by simp [World.cell?, h6, ancells]
                have z1 : w6.cell? ⟨w.heap.size, 1, none⟩ = some (.int .i64 0) := by simp [World.cell?, h6, ancells]
                have z2 : w6.cell? ⟨w.heap.size, 2, none⟩ = some (.int .i64 0) := by simp [World.cell?, h6, ancells]
                have z3 : w6.cell? ⟨w.heap.size, 3, none⟩ = some (.int .i64 0) := by simp [World.cell?, h6, ancells]
                have z4 : w6.cell? ⟨w.heap.size, 4, none⟩ = some (.slice none 0 0) := by simp [World.cell?, h6, ancells]
                refine bodyPost_ret (v := .tuple #[.agg #[.int .i64 0, .int .i64 0, .int .i64 0, .int .i64 0, .slice none 0 0], .int .i64 4]) (by simp [results, Tryd.results11, go_sem, z0, z1, z2, z3, z4]) rfl ?_
                have hb6 : Below w.heap.size w w6 := by rw [H6.out]; exact HB.out.trans (putA_below _ _ _ _ (Nat.le_refl _))
                rw [HQ.out, HOK.out]
                exact ⟨_, rfl, ownQ_nil _ _, hb6⟩
              | some a =>
                have HNA := Lib.hid hn
                have PY := Lib.hid (rparse u a wr (numOf_is hn))
                clear hn
                go_wp2_with fail
                refine PY.out.mono ?_; rintro _ w5 ⟨rfl, hb5⟩
                have H5 := Lib.hid (show Below U.heap.size U w5 ∧ OwnN w5 U.heap.size u8 (NS ++ ms) ∧ OwnT w5 0 (.slice (some ⟨pb, 0, none⟩) 2 qc) P from ⟨below_on HJ.out.1 hb5, World.ownsRow.kept HJ.out.2.1 (grown_of_below hb5) (by cases u8.ownBlock <;> simp), World.ownsRow.kept HJ.out.2.2 (grown_of_below hb5) (by cases (Value.slice (some (⟨pb, 0, none⟩ : Addr)) 2 qc).ownBlock <;> simp)⟩)
                clear hb5 d0 HJ
                go_wp2_with (at_builtin; refine wpList_append_n1 rfl (.tmp 88) (.tmp 90) rfl U.heap.size _ (NS ++ ms) a w5.heap.size 1 rfl (World.ownsRow.alloc H5.out.2.1 _) rfl (Ext.made_in rfl (Below.refl _ _) 0 _ rfl) (app_len HNS.out HMS.out HLN.out hml (by decide)) (size_al _ H5.out.1.size) ?_)
                intro v1 w7 hown hg
                have H7 := Lib.hid (show Below U.heap.size U w7 ∧ OwnN w7 U.heap.size v1 (NS ++ (ms ++ [a])) ∧ OwnT w7 0 (.slice (some ⟨pb, 0, none⟩) 2 qc) P from ⟨grow_stepN (World.ownsRow.alloc H5.out.2.1 _) (H5.out.1.alloc H5.out.1.size _) (Nat.le_refl _) hg, by first | exact hown | (rw [← List.append_assoc]; exact hown), World.ownsRow.kept (World.ownsRow.alloc H5.out.2.2 _) hg (own_ne H5.out.2.2 H5.out.2.1)⟩)
                have HMN := Lib.hid (show numsOf (P.take (j + 1)) = some (ms ++ [a]) by
                  rw [List.take_add_one, HUU.out]; exact numsOf_snoc u a HMS.out HNA.out)
                clear hown hg H5
                go_wp2_with fail
                go_roundw
                case rel => exact ⟨j + 1, ms ++ [a], rel_le hjlt, by go_num, HMN, H7⟩
                case measure => exact meas1 hjlt
            · have HE := Lib.hid (HM.out ms (by have := HMS.out; rwa [hjeq, ← hml, List.take_length] at this))
              have hge : ¬ (j : Int) < 2 := nlt2 hjeq
              clear hjeq
              go_wp2_with fail
              go_roundw
              case rel => exact ⟨i + 1, NS ++ ms, rel_le hlt, by go_num, HE, Lib.hid ⟨HJ.out.2.1, HJ.out.1⟩⟩
              case measure => exact meas2 hlt
        · have hNS := HNS.out
          rw [heq, List.take_length] at hNS
          have hge : ¬ (i : Int) + 1 < (n : Int) := by have := HNN.out; omega
          have hcc := (HO.out.2.block A FU.out.2.1).trans FU.out.2.2.2
          have hr := (HO.out.2.block w.heap.size (Nat.lt_trans HSU.out FU.out.2.1)).trans FU.out.2.2.1
          have HB := Lib.hid (FU.out.1.trans (HO.out.2.mono (Nat.le_of_lt (Nat.lt_trans HSU.out FU.out.2.1))))
          have HAW := Lib.hid (show A < wr.heap.size from Nat.lt_of_lt_of_le FU.out.2.1 HO.out.2.size)
          have hRA : w.heap.size ≠ A := by have := HSU.out; omega
          obtain ⟨ps, rfl, hpl, htr⟩ := tailR_y3 hNS
          have HPL := Lib.hid (show ps.length ≤ 5000 by have := HLN.out; omega)
          have hfl := flatP_len ps
          by_cases hps : ps = []
          case pos =>
            subst hps
            have HOK := Lib.hid (show ansP (tailR 3 tl) = (⟨3, 0, 0, 0, []⟩, 0) by rw [htr]; rfl)
            have H5 := Lib.hid (And.intro hcc (And.intro hr HB.out))
            rw [show (flatP []).length = 0 from rfl]
            clear hcc hr hNS htr heq HNC HB hfl hpl HPL HAW
            obtain ⟨W5, hW5⟩ : ∃ W, W = wr := ⟨_, rfl⟩
            rw [← hW5] at H5 ⊢
            clear hW5
            go_wp2_with fail
            go_loopw [14] (fun iv wr => iv = .int .i64 0 ∧ Hid (wr.heap[A]? = some (.cells (ancells ⟨3, 0, 0, 0, []⟩ (.slice none 0 0)).toArray 33 (0, 0)) ∧ wr.heap[w.heap.size]? = some (.cells (ancells ⟨0, 0, 0, 0, []⟩ (.slice none 0 0)).toArray 33 (0, 0)) ∧ Below w.heap.size w wr))
              (fun _ _ => 0)
            case atStart => exact ⟨rfl, H5⟩
            case round =>
              obtain ⟨rfl, HZ⟩ := hrel
              have hcc := HZ.out.1
              have hr := HZ.out.2.1
              have HB := Lib.hid HZ.out.2.2
              have HRR := Lib.hid hr
              have x0 : wr.cell? ⟨A, 0, none⟩ = some (.int .i64 3) := by simp [World.cell?, hcc, ancells]
              have x1 : wr.cell? ⟨A, 1, none⟩ = some (.int .i64 0) := by simp [World.cell?, hcc, ancells]
              have x2 : wr.cell? ⟨A, 2, none⟩ = some (.int .i64 0) := by simp [World.cell?, hcc, ancells]
              have x3 : wr.cell? ⟨A, 3, none⟩ = some (.int .i64 0) := by simp [World.cell?, hcc, ancells]
              have x4 : wr.cell? ⟨A, 4, none⟩ = some (.slice none 0 0) := by simp [World.cell?, hcc, ancells]
              have y0 : wr.cell? ⟨w.heap.size, 0, none⟩ = some (.int .i64 0) := by simp [World.cell?, hr, ancells]
              have y1 : wr.cell? ⟨w.heap.size, 1, none⟩ = some (.int .i64 0) := by simp [World.cell?, hr, ancells]
              have y2 : wr.cell? ⟨w.heap.size, 2, none⟩ = some (.int .i64 0) := by simp [World.cell?, hr, ancells]
              have y3 : wr.cell? ⟨w.heap.size, 3, none⟩ = some (.int .i64 0) := by simp [World.cell?, hr, ancells]
              have y4 : wr.cell? ⟨w.heap.size, 4, none⟩ = some (.slice none 0 0) := by simp [World.cell?, hr, ancells]
              have yf0 : wr.frozen? ⟨w.heap.size, 0, none⟩ = false := by simp [World.frozen?, hr]
              have yf1 : wr.frozen? ⟨w.heap.size, 1, none⟩ = false := by simp [World.frozen?, hr]
              have yf2 : wr.frozen? ⟨w.heap.size, 2, none⟩ = false := by simp [World.frozen?, hr]
              have yf3 : wr.frozen? ⟨w.heap.size, 3, none⟩ = false := by simp [World.frozen?, hr]
              have yf4 : wr.frozen? ⟨w.heap.size, 4, none⟩ = false := by simp [World.frozen?, hr]
              clear hr hcc
              go_wp2_with fail
              generalize hW6 : World.setCell _ _ _ = w6
              have H6 := Lib.hid (show w6 = putA wr w.heap.size ⟨3, 0, 0, 0, []⟩ (.slice none 0 0) from hW6.symm)
              clear hW6
              have h6 : w6.heap[w.heap.size]? = some (.cells (ancells ⟨3, 0, 0, 0, []⟩ (.slice none 0 0)).toArray 33 (0, 0)) := by rw [H6.out]; exact putA_at _ _ HRR.out
              have z0 : w6.cell? ⟨w.heap.size, 0, none⟩ = some (.int .i64 3) := by simp [World.cell?, h6, ancells]
              have z1 : w6.cell? ⟨w.heap.size, 1, none⟩ = some (.int .i64 0) := by simp [World.cell?, h6, ancells]
              have z2 : w6.cell? ⟨w.heap.size, 2, none⟩ = some (.int .i64 0) := by simp [World.cell?, h6, ancells]
              have z3 : w6.cell? ⟨w.heap.size, 3, none⟩ = some (.int .i64 0) := by simp [World.cell?, h6, ancells]
              have z4 : w6.cell? ⟨w.heap.size, 4, none⟩ = some (.slice none 0 0) := by simp [World.cell?, h6, ancells]
              refine bodyPost_ret (v := .tuple #[.agg #[.int .i64 3, .int .i64 0, .int .i64 0, .int .i64 0, .slice none 0 0], .int .i64 0]) (by simp [results, Tryd.results11, go_sem, z0, z1, z2, z3, z4]) rfl ?_
              have hb6 : Below w.heap.size w w6 := by rw [H6.out]; exact HB.out.trans (putA_below _ _ _ _ (Nat.le_refl _))
              rw [HQ.out, HOK.out]
              exact ⟨_, rfl, ownQ_nil _ _, hb6⟩
          case neg =>
          have hpp : 0 < ps.length := Nat.pos_of_ne_zero fun e => hps (List.eq_nil_of_length_eq_zero e)
          have HOK := Lib.hid (show ansP (tailR 3 tl) = (⟨3, 0, 0, 0, ps⟩, 0) by rw [htr]; rfl)
          obtain ⟨p0, hp0⟩ : ∃ p, ps[0]? = some p := ⟨ps[0], List.getElem?_eq_getElem hpp⟩
          obtain ⟨gg, hgg, rfl, _⟩ := HNC.out 0 p0.1 (flatP_get ps 0 p0 hp0).1
          rw [hfl]
          have HNC := Lib.hid (show ∀ (i : Nat) (p : Int × Int), ps[i]? = some p → wr.cell? ⟨gg, 2 * i, none⟩ = some (.int .i64 p.1) ∧ wr.cell? ⟨gg, 2 * i + 1, none⟩ = some (.int .i64 p.2) from fun i p h => by
            obtain ⟨h1, h2⟩ := flatP_get ps i p h
            obtain ⟨g1, a1, a2, a3⟩ := HNC.out _ _ h1
            obtain ⟨g2, b1, b2, b3⟩ := HNC.out _ _ h2
            injection a2 with a2
            injection a2 with a2
            injection b2 with b2
            injection b2 with b2
            subst a2 b2
            exact ⟨a3, b3⟩)
          have HWN := Lib.hid (show KXq A wr wr ∧ wr.heap[A]? = some (.cells (ancells ⟨3, 0, 0, 0, []⟩ (.slice none 0 0)).toArray 33 (0, 0)) from ⟨KXq.refl _ _, hcc⟩)
          have HGA := Lib.hid (show gg ≠ A by have := FU.out.2.1; omega)
          have HGL := Lib.hid (show gg < wr.heap.size by
            have h1 := (HNC.out 0 p0 hp0).1
            by_cases hl : gg < wr.heap.size
            · exact hl
            · simp [World.cell?, Array.getElem?_eq_none (by omega : wr.heap.size ≤ gg)] at h1)
          have HRW := Lib.hid hr
          obtain ⟨W5, hW5⟩ : ∃ W, W = wr := ⟨_, rfl⟩
          rw [← hW5] at HNC HWN HRW HB HAW HGL ⊢
          obtain ⟨m, hm⟩ : ∃ m, m = ps.length := ⟨_, rfl⟩
          have HMM := Lib.hid hm
          rw [← hm]
          clear hcc hr hNS htr heq hW5 hpl hfl HO hp0 hpp hps hm hgg
          go_wp2_with fail
          go_loopw [14] (fun iv wr => ∃ (i : Nat) (sv : Value), i ≤ m ∧ iv = .int .i64 (2 * (i : Int)) ∧ Hid (KXq A W5 wr ∧ wr.heap[A]? = some (.cells (ancells ⟨3, 0, 0, 0, []⟩ sv).toArray 33 (0, 0)) ∧ OwnQ wr W5.heap.size sv (ps.take i)))
            (fun iv _ => 2 * m - (intOf iv).toNat)
          case atStart => exact ⟨0, _, by omega, rfl, Lib.hid ⟨HWN.out.1, HWN.out.2, ownQ_nil _ _⟩⟩
          case round =>
            obtain ⟨i, sv, hi, rfl, HI⟩ := hrel
            obtain ⟨sp, sc, rfl⟩ := ownQ_slice HI.out.2.2
            have hlen : (ps.take i).length = i := by rw [List.length_take]; have := HMM.out; omega
            have hcc := HI.out.2.1
            rw [hlen] at hcc HI
            have HR := Lib.hid ((HI.out.1.block w.heap.size (Nat.lt_trans HSU.out HAW.out) hRA).trans HRW.out)
            have HBR := Lib.hid (show Below w.heap.size w wr from HB.out.trans (HI.out.1.below (Nat.le_of_lt HSU.out) HB.out.size))
            rcases (by omega : i < m ∨ i = m) with hlt | heq
            · obtain ⟨p, hp⟩ : ∃ p, ps[i]? = some p := ⟨ps[i]'(by have := HMM.out; omega), List.getElem?_eq_getElem (by have := HMM.out; omega)⟩
              have e0 : wr.cell? ⟨gg, 2 * i, none⟩ = some (.int .i64 p.1) := (cell_heap (HI.out.1.block gg HGL.out HGA.out)).trans (HNC.out i p hp).1
              have e1 : wr.cell? ⟨gg, 2 * i + 1, none⟩ = some (.int .i64 p.2) := (cell_heap (HI.out.1.block gg HGL.out HGA.out)).trans (HNC.out i p hp).2
              have HPT := Lib.hid (show ps.take (i + 1) = ps.take i ++ [p] by rw [List.take_add_one, hp]; rfl)
              have hlt2 : 2 * (i : Int) + 1 < 2 * (m : Int) := by omega
              have hlt3 : 2 * i + 1 < 2 * m := by omega
              have hlt4 : 2 * (i : Int) < 2 * (m : Int) := by omega
              have hlt5 : 2 * i < 2 * m := by omega
              have hi5 : i ≤ 5000 := by have := HMM.out; have := HPL.out; omega
              have hw1 : wrap64 (2 * (i : Int) + 1) = 2 * (i : Int) + 1 := wrap_id ⟨by omega, by omega⟩
              have hw2 : IntKind.i64.wrap (2 * (i : Int) + 1) = 2 * (i : Int) + 1 := wrapi_id ⟨by omega, by omega⟩
              have hp0 : (0 : Int) ≤ 2 * (i : Int) := by omega
              have hp1 : (0 : Int) ≤ 2 * (i : Int) + 1 := by omega
              have tn0 : (2 * (i : Int)).toNat = 2 * i := by omega
              have tn1 : (2 * (i : Int) + 1).toNat = 2 * i + 1 := by omega
              have hw3 : wrap64 (2 * (i : Int) + 2) = 2 * (i : Int) + 2 := wrap_id ⟨by omega, by omega⟩
              have hw4 : IntKind.i64.wrap (2 * (i : Int) + 2) = 2 * (i : Int) + 2 := wrapi_id ⟨by omega, by omega⟩
              have x4 : wr.cell? ⟨A, 4, none⟩ = some (.slice sp i sc) := by simp [World.cell?, hcc, ancells]
              clear hp hi hlen hcc
              have hle1 : i + 1 ≤ m := by omega
              have hltm : i < m := by omega
              go_wp2_with fail
              have HL0 := Lib.hid (show ∀ W, Below wr.heap.size wr W → (Instr.loadAt 31 (.pointer (some ⟨A, 4, none⟩))).run Tryd.prog W = .ok (.slice sp i sc) W from fun W h => by
                have y0 := Ext.cell ⟨W, h⟩ x4
                simp only at y0
                clear e0 e1 x4
                go_simp)
              have HL1 := Lib.hid (show ∀ W, Below wr.heap.size wr W → (Instr.loadAt 2 (.pointer (some ⟨gg, 2 * i, none⟩))).run Tryd.prog W = .ok (.int .i64 p.1) W from fun W h => by
                have y0 := Ext.cell ⟨W, h⟩ e0
                simp only at y0
                clear e0 e1 x4
                go_simp)
              have HL2 := Lib.hid (show ∀ W, Below wr.heap.size wr W → (Instr.loadAt 2 (.pointer (some ⟨gg, 2 * i + 1, none⟩))).run Tryd.prog W = .ok (.int .i64 p.2) W from fun W h => by
                have y0 := Ext.cell ⟨W, h⟩ e1
                simp only at y0
                clear e0 e1 x4
                go_simp)
              clear e0 e1 x4
              refine wp_region_K (fun W => Below wr.heap.size wr W) 13 (by decide +kernel) ?_
              (refine wpAnyK_takeY (i := 0) (v := ?_) rfl (by decide +kernel) (by decide +kernel) (by decide +kernel) (by decide) (fun _ _ _ h => h) (Or.inl ⟨by rfl, ?_⟩) (.inr ((Below.refl _ _).drew)) ?_; rotate_left; (intro w; go_simp); (try with_reducible rfl))
              (try simp only [List.getElem_toArray, List.getElem_cons_succ, List.getElem_cons_zero, Act.put, List.setIfInBounds_toArray, List.set_cons_succ, List.set_cons_zero])
              (refine wpAnyK_take (i := 1) (v := .slice sp i sc) [13] rfl (by decide +kernel) (by decide +kernel) (by decide +kernel) (by decide +kernel) (fun _ _ _ h => h) (yields_loadK rfl 31 (.tmp 119) rfl rfl HL0.out) ((Below.refl _ _).drew) ?_)
              (try simp only [List.getElem_toArray, List.getElem_cons_succ, List.getElem_cons_zero, Act.put, List.setIfInBounds_toArray, List.set_cons_succ, List.set_cons_zero])
              (refine wpAnyK_takeY (i := 2) (v := ?_) rfl (by decide +kernel) (by decide +kernel) (by decide +kernel) (by decide) (fun _ _ _ h => h) (Or.inl ⟨by rfl, ?_⟩) (.inr ((Below.refl _ _).drew)) ?_; rotate_left; (intro w; go_simp); (try with_reducible rfl))
              (try simp only [List.getElem_toArray, List.getElem_cons_succ, List.getElem_cons_zero, Act.put, List.setIfInBounds_toArray, List.set_cons_succ, List.set_cons_zero])
              (refine wpAnyK_takeY (i := 3) (v := ?_) rfl (by decide +kernel) (by decide +kernel) (by decide +kernel) (by decide) (fun _ _ _ h => h) (Or.inl ⟨by rfl, ?_⟩) (.inr ((Below.refl _ _).drew)) ?_; rotate_left; (intro w; go_simp); (try with_reducible rfl))
              (try simp only [List.getElem_toArray, List.getElem_cons_succ, List.getElem_cons_zero, Act.put, List.setIfInBounds_toArray, List.set_cons_succ, List.set_cons_zero])
              (refine wpAnyK_takeY (i := 4) (v := ?_) rfl (by decide +kernel) (by decide +kernel) (by decide +kernel) (by decide) (fun _ _ _ h => h) (Or.inl ⟨by rfl, ?_⟩) (.inr ((Below.refl _ _).drew)) ?_; rotate_left; (intro w; go_simp); (try with_reducible rfl))
              (try simp only [List.getElem_toArray, List.getElem_cons_succ, List.getElem_cons_zero, Act.put, List.setIfInBounds_toArray, List.set_cons_succ, List.set_cons_zero])
              (refine wpAnyK_take (i := 5) (v := .int .i64 p.1) [11, 12, 13] rfl (by decide +kernel) (by decide +kernel) (by decide +kernel) (by decide +kernel) (fun _ _ _ h => h) (yields_loadK rfl 2 (.tmp 123) rfl rfl HL1.out) ((Below.refl _ _).drew) ?_)
              (try simp only [List.getElem_toArray, List.getElem_cons_succ, List.getElem_cons_zero, Act.put, List.setIfInBounds_toArray, List.set_cons_succ, List.set_cons_zero])
              (refine wpAnyK_takeY (i := 6) (v := ?_) rfl (by decide +kernel) (by decide +kernel) (by decide +kernel) (by decide) (fun _ _ _ h => h) (Or.inl ⟨by rfl, ?_⟩) (.inr ((Below.refl _ _).drew)) ?_; rotate_left; (intro w; go_simp); (try with_reducible rfl))
              (try simp only [List.getElem_toArray, List.getElem_cons_succ, List.getElem_cons_zero, Act.put, List.setIfInBounds_toArray, List.set_cons_succ, List.set_cons_zero])
              (refine wpAnyK_takeY (i := 7) (v := ?_) rfl (by decide +kernel) (by decide +kernel) (by decide +kernel) (by decide) (fun _ _ _ h => h) (Or.inl ⟨by rfl, ?_⟩) (.inr ((Below.refl _ _).drew)) ?_; rotate_left; (intro w; go_simp); (try with_reducible rfl))
              (try simp only [List.getElem_toArray, List.getElem_cons_succ, List.getElem_cons_zero, Act.put, List.setIfInBounds_toArray, List.set_cons_succ, List.set_cons_zero])
              (refine wpAnyK_takeY (i := 8) (v := ?_) rfl (by decide +kernel) (by decide +kernel) (by decide +kernel) (by decide) (fun _ _ _ h => h) (Or.inl ⟨by rfl, ?_⟩) (.inr ((Below.refl _ _).drew)) ?_; rotate_left; (intro w; go_simp); (try with_reducible rfl))
              (try simp only [List.getElem_toArray, List.getElem_cons_succ, List.getElem_cons_zero, Act.put, List.setIfInBounds_toArray, List.set_cons_succ, List.set_cons_zero])
              (refine wpAnyK_takeY (i := 9) (v := ?_) rfl (by decide +kernel) (by decide +kernel) (by decide +kernel) (by decide) (fun _ _ _ h => h) (Or.inl ⟨by rfl, ?_⟩) (.inr ((Below.refl _ _).drew)) ?_; rotate_left; (intro w; go_simp); (try with_reducible rfl))
              (try simp only [List.getElem_toArray, List.getElem_cons_succ, List.getElem_cons_zero, Act.put, List.setIfInBounds_toArray, List.set_cons_succ, List.set_cons_zero])
              (refine wpAnyK_take (i := 10) (v := .int .i64 p.2) [11, 12, 13] rfl (by decide +kernel) (by decide +kernel) (by decide +kernel) (by decide +kernel) (fun _ _ _ h => h) (yields_loadK rfl 2 (.tmp 128) rfl rfl HL2.out) ((Below.refl _ _).drew) ?_)
              (try simp only [List.getElem_toArray, List.getElem_cons_succ, List.getElem_cons_zero, Act.put, List.setIfInBounds_toArray, List.set_cons_succ, List.set_cons_zero])
              (refine wpAnyK_takeY (i := 11) (v := ?_) rfl (by decide +kernel) (by decide +kernel) (by decide +kernel) (by decide) (fun _ _ _ h => h) (Or.inl ⟨by rfl, ?_⟩) (.inr ((Below.refl _ _).drew)) ?_; rotate_left; (intro w; go_simp); (try with_reducible rfl))
              (try simp only [List.getElem_toArray, List.getElem_cons_succ, List.getElem_cons_zero, Act.put, List.setIfInBounds_toArray, List.set_cons_succ, List.set_cons_zero])
              refine wpAnyK_ready (rs := [12]) (by decide +kernel) (by simp) ?_
              refine (AllReadyK.cons rfl (fun K hK => ?_) AllReadyK.nil)
              refine step_of rfl ?_
              go_step
              have HBA := Lib.hid (show Below wr.heap.size wr ((wr.alloc (.cells #[.int .i64 p.1, .int .i64 p.2] 51)).drew) from ((Below.refl _ _).alloc (Nat.le_refl _) _).drew)
              refine hK _ _ (.inr HBA.out) ?_
              clear hK K
              have HC0 := Lib.hid (show Cell2 (wr.alloc (.cells #[.int .i64 p.1, .int .i64 p.2] 51)).drew wr.heap.size p.1 p.2 from (Cell2.new wr p.1 p.2 51).below (Below.refl _ _).drew)
              have HOW := Lib.hid HI.out.2.2
              have HCA := Lib.hid HI.out.2.1
              have HSA := Lib.hid (show W5.heap.size ≤ (wr.alloc (.cells #[.int .i64 p.1, .int .i64 p.2] 51)).drew.heap.size from Nat.le_trans HI.out.1.size HBA.out.size)
              generalize (wr.alloc (.cells #[.int .i64 p.1, .int .i64 p.2] 51)).drew = wa at *
              (try simp only [List.getElem_toArray, List.getElem_cons_succ, List.getElem_cons_zero, Act.put, List.setIfInBounds_toArray, List.set_cons_succ, List.set_cons_zero])
              refine wpAnyK_ready (rs := [13]) (by decide +kernel) (by simp) ?_
              refine (AllReadyK.cons rfl (fun K hK => ?_) AllReadyK.nil)
              refine step_of rfl ?_
              refine wp_append_q1 (.tmp 120) (.tmp 131) rfl W5.heap.size (.slice sp i sc) (ps.take i) p wr.heap.size 1 rfl (World.ownsRow.kept HOW.out (grown_of_below HBA.out) (by cases (Value.slice sp i sc).ownBlock <;> simp)) rfl HC0.out.c0 HC0.out.c1 (by rw [List.length_take]; have := HPL.out; omega) HSA.out ?_
              intro v' w8 hown' hg
              have H8 := Lib.hid (show KXq A W5 w8 ∧ w8.heap[A]? = some (.cells (ancells ⟨3, 0, 0, 0, []⟩ (.slice sp i sc)).toArray 33 (0, 0)) ∧ OwnQ w8 W5.heap.size v' (ps.take (i + 1)) from
                ⟨(HI.out.1.on HBA.out).grown hg (ownQ_ge HOW.out), (hg.block A (Nat.lt_of_lt_of_le HAW.out HSA.out) (fun e => by have h1 := ownQ_ge HOW.out A e.symm; have h2 := HAW.out; omega)).trans (upk HBA.out HCA.out), by rw [HPT.out]; exact hown'⟩)
              obtain ⟨p2, c2, hv2⟩ := ownQ_slice hown'
              rw [← HPT.out] at hv2
              rw [show (ps.take (i + 1)).length = i + 1 by rw [List.length_take]; have := HMM.out; have := hlt5; omega] at hv2
              subst hv2
              clear hown' hg
              refine hK _ _ (.inl rfl) ?_
              clear hK K
              (try simp only [List.getElem_toArray, List.getElem_cons_succ, List.getElem_cons_zero, Act.put, List.setIfInBounds_toArray, List.set_cons_succ, List.set_cons_zero])
              (refine wpAnyK_takeY (i := 14) (v := ?_) rfl (by decide +kernel) (by decide +kernel) (by decide +kernel) (by decide) (fun _ _ _ h => h) (Or.inl ⟨by rfl, ?_⟩) (.inl rfl) ?_; rotate_left; (intro w; go_simp); (try with_reducible rfl))
              (try simp only [List.getElem_toArray, List.getElem_cons_succ, List.getElem_cons_zero, Act.put, List.setIfInBounds_toArray, List.set_cons_succ, List.set_cons_zero])
              have hcc := H8.out.2.1
              have x4 : w8.cell? ⟨A, 4, none⟩ = some (.slice sp i sc) := by simp [World.cell?, hcc, ancells]
              have f4 : w8.frozen? ⟨A, 4, none⟩ = false := by simp [World.frozen?, hcc]
              clear hcc
              refine wpAnyK_ready (rs := [15]) (by decide +kernel) (by simp) ?_
              refine (AllReadyK.cons rfl (fun K hK => ?_) AllReadyK.nil)
              refine step_of rfl ?_
              go_step
              refine hK _ _ (.inl rfl) ?_
              clear hK K
              refine wpAnyK_done (by decide +kernel) ?_ _
              clear x4 f4
              generalize hW9 : World.setCell _ _ _ = w9
              have H9 := Lib.hid (show KXq A W5 w9 ∧ w9.heap[A]? = some (.cells (ancells ⟨3, 0, 0, 0, []⟩ (.slice p2 (i + 1) c2)).toArray 33 (0, 0)) ∧ OwnQ w9 W5.heap.size (.slice p2 (i + 1) c2) (ps.take (i + 1)) by
                rw [← hW9]
                exact ⟨H8.out.1.set _, heap_setCell_same _ A 4 _ _ _ H8.out.2.1, ownsRow_setCell_below H8.out.2.2 (a := ⟨A, 4, none⟩) HAW.out _⟩)
              clear hW9
              go_wp2_with fail
              go_roundw
              case rel => exact ⟨i + 1, _, hle1, by go_num, H9⟩
              case measure => exact meas3 hltm
            · have hge1 : ¬ 2 * (i : Int) + 1 < 2 * (m : Int) := by omega
              have hi5 : i ≤ 5000 := by have := HMM.out; have := HPL.out; omega
              have hw1 : wrap64 (2 * (i : Int) + 1) = 2 * (i : Int) + 1 := wrap_id ⟨by omega, by omega⟩
              have hw2 : IntKind.i64.wrap (2 * (i : Int) + 1) = 2 * (i : Int) + 1 := wrapi_id ⟨by omega, by omega⟩
              have hpt : ps.take i = ps := List.take_of_length_le (by have := HMM.out; omega)
              have HOQ := Lib.hid (show OwnQ wr W5.heap.size (.slice sp i sc) ps by have h := HI.out.2.2; rwa [hpt] at h)
              have hr := HR.out
              have HB := HBR
              clear hpt heq
              have HRR := Lib.hid hr
              have x0 : wr.cell? ⟨A, 0, none⟩ = some (.int .i64 3) := by simp [World.cell?, hcc, ancells]
              have x1 : wr.cell? ⟨A, 1, none⟩ = some (.int .i64 0) := by simp [World.cell?, hcc, ancells]
              have x2 : wr.cell? ⟨A, 2, none⟩ = some (.int .i64 0) := by simp [World.cell?, hcc, ancells]
              have x3 : wr.cell? ⟨A, 3, none⟩ = some (.int .i64 0) := by simp [World.cell?, hcc, ancells]
              have x4 : wr.cell? ⟨A, 4, none⟩ = some (.slice sp i sc) := by simp [World.cell?, hcc, ancells]
              have y0 : wr.cell? ⟨w.heap.size, 0, none⟩ = some (.int .i64 0) := by simp [World.cell?, hr, ancells]
              have y1 : wr.cell? ⟨w.heap.size, 1, none⟩ = some (.int .i64 0) := by simp [World.cell?, hr, ancells]
              have y2 : wr.cell? ⟨w.heap.size, 2, none⟩ = some (.int .i64 0) := by simp [World.cell?, hr, ancells]
              have y3 : wr.cell? ⟨w.heap.size, 3, none⟩ = some (.int .i64 0) := by simp [World.cell?, hr, ancells]
              have y4 : wr.cell? ⟨w.heap.size, 4, none⟩ = some (.slice none 0 0) := by simp [World.cell?, hr, ancells]
              have yf0 : wr.frozen? ⟨w.heap.size, 0, none⟩ = false := by simp [World.frozen?, hr]
              have yf1 : wr.frozen? ⟨w.heap.size, 1, none⟩ = false := by simp [World.frozen?, hr]
              have yf2 : wr.frozen? ⟨w.heap.size, 2, none⟩ = false := by simp [World.frozen?, hr]
              have yf3 : wr.frozen? ⟨w.heap.size, 3, none⟩ = false := by simp [World.frozen?, hr]
              have yf4 : wr.frozen? ⟨w.heap.size, 4, none⟩ = false := by simp [World.frozen?, hr]
              clear hr hcc
              go_wp2_with fail
              generalize hW6 : World.setCell _ _ _ = w6
              have H6 := Lib.hid (show w6 = putA wr w.heap.size ⟨3, 0, 0, 0, ps⟩ (.slice sp i sc) from hW6.symm)
              clear hW6
              have h6 : w6.heap[w.heap.size]? = some (.cells (ancells ⟨3, 0, 0, 0, ps⟩ (.slice sp i sc)).toArray 33 (0, 0)) := by rw [H6.out]; exact putA_at _ _ HRR.out
              have z0 : w6.cell? ⟨w.heap.size, 0, none⟩ = some (.int .i64 3) := by simp [World.cell?, h6, ancells]
              have z1 : w6.cell? ⟨w.heap.size, 1, none⟩ = some (.int .i64 0) := by simp [World.cell?, h6, ancells]
              have z2 : w6.cell? ⟨w.heap.size, 2, none⟩ = some (.int .i64 0) := by simp [World.cell?, h6, ancells]
              have z3 : w6.cell? ⟨w.heap.size, 3, none⟩ = some (.int .i64 0) := by simp [World.cell?, h6, ancells]
              have z4 : w6.cell? ⟨w.heap.size, 4, none⟩ = some (.slice sp i sc) := by simp [World.cell?, h6, ancells]
              refine bodyPost_ret (v := .tuple #[.agg #[.int .i64 3, .int .i64 0, .int .i64 0, .int .i64 0, .slice sp i sc], .int .i64 0]) (by simp [results, Tryd.results11, go_sem, z0, z1, z2, z3, z4]) rfl ?_
              have hb6 : Below w.heap.size w w6 := by rw [H6.out]; exact HB.out.trans (putA_below _ _ _ _ (Nat.le_refl _))
              rw [HQ.out, HOK.out]
              exact ⟨_, rfl, (ownQ_mono (by rw [H6.out]; exact putA_own HOQ.out (Nat.lt_trans HSU.out HAW.out)) (Nat.le_of_lt (Nat.lt_trans HSU.out HAW.out))), hb6⟩

end Go.Proofs.YtdgplijnhkgeiaaDoor
