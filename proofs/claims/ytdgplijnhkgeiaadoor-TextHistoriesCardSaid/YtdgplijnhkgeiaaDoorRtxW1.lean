/- Layer 35, reading: the reference's ReadAnswer. (By gen_rtxw.py, VAR=1.) -/
import Derived.Test.YtdgplijnhkgeiaaDoorRtxV
namespace Go.Proofs.YtdgplijnhkgeiaaDoor
open Go.RowKit
set_option linter.unusedVariables false
set_option linter.unusedSimpArgs false
set_option maxRecDepth 8000 in
set_option maxHeartbeats 8000000 in
theorem rreadanswer_1 (v : Value) (hd : List UInt8) (tl : List (List UInt8)) (w : World) (hv : SR w v (hd :: tl)) (hl : tl.length ≤ 5000) (hx : ∀ x ∈ tl, x.length ≤ 4999) (hk : kdI ⟨hd.toArray⟩ = some 1) :
    Calls Tryd.prog 11 #[v] w fun e w' => ∃ av, e = .returned (.tuple #[.agg (ancells (ansP (tailR 1 tl)).1 av).toArray, .int .i64 (ansP (tailR 1 tl)).2]) ∧ OwnQ w' w.heap.size av (ansP (tailR 1 tl)).1.ps ∧ Below w.heap.size w w' := by
  refine Calls.veil fun Q HQ => ?_
  have HXL := Lib.hid hx
  have HLN := Lib.hid hl
  have HSR := Lib.hid hv
  obtain ⟨p, c, rfl, hc1, hc2, hc3⟩ := hv
  obtain ⟨g, o, rfl, hc4⟩ := hc3 0 hd rfl
  obtain ⟨H, hH⟩ : ∃ H : ByteArray, H = ⟨hd.toArray⟩ := ⟨_, rfl⟩
  have HC0 := Lib.hid (show w.cell? ⟨g, o, none⟩ = some (.string H) by rw [hH]; exact hc4)
  have HCW := Lib.hid (show ∀ (k : Nat) x, tl[k]? = some x → w.cell? ⟨g, o + (k + 1), none⟩ = some (tx x) from fun k x h => by
    obtain ⟨g', o', e1, e2⟩ := hc3 (k + 1) x h
    injection e1 with e1
    injection e1 with e3 e4
    subst e3 e4
    exact e2)
  have HKD := Lib.hid (show kdI H = some 1 by rw [hH]; exact hk)
  have hln : (hd :: tl).length = tl.length + 1 := rfl
  rw [hln] at hc1 ⊢
  obtain ⟨n, hn⟩ : ∃ n, n = tl.length + 1 := ⟨_, rfl⟩
  have HNN := Lib.hid hn
  rw [← hn] at hc1 ⊢
  have hn0 : (0 : Int) < n := by omega
  have hn1 : 0 < n := by omega
  have hg2 : decide ((0 : Int) < n) = true := by simpa using hn0
  clear hc3 hc4 hx hl hH hln hn hk
  go_enter Tryd.func11, Tryd.ntmps11
  go_upto_region 1 with fail
  generalize hV : World.alloc w _ = V
  have F0 := Lib.hid (show Below w.heap.size w V ∧ V.heap.size = w.heap.size + 1 ∧ V.heap[w.heap.size]? = some (.cells (ancells ⟨0, 0, 0, 0, []⟩ (.slice none 0 0)).toArray 33 (0, 0)) by
    rw [← hV]; exact ⟨below_new (Below.refl _ _) _, by simp, heap_alloc_new w _⟩)
  clear hV
  go_wp2_with fail
  go_loopw [4, 5] (fun ov iv wr => ∃ i : Nat, i ≤ 9 ∧ ov = .int .i64 (fnd kindAt H i) ∧ iv = .int .i64 i ∧ Hid (Below V.heap.size V wr))
    (fun _ iv _ => 9 - (intOf iv).toNat)
  case atStart => exact ⟨0, by omega, rfl, rfl, Lib.hid (Below.refl _ _)⟩
  case round =>
    obtain ⟨i, hi, rfl, rfl, HI⟩ := hrel
    rcases (by omega : i < 9 ∨ i = 9) with hlt | heq
    · have RW : ∀ W, Calls Tryd.prog 27 #[.int .i64 (i : Nat)] W fun e w' => e = .returned (.string (kindAt i)) ∧ Below W.heap.size W w' := fun W => by
        have h := rkind (i : Int) W
        rwa [← kS_eq hlt] at h
      have RW := Lib.hid RW
      obtain ⟨fi, hfi⟩ : ∃ x, x = fnd kindAt H i := ⟨_, rfl⟩
      have HF1 : Hid (fnd kindAt H (i + 1) = if kindAt i = H then (i : Int) else fi) := Lib.hid (by rw [hfi]; rfl)
      rw [← hfi]
      clear hfi
      generalize kindAt i = y at RW HF1
      have il : (i : Int) < 9 := by omega
      have hw1 : wrap64 ((i : Int) + 1) = (i : Int) + 1 := wrap_id ⟨by omega, by omega⟩
      have hw2 : IntKind.i64.wrap ((i : Int) + 1) = (i : Int) + 1 := wrapi_id ⟨by omega, by omega⟩
      have cH := Ext.cells (Ext.cell ⟨wr, (F0.out.1.trans (HI.out.mono (by have := F0.out.2.1; omega)))⟩ HC0.out)
      by_cases he : y = H
      · have HF2 := HF1.out
        rw [if_pos he] at HF2
        have HF2 := Lib.hid HF2
        have hs := str_t he
        clear he HF1
        go_wp2_with fail
        (with_reducible refine wp_region_mix (fun w' => ∃ y : Ext wr, w' = y.w) ?_ ?_ ?_ ?_; kernel_rfl; kernel_rfl; exact ⟨⟨wr.drew, (Below.refl _ _).drew⟩, rfl⟩)
        repeat (first | ((with_reducible refine mix_skip (by kernel_rfl) ?_); go_big_quiet_skip; (with_reducible refine mix_on ?_)) | ((with_reducible refine mix_plain (by kernel_rfl) ?_); (first | go_big_quiet_skip | (go_big_quiet_want; go_big_quiet_op; go_big_quiet_on)); (with_reducible refine mix_on ?_)))
        ((with_reducible refine wpMix_chain (by kernel_rfl) (by kernel_rfl) (fun K HK => ?_)); go_step)
        refine (RW.out _).mono ?_; rintro _ w2 ⟨rfl, hb2⟩
        have hb2 := below_on (Below.refl wr.heap.size wr).drew hb2
        refine HK.out _ _ ⟨⟨w2, hb2⟩, rfl⟩ ?_
        clear HK K
        have HW2 := Lib.hid (below_on HI.out hb2)
        repeat (first | ((with_reducible refine mix_skip (by kernel_rfl) ?_); go_big_quiet_skip; (with_reducible refine mix_on ?_)) | ((with_reducible refine mix_plain (by kernel_rfl) ?_); (first | go_big_quiet_skip | (go_big_quiet_want; go_big_quiet_op; go_big_quiet_on)); (with_reducible refine mix_on ?_)))
        refine wpMix_nil ?_
        go_wp2_with fail
        go_roundw
        case rel => exact ⟨i + 1, by omega, by rw [HF2.out], by go_num, HW2⟩
        case measure => simp [intOf]; omega
      · have HF2 := HF1.out
        rw [if_neg he] at HF2
        have HF2 := Lib.hid HF2
        have hs := str_f he
        clear he HF1
        go_wp2_with fail
        (with_reducible refine wp_region_mix (fun w' => ∃ y : Ext wr, w' = y.w) ?_ ?_ ?_ ?_; kernel_rfl; kernel_rfl; exact ⟨⟨wr.drew, (Below.refl _ _).drew⟩, rfl⟩)
        repeat (first | ((with_reducible refine mix_skip (by kernel_rfl) ?_); go_big_quiet_skip; (with_reducible refine mix_on ?_)) | ((with_reducible refine mix_plain (by kernel_rfl) ?_); (first | go_big_quiet_skip | (go_big_quiet_want; go_big_quiet_op; go_big_quiet_on)); (with_reducible refine mix_on ?_)))
        ((with_reducible refine wpMix_chain (by kernel_rfl) (by kernel_rfl) (fun K HK => ?_)); go_step)
        refine (RW.out _).mono ?_; rintro _ w2 ⟨rfl, hb2⟩
        have hb2 := below_on (Below.refl wr.heap.size wr).drew hb2
        refine HK.out _ _ ⟨⟨w2, hb2⟩, rfl⟩ ?_
        clear HK K
        have HW2 := Lib.hid (below_on HI.out hb2)
        repeat (first | ((with_reducible refine mix_skip (by kernel_rfl) ?_); go_big_quiet_skip; (with_reducible refine mix_on ?_)) | ((with_reducible refine mix_plain (by kernel_rfl) ?_); (first | go_big_quiet_skip | (go_big_quiet_want; go_big_quiet_op; go_big_quiet_on)); (with_reducible refine mix_on ?_)))
        refine wpMix_nil ?_
        go_wp2_with fail
        go_roundw
        case rel => exact ⟨i + 1, by omega, by rw [HF2.out], by go_num, HW2⟩
        case measure => simp [intOf]; omega
    · have HFO := fnd_kd H
      rw [HKD.out, ← heq] at HFO
      simp only at HFO
      have hge : ¬ (i : Int) < 9 := by omega
      clear heq
      have HFO : fnd kindAt H i = 1 := HFO
      rw [HFO]
      clear HFO
      have HSU := Lib.hid (show w.heap.size < wr.heap.size by have := HI.out.size; have := F0.out.2.1; omega)
      have HBW := Lib.hid (F0.out.1.trans (HI.out.mono (by have := F0.out.2.1; omega)))
      have HRR0 := Lib.hid ((HI.out.block w.heap.size (by have := F0.out.2.1; omega)).trans F0.out.2.2)
      go_upto_region 10 with fail
      obtain ⟨A, hA⟩ : ∃ A, A = wr.heap.size := ⟨_, rfl⟩
      rw [← hA] at HSU ⊢
      generalize hU : World.alloc wr _ = U
      have FU := Lib.hid (show Below w.heap.size w U ∧ A < U.heap.size ∧ U.heap[w.heap.size]? = some (.cells (ancells ⟨0, 0, 0, 0, []⟩ (.slice none 0 0)).toArray 33 (0, 0)) ∧ U.heap[A]? = some (.cells (ancells ⟨1, 0, 0, 0, []⟩ (.slice none 0 0)).toArray 33 (0, 0)) by
        rw [← hU, hA]
        exact ⟨below_new HBW.out _, by simp, (Below.heap_alloc _ _ _ (by rw [← hA]; exact HSU.out)).trans HRR0.out, heap_alloc_new wr _⟩)
      clear hU hA HRR0 HBW HI hge
      by_cases hlen : n = 3
      case neg =>
        have h1 : ((n : Int) != 3) = true := by simp; omega
        have h2 : ¬ (n : Int) = 3 := by omega
        have HOK := Lib.hid (show ansP (tailR 1 tl) = (⟨0, 0, 0, 0, []⟩, 4) by rw [tailR_len (by decide) (by rw [← HNN.out]; exact hlen)]; rfl)
        have HB := Lib.hid FU.out.1
        have hr := FU.out.2.2.1
        clear hlen
        have HRR := Lib.hid hr
        have y0 : U.cell? ⟨w.heap.size, 0, none⟩ = some (.int .i64 0) := by simp [World.cell?, hr, ancells]
        have y1 : U.cell? ⟨w.heap.size, 1, none⟩ = some (.int .i64 0) := by simp [World.cell?, hr, ancells]
        have y2 : U.cell? ⟨w.heap.size, 2, none⟩ = some (.int .i64 0) := by simp [World.cell?, hr, ancells]
        have y3 : U.cell? ⟨w.heap.size, 3, none⟩ = some (.int .i64 0) := by simp [World.cell?, hr, ancells]
        have y4 : U.cell? ⟨w.heap.size, 4, none⟩ = some (.slice none 0 0) := by simp [World.cell?, hr, ancells]
        have yf0 : U.frozen? ⟨w.heap.size, 0, none⟩ = false := by simp [World.frozen?, hr]
        have yf1 : U.frozen? ⟨w.heap.size, 1, none⟩ = false := by simp [World.frozen?, hr]
        have yf2 : U.frozen? ⟨w.heap.size, 2, none⟩ = false := by simp [World.frozen?, hr]
        have yf3 : U.frozen? ⟨w.heap.size, 3, none⟩ = false := by simp [World.frozen?, hr]
        have yf4 : U.frozen? ⟨w.heap.size, 4, none⟩ = false := by simp [World.frozen?, hr]
        clear hr
        go_wp2_with fail
        generalize hW6 : World.setCell _ _ _ = w6
        have H6 := Lib.hid (show w6 = putA U w.heap.size ⟨0, 0, 0, 0, []⟩ (.slice none 0 0) from hW6.symm)
        clear hW6
        have h6 : w6.heap[w.heap.size]? = some (.cells (ancells ⟨0, 0, 0, 0, []⟩ (.slice none 0 0)).toArray 33 (0, 0)) := by rw [H6.out]; exact putA_at _ _ HRR.out
        have z0 : w6.cell? ⟨w.heap.size, 0, none⟩ = some (.int .i64 0) := by simp [World.cell?, h6, ancells]
        have z1 : w6.cell? ⟨w.heap.size, 1, none⟩ = some (.int .i64 0) := by simp [World.cell?, h6, ancells]
        have z2 : w6.cell? ⟨w.heap.size, 2, none⟩ = some (.int .i64 0) := by simp [World.cell?, h6, ancells]
        have z3 : w6.cell? ⟨w.heap.size, 3, none⟩ = some (.int .i64 0) := by simp [World.cell?, h6, ancells]
        have z4 : w6.cell? ⟨w.heap.size, 4, none⟩ = some (.slice none 0 0) := by simp [World.cell?, h6, ancells]
        refine bodyPost_ret (v := .tuple #[.agg #[.int .i64 0, .int .i64 0, .int .i64 0, .int .i64 0, .slice none 0 0], .int .i64 4]) (by simp [results, Tryd.results11, go_sem, z0, z1, z2, z3, z4]) rfl ?_
        have hb6 : Below w.heap.size w w6 := by rw [H6.out]; exact HB.out.trans (putA_below _ _ _ _ (Nat.le_refl _))
        rw [HQ.out, HOK.out]
        exact ⟨_, rfl, ownQ_nil _ _, hb6⟩
      case pos =>
      subst hlen
      clear hn0 hn1 hg2
      go_wp2_with fail
      go_loopw [8, 9, 10, 11, 12, 13] (fun nv iv _ _ _ _ wr => ∃ (i : Nat) (NS : List Int), i ≤ tl.length ∧ iv = .int .i64 ((i : Int) + 1) ∧ Hid (flatO 1 (tl.take i) = some NS) ∧ Hid (OwnN wr U.heap.size nv NS ∧ Below U.heap.size U wr))
        (fun _ iv _ _ _ _ _ => tl.length + 1 - (intOf iv).toNat)
      case atStart => exact ⟨0, [], by omega, rfl, Lib.hid (by unfold flatO; split <;> rfl), Lib.hid ⟨ownN_nil _ _, Below.refl _ _⟩⟩
      case round =>
        obtain ⟨i, NS, hi, rfl, HNS, HO⟩ := hrel
        obtain ⟨np, nc, hnv, HNC⟩ := ownN_cells HO.out.1
        subst hnv
        have HNC := Lib.hid HNC
        rcases (by omega : i < tl.length ∨ i = tl.length) with hlt | heq
        · obtain ⟨x, hx⟩ : ∃ x, tl[i]? = some x := ⟨tl[i], List.getElem?_eq_getElem hlt⟩
          have HX := Lib.hid hx
          have HXM := Lib.hid (List.mem_of_getElem? hx)
          have HBW := Lib.hid (FU.out.1.trans (HO.out.2.mono (Nat.le_of_lt (Nat.lt_trans HSU.out FU.out.2.1))))
          have c0 := Ext.cell ⟨wr, HBW.out⟩ (HCW.out i x hx)
          simp only at c0
          have c1 := fun u => Ext.on c0 u
          have il : (i : Int) + 1 < 3 := by have := HNN.out; omega
          have il2 : i + 1 < 3 := by have := HNN.out; omega
          have hw1 : wrap64 ((i : Int) + 1 + 1) = (i : Int) + 1 + 1 := wrap_id ⟨by omega, by have := HLN.out; omega⟩
          have hw2 : IntKind.i64.wrap ((i : Int) + 1 + 1) = (i : Int) + 1 + 1 := wrapi_id ⟨by omega, by have := HLN.out; omega⟩
          clear hx
          go_upto_region 22 with fail
          generalize hV1 : World.alloc wr _ = V1
          have F1 := Lib.hid (show Below U.heap.size U V1 ∧ OwnN V1 U.heap.size (.slice np NS.length nc) NS ∧ OwnT V1 0 (.slice (some ⟨wr.heap.size, 0, none⟩) 1 1) [x] ∧ V1.cell? ⟨g, o + (i + 1), none⟩ = some (tx x) by
            rw [← hV1]; exact ⟨HO.out.2.alloc HO.out.2.size _, World.ownsRow.alloc HO.out.1 _, ownT_new wr x 0 (Nat.zero_le _), c1 _⟩)
          have HUL := Lib.hid (show ∀ u ∈ [x], u.length ≤ 5000 from fun u hu => by rw [List.mem_singleton.1 hu]; have := HXL.out x HXM.out; omega)
          have HM := Lib.hid (show ∀ ms, numsOf [x] = some ms → flatO 1 (tl.take (i + 1)) = some (NS ++ ms) from fun ms h => by
            rw [List.take_add_one, HX.out]
            exact flatO_snoc HNS.out (by unfold pw; rw [if_neg (by decide)]; exact h) fun h => absurd h (by decide))
          have HF := Lib.hid (show ∀ u, u ∈ [x] → numOf u = none → tailR 1 tl = .error 4 from fun u hu h => tailR_none (flatO_bad (k := 1) HXM.out (by unfold pw; rw [if_neg (by decide)]; exact hu) h))
          obtain ⟨q, hq⟩ : ∃ q, q = some (⟨wr.heap.size, 0, none⟩ : Addr) := ⟨_, rfl⟩
          obtain ⟨qc, hqc⟩ : ∃ q : Nat, q = 1 := ⟨_, rfl⟩
          have F3 := Lib.hid (show Below U.heap.size U V1 ∧ OwnN V1 U.heap.size (.slice np NS.length nc) NS ∧ OwnT V1 0 (.slice q 1 qc) [x] by rw [hq, hqc]; exact ⟨F1.out.1, F1.out.2.1, F1.out.2.2.1⟩)
          rw [← hq]
          have HP2 := Lib.hid (show [x].length = 1 from rfl)
          clear hV1 c0 c1 HO HBW HNC F1 hq hqc
          generalize [x] = P at *
          obtain ⟨W3, hW3⟩ : ∃ W, W = V1 := ⟨_, rfl⟩
          rw [← hW3] at F3 ⊢
          clear hW3
          have hml : P.length = 1 := HP2.out
          obtain ⟨u0, hu0⟩ : ∃ u, P[0]? = some u := ⟨P[0]'(by omega), List.getElem?_eq_getElem (by omega)⟩
          obtain ⟨pb, rfl, _⟩ := ownT_cell F3.out.2.2 hu0
          clear hu0
          go_wp2_with fail
          go_loopw [8, 11, 12, 13] (fun nv jv _ _ wr => ∃ (j : Nat) (ms : List Int), j ≤ 1 ∧ jv = .int .i64 j ∧ Hid (numsOf (P.take j) = some ms) ∧ Hid (Below U.heap.size U wr ∧ OwnN wr U.heap.size nv (NS ++ ms) ∧ OwnT wr 0 (.slice (some ⟨pb, 0, none⟩) 1 qc) P))
            (fun _ jv _ _ _ => 1 - (intOf jv).toNat)
          case atStart => exact ⟨0, [], by omega, rfl, Lib.hid rfl, Lib.hid (by rw [List.append_nil]; exact F3.out)⟩
          case round =>
            obtain ⟨j, ms, hj, rfl, HMS, HJ⟩ := hrel
            rcases or_lt hj with hjlt | hjeq
            · obtain ⟨u, hu⟩ := idx_lt hjlt hml
              obtain ⟨ug, hq, d0⟩ := ownT_cell HJ.out.2.2 hu
              have HUU := Lib.hid hu
              have hjI : (j : Int) < 1 := lt1 hjlt
              have hw3 : wrap64 ((j : Int) + 1) = (j : Int) + 1 := wr_s (Nat.lt_of_lt_of_le hjlt (by decide))
              have hw4 : IntKind.i64.wrap ((j : Int) + 1) = (j : Int) + 1 := wri_s (Nat.lt_of_lt_of_le hjlt (by decide))
              injection hq with hq
              injection hq with hq
              subst hq
              clear hu
              cases hn : numOf u with
              | none =>
                have HOK := Lib.hid (show ansP (tailR 1 tl) = (⟨0, 0, 0, 0, []⟩, 4) by rw [HF.out u (List.mem_of_getElem? HUU.out) hn]; rfl)
                have PN := rparse_no u wr (numOf_not hn) (Nat.le_trans (HUL.out u (List.mem_of_getElem? HUU.out)) (by decide))
                have PN := Lib.hid PN
                clear hn
                go_wp2_with fail
                refine PN.out.mono ?_; rintro _ w5 ⟨rfl, hb5⟩
                have HB := Lib.hid (FU.out.1.trans ((HJ.out.1.mono (Nat.le_of_lt (Nat.lt_trans HSU.out FU.out.2.1))).trans (hb5.mono (Nat.le_trans (Nat.le_of_lt (Nat.lt_trans HSU.out FU.out.2.1)) HJ.out.1.size))))
                have hr := (hb5.block w.heap.size (Nat.lt_of_lt_of_le (Nat.lt_trans HSU.out FU.out.2.1) HJ.out.1.size)).trans ((HJ.out.1.block w.heap.size (Nat.lt_trans HSU.out FU.out.2.1)).trans FU.out.2.2.1)
                clear hb5 d0
                have HRR := Lib.hid hr
                have y0 : w5.cell? ⟨w.heap.size, 0, none⟩ = some (.int .i64 0) := by simp [World.cell?, hr, ancells]
                have y1 : w5.cell? ⟨w.heap.size, 1, none⟩ = some (.int .i64 0) := by simp [World.cell?, hr, ancells]
                have y2 : w5.cell? ⟨w.heap.size, 2, none⟩ = some (.int .i64 0) := by simp [World.cell?, hr, ancells]
                have y3 : w5.cell? ⟨w.heap.size, 3, none⟩ = some (.int .i64 0) := by simp [World.cell?, hr, ancells]
                have y4 : w5.cell? ⟨w.heap.size, 4, none⟩ = some (.slice none 0 0) := by simp [World.cell?, hr, ancells]
                have yf0 : w5.frozen? ⟨w.heap.size, 0, none⟩ = false := by simp [World.frozen?, hr]
                have yf1 : w5.frozen? ⟨w.heap.size, 1, none⟩ = false := by simp [World.frozen?, hr]
                have yf2 : w5.frozen? ⟨w.heap.size, 2, none⟩ = false := by simp [World.frozen?, hr]
                have yf3 : w5.frozen? ⟨w.heap.size, 3, none⟩ = false := by simp [World.frozen?, hr]
                have yf4 : w5.frozen? ⟨w.heap.size, 4, none⟩ = false := by simp [World.frozen?, hr]
                clear hr
                go_wp2_with fail
                generalize hW6 : World.setCell _ _ _ = w6
                have H6 := Lib.hid (show w6 = putA w5 w.heap.size ⟨0, 0, 0, 0, []⟩ (.slice none 0 0) from hW6.symm)
                clear hW6
                have h6 : w6.heap[w.heap.size]? = some (.cells (ancells ⟨0, 0, 0, 0, []⟩ (.slice none 0 0)).toArray 33 (0, 0)) := by rw [H6.out]; exact putA_at _ _ HRR.out
                have z0 : w6.cell? ⟨w.heap.size, 0, none⟩ = some (.int .i64 0) := by simp [World.cell?, h6, ancells]
                have z1 : w6.cell? ⟨w.heap.size, 1, none⟩ = some (.int .i64 0) := by simp [World.cell?, h6, ancells]
                have z2 : w6.cell? ⟨w.heap.size, 2, none⟩ = some (.int .i64 0) := by simp [World.cell?, h6, ancells]
                have z3 : w6.cell? ⟨w.heap.size, 3, none⟩ = some (.int .i64 0) := by simp [World.cell?, h6, ancells]
                have z4 : w6.cell? ⟨w.heap.size, 4, none⟩ = some (.slice none 0 0) := by simp [World.cell?, h6, ancells]
                refine bodyPost_ret (v := .tuple #[.agg #[.int .i64 0, .int .i64 0, .int .i64 0, .int .i64 0, .slice none 0 0], .int .i64 4]) (by simp [results, Tryd.results11, go_sem, z0, z1, z2, z3, z4]) rfl ?_
                have hb6 : Below w.heap.size w w6 := by rw [H6.out]; exact HB.out.trans (putA_below _ _ _ _ (Nat.le_refl _))
                rw [HQ.out, HOK.out]
                exact ⟨_, rfl, ownQ_nil _ _, hb6⟩
              | some a =>
                have HNA := Lib.hid hn
                have PY := Lib.hid (rparse u a wr (numOf_is hn))
                clear hn
                go_wp2_with fail
                refine PY.out.mono ?_; rintro _ w5 ⟨rfl, hb5⟩
                have H5 := Lib.hid (show Below U.heap.size U w5 ∧ OwnN w5 U.heap.size u8 (NS ++ ms) ∧ OwnT w5 0 (.slice (some ⟨pb, 0, none⟩) 1 qc) P from ⟨below_on HJ.out.1 hb5, World.ownsRow.kept HJ.out.2.1 (grown_of_below hb5) (by cases u8.ownBlock <;> simp), World.ownsRow.kept HJ.out.2.2 (grown_of_below hb5) (by cases (Value.slice (some (⟨pb, 0, none⟩ : Addr)) 1 qc).ownBlock <;> simp)⟩)
                clear hb5 d0 HJ
                go_wp2_with (at_builtin; refine wpList_append_n1 rfl (.tmp 88) (.tmp 90) rfl U.heap.size _ (NS ++ ms) a w5.heap.size 1 rfl (World.ownsRow.alloc H5.out.2.1 _) rfl (Ext.made_in rfl (Below.refl _ _) 0 _ rfl) (app_len HNS.out HMS.out HLN.out hml (by decide)) (size_al _ H5.out.1.size) ?_)
                intro v1 w7 hown hg
                have H7 := Lib.hid (show Below U.heap.size U w7 ∧ OwnN w7 U.heap.size v1 (NS ++ (ms ++ [a])) ∧ OwnT w7 0 (.slice (some ⟨pb, 0, none⟩) 1 qc) P from ⟨grow_stepN (World.ownsRow.alloc H5.out.2.1 _) (H5.out.1.alloc H5.out.1.size _) (Nat.le_refl _) hg, by first | exact hown | (rw [← List.append_assoc]; exact hown), World.ownsRow.kept (World.ownsRow.alloc H5.out.2.2 _) hg (own_ne H5.out.2.2 H5.out.2.1)⟩)
                have HMN := Lib.hid (show numsOf (P.take (j + 1)) = some (ms ++ [a]) by
                  rw [List.take_add_one, HUU.out]; exact numsOf_snoc u a HMS.out HNA.out)
                clear hown hg H5
                go_wp2_with fail
                go_roundw
                case rel => exact ⟨j + 1, ms ++ [a], rel_le hjlt, by go_num, HMN, H7⟩
                case measure => exact meas1 hjlt
            · have HE := Lib.hid (HM.out ms (by have := HMS.out; rwa [hjeq, ← hml, List.take_length] at this))
              have hge : ¬ (j : Int) < 1 := nlt1 hjeq
              clear hjeq
              go_wp2_with fail
              go_roundw
              case rel => exact ⟨i + 1, NS ++ ms, rel_le hlt, by go_num, HE, Lib.hid ⟨HJ.out.2.1, HJ.out.1⟩⟩
              case measure => exact meas2 hlt
        · have hNS := HNS.out
          rw [heq, List.take_length] at hNS
          have hge : ¬ (i : Int) + 1 < 3 := by have := HNN.out; omega
          have hcc := (HO.out.2.block A FU.out.2.1).trans FU.out.2.2.2
          have hr := (HO.out.2.block w.heap.size (Nat.lt_trans HSU.out FU.out.2.1)).trans FU.out.2.2.1
          have HB := Lib.hid (FU.out.1.trans (HO.out.2.mono (Nat.le_of_lt (Nat.lt_trans HSU.out FU.out.2.1))))
          have HAW := Lib.hid (show A < wr.heap.size from Nat.lt_of_lt_of_le FU.out.2.1 HO.out.2.size)
          have hRA : w.heap.size ≠ A := by have := HSU.out; omega
          obtain ⟨a, b, rfl, htr⟩ := tailR_y1 hNS (by have := HNN.out; omega)
          have HOK := Lib.hid (show ansP (tailR 1 tl) = (⟨1, a, b, 0, []⟩, 0) by rw [htr]; rfl)
          obtain ⟨ng, hng, rfl, e0⟩ := HNC.out 0 a rfl
          have hgA : ng ≠ A := by have := FU.out.2.1; omega
          have hAg : A ≠ ng := fun e => hgA e.symm
          obtain ⟨ng', _, hng', e1⟩ := HNC.out 1 b rfl
          injection hng' with hng'
          injection hng' with hng'
          subst hng'
          have HCC := Lib.hid hcc
          have HRR1 := Lib.hid hr
          have x0 : wr.cell? ⟨A, 0, none⟩ = some (.int .i64 1) := by simp [World.cell?, hcc, ancells]
          have x1 : wr.cell? ⟨A, 1, none⟩ = some (.int .i64 0) := by simp [World.cell?, hcc, ancells]
          have x2 : wr.cell? ⟨A, 2, none⟩ = some (.int .i64 0) := by simp [World.cell?, hcc, ancells]
          have x3 : wr.cell? ⟨A, 3, none⟩ = some (.int .i64 0) := by simp [World.cell?, hcc, ancells]
          have x4 : wr.cell? ⟨A, 4, none⟩ = some (.slice none 0 0) := by simp [World.cell?, hcc, ancells]
          have xf0 : wr.frozen? ⟨A, 0, none⟩ = false := by simp [World.frozen?, hcc]
          have xf1 : wr.frozen? ⟨A, 1, none⟩ = false := by simp [World.frozen?, hcc]
          have xf2 : wr.frozen? ⟨A, 2, none⟩ = false := by simp [World.frozen?, hcc]
          have xf3 : wr.frozen? ⟨A, 3, none⟩ = false := by simp [World.frozen?, hcc]
          have xf4 : wr.frozen? ⟨A, 4, none⟩ = false := by simp [World.frozen?, hcc]
          clear hcc hr hNS htr heq HNC
          go_wp2_with fail
          generalize hW5 : World.setCell _ _ _ = W5
          have H5 := Lib.hid (show W5.heap[A]? = some (.cells (ancells ⟨1, a, b, 0, []⟩ (.slice none 0 0)).toArray 33 (0, 0)) ∧ W5.heap[w.heap.size]? = some (.cells (ancells ⟨0, 0, 0, 0, []⟩ (.slice none 0 0)).toArray 33 (0, 0)) ∧ Below w.heap.size w W5 by
            rw [← hW5]; exact ⟨heap_setCell_same _ A 2 _ _ _ (heap_setCell_same wr A 1 _ _ _ HCC.out), (heap_setCell_other _ ⟨A, 2, none⟩ _ _ hRA).trans ((heap_setCell_other wr ⟨A, 1, none⟩ _ _ hRA).trans HRR1.out), (HB.out.setCell (p := ⟨A, 1, none⟩) (Nat.le_of_lt HSU.out) _).setCell (p := ⟨A, 2, none⟩) (Nat.le_of_lt HSU.out) _⟩)
          clear hW5 HCC HRR1 HB
          clear x0 xf0
          clear x1 xf1
          clear x2 xf2
          clear x3 xf3
          clear x4 xf4
          go_loopw [14] (fun iv wr => iv = .int .i64 0 ∧ Hid (wr.heap[A]? = some (.cells (ancells ⟨1, a, b, 0, []⟩ (.slice none 0 0)).toArray 33 (0, 0)) ∧ wr.heap[w.heap.size]? = some (.cells (ancells ⟨0, 0, 0, 0, []⟩ (.slice none 0 0)).toArray 33 (0, 0)) ∧ Below w.heap.size w wr))
            (fun _ _ => 0)
          case atStart => exact ⟨rfl, H5⟩
          case round =>
            obtain ⟨rfl, HZ⟩ := hrel
            have hcc := HZ.out.1
            have hr := HZ.out.2.1
            have HB := Lib.hid HZ.out.2.2
            have HRR := Lib.hid hr
            have x0 : wr.cell? ⟨A, 0, none⟩ = some (.int .i64 1) := by simp [World.cell?, hcc, ancells]
            have x1 : wr.cell? ⟨A, 1, none⟩ = some (.int .i64 a) := by simp [World.cell?, hcc, ancells]
            have x2 : wr.cell? ⟨A, 2, none⟩ = some (.int .i64 b) := by simp [World.cell?, hcc, ancells]
            have x3 : wr.cell? ⟨A, 3, none⟩ = some (.int .i64 0) := by simp [World.cell?, hcc, ancells]
            have x4 : wr.cell? ⟨A, 4, none⟩ = some (.slice none 0 0) := by simp [World.cell?, hcc, ancells]
            have y0 : wr.cell? ⟨w.heap.size, 0, none⟩ = some (.int .i64 0) := by simp [World.cell?, hr, ancells]
            have y1 : wr.cell? ⟨w.heap.size, 1, none⟩ = some (.int .i64 0) := by simp [World.cell?, hr, ancells]
            have y2 : wr.cell? ⟨w.heap.size, 2, none⟩ = some (.int .i64 0) := by simp [World.cell?, hr, ancells]
            have y3 : wr.cell? ⟨w.heap.size, 3, none⟩ = some (.int .i64 0) := by simp [World.cell?, hr, ancells]
            have y4 : wr.cell? ⟨w.heap.size, 4, none⟩ = some (.slice none 0 0) := by simp [World.cell?, hr, ancells]
            have yf0 : wr.frozen? ⟨w.heap.size, 0, none⟩ = false := by simp [World.frozen?, hr]
            have yf1 : wr.frozen? ⟨w.heap.size, 1, none⟩ = false := by simp [World.frozen?, hr]
            have yf2 : wr.frozen? ⟨w.heap.size, 2, none⟩ = false := by simp [World.frozen?, hr]
            have yf3 : wr.frozen? ⟨w.heap.size, 3, none⟩ = false := by simp [World.frozen?, hr]
            have yf4 : wr.frozen? ⟨w.heap.size, 4, none⟩ = false := by simp [World.frozen?, hr]
            clear hr hcc
            go_wp2_with fail
            generalize hW6 : World.setCell _ _ _ = w6
            have H6 := Lib.hid (show w6 = putA wr w.heap.size ⟨1, a, b, 0, []⟩ (.slice none 0 0) from hW6.symm)
            clear hW6
            have h6 : w6.heap[w.heap.size]? = some (.cells (ancells ⟨1, a, b, 0, []⟩ (.slice none 0 0)).toArray 33 (0, 0)) := by rw [H6.out]; exact putA_at _ _ HRR.out
            have z0 : w6.cell? ⟨w.heap.size, 0, none⟩ = some (.int .i64 1) := by simp [World.cell?, h6, ancells]
            have z1 : w6.cell? ⟨w.heap.size, 1, none⟩ = some (.int .i64 a) := by simp [World.cell?, h6, ancells]
            have z2 : w6.cell? ⟨w.heap.size, 2, none⟩ = some (.int .i64 b) := by simp [World.cell?, h6, ancells]
            have z3 : w6.cell? ⟨w.heap.size, 3, none⟩ = some (.int .i64 0) := by simp [World.cell?, h6, ancells]
            have z4 : w6.cell? ⟨w.heap.size, 4, none⟩ = some (.slice none 0 0) := by simp [World.cell?, h6, ancells]
            refine bodyPost_ret (v := .tuple #[.agg #[.int .i64 1, .int .i64 a, .int .i64 b, .int .i64 0, .slice none 0 0], .int .i64 0]) (by simp [results, Tryd.results11, go_sem, z0, z1, z2, z3, z4]) rfl ?_
            have hb6 : Below w.heap.size w w6 := by rw [H6.out]; exact HB.out.trans (putA_below _ _ _ _ (Nat.le_refl _))
            rw [HQ.out, HOK.out]
            exact ⟨_, rfl, ownQ_nil _ _, hb6⟩
end Go.Proofs.YtdgplijnhkgeiaaDoor
