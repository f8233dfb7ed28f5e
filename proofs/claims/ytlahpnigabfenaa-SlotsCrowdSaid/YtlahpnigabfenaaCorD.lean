/- Layer 16: core.New. -/
import Derived.Test.YtlahpnigabfenaaCorC
namespace Go.Proofs.Ytlahpnigabfenaa
open Go.RowKit WordM EdgeM
set_option linter.unusedVariables false
set_option linter.unusedSimpArgs false
set_option maxRecDepth 8000 in
theorem cnew_no (T S K : Int) (w : World) (h : mayC T S K = false) :
    Calls Try.prog 7 #[.agg #[.int .i64 T, .int .i64 S, .int .u64 K]] w fun e w' => e = .returned (.tuple #[.pointer none, .int .i64 1]) ∧ Below w.heap.size w w' := by
  refine Calls.veil fun Q HQ => ?_
  have HM := Lib.hid h
  clear h
  go_enter Try.func7, Try.ntmps7
  go_upto_region 1 with fail
  generalize hV : World.alloc _ _ = U
  obtain ⟨hh, hbv⟩ := Th.heapnewE hV
  have o0 := Th.newcell hh 0 _ rfl; have o1 := Th.newcell hh 1 _ rfl; have o2 := Th.newcell hh 2 _ rfl
  have HB := Lib.hid hbv
  clear hV hh hbv
  go_wp2_with fail
  refine (pnew_no _ _ _ _ HM.out).mono ?_; rintro _ w1 ⟨rfl, hb1⟩
  have HB1 := Lib.hid (below_on HB.out hb1)
  clear hb1 o0 o1 o2
  go_wp2_with fail
  (try go_ret2)
  rw [HQ.out]
  exact ⟨rfl, HB1.out⟩
set_option maxRecDepth 16000 in
set_option maxHeartbeats 4000000 in
theorem cnewI {t s : Nat} {K : Int} (w : World) (h : mayC t s K = true) :
    Calls Try.prog 7 #[.agg #[.int .i64 t, .int .i64 s, .int .u64 K]] w fun e w' => ∃ q pl mb mg C gq gg gm fv tq, e = .returned (.tuple #[.pointer (some ⟨q, 0, none⟩), .int .i64 0]) ∧ MI w' w.heap.size q pl mb mg C gq gg gm fv tq t s K (partF t 3 s) 0 false (fun i => decide (i < 5)) (fun _ => 0) 0 0 false ∧ Below w.heap.size w w' ∧ (∀ i j, i < t → j < t → tq i = tq j → i = j) := by
  refine Calls.veil fun Q HQ => ?_
  have hm := mayC_true h
  have t1 : 1 ≤ t := by omega
  have t2 : t ≤ 6 := by omega
  have s1 : 7 ≤ s := by omega
  have s2 : s ≤ 250 := by omega
  have HM := Lib.hid h
  clear h hm
  go_enter Try.func7, Try.ntmps7
  go_upto_region 1 with fail
  generalize hV : World.alloc _ _ = U
  obtain ⟨hh, hbv⟩ := Th.heapnewE hV
  obtain ⟨cb, hcb⟩ : ∃ cb, cb = w.heap.size := ⟨_, rfl⟩
  rw [← hcb] at hh ⊢
  have HC := Lib.hid hh; have HB := Lib.hid hbv; have HCB := Lib.hid hcb
  have o0 := Th.newcell hh 0 _ rfl; have o1 := Th.newcell hh 1 _ rfl; have o2 := Th.newcell hh 2 _ rfl
  clear hV hh hbv hcb
  go_wp2_with fail
  refine (pnew_yes _ _ _ _ HM.out).mono ?_; rintro _ w1 ⟨pl, rfl, hpl, hpc, hb1⟩
  have HPL := Lib.hid (show w.heap.size ≤ pl from by have := HB.out.size; omega)
  have HPC := Lib.hid hpc; have HB1 := Lib.hid (below_on HB.out hb1); have HC1 := Lib.hid (Th.up hb1 HC.out)
  clear hpl hpc hb1 o0 o1 o2 HC HB
  go_upto_region 4 with fail
  have o1 : ∀ y : Ext w1, y.w.cell? ⟨cb, 1, none⟩ = some (.int .i64 s) := Ext.cells (Th.newcell HC1.out 1 _ rfl)
  have P0 := Lib.hid (Ext.cells (Th.newcell HPC.out 0 _ rfl)); have P1 := Lib.hid (Ext.cells (Th.newcell HPC.out 1 _ rfl)); have P2 := Lib.hid (Ext.cells (Th.newcell HPC.out 2 _ rfl))
  (with_reducible refine wp_region_mix (fun w' => ∃ y : Ext w1, w' = y.w) ?_ ?_ ?_ ?_; kernel_rfl; kernel_rfl; exact ⟨⟨w1.drew, (Below.refl _ _).drew⟩, rfl⟩)
  obtain ⟨y0, hy0⟩ : ∃ y : Ext w1, y.w = w1.drew := ⟨⟨w1.drew, (Below.refl _ _).drew⟩, rfl⟩
  rw [← hy0]
  clear hy0
  repeat (first | ((with_reducible refine mix_plain (by kernel_rfl) ?_); (first | go_big_quiet_skip | (go_big_quiet_want; go_big_quiet_op; go_big_quiet_on)); (with_reducible refine mix_on ?_)) | ((with_reducible refine mix_skip (by kernel_rfl) ?_); go_big_quiet_skip; (with_reducible refine mix_on ?_)))
  ((with_reducible refine wpMix_chain (by kernel_rfl) (by kernel_rfl) (fun K HK => ?_)); go_step)
  refine (cfirst (P0.out y0) (P1.out y0) (P2.out y0) t1 t2 s1 s2).mono ?_; rintro _ w2 ⟨g, rfl, hg, hr, hb2⟩
  have HR := Lib.hid hr
  have hb2 := below_on y0.h hb2
  have HB2 := Lib.hid hb2
  refine HK.out _ _ ⟨⟨w2, hb2⟩, rfl⟩ ?_
  clear HK K hg hr
  repeat (first | ((with_reducible refine mix_plain (by kernel_rfl) ?_); (first | go_big_quiet_skip | (go_big_quiet_want; go_big_quiet_op; go_big_quiet_on)); (with_reducible refine mix_on ?_)) | ((with_reducible refine mix_skip (by kernel_rfl) ?_); go_big_quiet_skip; (with_reducible refine mix_on ?_)))
  ((with_reducible refine wpMix_chain (by kernel_rfl) (by kernel_rfl) (fun K HK => ?_)); go_step)
  refine (Mm.mof g 0 (3 + 8 * t + 7 * s) (3 + 8 * t + 7 * s) (partF t 3 s) w2 (by omega) (by omega) (Nat.le_refl _) (by omega) (fun i hi => by rw [Nat.zero_add]; exact HR.out.row i hi) (fun i hi => partF_bd t 3 s i (by omega))).mono ?_; rintro _ w3 ⟨mb, mg, rfl, hmb, hmg, hme, hb3⟩
  have hs3 := hb3.size
  have HO2 := Lib.hid (show pl < mb ∧ pl < mg from by have := Th.blk_lt (Th.up hb2 HPC.out); omega)
  have HME := Lib.hid hme
  have hb3 := below_on hb2 hb3
  refine HK.out _ _ ⟨⟨w3, hb3⟩, rfl⟩ ?_
  clear HK K hmb hmg hme hs3
  repeat (first | ((with_reducible refine mix_plain (by kernel_rfl) ?_); (first | go_big_quiet_skip | (go_big_quiet_want; go_big_quiet_op; go_big_quiet_on)); (with_reducible refine mix_on ?_)) | ((with_reducible refine mix_skip (by kernel_rfl) ?_); go_big_quiet_skip; (with_reducible refine mix_on ?_)))
  ((with_reducible refine wpMix_chain (by kernel_rfl) (by kernel_rfl) (fun K HK => ?_)); go_step)
  refine (Gd.gnew_yes s w3 (by omega) s2).mono ?_; rintro _ w4 ⟨gq, gg, gm, rfl, h1, h2, h3, hga, hb4⟩
  have HO3 := Lib.hid (show (mb < gq ∧ mb < gg ∧ mb < gm) ∧ (mg < gq ∧ mg < gg ∧ mg < gm) from by have := HME.out.bl; have := HME.out.gl; omega)
  have HGA := Lib.hid hga; have HME4 := Lib.hid (HME.out.below hb4)
  have hb4 := below_on hb3 hb4
  refine HK.out _ _ ⟨⟨w4, hb4⟩, rfl⟩ ?_
  clear HK K h1 h2 h3 hga hb3 HME
  repeat (first | ((with_reducible refine mix_plain (by kernel_rfl) ?_); (first | go_big_quiet_skip | (go_big_quiet_want; go_big_quiet_op; go_big_quiet_on)); (with_reducible refine mix_on ?_)) | ((with_reducible refine mix_skip (by kernel_rfl) ?_); go_big_quiet_skip; (with_reducible refine mix_on ?_)))
  ((with_reducible refine wpMix_chain (by kernel_rfl) (by kernel_rfl) (fun K HK => ?_)); go_step)
  refine HK.out _ _ ⟨⟨_, below_new hb4 _⟩, rfl⟩ ?_
  clear HK K
  repeat (first | ((with_reducible refine mix_plain (by kernel_rfl) ?_); (first | go_big_quiet_skip | (go_big_quiet_want; go_big_quiet_op; go_big_quiet_on)); (with_reducible refine mix_on ?_)) | ((with_reducible refine mix_skip (by kernel_rfl) ?_); go_big_quiet_skip; (with_reducible refine mix_on ?_)))
  refine wpMix_nil ?_
  generalize hW : World.alloc _ _ = W
  obtain ⟨hh, hbw⟩ := Th.heapnewE hW
  obtain ⟨q, hq⟩ : ∃ q, q = w4.heap.size := ⟨_, rfl⟩
  rw [← hq] at hh ⊢
  have HQB := Lib.hid (show W.heap[q]? = some (.cells (machC pl mb gq (.slice none 0 0) 0 false) 86 (0, 0)) from hh)
  have HO5 := Lib.hid (show gq < q ∧ gg < q ∧ gm < q from by have := HGA.out.lt; omega)
  have HGW := Lib.hid (HGA.out.below hbw); have HMW := Lib.hid (HME4.out.below hbw)
  have HBW1 := Lib.hid (below_on hb4 hbw)
  have HCW := Lib.hid (Th.up HBW1.out HC1.out); have HPW := Lib.hid (Th.up HBW1.out HPC.out)
  have HBW := Lib.hid (below_on HB1.out HBW1.out)
  clear hW hh hbw hq hb2 hb4 o1 P0 P1 P2 HGA HME4 HC1 HPC HB1 HB2 HR HBW1
  go_wp2_with fail
  go_loopw [7] (fun iv wr => ∃ k : Nat, k ≤ 5 ∧ iv = .int .i64 ((k : Int) + 1) ∧ Hid (Gd.GA wr gq gg gm s (fun i => decide (i < k)) (fun _ => 0) 0) ∧ Hid (Gd.K3 W wr gq gg gm))
    (fun iv _ => 7 - (intOf iv).toNat)
  case atStart => exact ⟨0, by omega, by go_num, Lib.hid (by have := HGW.out; simpa using this), Lib.hid (Gd.K3.of_below (Below.refl _ _) _ _ _)⟩
  case round =>
    obtain ⟨k, hk, rfl, HG, HK3⟩ := hrel
    rcases (by omega : k < 5 ∨ k = 5) with hlt | heq
    · have hii : (k : Int) + 1 ≤ 5 := by omega
      have c2 : wr.cell? ⟨q, 2, none⟩ = some (.pointer (some ⟨gq, 0, none⟩)) := Th.newcell ((HK3.out.block q (Th.blk_lt HQB.out) (by have := HO5.out; omega) (by have := HO5.out; omega) (by have := HO5.out; omega)).trans HQB.out) 2 _ rfl
      go_wp2_with fail
      refine (Gd.gtake HG.out ((k : Int) + 1) (by omega)).mono ?_; rintro _ w6 ⟨rfl, hga, hk3⟩
      rw [(take5 s k hlt s1).2, if_pos (take5 s k hlt s1).1] at hga
      have HG6 := Lib.hid hga; have HK6 := Lib.hid (HK3.out.trans hk3)
      clear hga hk3 c2 HG HK3
      go_wp2_with fail
      go_roundw
      case rel => exact ⟨k + 1, by omega, by go_num, HG6, HK6⟩
      case measure => simp [intOf]; omega
    · subst heq
      rw [show ((5 : Nat) : Int) + 1 = 6 from rfl]
      have HCR := Lib.hid ((HK3.out.block cb (Th.blk_lt HCW.out) (by have := HO3.out; have := HO2.out; have := HPL.out; have := HCB.out; omega) (by have := HO3.out; have := HO2.out; have := HPL.out; have := HCB.out; omega) (by have := HO3.out; have := HO2.out; have := HPL.out; have := HCB.out; omega)).trans HCW.out)
      have HPR := Lib.hid ((HK3.out.block pl (Th.blk_lt HPW.out) (by have := HO3.out; have := HO2.out; omega) (by have := HO3.out; have := HO2.out; omega) (by have := HO3.out; have := HO2.out; omega)).trans HPW.out)
      have HQR := Lib.hid ((HK3.out.block q (Th.blk_lt HQB.out) (by have := HO5.out; omega) (by have := HO5.out; omega) (by have := HO5.out; omega)).trans HQB.out)
      have HMR := Lib.hid (HMW.out.keep HK3.out.size (HK3.out.block mb HMW.out.bl (by have := HO3.out; omega) (by have := HO3.out; omega) (by have := HO3.out; omega)) (HK3.out.block mg HMW.out.gl (by have := HO3.out; omega) (by have := HO3.out; omega) (by have := HO3.out; omega)))
      have HBR := Lib.hid (show Below w.heap.size w wr from ⟨HK3.out.os.trans HBW.out.os, HK3.out.tape.trans HBW.out.tape, HK3.out.output.trans HBW.out.output, Nat.le_trans HBW.out.size HK3.out.size, fun j hj => (HK3.out.block j (Nat.lt_of_lt_of_le hj HBW.out.size) (by have := HO3.out; have := HO2.out; have := HPL.out; omega) (by have := HO3.out; have := HO2.out; have := HPL.out; omega) (by have := HO3.out; have := HO2.out; have := HPL.out; omega)).trans (HBW.out.block j hj)⟩)
      have HQL := Lib.hid (show q < wr.heap.size from Th.blk_lt HQR.out)
      clear HCW HPW HQB HMW HGW HK3 HBW
      have o0 : wr.cell? ⟨cb, 0, none⟩ = some (.int .i64 t) := Th.newcell HCR.out 0 _ rfl
      go_wp2_with fail
      clear o0
      obtain ⟨W1, hW1⟩ : ∃ W1, W1 = wr := ⟨_, rfl⟩
      have HWE := Lib.hid hW1
      go_loopw [37] (fun iv wz => ∃ i : Nat, i ≤ t ∧ iv = .int .i64 i ∧ ∃ (fv : Value) (tq : Nat → Nat), Hid (wz.heap[q]? = some (.cells (machC pl mb gq fv 0 false) 86 (0, 0))) ∧ Hid (Th.OwnL 51 wz (q + 1) fv i (Th.ptrs tq i)) ∧ Hid (∀ j, j < i → q < tq j ∧ TB wz (tq j)) ∧ Hid (Below q W1 wz) ∧ Hid (∀ j k, j < i → k < i → tq j = tq k → j = k))
        (fun iv _ => t - (intOf iv).toNat)
      case atStart => exact ⟨0, by omega, by go_num, _, fun _ => 0, HQR, Lib.hid (.nil _ _), Lib.hid (fun j hj => by omega), Lib.hid (by rw [hW1]; exact Below.refl _ _), Lib.hid (fun j k hj => by omega)⟩
      case round =>
        clear HQR
        obtain ⟨i, hi, rfl, fv, tq, HMB, HFV, HTB, HBQ, HIN⟩ := hrel
        rcases (by omega : i < t ∨ i = t) with hlt | heq
        · have hii : (i : Int) < t := by omega
          have c3 : wr.cell? ⟨q, 3, none⟩ = some fv := Th.newcell HMB.out 3 _ rfl
          obtain ⟨fva, fvc, rfl, _, _⟩ := HFV.out.slice
          have HLF := Lib.hid (show ∀ y : Ext wr, (Instr.loadAt 84 (.pointer (some ⟨q, 3, none⟩))).run Try.prog y.w = .ok (.slice fva i fvc) y.w from fun y => by have hc := (Ext.cells c3) y; clear c3; go_simp)
          have HQR := Lib.hid (show q < wr.heap.size from Th.blk_lt HMB.out)
          clear c3
          go_upto_region 11 with fail
          refine Th.wp_region_K (fun w' => ∃ y : Ext wr, w' = y.w) 7 (by decide +kernel) ?_
          generalize hwd : World.drew wr = wd
          have hbd : Below wr.heap.size wr wd := by rw [← hwd]; exact (Below.refl _ _).drew
          clear hwd
          (refine Th.wpAnyK_takeY (i := 0) (v := ?_) rfl (by decide +kernel) (by decide +kernel) (by decide +kernel) (by decide) (fun _ _ _ h => h) (Or.inl ⟨by rfl, ?_⟩) (.inr ⟨⟨wd, hbd⟩, rfl⟩) ?_; rotate_left; (intro w; go_simp); (try with_reducible rfl))
          simp only [List.getElem_toArray, List.getElem_cons_succ, List.getElem_cons_zero, Act.put, List.setIfInBounds_toArray, List.set_cons_succ, List.set_cons_zero]
          (refine Th.wpAnyK_takeY (i := 1) (v := ?_) rfl (by decide +kernel) (by decide +kernel) (by decide +kernel) (by decide) (fun _ _ _ h => h) (Or.inl ⟨by rfl, ?_⟩) (.inr ⟨⟨wd, hbd⟩, rfl⟩) ?_; rotate_left; (intro w; go_simp); (try with_reducible rfl))
          simp only [List.getElem_toArray, List.getElem_cons_succ, List.getElem_cons_zero, Act.put, List.setIfInBounds_toArray, List.set_cons_succ, List.set_cons_zero]
          (refine Th.wpAnyK_takeY (i := 2) (v := ?_) rfl (by decide +kernel) (by decide +kernel) (by decide +kernel) (by decide) (fun _ _ _ h => h) (Or.inl ⟨by rfl, ?_⟩) (.inr ⟨⟨wd, hbd⟩, rfl⟩) ?_; rotate_left; (intro w; go_simp); (try with_reducible rfl))
          simp only [List.getElem_toArray, List.getElem_cons_succ, List.getElem_cons_zero, Act.put, List.setIfInBounds_toArray, List.set_cons_succ, List.set_cons_zero]
          (refine Th.wpAnyK_takeY (i := 3) (v := ?_) rfl (by decide +kernel) (by decide +kernel) (by decide +kernel) (by decide) (fun _ _ _ h => h) (Or.inl ⟨by rfl, ?_⟩) (.inr ⟨⟨wd, hbd⟩, rfl⟩) ?_; rotate_left; (intro w; go_simp); (try with_reducible rfl))
          simp only [List.getElem_toArray, List.getElem_cons_succ, List.getElem_cons_zero, Act.put, List.setIfInBounds_toArray, List.set_cons_succ, List.set_cons_zero]
          (refine Th.wpAnyK_take (i := 4) (v := .slice fva i fvc) [7, 8, 9, 10] rfl (by decide +kernel) (by decide +kernel) (by decide +kernel) (by decide +kernel) (fun _ _ _ h => h) (Th.yields_loadK rfl 84 (.tmp 42) rfl rfl (by rintro _ ⟨y, rfl⟩; exact HLF.out y)) ⟨⟨wd, hbd⟩, rfl⟩ ?_)
          simp only [List.getElem_toArray, List.getElem_cons_succ, List.getElem_cons_zero, Act.put, List.setIfInBounds_toArray, List.set_cons_succ, List.set_cons_zero]
          (refine Th.wpAnyK_ready (rs := [5]) (by decide +kernel) (by simp) ?_; refine Th.AllReadyK.cons rfl (fun K hK => ?_) Th.AllReadyK.nil; refine step_of rfl ?_)
          go_step
          refine (Th.fnew wd (q + 1) (by have := HQR.out; have := hbd.size; omega)).mono ?_; rintro _ w5 ⟨rfl, hth, hb5⟩
          have HTH := Lib.hid hth.blk
          obtain ⟨b, hbe⟩ : ∃ b, b = wd.heap.size := ⟨_, rfl⟩
          rw [← hbe] at hth ⊢
          have HBE := Lib.hid (show wr.heap.size ≤ b from by have := hbd.size; omega)
          have hTB : TB w5 b := hth.blk
          have HTHB := Lib.hid hTB
          have hb5 := below_on hbd hb5
          refine hK _ _ (.inr ⟨⟨w5, hb5⟩, rfl⟩) ?_
          clear hK K hth hTB HTH hbe
          (refine Th.wpAnyK_ready (rs := [6]) (by decide +kernel) (by simp) ?_; refine Th.AllReadyK.cons rfl (fun K hK => ?_) Th.AllReadyK.nil; refine step_of rfl ?_)
          go_step
          refine hK _ _ (.inr ⟨⟨_, below_new hb5 _⟩, rfl⟩) ?_
          clear hK K
          (refine Th.wpAnyK_ready (rs := [7]) (by decide +kernel) (by simp) ?_; refine Th.AllReadyK.cons rfl (fun K hK => ?_) Th.AllReadyK.nil; refine step_of rfl ?_)
          obtain ⟨pa, pc, W2, hrun, ho, hg, hloc⟩ := Th.push1 uThs infoTh (by rfl) (HFV.out.below hb5) (.pointer (some ⟨b, 0, none⟩)) rfl (by omega) (by have := HQR.out; have := hb5.size; omega)
          refine wp_append_run (.tmp 43) (.tmp 45) 84 rfl rfl rfl rfl hrun ?_
          refine hK _ _ (.inl rfl) ?_
          clear hK K
          simp only [List.getElem_toArray, List.getElem_cons_succ, List.getElem_cons_zero, Act.put, List.setIfInBounds_toArray, List.set_cons_succ, List.set_cons_zero]
          (refine Th.wpAnyK_takeY (i := 8) (v := ?_) rfl (by decide +kernel) (by decide +kernel) (by decide +kernel) (by decide) (fun _ _ _ h => h) (Or.inl ⟨by rfl, ?_⟩) (.inl rfl) ?_; rotate_left; (intro w; go_simp); (try with_reducible rfl))
          simp only [List.getElem_toArray, List.getElem_cons_succ, List.getElem_cons_zero, Act.put, List.setIfInBounds_toArray, List.set_cons_succ, List.set_cons_zero]
          (refine Th.wpAnyK_takeY (i := 9) (v := ?_) rfl (by decide +kernel) (by decide +kernel) (by decide +kernel) (by decide) (fun _ _ _ h => h) (Or.inl ⟨by rfl, ?_⟩) (.inl rfl) ?_; rotate_left; (intro w; go_simp); (try with_reducible rfl))
          simp only [List.getElem_toArray, List.getElem_cons_succ, List.getElem_cons_zero, Act.put, List.setIfInBounds_toArray, List.set_cons_succ, List.set_cons_zero]
          have hmq : W2.heap[q]? = some (.cells (machC pl mb gq (.slice fva i fvc) 0 false) 86 (0, 0)) := (hg.block q (by have := HQR.out; have := hb5.size; omega) (fun e => by have := (HFV.out.blk e.symm).1; omega)).trans (Th.up hb5 HMB.out)
          have cq2 : W2.cell? ⟨q, 3, none⟩ = some (.slice fva i fvc) := Th.newcell hmq 3 _ rfl
          have cq3 : ∀ i, W2.frozen? ⟨q, i, none⟩ = false := fun i => frozen_of_row _ _ _ _ _ hmq
          (refine Th.wpAnyK_ready (rs := [10]) (by decide +kernel) (by simp) ?_; refine Th.AllReadyK.cons rfl (fun K hK => ?_) Th.AllReadyK.nil; refine step_of rfl ?_)
          go_step
          refine hK _ _ (.inl rfl) ?_
          clear hK K
          refine Th.wpAnyK_done (by decide +kernel) ?_ _
          generalize hW : World.setCell _ _ _ = W3
          have HMB3 := Lib.hid (show W3.heap[q]? = some (.cells (machC pl mb gq (.slice pa (i + 1) pc) 0 false) 86 (0, 0)) by rw [← hW]; exact heap_setCell_same _ q 3 _ _ _ hmq)
          have hoth : ∀ k, k ≠ q → W3.heap[k]? = W2.heap[k]? := fun k hk => by rw [← hW]; exact Below.heap_setCell _ _ _ _ hk
          have hsz : W3.heap.size = W2.heap.size := by rw [← hW]; simp [World.setCell]
          have hos : W3.os = W2.os ∧ W3.tape = W2.tape ∧ W3.output = W2.output := by rw [← hW]; exact ⟨rfl, rfl, rfl⟩
          have HFV3 := Lib.hid (show Th.OwnL 51 W3 (q + 1) (.slice pa (i + 1) pc) (i + 1) (Th.ptrs (fun j => if j = i then b else tq j) (i + 1)) by
            rw [ptrs_snoc]
            exact ho.of fun k hk => hoth k (by have := (ho.blk hk).1; omega))
          have hkeep : ∀ k (cur : Array Value), w5.heap[k]? = some (.cells cur 50 (0, 0)) → k ≠ q → W3.heap[k]? = some (.cells cur 50 (0, 0)) := fun k cur hk hkq => by
            rw [hoth k hkq, hg.block k (Th.blk_lt hk) (fun e => by
              obtain ⟨_, _, c2, hc⟩ := (HFV.out.below hb5).blk e.symm
              rw [hk] at hc
              simp only [Option.some.injEq, Obj.cells.injEq] at hc
              exact absurd hc.2.1 (by decide))]
            exact hk
          have HTB3 := Lib.hid (show ∀ j, j < i + 1 → q < (if j = i then b else tq j) ∧ TB W3 (if j = i then b else tq j) from fun j hj => by
            by_cases e : j = i
            · rw [if_pos e]; exact ⟨by have := HQR.out; have := HBE.out; omega, hkeep b _ HTHB.out (by have := HQR.out; have := HBE.out; omega)⟩
            · rw [if_neg e]
              have h1 := HTB.out j (by omega)
              exact ⟨h1.1, hkeep _ _ (h1.2.below hb5) (by omega)⟩)
          have HIN3 := Lib.hid (show ∀ j k, j < i + 1 → k < i + 1 → (if j = i then b else tq j) = (if k = i then b else tq k) → j = k from fun j k hj hk e => by
            by_cases e1 : j = i
            · by_cases e2 : k = i
              · omega
              · rw [if_pos e1, if_neg e2] at e
                have := Th.blk_lt (HTB.out k (by omega)).2; have := HBE.out; omega
            · by_cases e2 : k = i
              · rw [if_neg e1, if_pos e2] at e
                have := Th.blk_lt (HTB.out j (by omega)).2; have := HBE.out; omega
              · rw [if_neg e1, if_neg e2] at e
                exact HIN.out j k (by omega) (by omega) e)
          have HBQ3 := Lib.hid (show Below q W1 W3 from ⟨hos.1.trans (hg.os.trans (hb5.os.trans HBQ.out.os)), hos.2.1.trans (hg.tape.trans (hb5.tape.trans HBQ.out.tape)), hos.2.2.trans (hg.output.trans (hb5.output.trans HBQ.out.output)), by have := hg.size; have := hb5.size; have := HBQ.out.size; omega, fun k hk => (hoth k (by omega)).trans ((hg.block k (by have := HQR.out; have := hb5.size; omega) (fun e => by have := (HFV.out.blk e.symm).1; omega)).trans ((hb5.block k (by have := HQR.out; omega)).trans (HBQ.out.block k hk)))⟩)
          clear hW hmq cq2 cq3 hoth hsz hos hkeep ho hg hloc hrun hb5 hbd HMB HFV HTB HBQ HLF HIN
          go_wp2_with fail
          go_roundw
          case rel => exact ⟨i + 1, by omega, by go_num, _, _, HMB3, HFV3, HTB3, HBQ3, HIN3⟩
          case measure => simp [intOf]; omega
        · subst heq
          have hii : ¬ (i : Int) < i := by omega
          go_wp2_with fail
          (try go_ret2)
          rw [HQ.out]
          have e := HWE.out
          have hk : ∀ k o, W1.heap[k]? = some o → k < q → wr.heap[k]? = some o := fun k o h hk => (HBQ.out.block k hk).trans h
          refine ⟨q, pl, mb, mg, 3 + 8 * i + 7 * s, gq, gg, gm, fv, tq, rfl, ?_, ?_, HIN.out⟩
          · refine ⟨HMB.out, hk pl _ (by rw [e]; exact HPR.out) (by have := HO2.out; have := HO3.out; have := HO5.out; omega), ?_, ?_, HFV.out, HTB.out, HPL.out, HO2.out, HO3.out.1, HO3.out.2, HO5.out, HM.out⟩
            · have hm := HMR.out
              rw [← e] at hm
              exact hm.keep (by have := HBQ.out.size; exact this) (HBQ.out.block mb (by have := HO3.out; have := HO5.out; omega)) (HBQ.out.block mg (by have := HO3.out; have := HO5.out; omega))
            · have hgg := HG.out
              rw [← e] at hgg
              have h5 := HO5.out
              exact hgg.belowTo HBQ.out h5.1 h5.2.1 h5.2.2
          · have hb := HBR.out
            rw [← e] at hb
            exact ⟨HBQ.out.os.trans hb.os, HBQ.out.tape.trans hb.tape, HBQ.out.output.trans hb.output, Nat.le_trans hb.size HBQ.out.size, fun j hj => (HBQ.out.block j (by have := HPL.out; have := HO2.out; have := HO3.out; have := HO5.out; omega)).trans (hb.block j hj)⟩
theorem cnew {t s : Nat} {K : Int} (w : World) (h : mayC t s K = true) :
    Calls Try.prog 7 #[.agg #[.int .i64 t, .int .i64 s, .int .u64 K]] w fun e w' => ∃ q pl mb mg C gq gg gm fv tq, e = .returned (.tuple #[.pointer (some ⟨q, 0, none⟩), .int .i64 0]) ∧ MI w' w.heap.size q pl mb mg C gq gg gm fv tq t s K (partF t 3 s) 0 false (fun i => decide (i < 5)) (fun _ => 0) 0 0 false ∧ Below w.heap.size w w' :=
  (cnewI w h).mono fun _ _ ⟨q, pl, mb, mg, C, gq, gg, gm, fv, tq, h1, h2, h3, _⟩ => ⟨q, pl, mb, mg, C, gq, gg, gm, fv, tq, h1, h2, h3⟩
end Go.Proofs.Ytlahpnigabfenaa
