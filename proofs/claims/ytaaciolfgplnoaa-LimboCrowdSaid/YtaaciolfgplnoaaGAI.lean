/- GAI: several texts in one. -/
import Derived.Test.YtaaciolfgplnoaaGAH
import Derived.Test.YtaaciolfgplnoaaGAC
import Derived.Test.YtaaciolfgplnoaaGAF
import Derived.Laws.Tables
import Derived.Deep.MidRow
/- Layer 16: core.New. -/
namespace Go.Proofs.Ytaaciolfgplnoaa
open Go.RowKit WordM EdgeM
set_option linter.unusedVariables false
set_option linter.unusedSimpArgs false
set_option maxRecDepth 16000 in
set_option maxHeartbeats 4000000 in
theorem cnewI {t s : Nat} {K : Int} (w : World) (h : mayC t s K = true) :
    Calls Try.prog 6 #[.agg #[.int .i64 t, .int .i64 s, .int .u64 K]] w fun e w' => ∃ q pl mb mg C gq gg gm fv tq, e = .returned (.tuple #[.pointer (some ⟨q, 0, none⟩), .int .i64 0]) ∧ MI w' w.heap.size q pl mb mg C gq gg gm fv tq t s K (partF t 3 s) 0 false (fun i => decide (i < 5)) (fun _ => 0) 0 0 false ∧ Below w.heap.size w w' ∧ (∀ i j, i < t → j < t → tq i = tq j → i = j) := by
  refine Calls.veil fun Q HQ => ?_
  have hm := mayC_true h
  have t1 : 1 ≤ t := by omega
  have t2 : t ≤ 6 := by omega
  have s1 : 7 ≤ s := by omega
  have s2 : s ≤ 250 := by omega
  have HM := Lib.hid h
  clear h hm
  go_enter Try.func6, Try.ntmps6
  go_upto_region 1 with fail
  generalize hV : World.alloc _ _ = U
  obtain ⟨hh, hbv⟩ := Th.heapnewE hV
  obtain ⟨cb, hcb⟩ : ∃ cb, cb = w.heap.size := ⟨_, rfl⟩
  rw [← hcb] at hh ⊢
  have HC := Lib.hid hh; have HB := Lib.hid hbv; have HCB := Lib.hid hcb
  have o0 := Th.newcell hh 0 _ rfl; have o1 := Th.newcell hh 1 _ rfl; have o2 := Th.newcell hh 2 _ rfl
  clear hV hh hbv hcb
  go_wp2_with fail
  refine (pnew_yes _ _ _ _ HM.out).mono ?_; rintro _ w1 ⟨pl, rfl, hpl, hpc, hb1⟩
  have HPL := Lib.hid (show w.heap.size ≤ pl from by have := HB.out.size; omega)
  have HPC := Lib.hid hpc; have HB1 := Lib.hid (below_on HB.out hb1); have HC1 := Lib.hid (Th.up hb1 HC.out)
  clear hpl hpc hb1 o0 o1 o2 HC HB
  go_upto_region 4 with fail
  have o1 : ∀ y : Ext w1, y.w.cell? ⟨cb, 1, none⟩ = some (.int .i64 s) := Ext.cells (Th.newcell HC1.out 1 _ rfl)
  have P0 := Lib.hid (Ext.cells (Th.newcell HPC.out 0 _ rfl)); have P1 := Lib.hid (Ext.cells (Th.newcell HPC.out 1 _ rfl)); have P2 := Lib.hid (Ext.cells (Th.newcell HPC.out 2 _ rfl))
  (with_reducible refine wp_region_mix (fun w' => ∃ y : Ext w1, w' = y.w) ?_ ?_ ?_ ?_; kernel_rfl; kernel_rfl; exact ⟨⟨w1.drew, (Below.refl _ _).drew⟩, rfl⟩)
  obtain ⟨y0, hy0⟩ : ∃ y : Ext w1, y.w = w1.drew := ⟨⟨w1.drew, (Below.refl _ _).drew⟩, rfl⟩
  rw [← hy0]
  clear hy0
  repeat (first | ((with_reducible refine mix_plain (by kernel_rfl) ?_); (first | go_big_quiet_skip | (go_big_quiet_want; go_big_quiet_op; go_big_quiet_on)); (with_reducible refine mix_on ?_)) | ((with_reducible refine mix_skip (by kernel_rfl) ?_); go_big_quiet_skip; (with_reducible refine mix_on ?_)))
  ((with_reducible refine wpMix_chain (by kernel_rfl) (by kernel_rfl) (fun K HK => ?_)); go_step)
  refine (cfirst (P0.out y0) (P1.out y0) (P2.out y0) t1 t2 s1 s2).mono ?_; rintro _ w2 ⟨g, rfl, hg, hr, hb2⟩
  have HR := Lib.hid hr
  have hb2 := below_on y0.h hb2
  have HB2 := Lib.hid hb2
  refine HK.out _ _ ⟨⟨w2, hb2⟩, rfl⟩ ?_
  clear HK K hg hr
  repeat (first | ((with_reducible refine mix_plain (by kernel_rfl) ?_); (first | go_big_quiet_skip | (go_big_quiet_want; go_big_quiet_op; go_big_quiet_on)); (with_reducible refine mix_on ?_)) | ((with_reducible refine mix_skip (by kernel_rfl) ?_); go_big_quiet_skip; (with_reducible refine mix_on ?_)))
  ((with_reducible refine wpMix_chain (by kernel_rfl) (by kernel_rfl) (fun K HK => ?_)); go_step)
  refine (Mm.mof g 0 (3 + 8 * t + 7 * s) (3 + 8 * t + 7 * s) (partF t 3 s) w2 (by omega) (by omega) (Nat.le_refl _) (by omega) (fun i hi => by rw [Nat.zero_add]; exact HR.out.row i hi) (fun i hi => partF_bd t 3 s i (by omega))).mono ?_; rintro _ w3 ⟨mb, mg, rfl, hmb, hmg, hme, hb3⟩
  have hs3 := hb3.size
  have HO2 := Lib.hid (show pl < mb ∧ pl < mg from by have := Th.blk_lt (Th.up hb2 HPC.out); omega)
  have HME := Lib.hid hme
  have hb3 := below_on hb2 hb3
  refine HK.out _ _ ⟨⟨w3, hb3⟩, rfl⟩ ?_
  clear HK K hmb hmg hme hs3
  repeat (first | ((with_reducible refine mix_plain (by kernel_rfl) ?_); (first | go_big_quiet_skip | (go_big_quiet_want; go_big_quiet_op; go_big_quiet_on)); (with_reducible refine mix_on ?_)) | ((with_reducible refine mix_skip (by kernel_rfl) ?_); go_big_quiet_skip; (with_reducible refine mix_on ?_)))
  ((with_reducible refine wpMix_chain (by kernel_rfl) (by kernel_rfl) (fun K HK => ?_)); go_step)
  refine (Gd.gnew_yes s w3 (by omega) s2).mono ?_; rintro _ w4 ⟨gq, gg, gm, rfl, h1, h2, h3, hga, hb4⟩
  have HO3 := Lib.hid (show (mb < gq ∧ mb < gg ∧ mb < gm) ∧ (mg < gq ∧ mg < gg ∧ mg < gm) from by have := HME.out.bl; have := HME.out.gl; omega)
  have HGA := Lib.hid hga; have HME4 := Lib.hid (HME.out.below hb4)
  have hb4 := below_on hb3 hb4
  refine HK.out _ _ ⟨⟨w4, hb4⟩, rfl⟩ ?_
  clear HK K h1 h2 h3 hga hb3 HME
  repeat (first | ((with_reducible refine mix_plain (by kernel_rfl) ?_); (first | go_big_quiet_skip | (go_big_quiet_want; go_big_quiet_op; go_big_quiet_on)); (with_reducible refine mix_on ?_)) | ((with_reducible refine mix_skip (by kernel_rfl) ?_); go_big_quiet_skip; (with_reducible refine mix_on ?_)))
  ((with_reducible refine wpMix_chain (by kernel_rfl) (by kernel_rfl) (fun K HK => ?_)); go_step)
  refine HK.out _ _ ⟨⟨_, below_new hb4 _⟩, rfl⟩ ?_
  clear HK K
  repeat (first | ((with_reducible refine mix_plain (by kernel_rfl) ?_); (first | go_big_quiet_skip | (go_big_quiet_want; go_big_quiet_op; go_big_quiet_on)); (with_reducible refine mix_on ?_)) | ((with_reducible refine mix_skip (by kernel_rfl) ?_); go_big_quiet_skip; (with_reducible refine mix_on ?_)))
  refine wpMix_nil ?_
  generalize hW : World.alloc _ _ = W
  obtain ⟨hh, hbw⟩ := Th.heapnewE hW
  obtain ⟨q, hq⟩ : ∃ q, q = w4.heap.size := ⟨_, rfl⟩
  rw [← hq] at hh ⊢
  have HQB := Lib.hid (show W.heap[q]? = some (.cells (machC pl mb gq (.slice none 0 0) 0 false) 83 (0, 0)) from hh)
  have HO5 := Lib.hid (show gq < q ∧ gg < q ∧ gm < q from by have := HGA.out.lt; omega)
  have HGW := Lib.hid (HGA.out.below hbw); have HMW := Lib.hid (HME4.out.below hbw)
  have HBW1 := Lib.hid (below_on hb4 hbw)
  have HCW := Lib.hid (Th.up HBW1.out HC1.out); have HPW := Lib.hid (Th.up HBW1.out HPC.out)
  have HBW := Lib.hid (below_on HB1.out HBW1.out)
  clear hW hh hbw hq hb2 hb4 o1 P0 P1 P2 HGA HME4 HC1 HPC HB1 HB2 HR HBW1
  go_wp2_with fail
  go_loopw [7] (fun iv wr => ∃ k : Nat, k ≤ 5 ∧ iv = .int .i64 ((k : Int) + 1) ∧ Hid (Gd.GA wr gq gg gm s (fun i => decide (i < k)) (fun _ => 0) 0) ∧ Hid (Gd.K3 W wr gq gg gm))
    (fun iv _ => 7 - (intOf iv).toNat)
  case atStart => exact ⟨0, by omega, by go_num, Lib.hid (by have := HGW.out; simpa using this), Lib.hid (Gd.K3.of_below (Below.refl _ _) _ _ _)⟩
  case round =>
    obtain ⟨k, hk, rfl, HG, HK3⟩ := hrel
    rcases (by omega : k < 5 ∨ k = 5) with hlt | heq
    · have hii : (k : Int) + 1 ≤ 5 := by omega
      have c2 : wr.cell? ⟨q, 2, none⟩ = some (.pointer (some ⟨gq, 0, none⟩)) := Th.newcell ((HK3.out.block q (Th.blk_lt HQB.out) (by have := HO5.out; omega) (by have := HO5.out; omega) (by have := HO5.out; omega)).trans HQB.out) 2 _ rfl
      go_wp2_with fail
      refine (Gd.gtake HG.out ((k : Int) + 1) (by omega)).mono ?_; rintro _ w6 ⟨rfl, hga, hk3⟩
      rw [(take5 s k hlt s1).2, if_pos (take5 s k hlt s1).1] at hga
      have HG6 := Lib.hid hga; have HK6 := Lib.hid (HK3.out.trans hk3)
      clear hga hk3 c2 HG HK3
      go_wp2_with fail
      go_roundw
      case rel => exact ⟨k + 1, by omega, by go_num, HG6, HK6⟩
      case measure => simp [intOf]; omega
    · subst heq
      rw [show ((5 : Nat) : Int) + 1 = 6 from rfl]
      have HCR := Lib.hid ((HK3.out.block cb (Th.blk_lt HCW.out) (by have := HO3.out; have := HO2.out; have := HPL.out; have := HCB.out; omega) (by have := HO3.out; have := HO2.out; have := HPL.out; have := HCB.out; omega) (by have := HO3.out; have := HO2.out; have := HPL.out; have := HCB.out; omega)).trans HCW.out)
      have HPR := Lib.hid ((HK3.out.block pl (Th.blk_lt HPW.out) (by have := HO3.out; have := HO2.out; omega) (by have := HO3.out; have := HO2.out; omega) (by have := HO3.out; have := HO2.out; omega)).trans HPW.out)
      have HQR := Lib.hid ((HK3.out.block q (Th.blk_lt HQB.out) (by have := HO5.out; omega) (by have := HO5.out; omega) (by have := HO5.out; omega)).trans HQB.out)
      have HMR := Lib.hid (HMW.out.keep HK3.out.size (HK3.out.block mb HMW.out.bl (by have := HO3.out; omega) (by have := HO3.out; omega) (by have := HO3.out; omega)) (HK3.out.block mg HMW.out.gl (by have := HO3.out; omega) (by have := HO3.out; omega) (by have := HO3.out; omega)))
      have HBR := Lib.hid (show Below w.heap.size w wr from ⟨HK3.out.os.trans HBW.out.os, HK3.out.tape.trans HBW.out.tape, HK3.out.output.trans HBW.out.output, Nat.le_trans HBW.out.size HK3.out.size, fun j hj => (HK3.out.block j (Nat.lt_of_lt_of_le hj HBW.out.size) (by have := HO3.out; have := HO2.out; have := HPL.out; omega) (by have := HO3.out; have := HO2.out; have := HPL.out; omega) (by have := HO3.out; have := HO2.out; have := HPL.out; omega)).trans (HBW.out.block j hj)⟩)
      have HQL := Lib.hid (show q < wr.heap.size from Th.blk_lt HQR.out)
      clear HCW HPW HQB HMW HGW HK3 HBW
      have o0 : wr.cell? ⟨cb, 0, none⟩ = some (.int .i64 t) := Th.newcell HCR.out 0 _ rfl
      go_wp2_with fail
      clear o0
      obtain ⟨W1, hW1⟩ : ∃ W1, W1 = wr := ⟨_, rfl⟩
      have HWE := Lib.hid hW1
      go_loopw [37] (fun iv wz => ∃ i : Nat, i ≤ t ∧ iv = .int .i64 i ∧ ∃ (fv : Value) (tq : Nat → Nat), Hid (wz.heap[q]? = some (.cells (machC pl mb gq fv 0 false) 83 (0, 0))) ∧ Hid (Th.OwnL 36 wz (q + 1) fv i (Th.ptrs tq i)) ∧ Hid (∀ j, j < i → q < tq j ∧ TB wz (tq j)) ∧ Hid (Below q W1 wz) ∧ Hid (∀ j k, j < i → k < i → tq j = tq k → j = k))
        (fun iv _ => t - (intOf iv).toNat)
      case atStart => exact ⟨0, by omega, by go_num, _, fun _ => 0, HQR, Lib.hid (.nil _ _), Lib.hid (fun j hj => by omega), Lib.hid (by rw [hW1]; exact Below.refl _ _), Lib.hid (fun j k hj => by omega)⟩
      case round =>
        clear HQR
        obtain ⟨i, hi, rfl, fv, tq, HMB, HFV, HTB, HBQ, HIN⟩ := hrel
        rcases (by omega : i < t ∨ i = t) with hlt | heq
        · have hii : (i : Int) < t := by omega
          have c3 : wr.cell? ⟨q, 3, none⟩ = some fv := Th.newcell HMB.out 3 _ rfl
          obtain ⟨fva, fvc, rfl, _, _⟩ := HFV.out.slice
          have HLF := Lib.hid (show ∀ y : Ext wr, (Instr.loadAt 81 (.pointer (some ⟨q, 3, none⟩))).run Try.prog y.w = .ok (.slice fva i fvc) y.w from fun y => by have hc := (Ext.cells c3) y; clear c3; go_simp)
          have HQR := Lib.hid (show q < wr.heap.size from Th.blk_lt HMB.out)
          clear c3
          go_upto_region 11 with fail
          refine Th.wp_region_K (fun w' => ∃ y : Ext wr, w' = y.w) 7 (by decide +kernel) ?_
          generalize hwd : World.drew wr = wd
          have hbd : Below wr.heap.size wr wd := by rw [← hwd]; exact (Below.refl _ _).drew
          clear hwd
          (refine Th.wpAnyK_takeY (i := 0) (v := ?_) rfl (by decide +kernel) (by decide +kernel) (by decide +kernel) (by decide) (fun _ _ _ h => h) (Or.inl ⟨by rfl, ?_⟩) (.inr ⟨⟨wd, hbd⟩, rfl⟩) ?_; rotate_left; (intro w; go_simp); (try with_reducible rfl))
          simp only [List.getElem_toArray, List.getElem_cons_succ, List.getElem_cons_zero, Act.put, List.setIfInBounds_toArray, List.set_cons_succ, List.set_cons_zero]
          (refine Th.wpAnyK_takeY (i := 1) (v := ?_) rfl (by decide +kernel) (by decide +kernel) (by decide +kernel) (by decide) (fun _ _ _ h => h) (Or.inl ⟨by rfl, ?_⟩) (.inr ⟨⟨wd, hbd⟩, rfl⟩) ?_; rotate_left; (intro w; go_simp); (try with_reducible rfl))
          simp only [List.getElem_toArray, List.getElem_cons_succ, List.getElem_cons_zero, Act.put, List.setIfInBounds_toArray, List.set_cons_succ, List.set_cons_zero]
          (refine Th.wpAnyK_takeY (i := 2) (v := ?_) rfl (by decide +kernel) (by decide +kernel) (by decide +kernel) (by decide) (fun _ _ _ h => h) (Or.inl ⟨by rfl, ?_⟩) (.inr ⟨⟨wd, hbd⟩, rfl⟩) ?_; rotate_left; (intro w; go_simp); (try with_reducible rfl))
          simp only [List.getElem_toArray, List.getElem_cons_succ, List.getElem_cons_zero, Act.put, List.setIfInBounds_toArray, List.set_cons_succ, List.set_cons_zero]
          (refine Th.wpAnyK_takeY (i := 3) (v := ?_) rfl (by decide +kernel) (by decide +kernel) (by decide +kernel) (by decide) (fun _ _ _ h => h) (Or.inl ⟨by rfl, ?_⟩) (.inr ⟨⟨wd, hbd⟩, rfl⟩) ?_; rotate_left; (intro w; go_simp); (try with_reducible rfl))
          simp only [List.getElem_toArray, List.getElem_cons_succ, List.getElem_cons_zero, Act.put, List.setIfInBounds_toArray, List.set_cons_succ, List.set_cons_zero]
          (refine Th.wpAnyK_take (i := 4) (v := .slice fva i fvc) [7, 8, 9, 10] rfl (by decide +kernel) (by decide +kernel) (by decide +kernel) (by decide +kernel) (fun _ _ _ h => h) (Th.yields_loadK rfl 81 (.tmp 42) rfl rfl (by rintro _ ⟨y, rfl⟩; exact HLF.out y)) ⟨⟨wd, hbd⟩, rfl⟩ ?_)
          simp only [List.getElem_toArray, List.getElem_cons_succ, List.getElem_cons_zero, Act.put, List.setIfInBounds_toArray, List.set_cons_succ, List.set_cons_zero]
          (refine Th.wpAnyK_ready (rs := [5]) (by decide +kernel) (by simp) ?_; refine Th.AllReadyK.cons rfl (fun K hK => ?_) Th.AllReadyK.nil; refine step_of rfl ?_)
          go_step
          refine (Th.fnew wd (q + 1) (by have := HQR.out; have := hbd.size; omega)).mono ?_; rintro _ w5 ⟨rfl, hth, hb5⟩
          have HTH := Lib.hid hth.blk
          obtain ⟨b, hbe⟩ : ∃ b, b = wd.heap.size := ⟨_, rfl⟩
          rw [← hbe] at hth ⊢
          have HBE := Lib.hid (show wr.heap.size ≤ b from by have := hbd.size; omega)
          have hTB : TB w5 b := hth.blk
          have HTHB := Lib.hid hTB
          have hb5 := below_on hbd hb5
          refine hK _ _ (.inr ⟨⟨w5, hb5⟩, rfl⟩) ?_
          clear hK K hth hTB HTH hbe
          (refine Th.wpAnyK_ready (rs := [6]) (by decide +kernel) (by simp) ?_; refine Th.AllReadyK.cons rfl (fun K hK => ?_) Th.AllReadyK.nil; refine step_of rfl ?_)
          go_step
          refine hK _ _ (.inr ⟨⟨_, below_new hb5 _⟩, rfl⟩) ?_
          clear hK K
          (refine Th.wpAnyK_ready (rs := [7]) (by decide +kernel) (by simp) ?_; refine Th.AllReadyK.cons rfl (fun K hK => ?_) Th.AllReadyK.nil; refine step_of rfl ?_)
          obtain ⟨pa, pc, W2, hrun, ho, hg, hloc⟩ := Th.push1 uThs infoTh (by rfl) (HFV.out.below hb5) (.pointer (some ⟨b, 0, none⟩)) rfl (by omega) (by have := HQR.out; have := hb5.size; omega)
          refine wp_append_run (.tmp 43) (.tmp 45) 81 rfl rfl rfl rfl hrun ?_
          refine hK _ _ (.inl rfl) ?_
          clear hK K
          simp only [List.getElem_toArray, List.getElem_cons_succ, List.getElem_cons_zero, Act.put, List.setIfInBounds_toArray, List.set_cons_succ, List.set_cons_zero]
          (refine Th.wpAnyK_takeY (i := 8) (v := ?_) rfl (by decide +kernel) (by decide +kernel) (by decide +kernel) (by decide) (fun _ _ _ h => h) (Or.inl ⟨by rfl, ?_⟩) (.inl rfl) ?_; rotate_left; (intro w; go_simp); (try with_reducible rfl))
          simp only [List.getElem_toArray, List.getElem_cons_succ, List.getElem_cons_zero, Act.put, List.setIfInBounds_toArray, List.set_cons_succ, List.set_cons_zero]
          (refine Th.wpAnyK_takeY (i := 9) (v := ?_) rfl (by decide +kernel) (by decide +kernel) (by decide +kernel) (by decide) (fun _ _ _ h => h) (Or.inl ⟨by rfl, ?_⟩) (.inl rfl) ?_; rotate_left; (intro w; go_simp); (try with_reducible rfl))
          simp only [List.getElem_toArray, List.getElem_cons_succ, List.getElem_cons_zero, Act.put, List.setIfInBounds_toArray, List.set_cons_succ, List.set_cons_zero]
          have hmq : W2.heap[q]? = some (.cells (machC pl mb gq (.slice fva i fvc) 0 false) 83 (0, 0)) := (hg.block q (by have := HQR.out; have := hb5.size; omega) (fun e => by have := (HFV.out.blk e.symm).1; omega)).trans (Th.up hb5 HMB.out)
          have cq2 : W2.cell? ⟨q, 3, none⟩ = some (.slice fva i fvc) := Th.newcell hmq 3 _ rfl
          have cq3 : ∀ i, W2.frozen? ⟨q, i, none⟩ = false := fun i => frozen_of_row _ _ _ _ _ hmq
          (refine Th.wpAnyK_ready (rs := [10]) (by decide +kernel) (by simp) ?_; refine Th.AllReadyK.cons rfl (fun K hK => ?_) Th.AllReadyK.nil; refine step_of rfl ?_)
          go_step
          refine hK _ _ (.inl rfl) ?_
          clear hK K
          refine Th.wpAnyK_done (by decide +kernel) ?_ _
          generalize hW : World.setCell _ _ _ = W3
          have HMB3 := Lib.hid (show W3.heap[q]? = some (.cells (machC pl mb gq (.slice pa (i + 1) pc) 0 false) 83 (0, 0)) by rw [← hW]; exact heap_setCell_same _ q 3 _ _ _ hmq)
          have hoth : ∀ k, k ≠ q → W3.heap[k]? = W2.heap[k]? := fun k hk => by rw [← hW]; exact Below.heap_setCell _ _ _ _ hk
          have hsz : W3.heap.size = W2.heap.size := by rw [← hW]; simp [World.setCell]
          have hos : W3.os = W2.os ∧ W3.tape = W2.tape ∧ W3.output = W2.output := by rw [← hW]; exact ⟨rfl, rfl, rfl⟩
          have HFV3 := Lib.hid (show Th.OwnL 36 W3 (q + 1) (.slice pa (i + 1) pc) (i + 1) (Th.ptrs (fun j => if j = i then b else tq j) (i + 1)) by
            rw [ptrs_snoc]
            exact ho.of fun k hk => hoth k (by have := (ho.blk hk).1; omega))
          have hkeep : ∀ k (cur : Array Value), w5.heap[k]? = some (.cells cur 59 (0, 0)) → k ≠ q → W3.heap[k]? = some (.cells cur 59 (0, 0)) := fun k cur hk hkq => by
            rw [hoth k hkq, hg.block k (Th.blk_lt hk) (fun e => by
              obtain ⟨_, _, c2, hc⟩ := (HFV.out.below hb5).blk e.symm
              rw [hk] at hc
              simp only [Option.some.injEq, Obj.cells.injEq] at hc
              exact absurd hc.2.1 (by decide))]
            exact hk
          have HTB3 := Lib.hid (show ∀ j, j < i + 1 → q < (if j = i then b else tq j) ∧ TB W3 (if j = i then b else tq j) from fun j hj => by
            by_cases e : j = i
            · rw [if_pos e]; exact ⟨by have := HQR.out; have := HBE.out; omega, hkeep b _ HTHB.out (by have := HQR.out; have := HBE.out; omega)⟩
            · rw [if_neg e]
              have h1 := HTB.out j (by omega)
              exact ⟨h1.1, hkeep _ _ (h1.2.below hb5) (by omega)⟩)
          have HIN3 := Lib.hid (show ∀ j k, j < i + 1 → k < i + 1 → (if j = i then b else tq j) = (if k = i then b else tq k) → j = k from fun j k hj hk e => by
            by_cases e1 : j = i
            · by_cases e2 : k = i
              · omega
              · rw [if_pos e1, if_neg e2] at e
                have := Th.blk_lt (HTB.out k (by omega)).2; have := HBE.out; omega
            · by_cases e2 : k = i
              · rw [if_neg e1, if_pos e2] at e
                have := Th.blk_lt (HTB.out j (by omega)).2; have := HBE.out; omega
              · rw [if_neg e1, if_neg e2] at e
                exact HIN.out j k (by omega) (by omega) e)
          have HBQ3 := Lib.hid (show Below q W1 W3 from ⟨hos.1.trans (hg.os.trans (hb5.os.trans HBQ.out.os)), hos.2.1.trans (hg.tape.trans (hb5.tape.trans HBQ.out.tape)), hos.2.2.trans (hg.output.trans (hb5.output.trans HBQ.out.output)), by have := hg.size; have := hb5.size; have := HBQ.out.size; omega, fun k hk => (hoth k (by omega)).trans ((hg.block k (by have := HQR.out; have := hb5.size; omega) (fun e => by have := (HFV.out.blk e.symm).1; omega)).trans ((hb5.block k (by have := HQR.out; omega)).trans (HBQ.out.block k hk)))⟩)
          clear hW hmq cq2 cq3 hoth hsz hos hkeep ho hg hloc hrun hb5 hbd HMB HFV HTB HBQ HLF HIN
          go_wp2_with fail
          go_roundw
          case rel => exact ⟨i + 1, by omega, by go_num, _, _, HMB3, HFV3, HTB3, HBQ3, HIN3⟩
          case measure => simp [intOf]; omega
        · subst heq
          have hii : ¬ (i : Int) < i := by omega
          go_wp2_with fail
          (try go_ret2)
          rw [HQ.out]
          have e := HWE.out
          have hk : ∀ k o, W1.heap[k]? = some o → k < q → wr.heap[k]? = some o := fun k o h hk => (HBQ.out.block k hk).trans h
          refine ⟨q, pl, mb, mg, 3 + 8 * i + 7 * s, gq, gg, gm, fv, tq, rfl, ?_, ?_, HIN.out⟩
          · refine ⟨HMB.out, hk pl _ (by rw [e]; exact HPR.out) (by have := HO2.out; have := HO3.out; have := HO5.out; omega), ?_, ?_, HFV.out, HTB.out, HPL.out, HO2.out, HO3.out.1, HO3.out.2, HO5.out, HM.out⟩
            · have hm := HMR.out
              rw [← e] at hm
              exact hm.keep (by have := HBQ.out.size; exact this) (HBQ.out.block mb (by have := HO3.out; have := HO5.out; omega)) (HBQ.out.block mg (by have := HO3.out; have := HO5.out; omega))
            · have hgg := HG.out
              rw [← e] at hgg
              have h5 := HO5.out
              exact hgg.belowTo HBQ.out h5.1 h5.2.1 h5.2.2
          · have hb := HBR.out
            rw [← e] at hb
            exact ⟨HBQ.out.os.trans hb.os, HBQ.out.tape.trans hb.tape, HBQ.out.output.trans hb.output, Nat.le_trans hb.size HBQ.out.size, fun j hj => (HBQ.out.block j (by have := HPL.out; have := HO2.out; have := HO3.out; have := HO5.out; omega)).trans (hb.block j hj)⟩
end Go.Proofs.Ytaaciolfgplnoaa

/- Layer 15: a thread's methods: Pop, Fresh, Row, Gather, Back. -/
namespace Go.Proofs.Ytaaciolfgplnoaa.Th
open Go.RowKit
set_option linter.unusedVariables false
set_option linter.unusedSimpArgs false
theorem ptrs_take {n m : Nat} {f : Nat → Nat} (h : m ≤ n) : (ptrs f n).take m = ptrs f m := by
  unfold ptrs; rw [← List.map_take, List.take_range, Nat.min_eq_left h]
theorem thF_fv (T T' : Td) (fv rv sv fv' : Value) (h1 : T'.ret = T.ret) (h2 : T'.ss = T.ss) (j : Nat) (hj : j < 27) : upF (thF T fv rv sv) 24 fv' j = thF T' fv' rv sv j := by
  unfold upF thF
  rw [h1, h2]
  by_cases e3 : j = 24
  · subst e3; simp
  · rw [if_neg e3]
    by_cases e4 : j < 12
    · rw [if_pos e4, if_pos e4]
    · rw [if_neg e4, if_neg e4]
      by_cases e5 : j < 24
      · rw [if_pos e5, if_pos e5]
      · rw [if_neg e5, if_neg e5, if_neg e3, if_neg e3]
theorem thF_ret (T T' : Td) (fv rv sv : Value) (L : Nat → Int) (h1 : T'.ret = L) (h2 : T'.ss = T.ss) (j : Nat) (hj : j < 27) : putF (thF T fv rv sv) 0 (ucells 12 L) j = thF T' fv rv sv j := by
  unfold putF thF
  rw [h1, h2, if_pos (Nat.zero_le _), Nat.sub_zero]
  by_cases e4 : j < 12
  · rw [ucells_get e4, if_pos e4, if_pos e4]; rfl
  · rw [List.getElem?_eq_none (by rw [ucells_len]; omega), if_neg e4, if_neg e4]; rfl
def backT (T : Td) (n : Nat) (L : Nat → Int) : Td := { T with ret := fun i => if i < n then L i else 0, nf := T.nf - 1 }
theorem u12 : ∃ d, Try.prog.underlying 53 = some d ∧ d.isRow = true := ⟨.array 12 22, by kernel_rfl, rfl⟩
theorem info12 : (Try.prog.info? 53).map (·.size) = some 12 := by kernel_rfl
theorem put0_copied (n : Nat) (L : Nat → Int) (j : Nat) (hj : j < 12) : putF (fun _ => .int .u64 0) 0 (ucells (min n 12) L) j = .int .u64 (if j < n then L j else 0) := by
  unfold putF
  rw [if_pos (Nat.zero_le _), Nat.sub_zero]
  by_cases h : j < n
  · rw [ucells_get (by omega), if_pos h]; rfl
  · rw [List.getElem?_eq_none (by rw [ucells_len]; omega), if_neg h]; rfl
set_option maxRecDepth 8000 in
set_option maxHeartbeats 1000000 in
theorem fback {w : World} {B q : Nat} {T : Td} {p : Nat → Nat} {fv rv sv v : Value} (h : ThA w B q T p fv rv sv) {n : Nat} {L : Nat → Int} (hu : UR w v n L) (hf : T.nf ≤ 1000000) :
    Calls Try.prog 62 #[.pointer (some ⟨q, 0, none⟩), v] w fun e w' => e = .returned (.tuple #[]) ∧ (∃ fv', ThA w' B q (backT T n L) p fv' rv sv ∧ (∀ j, fv'.ownBlock = some j → fv.ownBlock = some j)) ∧ KQ w w' q fv sv := by
  refine Calls.veil fun Q HQ => ?_
  have HH := Lib.hid h; have HU := Lib.hid hu
  obtain ⟨a, c, rfl, _, _⟩ := hu.slice
  obtain ⟨d, hdu, hdr⟩ := u12
  have HDU := Lib.hid hdu; have HDR := Lib.hid hdr
  clear h hu hdu hdr
  go_enter Try.func62, Try.ntmps62
  go_upto_region 2 with fail
  generalize hV : World.alloc _ _ = V
  obtain ⟨hh, hbv⟩ := heapnewE hV
  have hs : V.heap.size = w.heap.size + 1 := by rw [← hV]; simp
  have hb : Blk 53 V w.heap.size 12 (fun _ => .int .u64 0) := hh
  obtain ⟨b, hbe⟩ : ∃ b, b = w.heap.size := ⟨_, rfl⟩
  have HBE := Lib.hid hbe
  rw [← hbe] at hb hs ⊢
  have HB := Lib.hid hb
  have HBV := Lib.hid hbv
  obtain ⟨k, hcp⟩ := run_copyU (HU.out.below hbv) b 0 12 12 (hb.there 0 12 (by omega))
  clear hV hh hbe hb hbv hs
  go_upto_region 3 with fail
  generalize hW : World.setCells _ _ _ _ = W
  have hbw : Blk 53 W b 12 (fun i => .int .u64 (if i < n then L i else 0)) := by rw [← hW]; exact (Blk.setCells _ 0 V _ HB.out).congr fun j hj => put0_copied n L j hj
  have hkw : Below w.heap.size w W := by
    rw [← hW]
    have k := KS.setCells V b 0 (ucells (min n 12) L)
    exact ⟨k.os.trans HBV.out.os, k.tape.trans HBV.out.tape, k.output.trans HBV.out.output, Nat.le_trans HBV.out.size k.size, fun j hj => (k.block j (by have := HBV.out.size; omega) (by have := HBE.out; omega)).trans (HBV.out.block j hj)⟩
  have hT := HH.out.below hkw
  have HKW := Lib.hid hkw
  obtain ⟨R, hR⟩ : ∃ R : Nat → Int, R = fun i => if i < n then L i else 0 := ⟨_, rfl⟩
  have HRR := Lib.hid hR
  have hrg : W.rangeAt b 0 (ucells 12 R) := by
    have := hbw.range 0 12 (by omega)
    rw [hR]; simpa [ucells] using this
  have HRG := Lib.hid hrg
  have HTH := Lib.hid (hT.blk.there 0 12 (by omega))
  have hfin := hT.put (T' := { T with ret := R }) (KS.setCells W q 0 (ucells 12 R)) ((Blk.setCells (ucells 12 R) 0 W _ hT.blk).congr fun j hj => thF_ret T { T with ret := R } _ _ _ R rfl rfl j hj) hT.fo (fun i hi => ⟨hi, rfl⟩) hT.rw hT.so hT.s1
  have HFIN := Lib.hid hfin
  clear hW hbw hkw hT hfin hrg hcp hR HB
  go_upto_region 4 with (first | (refine wpList_load_mid rfl 53 (.tmp 4) rfl b 0 rfl (ucells 12 R) d HRG.out HDU.out HDR.out (by rw [ucells_len]; exact info12) ?_) | (refine wpList_store_mid rfl 53 (.tmp 14) (.tmp 12) rfl q 0 (ucells 12 R).toArray rfl rfl (by rw [List.size_toArray, ucells_len]; exact HTH.out) (by rw [List.size_toArray, ucells_len]; exact info12) (all_oneCell_toArray ucells_one) ?_))
  generalize World.setCells _ _ _ _ = W2 at HFIN ⊢
  have cf := HFIN.out.1.cf
  have cfr : ∀ i, W2.frozen? ⟨q, i, none⟩ = false := HFIN.out.1.blk.fr
  have fo := HFIN.out.1.fo
  simp only at fo
  rcases (by omega : T.nf = 0 ∨ 0 < T.nf) with h0 | h0
  · have HBT := Lib.hid (show ({ T with ret := R } : Td) = backT T n L by unfold backT; rw [HRR.out, show T.nf - 1 = T.nf by omega])
    rw [h0] at fo
    obtain ⟨a3, c3, hfe, _, _⟩ := fo.slice
    have HFE := Lib.hid hfe
    rw [hfe] at cf
    clear fo h0 hfe
    go_wp2_with fail
    refine bodyPost_end (v := .tuple #[]) (by simp [results, Try.results62, go_sem]) rfl ?_
    rw [HQ.out]
    have H1 := HFIN.out.1
    rw [HBT.out] at H1
    exact ⟨rfl, ⟨_, H1, fun j e => e⟩, (KQ.of_below HKW.out).trans HFIN.out.2 (fun j e => .inl e) (fun j e => .inl e)⟩
  · obtain ⟨m, hm⟩ : ∃ m, T.nf = m + 1 := ⟨T.nf - 1, by omega⟩
    have h1 := HFIN.out.1
    rw [hm] at fo
    rcases fo.parts with ⟨_, h0⟩ | ⟨g, c3, hfe, h3, h4, _⟩
    · omega
    rw [hfe] at fo cf
    have hfo := fo.take (m := m) (by omega) (by omega)
    rw [ptrs_take (by omega)] at hfo
    have hfin2 := h1.put (T' := backT T n L) (fv' := .slice (some ⟨g, 0, none⟩) m c3) (rv' := rv) (sv' := sv) (KS.set W2 q 24 _) ((h1.blk.set 24 _).congr fun j hj => thF_fv { T with ret := R } (backT T n L) _ _ _ _ (by unfold backT; rw [HRR.out]) rfl j hj) (by unfold backT; rw [hm]; exact hfo) (fun i hi => ⟨by unfold backT at hi; simp only at hi ⊢; omega, rfl⟩) h1.rw h1.so h1.s1
    have HFIN2 := Lib.hid hfin2
    have HFE := Lib.hid hfe
    have hpos : (0 : Int) < (m : Int) + 1 := by omega
    have HM := Lib.hid hm
    clear fo hfin2 h1 hfo hm h0 hfe
    go_wp2_with fail
    refine bodyPost_end (v := .tuple #[]) (by simp [results, Try.results62, go_sem]) rfl ?_
    rw [HQ.out]
    exact ⟨rfl, ⟨_, HFIN2.out.1, fun j e => by rw [HFE.out]; exact e⟩, ((KQ.of_below HKW.out).trans HFIN.out.2 (fun j e => .inl e) (fun j e => .inl e)).trans HFIN2.out.2 (fun j e => .inl e) (fun j e => .inl e)⟩
end Go.Proofs.Ytaaciolfgplnoaa.Th

/- Layer 16: a machine whose threads may be within something: the machine by itself, and its threads. -/
namespace Go.Proofs.Ytaaciolfgplnoaa
open Go.RowKit WordM EdgeM
set_option linter.unusedVariables false
set_option linter.unusedSimpArgs false
/-- A machine, whatever its threads are within. -/
structure MC (w : World) (B q pl mb mg C gq gg gm : Nat) (fv : Value) (tq : Nat → Nat) (t s : Nat) (K : Int) (f : Nat → Int) (acc : Int) (flt : Bool) (H : Nat → Bool) (G : Nat → Int) (sl steps : Int) (odd : Bool) : Prop where
  blk : w.heap[q]? = some (.cells (machC pl mb gq fv steps odd) 83 (0, 0))
  pln : w.heap[pl]? = some (.cells #[.int .i64 t, .int .i64 s, .int .u64 K] 105 (0, 0))
  mem : Mm.MemAt w mb mg (3 + 8 * t + 7 * s) C f acc flt
  grd : Gd.GA w gq gg gm s H G sl
  ths : Th.OwnL 36 w (q + 1) fv t (Th.ptrs tq t)
  tlo : ∀ i, i < t → q < tq i
  o1 : B ≤ pl
  o2 : pl < mb ∧ pl < mg
  o3 : mb < gq ∧ mb < gg ∧ mb < gm
  o4 : mg < gq ∧ mg < gg ∧ mg < gm
  o5 : gq < q ∧ gg < q ∧ gm < q
  may : mayC t s K = true
theorem MI.mc {w : World} {B q pl mb mg C gq gg gm : Nat} {fv : Value} {tq : Nat → Nat} {t s : Nat} {K : Int} {f : Nat → Int} {acc : Int} {flt : Bool} {H : Nat → Bool} {G : Nat → Int} {sl steps : Int} {odd : Bool} (h : MI w B q pl mb mg C gq gg gm fv tq t s K f acc flt H G sl steps odd) : MC w B q pl mb mg C gq gg gm fv tq t s K f acc flt H G sl steps odd :=
  ⟨h.blk, h.pln, h.mem, h.grd, h.ths, fun i hi => (h.thr i hi).1, h.o1, h.o2, h.o3, h.o4, h.o5, h.may⟩
section
variable {w : World} {B q pl mb mg C gq gg gm : Nat} {fv : Value} {tq : Nat → Nat} {t s : Nat} {K : Int} {f : Nat → Int} {acc : Int} {flt : Bool} {H : Nat → Bool} {G : Nat → Int} {sl steps : Int} {odd : Bool}
theorem MC.bd (h : MC w B q pl mb mg C gq gg gm fv tq t s K f acc flt H G sl steps odd) : (1 ≤ t ∧ t ≤ 6) ∧ (7 ≤ s ∧ s ≤ 250) := by
  have := mayC_true h.may
  omega
theorem MC.below {w' : World} (h : MC w B q pl mb mg C gq gg gm fv tq t s K f acc flt H G sl steps odd) (k : Below w.heap.size w w') : MC w' B q pl mb mg C gq gg gm fv tq t s K f acc flt H G sl steps odd :=
  ⟨Th.up k h.blk, Th.up k h.pln, h.mem.below k, h.grd.below k, h.ths.below k, h.tlo, h.o1, h.o2, h.o3, h.o4, h.o5, h.may⟩
theorem MC.c1 (h : MC w B q pl mb mg C gq gg gm fv tq t s K f acc flt H G sl steps odd) : w.cell? ⟨q, 1, none⟩ = some (.pointer (some ⟨mb, 0, none⟩)) := Th.newcell h.blk 1 _ rfl
theorem MC.c2 (h : MC w B q pl mb mg C gq gg gm fv tq t s K f acc flt H G sl steps odd) : w.cell? ⟨q, 2, none⟩ = some (.pointer (some ⟨gq, 0, none⟩)) := Th.newcell h.blk 2 _ rfl
theorem MC.c3 (h : MC w B q pl mb mg C gq gg gm fv tq t s K f acc flt H G sl steps odd) : w.cell? ⟨q, 3, none⟩ = some fv := Th.newcell h.blk 3 _ rfl
theorem MC.c4 (h : MC w B q pl mb mg C gq gg gm fv tq t s K f acc flt H G sl steps odd) : w.cell? ⟨q, 4, none⟩ = some (.int .i64 steps) := Th.newcell h.blk 4 _ rfl
theorem MC.c5 (h : MC w B q pl mb mg C gq gg gm fv tq t s K f acc flt H G sl steps odd) : w.cell? ⟨q, 5, none⟩ = some (.bool odd) := Th.newcell h.blk 5 _ rfl
/-- Where the blocks of its own that are not changed are as they were, it is. -/
theorem MC.keep {w' : World} {f' : Nat → Int} {acc' : Int} {flt' : Bool} {steps' : Int} {odd' : Bool} (h : MC w B q pl mb mg C gq gg gm fv tq t s K f acc flt H G sl steps odd) (hq : w'.heap[q]? = some (.cells (machC pl mb gq fv steps' odd') 83 (0, 0)))
    (hm : Mm.MemAt w' mb mg (3 + 8 * t + 7 * s) C f' acc' flt') (k : ∀ j, j < w.heap.size → j ≠ q → j ≠ mb → j ≠ mg → (j < q ∨ fv.ownBlock = some j) → w'.heap[j]? = w.heap[j]?) : MC w' B q pl mb mg C gq gg gm fv tq t s K f' acc' flt' H G sl steps' odd' := by
  have o2 := h.o2; have o3 := h.o3; have o4 := h.o4; have o5 := h.o5
  have hl := Th.blk_lt h.blk
  have kl : ∀ j, j < q → j ≠ mb → j ≠ mg → w'.heap[j]? = w.heap[j]? := fun j hj h1 h2 => k j (by omega) (by omega) h1 h2 (.inl hj)
  obtain ⟨D, ⟨es, clock, he, hr⟩, hD, hz⟩ := h.grd.held
  exact ⟨hq, (kl pl (by omega) (by omega) (by omega)).trans h.pln, hm,
    ⟨h.grd.obj.of (kl gq (by omega) (by omega) (by omega)), h.grd.gens.of (kl gg (by omega) (by omega) (by omega)), ⟨D, ⟨es, clock, (kl gm (by omega) (by omega) (by omega)).trans he, hr⟩, hD, hz⟩, h.grd.g1, h.grd.g2, h.grd.g3, h.grd.n0, h.grd.n1, h.grd.gb, h.grd.sb⟩,
    h.ths.of fun b hb => k b (h.ths.blk hb).2.1 (by have := (h.ths.blk hb).1; omega) (by have := (h.ths.blk hb).1; omega) (by have := (h.ths.blk hb).1; omega) (.inr hb),
    h.tlo, h.o1, h.o2, h.o3, h.o4, h.o5, h.may⟩
theorem MC.qlt (h : MC w B q pl mb mg C gq gg gm fv tq t s K f acc flt H G sl steps odd) : mb < q ∧ mg < q ∧ mb < w.heap.size ∧ mg < w.heap.size ∧ q < w.heap.size := by
  have o3 := h.o3; have o4 := h.o4; have o5 := h.o5
  have hl := Th.blk_lt h.blk
  omega
theorem MC.only {w' : World} {f' : Nat → Int} {acc' : Int} {flt' : Bool} (h : MC w B q pl mb mg C gq gg gm fv tq t s K f acc flt H G sl steps odd) (k : Mm.Only mb mg w w') (hm : Mm.MemAt w' mb mg (3 + 8 * t + 7 * s) C f' acc' flt') : MC w' B q pl mb mg C gq gg gm fv tq t s K f' acc' flt' H G sl steps odd := by
  have hl := h.qlt
  exact h.keep ((k.block q (by omega) (by omega) (by omega)).trans h.blk) hm fun j hj _ h1 h2 _ => k.block j hj h1 h2
theorem MC.setq {w' : World} {steps' : Int} {odd' : Bool} (h : MC w B q pl mb mg C gq gg gm fv tq t s K f acc flt H G sl steps odd) (hq : w'.heap[q]? = some (.cells (machC pl mb gq fv steps' odd') 83 (0, 0))) (hs : w.heap.size ≤ w'.heap.size) (k : ∀ j, j ≠ q → w'.heap[j]? = w.heap[j]?) : MC w' B q pl mb mg C gq gg gm fv tq t s K f acc flt H G sl steps' odd' := by
  have hl := h.qlt
  exact h.keep hq (h.mem.keep hs (k mb (by omega)) (k mg (by omega))) fun j _ h1 _ _ _ => k j h1
end
/-! ### A thread, by how many frames it has -/
structure TH (w : World) (B b d i : Nat) (fv : Value) : Prop where
  ex : ∃ (T : Th.Td) (p : Nat → Nat), Th.ThA w B b T p fv (.slice none 0 0) (.slice none 0 0) ∧ T.nf = d ∧ T.row = [] ∧ T.ns = 0 ∧ (0 < d → (T.fs 0).fn = i)
theorem TH.lt {w : World} {B b d i : Nat} {fv : Value} (h : TH w B b d i fv) : b < w.heap.size := by
  obtain ⟨T, p, h1, _⟩ := h.ex; exact h1.lt
theorem TH.own {w : World} {B b d i : Nat} {fv : Value} (h : TH w B b d i fv) {j : Nat} (hj : fv.ownBlock = some j) : B ≤ j ∧ j < w.heap.size ∧ ∃ cur, w.heap[j]? = some (.cells cur 49 (0, 0)) := by
  obtain ⟨T, p, h1, _⟩ := h.ex; exact h1.fo.blk hj
theorem TH.blk {w : World} {B b d i : Nat} {fv : Value} (h : TH w B b d i fv) : B ≤ b ∧ ∃ cur, w.heap[b]? = some (.cells cur 59 (0, 0)) := by
  obtain ⟨T, p, h1, _⟩ := h.ex; exact ⟨h1.hq, _, h1.blk⟩
theorem ty_ne {w : World} {a b : Nat} {c d : Array Value} {S T : TypeId} (h : w.heap[a]? = some (.cells c S (0, 0))) (k : w.heap[b]? = some (.cells d T (0, 0))) (n : S ≠ T) : a ≠ b := by
  intro e; subst e; rw [h] at k; simp only [Option.some.injEq, Obj.cells.injEq] at k; exact n k.2.1
theorem TH.keep {w w' : World} {B b d i : Nat} {fv : Value} (h : TH w B b d i fv) (hs : w.heap.size ≤ w'.heap.size) (k : ∀ j, j < w.heap.size → B ≤ j → (j = b ∨ fv.ownBlock = some j ∨ ∃ cur, w.heap[j]? = some (.cells cur 48 (0, 0))) → w'.heap[j]? = w.heap[j]?) : TH w' B b d i fv := by
  obtain ⟨T, p, h1, h2, h3, h4, h5⟩ := h.ex
  refine ⟨T, p, ⟨h1.hq, h1.blk.of (k b h1.lt h1.hq (.inl rfl)), h1.fo.of fun j hj => k j (h1.fo.blk hj).2.1 (h1.fo.blk hj).1 (.inr (.inl hj)), fun x hx => ⟨(h1.fb x hx).1.of (k (p x) (Th.blk_lt (h1.fb x hx).1) (h1.fb x hx).2 (.inr (.inr ⟨_, (h1.fb x hx).1⟩))), (h1.fb x hx).2⟩, h1.inj, ?_, ?_, h1.s1⟩, h2, h3, h4, h5⟩
  · rw [h3]; exact Th.PO.nil _
  · rw [h4]; exact Th.OwnL.nil _ _
/-- The threads of a machine: one behind the other, each by itself. -/
structure TS (w : World) (q t : Nat) (tq : Nat → Nat) (d : Nat → Nat) (fvs : Nat → Value) : Prop where
  th : ∀ i, i < t → TH w (q + 1) (tq i) (d i) i (fvs i)
  inj : ∀ i j, i < t → j < t → tq i = tq j → i = j
  sep : ∀ i j, i < t → j < t → i ≠ j → ∀ b, (fvs i).ownBlock = some b → (fvs j).ownBlock ≠ some b
theorem TS.hi {w w' : World} {q t : Nat} {tq : Nat → Nat} {d : Nat → Nat} {fvs : Nat → Value} (h : TS w q t tq d fvs) (hs : w.heap.size ≤ w'.heap.size) (k : ∀ j, j < w.heap.size → q < j → w'.heap[j]? = w.heap[j]?) : TS w' q t tq d fvs :=
  ⟨fun i hi => (h.th i hi).keep hs fun j hj hB _ => k j hj (by omega), h.inj, h.sep⟩
theorem TS.below {w w' : World} {q t : Nat} {tq : Nat → Nat} {d : Nat → Nat} {fvs : Nat → Value} (h : TS w q t tq d fvs) (k : Below w.heap.size w w') : TS w' q t tq d fvs := h.hi k.size fun j hj _ => k.block j hj
theorem TS.init {w : World} {B q pl mb mg C gq gg gm : Nat} {fv : Value} {tq : Nat → Nat} {t s : Nat} {K : Int} {f : Nat → Int} {acc : Int} {flt : Bool} {H : Nat → Bool} {G : Nat → Int} {sl steps : Int} {odd : Bool} (h : MI w B q pl mb mg C gq gg gm fv tq t s K f acc flt H G sl steps odd) (hi : ∀ i j, i < t → j < t → tq i = tq j → i = j) : TS w q t tq (fun _ => 0) (fun _ => .slice none 0 0) :=
  ⟨fun i hi => ⟨Th.T0, _, (h.thr i hi).2.tha (h.thr i hi).1, rfl, rfl, rfl, fun h => absurd h (by decide)⟩, hi, fun _ _ _ _ _ b hb => by cases hb⟩
/-- One of them has changed. -/
theorem TS.one {w w' : World} {q t : Nat} {tq : Nat → Nat} {d : Nat → Nat} {fvs : Nat → Value} (h : TS w q t tq d fvs) {k d' : Nat} {fv' : Value} (hk : k < t) (hn : TH w' (q + 1) (tq k) d' k fv') (kq : Th.KQ w w' (tq k) (fvs k) (.slice none 0 0))
    (ho : ∀ j, fv'.ownBlock = some j → (fvs k).ownBlock = some j ∨ w.heap.size ≤ j) : TS w' q t tq (fun i => if i = k then d' else d i) (fun i => if i = k then fv' else fvs i) := by
  obtain ⟨_, ck, hck⟩ := (h.th k hk).blk
  refine ⟨fun i hi => ?_, h.inj, fun i j hi hj hij b hb => ?_⟩
  · by_cases e : i = k
    · subst e; rw [if_pos rfl, if_pos rfl]; exact hn
    · rw [if_neg e, if_neg e]
      refine (h.th i hi).keep kq.size fun j hj hB hc => ?_
      obtain ⟨_, ci, hci⟩ := (h.th i hi).blk
      rcases hc with rfl | hc | ⟨cur, hc⟩
      · exact kq.block _ hj (fun e2 => e (h.inj i k hi hk e2)) (fun e2 => by
          obtain ⟨_, _, c2, h2⟩ := (h.th k hk).own e2
          exact ty_ne hci h2 (by decide) rfl) (fun e2 => by cases e2)
      · obtain ⟨_, _, c2, h2⟩ := (h.th i hi).own hc
        exact kq.block _ hj (ty_ne h2 hck (by decide)) (h.sep i k hi hk e j hc) (fun e2 => by cases e2)
      · exact kq.block _ hj (ty_ne hc hck (by decide)) (fun e2 => by
          obtain ⟨_, _, c2, h2⟩ := (h.th k hk).own e2
          exact ty_ne hc h2 (by decide) rfl) (fun e2 => by cases e2)
  · (try dsimp only at hb ⊢)
    by_cases e1 : i = k
    · subst e1
      rw [if_pos rfl] at hb; rw [if_neg (Ne.symm hij)]
      intro e2
      rcases ho b hb with e3 | e3
      · exact h.sep i j hi hj hij b e3 e2
      · have := ((h.th j hj).own e2).2.1; omega
    · rw [if_neg e1] at hb
      by_cases e2 : j = k
      · subst e2
        rw [if_pos rfl]
        intro e3
        rcases ho b e3 with e4 | e4
        · exact h.sep i j hi hj hij b hb e4
        · have := ((h.th i hi).own hb).2.1; omega
      · rw [if_neg e2]; exact h.sep i j hi hj hij b hb
/-- What a thread's call leaves of the machine. -/
theorem MC.kq {w w' : World} {B q pl mb mg C gq gg gm : Nat} {fv : Value} {tq : Nat → Nat} {t s : Nat} {K : Int} {f : Nat → Int} {acc : Int} {flt : Bool} {H : Nat → Bool} {G : Nat → Int} {sl steps : Int} {odd : Bool} (h : MC w B q pl mb mg C gq gg gm fv tq t s K f acc flt H G sl steps odd)
    {d : Nat → Nat} {fvs : Nat → Value} (ts : TS w q t tq d fvs) {k : Nat} (hk : k < t) (kq : Th.KQ w w' (tq k) (fvs k) (.slice none 0 0)) : MC w' B q pl mb mg C gq gg gm fv tq t s K f acc flt H G sl steps odd := by
  have hl := h.qlt
  obtain ⟨hB, ck, hck⟩ := (ts.th k hk).blk
  have lo : ∀ j, j < w.heap.size → j ≤ q → w'.heap[j]? = w.heap[j]? := fun j hj h1 => kq.block j hj (by omega) (fun e => by have := ((ts.th k hk).own e).1; omega) (fun e => by cases e)
  refine h.keep ((lo q (by omega) (Nat.le_refl _)).trans h.blk) (h.mem.keep kq.size (lo mb (by omega) (by omega)) (lo mg (by omega) (by omega))) fun j hj _ _ _ hc => ?_
  rcases hc with hc | hc
  · exact lo j hj (by omega)
  · obtain ⟨_, _, c2, h2⟩ := h.ths.blk hc
    refine kq.block j hj (ty_ne h2 hck (by decide)) (fun e => ?_) (fun e => by cases e)
    obtain ⟨_, _, c3, h3⟩ := (ts.th k hk).own e
    exact ty_ne h2 h3 (by decide) rfl
end Go.Proofs.Ytaaciolfgplnoaa

/- Layer 16: the reference's word. -/
namespace Go.Proofs.Ytaaciolfgplnoaa
open Go.RowKit WordM EdgeM
set_option linter.unusedVariables false
set_option linter.unusedSimpArgs false
end Go.Proofs.Ytaaciolfgplnoaa

/- Layer 16: the reference's word, of any place. -/
namespace Go.Proofs.Ytaaciolfgplnoaa
open Go.RowKit WordM EdgeM
set_option linter.unusedVariables false
set_option linter.unusedSimpArgs false
end Go.Proofs.Ytaaciolfgplnoaa

/- Layer 16: the reference's New. -/
namespace Go.Proofs.Ytaaciolfgplnoaa
open Go.RowKit WordM EdgeM
set_option linter.unusedVariables false
set_option linter.unusedSimpArgs false
theorem heap2c {w V : World} {a b : Obj} (h : (w.alloc a).alloc b = V) : V.heap[w.heap.size]? = some a ∧ V.heap[w.heap.size + 1]? = some b ∧ Below w.heap.size w V := by
  subst h
  exact ⟨by rw [Below.heap_alloc _ _ _ (by simp)]; exact heap_alloc_new w a, by have := heap_alloc_new (w.alloc a) b; simpa using this, by (repeat (first | exact Below.refl _ _ | assumption | refine below_new ?_ _ | refine Below.drew ?_ | refine below_drewN ?_ _ | refine below_on ?_ (by assumption)))⟩
end Go.Proofs.Ytaaciolfgplnoaa

/- Layer 16: what a machine is asked, and one that is not there. -/
namespace Go.Proofs.Ytaaciolfgplnoaa
open Go.RowKit WordM EdgeM
set_option linter.unusedVariables false
set_option linter.unusedSimpArgs false
section
variable {w : World} {B q pl mb mg C gq gg gm : Nat} {fv : Value} {tq : Nat → Nat} {t s : Nat} {K : Int} {f : Nat → Int} {acc : Int} {flt : Bool} {H : Nat → Bool} {G : Nat → Int} {sl steps : Int} {odd : Bool}
end
/-! ### None -/
/-! ### Words compared -/
end Go.Proofs.Ytaaciolfgplnoaa

/- Layer 16: the law's same. -/
namespace Go.Proofs.Ytaaciolfgplnoaa
open Go.RowKit WordM EdgeM
set_option linter.unusedVariables false
set_option linter.unusedSimpArgs false
end Go.Proofs.Ytaaciolfgplnoaa
