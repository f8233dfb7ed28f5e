/- Layer 16: a machine's Clone. -/
import Derived.Test.YtkkdehniheajeaaCorV
import Derived.Test.YtkkdehniheajeaaCorD
import Derived.Test.YtkkdehniheajeaaCorH
import Derived.Test.YtkkdehniheajeaaGrdS
namespace Go.Proofs.Ytkkdehniheajeaa
open Go.RowKit WordM EdgeM
set_option linter.unusedVariables false
set_option linter.unusedSimpArgs false
theorem MI.tcell {w : World} {B q pl mb mg C gq gg gm : Nat} {tq : Nat → Nat} {t s : Nat} {K : Int} {f : Nat → Int} {acc : Int} {flt : Bool} {H : Nat → Bool} {G : Nat → Int} {sl steps : Int} {odd : Bool} {g c : Nat} (h : MI w B q pl mb mg C gq gg gm (.slice (some ⟨g, 0, none⟩) t c) tq t s K f acc flt H G sl steps odd) {i : Nat} (hi : i < t) : w.cell? ⟨g, i, none⟩ = some (.pointer (some ⟨tq i, 0, none⟩)) := by
  rcases h.ths.parts with ⟨_, h0⟩ | ⟨g2, c2, he, h1, h2, _, _, _, _, _, _, h3⟩
  · omega
  · simp only [Value.slice.injEq, Option.some.injEq, Addr.mk.injEq] at he
    obtain ⟨⟨rfl, _⟩, _⟩ := he
    exact h3 i _ hi (Th.ptrs_get hi)
set_option maxRecDepth 16000 in
set_option maxHeartbeats 4000000 in
theorem mclone16 {w : World} {B q pl mb mg C gq gg gm : Nat} {fv : Value} {tq : Nat → Nat} {t s : Nat} {K : Int} {f : Nat → Int} {acc : Int} {flt : Bool} {H : Nat → Bool} {G : Nat → Int} {sl steps : Int} {odd : Bool} (h : MI w B q pl mb mg C gq gg gm fv tq t s K f acc flt H G sl steps odd) :
    Calls Try.prog 14 #[.pointer (some ⟨q, 0, none⟩)] w fun e w' => ∃ q' mb' mg' C' gq' gg' gm' fv' tq', e = .returned (.pointer (some ⟨q', 0, none⟩)) ∧ w.heap.size ≤ q' ∧ w.heap.size ≤ mb' ∧ w.heap.size ≤ mg' ∧ MI w' B q' pl mb' mg' C' gq' gg' gm' fv' tq' t s K f acc flt H G sl steps odd ∧ Below w.heap.size w w' := by
  refine Calls.veil fun Q HQ => ?_
  have hbd0 := h.bd
  rcases h.ths.parts with ⟨_, h0⟩ | ⟨tg, tc, rfl, tn1, tn2, _⟩
  · omega
  obtain ⟨N, hN⟩ : ∃ N, N = w.heap.size := ⟨_, rfl⟩
  have HN := Lib.hid hN
  have HH := Lib.hid h
  have c0 := Ext.cells h.c0; have c1 := Ext.cells h.c1; have c2 := Ext.cells h.c2; have c4 := Ext.cells h.c4; have c5 := Ext.cells h.c5
  clear h
  go_enter Try.func14, Try.ntmps14
  go_upto_region 3 with fail
  (with_reducible refine wp_region_mix (fun w' => ∃ y : Ext w, w' = y.w) ?_ ?_ ?_ ?_; kernel_rfl; kernel_rfl; exact ⟨⟨w.drew, (Below.refl _ _).drew⟩, rfl⟩)
  obtain ⟨y0, hy0⟩ : ∃ y : Ext w, y.w = w.drew := ⟨⟨w.drew, (Below.refl _ _).drew⟩, rfl⟩
  rw [← hy0]
  clear hy0
  repeat (first | ((with_reducible refine mix_plain (by kernel_rfl) ?_); (first | go_big_quiet_skip | (go_big_quiet_want; go_big_quiet_op; go_big_quiet_on)); (with_reducible refine mix_on ?_)) | ((with_reducible refine mix_skip (by kernel_rfl) ?_); go_big_quiet_skip; (with_reducible refine mix_on ?_)))
  ((with_reducible refine wpMix_chain (by kernel_rfl) (by kernel_rfl) (fun K HK => ?_)); go_step)
  refine (Mm.mclone mb mg _ C f acc flt y0.w (HH.out.mem.below y0.h)).mono ?_; rintro _ w3 ⟨mb', mg', C', rfl, hmb, hmg, hme, hb3⟩
  have hys := y0.h.size
  have HO2 := Lib.hid (show pl < mb' ∧ pl < mg' from by have := Th.blk_lt HH.out.pln; omega)
  have HNB := Lib.hid (show w.heap.size ≤ mb' ∧ w.heap.size ≤ mg' from by omega)
  have HME := Lib.hid hme
  have hb3 := below_on y0.h hb3
  refine HK.out _ _ ⟨⟨w3, hb3⟩, rfl⟩ ?_
  clear HK K hmb hmg hme hys
  repeat (first | ((with_reducible refine mix_plain (by kernel_rfl) ?_); (first | go_big_quiet_skip | (go_big_quiet_want; go_big_quiet_op; go_big_quiet_on)); (with_reducible refine mix_on ?_)) | ((with_reducible refine mix_skip (by kernel_rfl) ?_); go_big_quiet_skip; (with_reducible refine mix_on ?_)))
  ((with_reducible refine wpMix_chain (by kernel_rfl) (by kernel_rfl) (fun K HK => ?_)); go_step)
  refine (Gd.gclone (HH.out.grd.below hb3)).mono ?_; rintro _ w4 ⟨gq', gg', gm', rfl, h1, h2, h3, hga, hb4⟩
  have HO3 := Lib.hid (show (mb' < gq' ∧ mb' < gg' ∧ mb' < gm') ∧ (mg' < gq' ∧ mg' < gg' ∧ mg' < gm') from by have := HME.out.bl; have := HME.out.gl; omega)
  have HGA := Lib.hid hga; have HME4 := Lib.hid (HME.out.below hb4)
  have hb4 := below_on hb3 hb4
  refine HK.out _ _ ⟨⟨w4, hb4⟩, rfl⟩ ?_
  clear HK K h1 h2 h3 hga hb3 HME
  repeat (first | ((with_reducible refine mix_plain (by kernel_rfl) ?_); (first | go_big_quiet_skip | (go_big_quiet_want; go_big_quiet_op; go_big_quiet_on)); (with_reducible refine mix_on ?_)) | ((with_reducible refine mix_skip (by kernel_rfl) ?_); go_big_quiet_skip; (with_reducible refine mix_on ?_)))
  ((with_reducible refine wpMix_chain (by kernel_rfl) (by kernel_rfl) (fun K HK => ?_)); go_step)
  refine HK.out _ _ ⟨⟨_, below_new hb4 _⟩, rfl⟩ ?_
  clear HK K
  repeat (first | ((with_reducible refine mix_plain (by kernel_rfl) ?_); (first | go_big_quiet_skip | (go_big_quiet_want; go_big_quiet_op; go_big_quiet_on)); (with_reducible refine mix_on ?_)) | ((with_reducible refine mix_skip (by kernel_rfl) ?_); go_big_quiet_skip; (with_reducible refine mix_on ?_)))
  refine wpMix_nil ?_
  generalize hW : World.alloc _ _ = W
  obtain ⟨hh, hbw⟩ := Th.heapnewE hW
  obtain ⟨z, hz⟩ : ∃ z, z = w4.heap.size := ⟨_, rfl⟩
  rw [← hz] at hh ⊢
  have HQB := Lib.hid (show W.heap[z]? = some (.cells (machC pl mb' gq' (.slice none 0 0) steps odd) 92 (0, 0)) from hh)
  have HO5 := Lib.hid (show gq' < z ∧ gg' < z ∧ gm' < z from by have := HGA.out.lt; omega)
  have HGW := Lib.hid (HGA.out.below hbw); have HMW := Lib.hid (HME4.out.below hbw)
  have HBW := Lib.hid (below_on hb4 hbw)
  have HZW := Lib.hid (show w.heap.size ≤ z from by have := hb4.size; omega)
  clear hW hh hbw hz hb4 c0 c1 c2 c4 c5 HGA HME4
  obtain ⟨W1, hW1⟩ : ∃ W1, W1 = W := ⟨_, rfl⟩
  have HWE := Lib.hid hW1
  clear hW1
  have c3 := (HH.out.below HBW.out).c3
  go_wp2_with fail
  clear c3
  go_loopw [37] (fun iv wz => ∃ i : Nat, i ≤ t ∧ iv = .int .i64 i ∧ ∃ (fv : Value) (tq : Nat → Nat), Hid (wz.heap[z]? = some (.cells (machC pl mb' gq' fv steps odd) 92 (0, 0))) ∧ Hid (Th.OwnL 32 wz (z + 1) fv i (Th.ptrs tq i)) ∧ Hid (∀ j, j < i → z < tq j ∧ TB wz (tq j)) ∧ Hid (Below z W1 wz))
    (fun iv _ => t - (intOf iv).toNat)
  case atStart => exact ⟨0, by omega, by go_num, _, fun _ => 0, HQB, Lib.hid (.nil _ _), Lib.hid (fun j hj => by omega), Lib.hid (by rw [HWE.out]; exact Below.refl _ _)⟩
  case round =>
    obtain ⟨i, hi, rfl, fv, tq', HMB, HFV, HTB, HBQ⟩ := hrel
    have hbo : Below w.heap.size w wr := by
      have e := HWE.out; have h1 := HBW.out; rw [← e] at h1
      exact h1.trans (HBQ.out.mono HZW.out)
    have HBO := Lib.hid hbo
    rcases (by omega : i < t ∨ i = t) with hlt | heq
    · have hii : (i : Int) < t := by omega
      have tcl := (HH.out.below hbo).tcell hlt
      have HTI := Lib.hid ((HH.out.below hbo).thr i hlt).2
      have c3 : wr.cell? ⟨z, 3, none⟩ = some fv := Th.newcell HMB.out 3 _ rfl
      obtain ⟨fva, fvc, rfl, _, _⟩ := HFV.out.slice
      have HLF := Lib.hid (show ∀ y : Ext wr, (Instr.loadAt 90 (.pointer (some ⟨z, 3, none⟩))).run Try.prog y.w = .ok (.slice fva i fvc) y.w from fun y => by have hc := (Ext.cells c3) y; clear c3 tcl; go_simp)
      have HQR := Lib.hid (show z < wr.heap.size from Th.blk_lt HMB.out)
      clear c3 hbo
      go_upto_region 7 with fail
      clear tcl
      refine Th.wp_region_K (fun w' => ∃ y : Ext wr, w' = y.w) 8 (by decide +kernel) ?_
      generalize hwd : World.drew wr = wd
      have hbd : Below wr.heap.size wr wd := by rw [← hwd]; exact (Below.refl _ _).drew
      clear hwd
      (refine Th.wpAnyK_takeY (i := 0) (v := ?_) rfl (by decide +kernel) (by decide +kernel) (by decide +kernel) (by decide) (fun _ _ _ h => h) (Or.inl ⟨by rfl, ?_⟩) (.inr ⟨⟨wd, hbd⟩, rfl⟩) ?_; rotate_left; (intro w; go_simp); (try with_reducible rfl))
      (try simp only [List.getElem_toArray, List.getElem_cons_succ, List.getElem_cons_zero, Act.put, List.setIfInBounds_toArray, List.set_cons_succ, List.set_cons_zero])
      (refine Th.wpAnyK_takeY (i := 1) (v := ?_) rfl (by decide +kernel) (by decide +kernel) (by decide +kernel) (by decide) (fun _ _ _ h => h) (Or.inl ⟨by rfl, ?_⟩) (.inr ⟨⟨wd, hbd⟩, rfl⟩) ?_; rotate_left; (intro w; go_simp); (try with_reducible rfl))
      (try simp only [List.getElem_toArray, List.getElem_cons_succ, List.getElem_cons_zero, Act.put, List.setIfInBounds_toArray, List.set_cons_succ, List.set_cons_zero])
      (refine Th.wpAnyK_takeY (i := 2) (v := ?_) rfl (by decide +kernel) (by decide +kernel) (by decide +kernel) (by decide) (fun _ _ _ h => h) (Or.inl ⟨by rfl, ?_⟩) (.inr ⟨⟨wd, hbd⟩, rfl⟩) ?_; rotate_left; (intro w; go_simp); (try with_reducible rfl))
      (try simp only [List.getElem_toArray, List.getElem_cons_succ, List.getElem_cons_zero, Act.put, List.setIfInBounds_toArray, List.set_cons_succ, List.set_cons_zero])
      (refine Th.wpAnyK_takeY (i := 3) (v := ?_) rfl (by decide +kernel) (by decide +kernel) (by decide +kernel) (by decide) (fun _ _ _ h => h) (Or.inl ⟨by rfl, ?_⟩) (.inr ⟨⟨wd, hbd⟩, rfl⟩) ?_; rotate_left; (intro w; go_simp); (try with_reducible rfl))
      (try simp only [List.getElem_toArray, List.getElem_cons_succ, List.getElem_cons_zero, Act.put, List.setIfInBounds_toArray, List.set_cons_succ, List.set_cons_zero])
      (refine Th.wpAnyK_take (i := 4) (v := .slice fva i fvc) [8, 9, 10, 11] rfl (by decide +kernel) (by decide +kernel) (by decide +kernel) (by decide +kernel) (fun _ _ _ h => h) (Th.yields_loadK rfl 90 (.tmp 44) rfl rfl (by rintro _ ⟨y, rfl⟩; exact HLF.out y)) ⟨⟨wd, hbd⟩, rfl⟩ ?_)
      (try simp only [List.getElem_toArray, List.getElem_cons_succ, List.getElem_cons_zero, Act.put, List.setIfInBounds_toArray, List.set_cons_succ, List.set_cons_zero])
      (refine Th.wpAnyK_takeY (i := 5) (v := ?_) rfl (by decide +kernel) (by decide +kernel) (by decide +kernel) (by decide) (fun _ _ _ h => h) (Or.inl ⟨by rfl, ?_⟩) (.inr ⟨⟨wd, hbd⟩, rfl⟩) ?_; rotate_left; (intro w; go_simp); (try with_reducible rfl))
      (try simp only [List.getElem_toArray, List.getElem_cons_succ, List.getElem_cons_zero, Act.put, List.setIfInBounds_toArray, List.set_cons_succ, List.set_cons_zero])
      (refine Th.wpAnyK_ready (rs := [6]) (by decide +kernel) (by simp) ?_; refine Th.AllReadyK.cons rfl (fun K hK => ?_) Th.AllReadyK.nil; refine step_of rfl ?_)
      go_step
      refine (tclone (HTI.out.below hbd)).mono ?_; rintro _ w5 ⟨b, rfl, hbe, hTB, hb5⟩
      have HBE := Lib.hid (show wr.heap.size ≤ b from by have := hbd.size; omega)
      have HTHB := Lib.hid hTB
      have hb5 := below_on hbd hb5
      refine hK _ _ (.inr ⟨⟨w5, hb5⟩, rfl⟩) ?_
      clear hK K hTB hbe
      (try simp only [List.getElem_toArray, List.getElem_cons_succ, List.getElem_cons_zero, Act.put, List.setIfInBounds_toArray, List.set_cons_succ, List.set_cons_zero])
      (refine Th.wpAnyK_ready (rs := [7]) (by decide +kernel) (by simp) ?_; refine Th.AllReadyK.cons rfl (fun K hK => ?_) Th.AllReadyK.nil; refine step_of rfl ?_)
      go_step
      refine hK _ _ (.inr ⟨⟨_, below_new hb5 _⟩, rfl⟩) ?_
      clear hK K
      (try simp only [List.getElem_toArray, List.getElem_cons_succ, List.getElem_cons_zero, Act.put, List.setIfInBounds_toArray, List.set_cons_succ, List.set_cons_zero])
      (refine Th.wpAnyK_ready (rs := [8]) (by decide +kernel) (by simp) ?_; refine Th.AllReadyK.cons rfl (fun K hK => ?_) Th.AllReadyK.nil; refine step_of rfl ?_)
      obtain ⟨pa, pc, W2, hrun, ho, hg, hloc⟩ := Th.push1 uThs infoTh (by rfl) (HFV.out.below hb5) (.pointer (some ⟨b, 0, none⟩)) rfl (by omega) (by have := HQR.out; have := hb5.size; omega)
      refine wp_append_run (.tmp 45) (.tmp 48) 90 rfl rfl rfl rfl hrun ?_
      refine hK _ _ (.inl rfl) ?_
      clear hK K
      (try simp only [List.getElem_toArray, List.getElem_cons_succ, List.getElem_cons_zero, Act.put, List.setIfInBounds_toArray, List.set_cons_succ, List.set_cons_zero])
      (refine Th.wpAnyK_takeY (i := 9) (v := ?_) rfl (by decide +kernel) (by decide +kernel) (by decide +kernel) (by decide) (fun _ _ _ h => h) (Or.inl ⟨by rfl, ?_⟩) (.inl rfl) ?_; rotate_left; (intro w; go_simp); (try with_reducible rfl))
      (try simp only [List.getElem_toArray, List.getElem_cons_succ, List.getElem_cons_zero, Act.put, List.setIfInBounds_toArray, List.set_cons_succ, List.set_cons_zero])
      (refine Th.wpAnyK_takeY (i := 10) (v := ?_) rfl (by decide +kernel) (by decide +kernel) (by decide +kernel) (by decide) (fun _ _ _ h => h) (Or.inl ⟨by rfl, ?_⟩) (.inl rfl) ?_; rotate_left; (intro w; go_simp); (try with_reducible rfl))
      (try simp only [List.getElem_toArray, List.getElem_cons_succ, List.getElem_cons_zero, Act.put, List.setIfInBounds_toArray, List.set_cons_succ, List.set_cons_zero])
      have hmq : W2.heap[z]? = some (.cells (machC pl mb' gq' (.slice fva i fvc) steps odd) 92 (0, 0)) := (hg.block z (by have := HQR.out; have := hb5.size; omega) (fun e => by have := (HFV.out.blk e.symm).1; omega)).trans (Th.up hb5 HMB.out)
      have cq2 : W2.cell? ⟨z, 3, none⟩ = some (.slice fva i fvc) := Th.newcell hmq 3 _ rfl
      have cq3 : ∀ i, W2.frozen? ⟨z, i, none⟩ = false := fun i => frozen_of_row _ _ _ _ _ hmq
      (refine Th.wpAnyK_ready (rs := [11]) (by decide +kernel) (by simp) ?_; refine Th.AllReadyK.cons rfl (fun K hK => ?_) Th.AllReadyK.nil; refine step_of rfl ?_)
      go_step
      refine hK _ _ (.inl rfl) ?_
      clear hK K
      refine Th.wpAnyK_done (by decide +kernel) ?_ _
      generalize hW : World.setCell _ _ _ = W3
      have HMB3 := Lib.hid (show W3.heap[z]? = some (.cells (machC pl mb' gq' (.slice pa (i + 1) pc) steps odd) 92 (0, 0)) by rw [← hW]; exact heap_setCell_same _ z 3 _ _ _ hmq)
      have hoth : ∀ k, k ≠ z → W3.heap[k]? = W2.heap[k]? := fun k hk => by rw [← hW]; exact Below.heap_setCell _ _ _ _ hk
      have hsz : W3.heap.size = W2.heap.size := by rw [← hW]; simp [World.setCell]
      have hos : W3.os = W2.os ∧ W3.tape = W2.tape ∧ W3.output = W2.output := by rw [← hW]; exact ⟨rfl, rfl, rfl⟩
      have HFV3 := Lib.hid (show Th.OwnL 32 W3 (z + 1) (.slice pa (i + 1) pc) (i + 1) (Th.ptrs (fun j => if j = i then b else tq' j) (i + 1)) by
        rw [ptrs_snoc]
        exact ho.of fun k hk => hoth k (by have := (ho.blk hk).1; omega))
      have hkeep : ∀ k (cur : Array Value), w5.heap[k]? = some (.cells cur 60 (0, 0)) → k ≠ z → W3.heap[k]? = some (.cells cur 60 (0, 0)) := fun k cur hk hkq => by
        rw [hoth k hkq, hg.block k (Th.blk_lt hk) (fun e => by
          obtain ⟨_, _, c2, hc⟩ := (HFV.out.below hb5).blk e.symm
          rw [hk] at hc
          simp only [Option.some.injEq, Obj.cells.injEq] at hc
          exact absurd hc.2.1 (by decide))]
        exact hk
      have HTB3 := Lib.hid (show ∀ j, j < i + 1 → z < (if j = i then b else tq' j) ∧ TB W3 (if j = i then b else tq' j) from fun j hj => by
        by_cases e : j = i
        · rw [if_pos e]; exact ⟨by have := HQR.out; have := HBE.out; omega, hkeep b _ HTHB.out (by have := HQR.out; have := HBE.out; omega)⟩
        · rw [if_neg e]
          have h1 := HTB.out j (by omega)
          exact ⟨h1.1, hkeep _ _ (h1.2.below hb5) (by omega)⟩)
      have HBQ3 := Lib.hid (show Below z W1 W3 from ⟨hos.1.trans (hg.os.trans (hb5.os.trans HBQ.out.os)), hos.2.1.trans (hg.tape.trans (hb5.tape.trans HBQ.out.tape)), hos.2.2.trans (hg.output.trans (hb5.output.trans HBQ.out.output)), by have := hg.size; have := hb5.size; have := HBQ.out.size; omega, fun k hk => (hoth k (by omega)).trans ((hg.block k (by have := HQR.out; have := hb5.size; omega) (fun e => by have := (HFV.out.blk e.symm).1; omega)).trans ((hb5.block k (by have := HQR.out; omega)).trans (HBQ.out.block k hk)))⟩)
      clear hW hmq cq2 cq3 hoth hsz hos hkeep ho hg hloc hrun hb5 hbd HMB HFV HTB HBQ HLF
      go_wp2_with fail
      go_roundw
      case rel => exact ⟨i + 1, by omega, by go_num, _, _, HMB3, HFV3, HTB3, HBQ3⟩
      case measure => simp [intOf]; omega
    · subst heq
      have hii : ¬ (i : Int) < i := by omega
      go_wp2_with fail
      (try go_ret2)
      rw [HQ.out]
      have e := HWE.out
      have h5 := HO5.out
      have h3 := HO3.out
      have hgg := HGW.out; have hmm := HMW.out
      rw [← e] at hgg hmm
      refine ⟨z, mb', mg', C', gq', gg', gm', fv, tq', rfl, HZW.out, HNB.out.1, HNB.out.2, ?_, HBO.out⟩
      refine ⟨HMB.out, Th.up HBO.out HH.out.pln, ?_, ?_, HFV.out, HTB.out, HH.out.o1, HO2.out, h3.1, h3.2, h5, HH.out.may⟩
      · exact hmm.keep HBQ.out.size (HBQ.out.block mb' (by omega)) (HBQ.out.block mg' (by omega))
      · exact hgg.belowTo HBQ.out h5.1 h5.2.1 h5.2.2
end Go.Proofs.Ytkkdehniheajeaa
