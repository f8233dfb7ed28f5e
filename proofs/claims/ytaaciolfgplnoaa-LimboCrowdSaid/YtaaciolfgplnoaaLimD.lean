/- Layer 19: steps of Drain. -/
import Derived.Test.YtaaciolfgplnoaaLimC
namespace Go.Proofs.Ytaaciolfgplnoaa
open Go.RowKit WordM EdgeM
set_option linter.unusedVariables false
set_option linter.unusedSimpArgs false
set_option maxRecDepth 8000 in
set_option maxHeartbeats 2000000 in
theorem dr0 {w : World} {P : Pc} {σ : Sg} {ps : Nat → Nat → Nat} {fvs : Nat → Value} (h : MP w P σ ps fvs) {k m : Nat} (hk : k < P.t) (hm : (σ.Ts k).nf = m + 1) (hN : m ≤ 1000) (a0 : 0 ≤ σ.acc) (a1 : σ.acc < 1000000) (hpc : ((σ.Ts k).fs m).pc = 0) {b : Nat} (hb : ((σ.Ts k).fs m).r 0 = b) (hb3 : b < 3) (g1 : 0 ≤ ((σ.Ts k).fs m).r 1 ∧ ((σ.Ts k).fs m).r 1 < 18446744073709551616) (hz : (σ.f (bgI k b) == 0) = false) :
    Calls Try.prog 34 #[.pointer (some ⟨P.q, 0, none⟩), .int .i64 k, .pointer (some ⟨P.tq k, 0, none⟩), .pointer (some ⟨ps k m, 0, none⟩)] w fun x w' => x = .returned (.tuple #[]) ∧ MM w' P (dr0S k m b σ) ∧ KA P.B P.N w w' := by
  refine Calls.veil fun Q HQ => ?_
  have HP := Lib.hid h
  have hmm : m < (σ.Ts k).nf := by omega
  have HMM := Lib.hid hmm; have HM := Lib.hid hm; have HPC := Lib.hid hpc
  have hbb := h.mm.bd
  obtain ⟨fb, hfb⟩ : ∃ fb, fb = ps k m := ⟨_, rfl⟩
  obtain ⟨r0, hr0⟩ : ∃ r0, r0 = ((σ.Ts k).fs m).r 0 := ⟨_, rfl⟩
  obtain ⟨r1, hr1⟩ : ∃ r1, r1 = ((σ.Ts k).fs m).r 1 := ⟨_, rfl⟩
  obtain ⟨r2, hr2⟩ : ∃ r2, r2 = ((σ.Ts k).fs m).r 2 := ⟨_, rfl⟩
  have HFB := Lib.hid hfb; have HR0 := Lib.hid hr0; have HR1 := Lib.hid hr1; have HR2 := Lib.hid hr2
  rw [← hfb]
  have f1 : w.cell? ⟨fb, 1, none⟩ = some (.int .i64 0) := by rw [hfb, h.pc hk hmm, hpc]
  have f2 : w.cell? ⟨fb, 2, none⟩ = some (.int .u64 r0) := by rw [hfb, hr0]; exact h.r hk hmm 0 (by omega)
  have f3 : w.cell? ⟨fb, 3, none⟩ = some (.int .u64 r1) := by rw [hfb, hr1]; exact h.r hk hmm 1 (by omega)
  have f4 : w.cell? ⟨fb, 4, none⟩ = some (.int .u64 r2) := by rw [hfb, hr2]; exact h.r hk hmm 2 (by omega)
  have rf : ∀ i, w.frozen? ⟨fb, i, none⟩ = false := fun i => by rw [hfb]; exact h.fr hk hmm i
  rw [← hr0] at hb
  rw [← hr1] at g1
  clear h hmm hm hpc hfb hr0 hr1 hr2
  go_enter Try.func34, Try.ntmps34
  have HZ := Lib.hid hz
  clear hz
  have HB := Lib.hid hb; have HB3 := Lib.hid hb3
  have hwb : IntKind.i64.wrap (b : Int) = b := by rw [IntKind.wrap_i64]; omega
  have HL0 := Lib.hid (show ∀ y : Ext w, (Instr.loadAt 22 (.pointer (some ⟨fb, 2, none⟩))).run Try.prog y.w = .ok (.int .u64 (b : Int)) y.w from fun y => by (have hc : y.w.cell? ⟨fb, 2, none⟩ = some (.int .u64 (b : Int)) := (by rw [HFB.out, ← HB.out, HR0.out]; exact (HP.out.below y.h).r hk HMM.out 0 (by omega))); go_simp)
  clear f1 f2 f3 f4 rf hb
  go_upto_region 0 with fail
  refine Th.wp_region_K (fun w' => ∃ y : Ext w, w' = y.w) 10 (by decide +kernel) ?_
  generalize hwd : World.drew w = wd
  have hbd : Below w.heap.size w wd := by rw [← hwd]; exact (Below.refl _ _).drew
  clear hwd
  (refine Th.wpAnyK_takeY (i := 0) (v := ?_) rfl (by decide +kernel) (by decide +kernel) (by decide +kernel) (by decide) (fun _ _ _ h => h) (Or.inl ⟨by rfl, ?_⟩) (.inr ⟨⟨wd, hbd⟩, rfl⟩) ?_; rotate_left; (intro w; go_simp); (try with_reducible rfl))
  (try simp only [List.getElem_toArray, List.getElem_cons_succ, List.getElem_cons_zero, Act.put, List.setIfInBounds_toArray, List.set_cons_succ, List.set_cons_zero])
  (refine Th.wpAnyK_takeY (i := 2) (v := ?_) rfl (by decide +kernel) (by decide +kernel) (by decide +kernel) (by decide) (fun _ _ _ h => h) (Or.inl ⟨by rfl, ?_⟩) (.inr ⟨⟨wd, hbd⟩, rfl⟩) ?_; rotate_left; (intro w; go_simp); (try with_reducible rfl))
  (try simp only [List.getElem_toArray, List.getElem_cons_succ, List.getElem_cons_zero, Act.put, List.setIfInBounds_toArray, List.set_cons_succ, List.set_cons_zero])
  (refine Th.wpAnyK_takeY (i := 3) (v := ?_) rfl (by decide +kernel) (by decide +kernel) (by decide +kernel) (by decide) (fun _ _ _ h => h) (Or.inl ⟨by rfl, ?_⟩) (.inr ⟨⟨wd, hbd⟩, rfl⟩) ?_; rotate_left; (intro w; go_simp); (try with_reducible rfl))
  (try simp only [List.getElem_toArray, List.getElem_cons_succ, List.getElem_cons_zero, Act.put, List.setIfInBounds_toArray, List.set_cons_succ, List.set_cons_zero])
  (refine Th.wpAnyK_takeY (i := 4) (v := ?_) rfl (by decide +kernel) (by decide +kernel) (by decide +kernel) (by decide) (fun _ _ _ h => h) (Or.inl ⟨by rfl, ?_⟩) (.inr ⟨⟨wd, hbd⟩, rfl⟩) ?_; rotate_left; (intro w; go_simp); (try with_reducible rfl))
  (try simp only [List.getElem_toArray, List.getElem_cons_succ, List.getElem_cons_zero, Act.put, List.setIfInBounds_toArray, List.set_cons_succ, List.set_cons_zero])
  (refine Th.wpAnyK_takeY (i := 5) (v := ?_) rfl (by decide +kernel) (by decide +kernel) (by decide +kernel) (by decide) (fun _ _ _ h => h) (Or.inl ⟨by rfl, ?_⟩) (.inr ⟨⟨wd, hbd⟩, rfl⟩) ?_; rotate_left; (intro w; go_simp); (try with_reducible rfl))
  (try simp only [List.getElem_toArray, List.getElem_cons_succ, List.getElem_cons_zero, Act.put, List.setIfInBounds_toArray, List.set_cons_succ, List.set_cons_zero])
  (refine Th.wpAnyK_takeY (i := 6) (v := ?_) rfl (by decide +kernel) (by decide +kernel) (by decide +kernel) (by decide) (fun _ _ _ h => h) (Or.inl ⟨by rfl, ?_⟩) (.inr ⟨⟨wd, hbd⟩, rfl⟩) ?_; rotate_left; (intro w; go_simp); (try with_reducible rfl))
  (try simp only [List.getElem_toArray, List.getElem_cons_succ, List.getElem_cons_zero, Act.put, List.setIfInBounds_toArray, List.set_cons_succ, List.set_cons_zero])
  (refine Th.wpAnyK_take (i := 7) (v := .int .u64 (b : Int)) [8, 9, 10] rfl (by decide +kernel) (by decide +kernel) (by decide +kernel) (by decide +kernel) (fun _ _ _ h => h) (Th.yields_loadK rfl 22 (.tmp 16) rfl rfl (by rintro _ ⟨y, rfl⟩; exact HL0.out y)) ⟨⟨wd, hbd⟩, rfl⟩ ?_)
  (try simp only [List.getElem_toArray, List.getElem_cons_succ, List.getElem_cons_zero, Act.put, List.setIfInBounds_toArray, List.set_cons_succ, List.set_cons_zero])
  (refine Th.wpAnyK_takeY (i := 8) (v := ?_) rfl (by decide +kernel) (by decide +kernel) (by decide +kernel) (by decide) (fun _ _ _ h => h) (Or.inl ⟨by rfl, ?_⟩) (.inr ⟨⟨wd, hbd⟩, rfl⟩) ?_; rotate_left; (intro w; go_simp); (try with_reducible rfl))
  (try simp only [List.getElem_toArray, List.getElem_cons_succ, List.getElem_cons_zero, Act.put, List.setIfInBounds_toArray, List.set_cons_succ, List.set_cons_zero])
  (refine Th.wpAnyK_ready (rs := [1]) (by decide +kernel) (by simp) ?_; refine (Th.AllReadyK.cons rfl (fun K hK => ?_) Th.AllReadyK.nil))
  refine step_of rfl ?_
  go_step
  refine (cPlan (HP.out.below hbd).c).mono ?_; rintro _ w6 ⟨rfl, hw6⟩
  rw [← hw6]
  refine hK _ _ (.inr ⟨⟨wd, hbd⟩, rfl⟩) ?_
  clear hK K hw6
  (try simp only [List.getElem_toArray, List.getElem_cons_succ, List.getElem_cons_zero, Act.put, List.setIfInBounds_toArray, List.set_cons_succ, List.set_cons_zero])
  (refine Th.wpAnyK_ready (rs := [9]) (by decide +kernel) (by simp) ?_; refine (Th.AllReadyK.cons rfl (fun K hK => ?_) Th.AllReadyK.nil))
  refine step_of rfl ?_
  go_step
  refine (pbag_calls _ _ _ _ _ _ (HP.out.below hbd).c.p0 (HP.out.below hbd).c.p1 (by omega) (by omega) (by omega) (by omega)).mono ?_; rintro _ w7 ⟨rfl, hb7⟩
  rw [of_bg hk HB3.out]
  have hb7 := below_on hbd hb7
  refine hK _ _ (.inr ⟨⟨w7, hb7⟩, rfl⟩) ?_
  clear hK K
  (try simp only [List.getElem_toArray, List.getElem_cons_succ, List.getElem_cons_zero, Act.put, List.setIfInBounds_toArray, List.set_cons_succ, List.set_cons_zero])
  (refine Th.wpAnyK_ready (rs := [10]) (by decide +kernel) (by simp) ?_; refine (Th.AllReadyK.cons rfl (fun K hK => ?_) Th.AllReadyK.nil))
  refine step_of rfl ?_
  go_step
  refine hK _ _ (.inl rfl) ?_
  clear hK K
  refine Th.wpAnyK_done (by decide +kernel) ?_ _
  have HP7 := Lib.hid (HP.out.below hb7); have HK7 := Lib.hid (KA.of_below hb7 : KA P.B P.N w w7)
  have f1 := HP7.out.pc hk HMM.out
  have f3 := HP7.out.r hk HMM.out 1 (by omega)
  have rf := HP7.out.fr hk HMM.out
  rw [← HFB.out] at f1 f3 rf
  rw [HPC.out] at f1
  rw [← HR1.out] at f3
  clear hb7 hbd HL0 HP hwb
  go_upto_region 3 with fail
  clear f1 f3 rf
  refine Th.wp_region_K (fun _ => True) 8 (by decide +kernel) ?_
  generalize hwd : World.drew w7 = wd
  have hdd : Below (w7).heap.size (w7) wd := by rw [← hwd]; exact (Below.refl _ _).drew
  have HPD := Lib.hid (HP7.out.below hdd); have HKD := Lib.hid (HK7.out.trans (KA.of_below hdd))
  clear hwd hdd HP7 HK7
  (refine Th.wpAnyK_takeY (i := 0) (v := ?_) rfl (by decide +kernel) (by decide +kernel) (by decide +kernel) (by decide) (fun _ _ _ h => h) (Or.inl ⟨by rfl, ?_⟩) (.inr trivial) ?_; rotate_left; (intro w; go_simp); (try with_reducible rfl))
  (try simp only [List.getElem_toArray, List.getElem_cons_succ, List.getElem_cons_zero, Act.put, List.setIfInBounds_toArray, List.set_cons_succ, List.set_cons_zero])
  (refine Th.wpAnyK_takeY (i := 1) (v := ?_) rfl (by decide +kernel) (by decide +kernel) (by decide +kernel) (by decide) (fun _ _ _ h => h) (Or.inl ⟨by rfl, ?_⟩) (.inr trivial) ?_; rotate_left; (intro w; go_simp); (try with_reducible rfl))
  (try simp only [List.getElem_toArray, List.getElem_cons_succ, List.getElem_cons_zero, Act.put, List.setIfInBounds_toArray, List.set_cons_succ, List.set_cons_zero])
  (refine Th.wpAnyK_takeY (i := 3) (v := ?_) rfl (by decide +kernel) (by decide +kernel) (by decide +kernel) (by decide) (fun _ _ _ h => h) (Or.inl ⟨by rfl, ?_⟩) (.inr trivial) ?_; rotate_left; (intro w; go_simp); (try with_reducible rfl))
  (try simp only [List.getElem_toArray, List.getElem_cons_succ, List.getElem_cons_zero, Act.put, List.setIfInBounds_toArray, List.set_cons_succ, List.set_cons_zero])
  (refine Th.wpAnyK_takeY (i := 5) (v := ?_) rfl (by decide +kernel) (by decide +kernel) (by decide +kernel) (by decide) (fun _ _ _ h => h) (Or.inl ⟨by rfl, ?_⟩) (.inr trivial) ?_; rotate_left; (intro w; go_simp); (try with_reducible rfl))
  (try simp only [List.getElem_toArray, List.getElem_cons_succ, List.getElem_cons_zero, Act.put, List.setIfInBounds_toArray, List.set_cons_succ, List.set_cons_zero])
  (refine Th.wpAnyK_takeY (i := 6) (v := ?_) rfl (by decide +kernel) (by decide +kernel) (by decide +kernel) (by decide) (fun _ _ _ h => h) (Or.inl ⟨by rfl, ?_⟩) (.inr trivial) ?_; rotate_left; (intro w; go_simp); (try with_reducible rfl))
  (try simp only [List.getElem_toArray, List.getElem_cons_succ, List.getElem_cons_zero, Act.put, List.setIfInBounds_toArray, List.set_cons_succ, List.set_cons_zero])
  (refine Th.wpAnyK_ready (rs := [2]) (by decide +kernel) (by simp) ?_; refine (Th.AllReadyK.cons rfl (fun K hK => ?_) Th.AllReadyK.nil))
  refine step_of rfl ?_
  go_step
  refine (cMem HPD.out.c).mono ?_; rintro _ _ ⟨rfl, rfl⟩
  refine hK _ _ (.inr trivial) ?_
  clear hK K
  (try simp only [List.getElem_toArray, List.getElem_cons_succ, List.getElem_cons_zero, Act.put, List.setIfInBounds_toArray, List.set_cons_succ, List.set_cons_zero])
  (refine Th.wpAnyK_ready (rs := [4]) (by decide +kernel) (by simp) ?_; refine (Th.AllReadyK.cons rfl (fun K hK => ?_) Th.AllReadyK.nil))
  refine step_of rfl ?_
  go_step
  refine (HPD.out.load (bgI k b) (by unfold bgI; omega) a0 a1).mono ?_; rintro _ w3 ⟨rfl, hp3, hk3⟩
  have HP3 := Lib.hid hp3; have HK3 := Lib.hid (HKD.out.trans hk3)
  refine hK _ _ (.inr trivial) ?_
  clear hK K
  clear hp3 hk3 HPD HKD
  (try simp only [List.getElem_toArray, List.getElem_cons_succ, List.getElem_cons_zero, Act.put, List.setIfInBounds_toArray, List.set_cons_succ, List.set_cons_zero])
  have r2 : w3.cell? ⟨fb, 3, none⟩ = some (.int .u64 (((σ.Ts k).fs m).r 1)) := by rw [HFB.out]; exact HP3.out.r hk HMM.out 1 (by omega)
  have rf : ∀ i, w3.frozen? ⟨fb, i, none⟩ = false := fun i => by rw [HFB.out]; exact HP3.out.fr hk HMM.out i
  (refine Th.wpAnyK_takeY (i := 7) (v := ?_) rfl (by decide +kernel) (by decide +kernel) (by decide +kernel) (by decide) (fun _ _ _ h => h) (Or.inl ⟨by rfl, ?_⟩) (.inr trivial) ?_; rotate_left; (intro w; go_simp); (try with_reducible rfl))
  (try simp only [List.getElem_toArray, List.getElem_cons_succ, List.getElem_cons_zero, Act.put, List.setIfInBounds_toArray, List.set_cons_succ, List.set_cons_zero])
  (refine Th.wpAnyK_ready (rs := [8]) (by decide +kernel) (by simp) ?_; refine (Th.AllReadyK.cons rfl (fun K hK => ?_) Th.AllReadyK.nil))
  refine step_of rfl ?_
  go_step
  refine hK _ _ (.inl rfl) ?_
  clear hK K
  refine Th.wpAnyK_done (by decide +kernel) ?_ _
  clear r2 rf
  generalize hW : World.setCell _ _ _ = W
  obtain ⟨hp4, hk4⟩ : MP W P _ ps fvs ∧ KA P.B P.N w3 W := by rw [← hW, HFB.out]; exact HP3.out.setR hk HMM.out 1 (σ.f (bgI k b))
  have HP4 := Lib.hid hp4; have HK4 := Lib.hid (HK3.out.trans hk4)
  clear hW hp4 hk4 HP3 HK3
  have f1 : W.cell? ⟨fb, 1, none⟩ = some (.int .i64 0) := by rw [HFB.out, HP4.out.pc hk (by rw [Sg.thr_at]; exact HMM.out), Sg.thr_at, setF_fs]; exact congrArg _ (congrArg _ HPC.out)
  have rf : ∀ i, W.frozen? ⟨fb, i, none⟩ = false := fun i => by rw [HFB.out]; exact HP4.out.fr hk (by rw [Sg.thr_at]; exact HMM.out) i
  go_upto_region 5 with fail
  clear f1 rf
  generalize hW : World.setCell _ _ _ = V
  obtain ⟨hp5, hk5⟩ : MP V P _ ps fvs ∧ KA P.B P.N W V := by rw [← hW, HFB.out]; exact HP4.out.setPC hk (by rw [Sg.thr_at]; exact HMM.out) 1
  rw [Sg.thr_at, setF_fs, setF_setF, Sg.thr_thr] at hp5
  have HP5 := Lib.hid hp5; have HK5 := Lib.hid (HK4.out.trans hk5)
  clear hW hp5 hk5 HP4 HK4
  have f3 : V.cell? ⟨fb, 3, none⟩ = some (.int .u64 (σ.f (bgI k b))) := by rw [HFB.out]; have h9 := HP5.out.r hk (m := m) (by rw [Sg.thr_at]; exact HMM.out) 1 (by omega); rw [Sg.thr_at, setF_fs] at h9; exact h9
  have hq := HZ.out
  generalize σ.f (bgI k b) = sv at f3 hq
  go_wp2_with fail
  clear f3
  first | (refine bodyPost_end (v := .tuple #[]) (by simp [results, Try.results34, go_sem]) rfl ?_) | (refine bodyPost_ret (v := .tuple #[]) (by simp [results, Try.results34, go_sem]) rfl ?_)
  rw [HQ.out]
  exact ⟨rfl, HP5.out.mm, HK5.out⟩
set_option maxRecDepth 8000 in
set_option maxHeartbeats 2000000 in
theorem dr0z {w : World} {P : Pc} {σ : Sg} {ps : Nat → Nat → Nat} {fvs : Nat → Value} (h : MP w P σ ps fvs) {k m : Nat} (hk : k < P.t) (hm : (σ.Ts k).nf = m + 1) (hN : m ≤ 1000) (a0 : 0 ≤ σ.acc) (a1 : σ.acc < 1000000) (hpc : ((σ.Ts k).fs m).pc = 0) {b : Nat} (hb : ((σ.Ts k).fs m).r 0 = b) (hb3 : b < 3) (g1 : 0 ≤ ((σ.Ts k).fs m).r 1 ∧ ((σ.Ts k).fs m).r 1 < 18446744073709551616) (hz : (σ.f (bgI k b) == 0) = true) :
    Calls Try.prog 34 #[.pointer (some ⟨P.q, 0, none⟩), .int .i64 k, .pointer (some ⟨P.tq k, 0, none⟩), .pointer (some ⟨ps k m, 0, none⟩)] w fun x w' => x = .returned (.tuple #[]) ∧ MM w' P (dr0zS k m b σ) ∧ KA P.B P.N w w' := by
  refine Calls.veil fun Q HQ => ?_
  have HP := Lib.hid h
  have hmm : m < (σ.Ts k).nf := by omega
  have HMM := Lib.hid hmm; have HM := Lib.hid hm; have HPC := Lib.hid hpc
  have hbb := h.mm.bd
  obtain ⟨fb, hfb⟩ : ∃ fb, fb = ps k m := ⟨_, rfl⟩
  obtain ⟨r0, hr0⟩ : ∃ r0, r0 = ((σ.Ts k).fs m).r 0 := ⟨_, rfl⟩
  obtain ⟨r1, hr1⟩ : ∃ r1, r1 = ((σ.Ts k).fs m).r 1 := ⟨_, rfl⟩
  obtain ⟨r2, hr2⟩ : ∃ r2, r2 = ((σ.Ts k).fs m).r 2 := ⟨_, rfl⟩
  have HFB := Lib.hid hfb; have HR0 := Lib.hid hr0; have HR1 := Lib.hid hr1; have HR2 := Lib.hid hr2
  rw [← hfb]
  have f1 : w.cell? ⟨fb, 1, none⟩ = some (.int .i64 0) := by rw [hfb, h.pc hk hmm, hpc]
  have f2 : w.cell? ⟨fb, 2, none⟩ = some (.int .u64 r0) := by rw [hfb, hr0]; exact h.r hk hmm 0 (by omega)
  have f3 : w.cell? ⟨fb, 3, none⟩ = some (.int .u64 r1) := by rw [hfb, hr1]; exact h.r hk hmm 1 (by omega)
  have f4 : w.cell? ⟨fb, 4, none⟩ = some (.int .u64 r2) := by rw [hfb, hr2]; exact h.r hk hmm 2 (by omega)
  have rf : ∀ i, w.frozen? ⟨fb, i, none⟩ = false := fun i => by rw [hfb]; exact h.fr hk hmm i
  rw [← hr0] at hb
  rw [← hr1] at g1
  clear h hmm hm hpc hfb hr0 hr1 hr2
  go_enter Try.func34, Try.ntmps34
  have HZ := Lib.hid hz
  clear hz
  have HB := Lib.hid hb; have HB3 := Lib.hid hb3
  have hwb : IntKind.i64.wrap (b : Int) = b := by rw [IntKind.wrap_i64]; omega
  have HL0 := Lib.hid (show ∀ y : Ext w, (Instr.loadAt 22 (.pointer (some ⟨fb, 2, none⟩))).run Try.prog y.w = .ok (.int .u64 (b : Int)) y.w from fun y => by (have hc : y.w.cell? ⟨fb, 2, none⟩ = some (.int .u64 (b : Int)) := (by rw [HFB.out, ← HB.out, HR0.out]; exact (HP.out.below y.h).r hk HMM.out 0 (by omega))); go_simp)
  clear f1 f2 f3 f4 rf hb
  go_upto_region 0 with fail
  refine Th.wp_region_K (fun w' => ∃ y : Ext w, w' = y.w) 10 (by decide +kernel) ?_
  generalize hwd : World.drew w = wd
  have hbd : Below w.heap.size w wd := by rw [← hwd]; exact (Below.refl _ _).drew
  clear hwd
  (refine Th.wpAnyK_takeY (i := 0) (v := ?_) rfl (by decide +kernel) (by decide +kernel) (by decide +kernel) (by decide) (fun _ _ _ h => h) (Or.inl ⟨by rfl, ?_⟩) (.inr ⟨⟨wd, hbd⟩, rfl⟩) ?_; rotate_left; (intro w; go_simp); (try with_reducible rfl))
  (try simp only [List.getElem_toArray, List.getElem_cons_succ, List.getElem_cons_zero, Act.put, List.setIfInBounds_toArray, List.set_cons_succ, List.set_cons_zero])
  (refine Th.wpAnyK_takeY (i := 2) (v := ?_) rfl (by decide +kernel) (by decide +kernel) (by decide +kernel) (by decide) (fun _ _ _ h => h) (Or.inl ⟨by rfl, ?_⟩) (.inr ⟨⟨wd, hbd⟩, rfl⟩) ?_; rotate_left; (intro w; go_simp); (try with_reducible rfl))
  (try simp only [List.getElem_toArray, List.getElem_cons_succ, List.getElem_cons_zero, Act.put, List.setIfInBounds_toArray, List.set_cons_succ, List.set_cons_zero])
  (refine Th.wpAnyK_takeY (i := 3) (v := ?_) rfl (by decide +kernel) (by decide +kernel) (by decide +kernel) (by decide) (fun _ _ _ h => h) (Or.inl ⟨by rfl, ?_⟩) (.inr ⟨⟨wd, hbd⟩, rfl⟩) ?_; rotate_left; (intro w; go_simp); (try with_reducible rfl))
  (try simp only [List.getElem_toArray, List.getElem_cons_succ, List.getElem_cons_zero, Act.put, List.setIfInBounds_toArray, List.set_cons_succ, List.set_cons_zero])
  (refine Th.wpAnyK_takeY (i := 4) (v := ?_) rfl (by decide +kernel) (by decide +kernel) (by decide +kernel) (by decide) (fun _ _ _ h => h) (Or.inl ⟨by rfl, ?_⟩) (.inr ⟨⟨wd, hbd⟩, rfl⟩) ?_; rotate_left; (intro w; go_simp); (try with_reducible rfl))
  (try simp only [List.getElem_toArray, List.getElem_cons_succ, List.getElem_cons_zero, Act.put, List.setIfInBounds_toArray, List.set_cons_succ, List.set_cons_zero])
  (refine Th.wpAnyK_takeY (i := 5) (v := ?_) rfl (by decide +kernel) (by decide +kernel) (by decide +kernel) (by decide) (fun _ _ _ h => h) (Or.inl ⟨by rfl, ?_⟩) (.inr ⟨⟨wd, hbd⟩, rfl⟩) ?_; rotate_left; (intro w; go_simp); (try with_reducible rfl))
  (try simp only [List.getElem_toArray, List.getElem_cons_succ, List.getElem_cons_zero, Act.put, List.setIfInBounds_toArray, List.set_cons_succ, List.set_cons_zero])
  (refine Th.wpAnyK_takeY (i := 6) (v := ?_) rfl (by decide +kernel) (by decide +kernel) (by decide +kernel) (by decide) (fun _ _ _ h => h) (Or.inl ⟨by rfl, ?_⟩) (.inr ⟨⟨wd, hbd⟩, rfl⟩) ?_; rotate_left; (intro w; go_simp); (try with_reducible rfl))
  (try simp only [List.getElem_toArray, List.getElem_cons_succ, List.getElem_cons_zero, Act.put, List.setIfInBounds_toArray, List.set_cons_succ, List.set_cons_zero])
  (refine Th.wpAnyK_take (i := 7) (v := .int .u64 (b : Int)) [8, 9, 10] rfl (by decide +kernel) (by decide +kernel) (by decide +kernel) (by decide +kernel) (fun _ _ _ h => h) (Th.yields_loadK rfl 22 (.tmp 16) rfl rfl (by rintro _ ⟨y, rfl⟩; exact HL0.out y)) ⟨⟨wd, hbd⟩, rfl⟩ ?_)
  (try simp only [List.getElem_toArray, List.getElem_cons_succ, List.getElem_cons_zero, Act.put, List.setIfInBounds_toArray, List.set_cons_succ, List.set_cons_zero])
  (refine Th.wpAnyK_takeY (i := 8) (v := ?_) rfl (by decide +kernel) (by decide +kernel) (by decide +kernel) (by decide) (fun _ _ _ h => h) (Or.inl ⟨by rfl, ?_⟩) (.inr ⟨⟨wd, hbd⟩, rfl⟩) ?_; rotate_left; (intro w; go_simp); (try with_reducible rfl))
  (try simp only [List.getElem_toArray, List.getElem_cons_succ, List.getElem_cons_zero, Act.put, List.setIfInBounds_toArray, List.set_cons_succ, List.set_cons_zero])
  (refine Th.wpAnyK_ready (rs := [1]) (by decide +kernel) (by simp) ?_; refine (Th.AllReadyK.cons rfl (fun K hK => ?_) Th.AllReadyK.nil))
  refine step_of rfl ?_
  go_step
  refine (cPlan (HP.out.below hbd).c).mono ?_; rintro _ w6 ⟨rfl, hw6⟩
  rw [← hw6]
  refine hK _ _ (.inr ⟨⟨wd, hbd⟩, rfl⟩) ?_
  clear hK K hw6
  (try simp only [List.getElem_toArray, List.getElem_cons_succ, List.getElem_cons_zero, Act.put, List.setIfInBounds_toArray, List.set_cons_succ, List.set_cons_zero])
  (refine Th.wpAnyK_ready (rs := [9]) (by decide +kernel) (by simp) ?_; refine (Th.AllReadyK.cons rfl (fun K hK => ?_) Th.AllReadyK.nil))
  refine step_of rfl ?_
  go_step
  refine (pbag_calls _ _ _ _ _ _ (HP.out.below hbd).c.p0 (HP.out.below hbd).c.p1 (by omega) (by omega) (by omega) (by omega)).mono ?_; rintro _ w7 ⟨rfl, hb7⟩
  rw [of_bg hk HB3.out]
  have hb7 := below_on hbd hb7
  refine hK _ _ (.inr ⟨⟨w7, hb7⟩, rfl⟩) ?_
  clear hK K
  (try simp only [List.getElem_toArray, List.getElem_cons_succ, List.getElem_cons_zero, Act.put, List.setIfInBounds_toArray, List.set_cons_succ, List.set_cons_zero])
  (refine Th.wpAnyK_ready (rs := [10]) (by decide +kernel) (by simp) ?_; refine (Th.AllReadyK.cons rfl (fun K hK => ?_) Th.AllReadyK.nil))
  refine step_of rfl ?_
  go_step
  refine hK _ _ (.inl rfl) ?_
  clear hK K
  refine Th.wpAnyK_done (by decide +kernel) ?_ _
  have HP7 := Lib.hid (HP.out.below hb7); have HK7 := Lib.hid (KA.of_below hb7 : KA P.B P.N w w7)
  have f1 := HP7.out.pc hk HMM.out
  have f3 := HP7.out.r hk HMM.out 1 (by omega)
  have rf := HP7.out.fr hk HMM.out
  rw [← HFB.out] at f1 f3 rf
  rw [HPC.out] at f1
  rw [← HR1.out] at f3
  clear hb7 hbd HL0 HP hwb
  go_upto_region 3 with fail
  clear f1 f3 rf
  refine Th.wp_region_K (fun _ => True) 8 (by decide +kernel) ?_
  generalize hwd : World.drew w7 = wd
  have hdd : Below (w7).heap.size (w7) wd := by rw [← hwd]; exact (Below.refl _ _).drew
  have HPD := Lib.hid (HP7.out.below hdd); have HKD := Lib.hid (HK7.out.trans (KA.of_below hdd))
  clear hwd hdd HP7 HK7
  (refine Th.wpAnyK_takeY (i := 0) (v := ?_) rfl (by decide +kernel) (by decide +kernel) (by decide +kernel) (by decide) (fun _ _ _ h => h) (Or.inl ⟨by rfl, ?_⟩) (.inr trivial) ?_; rotate_left; (intro w; go_simp); (try with_reducible rfl))
  (try simp only [List.getElem_toArray, List.getElem_cons_succ, List.getElem_cons_zero, Act.put, List.setIfInBounds_toArray, List.set_cons_succ, List.set_cons_zero])
  (refine Th.wpAnyK_takeY (i := 1) (v := ?_) rfl (by decide +kernel) (by decide +kernel) (by decide +kernel) (by decide) (fun _ _ _ h => h) (Or.inl ⟨by rfl, ?_⟩) (.inr trivial) ?_; rotate_left; (intro w; go_simp); (try with_reducible rfl))
  (try simp only [List.getElem_toArray, List.getElem_cons_succ, List.getElem_cons_zero, Act.put, List.setIfInBounds_toArray, List.set_cons_succ, List.set_cons_zero])
  (refine Th.wpAnyK_takeY (i := 3) (v := ?_) rfl (by decide +kernel) (by decide +kernel) (by decide +kernel) (by decide) (fun _ _ _ h => h) (Or.inl ⟨by rfl, ?_⟩) (.inr trivial) ?_; rotate_left; (intro w; go_simp); (try with_reducible rfl))
  (try simp only [List.getElem_toArray, List.getElem_cons_succ, List.getElem_cons_zero, Act.put, List.setIfInBounds_toArray, List.set_cons_succ, List.set_cons_zero])
  (refine Th.wpAnyK_takeY (i := 5) (v := ?_) rfl (by decide +kernel) (by decide +kernel) (by decide +kernel) (by decide) (fun _ _ _ h => h) (Or.inl ⟨by rfl, ?_⟩) (.inr trivial) ?_; rotate_left; (intro w; go_simp); (try with_reducible rfl))
  (try simp only [List.getElem_toArray, List.getElem_cons_succ, List.getElem_cons_zero, Act.put, List.setIfInBounds_toArray, List.set_cons_succ, List.set_cons_zero])
  (refine Th.wpAnyK_takeY (i := 6) (v := ?_) rfl (by decide +kernel) (by decide +kernel) (by decide +kernel) (by decide) (fun _ _ _ h => h) (Or.inl ⟨by rfl, ?_⟩) (.inr trivial) ?_; rotate_left; (intro w; go_simp); (try with_reducible rfl))
  (try simp only [List.getElem_toArray, List.getElem_cons_succ, List.getElem_cons_zero, Act.put, List.setIfInBounds_toArray, List.set_cons_succ, List.set_cons_zero])
  (refine Th.wpAnyK_ready (rs := [2]) (by decide +kernel) (by simp) ?_; refine (Th.AllReadyK.cons rfl (fun K hK => ?_) Th.AllReadyK.nil))
  refine step_of rfl ?_
  go_step
  refine (cMem HPD.out.c).mono ?_; rintro _ _ ⟨rfl, rfl⟩
  refine hK _ _ (.inr trivial) ?_
  clear hK K
  (try simp only [List.getElem_toArray, List.getElem_cons_succ, List.getElem_cons_zero, Act.put, List.setIfInBounds_toArray, List.set_cons_succ, List.set_cons_zero])
  (refine Th.wpAnyK_ready (rs := [4]) (by decide +kernel) (by simp) ?_; refine (Th.AllReadyK.cons rfl (fun K hK => ?_) Th.AllReadyK.nil))
  refine step_of rfl ?_
  go_step
  refine (HPD.out.load (bgI k b) (by unfold bgI; omega) a0 a1).mono ?_; rintro _ w3 ⟨rfl, hp3, hk3⟩
  have HP3 := Lib.hid hp3; have HK3 := Lib.hid (HKD.out.trans hk3)
  refine hK _ _ (.inr trivial) ?_
  clear hK K
  clear hp3 hk3 HPD HKD
  (try simp only [List.getElem_toArray, List.getElem_cons_succ, List.getElem_cons_zero, Act.put, List.setIfInBounds_toArray, List.set_cons_succ, List.set_cons_zero])
  have r2 : w3.cell? ⟨fb, 3, none⟩ = some (.int .u64 (((σ.Ts k).fs m).r 1)) := by rw [HFB.out]; exact HP3.out.r hk HMM.out 1 (by omega)
  have rf : ∀ i, w3.frozen? ⟨fb, i, none⟩ = false := fun i => by rw [HFB.out]; exact HP3.out.fr hk HMM.out i
  (refine Th.wpAnyK_takeY (i := 7) (v := ?_) rfl (by decide +kernel) (by decide +kernel) (by decide +kernel) (by decide) (fun _ _ _ h => h) (Or.inl ⟨by rfl, ?_⟩) (.inr trivial) ?_; rotate_left; (intro w; go_simp); (try with_reducible rfl))
  (try simp only [List.getElem_toArray, List.getElem_cons_succ, List.getElem_cons_zero, Act.put, List.setIfInBounds_toArray, List.set_cons_succ, List.set_cons_zero])
  (refine Th.wpAnyK_ready (rs := [8]) (by decide +kernel) (by simp) ?_; refine (Th.AllReadyK.cons rfl (fun K hK => ?_) Th.AllReadyK.nil))
  refine step_of rfl ?_
  go_step
  refine hK _ _ (.inl rfl) ?_
  clear hK K
  refine Th.wpAnyK_done (by decide +kernel) ?_ _
  clear r2 rf
  generalize hW : World.setCell _ _ _ = W
  obtain ⟨hp4, hk4⟩ : MP W P _ ps fvs ∧ KA P.B P.N w3 W := by rw [← hW, HFB.out]; exact HP3.out.setR hk HMM.out 1 (σ.f (bgI k b))
  have HP4 := Lib.hid hp4; have HK4 := Lib.hid (HK3.out.trans hk4)
  clear hW hp4 hk4 HP3 HK3
  have f1 : W.cell? ⟨fb, 1, none⟩ = some (.int .i64 0) := by rw [HFB.out, HP4.out.pc hk (by rw [Sg.thr_at]; exact HMM.out), Sg.thr_at, setF_fs]; exact congrArg _ (congrArg _ HPC.out)
  have rf : ∀ i, W.frozen? ⟨fb, i, none⟩ = false := fun i => by rw [HFB.out]; exact HP4.out.fr hk (by rw [Sg.thr_at]; exact HMM.out) i
  go_upto_region 5 with fail
  clear f1 rf
  generalize hW : World.setCell _ _ _ = V
  obtain ⟨hp5, hk5⟩ : MP V P _ ps fvs ∧ KA P.B P.N W V := by rw [← hW, HFB.out]; exact HP4.out.setPC hk (by rw [Sg.thr_at]; exact HMM.out) 1
  rw [Sg.thr_at, setF_fs, setF_setF, Sg.thr_thr] at hp5
  have HP5 := Lib.hid hp5; have HK5 := Lib.hid (HK4.out.trans hk5)
  clear hW hp5 hk5 HP4 HK4
  have f3 : V.cell? ⟨fb, 3, none⟩ = some (.int .u64 (σ.f (bgI k b))) := by rw [HFB.out]; have h9 := HP5.out.r hk (m := m) (by rw [Sg.thr_at]; exact HMM.out) 1 (by omega); rw [Sg.thr_at, setF_fs] at h9; exact h9
  have hq := HZ.out
  generalize σ.f (bgI k b) = sv at f3 hq
  go_wp2_with fail
  clear f3
  refine (HP5.out.back hk (Th.UR.nil (fun _ => 0)) (by rw [Sg.thr_at]; show (σ.Ts k).nf ≤ _; have := HM.out; omega)).mono ?_; rintro _ w9 ⟨rfl, hm9, hk9⟩
  rw [Sg.thr_at, Sg.thr_thr] at hm9
  have HM9 := Lib.hid hm9; have HK9 := Lib.hid (HK5.out.trans hk9)
  clear hm9 hk9
  go_wp2_with fail
  first | (refine bodyPost_end (v := .tuple #[]) (by simp [results, Try.results34, go_sem]) rfl ?_) | (refine bodyPost_ret (v := .tuple #[]) (by simp [results, Try.results34, go_sem]) rfl ?_)
  rw [HQ.out]
  exact ⟨rfl, HM9.out, HK9.out⟩
set_option maxRecDepth 8000 in
set_option maxHeartbeats 2000000 in
theorem dr1 {w : World} {P : Pc} {σ : Sg} {ps : Nat → Nat → Nat} {fvs : Nat → Value} (h : MP w P σ ps fvs) {k m : Nat} (hk : k < P.t) (hm : (σ.Ts k).nf = m + 1) (hN : m ≤ 1000) (a0 : 0 ≤ σ.acc) (a1 : σ.acc < 1000000) (hpc : ((σ.Ts k).fs m).pc = 1) {b : Nat} (hb : ((σ.Ts k).fs m).r 0 = b) (hb3 : b < 3) (g1 : 0 ≤ ((σ.Ts k).fs m).r 1 ∧ ((σ.Ts k).fs m).r 1 < 18446744073709551616) :
    Calls Try.prog 34 #[.pointer (some ⟨P.q, 0, none⟩), .int .i64 k, .pointer (some ⟨P.tq k, 0, none⟩), .pointer (some ⟨ps k m, 0, none⟩)] w fun x w' => x = .returned (.tuple #[]) ∧ MM w' P (dr1S k m b σ) ∧ KA P.B P.N w w' := by
  refine Calls.veil fun Q HQ => ?_
  have HP := Lib.hid h
  have hmm : m < (σ.Ts k).nf := by omega
  have HMM := Lib.hid hmm; have HM := Lib.hid hm; have HPC := Lib.hid hpc
  have hbb := h.mm.bd
  obtain ⟨fb, hfb⟩ : ∃ fb, fb = ps k m := ⟨_, rfl⟩
  obtain ⟨r0, hr0⟩ : ∃ r0, r0 = ((σ.Ts k).fs m).r 0 := ⟨_, rfl⟩
  obtain ⟨r1, hr1⟩ : ∃ r1, r1 = ((σ.Ts k).fs m).r 1 := ⟨_, rfl⟩
  obtain ⟨r2, hr2⟩ : ∃ r2, r2 = ((σ.Ts k).fs m).r 2 := ⟨_, rfl⟩
  have HFB := Lib.hid hfb; have HR0 := Lib.hid hr0; have HR1 := Lib.hid hr1; have HR2 := Lib.hid hr2
  rw [← hfb]
  have f1 : w.cell? ⟨fb, 1, none⟩ = some (.int .i64 1) := by rw [hfb, h.pc hk hmm, hpc]
  have f2 : w.cell? ⟨fb, 2, none⟩ = some (.int .u64 r0) := by rw [hfb, hr0]; exact h.r hk hmm 0 (by omega)
  have f3 : w.cell? ⟨fb, 3, none⟩ = some (.int .u64 r1) := by rw [hfb, hr1]; exact h.r hk hmm 1 (by omega)
  have f4 : w.cell? ⟨fb, 4, none⟩ = some (.int .u64 r2) := by rw [hfb, hr2]; exact h.r hk hmm 2 (by omega)
  have rf : ∀ i, w.frozen? ⟨fb, i, none⟩ = false := fun i => by rw [hfb]; exact h.fr hk hmm i
  rw [← hr0] at hb
  rw [← hr1] at g1
  clear h hmm hm hpc hfb hr0 hr1 hr2
  go_enter Try.func34, Try.ntmps34
  have HB := Lib.hid hb; have HB3 := Lib.hid hb3
  have hwb : IntKind.i64.wrap (b : Int) = b := by rw [IntKind.wrap_i64]; omega
  have HL0 := Lib.hid (show ∀ y : Ext w, (Instr.loadAt 22 (.pointer (some ⟨fb, 2, none⟩))).run Try.prog y.w = .ok (.int .u64 (b : Int)) y.w from fun y => by (have hc : y.w.cell? ⟨fb, 2, none⟩ = some (.int .u64 (b : Int)) := (by rw [HFB.out, ← HB.out, HR0.out]; exact (HP.out.below y.h).r hk HMM.out 0 (by omega))); go_simp)
  clear f1 f2 f3 f4 rf hb
  go_upto_region 0 with fail
  refine Th.wp_region_K (fun w' => ∃ y : Ext w, w' = y.w) 10 (by decide +kernel) ?_
  generalize hwd : World.drew w = wd
  have hbd : Below w.heap.size w wd := by rw [← hwd]; exact (Below.refl _ _).drew
  clear hwd
  (refine Th.wpAnyK_takeY (i := 0) (v := ?_) rfl (by decide +kernel) (by decide +kernel) (by decide +kernel) (by decide) (fun _ _ _ h => h) (Or.inl ⟨by rfl, ?_⟩) (.inr ⟨⟨wd, hbd⟩, rfl⟩) ?_; rotate_left; (intro w; go_simp); (try with_reducible rfl))
  (try simp only [List.getElem_toArray, List.getElem_cons_succ, List.getElem_cons_zero, Act.put, List.setIfInBounds_toArray, List.set_cons_succ, List.set_cons_zero])
  (refine Th.wpAnyK_takeY (i := 2) (v := ?_) rfl (by decide +kernel) (by decide +kernel) (by decide +kernel) (by decide) (fun _ _ _ h => h) (Or.inl ⟨by rfl, ?_⟩) (.inr ⟨⟨wd, hbd⟩, rfl⟩) ?_; rotate_left; (intro w; go_simp); (try with_reducible rfl))
  (try simp only [List.getElem_toArray, List.getElem_cons_succ, List.getElem_cons_zero, Act.put, List.setIfInBounds_toArray, List.set_cons_succ, List.set_cons_zero])
  (refine Th.wpAnyK_takeY (i := 3) (v := ?_) rfl (by decide +kernel) (by decide +kernel) (by decide +kernel) (by decide) (fun _ _ _ h => h) (Or.inl ⟨by rfl, ?_⟩) (.inr ⟨⟨wd, hbd⟩, rfl⟩) ?_; rotate_left; (intro w; go_simp); (try with_reducible rfl))
  (try simp only [List.getElem_toArray, List.getElem_cons_succ, List.getElem_cons_zero, Act.put, List.setIfInBounds_toArray, List.set_cons_succ, List.set_cons_zero])
  (refine Th.wpAnyK_takeY (i := 4) (v := ?_) rfl (by decide +kernel) (by decide +kernel) (by decide +kernel) (by decide) (fun _ _ _ h => h) (Or.inl ⟨by rfl, ?_⟩) (.inr ⟨⟨wd, hbd⟩, rfl⟩) ?_; rotate_left; (intro w; go_simp); (try with_reducible rfl))
  (try simp only [List.getElem_toArray, List.getElem_cons_succ, List.getElem_cons_zero, Act.put, List.setIfInBounds_toArray, List.set_cons_succ, List.set_cons_zero])
  (refine Th.wpAnyK_takeY (i := 5) (v := ?_) rfl (by decide +kernel) (by decide +kernel) (by decide +kernel) (by decide) (fun _ _ _ h => h) (Or.inl ⟨by rfl, ?_⟩) (.inr ⟨⟨wd, hbd⟩, rfl⟩) ?_; rotate_left; (intro w; go_simp); (try with_reducible rfl))
  (try simp only [List.getElem_toArray, List.getElem_cons_succ, List.getElem_cons_zero, Act.put, List.setIfInBounds_toArray, List.set_cons_succ, List.set_cons_zero])
  (refine Th.wpAnyK_takeY (i := 6) (v := ?_) rfl (by decide +kernel) (by decide +kernel) (by decide +kernel) (by decide) (fun _ _ _ h => h) (Or.inl ⟨by rfl, ?_⟩) (.inr ⟨⟨wd, hbd⟩, rfl⟩) ?_; rotate_left; (intro w; go_simp); (try with_reducible rfl))
  (try simp only [List.getElem_toArray, List.getElem_cons_succ, List.getElem_cons_zero, Act.put, List.setIfInBounds_toArray, List.set_cons_succ, List.set_cons_zero])
  (refine Th.wpAnyK_take (i := 7) (v := .int .u64 (b : Int)) [8, 9, 10] rfl (by decide +kernel) (by decide +kernel) (by decide +kernel) (by decide +kernel) (fun _ _ _ h => h) (Th.yields_loadK rfl 22 (.tmp 16) rfl rfl (by rintro _ ⟨y, rfl⟩; exact HL0.out y)) ⟨⟨wd, hbd⟩, rfl⟩ ?_)
  (try simp only [List.getElem_toArray, List.getElem_cons_succ, List.getElem_cons_zero, Act.put, List.setIfInBounds_toArray, List.set_cons_succ, List.set_cons_zero])
  (refine Th.wpAnyK_takeY (i := 8) (v := ?_) rfl (by decide +kernel) (by decide +kernel) (by decide +kernel) (by decide) (fun _ _ _ h => h) (Or.inl ⟨by rfl, ?_⟩) (.inr ⟨⟨wd, hbd⟩, rfl⟩) ?_; rotate_left; (intro w; go_simp); (try with_reducible rfl))
  (try simp only [List.getElem_toArray, List.getElem_cons_succ, List.getElem_cons_zero, Act.put, List.setIfInBounds_toArray, List.set_cons_succ, List.set_cons_zero])
  (refine Th.wpAnyK_ready (rs := [1]) (by decide +kernel) (by simp) ?_; refine (Th.AllReadyK.cons rfl (fun K hK => ?_) Th.AllReadyK.nil))
  refine step_of rfl ?_
  go_step
  refine (cPlan (HP.out.below hbd).c).mono ?_; rintro _ w6 ⟨rfl, hw6⟩
  rw [← hw6]
  refine hK _ _ (.inr ⟨⟨wd, hbd⟩, rfl⟩) ?_
  clear hK K hw6
  (try simp only [List.getElem_toArray, List.getElem_cons_succ, List.getElem_cons_zero, Act.put, List.setIfInBounds_toArray, List.set_cons_succ, List.set_cons_zero])
  (refine Th.wpAnyK_ready (rs := [9]) (by decide +kernel) (by simp) ?_; refine (Th.AllReadyK.cons rfl (fun K hK => ?_) Th.AllReadyK.nil))
  refine step_of rfl ?_
  go_step
  refine (pbag_calls _ _ _ _ _ _ (HP.out.below hbd).c.p0 (HP.out.below hbd).c.p1 (by omega) (by omega) (by omega) (by omega)).mono ?_; rintro _ w7 ⟨rfl, hb7⟩
  rw [of_bg hk HB3.out]
  have hb7 := below_on hbd hb7
  refine hK _ _ (.inr ⟨⟨w7, hb7⟩, rfl⟩) ?_
  clear hK K
  (try simp only [List.getElem_toArray, List.getElem_cons_succ, List.getElem_cons_zero, Act.put, List.setIfInBounds_toArray, List.set_cons_succ, List.set_cons_zero])
  (refine Th.wpAnyK_ready (rs := [10]) (by decide +kernel) (by simp) ?_; refine (Th.AllReadyK.cons rfl (fun K hK => ?_) Th.AllReadyK.nil))
  refine step_of rfl ?_
  go_step
  refine hK _ _ (.inl rfl) ?_
  clear hK K
  refine Th.wpAnyK_done (by decide +kernel) ?_ _
  have HP7 := Lib.hid (HP.out.below hb7); have HK7 := Lib.hid (KA.of_below hb7 : KA P.B P.N w w7)
  have f1 := HP7.out.pc hk HMM.out
  have f3 := HP7.out.r hk HMM.out 1 (by omega)
  have rf := HP7.out.fr hk HMM.out
  rw [← HFB.out] at f1 f3 rf
  rw [HPC.out] at f1
  rw [← HR1.out] at f3
  clear hb7 hbd HL0 HP hwb
  go_wp2_with fail
  clear f1 f3 rf
  refine (cMem HP7.out.c).mono ?_; rintro _ _ ⟨rfl, rfl⟩
  go_wp2_with fail
  refine (HP7.out.store (bgI k b) (by unfold bgI; omega) 0 (by omega) (by omega) a0 a1).mono ?_; rintro _ w8 ⟨rfl, hp8, hk8⟩
  have HP8 := Lib.hid hp8; have HK8 := Lib.hid (HK7.out.trans hk8)
  clear hp8 hk8 HP7 HK7
  have g1' := HP8.out.pc hk (m := m) (by exact HMM.out)
  have g3' := HP8.out.fr hk (m := m) (by exact HMM.out)
  rw [← HFB.out] at g1' g3'
  go_wp2_with fail
  clear g1' g3'
  generalize hW : World.setCell _ _ _ = V1
  obtain ⟨hp1, hk1⟩ : MP V1 P _ ps fvs ∧ KA P.B P.N _ V1 := by rw [← hW, HFB.out]; exact HP8.out.setPC hk (by exact HMM.out) 2
  have HV1 := Lib.hid hp1; have HKV1 := Lib.hid (HK8.out.trans hk1)
  clear hW hp1 hk1
  first | (refine bodyPost_end (v := .tuple #[]) (by simp [results, Try.results34, go_sem]) rfl ?_) | (refine bodyPost_ret (v := .tuple #[]) (by simp [results, Try.results34, go_sem]) rfl ?_)
  rw [HQ.out]
  exact ⟨rfl, HV1.out.mm, HKV1.out⟩
set_option maxRecDepth 8000 in
set_option maxHeartbeats 2000000 in
theorem dr2z {w : World} {P : Pc} {σ : Sg} {ps : Nat → Nat → Nat} {fvs : Nat → Value} (h : MP w P σ ps fvs) {k m : Nat} (hk : k < P.t) (hm : (σ.Ts k).nf = m + 1) (hN : m ≤ 1000) (a0 : 0 ≤ σ.acc) (a1 : σ.acc < 1000000) (hpc : ((σ.Ts k).fs m).pc = 2) {b : Nat} (hb : ((σ.Ts k).fs m).r 0 = b) (hb3 : b < 3) (g1 : 0 ≤ ((σ.Ts k).fs m).r 1 ∧ ((σ.Ts k).fs m).r 1 < 18446744073709551616) (hz : ((σ.Ts k).fs m).r 1 = 0) :
    Calls Try.prog 34 #[.pointer (some ⟨P.q, 0, none⟩), .int .i64 k, .pointer (some ⟨P.tq k, 0, none⟩), .pointer (some ⟨ps k m, 0, none⟩)] w fun x w' => x = .returned (.tuple #[]) ∧ MM w' P (dr2zS k σ) ∧ KA P.B P.N w w' := by
  refine Calls.veil fun Q HQ => ?_
  have HP := Lib.hid h
  have hmm : m < (σ.Ts k).nf := by omega
  have HMM := Lib.hid hmm; have HM := Lib.hid hm; have HPC := Lib.hid hpc
  have hbb := h.mm.bd
  obtain ⟨fb, hfb⟩ : ∃ fb, fb = ps k m := ⟨_, rfl⟩
  obtain ⟨r0, hr0⟩ : ∃ r0, r0 = ((σ.Ts k).fs m).r 0 := ⟨_, rfl⟩
  obtain ⟨r1, hr1⟩ : ∃ r1, r1 = ((σ.Ts k).fs m).r 1 := ⟨_, rfl⟩
  obtain ⟨r2, hr2⟩ : ∃ r2, r2 = ((σ.Ts k).fs m).r 2 := ⟨_, rfl⟩
  have HFB := Lib.hid hfb; have HR0 := Lib.hid hr0; have HR1 := Lib.hid hr1; have HR2 := Lib.hid hr2
  rw [← hfb]
  have f1 : w.cell? ⟨fb, 1, none⟩ = some (.int .i64 2) := by rw [hfb, h.pc hk hmm, hpc]
  have f2 : w.cell? ⟨fb, 2, none⟩ = some (.int .u64 r0) := by rw [hfb, hr0]; exact h.r hk hmm 0 (by omega)
  have f3 : w.cell? ⟨fb, 3, none⟩ = some (.int .u64 r1) := by rw [hfb, hr1]; exact h.r hk hmm 1 (by omega)
  have f4 : w.cell? ⟨fb, 4, none⟩ = some (.int .u64 r2) := by rw [hfb, hr2]; exact h.r hk hmm 2 (by omega)
  have rf : ∀ i, w.frozen? ⟨fb, i, none⟩ = false := fun i => by rw [hfb]; exact h.fr hk hmm i
  rw [← hr0] at hb
  rw [← hr1] at g1
  rw [← hr1] at hz
  clear h hmm hm hpc hfb hr0 hr1 hr2
  go_enter Try.func34, Try.ntmps34
  have HZ := Lib.hid hz
  clear hz
  have HB := Lib.hid hb; have HB3 := Lib.hid hb3
  have hwb : IntKind.i64.wrap (b : Int) = b := by rw [IntKind.wrap_i64]; omega
  have HL0 := Lib.hid (show ∀ y : Ext w, (Instr.loadAt 22 (.pointer (some ⟨fb, 2, none⟩))).run Try.prog y.w = .ok (.int .u64 (b : Int)) y.w from fun y => by (have hc : y.w.cell? ⟨fb, 2, none⟩ = some (.int .u64 (b : Int)) := (by rw [HFB.out, ← HB.out, HR0.out]; exact (HP.out.below y.h).r hk HMM.out 0 (by omega))); go_simp)
  clear f1 f2 f3 f4 rf hb
  go_upto_region 0 with fail
  refine Th.wp_region_K (fun w' => ∃ y : Ext w, w' = y.w) 10 (by decide +kernel) ?_
  generalize hwd : World.drew w = wd
  have hbd : Below w.heap.size w wd := by rw [← hwd]; exact (Below.refl _ _).drew
  clear hwd
  (refine Th.wpAnyK_takeY (i := 0) (v := ?_) rfl (by decide +kernel) (by decide +kernel) (by decide +kernel) (by decide) (fun _ _ _ h => h) (Or.inl ⟨by rfl, ?_⟩) (.inr ⟨⟨wd, hbd⟩, rfl⟩) ?_; rotate_left; (intro w; go_simp); (try with_reducible rfl))
  (try simp only [List.getElem_toArray, List.getElem_cons_succ, List.getElem_cons_zero, Act.put, List.setIfInBounds_toArray, List.set_cons_succ, List.set_cons_zero])
  (refine Th.wpAnyK_takeY (i := 2) (v := ?_) rfl (by decide +kernel) (by decide +kernel) (by decide +kernel) (by decide) (fun _ _ _ h => h) (Or.inl ⟨by rfl, ?_⟩) (.inr ⟨⟨wd, hbd⟩, rfl⟩) ?_; rotate_left; (intro w; go_simp); (try with_reducible rfl))
  (try simp only [List.getElem_toArray, List.getElem_cons_succ, List.getElem_cons_zero, Act.put, List.setIfInBounds_toArray, List.set_cons_succ, List.set_cons_zero])
  (refine Th.wpAnyK_takeY (i := 3) (v := ?_) rfl (by decide +kernel) (by decide +kernel) (by decide +kernel) (by decide) (fun _ _ _ h => h) (Or.inl ⟨by rfl, ?_⟩) (.inr ⟨⟨wd, hbd⟩, rfl⟩) ?_; rotate_left; (intro w; go_simp); (try with_reducible rfl))
  (try simp only [List.getElem_toArray, List.getElem_cons_succ, List.getElem_cons_zero, Act.put, List.setIfInBounds_toArray, List.set_cons_succ, List.set_cons_zero])
  (refine Th.wpAnyK_takeY (i := 4) (v := ?_) rfl (by decide +kernel) (by decide +kernel) (by decide +kernel) (by decide) (fun _ _ _ h => h) (Or.inl ⟨by rfl, ?_⟩) (.inr ⟨⟨wd, hbd⟩, rfl⟩) ?_; rotate_left; (intro w; go_simp); (try with_reducible rfl))
  (try simp only [List.getElem_toArray, List.getElem_cons_succ, List.getElem_cons_zero, Act.put, List.setIfInBounds_toArray, List.set_cons_succ, List.set_cons_zero])
  (refine Th.wpAnyK_takeY (i := 5) (v := ?_) rfl (by decide +kernel) (by decide +kernel) (by decide +kernel) (by decide) (fun _ _ _ h => h) (Or.inl ⟨by rfl, ?_⟩) (.inr ⟨⟨wd, hbd⟩, rfl⟩) ?_; rotate_left; (intro w; go_simp); (try with_reducible rfl))
  (try simp only [List.getElem_toArray, List.getElem_cons_succ, List.getElem_cons_zero, Act.put, List.setIfInBounds_toArray, List.set_cons_succ, List.set_cons_zero])
  (refine Th.wpAnyK_takeY (i := 6) (v := ?_) rfl (by decide +kernel) (by decide +kernel) (by decide +kernel) (by decide) (fun _ _ _ h => h) (Or.inl ⟨by rfl, ?_⟩) (.inr ⟨⟨wd, hbd⟩, rfl⟩) ?_; rotate_left; (intro w; go_simp); (try with_reducible rfl))
  (try simp only [List.getElem_toArray, List.getElem_cons_succ, List.getElem_cons_zero, Act.put, List.setIfInBounds_toArray, List.set_cons_succ, List.set_cons_zero])
  (refine Th.wpAnyK_take (i := 7) (v := .int .u64 (b : Int)) [8, 9, 10] rfl (by decide +kernel) (by decide +kernel) (by decide +kernel) (by decide +kernel) (fun _ _ _ h => h) (Th.yields_loadK rfl 22 (.tmp 16) rfl rfl (by rintro _ ⟨y, rfl⟩; exact HL0.out y)) ⟨⟨wd, hbd⟩, rfl⟩ ?_)
  (try simp only [List.getElem_toArray, List.getElem_cons_succ, List.getElem_cons_zero, Act.put, List.setIfInBounds_toArray, List.set_cons_succ, List.set_cons_zero])
  (refine Th.wpAnyK_takeY (i := 8) (v := ?_) rfl (by decide +kernel) (by decide +kernel) (by decide +kernel) (by decide) (fun _ _ _ h => h) (Or.inl ⟨by rfl, ?_⟩) (.inr ⟨⟨wd, hbd⟩, rfl⟩) ?_; rotate_left; (intro w; go_simp); (try with_reducible rfl))
  (try simp only [List.getElem_toArray, List.getElem_cons_succ, List.getElem_cons_zero, Act.put, List.setIfInBounds_toArray, List.set_cons_succ, List.set_cons_zero])
  (refine Th.wpAnyK_ready (rs := [1]) (by decide +kernel) (by simp) ?_; refine (Th.AllReadyK.cons rfl (fun K hK => ?_) Th.AllReadyK.nil))
  refine step_of rfl ?_
  go_step
  refine (cPlan (HP.out.below hbd).c).mono ?_; rintro _ w6 ⟨rfl, hw6⟩
  rw [← hw6]
  refine hK _ _ (.inr ⟨⟨wd, hbd⟩, rfl⟩) ?_
  clear hK K hw6
  (try simp only [List.getElem_toArray, List.getElem_cons_succ, List.getElem_cons_zero, Act.put, List.setIfInBounds_toArray, List.set_cons_succ, List.set_cons_zero])
  (refine Th.wpAnyK_ready (rs := [9]) (by decide +kernel) (by simp) ?_; refine (Th.AllReadyK.cons rfl (fun K hK => ?_) Th.AllReadyK.nil))
  refine step_of rfl ?_
  go_step
  refine (pbag_calls _ _ _ _ _ _ (HP.out.below hbd).c.p0 (HP.out.below hbd).c.p1 (by omega) (by omega) (by omega) (by omega)).mono ?_; rintro _ w7 ⟨rfl, hb7⟩
  rw [of_bg hk HB3.out]
  have hb7 := below_on hbd hb7
  refine hK _ _ (.inr ⟨⟨w7, hb7⟩, rfl⟩) ?_
  clear hK K
  (try simp only [List.getElem_toArray, List.getElem_cons_succ, List.getElem_cons_zero, Act.put, List.setIfInBounds_toArray, List.set_cons_succ, List.set_cons_zero])
  (refine Th.wpAnyK_ready (rs := [10]) (by decide +kernel) (by simp) ?_; refine (Th.AllReadyK.cons rfl (fun K hK => ?_) Th.AllReadyK.nil))
  refine step_of rfl ?_
  go_step
  refine hK _ _ (.inl rfl) ?_
  clear hK K
  refine Th.wpAnyK_done (by decide +kernel) ?_ _
  have HP7 := Lib.hid (HP.out.below hb7); have HK7 := Lib.hid (KA.of_below hb7 : KA P.B P.N w w7)
  have f1 := HP7.out.pc hk HMM.out
  have f3 := HP7.out.r hk HMM.out 1 (by omega)
  have rf := HP7.out.fr hk HMM.out
  rw [← HFB.out] at f1 f3 rf
  rw [HPC.out] at f1
  rw [← HR1.out] at f3
  clear hb7 hbd HL0 HP hwb
  rw [HZ.out] at f3
  go_wp2_with fail
  clear f1 f3 rf
  refine (HP7.out.back hk (Th.UR.nil (fun _ => 0)) (by have := HM.out; omega)).mono ?_; rintro _ w9 ⟨rfl, hm9, hk9⟩
  have HM9 := Lib.hid hm9; have HK9 := Lib.hid (HK7.out.trans hk9)
  clear hm9 hk9
  go_wp2_with fail
  first | (refine bodyPost_end (v := .tuple #[]) (by simp [results, Try.results34, go_sem]) rfl ?_) | (refine bodyPost_ret (v := .tuple #[]) (by simp [results, Try.results34, go_sem]) rfl ?_)
  rw [HQ.out]
  exact ⟨rfl, HM9.out, HK9.out⟩
set_option maxRecDepth 8000 in
set_option maxHeartbeats 2000000 in
theorem dr2n {w : World} {P : Pc} {σ : Sg} {ps : Nat → Nat → Nat} {fvs : Nat → Value} (h : MP w P σ ps fvs) {k m : Nat} (hk : k < P.t) (hm : (σ.Ts k).nf = m + 1) (hN : m ≤ 1000) (a0 : 0 ≤ σ.acc) (a1 : σ.acc < 1000000) (hpc : ((σ.Ts k).fs m).pc = 2) {b : Nat} (hb : ((σ.Ts k).fs m).r 0 = b) (hb3 : b < 3) (g1 : 0 ≤ ((σ.Ts k).fs m).r 1 ∧ ((σ.Ts k).fs m).r 1 < 18446744073709551616) (hz : (((σ.Ts k).fs m).r 1 == 0) = false) {nx : Nat} (hl : Gd.leadsB P.s σ.H σ.G (((σ.Ts k).fs m).r 1) = true) (hn : ((σ.Ts k).fs m).r 1 % 4096 = nx) (n1 : 1 ≤ nx) (n2 : nx ≤ P.s) :
    Calls Try.prog 34 #[.pointer (some ⟨P.q, 0, none⟩), .int .i64 k, .pointer (some ⟨P.tq k, 0, none⟩), .pointer (some ⟨ps k m, 0, none⟩)] w fun x w' => x = .returned (.tuple #[]) ∧ MM w' P (dr2nS P k m nx σ) ∧ KA P.B P.N w w' := by
  refine Calls.veil fun Q HQ => ?_
  have HP := Lib.hid h
  have hmm : m < (σ.Ts k).nf := by omega
  have HMM := Lib.hid hmm; have HM := Lib.hid hm; have HPC := Lib.hid hpc
  have hbb := h.mm.bd
  obtain ⟨fb, hfb⟩ : ∃ fb, fb = ps k m := ⟨_, rfl⟩
  obtain ⟨r0, hr0⟩ : ∃ r0, r0 = ((σ.Ts k).fs m).r 0 := ⟨_, rfl⟩
  obtain ⟨r1, hr1⟩ : ∃ r1, r1 = ((σ.Ts k).fs m).r 1 := ⟨_, rfl⟩
  obtain ⟨r2, hr2⟩ : ∃ r2, r2 = ((σ.Ts k).fs m).r 2 := ⟨_, rfl⟩
  have HFB := Lib.hid hfb; have HR0 := Lib.hid hr0; have HR1 := Lib.hid hr1; have HR2 := Lib.hid hr2
  rw [← hfb]
  have f1 : w.cell? ⟨fb, 1, none⟩ = some (.int .i64 2) := by rw [hfb, h.pc hk hmm, hpc]
  have f2 : w.cell? ⟨fb, 2, none⟩ = some (.int .u64 r0) := by rw [hfb, hr0]; exact h.r hk hmm 0 (by omega)
  have f3 : w.cell? ⟨fb, 3, none⟩ = some (.int .u64 r1) := by rw [hfb, hr1]; exact h.r hk hmm 1 (by omega)
  have f4 : w.cell? ⟨fb, 4, none⟩ = some (.int .u64 r2) := by rw [hfb, hr2]; exact h.r hk hmm 2 (by omega)
  have rf : ∀ i, w.frozen? ⟨fb, i, none⟩ = false := fun i => by rw [hfb]; exact h.fr hk hmm i
  rw [← hr0] at hb
  rw [← hr1] at g1
  rw [← hr1] at hz
  rw [← hr1] at hl
  rw [← hr1] at hn
  clear h hmm hm hpc hfb hr0 hr1 hr2
  go_enter Try.func34, Try.ntmps34
  have HZ := Lib.hid hz; have HL := Lib.hid hl; have HN := Lib.hid hn
  clear hz hl hn
  have HB := Lib.hid hb; have HB3 := Lib.hid hb3
  have hwb : IntKind.i64.wrap (b : Int) = b := by rw [IntKind.wrap_i64]; omega
  have HL0 := Lib.hid (show ∀ y : Ext w, (Instr.loadAt 22 (.pointer (some ⟨fb, 2, none⟩))).run Try.prog y.w = .ok (.int .u64 (b : Int)) y.w from fun y => by (have hc : y.w.cell? ⟨fb, 2, none⟩ = some (.int .u64 (b : Int)) := (by rw [HFB.out, ← HB.out, HR0.out]; exact (HP.out.below y.h).r hk HMM.out 0 (by omega))); go_simp)
  clear f1 f2 f3 f4 rf hb
  go_upto_region 0 with fail
  refine Th.wp_region_K (fun w' => ∃ y : Ext w, w' = y.w) 10 (by decide +kernel) ?_
  generalize hwd : World.drew w = wd
  have hbd : Below w.heap.size w wd := by rw [← hwd]; exact (Below.refl _ _).drew
  clear hwd
  (refine Th.wpAnyK_takeY (i := 0) (v := ?_) rfl (by decide +kernel) (by decide +kernel) (by decide +kernel) (by decide) (fun _ _ _ h => h) (Or.inl ⟨by rfl, ?_⟩) (.inr ⟨⟨wd, hbd⟩, rfl⟩) ?_; rotate_left; (intro w; go_simp); (try with_reducible rfl))
  (try simp only [List.getElem_toArray, List.getElem_cons_succ, List.getElem_cons_zero, Act.put, List.setIfInBounds_toArray, List.set_cons_succ, List.set_cons_zero])
  (refine Th.wpAnyK_takeY (i := 2) (v := ?_) rfl (by decide +kernel) (by decide +kernel) (by decide +kernel) (by decide) (fun _ _ _ h => h) (Or.inl ⟨by rfl, ?_⟩) (.inr ⟨⟨wd, hbd⟩, rfl⟩) ?_; rotate_left; (intro w; go_simp); (try with_reducible rfl))
  (try simp only [List.getElem_toArray, List.getElem_cons_succ, List.getElem_cons_zero, Act.put, List.setIfInBounds_toArray, List.set_cons_succ, List.set_cons_zero])
  (refine Th.wpAnyK_takeY (i := 3) (v := ?_) rfl (by decide +kernel) (by decide +kernel) (by decide +kernel) (by decide) (fun _ _ _ h => h) (Or.inl ⟨by rfl, ?_⟩) (.inr ⟨⟨wd, hbd⟩, rfl⟩) ?_; rotate_left; (intro w; go_simp); (try with_reducible rfl))
  (try simp only [List.getElem_toArray, List.getElem_cons_succ, List.getElem_cons_zero, Act.put, List.setIfInBounds_toArray, List.set_cons_succ, List.set_cons_zero])
  (refine Th.wpAnyK_takeY (i := 4) (v := ?_) rfl (by decide +kernel) (by decide +kernel) (by decide +kernel) (by decide) (fun _ _ _ h => h) (Or.inl ⟨by rfl, ?_⟩) (.inr ⟨⟨wd, hbd⟩, rfl⟩) ?_; rotate_left; (intro w; go_simp); (try with_reducible rfl))
  (try simp only [List.getElem_toArray, List.getElem_cons_succ, List.getElem_cons_zero, Act.put, List.setIfInBounds_toArray, List.set_cons_succ, List.set_cons_zero])
  (refine Th.wpAnyK_takeY (i := 5) (v := ?_) rfl (by decide +kernel) (by decide +kernel) (by decide +kernel) (by decide) (fun _ _ _ h => h) (Or.inl ⟨by rfl, ?_⟩) (.inr ⟨⟨wd, hbd⟩, rfl⟩) ?_; rotate_left; (intro w; go_simp); (try with_reducible rfl))
  (try simp only [List.getElem_toArray, List.getElem_cons_succ, List.getElem_cons_zero, Act.put, List.setIfInBounds_toArray, List.set_cons_succ, List.set_cons_zero])
  (refine Th.wpAnyK_takeY (i := 6) (v := ?_) rfl (by decide +kernel) (by decide +kernel) (by decide +kernel) (by decide) (fun _ _ _ h => h) (Or.inl ⟨by rfl, ?_⟩) (.inr ⟨⟨wd, hbd⟩, rfl⟩) ?_; rotate_left; (intro w; go_simp); (try with_reducible rfl))
  (try simp only [List.getElem_toArray, List.getElem_cons_succ, List.getElem_cons_zero, Act.put, List.setIfInBounds_toArray, List.set_cons_succ, List.set_cons_zero])
  (refine Th.wpAnyK_take (i := 7) (v := .int .u64 (b : Int)) [8, 9, 10] rfl (by decide +kernel) (by decide +kernel) (by decide +kernel) (by decide +kernel) (fun _ _ _ h => h) (Th.yields_loadK rfl 22 (.tmp 16) rfl rfl (by rintro _ ⟨y, rfl⟩; exact HL0.out y)) ⟨⟨wd, hbd⟩, rfl⟩ ?_)
  (try simp only [List.getElem_toArray, List.getElem_cons_succ, List.getElem_cons_zero, Act.put, List.setIfInBounds_toArray, List.set_cons_succ, List.set_cons_zero])
  (refine Th.wpAnyK_takeY (i := 8) (v := ?_) rfl (by decide +kernel) (by decide +kernel) (by decide +kernel) (by decide) (fun _ _ _ h => h) (Or.inl ⟨by rfl, ?_⟩) (.inr ⟨⟨wd, hbd⟩, rfl⟩) ?_; rotate_left; (intro w; go_simp); (try with_reducible rfl))
  (try simp only [List.getElem_toArray, List.getElem_cons_succ, List.getElem_cons_zero, Act.put, List.setIfInBounds_toArray, List.set_cons_succ, List.set_cons_zero])
  (refine Th.wpAnyK_ready (rs := [1]) (by decide +kernel) (by simp) ?_; refine (Th.AllReadyK.cons rfl (fun K hK => ?_) Th.AllReadyK.nil))
  refine step_of rfl ?_
  go_step
  refine (cPlan (HP.out.below hbd).c).mono ?_; rintro _ w6 ⟨rfl, hw6⟩
  rw [← hw6]
  refine hK _ _ (.inr ⟨⟨wd, hbd⟩, rfl⟩) ?_
  clear hK K hw6
  (try simp only [List.getElem_toArray, List.getElem_cons_succ, List.getElem_cons_zero, Act.put, List.setIfInBounds_toArray, List.set_cons_succ, List.set_cons_zero])
  (refine Th.wpAnyK_ready (rs := [9]) (by decide +kernel) (by simp) ?_; refine (Th.AllReadyK.cons rfl (fun K hK => ?_) Th.AllReadyK.nil))
  refine step_of rfl ?_
  go_step
  refine (pbag_calls _ _ _ _ _ _ (HP.out.below hbd).c.p0 (HP.out.below hbd).c.p1 (by omega) (by omega) (by omega) (by omega)).mono ?_; rintro _ w7 ⟨rfl, hb7⟩
  rw [of_bg hk HB3.out]
  have hb7 := below_on hbd hb7
  refine hK _ _ (.inr ⟨⟨w7, hb7⟩, rfl⟩) ?_
  clear hK K
  (try simp only [List.getElem_toArray, List.getElem_cons_succ, List.getElem_cons_zero, Act.put, List.setIfInBounds_toArray, List.set_cons_succ, List.set_cons_zero])
  (refine Th.wpAnyK_ready (rs := [10]) (by decide +kernel) (by simp) ?_; refine (Th.AllReadyK.cons rfl (fun K hK => ?_) Th.AllReadyK.nil))
  refine step_of rfl ?_
  go_step
  refine hK _ _ (.inl rfl) ?_
  clear hK K
  refine Th.wpAnyK_done (by decide +kernel) ?_ _
  have HP7 := Lib.hid (HP.out.below hb7); have HK7 := Lib.hid (KA.of_below hb7 : KA P.B P.N w w7)
  have f1 := HP7.out.pc hk HMM.out
  have f3 := HP7.out.r hk HMM.out 1 (by omega)
  have rf := HP7.out.fr hk HMM.out
  rw [← HFB.out] at f1 f3 rf
  rw [HPC.out] at f1
  rw [← HR1.out] at f3
  clear hb7 hbd HL0 HP hwb
  have hz := HZ.out
  go_upto_region 14 with fail
  clear f1 f3 rf hz
  refine Th.wp_region_K (fun _ => True) 7 (by decide +kernel) ?_
  generalize hwd : World.drew w7 = wd
  have hdd : Below (w7).heap.size (w7) wd := by rw [← hwd]; exact (Below.refl _ _).drew
  have HPD := Lib.hid (HP7.out.below hdd); have HKD := Lib.hid (HK7.out.trans (KA.of_below hdd))
  clear hwd hdd HP7 HK7
  (refine Th.wpAnyK_takeY (i := 0) (v := ?_) rfl (by decide +kernel) (by decide +kernel) (by decide +kernel) (by decide) (fun _ _ _ h => h) (Or.inl ⟨by rfl, ?_⟩) (.inr trivial) ?_; rotate_left; (intro w; go_simp); (try with_reducible rfl))
  (try simp only [List.getElem_toArray, List.getElem_cons_succ, List.getElem_cons_zero, Act.put, List.setIfInBounds_toArray, List.set_cons_succ, List.set_cons_zero])
  (refine Th.wpAnyK_takeY (i := 1) (v := ?_) rfl (by decide +kernel) (by decide +kernel) (by decide +kernel) (by decide) (fun _ _ _ h => h) (Or.inl ⟨by rfl, ?_⟩) (.inr trivial) ?_; rotate_left; (intro w; go_simp); (try with_reducible rfl))
  (try simp only [List.getElem_toArray, List.getElem_cons_succ, List.getElem_cons_zero, Act.put, List.setIfInBounds_toArray, List.set_cons_succ, List.set_cons_zero])
  (refine Th.wpAnyK_takeY (i := 2) (v := ?_) rfl (by decide +kernel) (by decide +kernel) (by decide +kernel) (by decide) (fun _ _ _ h => h) (Or.inl ⟨by rfl, ?_⟩) (.inr trivial) ?_; rotate_left; (intro w; go_simp); (try with_reducible rfl))
  (try simp only [List.getElem_toArray, List.getElem_cons_succ, List.getElem_cons_zero, Act.put, List.setIfInBounds_toArray, List.set_cons_succ, List.set_cons_zero])
  (refine Th.wpAnyK_takeY (i := 4) (v := ?_) rfl (by decide +kernel) (by decide +kernel) (by decide +kernel) (by decide) (fun _ _ _ h => h) (Or.inl ⟨by rfl, ?_⟩) (.inr trivial) ?_; rotate_left; (intro w; go_simp); (try with_reducible rfl))
  (try simp only [List.getElem_toArray, List.getElem_cons_succ, List.getElem_cons_zero, Act.put, List.setIfInBounds_toArray, List.set_cons_succ, List.set_cons_zero])
  (refine Th.wpAnyK_takeY (i := 5) (v := ?_) rfl (by decide +kernel) (by decide +kernel) (by decide +kernel) (by decide) (fun _ _ _ h => h) (Or.inl ⟨by rfl, ?_⟩) (.inr trivial) ?_; rotate_left; (intro w; go_simp); (try with_reducible rfl))
  (try simp only [List.getElem_toArray, List.getElem_cons_succ, List.getElem_cons_zero, Act.put, List.setIfInBounds_toArray, List.set_cons_succ, List.set_cons_zero])
  (refine Th.wpAnyK_ready (rs := [3]) (by decide +kernel) (by simp) ?_; refine (Th.AllReadyK.cons rfl (fun K hK => ?_) Th.AllReadyK.nil))
  refine step_of rfl ?_
  go_step
  refine (HPD.out.read g1.1 g1.2 HL.out HN.out n1 n2 (by decide) a0 a1).mono ?_; rintro _ w3 ⟨rfl, hp3, hk3⟩
  have HP3 := Lib.hid hp3; have HK3 := Lib.hid (HKD.out.trans hk3)
  refine hK _ _ (.inr trivial) ?_
  clear hK K
  clear hp3 hk3 HPD HKD
  (try simp only [List.getElem_toArray, List.getElem_cons_succ, List.getElem_cons_zero, Act.put, List.setIfInBounds_toArray, List.set_cons_succ, List.set_cons_zero])
  have r2 : w3.cell? ⟨fb, 3, none⟩ = some (.int .u64 (((σ.Ts k).fs m).r 1)) := by rw [HFB.out]; exact HP3.out.r hk HMM.out 1 (by omega)
  have rf : ∀ i, w3.frozen? ⟨fb, i, none⟩ = false := fun i => by rw [HFB.out]; exact HP3.out.fr hk HMM.out i
  (refine Th.wpAnyK_takeY (i := 6) (v := ?_) rfl (by decide +kernel) (by decide +kernel) (by decide +kernel) (by decide) (fun _ _ _ h => h) (Or.inl ⟨by rfl, ?_⟩) (.inr trivial) ?_; rotate_left; (intro w; go_simp); (try with_reducible rfl))
  (try simp only [List.getElem_toArray, List.getElem_cons_succ, List.getElem_cons_zero, Act.put, List.setIfInBounds_toArray, List.set_cons_succ, List.set_cons_zero])
  (refine Th.wpAnyK_ready (rs := [7]) (by decide +kernel) (by simp) ?_; refine (Th.AllReadyK.cons rfl (fun K hK => ?_) Th.AllReadyK.nil))
  refine step_of rfl ?_
  go_step
  refine hK _ _ (.inl rfl) ?_
  clear hK K
  refine Th.wpAnyK_done (by decide +kernel) ?_ _
  clear r2 rf
  generalize hW : World.setCell _ _ _ = W
  obtain ⟨hp4, hk4⟩ : MP W P _ ps fvs ∧ KA P.B P.N w3 W := by rw [← hW, HFB.out]; exact HP3.out.setR hk HMM.out 1 (σ.f (Sl.nd P.t nx 0))
  have HP4 := Lib.hid hp4; have HK4 := Lib.hid (HK3.out.trans hk4)
  clear hW hp4 hk4 HP3 HK3
  have f1 : W.cell? ⟨fb, 1, none⟩ = some (.int .i64 2) := by rw [HFB.out, HP4.out.pc hk (by rw [Sg.thr_at]; exact HMM.out), Sg.thr_at, setF_fs]; exact congrArg _ (congrArg _ HPC.out)
  have rf : ∀ i, W.frozen? ⟨fb, i, none⟩ = false := fun i => by rw [HFB.out]; exact HP4.out.fr hk (by rw [Sg.thr_at]; exact HMM.out) i
  clear f1 rf
  have hwb : IntKind.u64.wrap r1 = r1 := by rw [IntKind.wrap_u64]; omega
  go_wp2_with fail
  generalize hU : World.alloc _ _ = U
  obtain ⟨u0, hbu⟩ := Th.heapnewE hU
  have HPU := Lib.hid (HP4.out.below hbu); have HKU := Lib.hid (HK4.out.trans (KA.of_below hbu))
  have hur := ur_one u0
  clear hU u0 hbu hwb
  refine (mcall (n := 1) (L := fun _ => r1) HPU.out.mm hk 2 hur (by rw [Sg.thr_at]; show (σ.Ts k).nf ≤ _; have := HM.out; omega)).mono ?_; rintro _ w9 ⟨rfl, hm9, hk9⟩
  rw [Sg.thr_at, Sg.thr_thr, HR1.out] at hm9
  have HM9 := Lib.hid hm9; have HK9 := Lib.hid (HKU.out.trans hk9)
  clear hur hm9 hk9
  go_wp2_with fail
  first | (refine bodyPost_end (v := .tuple #[]) (by simp [results, Try.results34, go_sem]) rfl ?_) | (refine bodyPost_ret (v := .tuple #[]) (by simp [results, Try.results34, go_sem]) rfl ?_)
  rw [HQ.out]
  exact ⟨rfl, HM9.out, HK9.out⟩
end Go.Proofs.Ytaaciolfgplnoaa
