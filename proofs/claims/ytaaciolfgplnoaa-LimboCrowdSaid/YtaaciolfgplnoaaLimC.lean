/- Layer 19: steps of Retire, third part. -/
import Derived.Test.YtaaciolfgplnoaaGAW
namespace Go.Proofs.Ytaaciolfgplnoaa
open Go.RowKit WordM EdgeM
set_option linter.unusedVariables false
set_option linter.unusedSimpArgs false
set_option maxRecDepth 8000 in
set_option maxHeartbeats 2000000 in
theorem ret0 {w : World} {P : Pc} {σ : Sg} {ps : Nat → Nat → Nat} {fvs : Nat → Value} (h : MP w P σ ps fvs) {k m : Nat} (hk : k < P.t) (hm : (σ.Ts k).nf = m + 1) (hN : m ≤ 1000) (a0 : 0 ≤ σ.acc) (a1 : σ.acc < 1000000) (hpc : ((σ.Ts k).fs m).pc = 0) (g0 : 0 ≤ ((σ.Ts k).fs m).r 0 ∧ ((σ.Ts k).fs m).r 0 < 18446744073709551616) (g1 : 0 ≤ ((σ.Ts k).fs m).r 1 ∧ ((σ.Ts k).fs m).r 1 < 18446744073709551616) {b : Nat} (hb : ((σ.Ts k).fs m).r 1 % 3 = b) :
    Calls Try.prog 33 #[.pointer (some ⟨P.q, 0, none⟩), .int .i64 k, .pointer (some ⟨P.tq k, 0, none⟩), .pointer (some ⟨ps k m, 0, none⟩)] w fun x w' => x = .returned (.tuple #[]) ∧ MM w' P (rt0S k m σ) ∧ KA P.B P.N w w' := by
  refine Calls.veil fun Q HQ => ?_
  have HP := Lib.hid h
  have hmm : m < (σ.Ts k).nf := by omega
  have HMM := Lib.hid hmm; have HM := Lib.hid hm; have HPC := Lib.hid hpc
  have hbb := h.mm.bd
  obtain ⟨fb, hfb⟩ : ∃ fb, fb = ps k m := ⟨_, rfl⟩
  obtain ⟨r0, hr0⟩ : ∃ r0, r0 = ((σ.Ts k).fs m).r 0 := ⟨_, rfl⟩
  obtain ⟨r1, hr1⟩ : ∃ r1, r1 = ((σ.Ts k).fs m).r 1 := ⟨_, rfl⟩
  obtain ⟨r2, hr2⟩ : ∃ r2, r2 = ((σ.Ts k).fs m).r 2 := ⟨_, rfl⟩
  have HFB := Lib.hid hfb; have HR0 := Lib.hid hr0; have HR1 := Lib.hid hr1; have HR2 := Lib.hid hr2
  rw [← hfb]
  have f1 : w.cell? ⟨fb, 1, none⟩ = some (.int .i64 0) := by rw [hfb, h.pc hk hmm, hpc]
  have f2 : w.cell? ⟨fb, 2, none⟩ = some (.int .u64 r0) := by rw [hfb, hr0]; exact h.r hk hmm 0 (by omega)
  have f3 : w.cell? ⟨fb, 3, none⟩ = some (.int .u64 r1) := by rw [hfb, hr1]; exact h.r hk hmm 1 (by omega)
  have f4 : w.cell? ⟨fb, 4, none⟩ = some (.int .u64 r2) := by rw [hfb, hr2]; exact h.r hk hmm 2 (by omega)
  have rf : ∀ i, w.frozen? ⟨fb, i, none⟩ = false := fun i => by rw [hfb]; exact h.fr hk hmm i
  rw [← hr0] at g0
  rw [← hr1] at g1
  rw [← hr1] at hb
  clear h hmm hm hpc hfb hr0 hr1 hr2
  go_enter Try.func33, Try.ntmps33
  have hb3 : b < 3 := by omega
  have HB := Lib.hid hb; have HB3 := Lib.hid hb3
  go_wp2_with fail
  refine (enode_calls r0 _ g0.1 g0.2).mono ?_; rintro _ _ ⟨rfl, rfl⟩
  obtain ⟨nd, hnd⟩ : ∃ nd, nd = r0 % 4611686018427387904 := ⟨_, rfl⟩
  rw [← hnd]
  have HND := Lib.hid hnd
  clear hnd
  go_wp2_with fail
  refine (bbag_calls r1 _ g1.1 g1.2).mono ?_; rintro _ _ ⟨rfl, rfl⟩
  rw [HB.out]
  clear hb
  go_upto_region 5 with fail
  clear f1 f2 f3 f4 rf
  refine Th.wp_region_K (fun _ => True) 7 (by decide +kernel) ?_
  generalize hwd : World.drew w = wd
  have hdd : Below w.heap.size w wd := by rw [← hwd]; exact (Below.refl _ _).drew
  have HPD := Lib.hid (HP.out.below hdd); have HKD := Lib.hid (KA.of_below hdd : KA P.B P.N w wd)
  clear hwd hdd HP
  (refine Th.wpAnyK_takeY (i := 0) (v := ?_) rfl (by decide +kernel) (by decide +kernel) (by decide +kernel) (by decide) (fun _ _ _ h => h) (Or.inl ⟨by rfl, ?_⟩) (.inr trivial) ?_; rotate_left; (intro w; go_simp); (try with_reducible rfl))
  (try simp only [List.getElem_toArray, List.getElem_cons_succ, List.getElem_cons_zero, Act.put, List.setIfInBounds_toArray, List.set_cons_succ, List.set_cons_zero])
  (refine Th.wpAnyK_takeY (i := 1) (v := ?_) rfl (by decide +kernel) (by decide +kernel) (by decide +kernel) (by decide) (fun _ _ _ h => h) (Or.inl ⟨by rfl, ?_⟩) (.inr trivial) ?_; rotate_left; (intro w; go_simp); (try with_reducible rfl))
  (try simp only [List.getElem_toArray, List.getElem_cons_succ, List.getElem_cons_zero, Act.put, List.setIfInBounds_toArray, List.set_cons_succ, List.set_cons_zero])
  (refine Th.wpAnyK_takeY (i := 4) (v := ?_) rfl (by decide +kernel) (by decide +kernel) (by decide +kernel) (by decide) (fun _ _ _ h => h) (Or.inl ⟨by rfl, ?_⟩) (.inr trivial) ?_; rotate_left; (intro w; go_simp); (try with_reducible rfl))
  (try simp only [List.getElem_toArray, List.getElem_cons_succ, List.getElem_cons_zero, Act.put, List.setIfInBounds_toArray, List.set_cons_succ, List.set_cons_zero])
  (refine Th.wpAnyK_takeY (i := 5) (v := ?_) rfl (by decide +kernel) (by decide +kernel) (by decide +kernel) (by decide) (fun _ _ _ h => h) (Or.inl ⟨by rfl, ?_⟩) (.inr trivial) ?_; rotate_left; (intro w; go_simp); (try with_reducible rfl))
  (try simp only [List.getElem_toArray, List.getElem_cons_succ, List.getElem_cons_zero, Act.put, List.setIfInBounds_toArray, List.set_cons_succ, List.set_cons_zero])
  (refine Th.wpAnyK_ready (rs := [2]) (by decide +kernel) (by simp) ?_; refine (Th.AllReadyK.cons rfl (fun K hK => ?_) Th.AllReadyK.nil))
  refine step_of rfl ?_
  go_step
  refine (cMem HPD.out.c).mono ?_; rintro _ _ ⟨rfl, rfl⟩
  refine hK _ _ (.inr trivial) ?_
  clear hK K
  (try simp only [List.getElem_toArray, List.getElem_cons_succ, List.getElem_cons_zero, Act.put, List.setIfInBounds_toArray, List.set_cons_succ, List.set_cons_zero])
  (refine Th.wpAnyK_ready (rs := [3]) (by decide +kernel) (by simp) ?_; refine (Th.AllReadyK.cons rfl (fun K hK => ?_) Th.AllReadyK.nil))
  refine step_of rfl ?_
  go_step
  refine (HPD.out.load (1) (by omega) a0 a1).mono ?_; rintro _ w3 ⟨rfl, hp3, hk3⟩
  have HP3 := Lib.hid hp3; have HK3 := Lib.hid (HKD.out.trans hk3)
  refine hK _ _ (.inr trivial) ?_
  clear hK K
  clear hp3 hk3 HPD HKD
  (try simp only [List.getElem_toArray, List.getElem_cons_succ, List.getElem_cons_zero, Act.put, List.setIfInBounds_toArray, List.set_cons_succ, List.set_cons_zero])
  have r2 : w3.cell? ⟨fb, 3, none⟩ = some (.int .u64 (((σ.Ts k).fs m).r 1)) := by rw [HFB.out]; exact HP3.out.r hk HMM.out 1 (by omega)
  have rf : ∀ i, w3.frozen? ⟨fb, i, none⟩ = false := fun i => by rw [HFB.out]; exact HP3.out.fr hk HMM.out i
  (refine Th.wpAnyK_takeY (i := 6) (v := ?_) rfl (by decide +kernel) (by decide +kernel) (by decide +kernel) (by decide) (fun _ _ _ h => h) (Or.inl ⟨by rfl, ?_⟩) (.inr trivial) ?_; rotate_left; (intro w; go_simp); (try with_reducible rfl))
  (try simp only [List.getElem_toArray, List.getElem_cons_succ, List.getElem_cons_zero, Act.put, List.setIfInBounds_toArray, List.set_cons_succ, List.set_cons_zero])
  (refine Th.wpAnyK_ready (rs := [7]) (by decide +kernel) (by simp) ?_; refine (Th.AllReadyK.cons rfl (fun K hK => ?_) Th.AllReadyK.nil))
  refine step_of rfl ?_
  go_step
  refine hK _ _ (.inl rfl) ?_
  clear hK K
  refine Th.wpAnyK_done (by decide +kernel) ?_ _
  clear r2 rf
  generalize hW : World.setCell _ _ _ = W
  obtain ⟨hp4, hk4⟩ : MP W P _ ps fvs ∧ KA P.B P.N w3 W := by rw [← hW, HFB.out]; exact HP3.out.setR hk HMM.out 1 (σ.f 1)
  have HP4 := Lib.hid hp4; have HK4 := Lib.hid (HK3.out.trans hk4)
  clear hW hp4 hk4 HP3 HK3
  have f1 : W.cell? ⟨fb, 1, none⟩ = some (.int .i64 0) := by rw [HFB.out, HP4.out.pc hk (by rw [Sg.thr_at]; exact HMM.out), Sg.thr_at, setF_fs]; exact congrArg _ (congrArg _ HPC.out)
  have rf : ∀ i, W.frozen? ⟨fb, i, none⟩ = false := fun i => by rw [HFB.out]; exact HP4.out.fr hk (by rw [Sg.thr_at]; exact HMM.out) i
  go_wp2_with fail
  clear f1 rf
  generalize hW : World.setCell _ _ _ = V
  obtain ⟨hp5, hk5⟩ : MP V P _ ps fvs ∧ KA P.B P.N W V := by rw [← hW, HFB.out]; exact HP4.out.setPC hk (by rw [Sg.thr_at]; exact HMM.out) 1
  rw [Sg.thr_at, setF_fs, setF_setF, Sg.thr_thr] at hp5
  have HP5 := Lib.hid hp5; have HK5 := Lib.hid (HK4.out.trans hk5)
  clear hW hp5 hk5 HP4 HK4
  first | (refine bodyPost_end (v := .tuple #[]) (by simp [results, Try.results33, go_sem]) rfl ?_) | (refine bodyPost_ret (v := .tuple #[]) (by simp [results, Try.results33, go_sem]) rfl ?_)
  rw [HQ.out]
  exact ⟨rfl, HP5.out.mm, HK5.out⟩
set_option maxRecDepth 8000 in
set_option maxHeartbeats 2000000 in
theorem ret3 {w : World} {P : Pc} {σ : Sg} {ps : Nat → Nat → Nat} {fvs : Nat → Value} (h : MP w P σ ps fvs) {k m : Nat} (hk : k < P.t) (hm : (σ.Ts k).nf = m + 1) (hN : m ≤ 1000) (a0 : 0 ≤ σ.acc) (a1 : σ.acc < 1000000) (hpc : ((σ.Ts k).fs m).pc = 3) (g0 : 0 ≤ ((σ.Ts k).fs m).r 0 ∧ ((σ.Ts k).fs m).r 0 < 18446744073709551616) (g1 : 0 ≤ ((σ.Ts k).fs m).r 1 ∧ ((σ.Ts k).fs m).r 1 < 18446744073709551616) {b : Nat} (hb : ((σ.Ts k).fs m).r 1 % 3 = b) :
    Calls Try.prog 33 #[.pointer (some ⟨P.q, 0, none⟩), .int .i64 k, .pointer (some ⟨P.tq k, 0, none⟩), .pointer (some ⟨ps k m, 0, none⟩)] w fun x w' => x = .returned (.tuple #[]) ∧ MM w' P (rt3S k m b σ) ∧ KA P.B P.N w w' := by
  refine Calls.veil fun Q HQ => ?_
  have HP := Lib.hid h
  have hmm : m < (σ.Ts k).nf := by omega
  have HMM := Lib.hid hmm; have HM := Lib.hid hm; have HPC := Lib.hid hpc
  have hbb := h.mm.bd
  obtain ⟨fb, hfb⟩ : ∃ fb, fb = ps k m := ⟨_, rfl⟩
  obtain ⟨r0, hr0⟩ : ∃ r0, r0 = ((σ.Ts k).fs m).r 0 := ⟨_, rfl⟩
  obtain ⟨r1, hr1⟩ : ∃ r1, r1 = ((σ.Ts k).fs m).r 1 := ⟨_, rfl⟩
  obtain ⟨r2, hr2⟩ : ∃ r2, r2 = ((σ.Ts k).fs m).r 2 := ⟨_, rfl⟩
  have HFB := Lib.hid hfb; have HR0 := Lib.hid hr0; have HR1 := Lib.hid hr1; have HR2 := Lib.hid hr2
  rw [← hfb]
  have f1 : w.cell? ⟨fb, 1, none⟩ = some (.int .i64 3) := by rw [hfb, h.pc hk hmm, hpc]
  have f2 : w.cell? ⟨fb, 2, none⟩ = some (.int .u64 r0) := by rw [hfb, hr0]; exact h.r hk hmm 0 (by omega)
  have f3 : w.cell? ⟨fb, 3, none⟩ = some (.int .u64 r1) := by rw [hfb, hr1]; exact h.r hk hmm 1 (by omega)
  have f4 : w.cell? ⟨fb, 4, none⟩ = some (.int .u64 r2) := by rw [hfb, hr2]; exact h.r hk hmm 2 (by omega)
  have rf : ∀ i, w.frozen? ⟨fb, i, none⟩ = false := fun i => by rw [hfb]; exact h.fr hk hmm i
  rw [← hr0] at g0
  rw [← hr1] at g1
  rw [← hr1] at hb
  clear h hmm hm hpc hfb hr0 hr1 hr2
  go_enter Try.func33, Try.ntmps33
  have hb3 : b < 3 := by omega
  have HB := Lib.hid hb; have HB3 := Lib.hid hb3
  go_wp2_with fail
  refine (enode_calls r0 _ g0.1 g0.2).mono ?_; rintro _ _ ⟨rfl, rfl⟩
  obtain ⟨nd, hnd⟩ : ∃ nd, nd = r0 % 4611686018427387904 := ⟨_, rfl⟩
  rw [← hnd]
  have HND := Lib.hid hnd
  clear hnd
  go_wp2_with fail
  refine (bbag_calls r1 _ g1.1 g1.2).mono ?_; rintro _ _ ⟨rfl, rfl⟩
  rw [HB.out]
  clear hb
  go_upto_region 16 with fail
  clear f1 f2 f3 f4 rf
  refine Th.wp_region_K (fun _ => True) 12 (by decide +kernel) ?_
  generalize hwd : World.drew w = wd
  have hdd : Below w.heap.size w wd := by rw [← hwd]; exact (Below.refl _ _).drew
  have HPD := Lib.hid (HP.out.below hdd); have HKD := Lib.hid (KA.of_below hdd : KA P.B P.N w wd)
  clear hwd hdd HP
  (refine Th.wpAnyK_takeY (i := 0) (v := ?_) rfl (by decide +kernel) (by decide +kernel) (by decide +kernel) (by decide) (fun _ _ _ h => h) (Or.inl ⟨by rfl, ?_⟩) (.inr trivial) ?_; rotate_left; (intro w; go_simp); (try with_reducible rfl))
  (try simp only [List.getElem_toArray, List.getElem_cons_succ, List.getElem_cons_zero, Act.put, List.setIfInBounds_toArray, List.set_cons_succ, List.set_cons_zero])
  (refine Th.wpAnyK_takeY (i := 1) (v := ?_) rfl (by decide +kernel) (by decide +kernel) (by decide +kernel) (by decide) (fun _ _ _ h => h) (Or.inl ⟨by rfl, ?_⟩) (.inr trivial) ?_; rotate_left; (intro w; go_simp); (try with_reducible rfl))
  (try simp only [List.getElem_toArray, List.getElem_cons_succ, List.getElem_cons_zero, Act.put, List.setIfInBounds_toArray, List.set_cons_succ, List.set_cons_zero])
  (refine Th.wpAnyK_takeY (i := 3) (v := ?_) rfl (by decide +kernel) (by decide +kernel) (by decide +kernel) (by decide) (fun _ _ _ h => h) (Or.inl ⟨by rfl, ?_⟩) (.inr trivial) ?_; rotate_left; (intro w; go_simp); (try with_reducible rfl))
  (try simp only [List.getElem_toArray, List.getElem_cons_succ, List.getElem_cons_zero, Act.put, List.setIfInBounds_toArray, List.set_cons_succ, List.set_cons_zero])
  (refine Th.wpAnyK_takeY (i := 5) (v := ?_) rfl (by decide +kernel) (by decide +kernel) (by decide +kernel) (by decide) (fun _ _ _ h => h) (Or.inl ⟨by rfl, ?_⟩) (.inr trivial) ?_; rotate_left; (intro w; go_simp); (try with_reducible rfl))
  (try simp only [List.getElem_toArray, List.getElem_cons_succ, List.getElem_cons_zero, Act.put, List.setIfInBounds_toArray, List.set_cons_succ, List.set_cons_zero])
  (refine Th.wpAnyK_takeY (i := 6) (v := ?_) rfl (by decide +kernel) (by decide +kernel) (by decide +kernel) (by decide) (fun _ _ _ h => h) (Or.inl ⟨by rfl, ?_⟩) (.inr trivial) ?_; rotate_left; (intro w; go_simp); (try with_reducible rfl))
  (try simp only [List.getElem_toArray, List.getElem_cons_succ, List.getElem_cons_zero, Act.put, List.setIfInBounds_toArray, List.set_cons_succ, List.set_cons_zero])
  (refine Th.wpAnyK_takeY (i := 9) (v := ?_) rfl (by decide +kernel) (by decide +kernel) (by decide +kernel) (by decide) (fun _ _ _ h => h) (Or.inl ⟨by rfl, ?_⟩) (.inr trivial) ?_; rotate_left; (intro w; go_simp); (try with_reducible rfl))
  (try simp only [List.getElem_toArray, List.getElem_cons_succ, List.getElem_cons_zero, Act.put, List.setIfInBounds_toArray, List.set_cons_succ, List.set_cons_zero])
  (refine Th.wpAnyK_takeY (i := 10) (v := ?_) rfl (by decide +kernel) (by decide +kernel) (by decide +kernel) (by decide) (fun _ _ _ h => h) (Or.inl ⟨by rfl, ?_⟩) (.inr trivial) ?_; rotate_left; (intro w; go_simp); (try with_reducible rfl))
  (try simp only [List.getElem_toArray, List.getElem_cons_succ, List.getElem_cons_zero, Act.put, List.setIfInBounds_toArray, List.set_cons_succ, List.set_cons_zero])
  (refine Th.wpAnyK_ready (rs := [2]) (by decide +kernel) (by simp) ?_; refine (Th.AllReadyK.cons rfl (fun K hK => ?_) Th.AllReadyK.nil))
  refine step_of rfl ?_
  go_step
  refine (cMem HPD.out.c).mono ?_; rintro _ _ ⟨rfl, rfl⟩
  refine hK _ _ (.inr trivial) ?_
  clear hK K
  (try simp only [List.getElem_toArray, List.getElem_cons_succ, List.getElem_cons_zero, Act.put, List.setIfInBounds_toArray, List.set_cons_succ, List.set_cons_zero])
  (refine Th.wpAnyK_ready (rs := [4]) (by decide +kernel) (by simp) ?_; refine (Th.AllReadyK.cons rfl (fun K hK => ?_) Th.AllReadyK.nil))
  refine step_of rfl ?_
  go_step
  refine (cPlan HPD.out.c).mono ?_; rintro _ _ ⟨rfl, rfl⟩
  refine hK _ _ (.inr trivial) ?_
  clear hK K
  (try simp only [List.getElem_toArray, List.getElem_cons_succ, List.getElem_cons_zero, Act.put, List.setIfInBounds_toArray, List.set_cons_succ, List.set_cons_zero])
  (refine Th.wpAnyK_ready (rs := [7]) (by decide +kernel) (by simp) ?_; refine (Th.AllReadyK.cons rfl (fun K hK => ?_) Th.AllReadyK.nil))
  refine step_of rfl ?_
  go_step
  refine (pbag_calls _ _ _ _ _ _ HPD.out.c.p0 HPD.out.c.p1 (by omega) (by omega) (by omega) (by omega)).mono ?_; rintro _ w7 ⟨rfl, hb7⟩
  rw [of_bg hk HB3.out]
  have HP7 := Lib.hid (HPD.out.below hb7); have HK7 := Lib.hid (HKD.out.trans (KA.of_below hb7))
  refine hK _ _ (.inr trivial) ?_
  clear hK K
  clear hb7 HPD HKD
  (try simp only [List.getElem_toArray, List.getElem_cons_succ, List.getElem_cons_zero, Act.put, List.setIfInBounds_toArray, List.set_cons_succ, List.set_cons_zero])
  (refine Th.wpAnyK_ready (rs := [8]) (by decide +kernel) (by simp) ?_; refine (Th.AllReadyK.cons rfl (fun K hK => ?_) Th.AllReadyK.nil))
  refine step_of rfl ?_
  go_step
  refine (HP7.out.load (bgI k b) (by unfold bgI; omega) a0 a1).mono ?_; rintro _ w3 ⟨rfl, hp3, hk3⟩
  have HP3 := Lib.hid hp3; have HK3 := Lib.hid (HK7.out.trans hk3)
  refine hK _ _ (.inr trivial) ?_
  clear hK K
  clear hp3 hk3 HP7 HK7
  (try simp only [List.getElem_toArray, List.getElem_cons_succ, List.getElem_cons_zero, Act.put, List.setIfInBounds_toArray, List.set_cons_succ, List.set_cons_zero])
  have r2 : w3.cell? ⟨fb, 4, none⟩ = some (.int .u64 (((σ.Ts k).fs m).r 2)) := by rw [HFB.out]; exact HP3.out.r hk HMM.out 2 (by omega)
  have rf : ∀ i, w3.frozen? ⟨fb, i, none⟩ = false := fun i => by rw [HFB.out]; exact HP3.out.fr hk HMM.out i
  (refine Th.wpAnyK_takeY (i := 11) (v := ?_) rfl (by decide +kernel) (by decide +kernel) (by decide +kernel) (by decide) (fun _ _ _ h => h) (Or.inl ⟨by rfl, ?_⟩) (.inr trivial) ?_; rotate_left; (intro w; go_simp); (try with_reducible rfl))
  (try simp only [List.getElem_toArray, List.getElem_cons_succ, List.getElem_cons_zero, Act.put, List.setIfInBounds_toArray, List.set_cons_succ, List.set_cons_zero])
  (refine Th.wpAnyK_ready (rs := [12]) (by decide +kernel) (by simp) ?_; refine (Th.AllReadyK.cons rfl (fun K hK => ?_) Th.AllReadyK.nil))
  refine step_of rfl ?_
  go_step
  refine hK _ _ (.inl rfl) ?_
  clear hK K
  refine Th.wpAnyK_done (by decide +kernel) ?_ _
  clear r2 rf
  generalize hW : World.setCell _ _ _ = W
  obtain ⟨hp4, hk4⟩ : MP W P _ ps fvs ∧ KA P.B P.N w3 W := by rw [← hW, HFB.out]; exact HP3.out.setR hk HMM.out 2 (σ.f (bgI k b))
  have HP4 := Lib.hid hp4; have HK4 := Lib.hid (HK3.out.trans hk4)
  clear hW hp4 hk4 HP3 HK3
  have f1 : W.cell? ⟨fb, 1, none⟩ = some (.int .i64 3) := by rw [HFB.out, HP4.out.pc hk (by rw [Sg.thr_at]; exact HMM.out), Sg.thr_at, setF_fs]; exact congrArg _ (congrArg _ HPC.out)
  have rf : ∀ i, W.frozen? ⟨fb, i, none⟩ = false := fun i => by rw [HFB.out]; exact HP4.out.fr hk (by rw [Sg.thr_at]; exact HMM.out) i
  go_wp2_with fail
  clear f1 rf
  generalize hW : World.setCell _ _ _ = V
  obtain ⟨hp5, hk5⟩ : MP V P _ ps fvs ∧ KA P.B P.N W V := by rw [← hW, HFB.out]; exact HP4.out.setPC hk (by rw [Sg.thr_at]; exact HMM.out) 4
  rw [Sg.thr_at, setF_fs, setF_setF, Sg.thr_thr] at hp5
  have HP5 := Lib.hid hp5; have HK5 := Lib.hid (HK4.out.trans hk5)
  clear hW hp5 hk5 HP4 HK4
  first | (refine bodyPost_end (v := .tuple #[]) (by simp [results, Try.results33, go_sem]) rfl ?_) | (refine bodyPost_ret (v := .tuple #[]) (by simp [results, Try.results33, go_sem]) rfl ?_)
  rw [HQ.out]
  exact ⟨rfl, HP5.out.mm, HK5.out⟩
end Go.Proofs.Ytaaciolfgplnoaa
