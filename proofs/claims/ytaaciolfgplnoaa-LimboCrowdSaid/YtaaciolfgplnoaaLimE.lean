/- Layer 19: steps of Clean. -/
import Derived.Test.YtaaciolfgplnoaaLimD
namespace Go.Proofs.Ytaaciolfgplnoaa
open Go.RowKit WordM EdgeM
set_option linter.unusedVariables false
set_option linter.unusedSimpArgs false
set_option maxRecDepth 8000 in
set_option maxHeartbeats 2000000 in
theorem cl0 {w : World} {P : Pc} {σ : Sg} {ps : Nat → Nat → Nat} {fvs : Nat → Value} (h : MP w P σ ps fvs) {k m : Nat} (hk : k < P.t) (hm : (σ.Ts k).nf = m + 1) (hN : m ≤ 1000) (a0 : 0 ≤ σ.acc) (a1 : σ.acc < 1000000) (hpc : ((σ.Ts k).fs m).pc = 0) :
    Calls Try.prog 35 #[.pointer (some ⟨P.q, 0, none⟩), .int .i64 k, .pointer (some ⟨P.tq k, 0, none⟩), .pointer (some ⟨ps k m, 0, none⟩)] w fun x w' => x = .returned (.tuple #[]) ∧ MM w' P (cl0S k m σ) ∧ KA P.B P.N w w' := by
  refine Calls.veil fun Q HQ => ?_
  have HP := Lib.hid h
  have hmm : m < (σ.Ts k).nf := by omega
  have HMM := Lib.hid hmm; have HM := Lib.hid hm; have HPC := Lib.hid hpc
  have hbb := h.mm.bd
  obtain ⟨fb, hfb⟩ : ∃ fb, fb = ps k m := ⟨_, rfl⟩
  obtain ⟨r0, hr0⟩ : ∃ r0, r0 = ((σ.Ts k).fs m).r 0 := ⟨_, rfl⟩
  obtain ⟨r1, hr1⟩ : ∃ r1, r1 = ((σ.Ts k).fs m).r 1 := ⟨_, rfl⟩
  obtain ⟨r2, hr2⟩ : ∃ r2, r2 = ((σ.Ts k).fs m).r 2 := ⟨_, rfl⟩
  have HFB := Lib.hid hfb; have HR0 := Lib.hid hr0; have HR1 := Lib.hid hr1; have HR2 := Lib.hid hr2
  rw [← hfb]
  have f1 : w.cell? ⟨fb, 1, none⟩ = some (.int .i64 0) := by rw [hfb, h.pc hk hmm, hpc]
  have f2 : w.cell? ⟨fb, 2, none⟩ = some (.int .u64 r0) := by rw [hfb, hr0]; exact h.r hk hmm 0 (by omega)
  have f3 : w.cell? ⟨fb, 3, none⟩ = some (.int .u64 r1) := by rw [hfb, hr1]; exact h.r hk hmm 1 (by omega)
  have f4 : w.cell? ⟨fb, 4, none⟩ = some (.int .u64 r2) := by rw [hfb, hr2]; exact h.r hk hmm 2 (by omega)
  have rf : ∀ i, w.frozen? ⟨fb, i, none⟩ = false := fun i => by rw [hfb]; exact h.fr hk hmm i
  clear h hmm hm hpc hfb hr0 hr1 hr2
  go_enter Try.func35, Try.ntmps35
  go_upto_region 2 with fail
  clear f1 f2 f3 f4 rf
  refine Th.wp_region_K (fun _ => True) 7 (by decide +kernel) ?_
  generalize hwd : World.drew w = wd
  have hdd : Below w.heap.size w wd := by rw [← hwd]; exact (Below.refl _ _).drew
  have HPD := Lib.hid (HP.out.below hdd); have HKD := Lib.hid (KA.of_below hdd : KA P.B P.N w wd)
  clear hwd hdd HP
  (refine Th.wpAnyK_takeY (i := 0) (v := ?_) rfl (by decide +kernel) (by decide +kernel) (by decide +kernel) (by decide) (fun _ _ _ h => h) (Or.inl ⟨by rfl, ?_⟩) (.inr trivial) ?_; rotate_left; (intro w; go_simp); (try with_reducible rfl))
  (try simp only [List.getElem_toArray, List.getElem_cons_succ, List.getElem_cons_zero, Act.put, List.setIfInBounds_toArray, List.set_cons_succ, List.set_cons_zero])
  (refine Th.wpAnyK_takeY (i := 1) (v := ?_) rfl (by decide +kernel) (by decide +kernel) (by decide +kernel) (by decide) (fun _ _ _ h => h) (Or.inl ⟨by rfl, ?_⟩) (.inr trivial) ?_; rotate_left; (intro w; go_simp); (try with_reducible rfl))
  (try simp only [List.getElem_toArray, List.getElem_cons_succ, List.getElem_cons_zero, Act.put, List.setIfInBounds_toArray, List.set_cons_succ, List.set_cons_zero])
  (refine Th.wpAnyK_takeY (i := 4) (v := ?_) rfl (by decide +kernel) (by decide +kernel) (by decide +kernel) (by decide) (fun _ _ _ h => h) (Or.inl ⟨by rfl, ?_⟩) (.inr trivial) ?_; rotate_left; (intro w; go_simp); (try with_reducible rfl))
  (try simp only [List.getElem_toArray, List.getElem_cons_succ, List.getElem_cons_zero, Act.put, List.setIfInBounds_toArray, List.set_cons_succ, List.set_cons_zero])
  (refine Th.wpAnyK_takeY (i := 5) (v := ?_) rfl (by decide +kernel) (by decide +kernel) (by decide +kernel) (by decide) (fun _ _ _ h => h) (Or.inl ⟨by rfl, ?_⟩) (.inr trivial) ?_; rotate_left; (intro w; go_simp); (try with_reducible rfl))
  (try simp only [List.getElem_toArray, List.getElem_cons_succ, List.getElem_cons_zero, Act.put, List.setIfInBounds_toArray, List.set_cons_succ, List.set_cons_zero])
  (refine Th.wpAnyK_ready (rs := [2]) (by decide +kernel) (by simp) ?_; refine (Th.AllReadyK.cons rfl (fun K hK => ?_) Th.AllReadyK.nil))
  refine step_of rfl ?_
  go_step
  refine (cMem HPD.out.c).mono ?_; rintro _ _ ⟨rfl, rfl⟩
  refine hK _ _ (.inr trivial) ?_
  clear hK K
  (try simp only [List.getElem_toArray, List.getElem_cons_succ, List.getElem_cons_zero, Act.put, List.setIfInBounds_toArray, List.set_cons_succ, List.set_cons_zero])
  (refine Th.wpAnyK_ready (rs := [3]) (by decide +kernel) (by simp) ?_; refine (Th.AllReadyK.cons rfl (fun K hK => ?_) Th.AllReadyK.nil))
  refine step_of rfl ?_
  go_step
  refine (HPD.out.load (1) (by omega) a0 a1).mono ?_; rintro _ w3 ⟨rfl, hp3, hk3⟩
  have HP3 := Lib.hid hp3; have HK3 := Lib.hid (HKD.out.trans hk3)
  refine hK _ _ (.inr trivial) ?_
  clear hK K
  clear hp3 hk3 HPD HKD
  (try simp only [List.getElem_toArray, List.getElem_cons_succ, List.getElem_cons_zero, Act.put, List.setIfInBounds_toArray, List.set_cons_succ, List.set_cons_zero])
  have r2 : w3.cell? ⟨fb, 2, none⟩ = some (.int .u64 (((σ.Ts k).fs m).r 0)) := by rw [HFB.out]; exact HP3.out.r hk HMM.out 0 (by omega)
  have rf : ∀ i, w3.frozen? ⟨fb, i, none⟩ = false := fun i => by rw [HFB.out]; exact HP3.out.fr hk HMM.out i
  (refine Th.wpAnyK_takeY (i := 6) (v := ?_) rfl (by decide +kernel) (by decide +kernel) (by decide +kernel) (by decide) (fun _ _ _ h => h) (Or.inl ⟨by rfl, ?_⟩) (.inr trivial) ?_; rotate_left; (intro w; go_simp); (try with_reducible rfl))
  (try simp only [List.getElem_toArray, List.getElem_cons_succ, List.getElem_cons_zero, Act.put, List.setIfInBounds_toArray, List.set_cons_succ, List.set_cons_zero])
  (refine Th.wpAnyK_ready (rs := [7]) (by decide +kernel) (by simp) ?_; refine (Th.AllReadyK.cons rfl (fun K hK => ?_) Th.AllReadyK.nil))
  refine step_of rfl ?_
  go_step
  refine hK _ _ (.inl rfl) ?_
  clear hK K
  refine Th.wpAnyK_done (by decide +kernel) ?_ _
  clear r2 rf
  generalize hW : World.setCell _ _ _ = W
  obtain ⟨hp4, hk4⟩ : MP W P _ ps fvs ∧ KA P.B P.N w3 W := by rw [← hW, HFB.out]; exact HP3.out.setR hk HMM.out 0 (σ.f 1)
  have HP4 := Lib.hid hp4; have HK4 := Lib.hid (HK3.out.trans hk4)
  clear hW hp4 hk4 HP3 HK3
  have f1 : W.cell? ⟨fb, 1, none⟩ = some (.int .i64 0) := by rw [HFB.out, HP4.out.pc hk (by rw [Sg.thr_at]; exact HMM.out), Sg.thr_at, setF_fs]; exact congrArg _ (congrArg _ HPC.out)
  have rf : ∀ i, W.frozen? ⟨fb, i, none⟩ = false := fun i => by rw [HFB.out]; exact HP4.out.fr hk (by rw [Sg.thr_at]; exact HMM.out) i
  go_wp2_with fail
  clear f1 rf
  generalize hW : World.setCell _ _ _ = V
  obtain ⟨hp5, hk5⟩ : MP V P _ ps fvs ∧ KA P.B P.N W V := by rw [← hW, HFB.out]; exact HP4.out.setPC hk (by rw [Sg.thr_at]; exact HMM.out) 1
  rw [Sg.thr_at, setF_fs, setF_setF, Sg.thr_thr] at hp5
  have HP5 := Lib.hid hp5; have HK5 := Lib.hid (HK4.out.trans hk5)
  clear hW hp5 hk5 HP4 HK4
  first | (refine bodyPost_end (v := .tuple #[]) (by simp [results, Try.results35, go_sem]) rfl ?_) | (refine bodyPost_ret (v := .tuple #[]) (by simp [results, Try.results35, go_sem]) rfl ?_)
  rw [HQ.out]
  exact ⟨rfl, HP5.out.mm, HK5.out⟩
set_option maxRecDepth 8000 in
set_option maxHeartbeats 2000000 in
theorem cl1z {w : World} {P : Pc} {σ : Sg} {ps : Nat → Nat → Nat} {fvs : Nat → Value} (h : MP w P σ ps fvs) {k m : Nat} (hk : k < P.t) (hm : (σ.Ts k).nf = m + 1) (hN : m ≤ 1000) (a0 : 0 ≤ σ.acc) (a1 : σ.acc < 1000000) (hpc : ((σ.Ts k).fs m).pc = 1) (hz : ((σ.Ts k).fs m).r 1 = 3) :
    Calls Try.prog 35 #[.pointer (some ⟨P.q, 0, none⟩), .int .i64 k, .pointer (some ⟨P.tq k, 0, none⟩), .pointer (some ⟨ps k m, 0, none⟩)] w fun x w' => x = .returned (.tuple #[]) ∧ MM w' P (dr2zS k σ) ∧ KA P.B P.N w w' := by
  refine Calls.veil fun Q HQ => ?_
  have HP := Lib.hid h
  have hmm : m < (σ.Ts k).nf := by omega
  have HMM := Lib.hid hmm; have HM := Lib.hid hm; have HPC := Lib.hid hpc
  have hbb := h.mm.bd
  obtain ⟨fb, hfb⟩ : ∃ fb, fb = ps k m := ⟨_, rfl⟩
  obtain ⟨r0, hr0⟩ : ∃ r0, r0 = ((σ.Ts k).fs m).r 0 := ⟨_, rfl⟩
  obtain ⟨r1, hr1⟩ : ∃ r1, r1 = ((σ.Ts k).fs m).r 1 := ⟨_, rfl⟩
  obtain ⟨r2, hr2⟩ : ∃ r2, r2 = ((σ.Ts k).fs m).r 2 := ⟨_, rfl⟩
  have HFB := Lib.hid hfb; have HR0 := Lib.hid hr0; have HR1 := Lib.hid hr1; have HR2 := Lib.hid hr2
  rw [← hfb]
  have f1 : w.cell? ⟨fb, 1, none⟩ = some (.int .i64 1) := by rw [hfb, h.pc hk hmm, hpc]
  have f2 : w.cell? ⟨fb, 2, none⟩ = some (.int .u64 r0) := by rw [hfb, hr0]; exact h.r hk hmm 0 (by omega)
  have f3 : w.cell? ⟨fb, 3, none⟩ = some (.int .u64 r1) := by rw [hfb, hr1]; exact h.r hk hmm 1 (by omega)
  have f4 : w.cell? ⟨fb, 4, none⟩ = some (.int .u64 r2) := by rw [hfb, hr2]; exact h.r hk hmm 2 (by omega)
  have rf : ∀ i, w.frozen? ⟨fb, i, none⟩ = false := fun i => by rw [hfb]; exact h.fr hk hmm i
  rw [← hr1] at hz
  clear h hmm hm hpc hfb hr0 hr1 hr2
  go_enter Try.func35, Try.ntmps35
  rw [hz] at f3
  clear hz
  go_wp2_with fail
  clear f1 f2 f3 f4 rf
  refine (HP.out.back hk (Th.UR.nil (fun _ => 0)) (by have := HM.out; omega)).mono ?_; rintro _ w9 ⟨rfl, hm9, hk9⟩
  have HM9 := Lib.hid hm9; have HK9 := Lib.hid hk9
  clear hm9 hk9
  go_wp2_with fail
  first | (refine bodyPost_end (v := .tuple #[]) (by simp [results, Try.results35, go_sem]) rfl ?_) | (refine bodyPost_ret (v := .tuple #[]) (by simp [results, Try.results35, go_sem]) rfl ?_)
  rw [HQ.out]
  exact ⟨rfl, HM9.out, HK9.out⟩
set_option maxRecDepth 8000 in
set_option maxHeartbeats 2000000 in
theorem cl1n {w : World} {P : Pc} {σ : Sg} {ps : Nat → Nat → Nat} {fvs : Nat → Value} (h : MP w P σ ps fvs) {k m : Nat} (hk : k < P.t) (hm : (σ.Ts k).nf = m + 1) (hN : m ≤ 1000) (a0 : 0 ≤ σ.acc) (a1 : σ.acc < 1000000) (hpc : ((σ.Ts k).fs m).pc = 1) (g0 : 0 ≤ ((σ.Ts k).fs m).r 0 ∧ ((σ.Ts k).fs m).r 0 < 18446744073709551616) {b : Nat} (hb : ((σ.Ts k).fs m).r 1 = b) (hb3 : b < 3) (hq : oldB (σ.f (stI k b)) (((σ.Ts k).fs m).r 0) = false) :
    Calls Try.prog 35 #[.pointer (some ⟨P.q, 0, none⟩), .int .i64 k, .pointer (some ⟨P.tq k, 0, none⟩), .pointer (some ⟨ps k m, 0, none⟩)] w fun x w' => x = .returned (.tuple #[]) ∧ MM w' P (cl1nS k m σ) ∧ KA P.B P.N w w' := by
  refine Calls.veil fun Q HQ => ?_
  have HP := Lib.hid h
  have hmm : m < (σ.Ts k).nf := by omega
  have HMM := Lib.hid hmm; have HM := Lib.hid hm; have HPC := Lib.hid hpc
  have hbb := h.mm.bd
  obtain ⟨fb, hfb⟩ : ∃ fb, fb = ps k m := ⟨_, rfl⟩
  obtain ⟨r0, hr0⟩ : ∃ r0, r0 = ((σ.Ts k).fs m).r 0 := ⟨_, rfl⟩
  obtain ⟨r1, hr1⟩ : ∃ r1, r1 = ((σ.Ts k).fs m).r 1 := ⟨_, rfl⟩
  obtain ⟨r2, hr2⟩ : ∃ r2, r2 = ((σ.Ts k).fs m).r 2 := ⟨_, rfl⟩
  have HFB := Lib.hid hfb; have HR0 := Lib.hid hr0; have HR1 := Lib.hid hr1; have HR2 := Lib.hid hr2
  rw [← hfb]
  have f1 : w.cell? ⟨fb, 1, none⟩ = some (.int .i64 1) := by rw [hfb, h.pc hk hmm, hpc]
  have f2 : w.cell? ⟨fb, 2, none⟩ = some (.int .u64 r0) := by rw [hfb, hr0]; exact h.r hk hmm 0 (by omega)
  have f3 : w.cell? ⟨fb, 3, none⟩ = some (.int .u64 r1) := by rw [hfb, hr1]; exact h.r hk hmm 1 (by omega)
  have f4 : w.cell? ⟨fb, 4, none⟩ = some (.int .u64 r2) := by rw [hfb, hr2]; exact h.r hk hmm 2 (by omega)
  have rf : ∀ i, w.frozen? ⟨fb, i, none⟩ = false := fun i => by rw [hfb]; exact h.fr hk hmm i
  rw [← hr0] at g0
  rw [← hr1] at hb
  rw [← hr0] at hq
  clear h hmm hm hpc hfb hr0 hr1 hr2
  go_enter Try.func35, Try.ntmps35
  rw [hb] at f3
  have HB := Lib.hid hb; have HB3 := Lib.hid hb3; have HQ1 := Lib.hid hq
  have hbx : stI k b < 3 + 8 * P.t + 7 * P.s := by unfold stI; omega
  have hrg := HP.out.c.mem.rng (stI k b) hbx
  have hne : ((b : Int) == 3) = false := by simp; omega
  have hwb1 : IntKind.u64.wrap ((b : Int) + 1) = b + 1 := by rw [IntKind.wrap_u64]; omega
  have hwb2 : IntKind.i64.wrap (b : Int) = b := by rw [IntKind.wrap_i64]; omega
  have hwb3 : IntKind.u64.wrap (b : Int) = b := by rw [IntKind.wrap_u64]; omega
  clear hb hq f4
  go_upto_region 8 with fail
  go_still_tail 9, (by kernel_rfl)
  clear f1 f2
  go_upto_region 9 with fail
  clear f3 rf hne hwb1
  generalize hW : World.setCell _ _ _ = W
  obtain ⟨hp4, hk4⟩ : MP W P (σ.thr k (setF (σ.Ts k) m ⟨((σ.Ts k).fs m).fn, ((σ.Ts k).fs m).pc, updr ((σ.Ts k).fs m).r 1 ((b : Int) + 1)⟩)) ps fvs ∧ KA P.B P.N w W := by rw [← hW, HFB.out]; exact HP.out.setR hk HMM.out 1 ((b : Int) + 1)
  have HP4 := Lib.hid hp4; have HK4 := Lib.hid hk4
  clear hW hp4 hk4 HP
  refine Th.wp_region_K (fun W => W.cell? ⟨fb, 2, none⟩ = some (.int .u64 r0)) 14 (by decide +kernel) ?_
  generalize hwd : World.drew _ = wd
  have hdd : Below W.heap.size W wd := by rw [← hwd]; first | exact (Below.refl _ _).drew.drew | exact (Below.refl _ _).drew
  have HPD := Lib.hid (HP4.out.below hdd); have HKD := Lib.hid (HK4.out.trans (KA.of_below hdd))
  clear hwd hdd HP4 HK4
  have hSd : wd.cell? ⟨fb, 2, none⟩ = some (.int .u64 r0) := by rw [HFB.out, HR0.out]; have h9 := HPD.out.r hk (m := m) (by rw [Sg.thr_at]; exact HMM.out) 0 (by omega); rw [Sg.thr_at, setF_fs] at h9; exact h9
  (refine Th.wpAnyK_takeY (i := 0) (v := ?_) rfl (by decide +kernel) (by decide +kernel) (by decide +kernel) (by decide) (fun _ _ _ h => h) (Or.inl ⟨by rfl, ?_⟩) (.inr hSd) ?_; rotate_left; (intro w; go_simp); (try with_reducible rfl))
  (try simp only [List.getElem_toArray, List.getElem_cons_succ, List.getElem_cons_zero, Act.put, List.setIfInBounds_toArray, List.set_cons_succ, List.set_cons_zero])
  (refine Th.wpAnyK_takeY (i := 2) (v := ?_) rfl (by decide +kernel) (by decide +kernel) (by decide +kernel) (by decide) (fun _ _ _ h => h) (Or.inl ⟨by rfl, ?_⟩) (.inr hSd) ?_; rotate_left; (intro w; go_simp); (try with_reducible rfl))
  (try simp only [List.getElem_toArray, List.getElem_cons_succ, List.getElem_cons_zero, Act.put, List.setIfInBounds_toArray, List.set_cons_succ, List.set_cons_zero])
  (refine Th.wpAnyK_takeY (i := 4) (v := ?_) rfl (by decide +kernel) (by decide +kernel) (by decide +kernel) (by decide) (fun _ _ _ h => h) (Or.inl ⟨by rfl, ?_⟩) (.inr hSd) ?_; rotate_left; (intro w; go_simp); (try with_reducible rfl))
  (try simp only [List.getElem_toArray, List.getElem_cons_succ, List.getElem_cons_zero, Act.put, List.setIfInBounds_toArray, List.set_cons_succ, List.set_cons_zero])
  (refine Th.wpAnyK_takeY (i := 5) (v := ?_) rfl (by decide +kernel) (by decide +kernel) (by decide +kernel) (by decide) (fun _ _ _ h => h) (Or.inl ⟨by rfl, ?_⟩) (.inr hSd) ?_; rotate_left; (intro w; go_simp); (try with_reducible rfl))
  (try simp only [List.getElem_toArray, List.getElem_cons_succ, List.getElem_cons_zero, Act.put, List.setIfInBounds_toArray, List.set_cons_succ, List.set_cons_zero])
  (refine Th.wpAnyK_takeY (i := 6) (v := ?_) rfl (by decide +kernel) (by decide +kernel) (by decide +kernel) (by decide) (fun _ _ _ h => h) (Or.inl ⟨by rfl, ?_⟩) (.inr hSd) ?_; rotate_left; (intro w; go_simp); (try with_reducible rfl))
  (try simp only [List.getElem_toArray, List.getElem_cons_succ, List.getElem_cons_zero, Act.put, List.setIfInBounds_toArray, List.set_cons_succ, List.set_cons_zero])
  (refine Th.wpAnyK_takeY (i := 9) (v := ?_) rfl (by decide +kernel) (by decide +kernel) (by decide +kernel) (by decide) (fun _ _ _ h => h) (Or.inl ⟨by rfl, ?_⟩) (.inr hSd) ?_; rotate_left; (intro w; go_simp); (try with_reducible rfl))
  (try simp only [List.getElem_toArray, List.getElem_cons_succ, List.getElem_cons_zero, Act.put, List.setIfInBounds_toArray, List.set_cons_succ, List.set_cons_zero])
  (refine Th.wpAnyK_takeY (i := 10) (v := ?_) rfl (by decide +kernel) (by decide +kernel) (by decide +kernel) (by decide) (fun _ _ _ h => h) (Or.inl ⟨by rfl, ?_⟩) (.inr hSd) ?_; rotate_left; (intro w; go_simp); (try with_reducible rfl))
  (try simp only [List.getElem_toArray, List.getElem_cons_succ, List.getElem_cons_zero, Act.put, List.setIfInBounds_toArray, List.set_cons_succ, List.set_cons_zero])
  (refine Th.wpAnyK_takeY (i := 11) (v := ?_) rfl (by decide +kernel) (by decide +kernel) (by decide +kernel) (by decide) (fun _ _ _ h => h) (Or.inl ⟨by rfl, ?_⟩) (.inr hSd) ?_; rotate_left; (intro w; go_simp); (try with_reducible rfl))
  (try simp only [List.getElem_toArray, List.getElem_cons_succ, List.getElem_cons_zero, Act.put, List.setIfInBounds_toArray, List.set_cons_succ, List.set_cons_zero])
  (refine Th.wpAnyK_takeY (i := 12) (v := ?_) rfl (by decide +kernel) (by decide +kernel) (by decide +kernel) (by decide) (fun _ _ _ h => h) (Or.inl ⟨by rfl, ?_⟩) (.inr hSd) ?_; rotate_left; (intro w; go_simp); (try with_reducible rfl))
  (try simp only [List.getElem_toArray, List.getElem_cons_succ, List.getElem_cons_zero, Act.put, List.setIfInBounds_toArray, List.set_cons_succ, List.set_cons_zero])
  (refine Th.wpAnyK_take (i := 13) (v := .int .u64 r0) [14] rfl (by decide +kernel) (by decide +kernel) (by decide +kernel) (by decide +kernel) (fun _ _ _ h => h) (Th.yields_loadK rfl 22 (.tmp 57) rfl rfl (by intro W hc; have hc : W.cell? ⟨fb, 2, none⟩ = some (.int .u64 r0) := hc; go_simp)) hSd ?_)
  (try simp only [List.getElem_toArray, List.getElem_cons_succ, List.getElem_cons_zero, Act.put, List.setIfInBounds_toArray, List.set_cons_succ, List.set_cons_zero])
  (refine Th.wpAnyK_ready (rs := [1]) (by decide +kernel) (by simp) ?_; refine (Th.AllReadyK.cons rfl (fun K hK => ?_) Th.AllReadyK.nil))
  refine step_of rfl ?_
  go_step
  refine (cMem HPD.out.c).mono ?_; rintro _ _ ⟨rfl, rfl⟩
  refine hK _ _ (.inr hSd) ?_
  clear hK K
  (try simp only [List.getElem_toArray, List.getElem_cons_succ, List.getElem_cons_zero, Act.put, List.setIfInBounds_toArray, List.set_cons_succ, List.set_cons_zero])
  (refine Th.wpAnyK_ready (rs := [3]) (by decide +kernel) (by simp) ?_; refine (Th.AllReadyK.cons rfl (fun K hK => ?_) Th.AllReadyK.nil))
  refine step_of rfl ?_
  go_step
  refine (cPlan HPD.out.c).mono ?_; rintro _ _ ⟨rfl, rfl⟩
  refine hK _ _ (.inr hSd) ?_
  clear hK K
  (try simp only [List.getElem_toArray, List.getElem_cons_succ, List.getElem_cons_zero, Act.put, List.setIfInBounds_toArray, List.set_cons_succ, List.set_cons_zero])
  (refine Th.wpAnyK_ready (rs := [7]) (by decide +kernel) (by simp) ?_; refine (Th.AllReadyK.cons rfl (fun K hK => ?_) Th.AllReadyK.nil))
  refine step_of rfl ?_
  go_step
  refine (pstamp_calls _ _ _ _ _ _ HPD.out.c.p0 HPD.out.c.p1 (by omega) (by omega) (by omega) (by omega)).mono ?_; rintro _ w7 ⟨rfl, hb7⟩
  rw [of_st hk HB3.out]
  have HP7 := Lib.hid (HPD.out.below hb7); have HK7 := Lib.hid (HKD.out.trans (KA.of_below hb7))
  clear hb7 HPD HKD hSd
  have hS7 : w7.cell? ⟨fb, 2, none⟩ = some (.int .u64 r0) := by rw [HFB.out, HR0.out]; have h9 := HP7.out.r hk (m := m) (by rw [Sg.thr_at]; exact HMM.out) 0 (by omega); rw [Sg.thr_at, setF_fs] at h9; exact h9
  refine hK _ _ (.inr hS7) ?_
  clear hK K
  (try simp only [List.getElem_toArray, List.getElem_cons_succ, List.getElem_cons_zero, Act.put, List.setIfInBounds_toArray, List.set_cons_succ, List.set_cons_zero])
  (refine Th.wpAnyK_ready (rs := [8]) (by decide +kernel) (by simp) ?_; refine (Th.AllReadyK.cons rfl (fun K hK => ?_) Th.AllReadyK.nil))
  refine step_of rfl ?_
  go_step
  refine (HP7.out.load (stI k b) hbx a0 a1).mono ?_; rintro _ w3 ⟨rfl, hp3, hk3⟩
  have HP3 := Lib.hid (show MP w3 P ({ σ.thr k (setF (σ.Ts k) m ⟨((σ.Ts k).fs m).fn, ((σ.Ts k).fs m).pc, updr ((σ.Ts k).fs m).r 1 ((b : Int) + 1)⟩) with acc := σ.acc + 1 }) ps fvs from hp3); have HK3 := Lib.hid (HK7.out.trans hk3)
  have hS3 : w3.cell? ⟨fb, 2, none⟩ = some (.int .u64 r0) := by rw [HFB.out, HR0.out]; have h9 := hp3.r hk (m := m) (by show m < ((σ.thr k (setF (σ.Ts k) m ⟨((σ.Ts k).fs m).fn, ((σ.Ts k).fs m).pc, updr ((σ.Ts k).fs m).r 1 ((b : Int) + 1)⟩)).Ts k).nf; rw [Sg.thr_at]; exact HMM.out) 0 (by omega); rw [show (({ σ.thr k (setF (σ.Ts k) m ⟨((σ.Ts k).fs m).fn, ((σ.Ts k).fs m).pc, updr ((σ.Ts k).fs m).r 1 ((b : Int) + 1)⟩) with acc := σ.acc + 1 } : Sg).Ts k) = (setF (σ.Ts k) m ⟨((σ.Ts k).fs m).fn, ((σ.Ts k).fs m).pc, updr ((σ.Ts k).fs m).r 1 ((b : Int) + 1)⟩) from Sg.thr_at _ _ _, setF_fs] at h9; exact h9
  refine hK _ _ (.inr hS3) ?_
  clear hK K hp3 hk3 HP7 HK7 hS7
  (try simp only [List.getElem_toArray, List.getElem_cons_succ, List.getElem_cons_zero, Act.put, List.setIfInBounds_toArray, List.set_cons_succ, List.set_cons_zero])
  (refine Th.wpAnyK_ready (rs := [14]) (by decide +kernel) (by simp) ?_; refine (Th.AllReadyK.cons rfl (fun K hK => ?_) Th.AllReadyK.nil))
  refine step_of rfl ?_
  go_step
  refine (bold_calls (σ.f (stI k b)) r0 _ hrg.1 hrg.2).mono ?_; rintro _ _ ⟨rfl, rfl⟩
  rw [HQ1.out]
  refine hK _ _ (.inl rfl) ?_
  clear hK K hS3
  refine Th.wpAnyK_done (by decide +kernel) ?_ _
  go_wp2_with fail
  first | (refine bodyPost_end (v := .tuple #[]) (by simp [results, Try.results35, go_sem]) rfl ?_) | (refine bodyPost_ret (v := .tuple #[]) (by simp [results, Try.results35, go_sem]) rfl ?_)
  rw [HQ.out, show cl1nS k m σ = { σ.thr k (setF (σ.Ts k) m ⟨((σ.Ts k).fs m).fn, ((σ.Ts k).fs m).pc, updr ((σ.Ts k).fs m).r 1 ((b : Int) + 1)⟩) with acc := σ.acc + 1 } from by rw [← HB.out, HR1.out]; rfl]
  exact ⟨rfl, HP3.out.mm, HK3.out⟩
set_option maxRecDepth 8000 in
set_option maxHeartbeats 2000000 in
theorem cl1d {w : World} {P : Pc} {σ : Sg} {ps : Nat → Nat → Nat} {fvs : Nat → Value} (h : MP w P σ ps fvs) {k m : Nat} (hk : k < P.t) (hm : (σ.Ts k).nf = m + 1) (hN : m ≤ 1000) (a0 : 0 ≤ σ.acc) (a1 : σ.acc < 1000000) (hpc : ((σ.Ts k).fs m).pc = 1) (g0 : 0 ≤ ((σ.Ts k).fs m).r 0 ∧ ((σ.Ts k).fs m).r 0 < 18446744073709551616) {b : Nat} (hb : ((σ.Ts k).fs m).r 1 = b) (hb3 : b < 3) (hq : oldB (σ.f (stI k b)) (((σ.Ts k).fs m).r 0) = true) :
    Calls Try.prog 35 #[.pointer (some ⟨P.q, 0, none⟩), .int .i64 k, .pointer (some ⟨P.tq k, 0, none⟩), .pointer (some ⟨ps k m, 0, none⟩)] w fun x w' => x = .returned (.tuple #[]) ∧ MM w' P (cl1dS k m b σ) ∧ KA P.B P.N w w' := by
  refine Calls.veil fun Q HQ => ?_
  have HP := Lib.hid h
  have hmm : m < (σ.Ts k).nf := by omega
  have HMM := Lib.hid hmm; have HM := Lib.hid hm; have HPC := Lib.hid hpc
  have hbb := h.mm.bd
  obtain ⟨fb, hfb⟩ : ∃ fb, fb = ps k m := ⟨_, rfl⟩
  obtain ⟨r0, hr0⟩ : ∃ r0, r0 = ((σ.Ts k).fs m).r 0 := ⟨_, rfl⟩
  obtain ⟨r1, hr1⟩ : ∃ r1, r1 = ((σ.Ts k).fs m).r 1 := ⟨_, rfl⟩
  obtain ⟨r2, hr2⟩ : ∃ r2, r2 = ((σ.Ts k).fs m).r 2 := ⟨_, rfl⟩
  have HFB := Lib.hid hfb; have HR0 := Lib.hid hr0; have HR1 := Lib.hid hr1; have HR2 := Lib.hid hr2
  rw [← hfb]
  have f1 : w.cell? ⟨fb, 1, none⟩ = some (.int .i64 1) := by rw [hfb, h.pc hk hmm, hpc]
  have f2 : w.cell? ⟨fb, 2, none⟩ = some (.int .u64 r0) := by rw [hfb, hr0]; exact h.r hk hmm 0 (by omega)
  have f3 : w.cell? ⟨fb, 3, none⟩ = some (.int .u64 r1) := by rw [hfb, hr1]; exact h.r hk hmm 1 (by omega)
  have f4 : w.cell? ⟨fb, 4, none⟩ = some (.int .u64 r2) := by rw [hfb, hr2]; exact h.r hk hmm 2 (by omega)
  have rf : ∀ i, w.frozen? ⟨fb, i, none⟩ = false := fun i => by rw [hfb]; exact h.fr hk hmm i
  rw [← hr0] at g0
  rw [← hr1] at hb
  rw [← hr0] at hq
  clear h hmm hm hpc hfb hr0 hr1 hr2
  go_enter Try.func35, Try.ntmps35
  rw [hb] at f3
  have HB := Lib.hid hb; have HB3 := Lib.hid hb3; have HQ1 := Lib.hid hq
  have hbx : stI k b < 3 + 8 * P.t + 7 * P.s := by unfold stI; omega
  have hrg := HP.out.c.mem.rng (stI k b) hbx
  have hne : ((b : Int) == 3) = false := by simp; omega
  have hwb1 : IntKind.u64.wrap ((b : Int) + 1) = b + 1 := by rw [IntKind.wrap_u64]; omega
  have hwb2 : IntKind.i64.wrap (b : Int) = b := by rw [IntKind.wrap_i64]; omega
  have hwb3 : IntKind.u64.wrap (b : Int) = b := by rw [IntKind.wrap_u64]; omega
  clear hb hq f4
  go_upto_region 8 with fail
  go_still_tail 9, (by kernel_rfl)
  clear f1 f2
  go_upto_region 9 with fail
  clear f3 rf hne hwb1
  generalize hW : World.setCell _ _ _ = W
  obtain ⟨hp4, hk4⟩ : MP W P (σ.thr k (setF (σ.Ts k) m ⟨((σ.Ts k).fs m).fn, ((σ.Ts k).fs m).pc, updr ((σ.Ts k).fs m).r 1 ((b : Int) + 1)⟩)) ps fvs ∧ KA P.B P.N w W := by rw [← hW, HFB.out]; exact HP.out.setR hk HMM.out 1 ((b : Int) + 1)
  have HP4 := Lib.hid hp4; have HK4 := Lib.hid hk4
  clear hW hp4 hk4 HP
  refine Th.wp_region_K (fun W => W.cell? ⟨fb, 2, none⟩ = some (.int .u64 r0)) 14 (by decide +kernel) ?_
  generalize hwd : World.drew _ = wd
  have hdd : Below W.heap.size W wd := by rw [← hwd]; first | exact (Below.refl _ _).drew.drew | exact (Below.refl _ _).drew
  have HPD := Lib.hid (HP4.out.below hdd); have HKD := Lib.hid (HK4.out.trans (KA.of_below hdd))
  clear hwd hdd HP4 HK4
  have hSd : wd.cell? ⟨fb, 2, none⟩ = some (.int .u64 r0) := by rw [HFB.out, HR0.out]; have h9 := HPD.out.r hk (m := m) (by rw [Sg.thr_at]; exact HMM.out) 0 (by omega); rw [Sg.thr_at, setF_fs] at h9; exact h9
  (refine Th.wpAnyK_takeY (i := 0) (v := ?_) rfl (by decide +kernel) (by decide +kernel) (by decide +kernel) (by decide) (fun _ _ _ h => h) (Or.inl ⟨by rfl, ?_⟩) (.inr hSd) ?_; rotate_left; (intro w; go_simp); (try with_reducible rfl))
  (try simp only [List.getElem_toArray, List.getElem_cons_succ, List.getElem_cons_zero, Act.put, List.setIfInBounds_toArray, List.set_cons_succ, List.set_cons_zero])
  (refine Th.wpAnyK_takeY (i := 2) (v := ?_) rfl (by decide +kernel) (by decide +kernel) (by decide +kernel) (by decide) (fun _ _ _ h => h) (Or.inl ⟨by rfl, ?_⟩) (.inr hSd) ?_; rotate_left; (intro w; go_simp); (try with_reducible rfl))
  (try simp only [List.getElem_toArray, List.getElem_cons_succ, List.getElem_cons_zero, Act.put, List.setIfInBounds_toArray, List.set_cons_succ, List.set_cons_zero])
  (refine Th.wpAnyK_takeY (i := 4) (v := ?_) rfl (by decide +kernel) (by decide +kernel) (by decide +kernel) (by decide) (fun _ _ _ h => h) (Or.inl ⟨by rfl, ?_⟩) (.inr hSd) ?_; rotate_left; (intro w; go_simp); (try with_reducible rfl))
  (try simp only [List.getElem_toArray, List.getElem_cons_succ, List.getElem_cons_zero, Act.put, List.setIfInBounds_toArray, List.set_cons_succ, List.set_cons_zero])
  (refine Th.wpAnyK_takeY (i := 5) (v := ?_) rfl (by decide +kernel) (by decide +kernel) (by decide +kernel) (by decide) (fun _ _ _ h => h) (Or.inl ⟨by rfl, ?_⟩) (.inr hSd) ?_; rotate_left; (intro w; go_simp); (try with_reducible rfl))
  (try simp only [List.getElem_toArray, List.getElem_cons_succ, List.getElem_cons_zero, Act.put, List.setIfInBounds_toArray, List.set_cons_succ, List.set_cons_zero])
  (refine Th.wpAnyK_takeY (i := 6) (v := ?_) rfl (by decide +kernel) (by decide +kernel) (by decide +kernel) (by decide) (fun _ _ _ h => h) (Or.inl ⟨by rfl, ?_⟩) (.inr hSd) ?_; rotate_left; (intro w; go_simp); (try with_reducible rfl))
  (try simp only [List.getElem_toArray, List.getElem_cons_succ, List.getElem_cons_zero, Act.put, List.setIfInBounds_toArray, List.set_cons_succ, List.set_cons_zero])
  (refine Th.wpAnyK_takeY (i := 9) (v := ?_) rfl (by decide +kernel) (by decide +kernel) (by decide +kernel) (by decide) (fun _ _ _ h => h) (Or.inl ⟨by rfl, ?_⟩) (.inr hSd) ?_; rotate_left; (intro w; go_simp); (try with_reducible rfl))
  (try simp only [List.getElem_toArray, List.getElem_cons_succ, List.getElem_cons_zero, Act.put, List.setIfInBounds_toArray, List.set_cons_succ, List.set_cons_zero])
  (refine Th.wpAnyK_takeY (i := 10) (v := ?_) rfl (by decide +kernel) (by decide +kernel) (by decide +kernel) (by decide) (fun _ _ _ h => h) (Or.inl ⟨by rfl, ?_⟩) (.inr hSd) ?_; rotate_left; (intro w; go_simp); (try with_reducible rfl))
  (try simp only [List.getElem_toArray, List.getElem_cons_succ, List.getElem_cons_zero, Act.put, List.setIfInBounds_toArray, List.set_cons_succ, List.set_cons_zero])
  (refine Th.wpAnyK_takeY (i := 11) (v := ?_) rfl (by decide +kernel) (by decide +kernel) (by decide +kernel) (by decide) (fun _ _ _ h => h) (Or.inl ⟨by rfl, ?_⟩) (.inr hSd) ?_; rotate_left; (intro w; go_simp); (try with_reducible rfl))
  (try simp only [List.getElem_toArray, List.getElem_cons_succ, List.getElem_cons_zero, Act.put, List.setIfInBounds_toArray, List.set_cons_succ, List.set_cons_zero])
  (refine Th.wpAnyK_takeY (i := 12) (v := ?_) rfl (by decide +kernel) (by decide +kernel) (by decide +kernel) (by decide) (fun _ _ _ h => h) (Or.inl ⟨by rfl, ?_⟩) (.inr hSd) ?_; rotate_left; (intro w; go_simp); (try with_reducible rfl))
  (try simp only [List.getElem_toArray, List.getElem_cons_succ, List.getElem_cons_zero, Act.put, List.setIfInBounds_toArray, List.set_cons_succ, List.set_cons_zero])
  (refine Th.wpAnyK_take (i := 13) (v := .int .u64 r0) [14] rfl (by decide +kernel) (by decide +kernel) (by decide +kernel) (by decide +kernel) (fun _ _ _ h => h) (Th.yields_loadK rfl 22 (.tmp 57) rfl rfl (by intro W hc; have hc : W.cell? ⟨fb, 2, none⟩ = some (.int .u64 r0) := hc; go_simp)) hSd ?_)
  (try simp only [List.getElem_toArray, List.getElem_cons_succ, List.getElem_cons_zero, Act.put, List.setIfInBounds_toArray, List.set_cons_succ, List.set_cons_zero])
  (refine Th.wpAnyK_ready (rs := [1]) (by decide +kernel) (by simp) ?_; refine (Th.AllReadyK.cons rfl (fun K hK => ?_) Th.AllReadyK.nil))
  refine step_of rfl ?_
  go_step
  refine (cMem HPD.out.c).mono ?_; rintro _ _ ⟨rfl, rfl⟩
  refine hK _ _ (.inr hSd) ?_
  clear hK K
  (try simp only [List.getElem_toArray, List.getElem_cons_succ, List.getElem_cons_zero, Act.put, List.setIfInBounds_toArray, List.set_cons_succ, List.set_cons_zero])
  (refine Th.wpAnyK_ready (rs := [3]) (by decide +kernel) (by simp) ?_; refine (Th.AllReadyK.cons rfl (fun K hK => ?_) Th.AllReadyK.nil))
  refine step_of rfl ?_
  go_step
  refine (cPlan HPD.out.c).mono ?_; rintro _ _ ⟨rfl, rfl⟩
  refine hK _ _ (.inr hSd) ?_
  clear hK K
  (try simp only [List.getElem_toArray, List.getElem_cons_succ, List.getElem_cons_zero, Act.put, List.setIfInBounds_toArray, List.set_cons_succ, List.set_cons_zero])
  (refine Th.wpAnyK_ready (rs := [7]) (by decide +kernel) (by simp) ?_; refine (Th.AllReadyK.cons rfl (fun K hK => ?_) Th.AllReadyK.nil))
  refine step_of rfl ?_
  go_step
  refine (pstamp_calls _ _ _ _ _ _ HPD.out.c.p0 HPD.out.c.p1 (by omega) (by omega) (by omega) (by omega)).mono ?_; rintro _ w7 ⟨rfl, hb7⟩
  rw [of_st hk HB3.out]
  have HP7 := Lib.hid (HPD.out.below hb7); have HK7 := Lib.hid (HKD.out.trans (KA.of_below hb7))
  clear hb7 HPD HKD hSd
  have hS7 : w7.cell? ⟨fb, 2, none⟩ = some (.int .u64 r0) := by rw [HFB.out, HR0.out]; have h9 := HP7.out.r hk (m := m) (by rw [Sg.thr_at]; exact HMM.out) 0 (by omega); rw [Sg.thr_at, setF_fs] at h9; exact h9
  refine hK _ _ (.inr hS7) ?_
  clear hK K
  (try simp only [List.getElem_toArray, List.getElem_cons_succ, List.getElem_cons_zero, Act.put, List.setIfInBounds_toArray, List.set_cons_succ, List.set_cons_zero])
  (refine Th.wpAnyK_ready (rs := [8]) (by decide +kernel) (by simp) ?_; refine (Th.AllReadyK.cons rfl (fun K hK => ?_) Th.AllReadyK.nil))
  refine step_of rfl ?_
  go_step
  refine (HP7.out.load (stI k b) hbx a0 a1).mono ?_; rintro _ w3 ⟨rfl, hp3, hk3⟩
  have HP3 := Lib.hid (show MP w3 P ({ σ.thr k (setF (σ.Ts k) m ⟨((σ.Ts k).fs m).fn, ((σ.Ts k).fs m).pc, updr ((σ.Ts k).fs m).r 1 ((b : Int) + 1)⟩) with acc := σ.acc + 1 }) ps fvs from hp3); have HK3 := Lib.hid (HK7.out.trans hk3)
  have hS3 : w3.cell? ⟨fb, 2, none⟩ = some (.int .u64 r0) := by rw [HFB.out, HR0.out]; have h9 := hp3.r hk (m := m) (by show m < ((σ.thr k (setF (σ.Ts k) m ⟨((σ.Ts k).fs m).fn, ((σ.Ts k).fs m).pc, updr ((σ.Ts k).fs m).r 1 ((b : Int) + 1)⟩)).Ts k).nf; rw [Sg.thr_at]; exact HMM.out) 0 (by omega); rw [show (({ σ.thr k (setF (σ.Ts k) m ⟨((σ.Ts k).fs m).fn, ((σ.Ts k).fs m).pc, updr ((σ.Ts k).fs m).r 1 ((b : Int) + 1)⟩) with acc := σ.acc + 1 } : Sg).Ts k) = (setF (σ.Ts k) m ⟨((σ.Ts k).fs m).fn, ((σ.Ts k).fs m).pc, updr ((σ.Ts k).fs m).r 1 ((b : Int) + 1)⟩) from Sg.thr_at _ _ _, setF_fs] at h9; exact h9
  refine hK _ _ (.inr hS3) ?_
  clear hK K hp3 hk3 HP7 HK7 hS7
  (try simp only [List.getElem_toArray, List.getElem_cons_succ, List.getElem_cons_zero, Act.put, List.setIfInBounds_toArray, List.set_cons_succ, List.set_cons_zero])
  (refine Th.wpAnyK_ready (rs := [14]) (by decide +kernel) (by simp) ?_; refine (Th.AllReadyK.cons rfl (fun K hK => ?_) Th.AllReadyK.nil))
  refine step_of rfl ?_
  go_step
  refine (bold_calls (σ.f (stI k b)) r0 _ hrg.1 hrg.2).mono ?_; rintro _ _ ⟨rfl, rfl⟩
  rw [HQ1.out]
  refine hK _ _ (.inl rfl) ?_
  clear hK K hS3
  refine Th.wpAnyK_done (by decide +kernel) ?_ _
  go_wp2_with fail
  generalize hU : World.alloc _ _ = U
  obtain ⟨u0, hbu⟩ := Th.heapnewE hU
  have HPU := Lib.hid (HP3.out.below hbu); have HKU := Lib.hid (HK3.out.trans (KA.of_below hbu))
  have hur := ur_one u0
  clear hU u0 hbu HP3 HK3
  have HNF := Lib.hid (show (({ σ.thr k (setF (σ.Ts k) m ⟨((σ.Ts k).fs m).fn, ((σ.Ts k).fs m).pc, updr ((σ.Ts k).fs m).r 1 ((b : Int) + 1)⟩) with acc := σ.acc + 1, f := σ.f } : Sg).Ts k).nf ≤ 100000 from by rw [nf_set]; have := HM.out; omega)
  refine (mcall (n := 1) (L := fun _ => (b : Int)) HPU.out.mm hk 21 hur HNF.out).mono ?_; rintro _ w9 ⟨rfl, hm9, hk9⟩
  have hm9 := MM.called (σ := σ) (k := k) (X := (setF (σ.Ts k) m ⟨((σ.Ts k).fs m).fn, ((σ.Ts k).fs m).pc, updr ((σ.Ts k).fs m).r 1 ((b : Int) + 1)⟩)) (a := σ.acc + 1) (f := σ.f) hm9
  have HM9 := Lib.hid hm9; have HK9 := Lib.hid (HKU.out.trans hk9)
  clear hur hm9 hk9 HPU HKU
  go_wp2_with fail
  first | (refine bodyPost_end (v := .tuple #[]) (by simp [results, Try.results35, go_sem]) rfl ?_) | (refine bodyPost_ret (v := .tuple #[]) (by simp [results, Try.results35, go_sem]) rfl ?_)
  rw [HQ.out, show cl1dS k m b σ = { σ.thr k (Th.callT (setF (σ.Ts k) m ⟨((σ.Ts k).fs m).fn, ((σ.Ts k).fs m).pc, updr ((σ.Ts k).fs m).r 1 ((b : Int) + 1)⟩) 21 1 (fun _ => (b : Int))) with acc := σ.acc + 1, f := σ.f } from by unfold cl1dS; rw [show ((σ.Ts k).fs m).r 1 = (b : Int) from by rw [← HR1.out]; exact HB.out]; rfl]
  exact ⟨rfl, HM9.out, HK9.out⟩
end Go.Proofs.Ytaaciolfgplnoaa
