/- GAW: several texts in one. -/
import Derived.Test.YtaaciolfgplnoaaGAV
/- Layer 19: steps of Retire, Drain, Clean. -/
namespace Go.Proofs.Ytaaciolfgplnoaa
open Go.RowKit WordM EdgeM
set_option linter.unusedVariables false
set_option linter.unusedSimpArgs false
def rt0S (k m : Nat) (σ : Sg) : Sg := { σ.thr k (setF (σ.Ts k) m ⟨((σ.Ts k).fs m).fn, 1, updr ((σ.Ts k).fs m).r 1 (σ.f 1)⟩) with acc := σ.acc + 1 }
def rt1S (k m : Nat) (σ : Sg) : Sg := { σ.thr k (setF (σ.Ts k) m ⟨((σ.Ts k).fs m).fn, 3, ((σ.Ts k).fs m).r⟩) with acc := σ.acc + 1 }
def rt1dS (k m b : Nat) (σ : Sg) : Sg := { σ.thr k (Th.callT (setF (σ.Ts k) m ⟨((σ.Ts k).fs m).fn, 2, ((σ.Ts k).fs m).r⟩) 21 1 (fun _ => (b : Int))) with acc := σ.acc + 1 }
def rt2S (k m b : Nat) (σ : Sg) : Sg := { σ.thr k (setF (σ.Ts k) m ⟨((σ.Ts k).fs m).fn, 3, ((σ.Ts k).fs m).r⟩) with acc := σ.acc + 1, f := Mm.upd σ.f (stI k b) (((σ.Ts k).fs m).r 1) }
def rt3S (k m b : Nat) (σ : Sg) : Sg := { σ.thr k (setF (σ.Ts k) m ⟨((σ.Ts k).fs m).fn, 4, updr ((σ.Ts k).fs m).r 2 (σ.f (bgI k b))⟩) with acc := σ.acc + 1 }
def rt4S (P : Pc) (k m a : Nat) (σ : Sg) : Sg := { σ.thr k (setF (σ.Ts k) m ⟨((σ.Ts k).fs m).fn, 5, ((σ.Ts k).fs m).r⟩) with acc := σ.acc + 1, f := Mm.upd σ.f (Sl.nd P.t a 0) (((σ.Ts k).fs m).r 2) }
def rt5S (k m b : Nat) (σ : Sg) : Sg := { σ.thr k (Th.backT (σ.Ts k) 0 (fun _ => 0)) with acc := σ.acc + 1, f := Mm.upd σ.f (bgI k b) (((σ.Ts k).fs m).r 0 % 4611686018427387904) }
def dr0S (k m b : Nat) (σ : Sg) : Sg := { σ.thr k (setF (σ.Ts k) m ⟨((σ.Ts k).fs m).fn, 1, updr ((σ.Ts k).fs m).r 1 (σ.f (bgI k b))⟩) with acc := σ.acc + 1 }
def dr0zS (k m b : Nat) (σ : Sg) : Sg := { σ.thr k (Th.backT (setF (σ.Ts k) m ⟨((σ.Ts k).fs m).fn, 1, updr ((σ.Ts k).fs m).r 1 (σ.f (bgI k b))⟩) 0 (fun _ => 0)) with acc := σ.acc + 1 }
def dr1S (k m b : Nat) (σ : Sg) : Sg := { σ.thr k (setF (σ.Ts k) m ⟨((σ.Ts k).fs m).fn, 2, ((σ.Ts k).fs m).r⟩) with acc := σ.acc + 1, f := Mm.upd σ.f (bgI k b) 0 }
def dr2zS (k : Nat) (σ : Sg) : Sg := σ.thr k (Th.backT (σ.Ts k) 0 (fun _ => 0))
def dr2nS (P : Pc) (k m a : Nat) (σ : Sg) : Sg := { σ.thr k (Th.callT (setF (σ.Ts k) m ⟨((σ.Ts k).fs m).fn, ((σ.Ts k).fs m).pc, updr ((σ.Ts k).fs m).r 1 (σ.f (Sl.nd P.t a 0))⟩) 2 1 (fun _ => ((σ.Ts k).fs m).r 1)) with acc := σ.acc + 1 }
def cl0S (k m : Nat) (σ : Sg) : Sg := { σ.thr k (setF (σ.Ts k) m ⟨((σ.Ts k).fs m).fn, 1, updr ((σ.Ts k).fs m).r 0 (σ.f 1)⟩) with acc := σ.acc + 1 }
def cl1nS (k m : Nat) (σ : Sg) : Sg := { σ.thr k (setF (σ.Ts k) m ⟨((σ.Ts k).fs m).fn, ((σ.Ts k).fs m).pc, updr ((σ.Ts k).fs m).r 1 (((σ.Ts k).fs m).r 1 + 1)⟩) with acc := σ.acc + 1 }
def cl1dS (k m b : Nat) (σ : Sg) : Sg := { σ.thr k (Th.callT (setF (σ.Ts k) m ⟨((σ.Ts k).fs m).fn, ((σ.Ts k).fs m).pc, updr ((σ.Ts k).fs m).r 1 (((σ.Ts k).fs m).r 1 + 1)⟩) 21 1 (fun _ => (b : Int))) with acc := σ.acc + 1 }
theorem thr_up (σ : Sg) (k : Nat) (X : Th.Td) (a : Int) (f : Nat → Int) (Y : Th.Td) : ({ σ.thr k X with acc := a, f := f } : Sg).thr k Y = { σ.thr k Y with acc := a, f := f } := by
  unfold Sg.thr; simp only [Sg.mk.injEq, true_and, and_true]
  funext i
  by_cases e : i = k
  · rw [if_pos e, if_pos e]
  · rw [if_neg e, if_neg e, if_neg e]
theorem nf_set (σ : Sg) (k m : Nat) (F : Th.Fm) (a : Int) (f : Nat → Int) : (({ σ.thr k (setF (σ.Ts k) m F) with acc := a, f := f } : Sg).Ts k).nf = (σ.Ts k).nf := by
  have e : (({ σ.thr k (setF (σ.Ts k) m F) with acc := a, f := f } : Sg).Ts k) = setF (σ.Ts k) m F := Sg.thr_at _ _ _
  rw [e]; rfl
section
variable {w w' : World} {P : Pc} {σ : Sg} {ps : Nat → Nat → Nat} {fvs : Nat → Value} {k m : Nat} {F : Th.Fm} {X : Th.Td} {a : Int} {f : Nat → Int}
theorem MP.pcs (h : MP w P { σ.thr k (setF (σ.Ts k) m F) with acc := a, f := f } ps fvs) (hk : k < P.t) (hm : m < (σ.Ts k).nf) (v : Int) : MP (w.setCell ⟨ps k m, 1, none⟩ (.int .i64 v)) P { σ.thr k (setF (σ.Ts k) m ⟨F.fn, v, F.r⟩) with acc := a, f := f } ps fvs ∧ KA P.B P.N w (w.setCell ⟨ps k m, 1, none⟩ (.int .i64 v)) := by
  have e : (({ σ.thr k (setF (σ.Ts k) m F) with acc := a, f := f } : Sg).Ts k) = setF (σ.Ts k) m F := Sg.thr_at _ _ _
  have h1 := h.setPC (m := m) hk (by rw [e]; exact hm) v
  rw [e, setF_fs, setF_setF, thr_up] at h1
  exact h1
theorem MP.fpc (h : MP w P { σ.thr k (setF (σ.Ts k) m F) with acc := a, f := f } ps fvs) (hk : k < P.t) (hm : m < (σ.Ts k).nf) : w.cell? ⟨ps k m, 1, none⟩ = some (.int .i64 F.pc) ∧ (∀ i, i < 24 → w.cell? ⟨ps k m, 2 + i, none⟩ = some (.int .u64 (F.r i))) ∧ ∀ i, w.frozen? ⟨ps k m, i, none⟩ = false := by
  have e : (({ σ.thr k (setF (σ.Ts k) m F) with acc := a, f := f } : Sg).Ts k) = setF (σ.Ts k) m F := Sg.thr_at _ _ _
  have hm' : m < (({ σ.thr k (setF (σ.Ts k) m F) with acc := a, f := f } : Sg).Ts k).nf := by rw [e]; exact hm
  refine ⟨?_, fun i hi => ?_, h.fr hk hm'⟩
  · have h1 := h.pc hk hm'; rw [e, setF_fs] at h1; exact h1
  · have h1 := h.r hk hm' i hi; rw [e, setF_fs] at h1; exact h1
theorem MM.called {fn : Int} {n : Nat} {L : Nat → Int} (h : MM w P (({ σ.thr k X with acc := a, f := f } : Sg).thr k (Th.callT (({ σ.thr k X with acc := a, f := f } : Sg).Ts k) fn n L))) : MM w P { σ.thr k (Th.callT X fn n L) with acc := a, f := f } := by
  have e : (({ σ.thr k X with acc := a, f := f } : Sg).Ts k) = X := Sg.thr_at _ _ _
  rw [e, thr_up] at h; exact h
end
set_option maxRecDepth 8000 in
set_option maxHeartbeats 2000000 in
theorem ret1 {w : World} {P : Pc} {σ : Sg} {ps : Nat → Nat → Nat} {fvs : Nat → Value} (h : MP w P σ ps fvs) {k m : Nat} (hk : k < P.t) (hm : (σ.Ts k).nf = m + 1) (hN : m ≤ 1000) (a0 : 0 ≤ σ.acc) (a1 : σ.acc < 1000000) (hpc : ((σ.Ts k).fs m).pc = 1) (g0 : 0 ≤ ((σ.Ts k).fs m).r 0 ∧ ((σ.Ts k).fs m).r 0 < 18446744073709551616) (g1 : 0 ≤ ((σ.Ts k).fs m).r 1 ∧ ((σ.Ts k).fs m).r 1 < 18446744073709551616) {b : Nat} (hb : ((σ.Ts k).fs m).r 1 % 3 = b) (hq : (σ.f (stI k b) != ((σ.Ts k).fs m).r 1) = false) :
    Calls Try.prog 33 #[.pointer (some ⟨P.q, 0, none⟩), .int .i64 k, .pointer (some ⟨P.tq k, 0, none⟩), .pointer (some ⟨ps k m, 0, none⟩)] w fun x w' => x = .returned (.tuple #[]) ∧ MM w' P (rt1S k m σ) ∧ KA P.B P.N w w' := by
  refine Calls.veil fun Q HQ => ?_
  have HP := Lib.hid h
  have hmm : m < (σ.Ts k).nf := by omega
  have HMM := Lib.hid hmm; have HM := Lib.hid hm; have HPC := Lib.hid hpc
  have hbb := h.mm.bd
  obtain ⟨fb, hfb⟩ : ∃ fb, fb = ps k m := ⟨_, rfl⟩
  obtain ⟨r0, hr0⟩ : ∃ r0, r0 = ((σ.Ts k).fs m).r 0 := ⟨_, rfl⟩
  obtain ⟨r1, hr1⟩ : ∃ r1, r1 = ((σ.Ts k).fs m).r 1 := ⟨_, rfl⟩
  obtain ⟨r2, hr2⟩ : ∃ r2, r2 = ((σ.Ts k).fs m).r 2 := ⟨_, rfl⟩
  have HFB := Lib.hid hfb; have HR0 := Lib.hid hr0; have HR1 := Lib.hid hr1; have HR2 := Lib.hid hr2
  rw [← hfb]
  have f1 : w.cell? ⟨fb, 1, none⟩ = some (.int .i64 1) := by rw [hfb, h.pc hk hmm, hpc]
  have f2 : w.cell? ⟨fb, 2, none⟩ = some (.int .u64 r0) := by rw [hfb, hr0]; exact h.r hk hmm 0 (by omega)
  have f3 : w.cell? ⟨fb, 3, none⟩ = some (.int .u64 r1) := by rw [hfb, hr1]; exact h.r hk hmm 1 (by omega)
  have f4 : w.cell? ⟨fb, 4, none⟩ = some (.int .u64 r2) := by rw [hfb, hr2]; exact h.r hk hmm 2 (by omega)
  have rf : ∀ i, w.frozen? ⟨fb, i, none⟩ = false := fun i => by rw [hfb]; exact h.fr hk hmm i
  rw [← hr0] at g0
  rw [← hr1] at g1
  rw [← hr1] at hb
  rw [← hr1] at hq
  clear h hmm hm hpc hfb hr0 hr1 hr2
  go_enter Try.func33, Try.ntmps33
  have hb3 : b < 3 := by omega
  have HB := Lib.hid hb; have HB3 := Lib.hid hb3
  go_wp2_with fail
  refine (enode_calls r0 _ g0.1 g0.2).mono ?_; rintro _ _ ⟨rfl, rfl⟩
  obtain ⟨nd, hnd⟩ : ∃ nd, nd = r0 % 4611686018427387904 := ⟨_, rfl⟩
  rw [← hnd]
  have HND := Lib.hid hnd
  clear hnd
  go_wp2_with fail
  refine (bbag_calls r1 _ g1.1 g1.2).mono ?_; rintro _ _ ⟨rfl, rfl⟩
  rw [HB.out]
  clear hb
  have HQ1 := Lib.hid hq
  clear hq f2 f3 f4
  go_wp2_with fail
  clear f1 rf
  generalize hW : World.setCell _ _ _ = V1
  obtain ⟨hp1, hk1⟩ : MP V1 P _ ps fvs ∧ KA P.B P.N _ V1 := by rw [← hW, HFB.out]; exact HP.out.setPC hk (by exact HMM.out) 3
  have HV1 := Lib.hid hp1; have HKV1 := Lib.hid (hk1)
  clear hW hp1 hk1
  refine (cMem HV1.out.c).mono ?_; rintro _ _ ⟨rfl, rfl⟩
  go_wp2_with fail
  refine (cPlan HV1.out.c).mono ?_; rintro _ _ ⟨rfl, rfl⟩
  go_wp2_with fail
  refine (pstamp_calls _ _ _ _ _ _ HV1.out.c.p0 HV1.out.c.p1 (by omega) (by omega) (by omega) (by omega)).mono ?_; rintro _ w7 ⟨rfl, hb7⟩
  rw [of_st hk HB3.out]
  have HP7 := Lib.hid (HV1.out.below hb7); have HK7 := Lib.hid (HKV1.out.trans (KA.of_below hb7))
  clear hb7 HV1 HKV1
  go_wp2_with fail
  refine (HP7.out.load (stI k b) (by unfold stI; omega) a0 a1).mono ?_; rintro _ w8 ⟨rfl, hp8, hk8⟩
  have HP8 := Lib.hid hp8; have HK8 := Lib.hid (HK7.out.trans hk8)
  clear hp8 hk8 HP7 HK7
  obtain ⟨sv, hsv⟩ : ∃ sv, sv = σ.f (stI k b) := ⟨_, rfl⟩
  have hq2 : (sv != r1) = false := by rw [hsv]; exact HQ1.out
  (try rw [show (σ.thr k (setF (σ.Ts k) m ⟨((σ.Ts k).fs m).fn, 3, ((σ.Ts k).fs m).r⟩)).f (stI k b) = sv from hsv.symm])
  clear hsv
  go_wp2_with fail
  first | (refine bodyPost_end (v := .tuple #[]) (by simp [results, Try.results33, go_sem]) rfl ?_) | (refine bodyPost_ret (v := .tuple #[]) (by simp [results, Try.results33, go_sem]) rfl ?_)
  rw [HQ.out]
  exact ⟨rfl, HP8.out.mm, HK8.out⟩
set_option maxRecDepth 8000 in
set_option maxHeartbeats 2000000 in
theorem ret1d {w : World} {P : Pc} {σ : Sg} {ps : Nat → Nat → Nat} {fvs : Nat → Value} (h : MP w P σ ps fvs) {k m : Nat} (hk : k < P.t) (hm : (σ.Ts k).nf = m + 1) (hN : m ≤ 1000) (a0 : 0 ≤ σ.acc) (a1 : σ.acc < 1000000) (hpc : ((σ.Ts k).fs m).pc = 1) (g0 : 0 ≤ ((σ.Ts k).fs m).r 0 ∧ ((σ.Ts k).fs m).r 0 < 18446744073709551616) (g1 : 0 ≤ ((σ.Ts k).fs m).r 1 ∧ ((σ.Ts k).fs m).r 1 < 18446744073709551616) {b : Nat} (hb : ((σ.Ts k).fs m).r 1 % 3 = b) (hq : (σ.f (stI k b) != ((σ.Ts k).fs m).r 1) = true) :
    Calls Try.prog 33 #[.pointer (some ⟨P.q, 0, none⟩), .int .i64 k, .pointer (some ⟨P.tq k, 0, none⟩), .pointer (some ⟨ps k m, 0, none⟩)] w fun x w' => x = .returned (.tuple #[]) ∧ MM w' P (rt1dS k m b σ) ∧ KA P.B P.N w w' := by
  refine Calls.veil fun Q HQ => ?_
  have HP := Lib.hid h
  have hmm : m < (σ.Ts k).nf := by omega
  have HMM := Lib.hid hmm; have HM := Lib.hid hm; have HPC := Lib.hid hpc
  have hbb := h.mm.bd
  obtain ⟨fb, hfb⟩ : ∃ fb, fb = ps k m := ⟨_, rfl⟩
  obtain ⟨r0, hr0⟩ : ∃ r0, r0 = ((σ.Ts k).fs m).r 0 := ⟨_, rfl⟩
  obtain ⟨r1, hr1⟩ : ∃ r1, r1 = ((σ.Ts k).fs m).r 1 := ⟨_, rfl⟩
  obtain ⟨r2, hr2⟩ : ∃ r2, r2 = ((σ.Ts k).fs m).r 2 := ⟨_, rfl⟩
  have HFB := Lib.hid hfb; have HR0 := Lib.hid hr0; have HR1 := Lib.hid hr1; have HR2 := Lib.hid hr2
  rw [← hfb]
  have f1 : w.cell? ⟨fb, 1, none⟩ = some (.int .i64 1) := by rw [hfb, h.pc hk hmm, hpc]
  have f2 : w.cell? ⟨fb, 2, none⟩ = some (.int .u64 r0) := by rw [hfb, hr0]; exact h.r hk hmm 0 (by omega)
  have f3 : w.cell? ⟨fb, 3, none⟩ = some (.int .u64 r1) := by rw [hfb, hr1]; exact h.r hk hmm 1 (by omega)
  have f4 : w.cell? ⟨fb, 4, none⟩ = some (.int .u64 r2) := by rw [hfb, hr2]; exact h.r hk hmm 2 (by omega)
  have rf : ∀ i, w.frozen? ⟨fb, i, none⟩ = false := fun i => by rw [hfb]; exact h.fr hk hmm i
  rw [← hr0] at g0
  rw [← hr1] at g1
  rw [← hr1] at hb
  rw [← hr1] at hq
  clear h hmm hm hpc hfb hr0 hr1 hr2
  go_enter Try.func33, Try.ntmps33
  have hb3 : b < 3 := by omega
  have HB := Lib.hid hb; have HB3 := Lib.hid hb3
  go_wp2_with fail
  refine (enode_calls r0 _ g0.1 g0.2).mono ?_; rintro _ _ ⟨rfl, rfl⟩
  obtain ⟨nd, hnd⟩ : ∃ nd, nd = r0 % 4611686018427387904 := ⟨_, rfl⟩
  rw [← hnd]
  have HND := Lib.hid hnd
  clear hnd
  go_wp2_with fail
  refine (bbag_calls r1 _ g1.1 g1.2).mono ?_; rintro _ _ ⟨rfl, rfl⟩
  rw [HB.out]
  clear hb
  have HQ1 := Lib.hid hq
  clear hq f2 f3 f4
  go_wp2_with fail
  clear f1 rf
  generalize hW : World.setCell _ _ _ = V1
  obtain ⟨hp1, hk1⟩ : MP V1 P _ ps fvs ∧ KA P.B P.N _ V1 := by rw [← hW, HFB.out]; exact HP.out.setPC hk (by exact HMM.out) 3
  have HV1 := Lib.hid hp1; have HKV1 := Lib.hid (hk1)
  clear hW hp1 hk1
  refine (cMem HV1.out.c).mono ?_; rintro _ _ ⟨rfl, rfl⟩
  go_wp2_with fail
  refine (cPlan HV1.out.c).mono ?_; rintro _ _ ⟨rfl, rfl⟩
  go_wp2_with fail
  refine (pstamp_calls _ _ _ _ _ _ HV1.out.c.p0 HV1.out.c.p1 (by omega) (by omega) (by omega) (by omega)).mono ?_; rintro _ w7 ⟨rfl, hb7⟩
  rw [of_st hk HB3.out]
  have HP7 := Lib.hid (HV1.out.below hb7); have HK7 := Lib.hid (HKV1.out.trans (KA.of_below hb7))
  clear hb7 HV1 HKV1
  go_wp2_with fail
  refine (HP7.out.load (stI k b) (by unfold stI; omega) a0 a1).mono ?_; rintro _ w8 ⟨rfl, hp8, hk8⟩
  have HP8 := Lib.hid hp8; have HK8 := Lib.hid (HK7.out.trans hk8)
  clear hp8 hk8 HP7 HK7
  obtain ⟨sv, hsv⟩ : ∃ sv, sv = σ.f (stI k b) := ⟨_, rfl⟩
  have hq2 : (sv != r1) = true := by rw [hsv]; exact HQ1.out
  rw [show (σ.thr k (setF (σ.Ts k) m ⟨((σ.Ts k).fs m).fn, 3, ((σ.Ts k).fs m).r⟩)).f (stI k b) = sv from hsv.symm]
  clear hsv
  obtain ⟨g1', g2', g3'⟩ := HP8.out.fpc hk HMM.out
  rw [← HFB.out] at g1' g3'
  have hwb : IntKind.u64.wrap (b : Int) = b := by rw [IntKind.wrap_u64]; omega
  clear g2'
  go_wp2_with fail
  clear g1' g3' hwb hq2
  obtain ⟨V2, hV2⟩ : ∃ V2, V2 = w8.setCell ⟨fb, 1, none⟩ (.int .i64 2) := ⟨_, rfl⟩
  rw [← hV2]
  have hsz : w8.heap.size = V2.heap.size := by rw [hV2]; simp [World.setCell]
  rw [hsz]; clear hsz
  obtain ⟨hp9, hk9⟩ := HP8.out.pcs hk HMM.out 2
  rw [← HFB.out, ← hV2] at hp9 hk9
  have HPV := Lib.hid hp9; have HKV := Lib.hid (HK8.out.trans hk9)
  clear hp9 hk9 hV2 HP8 HK8
  generalize hU : World.alloc _ _ = U
  obtain ⟨u0, hbu⟩ := Th.heapnewE hU
  have HPU := Lib.hid (HPV.out.below hbu); have HKU := Lib.hid (HKV.out.trans (KA.of_below hbu))
  have hur := ur_one u0
  have HNF := Lib.hid (show (({ σ.thr k (setF (σ.Ts k) m ⟨((σ.Ts k).fs m).fn, 2, ((σ.Ts k).fs m).r⟩) with acc := σ.acc + 1, f := σ.f } : Sg).Ts k).nf ≤ 100000 from by rw [nf_set]; have := HM.out; omega)
  clear hU u0 hbu HKV
  refine (mcall (n := 1) (L := fun _ => (b : Int)) HPU.out.mm hk 21 hur HNF.out).mono ?_; rintro _ w9 ⟨rfl, hm9, hk9⟩
  have hm9 := MM.called (σ := σ) (k := k) (X := setF (σ.Ts k) m ⟨((σ.Ts k).fs m).fn, 2, ((σ.Ts k).fs m).r⟩) (a := σ.acc + 1) (f := σ.f) hm9
  have HM9 := Lib.hid (show MM w9 P (rt1dS k m b σ) from hm9); have HK9 := Lib.hid (HKU.out.trans hk9)
  clear hur hm9 hk9 HPV HPU HKU
  go_wp2_with fail
  first | (refine bodyPost_end (v := .tuple #[]) (by simp [results, Try.results33, go_sem]) rfl ?_) | (refine bodyPost_ret (v := .tuple #[]) (by simp [results, Try.results33, go_sem]) rfl ?_)
  rw [HQ.out]
  exact ⟨rfl, HM9.out, HK9.out⟩
end Go.Proofs.Ytaaciolfgplnoaa

/- Layer 19: steps of Retire and Drain, second part. -/
namespace Go.Proofs.Ytaaciolfgplnoaa
open Go.RowKit WordM EdgeM
set_option linter.unusedVariables false
set_option linter.unusedSimpArgs false
set_option maxRecDepth 8000 in
set_option maxHeartbeats 2000000 in
theorem ret2 {w : World} {P : Pc} {σ : Sg} {ps : Nat → Nat → Nat} {fvs : Nat → Value} (h : MP w P σ ps fvs) {k m : Nat} (hk : k < P.t) (hm : (σ.Ts k).nf = m + 1) (hN : m ≤ 1000) (a0 : 0 ≤ σ.acc) (a1 : σ.acc < 1000000) (hpc : ((σ.Ts k).fs m).pc = 2) (g0 : 0 ≤ ((σ.Ts k).fs m).r 0 ∧ ((σ.Ts k).fs m).r 0 < 18446744073709551616) (g1 : 0 ≤ ((σ.Ts k).fs m).r 1 ∧ ((σ.Ts k).fs m).r 1 < 18446744073709551616) {b : Nat} (hb : ((σ.Ts k).fs m).r 1 % 3 = b) :
    Calls Try.prog 33 #[.pointer (some ⟨P.q, 0, none⟩), .int .i64 k, .pointer (some ⟨P.tq k, 0, none⟩), .pointer (some ⟨ps k m, 0, none⟩)] w fun x w' => x = .returned (.tuple #[]) ∧ MM w' P (rt2S k m b σ) ∧ KA P.B P.N w w' := by
  refine Calls.veil fun Q HQ => ?_
  have HP := Lib.hid h
  have hmm : m < (σ.Ts k).nf := by omega
  have HMM := Lib.hid hmm; have HM := Lib.hid hm; have HPC := Lib.hid hpc
  have hbb := h.mm.bd
  obtain ⟨fb, hfb⟩ : ∃ fb, fb = ps k m := ⟨_, rfl⟩
  obtain ⟨r0, hr0⟩ : ∃ r0, r0 = ((σ.Ts k).fs m).r 0 := ⟨_, rfl⟩
  obtain ⟨r1, hr1⟩ : ∃ r1, r1 = ((σ.Ts k).fs m).r 1 := ⟨_, rfl⟩
  obtain ⟨r2, hr2⟩ : ∃ r2, r2 = ((σ.Ts k).fs m).r 2 := ⟨_, rfl⟩
  have HFB := Lib.hid hfb; have HR0 := Lib.hid hr0; have HR1 := Lib.hid hr1; have HR2 := Lib.hid hr2
  rw [← hfb]
  have f1 : w.cell? ⟨fb, 1, none⟩ = some (.int .i64 2) := by rw [hfb, h.pc hk hmm, hpc]
  have f2 : w.cell? ⟨fb, 2, none⟩ = some (.int .u64 r0) := by rw [hfb, hr0]; exact h.r hk hmm 0 (by omega)
  have f3 : w.cell? ⟨fb, 3, none⟩ = some (.int .u64 r1) := by rw [hfb, hr1]; exact h.r hk hmm 1 (by omega)
  have f4 : w.cell? ⟨fb, 4, none⟩ = some (.int .u64 r2) := by rw [hfb, hr2]; exact h.r hk hmm 2 (by omega)
  have rf : ∀ i, w.frozen? ⟨fb, i, none⟩ = false := fun i => by rw [hfb]; exact h.fr hk hmm i
  rw [← hr0] at g0
  rw [← hr1] at g1
  rw [← hr1] at hb
  clear h hmm hm hpc hfb hr0 hr1 hr2
  go_enter Try.func33, Try.ntmps33
  have hb3 : b < 3 := by omega
  have HB := Lib.hid hb; have HB3 := Lib.hid hb3
  go_wp2_with fail
  refine (enode_calls r0 _ g0.1 g0.2).mono ?_; rintro _ _ ⟨rfl, rfl⟩
  obtain ⟨nd, hnd⟩ : ∃ nd, nd = r0 % 4611686018427387904 := ⟨_, rfl⟩
  rw [← hnd]
  have HND := Lib.hid hnd
  clear hnd
  go_wp2_with fail
  refine (bbag_calls r1 _ g1.1 g1.2).mono ?_; rintro _ _ ⟨rfl, rfl⟩
  rw [HB.out]
  clear hb
  clear f2 f3 f4
  go_wp2_with fail
  clear f1 rf
  refine (cMem HP.out.c).mono ?_; rintro _ _ ⟨rfl, rfl⟩
  go_wp2_with fail
  refine (cPlan HP.out.c).mono ?_; rintro _ _ ⟨rfl, rfl⟩
  go_wp2_with fail
  refine (pstamp_calls _ _ _ _ _ _ HP.out.c.p0 HP.out.c.p1 (by omega) (by omega) (by omega) (by omega)).mono ?_; rintro _ w7 ⟨rfl, hb7⟩
  rw [of_st hk HB3.out]
  have HP7 := Lib.hid (HP.out.below hb7); have HK7 := Lib.hid (KA.of_below (B := P.B) (N := P.N) hb7)
  clear hb7 HP
  go_wp2_with fail
  refine (HP7.out.store (stI k b) (by unfold stI; omega) r1 g1.1 g1.2 a0 a1).mono ?_; rintro _ w8 ⟨rfl, hp8, hk8⟩
  have HP8 := Lib.hid hp8; have HK8 := Lib.hid (HK7.out.trans hk8)
  clear hp8 hk8 HP7 HK7
  skip
  have g1' := HP8.out.pc hk (m := m) (by exact HMM.out)
  have g3' := HP8.out.fr hk (m := m) (by exact HMM.out)
  rw [← HFB.out] at g1' g3'
  go_wp2_with fail
  clear g1' g3'
  generalize hW : World.setCell _ _ _ = V1
  obtain ⟨hp1, hk1⟩ : MP V1 P _ ps fvs ∧ KA P.B P.N _ V1 := by rw [← hW, HFB.out]; exact HP8.out.setPC hk (by exact HMM.out) 3
  have HV1 := Lib.hid hp1; have HKV1 := Lib.hid (HK8.out.trans hk1)
  clear hW hp1 hk1
  first | (refine bodyPost_end (v := .tuple #[]) (by simp [results, Try.results33, go_sem]) rfl ?_) | (refine bodyPost_ret (v := .tuple #[]) (by simp [results, Try.results33, go_sem]) rfl ?_)
  rw [HQ.out, show rt2S k m b σ = ({ σ with acc := σ.acc + 1, f := Mm.upd σ.f (stI k b) r1 } : Sg).thr k (setF (σ.Ts k) m ⟨((σ.Ts k).fs m).fn, 3, ((σ.Ts k).fs m).r⟩) from by rw [HR1.out]; rfl]
  exact ⟨rfl, HV1.out.mm, HKV1.out⟩
set_option maxRecDepth 8000 in
set_option maxHeartbeats 2000000 in
theorem ret5 {w : World} {P : Pc} {σ : Sg} {ps : Nat → Nat → Nat} {fvs : Nat → Value} (h : MP w P σ ps fvs) {k m : Nat} (hk : k < P.t) (hm : (σ.Ts k).nf = m + 1) (hN : m ≤ 1000) (a0 : 0 ≤ σ.acc) (a1 : σ.acc < 1000000) (hpc : ((σ.Ts k).fs m).pc = 5) (g0 : 0 ≤ ((σ.Ts k).fs m).r 0 ∧ ((σ.Ts k).fs m).r 0 < 18446744073709551616) (g1 : 0 ≤ ((σ.Ts k).fs m).r 1 ∧ ((σ.Ts k).fs m).r 1 < 18446744073709551616) {b : Nat} (hb : ((σ.Ts k).fs m).r 1 % 3 = b) :
    Calls Try.prog 33 #[.pointer (some ⟨P.q, 0, none⟩), .int .i64 k, .pointer (some ⟨P.tq k, 0, none⟩), .pointer (some ⟨ps k m, 0, none⟩)] w fun x w' => x = .returned (.tuple #[]) ∧ MM w' P (rt5S k m b σ) ∧ KA P.B P.N w w' := by
  refine Calls.veil fun Q HQ => ?_
  have HP := Lib.hid h
  have hmm : m < (σ.Ts k).nf := by omega
  have HMM := Lib.hid hmm; have HM := Lib.hid hm; have HPC := Lib.hid hpc
  have hbb := h.mm.bd
  obtain ⟨fb, hfb⟩ : ∃ fb, fb = ps k m := ⟨_, rfl⟩
  obtain ⟨r0, hr0⟩ : ∃ r0, r0 = ((σ.Ts k).fs m).r 0 := ⟨_, rfl⟩
  obtain ⟨r1, hr1⟩ : ∃ r1, r1 = ((σ.Ts k).fs m).r 1 := ⟨_, rfl⟩
  obtain ⟨r2, hr2⟩ : ∃ r2, r2 = ((σ.Ts k).fs m).r 2 := ⟨_, rfl⟩
  have HFB := Lib.hid hfb; have HR0 := Lib.hid hr0; have HR1 := Lib.hid hr1; have HR2 := Lib.hid hr2
  rw [← hfb]
  have f1 : w.cell? ⟨fb, 1, none⟩ = some (.int .i64 5) := by rw [hfb, h.pc hk hmm, hpc]
  have f2 : w.cell? ⟨fb, 2, none⟩ = some (.int .u64 r0) := by rw [hfb, hr0]; exact h.r hk hmm 0 (by omega)
  have f3 : w.cell? ⟨fb, 3, none⟩ = some (.int .u64 r1) := by rw [hfb, hr1]; exact h.r hk hmm 1 (by omega)
  have f4 : w.cell? ⟨fb, 4, none⟩ = some (.int .u64 r2) := by rw [hfb, hr2]; exact h.r hk hmm 2 (by omega)
  have rf : ∀ i, w.frozen? ⟨fb, i, none⟩ = false := fun i => by rw [hfb]; exact h.fr hk hmm i
  rw [← hr0] at g0
  rw [← hr1] at g1
  rw [← hr1] at hb
  clear h hmm hm hpc hfb hr0 hr1 hr2
  go_enter Try.func33, Try.ntmps33
  have hb3 : b < 3 := by omega
  have HB := Lib.hid hb; have HB3 := Lib.hid hb3
  go_wp2_with fail
  refine (enode_calls r0 _ g0.1 g0.2).mono ?_; rintro _ _ ⟨rfl, rfl⟩
  obtain ⟨nd, hnd⟩ : ∃ nd, nd = r0 % 4611686018427387904 := ⟨_, rfl⟩
  rw [← hnd]
  have HND := Lib.hid hnd
  clear hnd
  go_wp2_with fail
  refine (bbag_calls r1 _ g1.1 g1.2).mono ?_; rintro _ _ ⟨rfl, rfl⟩
  rw [HB.out]
  clear hb
  clear f2 f3 f4
  go_wp2_with fail
  clear f1 rf
  refine (cMem HP.out.c).mono ?_; rintro _ _ ⟨rfl, rfl⟩
  go_wp2_with fail
  refine (cPlan HP.out.c).mono ?_; rintro _ _ ⟨rfl, rfl⟩
  go_wp2_with fail
  refine (pbag_calls _ _ _ _ _ _ HP.out.c.p0 HP.out.c.p1 (by omega) (by omega) (by omega) (by omega)).mono ?_; rintro _ w7 ⟨rfl, hb7⟩
  rw [of_bg hk HB3.out]
  have HP7 := Lib.hid (HP.out.below hb7); have HK7 := Lib.hid (KA.of_below (B := P.B) (N := P.N) hb7)
  clear hb7 HP
  go_wp2_with fail
  refine (HP7.out.store (bgI k b) (by unfold bgI; omega) nd (by rw [HND.out]; omega) (by rw [HND.out]; omega) a0 a1).mono ?_; rintro _ w8 ⟨rfl, hp8, hk8⟩
  have HP8 := Lib.hid hp8; have HK8 := Lib.hid (HK7.out.trans hk8)
  clear hp8 hk8 HP7 HK7
  go_wp2_with fail
  refine (HP8.out.back hk (Th.UR.nil (fun _ => 0)) (by show (σ.Ts k).nf ≤ _; have := HM.out; omega)).mono ?_; rintro _ w9 ⟨rfl, hm9, hk9⟩
  have HM9 := Lib.hid hm9; have HK9 := Lib.hid (HK8.out.trans hk9)
  clear hm9 hk9
  go_wp2_with fail
  first | (refine bodyPost_end (v := .tuple #[]) (by simp [results, Try.results33, go_sem]) rfl ?_) | (refine bodyPost_ret (v := .tuple #[]) (by simp [results, Try.results33, go_sem]) rfl ?_)
  rw [HQ.out, show rt5S k m b σ = ({ σ with acc := σ.acc + 1, f := Mm.upd σ.f (bgI k b) nd } : Sg).thr k (Th.backT (σ.Ts k) 0 (fun _ => 0)) from by rw [HND.out, HR0.out]; rfl]
  exact ⟨rfl, HM9.out, HK9.out⟩
set_option maxRecDepth 8000 in
set_option maxHeartbeats 2000000 in
theorem ret4 {w : World} {P : Pc} {σ : Sg} {ps : Nat → Nat → Nat} {fvs : Nat → Value} (h : MP w P σ ps fvs) {k m : Nat} (hk : k < P.t) (hm : (σ.Ts k).nf = m + 1) (hN : m ≤ 1000) (a0 : 0 ≤ σ.acc) (a1 : σ.acc < 1000000) (hpc : ((σ.Ts k).fs m).pc = 4) (g0 : 0 ≤ ((σ.Ts k).fs m).r 0 ∧ ((σ.Ts k).fs m).r 0 < 18446744073709551616) (g1 : 0 ≤ ((σ.Ts k).fs m).r 1 ∧ ((σ.Ts k).fs m).r 1 < 18446744073709551616) (g2 : 0 ≤ ((σ.Ts k).fs m).r 2 ∧ ((σ.Ts k).fs m).r 2 < 18446744073709551616) {b : Nat} (hb : ((σ.Ts k).fs m).r 1 % 3 = b) {nx : Nat} (hl : Gd.leadsB P.s σ.H σ.G (((σ.Ts k).fs m).r 0 % 4611686018427387904) = true) (hn : (((σ.Ts k).fs m).r 0 % 4611686018427387904) % 4096 = nx) (n1 : 1 ≤ nx) (n2 : nx ≤ P.s) :
    Calls Try.prog 33 #[.pointer (some ⟨P.q, 0, none⟩), .int .i64 k, .pointer (some ⟨P.tq k, 0, none⟩), .pointer (some ⟨ps k m, 0, none⟩)] w fun x w' => x = .returned (.tuple #[]) ∧ MM w' P (rt4S P k m nx σ) ∧ KA P.B P.N w w' := by
  refine Calls.veil fun Q HQ => ?_
  have HP := Lib.hid h
  have hmm : m < (σ.Ts k).nf := by omega
  have HMM := Lib.hid hmm; have HM := Lib.hid hm; have HPC := Lib.hid hpc
  have hbb := h.mm.bd
  obtain ⟨fb, hfb⟩ : ∃ fb, fb = ps k m := ⟨_, rfl⟩
  obtain ⟨r0, hr0⟩ : ∃ r0, r0 = ((σ.Ts k).fs m).r 0 := ⟨_, rfl⟩
  obtain ⟨r1, hr1⟩ : ∃ r1, r1 = ((σ.Ts k).fs m).r 1 := ⟨_, rfl⟩
  obtain ⟨r2, hr2⟩ : ∃ r2, r2 = ((σ.Ts k).fs m).r 2 := ⟨_, rfl⟩
  have HFB := Lib.hid hfb; have HR0 := Lib.hid hr0; have HR1 := Lib.hid hr1; have HR2 := Lib.hid hr2
  rw [← hfb]
  have f1 : w.cell? ⟨fb, 1, none⟩ = some (.int .i64 4) := by rw [hfb, h.pc hk hmm, hpc]
  have f2 : w.cell? ⟨fb, 2, none⟩ = some (.int .u64 r0) := by rw [hfb, hr0]; exact h.r hk hmm 0 (by omega)
  have f3 : w.cell? ⟨fb, 3, none⟩ = some (.int .u64 r1) := by rw [hfb, hr1]; exact h.r hk hmm 1 (by omega)
  have f4 : w.cell? ⟨fb, 4, none⟩ = some (.int .u64 r2) := by rw [hfb, hr2]; exact h.r hk hmm 2 (by omega)
  have rf : ∀ i, w.frozen? ⟨fb, i, none⟩ = false := fun i => by rw [hfb]; exact h.fr hk hmm i
  rw [← hr0] at g0
  rw [← hr1] at g1
  rw [← hr2] at g2
  rw [← hr1] at hb
  rw [← hr0] at hl
  rw [← hr0] at hn
  clear h hmm hm hpc hfb hr0 hr1 hr2
  go_enter Try.func33, Try.ntmps33
  have hb3 : b < 3 := by omega
  have HB := Lib.hid hb; have HB3 := Lib.hid hb3
  go_wp2_with fail
  refine (enode_calls r0 _ g0.1 g0.2).mono ?_; rintro _ _ ⟨rfl, rfl⟩
  obtain ⟨nd, hnd⟩ : ∃ nd, nd = r0 % 4611686018427387904 := ⟨_, rfl⟩
  rw [← hnd]
  have HND := Lib.hid hnd
  rw [← hnd] at hl hn
  clear hnd
  go_wp2_with fail
  refine (bbag_calls r1 _ g1.1 g1.2).mono ?_; rintro _ _ ⟨rfl, rfl⟩
  rw [HB.out]
  clear hb
  have HL := Lib.hid hl; have HN := Lib.hid hn
  clear f2 f3 hl hn
  go_wp2_with fail
  clear f1 rf f4
  refine (HP.out.write (by rw [HND.out]; omega) (by rw [HND.out]; omega) HL.out HN.out n1 n2 (by decide) r2 g2.1 g2.2 a0 a1).mono ?_; rintro _ w8 ⟨rfl, hp8, hk8⟩
  have HP8 := Lib.hid hp8; have HK8 := Lib.hid hk8
  clear hp8 hk8 HP
  have g1' := HP8.out.pc hk (m := m) (by exact HMM.out)
  have g3' := HP8.out.fr hk (m := m) (by exact HMM.out)
  rw [← HFB.out] at g1' g3'
  go_wp2_with fail
  clear g1' g3'
  generalize hW : World.setCell _ _ _ = V1
  obtain ⟨hp1, hk1⟩ : MP V1 P _ ps fvs ∧ KA P.B P.N _ V1 := by rw [← hW, HFB.out]; exact HP8.out.setPC hk (by exact HMM.out) 5
  have HV1 := Lib.hid hp1; have HKV1 := Lib.hid (HK8.out.trans hk1)
  clear hW hp1 hk1
  first | (refine bodyPost_end (v := .tuple #[]) (by simp [results, Try.results33, go_sem]) rfl ?_) | (refine bodyPost_ret (v := .tuple #[]) (by simp [results, Try.results33, go_sem]) rfl ?_)
  rw [HQ.out, show rt4S P k m nx σ = ({ σ with acc := σ.acc + 1, f := Mm.upd σ.f (Sl.nd P.t nx 0) r2 } : Sg).thr k (setF (σ.Ts k) m ⟨((σ.Ts k).fs m).fn, 5, ((σ.Ts k).fs m).r⟩) from by rw [HR2.out]; rfl]
  exact ⟨rfl, HV1.out.mm, HKV1.out⟩
end Go.Proofs.Ytaaciolfgplnoaa
