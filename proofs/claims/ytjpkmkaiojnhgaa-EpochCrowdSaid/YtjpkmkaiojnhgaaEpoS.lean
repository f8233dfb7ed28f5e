/- EpoS: several texts in one. -/
import Derived.Test.YtjpkmkaiojnhgaaRwA
import Derived.Test.YtjpkmkaiojnhgaaPlanG
/- Layer 18: steps of Enter, Leave, Advance. -/
namespace Go.Proofs.Ytjpkmkaiojnhgaa
open Go.RowKit WordM EdgeM
set_option linter.unusedVariables false
set_option linter.unusedSimpArgs false
theorem okA1 (n : Nat) (h : 2 ≤ n) : Mm.okA n 1 = true := by unfold Mm.okA; simp; omega
/-- Where a thread's announcement is. -/
def aI (k : Nat) : Nat := 3 + k * 8
theorem thr_aI {t k : Nat} (h : k < t) : threadI t k 0 = (aI k : Int) := by unfold threadI aI; rw [if_pos (by omega)]; omega
theorem okAa {t s k : Nat} (h : k < t) : Mm.okA (3 + 8 * t + 7 * s) (aI k : Int) = true := by unfold Mm.okA aI; simp; omega
theorem aI_nat (k : Nat) : ((aI k : Nat) : Int).toNat = aI k := by simp
def actI (e : Int) : Int := 1 + 2 * (e % 9223372036854775808)
def enter0S (P : Pc) (k m : Nat) (σ : Sg) : Sg := { σ.thr k (setF (σ.Ts k) m ⟨((σ.Ts k).fs m).fn, 1, updr ((σ.Ts k).fs m).r 0 (σ.f 1)⟩) with acc := σ.acc + 1 }
def enter1S (P : Pc) (k m : Nat) (σ : Sg) : Sg := { σ.thr k (setF (σ.Ts k) m ⟨((σ.Ts k).fs m).fn, 2, ((σ.Ts k).fs m).r⟩) with acc := σ.acc + 1, f := Mm.upd σ.f (aI k) (actI (((σ.Ts k).fs m).r 0)) }
def enter2S (P : Pc) (k m : Nat) (σ : Sg) : Sg := { σ.thr k (Th.backT (setS (σ.Ts k) 3 (.int .u64 (σ.f 1 - 1))) 0 (fun _ => 0)) with acc := σ.acc + 1 }
def backS (k : Nat) (σ : Sg) : Sg := σ.thr k (Th.backT (σ.Ts k) 0 (fun _ => 0))
def leaveS (k : Nat) (σ : Sg) : Sg := { σ.thr k (Th.backT (σ.Ts k) 0 (fun _ => 0)) with acc := σ.acc + 1, f := Mm.upd σ.f (aI k) 0 }
def adv1nS (k m : Nat) (σ : Sg) : Sg := { σ.thr k (setF (σ.Ts k) m ⟨((σ.Ts k).fs m).fn, ((σ.Ts k).fs m).pc, updr ((σ.Ts k).fs m).r 1 (((σ.Ts k).fs m).r 1 + 1)⟩) with acc := σ.acc + 1 }
def adv1eS (k m : Nat) (σ : Sg) : Sg := { σ.thr k (setF (σ.Ts k) m ⟨((σ.Ts k).fs m).fn, 2, updr ((σ.Ts k).fs m).r 1 (((σ.Ts k).fs m).r 1 + 1)⟩) with acc := σ.acc + 1 }
def backAS (k : Nat) (x : Int) (σ : Sg) : Sg := { σ.thr k (Th.backT (σ.Ts k) 1 (fun _ => x)) with acc := σ.acc + 1 }
def adv2yS (k m : Nat) (σ : Sg) : Sg := { σ.thr k (Th.backT (σ.Ts k) 1 (fun _ => 1)) with acc := σ.acc + 1, f := Mm.upd σ.f 1 (((σ.Ts k).fs m).r 0 + 1) }
theorem lagsB_def (h e : Int) : lagsB h e = (oddB h && (h / 2 != e)) := rfl
end Go.Proofs.Ytjpkmkaiojnhgaa

/- Layer 18: steps of Enter, Leave, Advance. -/
namespace Go.Proofs.Ytjpkmkaiojnhgaa
open Go.RowKit WordM EdgeM
set_option linter.unusedVariables false
set_option linter.unusedSimpArgs false
set_option maxRecDepth 8000 in
set_option maxHeartbeats 2000000 in
theorem enterP {w : World} {P : Pc} {σ : Sg} {ps : Nat → Nat → Nat} {fvs : Nat → Value} (h : MP w P σ ps fvs) {k m : Nat} (hk : k < P.t) (hm : (σ.Ts k).nf = m + 1) (hN : m ≤ 1000) (a0 : 0 ≤ σ.acc) (a1 : σ.acc < 1000000) (hpin : (σ.Ts k).ss 1 = .bool true) :
    Calls Try.prog 31 #[.pointer (some ⟨P.q, 0, none⟩), .int .i64 k, .pointer (some ⟨P.tq k, 0, none⟩), .pointer (some ⟨ps k m, 0, none⟩)] w fun x w' => x = .returned (.tuple #[]) ∧ MM w' P (backS k σ) ∧ KA P.B P.N w w' := by
  refine Calls.veil fun Q HQ => ?_
  have HP := Lib.hid h
  have hmm : m < (σ.Ts k).nf := by omega
  have HMM := Lib.hid hmm; have HM := Lib.hid hm
  have hbb := h.mm.bd
  have p1 : w.cell? ⟨P.tq k, 13, none⟩ = some (.bool true) := by have := h.ss hk 1 (by omega); rw [hpin] at this; exact this
  obtain ⟨fb, hfb⟩ : ∃ fb, fb = ps k m := ⟨_, rfl⟩
  have HFB := Lib.hid hfb
  rw [← hfb]
  clear h hmm hm hfb hpin
  go_enter Try.func31, Try.ntmps31
  go_wp2_with fail
  clear p1
  refine (HP.out.back hk (Th.UR.nil (fun _ => 0)) (by have := HM.out; show (σ.Ts k).nf ≤ _; omega)).mono ?_; rintro _ w9 ⟨rfl, hm9, hk9⟩
  have HM9 := Lib.hid hm9; have HK9 := Lib.hid ((KA.refl P.B P.N w).trans hk9)
  clear hm9 hk9
  go_wp2_with fail
  first | (refine bodyPost_end (v := .tuple #[]) (by simp [results, Try.results31, go_sem]) rfl ?_) | (refine bodyPost_ret (v := .tuple #[]) (by simp [results, Try.results31, go_sem]) rfl ?_)
  rw [HQ.out]
  exact ⟨rfl, HM9.out, HK9.out⟩
set_option maxRecDepth 8000 in
set_option maxHeartbeats 2000000 in
theorem enter0 {w : World} {P : Pc} {σ : Sg} {ps : Nat → Nat → Nat} {fvs : Nat → Value} (h : MP w P σ ps fvs) {k m : Nat} (hk : k < P.t) (hm : (σ.Ts k).nf = m + 1) (hN : m ≤ 1000) (a0 : 0 ≤ σ.acc) (a1 : σ.acc < 1000000) (hpin : (σ.Ts k).ss 1 = .bool false) (hpc : ((σ.Ts k).fs m).pc = 0) :
    Calls Try.prog 31 #[.pointer (some ⟨P.q, 0, none⟩), .int .i64 k, .pointer (some ⟨P.tq k, 0, none⟩), .pointer (some ⟨ps k m, 0, none⟩)] w fun x w' => x = .returned (.tuple #[]) ∧ MM w' P (enter0S P k m σ) ∧ KA P.B P.N w w' := by
  refine Calls.veil fun Q HQ => ?_
  have HP := Lib.hid h
  have hmm : m < (σ.Ts k).nf := by omega
  have HMM := Lib.hid hmm; have HM := Lib.hid hm
  have hbb := h.mm.bd
  have HPC := Lib.hid hpc
  have p1 : w.cell? ⟨P.tq k, 13, none⟩ = some (.bool false) := by have := h.ss hk 1 (by omega); rw [hpin] at this; exact this
  obtain ⟨fb, hfb⟩ : ∃ fb, fb = ps k m := ⟨_, rfl⟩
  have HFB := Lib.hid hfb
  rw [← hfb]
  have f1 : w.cell? ⟨fb, 1, none⟩ = some (.int .i64 0) := by rw [hfb, h.pc hk hmm, hpc]
  clear h hmm hm hfb hpc hpin
  go_enter Try.func31, Try.ntmps31
  go_upto_region 4 with fail
  clear f1 p1
  refine Th.wp_region_K (fun _ => True) 7 (by decide +kernel) ?_
  generalize hwd : World.drew w = wd
  have hdd : Below w.heap.size w wd := by rw [← hwd]; exact (Below.refl _ _).drew
  have HPD := Lib.hid (HP.out.below hdd); have HKD := Lib.hid (KA.of_below hdd : KA P.B P.N w wd)
  clear hwd hdd
  (refine Th.wpAnyK_takeY (i := 0) (v := ?_) rfl (by decide +kernel) (by decide +kernel) (by decide +kernel) (by decide) (fun _ _ _ h => h) (Or.inl ⟨by rfl, ?_⟩) (.inr trivial) ?_; rotate_left; (intro w; go_simp); (try with_reducible rfl))
  (try simp only [List.getElem_toArray, List.getElem_cons_succ, List.getElem_cons_zero, Act.put, List.setIfInBounds_toArray, List.set_cons_succ, List.set_cons_zero])
  (refine Th.wpAnyK_takeY (i := 1) (v := ?_) rfl (by decide +kernel) (by decide +kernel) (by decide +kernel) (by decide) (fun _ _ _ h => h) (Or.inl ⟨by rfl, ?_⟩) (.inr trivial) ?_; rotate_left; (intro w; go_simp); (try with_reducible rfl))
  (try simp only [List.getElem_toArray, List.getElem_cons_succ, List.getElem_cons_zero, Act.put, List.setIfInBounds_toArray, List.set_cons_succ, List.set_cons_zero])
  (refine Th.wpAnyK_takeY (i := 4) (v := ?_) rfl (by decide +kernel) (by decide +kernel) (by decide +kernel) (by decide) (fun _ _ _ h => h) (Or.inl ⟨by rfl, ?_⟩) (.inr trivial) ?_; rotate_left; (intro w; go_simp); (try with_reducible rfl))
  (try simp only [List.getElem_toArray, List.getElem_cons_succ, List.getElem_cons_zero, Act.put, List.setIfInBounds_toArray, List.set_cons_succ, List.set_cons_zero])
  (refine Th.wpAnyK_takeY (i := 5) (v := ?_) rfl (by decide +kernel) (by decide +kernel) (by decide +kernel) (by decide) (fun _ _ _ h => h) (Or.inl ⟨by rfl, ?_⟩) (.inr trivial) ?_; rotate_left; (intro w; go_simp); (try with_reducible rfl))
  (try simp only [List.getElem_toArray, List.getElem_cons_succ, List.getElem_cons_zero, Act.put, List.setIfInBounds_toArray, List.set_cons_succ, List.set_cons_zero])
  (refine Th.wpAnyK_ready (rs := [2]) (by decide +kernel) (by simp) ?_; refine (Th.AllReadyK.cons rfl (fun K hK => ?_) Th.AllReadyK.nil))
  refine step_of rfl ?_
  go_step
  refine (cMem HPD.out.c).mono ?_; rintro _ _ ⟨rfl, rfl⟩
  refine hK _ _ (.inr trivial) ?_
  clear hK K
  (try simp only [List.getElem_toArray, List.getElem_cons_succ, List.getElem_cons_zero, Act.put, List.setIfInBounds_toArray, List.set_cons_succ, List.set_cons_zero])
  (refine Th.wpAnyK_ready (rs := [3]) (by decide +kernel) (by simp) ?_; refine (Th.AllReadyK.cons rfl (fun K hK => ?_) Th.AllReadyK.nil))
  refine step_of rfl ?_
  go_step
  refine (Mm.mload _ _ _ _ _ _ 1 _ _ HPD.out.c.mem a0 (by omega)).mono ?_; rintro _ w3 ⟨rfl, hm3, ho⟩
  rw [okA1 _ (by omega)] at hm3
  have hli : Mm.ldI (3 + 8 * P.t + 7 * P.s) σ.f 1 = σ.f 1 := by unfold Mm.ldI; rw [okA1 _ (by omega)]; rfl
  rw [hli]
  obtain ⟨hp3, hk3⟩ := HPD.out.only ho (show Mm.MemAt w3 P.mb P.mg (3 + 8 * P.t + 7 * P.s) P.C σ.f (σ.acc + 1) σ.flt by simpa using hm3)
  have HP3 := Lib.hid hp3; have HK3 := Lib.hid (HKD.out.trans hk3)
  refine hK _ _ (.inr trivial) ?_
  clear hK K hli hm3 ho hp3 hk3 HPD HKD
  (try simp only [List.getElem_toArray, List.getElem_cons_succ, List.getElem_cons_zero, Act.put, List.setIfInBounds_toArray, List.set_cons_succ, List.set_cons_zero])
  have r2 : w3.cell? ⟨fb, 2, none⟩ = some (.int .u64 (((σ.Ts k).fs m).r 0)) := by rw [HFB.out]; exact HP3.out.r hk HMM.out 0 (by omega)
  have rf : ∀ i, w3.frozen? ⟨fb, i, none⟩ = false := fun i => by rw [HFB.out]; exact HP3.out.fr hk HMM.out i
  (refine Th.wpAnyK_takeY (i := 6) (v := ?_) rfl (by decide +kernel) (by decide +kernel) (by decide +kernel) (by decide) (fun _ _ _ h => h) (Or.inl ⟨by rfl, ?_⟩) (.inr trivial) ?_; rotate_left; (intro w; go_simp); (try with_reducible rfl))
  (try simp only [List.getElem_toArray, List.getElem_cons_succ, List.getElem_cons_zero, Act.put, List.setIfInBounds_toArray, List.set_cons_succ, List.set_cons_zero])
  (refine Th.wpAnyK_ready (rs := [7]) (by decide +kernel) (by simp) ?_; refine (Th.AllReadyK.cons rfl (fun K hK => ?_) Th.AllReadyK.nil))
  refine step_of rfl ?_
  go_step
  refine hK _ _ (.inl rfl) ?_
  clear hK K
  refine Th.wpAnyK_done (by decide +kernel) ?_ _
  clear r2 rf
  generalize hW : World.setCell _ _ _ = W
  obtain ⟨hp4, hk4⟩ : MP W P _ ps fvs ∧ KA P.B P.N w3 W := by rw [← hW, HFB.out]; exact HP3.out.setR hk HMM.out 0 (σ.f 1)
  have HP4 := Lib.hid hp4; have HK4 := Lib.hid (HK3.out.trans hk4)
  clear hW hp4 hk4 HP3 HK3
  have f1 : W.cell? ⟨fb, 1, none⟩ = some (.int .i64 0) := by rw [HFB.out, HP4.out.pc hk (by rw [Sg.thr_at]; exact HMM.out), Sg.thr_at, setF_fs]; exact congrArg _ (congrArg _ HPC.out)
  have rf : ∀ i, W.frozen? ⟨fb, i, none⟩ = false := fun i => by rw [HFB.out]; exact HP4.out.fr hk (by rw [Sg.thr_at]; exact HMM.out) i
  go_wp2_with fail
  clear f1 rf
  generalize hW : World.setCell _ _ _ = V
  obtain ⟨hp5, hk5⟩ : MP V P _ ps fvs ∧ KA P.B P.N W V := by rw [← hW, HFB.out]; exact HP4.out.setPC hk (by rw [Sg.thr_at]; exact HMM.out) 1
  rw [Sg.thr_at, setF_fs, setF_setF, Sg.thr_thr] at hp5
  have HP5 := Lib.hid hp5; have HK5 := Lib.hid (HK4.out.trans hk5)
  clear hW hp5 hk5 HP4 HK4
  first | (refine bodyPost_end (v := .tuple #[]) (by simp [results, Try.results31, go_sem]) rfl ?_) | (refine bodyPost_ret (v := .tuple #[]) (by simp [results, Try.results31, go_sem]) rfl ?_)
  rw [HQ.out]
  exact ⟨rfl, HP5.out.mm, HK5.out⟩
set_option maxRecDepth 8000 in
set_option maxHeartbeats 2000000 in
theorem enter1 {w : World} {P : Pc} {σ : Sg} {ps : Nat → Nat → Nat} {fvs : Nat → Value} (h : MP w P σ ps fvs) {k m : Nat} (hk : k < P.t) (hm : (σ.Ts k).nf = m + 1) (hN : m ≤ 1000) (a0 : 0 ≤ σ.acc) (a1 : σ.acc < 1000000) (hpin : (σ.Ts k).ss 1 = .bool false) (hpc : ((σ.Ts k).fs m).pc = 1) (hr : 0 ≤ ((σ.Ts k).fs m).r 0 ∧ ((σ.Ts k).fs m).r 0 < 18446744073709551616) :
    Calls Try.prog 31 #[.pointer (some ⟨P.q, 0, none⟩), .int .i64 k, .pointer (some ⟨P.tq k, 0, none⟩), .pointer (some ⟨ps k m, 0, none⟩)] w fun x w' => x = .returned (.tuple #[]) ∧ MM w' P (enter1S P k m σ) ∧ KA P.B P.N w w' := by
  refine Calls.veil fun Q HQ => ?_
  have HP := Lib.hid h
  have hmm : m < (σ.Ts k).nf := by omega
  have HMM := Lib.hid hmm; have HM := Lib.hid hm
  have hbb := h.mm.bd
  have HPC := Lib.hid hpc
  have p1 : w.cell? ⟨P.tq k, 13, none⟩ = some (.bool false) := by have := h.ss hk 1 (by omega); rw [hpin] at this; exact this
  obtain ⟨fb, hfb⟩ : ∃ fb, fb = ps k m := ⟨_, rfl⟩
  have HFB := Lib.hid hfb
  rw [← hfb]
  have f1 : w.cell? ⟨fb, 1, none⟩ = some (.int .i64 1) := by rw [hfb, h.pc hk hmm, hpc]
  have HHR := Lib.hid hr
  clear h hmm hm hfb hpc hpin
  clear hr
  go_enter Try.func31, Try.ntmps31
  go_upto_region 7 with fail
  clear f1 p1
  have HL0 := Lib.hid (show ∀ y : Ext w, (Instr.loadAt 27 (.pointer (some ⟨fb, 2, none⟩))).run Try.prog y.w = .ok (.int .u64 (((σ.Ts k).fs m).r 0)) y.w from fun y => by (have hc : y.w.cell? ⟨fb, 2, none⟩ = some (.int .u64 (((σ.Ts k).fs m).r 0)) := (by rw [HFB.out]; exact (HP.out.below y.h).r hk HMM.out 0 (by omega))); go_simp)
  refine Th.wp_region_K (fun w' => ∃ y : Ext w, w' = y.w) 12 (by decide +kernel) ?_
  generalize hwd : World.drew w = wd
  have hbd : Below w.heap.size w wd := by rw [← hwd]; exact (Below.refl _ _).drew
  clear hwd
  (refine Th.wpAnyK_takeY (i := 0) (v := ?_) rfl (by decide +kernel) (by decide +kernel) (by decide +kernel) (by decide) (fun _ _ _ h => h) (Or.inl ⟨by rfl, ?_⟩) (.inr ⟨⟨wd, hbd⟩, rfl⟩) ?_; rotate_left; (intro w; go_simp); (try with_reducible rfl))
  (try simp only [List.getElem_toArray, List.getElem_cons_succ, List.getElem_cons_zero, Act.put, List.setIfInBounds_toArray, List.set_cons_succ, List.set_cons_zero])
  (refine Th.wpAnyK_takeY (i := 2) (v := ?_) rfl (by decide +kernel) (by decide +kernel) (by decide +kernel) (by decide) (fun _ _ _ h => h) (Or.inl ⟨by rfl, ?_⟩) (.inr ⟨⟨wd, hbd⟩, rfl⟩) ?_; rotate_left; (intro w; go_simp); (try with_reducible rfl))
  (try simp only [List.getElem_toArray, List.getElem_cons_succ, List.getElem_cons_zero, Act.put, List.setIfInBounds_toArray, List.set_cons_succ, List.set_cons_zero])
  (refine Th.wpAnyK_takeY (i := 4) (v := ?_) rfl (by decide +kernel) (by decide +kernel) (by decide +kernel) (by decide) (fun _ _ _ h => h) (Or.inl ⟨by rfl, ?_⟩) (.inr ⟨⟨wd, hbd⟩, rfl⟩) ?_; rotate_left; (intro w; go_simp); (try with_reducible rfl))
  (try simp only [List.getElem_toArray, List.getElem_cons_succ, List.getElem_cons_zero, Act.put, List.setIfInBounds_toArray, List.set_cons_succ, List.set_cons_zero])
  (refine Th.wpAnyK_takeY (i := 6) (v := ?_) rfl (by decide +kernel) (by decide +kernel) (by decide +kernel) (by decide) (fun _ _ _ h => h) (Or.inl ⟨by rfl, ?_⟩) (.inr ⟨⟨wd, hbd⟩, rfl⟩) ?_; rotate_left; (intro w; go_simp); (try with_reducible rfl))
  (try simp only [List.getElem_toArray, List.getElem_cons_succ, List.getElem_cons_zero, Act.put, List.setIfInBounds_toArray, List.set_cons_succ, List.set_cons_zero])
  (refine Th.wpAnyK_takeY (i := 7) (v := ?_) rfl (by decide +kernel) (by decide +kernel) (by decide +kernel) (by decide) (fun _ _ _ h => h) (Or.inl ⟨by rfl, ?_⟩) (.inr ⟨⟨wd, hbd⟩, rfl⟩) ?_; rotate_left; (intro w; go_simp); (try with_reducible rfl))
  (try simp only [List.getElem_toArray, List.getElem_cons_succ, List.getElem_cons_zero, Act.put, List.setIfInBounds_toArray, List.set_cons_succ, List.set_cons_zero])
  (refine Th.wpAnyK_takeY (i := 8) (v := ?_) rfl (by decide +kernel) (by decide +kernel) (by decide +kernel) (by decide) (fun _ _ _ h => h) (Or.inl ⟨by rfl, ?_⟩) (.inr ⟨⟨wd, hbd⟩, rfl⟩) ?_; rotate_left; (intro w; go_simp); (try with_reducible rfl))
  (try simp only [List.getElem_toArray, List.getElem_cons_succ, List.getElem_cons_zero, Act.put, List.setIfInBounds_toArray, List.set_cons_succ, List.set_cons_zero])
  (refine Th.wpAnyK_takeY (i := 9) (v := ?_) rfl (by decide +kernel) (by decide +kernel) (by decide +kernel) (by decide) (fun _ _ _ h => h) (Or.inl ⟨by rfl, ?_⟩) (.inr ⟨⟨wd, hbd⟩, rfl⟩) ?_; rotate_left; (intro w; go_simp); (try with_reducible rfl))
  (try simp only [List.getElem_toArray, List.getElem_cons_succ, List.getElem_cons_zero, Act.put, List.setIfInBounds_toArray, List.set_cons_succ, List.set_cons_zero])
  (refine Th.wpAnyK_take (i := 10) (v := .int .u64 (((σ.Ts k).fs m).r 0)) [11, 12] rfl (by decide +kernel) (by decide +kernel) (by decide +kernel) (by decide +kernel) (fun _ _ _ h => h) (Th.yields_loadK rfl 27 (.tmp 42) rfl rfl (by rintro _ ⟨y, rfl⟩; exact HL0.out y)) ⟨⟨wd, hbd⟩, rfl⟩ ?_)
  (try simp only [List.getElem_toArray, List.getElem_cons_succ, List.getElem_cons_zero, Act.put, List.setIfInBounds_toArray, List.set_cons_succ, List.set_cons_zero])
  (refine Th.wpAnyK_ready (rs := [1]) (by decide +kernel) (by simp) ?_; refine (Th.AllReadyK.cons rfl (fun K hK => ?_) Th.AllReadyK.nil))
  refine step_of rfl ?_
  go_step
  refine (cMem (HP.out.below hbd).c).mono ?_; rintro _ w6 ⟨rfl, hw6⟩
  rw [← hw6]
  refine hK _ _ (.inr ⟨⟨wd, hbd⟩, rfl⟩) ?_
  clear hK K hw6
  (try simp only [List.getElem_toArray, List.getElem_cons_succ, List.getElem_cons_zero, Act.put, List.setIfInBounds_toArray, List.set_cons_succ, List.set_cons_zero])
  (refine Th.wpAnyK_ready (rs := [3]) (by decide +kernel) (by simp) ?_; refine (Th.AllReadyK.cons rfl (fun K hK => ?_) Th.AllReadyK.nil))
  refine step_of rfl ?_
  go_step
  refine (cPlan (HP.out.below hbd).c).mono ?_; rintro _ w6 ⟨rfl, hw6⟩
  rw [← hw6]
  refine hK _ _ (.inr ⟨⟨wd, hbd⟩, rfl⟩) ?_
  clear hK K hw6
  (try simp only [List.getElem_toArray, List.getElem_cons_succ, List.getElem_cons_zero, Act.put, List.setIfInBounds_toArray, List.set_cons_succ, List.set_cons_zero])
  (refine Th.wpAnyK_ready (rs := [5]) (by decide +kernel) (by simp) ?_; refine (Th.AllReadyK.cons rfl (fun K hK => ?_) Th.AllReadyK.nil))
  refine step_of rfl ?_
  go_step
  refine (pactive_calls _ _ _ _ _ (HP.out.below hbd).c.p0 (HP.out.below hbd).c.p1 (by omega) (by omega) (by omega) (by omega)).mono ?_; rintro _ w7 ⟨rfl, hb7⟩
  rw [thr_aI hk]
  have hb7 := below_on hbd hb7
  refine hK _ _ (.inr ⟨⟨w7, hb7⟩, rfl⟩) ?_
  clear hK K
  (try simp only [List.getElem_toArray, List.getElem_cons_succ, List.getElem_cons_zero, Act.put, List.setIfInBounds_toArray, List.set_cons_succ, List.set_cons_zero])
  (refine Th.wpAnyK_ready (rs := [11]) (by decide +kernel) (by simp) ?_; refine (Th.AllReadyK.cons rfl (fun K hK => ?_) Th.AllReadyK.nil))
  refine step_of rfl ?_
  go_step
  refine (bactive_calls _ _ HHR.out.1).mono ?_; rintro _ w6 ⟨rfl, hw6⟩
  rw [← hw6]
  refine hK _ _ (.inr ⟨⟨w7, hb7⟩, rfl⟩) ?_
  clear hK K hw6
  (try simp only [List.getElem_toArray, List.getElem_cons_succ, List.getElem_cons_zero, Act.put, List.setIfInBounds_toArray, List.set_cons_succ, List.set_cons_zero])
  (refine Th.wpAnyK_ready (rs := [12]) (by decide +kernel) (by simp) ?_; refine (Th.AllReadyK.cons rfl (fun K hK => ?_) Th.AllReadyK.nil))
  refine step_of rfl ?_
  go_step
  refine (Mm.mstore _ _ _ _ _ _ (aI k : Int) (1 + 2 * ((((σ.Ts k).fs m).r 0) % 9223372036854775808)) _ _ (HP.out.below hb7).c.mem a0 (by omega) (by have := HHR.out; omega) (by have := HHR.out; omega)).mono ?_; rintro _ w3 ⟨rfl, hm3, ho⟩
  rw [okAa hk] at hm3
  obtain ⟨hp3, hk3⟩ := (HP.out.below hb7).only ho (show Mm.MemAt w3 P.mb P.mg (3 + 8 * P.t + 7 * P.s) P.C (Mm.upd σ.f (aI k) (1 + 2 * ((((σ.Ts k).fs m).r 0) % 9223372036854775808))) (σ.acc + 1) σ.flt by simpa using hm3)
  have HP3 := Lib.hid hp3; have HK3 := Lib.hid ((KA.of_below hb7 : KA P.B P.N w w7).trans hk3)
  refine hK _ _ (.inl rfl) ?_
  clear hK K hm3 ho hp3 hk3 HL0
  refine Th.wpAnyK_done (by decide +kernel) ?_ _
  have f1 : w3.cell? ⟨fb, 1, none⟩ = some (.int .i64 1) := by rw [HFB.out, HP3.out.pc hk HMM.out]; exact congrArg _ (congrArg _ HPC.out)
  have rf : ∀ i, w3.frozen? ⟨fb, i, none⟩ = false := fun i => by rw [HFB.out]; exact HP3.out.fr hk HMM.out i
  go_wp2_with fail
  clear f1 rf
  generalize hW : World.setCell _ _ _ = V
  obtain ⟨hp5, hk5⟩ : MP V P _ ps fvs ∧ KA P.B P.N w3 V := by rw [← hW, HFB.out]; exact HP3.out.setPC hk HMM.out 2
  have HP5 := Lib.hid hp5; have HK5 := Lib.hid (HK3.out.trans hk5)
  clear hW hp5 hk5 HP3 HK3
  first | (refine bodyPost_end (v := .tuple #[]) (by simp [results, Try.results31, go_sem]) rfl ?_) | (refine bodyPost_ret (v := .tuple #[]) (by simp [results, Try.results31, go_sem]) rfl ?_)
  rw [HQ.out]
  exact ⟨rfl, HP5.out.mm, HK5.out⟩
set_option maxRecDepth 8000 in
set_option maxHeartbeats 2000000 in
theorem enter2 {w : World} {P : Pc} {σ : Sg} {ps : Nat → Nat → Nat} {fvs : Nat → Value} (h : MP w P σ ps fvs) {k m : Nat} (hk : k < P.t) (hm : (σ.Ts k).nf = m + 1) (hN : m ≤ 1000) (a0 : 0 ≤ σ.acc) (a1 : σ.acc < 1000000) (hpin : (σ.Ts k).ss 1 = .bool false) (hpc : ((σ.Ts k).fs m).pc = 2) (hw : 1 ≤ σ.f 1) :
    Calls Try.prog 31 #[.pointer (some ⟨P.q, 0, none⟩), .int .i64 k, .pointer (some ⟨P.tq k, 0, none⟩), .pointer (some ⟨ps k m, 0, none⟩)] w fun x w' => x = .returned (.tuple #[]) ∧ MM w' P (enter2S P k m σ) ∧ KA P.B P.N w w' := by
  refine Calls.veil fun Q HQ => ?_
  have HP := Lib.hid h
  have hmm : m < (σ.Ts k).nf := by omega
  have HMM := Lib.hid hmm; have HM := Lib.hid hm
  have hbb := h.mm.bd
  have HPC := Lib.hid hpc
  have p1 : w.cell? ⟨P.tq k, 13, none⟩ = some (.bool false) := by have := h.ss hk 1 (by omega); rw [hpin] at this; exact this
  obtain ⟨fb, hfb⟩ : ∃ fb, fb = ps k m := ⟨_, rfl⟩
  have HFB := Lib.hid hfb
  rw [← hfb]
  have f1 : w.cell? ⟨fb, 1, none⟩ = some (.int .i64 2) := by rw [hfb, h.pc hk hmm, hpc]
  have HHW := Lib.hid hw
  clear h hmm hm hfb hpc hpin
  clear hw
  go_enter Try.func31, Try.ntmps31
  have hrg := HP.out.c.mem.rng 1 (by omega)
  go_upto_region 10 with fail
  clear f1 p1
  go_wp2_with fail
  refine (cMem HP.out.c).mono ?_; rintro _ _ ⟨rfl, rfl⟩
  go_wp2_with fail
  refine (Mm.mload _ _ _ _ _ _ 1 _ _ HP.out.c.mem a0 (by omega)).mono ?_; rintro _ w3 ⟨rfl, hm3, ho⟩
  rw [okA1 _ (by omega)] at hm3
  have hli : Mm.ldI (3 + 8 * P.t + 7 * P.s) σ.f 1 = σ.f 1 := by unfold Mm.ldI; rw [okA1 _ (by omega)]; rfl
  rw [hli]
  obtain ⟨hp3, hk3⟩ := HP.out.only ho (show Mm.MemAt w3 P.mb P.mg (3 + 8 * P.t + 7 * P.s) P.C σ.f (σ.acc + 1) σ.flt by simpa using hm3)
  have HP3 := Lib.hid hp3; have HK3 := Lib.hid hk3
  clear hli hm3 ho hp3 hk3
  have s4 : w3.cell? ⟨P.tq k, 15, none⟩ = some ((σ.Ts k).ss 3) := HP3.out.ss hk 3 (by omega)
  have sf : ∀ i, w3.frozen? ⟨P.tq k, i, none⟩ = false := HP3.out.tfr hk
  obtain ⟨e, he⟩ : ∃ e, e = σ.f 1 := ⟨_, rfl⟩
  have HEE := Lib.hid he
  have he1 : 1 ≤ e := by rw [he]; exact HHW.out
  have hmx : max e 1 = e := by omega
  have hwe : IntKind.u64.wrap (e - 1) = e - 1 := by rw [IntKind.wrap_u64]; omega
  rw [← he]
  clear he
  go_upto_region 11 with fail
  clear s4 sf hmx hwe
  generalize hW : World.setCell _ _ _ = V
  obtain ⟨hp5, hk5⟩ : MP V P _ ps fvs ∧ KA P.B P.N w3 V := by rw [← hW]; exact HP3.out.setSS hk 3 (by omega) (.int .u64 (e - 1)) rfl
  rw [HEE.out] at hp5
  have HP5 := Lib.hid hp5; have HK5 := Lib.hid (HK3.out.trans hk5)
  clear hW hp5 hk5 HP3 HK3
  go_wp2_with fail
  refine (HP5.out.back hk (Th.UR.nil (fun _ => 0)) (by rw [Sg.thr_at]; have := HM.out; show (σ.Ts k).nf ≤ _; omega)).mono ?_; rintro _ w9 ⟨rfl, hm9, hk9⟩
  rw [Sg.thr_at, Sg.thr_thr] at hm9
  have HM9 := Lib.hid hm9; have HK9 := Lib.hid (HK5.out.trans hk9)
  clear hm9 hk9
  go_wp2_with fail
  first | (refine bodyPost_end (v := .tuple #[]) (by simp [results, Try.results31, go_sem]) rfl ?_) | (refine bodyPost_ret (v := .tuple #[]) (by simp [results, Try.results31, go_sem]) rfl ?_)
  rw [HQ.out]
  exact ⟨rfl, HM9.out, HK9.out⟩
set_option maxRecDepth 8000 in
set_option maxHeartbeats 2000000 in
theorem leaveP {w : World} {P : Pc} {σ : Sg} {ps : Nat → Nat → Nat} {fvs : Nat → Value} (h : MP w P σ ps fvs) {k m : Nat} (hk : k < P.t) (hm : (σ.Ts k).nf = m + 1) (hN : m ≤ 1000) (a0 : 0 ≤ σ.acc) (a1 : σ.acc < 1000000) (hpin : (σ.Ts k).ss 1 = .bool true) :
    Calls Try.prog 32 #[.pointer (some ⟨P.q, 0, none⟩), .int .i64 k, .pointer (some ⟨P.tq k, 0, none⟩)] w fun x w' => x = .returned (.tuple #[]) ∧ MM w' P (backS k σ) ∧ KA P.B P.N w w' := by
  refine Calls.veil fun Q HQ => ?_
  have HP := Lib.hid h
  have hmm : m < (σ.Ts k).nf := by omega
  have HMM := Lib.hid hmm; have HM := Lib.hid hm
  have hbb := h.mm.bd
  have p1 : w.cell? ⟨P.tq k, 13, none⟩ = some (.bool true) := by have := h.ss hk 1 (by omega); rw [hpin] at this; exact this
  obtain ⟨fb, hfb⟩ : ∃ fb, fb = ps k m := ⟨_, rfl⟩
  have HFB := Lib.hid hfb
  clear h hmm hm hfb hpin
  go_enter Try.func32, Try.ntmps32
  go_wp2_with fail
  clear p1
  refine (HP.out.back hk (Th.UR.nil (fun _ => 0)) (by have := HM.out; show (σ.Ts k).nf ≤ _; omega)).mono ?_; rintro _ w9 ⟨rfl, hm9, hk9⟩
  have HM9 := Lib.hid hm9; have HK9 := Lib.hid ((KA.refl P.B P.N w).trans hk9)
  clear hm9 hk9
  go_wp2_with fail
  first | (refine bodyPost_end (v := .tuple #[]) (by simp [results, Try.results32, go_sem]) rfl ?_) | (refine bodyPost_ret (v := .tuple #[]) (by simp [results, Try.results32, go_sem]) rfl ?_)
  rw [HQ.out]
  exact ⟨rfl, HM9.out, HK9.out⟩
set_option maxRecDepth 8000 in
set_option maxHeartbeats 2000000 in
theorem leaveN {w : World} {P : Pc} {σ : Sg} {ps : Nat → Nat → Nat} {fvs : Nat → Value} (h : MP w P σ ps fvs) {k m : Nat} (hk : k < P.t) (hm : (σ.Ts k).nf = m + 1) (hN : m ≤ 1000) (a0 : 0 ≤ σ.acc) (a1 : σ.acc < 1000000) (hpin : (σ.Ts k).ss 1 = .bool false) :
    Calls Try.prog 32 #[.pointer (some ⟨P.q, 0, none⟩), .int .i64 k, .pointer (some ⟨P.tq k, 0, none⟩)] w fun x w' => x = .returned (.tuple #[]) ∧ MM w' P (leaveS k σ) ∧ KA P.B P.N w w' := by
  refine Calls.veil fun Q HQ => ?_
  have HP := Lib.hid h
  have hmm : m < (σ.Ts k).nf := by omega
  have HMM := Lib.hid hmm; have HM := Lib.hid hm
  have hbb := h.mm.bd
  have p1 : w.cell? ⟨P.tq k, 13, none⟩ = some (.bool false) := by have := h.ss hk 1 (by omega); rw [hpin] at this; exact this
  obtain ⟨fb, hfb⟩ : ∃ fb, fb = ps k m := ⟨_, rfl⟩
  have HFB := Lib.hid hfb
  clear h hmm hm hfb hpin
  go_enter Try.func32, Try.ntmps32
  go_wp2_with fail
  clear p1
  refine (cMem HP.out.c).mono ?_; rintro _ _ ⟨rfl, rfl⟩
  go_wp2_with fail
  refine (cPlan HP.out.c).mono ?_; rintro _ _ ⟨rfl, rfl⟩
  go_wp2_with fail
  refine (pactive_calls _ _ _ _ _ HP.out.c.p0 HP.out.c.p1 (by omega) (by omega) (by omega) (by omega)).mono ?_; rintro _ w7 ⟨rfl, hb7⟩
  rw [thr_aI hk]
  have HP7 := Lib.hid (HP.out.below hb7)
  go_wp2_with fail
  refine (Mm.mstore _ _ _ _ _ _ (aI k : Int) 0 _ _ HP7.out.c.mem a0 (by omega) (by omega) (by omega)).mono ?_; rintro _ w3 ⟨rfl, hm3, ho⟩
  rw [okAa hk] at hm3
  obtain ⟨hp3, hk3⟩ := HP7.out.only ho (show Mm.MemAt w3 P.mb P.mg (3 + 8 * P.t + 7 * P.s) P.C (Mm.upd σ.f (aI k) 0) (σ.acc + 1) σ.flt by simpa using hm3)
  have HP3 := Lib.hid hp3; have HK3 := Lib.hid ((KA.of_below hb7 : KA P.B P.N w w7).trans hk3)
  clear hb7 hm3 ho hp3 hk3 HP7
  go_wp2_with fail
  refine (HP3.out.back hk (Th.UR.nil (fun _ => 0)) (by have := HM.out; show (σ.Ts k).nf ≤ _; omega)).mono ?_; rintro _ w9 ⟨rfl, hm9, hk9⟩
  have HM9 := Lib.hid hm9; have HK9 := Lib.hid (HK3.out.trans hk9)
  clear hm9 hk9
  go_wp2_with fail
  first | (refine bodyPost_end (v := .tuple #[]) (by simp [results, Try.results32, go_sem]) rfl ?_) | (refine bodyPost_ret (v := .tuple #[]) (by simp [results, Try.results32, go_sem]) rfl ?_)
  rw [HQ.out]
  exact ⟨rfl, HM9.out, HK9.out⟩
end Go.Proofs.Ytjpkmkaiojnhgaa

/- Layer 18: steps of Enter, Leave, Advance. -/
namespace Go.Proofs.Ytjpkmkaiojnhgaa
open Go.RowKit WordM EdgeM
set_option linter.unusedVariables false
set_option linter.unusedSimpArgs false
set_option maxRecDepth 8000 in
set_option maxHeartbeats 2000000 in
theorem adv0 {w : World} {P : Pc} {σ : Sg} {ps : Nat → Nat → Nat} {fvs : Nat → Value} (h : MP w P σ ps fvs) {k m : Nat} (hk : k < P.t) (hm : (σ.Ts k).nf = m + 1) (hN : m ≤ 1000) (a0 : 0 ≤ σ.acc) (a1 : σ.acc < 1000000) (hpc : ((σ.Ts k).fs m).pc = 0) :
    Calls Try.prog 33 #[.pointer (some ⟨P.q, 0, none⟩), .pointer (some ⟨P.tq k, 0, none⟩), .pointer (some ⟨ps k m, 0, none⟩)] w fun x w' => x = .returned (.tuple #[]) ∧ MM w' P (enter0S P k m σ) ∧ KA P.B P.N w w' := by
  refine Calls.veil fun Q HQ => ?_
  have HP := Lib.hid h
  have hmm : m < (σ.Ts k).nf := by omega
  have HMM := Lib.hid hmm; have HM := Lib.hid hm
  have hbb := h.mm.bd
  have HPC := Lib.hid hpc
  obtain ⟨fb, hfb⟩ : ∃ fb, fb = ps k m := ⟨_, rfl⟩
  have HFB := Lib.hid hfb
  rw [← hfb]
  have f1 : w.cell? ⟨fb, 1, none⟩ = some (.int .i64 0) := by rw [hfb, h.pc hk hmm, hpc]
  have f2 : w.cell? ⟨fb, 2, none⟩ = some (.int .u64 (((σ.Ts k).fs m).r 0)) := by rw [hfb]; exact h.r hk hmm 0 (by omega)
  clear h hmm hm hfb hpc
  go_enter Try.func33, Try.ntmps33
  go_upto_region 3 with fail
  clear f1 f2
  refine Th.wp_region_K (fun _ => True) 7 (by decide +kernel) ?_
  generalize hwd : World.drew w = wd
  have hdd : Below w.heap.size w wd := by rw [← hwd]; exact (Below.refl _ _).drew
  have HPD := Lib.hid (HP.out.below hdd); have HKD := Lib.hid (KA.of_below hdd : KA P.B P.N w wd)
  clear hwd hdd
  (refine Th.wpAnyK_takeY (i := 0) (v := ?_) rfl (by decide +kernel) (by decide +kernel) (by decide +kernel) (by decide) (fun _ _ _ h => h) (Or.inl ⟨by rfl, ?_⟩) (.inr trivial) ?_; rotate_left; (intro w; go_simp); (try with_reducible rfl))
  (try simp only [List.getElem_toArray, List.getElem_cons_succ, List.getElem_cons_zero, Act.put, List.setIfInBounds_toArray, List.set_cons_succ, List.set_cons_zero])
  (refine Th.wpAnyK_takeY (i := 1) (v := ?_) rfl (by decide +kernel) (by decide +kernel) (by decide +kernel) (by decide) (fun _ _ _ h => h) (Or.inl ⟨by rfl, ?_⟩) (.inr trivial) ?_; rotate_left; (intro w; go_simp); (try with_reducible rfl))
  (try simp only [List.getElem_toArray, List.getElem_cons_succ, List.getElem_cons_zero, Act.put, List.setIfInBounds_toArray, List.set_cons_succ, List.set_cons_zero])
  (refine Th.wpAnyK_takeY (i := 4) (v := ?_) rfl (by decide +kernel) (by decide +kernel) (by decide +kernel) (by decide) (fun _ _ _ h => h) (Or.inl ⟨by rfl, ?_⟩) (.inr trivial) ?_; rotate_left; (intro w; go_simp); (try with_reducible rfl))
  (try simp only [List.getElem_toArray, List.getElem_cons_succ, List.getElem_cons_zero, Act.put, List.setIfInBounds_toArray, List.set_cons_succ, List.set_cons_zero])
  (refine Th.wpAnyK_takeY (i := 5) (v := ?_) rfl (by decide +kernel) (by decide +kernel) (by decide +kernel) (by decide) (fun _ _ _ h => h) (Or.inl ⟨by rfl, ?_⟩) (.inr trivial) ?_; rotate_left; (intro w; go_simp); (try with_reducible rfl))
  (try simp only [List.getElem_toArray, List.getElem_cons_succ, List.getElem_cons_zero, Act.put, List.setIfInBounds_toArray, List.set_cons_succ, List.set_cons_zero])
  (refine Th.wpAnyK_ready (rs := [2]) (by decide +kernel) (by simp) ?_; refine (Th.AllReadyK.cons rfl (fun K hK => ?_) Th.AllReadyK.nil))
  refine step_of rfl ?_
  go_step
  refine (cMem HPD.out.c).mono ?_; rintro _ _ ⟨rfl, rfl⟩
  refine hK _ _ (.inr trivial) ?_
  clear hK K
  (try simp only [List.getElem_toArray, List.getElem_cons_succ, List.getElem_cons_zero, Act.put, List.setIfInBounds_toArray, List.set_cons_succ, List.set_cons_zero])
  (refine Th.wpAnyK_ready (rs := [3]) (by decide +kernel) (by simp) ?_; refine (Th.AllReadyK.cons rfl (fun K hK => ?_) Th.AllReadyK.nil))
  refine step_of rfl ?_
  go_step
  refine (Mm.mload _ _ _ _ _ _ 1 _ _ HPD.out.c.mem a0 (by omega)).mono ?_; rintro _ w3 ⟨rfl, hm3, ho⟩
  rw [okA1 _ (by omega)] at hm3
  have hli : Mm.ldI (3 + 8 * P.t + 7 * P.s) σ.f 1 = σ.f 1 := by unfold Mm.ldI; rw [okA1 _ (by omega)]; rfl
  rw [hli]
  obtain ⟨hp3, hk3⟩ := HPD.out.only ho (show Mm.MemAt w3 P.mb P.mg (3 + 8 * P.t + 7 * P.s) P.C σ.f (σ.acc + 1) σ.flt by simpa using hm3)
  have HP3 := Lib.hid hp3; have HK3 := Lib.hid (HKD.out.trans hk3)
  refine hK _ _ (.inr trivial) ?_
  clear hK K hli hm3 ho hp3 hk3 HPD HKD
  (try simp only [List.getElem_toArray, List.getElem_cons_succ, List.getElem_cons_zero, Act.put, List.setIfInBounds_toArray, List.set_cons_succ, List.set_cons_zero])
  have r2 : w3.cell? ⟨fb, 2, none⟩ = some (.int .u64 (((σ.Ts k).fs m).r 0)) := by rw [HFB.out]; exact HP3.out.r hk HMM.out 0 (by omega)
  have rf : ∀ i, w3.frozen? ⟨fb, i, none⟩ = false := fun i => by rw [HFB.out]; exact HP3.out.fr hk HMM.out i
  (refine Th.wpAnyK_takeY (i := 6) (v := ?_) rfl (by decide +kernel) (by decide +kernel) (by decide +kernel) (by decide) (fun _ _ _ h => h) (Or.inl ⟨by rfl, ?_⟩) (.inr trivial) ?_; rotate_left; (intro w; go_simp); (try with_reducible rfl))
  (try simp only [List.getElem_toArray, List.getElem_cons_succ, List.getElem_cons_zero, Act.put, List.setIfInBounds_toArray, List.set_cons_succ, List.set_cons_zero])
  (refine Th.wpAnyK_ready (rs := [7]) (by decide +kernel) (by simp) ?_; refine (Th.AllReadyK.cons rfl (fun K hK => ?_) Th.AllReadyK.nil))
  refine step_of rfl ?_
  go_step
  refine hK _ _ (.inl rfl) ?_
  clear hK K
  refine Th.wpAnyK_done (by decide +kernel) ?_ _
  clear r2 rf
  generalize hW : World.setCell _ _ _ = W
  obtain ⟨hp4, hk4⟩ : MP W P _ ps fvs ∧ KA P.B P.N w3 W := by rw [← hW, HFB.out]; exact HP3.out.setR hk HMM.out 0 (σ.f 1)
  have HP4 := Lib.hid hp4; have HK4 := Lib.hid (HK3.out.trans hk4)
  clear hW hp4 hk4 HP3 HK3
  have f1 : W.cell? ⟨fb, 1, none⟩ = some (.int .i64 0) := by rw [HFB.out, HP4.out.pc hk (by rw [Sg.thr_at]; exact HMM.out), Sg.thr_at, setF_fs]; exact congrArg _ (congrArg _ HPC.out)
  have rf : ∀ i, W.frozen? ⟨fb, i, none⟩ = false := fun i => by rw [HFB.out]; exact HP4.out.fr hk (by rw [Sg.thr_at]; exact HMM.out) i
  go_wp2_with fail
  clear f1 rf
  generalize hW : World.setCell _ _ _ = V
  obtain ⟨hp5, hk5⟩ : MP V P _ ps fvs ∧ KA P.B P.N W V := by rw [← hW, HFB.out]; exact HP4.out.setPC hk (by rw [Sg.thr_at]; exact HMM.out) 1
  rw [Sg.thr_at, setF_fs, setF_setF, Sg.thr_thr] at hp5
  have HP5 := Lib.hid hp5; have HK5 := Lib.hid (HK4.out.trans hk5)
  clear hW hp5 hk5 HP4 HK4
  first | (refine bodyPost_end (v := .tuple #[]) (by simp [results, Try.results33, go_sem]) rfl ?_) | (refine bodyPost_ret (v := .tuple #[]) (by simp [results, Try.results33, go_sem]) rfl ?_)
  rw [HQ.out]
  exact ⟨rfl, HP5.out.mm, HK5.out⟩
set_option maxRecDepth 8000 in
set_option maxHeartbeats 2000000 in
theorem adv1l {w : World} {P : Pc} {σ : Sg} {ps : Nat → Nat → Nat} {fvs : Nat → Value} (h : MP w P σ ps fvs) {k m : Nat} (hk : k < P.t) (hm : (σ.Ts k).nf = m + 1) (hN : m ≤ 1000) (a0 : 0 ≤ σ.acc) (a1 : σ.acc < 1000000) (hpc : ((σ.Ts k).fs m).pc = 1) (hr : 0 ≤ ((σ.Ts k).fs m).r 0 ∧ ((σ.Ts k).fs m).r 0 < 18446744073709551616) {j : Nat} (hr1 : ((σ.Ts k).fs m).r 1 = j ∧ j < P.t) (hl : lagsB (σ.f (aI j)) (((σ.Ts k).fs m).r 0) = true) :
    Calls Try.prog 33 #[.pointer (some ⟨P.q, 0, none⟩), .pointer (some ⟨P.tq k, 0, none⟩), .pointer (some ⟨ps k m, 0, none⟩)] w fun x w' => x = .returned (.tuple #[]) ∧ MM w' P (backAS k 0 σ) ∧ KA P.B P.N w w' := by
  refine Calls.veil fun Q HQ => ?_
  have HP := Lib.hid h
  have hmm : m < (σ.Ts k).nf := by omega
  have HMM := Lib.hid hmm; have HM := Lib.hid hm
  have hbb := h.mm.bd
  have HPC := Lib.hid hpc
  obtain ⟨fb, hfb⟩ : ∃ fb, fb = ps k m := ⟨_, rfl⟩
  have HFB := Lib.hid hfb
  rw [← hfb]
  have f1 : w.cell? ⟨fb, 1, none⟩ = some (.int .i64 1) := by rw [hfb, h.pc hk hmm, hpc]
  have f2 : w.cell? ⟨fb, 2, none⟩ = some (.int .u64 (((σ.Ts k).fs m).r 0)) := by rw [hfb]; exact h.r hk hmm 0 (by omega)
  have HHR := Lib.hid hr
  have HHR1 := Lib.hid hr1
  have HHL := Lib.hid hl
  clear h hmm hm hfb hpc
  clear hr
  clear hr1
  clear hl
  go_enter Try.func33, Try.ntmps33
  have hrg := HP.out.c.mem.rng (aI j) (by have := HHR1.out; unfold aI; omega)
  have hjt := HHR1.out.2
  have hwj : IntKind.i64.wrap (j : Int) = j := by rw [IntKind.wrap_i64]; omega
  go_upto_region 6 with fail
  clear f1 f2
  have HL1 := Lib.hid (show ∀ y : Ext w, (Instr.loadAt 27 (.pointer (some ⟨fb, 3, none⟩))).run Try.prog y.w = .ok (.int .u64 j) y.w from fun y => by (have hc : y.w.cell? ⟨fb, 3, none⟩ = some (.int .u64 j) := (by have h5 := (HP.out.below y.h).r hk HMM.out 1 (by omega); rw [HHR1.out.1] at h5; rw [HFB.out]; exact h5)); clear hwj; go_simp)
  refine Th.wp_region_K (fun w' => ∃ y : Ext w, w' = y.w) 11 (by decide +kernel) ?_
  generalize hwd : World.drew w = wd
  have hbd : Below w.heap.size w wd := by rw [← hwd]; exact (Below.refl _ _).drew
  clear hwd
  (refine Th.wpAnyK_takeY (i := 0) (v := ?_) rfl (by decide +kernel) (by decide +kernel) (by decide +kernel) (by decide) (fun _ _ _ h => h) (Or.inl ⟨by rfl, ?_⟩) (.inr ⟨⟨wd, hbd⟩, rfl⟩) ?_; rotate_left; (intro w; go_simp); (try with_reducible rfl))
  (try simp only [List.getElem_toArray, List.getElem_cons_succ, List.getElem_cons_zero, Act.put, List.setIfInBounds_toArray, List.set_cons_succ, List.set_cons_zero])
  (refine Th.wpAnyK_takeY (i := 2) (v := ?_) rfl (by decide +kernel) (by decide +kernel) (by decide +kernel) (by decide) (fun _ _ _ h => h) (Or.inl ⟨by rfl, ?_⟩) (.inr ⟨⟨wd, hbd⟩, rfl⟩) ?_; rotate_left; (intro w; go_simp); (try with_reducible rfl))
  (try simp only [List.getElem_toArray, List.getElem_cons_succ, List.getElem_cons_zero, Act.put, List.setIfInBounds_toArray, List.set_cons_succ, List.set_cons_zero])
  (refine Th.wpAnyK_takeY (i := 4) (v := ?_) rfl (by decide +kernel) (by decide +kernel) (by decide +kernel) (by decide) (fun _ _ _ h => h) (Or.inl ⟨by rfl, ?_⟩) (.inr ⟨⟨wd, hbd⟩, rfl⟩) ?_; rotate_left; (intro w; go_simp); (try with_reducible rfl))
  (try simp only [List.getElem_toArray, List.getElem_cons_succ, List.getElem_cons_zero, Act.put, List.setIfInBounds_toArray, List.set_cons_succ, List.set_cons_zero])
  (refine Th.wpAnyK_takeY (i := 5) (v := ?_) rfl (by decide +kernel) (by decide +kernel) (by decide +kernel) (by decide) (fun _ _ _ h => h) (Or.inl ⟨by rfl, ?_⟩) (.inr ⟨⟨wd, hbd⟩, rfl⟩) ?_; rotate_left; (intro w; go_simp); (try with_reducible rfl))
  (try simp only [List.getElem_toArray, List.getElem_cons_succ, List.getElem_cons_zero, Act.put, List.setIfInBounds_toArray, List.set_cons_succ, List.set_cons_zero])
  (refine Th.wpAnyK_takeY (i := 6) (v := ?_) rfl (by decide +kernel) (by decide +kernel) (by decide +kernel) (by decide) (fun _ _ _ h => h) (Or.inl ⟨by rfl, ?_⟩) (.inr ⟨⟨wd, hbd⟩, rfl⟩) ?_; rotate_left; (intro w; go_simp); (try with_reducible rfl))
  (try simp only [List.getElem_toArray, List.getElem_cons_succ, List.getElem_cons_zero, Act.put, List.setIfInBounds_toArray, List.set_cons_succ, List.set_cons_zero])
  (refine Th.wpAnyK_takeY (i := 12) (v := ?_) rfl (by decide +kernel) (by decide +kernel) (by decide +kernel) (by decide) (fun _ _ _ h => h) (Or.inl ⟨by rfl, ?_⟩) (.inr ⟨⟨wd, hbd⟩, rfl⟩) ?_; rotate_left; (intro w; go_simp); (try with_reducible rfl))
  (try simp only [List.getElem_toArray, List.getElem_cons_succ, List.getElem_cons_zero, Act.put, List.setIfInBounds_toArray, List.set_cons_succ, List.set_cons_zero])
  (refine Th.wpAnyK_takeY (i := 7) (v := ?_) rfl (by decide +kernel) (by decide +kernel) (by decide +kernel) (by decide) (fun _ _ _ h => h) (Or.inl ⟨by rfl, ?_⟩) (.inr ⟨⟨wd, hbd⟩, rfl⟩) ?_; rotate_left; (intro w; go_simp); (try with_reducible rfl))
  (try simp only [List.getElem_toArray, List.getElem_cons_succ, List.getElem_cons_zero, Act.put, List.setIfInBounds_toArray, List.set_cons_succ, List.set_cons_zero])
  (refine Th.wpAnyK_take (i := 8) (v := .int .u64 j) [9, 10, 11] rfl (by decide +kernel) (by decide +kernel) (by decide +kernel) (by decide +kernel) (fun _ _ _ h => h) (Th.yields_loadK rfl 27 (.tmp 37) rfl rfl (by rintro _ ⟨y, rfl⟩; exact HL1.out y)) ⟨⟨wd, hbd⟩, rfl⟩ ?_)
  (try simp only [List.getElem_toArray, List.getElem_cons_succ, List.getElem_cons_zero, Act.put, List.setIfInBounds_toArray, List.set_cons_succ, List.set_cons_zero])
  (refine Th.wpAnyK_takeY (i := 9) (v := ?_) rfl (by decide +kernel) (by decide +kernel) (by decide +kernel) (by decide) (fun _ _ _ h => h) (Or.inl ⟨by rfl, ?_⟩) (.inr ⟨⟨wd, hbd⟩, rfl⟩) ?_; rotate_left; (intro w; go_simp); (try with_reducible rfl))
  (try simp only [List.getElem_toArray, List.getElem_cons_succ, List.getElem_cons_zero, Act.put, List.setIfInBounds_toArray, List.set_cons_succ, List.set_cons_zero])
  (refine Th.wpAnyK_ready (rs := [1]) (by decide +kernel) (by simp) ?_; refine (Th.AllReadyK.cons rfl (fun K hK => ?_) Th.AllReadyK.nil))
  refine step_of rfl ?_
  go_step
  refine (cMem (HP.out.below hbd).c).mono ?_; rintro _ w6 ⟨rfl, hw6⟩
  rw [← hw6]
  refine hK _ _ (.inr ⟨⟨wd, hbd⟩, rfl⟩) ?_
  clear hK K hw6
  (try simp only [List.getElem_toArray, List.getElem_cons_succ, List.getElem_cons_zero, Act.put, List.setIfInBounds_toArray, List.set_cons_succ, List.set_cons_zero])
  (refine Th.wpAnyK_ready (rs := [3]) (by decide +kernel) (by simp) ?_; refine (Th.AllReadyK.cons rfl (fun K hK => ?_) Th.AllReadyK.nil))
  refine step_of rfl ?_
  go_step
  refine (cPlan (HP.out.below hbd).c).mono ?_; rintro _ w6 ⟨rfl, hw6⟩
  rw [← hw6]
  refine hK _ _ (.inr ⟨⟨wd, hbd⟩, rfl⟩) ?_
  clear hK K hw6
  (try simp only [List.getElem_toArray, List.getElem_cons_succ, List.getElem_cons_zero, Act.put, List.setIfInBounds_toArray, List.set_cons_succ, List.set_cons_zero])
  (refine Th.wpAnyK_ready (rs := [10]) (by decide +kernel) (by simp) ?_; refine (Th.AllReadyK.cons rfl (fun K hK => ?_) Th.AllReadyK.nil))
  refine step_of rfl ?_
  go_step
  refine (pactive_calls _ _ _ _ _ (HP.out.below hbd).c.p0 (HP.out.below hbd).c.p1 (by omega) (by omega) (by omega) (by omega)).mono ?_; rintro _ w7 ⟨rfl, hb7⟩
  rw [thr_aI hjt]
  have hb7 := below_on hbd hb7
  refine hK _ _ (.inr ⟨⟨w7, hb7⟩, rfl⟩) ?_
  clear hK K
  (try simp only [List.getElem_toArray, List.getElem_cons_succ, List.getElem_cons_zero, Act.put, List.setIfInBounds_toArray, List.set_cons_succ, List.set_cons_zero])
  (refine Th.wpAnyK_ready (rs := [11]) (by decide +kernel) (by simp) ?_; refine (Th.AllReadyK.cons rfl (fun K hK => ?_) Th.AllReadyK.nil))
  refine step_of rfl ?_
  go_step
  refine (Mm.mload _ _ _ _ _ _ (aI j : Int) _ _ (HP.out.below hb7).c.mem a0 (by omega)).mono ?_; rintro _ w3 ⟨rfl, hm3, ho⟩
  rw [okAa hjt] at hm3
  have hli : Mm.ldI (3 + 8 * P.t + 7 * P.s) σ.f (aI j : Int) = σ.f (aI j) := by unfold Mm.ldI; rw [okAa hjt]; rfl
  rw [hli]
  obtain ⟨hp3, hk3⟩ := (HP.out.below hb7).only ho (show Mm.MemAt w3 P.mb P.mg (3 + 8 * P.t + 7 * P.s) P.C σ.f (σ.acc + 1) σ.flt by simpa using hm3)
  have HP3 := Lib.hid hp3; have HK3 := Lib.hid ((KA.of_below hb7 : KA P.B P.N w w7).trans hk3)
  refine hK _ _ (.inl rfl) ?_
  clear hK K hli hm3 ho hp3 hk3
  (try simp only [List.getElem_toArray, List.getElem_cons_succ, List.getElem_cons_zero, Act.put, List.setIfInBounds_toArray, List.set_cons_succ, List.set_cons_zero])
  (refine Th.wpAnyK_ready (rs := [13]) (by decide +kernel) (by simp) ?_; refine (Th.AllReadyK.cons rfl (fun K hK => ?_) Th.AllReadyK.nil))
  refine step_of rfl ?_
  go_step
  refine (blags_calls _ _ _ hrg.1 hrg.2).mono ?_; rintro _ w6 ⟨rfl, hw6⟩
  rw [← hw6, HHL.out]
  refine hK _ _ (.inl rfl) ?_
  clear hK K hw6
  refine Th.wpAnyK_done (by decide +kernel) ?_ _
  clear hwj HL1 hbd hb7
  go_wp2_with fail
  generalize hY : World.alloc _ _ = V2
  obtain ⟨hy, hby⟩ := Th.heapnewE hY
  obtain ⟨sb, hsb⟩ : ∃ sb, sb = w3.heap.size := ⟨_, rfl⟩
  rw [← hsb] at hy ⊢
  have HP8 := Lib.hid (HP3.out.below hby); have HK8 := Lib.hid (HK3.out.trans (KA.of_below hby))
  have hur := ur_one hy
  clear hY hy hby hsb HP3 HK3
  refine (HP8.out.back hk (hur) (by have := HM.out; show (σ.Ts k).nf ≤ _; omega)).mono ?_; rintro _ w9 ⟨rfl, hm9, hk9⟩
  have HM9 := Lib.hid hm9; have HK9 := Lib.hid (HK8.out.trans hk9)
  clear hm9 hk9
  go_wp2_with fail
  first | (refine bodyPost_end (v := .tuple #[]) (by simp [results, Try.results33, go_sem]) rfl ?_) | (refine bodyPost_ret (v := .tuple #[]) (by simp [results, Try.results33, go_sem]) rfl ?_)
  rw [HQ.out]
  exact ⟨rfl, HM9.out, HK9.out⟩
end Go.Proofs.Ytjpkmkaiojnhgaa

/- Layer 18: steps of Enter, Leave, Advance. -/
namespace Go.Proofs.Ytjpkmkaiojnhgaa
open Go.RowKit WordM EdgeM
set_option linter.unusedVariables false
set_option linter.unusedSimpArgs false
set_option maxRecDepth 8000 in
set_option maxHeartbeats 2000000 in
theorem adv1n {w : World} {P : Pc} {σ : Sg} {ps : Nat → Nat → Nat} {fvs : Nat → Value} (h : MP w P σ ps fvs) {k m : Nat} (hk : k < P.t) (hm : (σ.Ts k).nf = m + 1) (hN : m ≤ 1000) (a0 : 0 ≤ σ.acc) (a1 : σ.acc < 1000000) (hpc : ((σ.Ts k).fs m).pc = 1) (hr : 0 ≤ ((σ.Ts k).fs m).r 0 ∧ ((σ.Ts k).fs m).r 0 < 18446744073709551616) {j : Nat} (hr1 : ((σ.Ts k).fs m).r 1 = j ∧ j < P.t) (hl : lagsB (σ.f (aI j)) (((σ.Ts k).fs m).r 0) = false) (hz : j + 1 < P.t) :
    Calls Try.prog 33 #[.pointer (some ⟨P.q, 0, none⟩), .pointer (some ⟨P.tq k, 0, none⟩), .pointer (some ⟨ps k m, 0, none⟩)] w fun x w' => x = .returned (.tuple #[]) ∧ MM w' P (adv1nS k m σ) ∧ KA P.B P.N w w' := by
  refine Calls.veil fun Q HQ => ?_
  have HP := Lib.hid h
  have hmm : m < (σ.Ts k).nf := by omega
  have HMM := Lib.hid hmm; have HM := Lib.hid hm
  have hbb := h.mm.bd
  have HPC := Lib.hid hpc
  obtain ⟨fb, hfb⟩ : ∃ fb, fb = ps k m := ⟨_, rfl⟩
  have HFB := Lib.hid hfb
  rw [← hfb]
  have f1 : w.cell? ⟨fb, 1, none⟩ = some (.int .i64 1) := by rw [hfb, h.pc hk hmm, hpc]
  have f2 : w.cell? ⟨fb, 2, none⟩ = some (.int .u64 (((σ.Ts k).fs m).r 0)) := by rw [hfb]; exact h.r hk hmm 0 (by omega)
  have HHR := Lib.hid hr
  have HHR1 := Lib.hid hr1
  have HHL := Lib.hid hl
  have HHZ := Lib.hid hz
  clear h hmm hm hfb hpc
  clear hr
  clear hr1
  clear hl
  clear hz
  go_enter Try.func33, Try.ntmps33
  have hrg := HP.out.c.mem.rng (aI j) (by have := HHR1.out; unfold aI; omega)
  have hjt := HHR1.out.2
  have hwj : IntKind.i64.wrap (j : Int) = j := by rw [IntKind.wrap_i64]; omega
  go_upto_region 6 with fail
  clear f1 f2
  have HL1 := Lib.hid (show ∀ y : Ext w, (Instr.loadAt 27 (.pointer (some ⟨fb, 3, none⟩))).run Try.prog y.w = .ok (.int .u64 j) y.w from fun y => by (have hc : y.w.cell? ⟨fb, 3, none⟩ = some (.int .u64 j) := (by have h5 := (HP.out.below y.h).r hk HMM.out 1 (by omega); rw [HHR1.out.1] at h5; rw [HFB.out]; exact h5)); clear hwj; go_simp)
  refine Th.wp_region_K (fun w' => ∃ y : Ext w, w' = y.w) 11 (by decide +kernel) ?_
  generalize hwd : World.drew w = wd
  have hbd : Below w.heap.size w wd := by rw [← hwd]; exact (Below.refl _ _).drew
  clear hwd
  (refine Th.wpAnyK_takeY (i := 0) (v := ?_) rfl (by decide +kernel) (by decide +kernel) (by decide +kernel) (by decide) (fun _ _ _ h => h) (Or.inl ⟨by rfl, ?_⟩) (.inr ⟨⟨wd, hbd⟩, rfl⟩) ?_; rotate_left; (intro w; go_simp); (try with_reducible rfl))
  (try simp only [List.getElem_toArray, List.getElem_cons_succ, List.getElem_cons_zero, Act.put, List.setIfInBounds_toArray, List.set_cons_succ, List.set_cons_zero])
  (refine Th.wpAnyK_takeY (i := 2) (v := ?_) rfl (by decide +kernel) (by decide +kernel) (by decide +kernel) (by decide) (fun _ _ _ h => h) (Or.inl ⟨by rfl, ?_⟩) (.inr ⟨⟨wd, hbd⟩, rfl⟩) ?_; rotate_left; (intro w; go_simp); (try with_reducible rfl))
  (try simp only [List.getElem_toArray, List.getElem_cons_succ, List.getElem_cons_zero, Act.put, List.setIfInBounds_toArray, List.set_cons_succ, List.set_cons_zero])
  (refine Th.wpAnyK_takeY (i := 4) (v := ?_) rfl (by decide +kernel) (by decide +kernel) (by decide +kernel) (by decide) (fun _ _ _ h => h) (Or.inl ⟨by rfl, ?_⟩) (.inr ⟨⟨wd, hbd⟩, rfl⟩) ?_; rotate_left; (intro w; go_simp); (try with_reducible rfl))
  (try simp only [List.getElem_toArray, List.getElem_cons_succ, List.getElem_cons_zero, Act.put, List.setIfInBounds_toArray, List.set_cons_succ, List.set_cons_zero])
  (refine Th.wpAnyK_takeY (i := 5) (v := ?_) rfl (by decide +kernel) (by decide +kernel) (by decide +kernel) (by decide) (fun _ _ _ h => h) (Or.inl ⟨by rfl, ?_⟩) (.inr ⟨⟨wd, hbd⟩, rfl⟩) ?_; rotate_left; (intro w; go_simp); (try with_reducible rfl))
  (try simp only [List.getElem_toArray, List.getElem_cons_succ, List.getElem_cons_zero, Act.put, List.setIfInBounds_toArray, List.set_cons_succ, List.set_cons_zero])
  (refine Th.wpAnyK_takeY (i := 6) (v := ?_) rfl (by decide +kernel) (by decide +kernel) (by decide +kernel) (by decide) (fun _ _ _ h => h) (Or.inl ⟨by rfl, ?_⟩) (.inr ⟨⟨wd, hbd⟩, rfl⟩) ?_; rotate_left; (intro w; go_simp); (try with_reducible rfl))
  (try simp only [List.getElem_toArray, List.getElem_cons_succ, List.getElem_cons_zero, Act.put, List.setIfInBounds_toArray, List.set_cons_succ, List.set_cons_zero])
  (refine Th.wpAnyK_takeY (i := 12) (v := ?_) rfl (by decide +kernel) (by decide +kernel) (by decide +kernel) (by decide) (fun _ _ _ h => h) (Or.inl ⟨by rfl, ?_⟩) (.inr ⟨⟨wd, hbd⟩, rfl⟩) ?_; rotate_left; (intro w; go_simp); (try with_reducible rfl))
  (try simp only [List.getElem_toArray, List.getElem_cons_succ, List.getElem_cons_zero, Act.put, List.setIfInBounds_toArray, List.set_cons_succ, List.set_cons_zero])
  (refine Th.wpAnyK_takeY (i := 7) (v := ?_) rfl (by decide +kernel) (by decide +kernel) (by decide +kernel) (by decide) (fun _ _ _ h => h) (Or.inl ⟨by rfl, ?_⟩) (.inr ⟨⟨wd, hbd⟩, rfl⟩) ?_; rotate_left; (intro w; go_simp); (try with_reducible rfl))
  (try simp only [List.getElem_toArray, List.getElem_cons_succ, List.getElem_cons_zero, Act.put, List.setIfInBounds_toArray, List.set_cons_succ, List.set_cons_zero])
  (refine Th.wpAnyK_take (i := 8) (v := .int .u64 j) [9, 10, 11] rfl (by decide +kernel) (by decide +kernel) (by decide +kernel) (by decide +kernel) (fun _ _ _ h => h) (Th.yields_loadK rfl 27 (.tmp 37) rfl rfl (by rintro _ ⟨y, rfl⟩; exact HL1.out y)) ⟨⟨wd, hbd⟩, rfl⟩ ?_)
  (try simp only [List.getElem_toArray, List.getElem_cons_succ, List.getElem_cons_zero, Act.put, List.setIfInBounds_toArray, List.set_cons_succ, List.set_cons_zero])
  (refine Th.wpAnyK_takeY (i := 9) (v := ?_) rfl (by decide +kernel) (by decide +kernel) (by decide +kernel) (by decide) (fun _ _ _ h => h) (Or.inl ⟨by rfl, ?_⟩) (.inr ⟨⟨wd, hbd⟩, rfl⟩) ?_; rotate_left; (intro w; go_simp); (try with_reducible rfl))
  (try simp only [List.getElem_toArray, List.getElem_cons_succ, List.getElem_cons_zero, Act.put, List.setIfInBounds_toArray, List.set_cons_succ, List.set_cons_zero])
  (refine Th.wpAnyK_ready (rs := [1]) (by decide +kernel) (by simp) ?_; refine (Th.AllReadyK.cons rfl (fun K hK => ?_) Th.AllReadyK.nil))
  refine step_of rfl ?_
  go_step
  refine (cMem (HP.out.below hbd).c).mono ?_; rintro _ w6 ⟨rfl, hw6⟩
  rw [← hw6]
  refine hK _ _ (.inr ⟨⟨wd, hbd⟩, rfl⟩) ?_
  clear hK K hw6
  (try simp only [List.getElem_toArray, List.getElem_cons_succ, List.getElem_cons_zero, Act.put, List.setIfInBounds_toArray, List.set_cons_succ, List.set_cons_zero])
  (refine Th.wpAnyK_ready (rs := [3]) (by decide +kernel) (by simp) ?_; refine (Th.AllReadyK.cons rfl (fun K hK => ?_) Th.AllReadyK.nil))
  refine step_of rfl ?_
  go_step
  refine (cPlan (HP.out.below hbd).c).mono ?_; rintro _ w6 ⟨rfl, hw6⟩
  rw [← hw6]
  refine hK _ _ (.inr ⟨⟨wd, hbd⟩, rfl⟩) ?_
  clear hK K hw6
  (try simp only [List.getElem_toArray, List.getElem_cons_succ, List.getElem_cons_zero, Act.put, List.setIfInBounds_toArray, List.set_cons_succ, List.set_cons_zero])
  (refine Th.wpAnyK_ready (rs := [10]) (by decide +kernel) (by simp) ?_; refine (Th.AllReadyK.cons rfl (fun K hK => ?_) Th.AllReadyK.nil))
  refine step_of rfl ?_
  go_step
  refine (pactive_calls _ _ _ _ _ (HP.out.below hbd).c.p0 (HP.out.below hbd).c.p1 (by omega) (by omega) (by omega) (by omega)).mono ?_; rintro _ w7 ⟨rfl, hb7⟩
  rw [thr_aI hjt]
  have hb7 := below_on hbd hb7
  refine hK _ _ (.inr ⟨⟨w7, hb7⟩, rfl⟩) ?_
  clear hK K
  (try simp only [List.getElem_toArray, List.getElem_cons_succ, List.getElem_cons_zero, Act.put, List.setIfInBounds_toArray, List.set_cons_succ, List.set_cons_zero])
  (refine Th.wpAnyK_ready (rs := [11]) (by decide +kernel) (by simp) ?_; refine (Th.AllReadyK.cons rfl (fun K hK => ?_) Th.AllReadyK.nil))
  refine step_of rfl ?_
  go_step
  refine (Mm.mload _ _ _ _ _ _ (aI j : Int) _ _ (HP.out.below hb7).c.mem a0 (by omega)).mono ?_; rintro _ w3 ⟨rfl, hm3, ho⟩
  rw [okAa hjt] at hm3
  have hli : Mm.ldI (3 + 8 * P.t + 7 * P.s) σ.f (aI j : Int) = σ.f (aI j) := by unfold Mm.ldI; rw [okAa hjt]; rfl
  rw [hli]
  obtain ⟨hp3, hk3⟩ := (HP.out.below hb7).only ho (show Mm.MemAt w3 P.mb P.mg (3 + 8 * P.t + 7 * P.s) P.C σ.f (σ.acc + 1) σ.flt by simpa using hm3)
  have HP3 := Lib.hid hp3; have HK3 := Lib.hid ((KA.of_below hb7 : KA P.B P.N w w7).trans hk3)
  refine hK _ _ (.inl rfl) ?_
  clear hK K hli hm3 ho hp3 hk3
  (try simp only [List.getElem_toArray, List.getElem_cons_succ, List.getElem_cons_zero, Act.put, List.setIfInBounds_toArray, List.set_cons_succ, List.set_cons_zero])
  (refine Th.wpAnyK_ready (rs := [13]) (by decide +kernel) (by simp) ?_; refine (Th.AllReadyK.cons rfl (fun K hK => ?_) Th.AllReadyK.nil))
  refine step_of rfl ?_
  go_step
  refine (blags_calls _ _ _ hrg.1 hrg.2).mono ?_; rintro _ w6 ⟨rfl, hw6⟩
  rw [← hw6, HHL.out]
  refine hK _ _ (.inl rfl) ?_
  clear hK K hw6
  refine Th.wpAnyK_done (by decide +kernel) ?_ _
  clear hwj HL1 hbd hb7
  have hwj1 : IntKind.u64.wrap ((j : Int) + 1) = j + 1 := by rw [IntKind.wrap_u64]; omega
  have HJW := Lib.hid (show IntKind.i64.wrap ((j : Int) + 1) = j + 1 from by rw [IntKind.wrap_i64]; omega)
  have HL3 := Lib.hid (show ∀ y : Ext w3, (Instr.loadAt 27 (.pointer (some ⟨fb, 3, none⟩))).run Try.prog y.w = .ok (.int .u64 j) y.w from fun y => by (have hc : y.w.cell? ⟨fb, 3, none⟩ = some (.int .u64 j) := (by have h5 := (HP3.out.below y.h).r hk HMM.out 1 (by omega); rw [HHR1.out.1] at h5; rw [HFB.out]; exact h5)); clear hwj1; go_simp)
  go_upto_region 8 with fail
  refine Th.wp_region_K (fun w' => ∃ y : Ext w3, w' = y.w) 9 (by decide +kernel) ?_
  generalize hwd : World.drew w3 = wd
  have hbd : Below w3.heap.size w3 wd := by rw [← hwd]; exact (Below.refl _ _).drew
  clear hwd
  (refine Th.wpAnyK_takeY (i := 0) (v := ?_) rfl (by decide +kernel) (by decide +kernel) (by decide +kernel) (by decide) (fun _ _ _ h => h) (Or.inl ⟨by rfl, ?_⟩) (.inr ⟨⟨wd, hbd⟩, rfl⟩) ?_; rotate_left; (intro w; go_simp); (try with_reducible rfl))
  (try simp only [List.getElem_toArray, List.getElem_cons_succ, List.getElem_cons_zero, Act.put, List.setIfInBounds_toArray, List.set_cons_succ, List.set_cons_zero])
  (refine Th.wpAnyK_takeY (i := 1) (v := ?_) rfl (by decide +kernel) (by decide +kernel) (by decide +kernel) (by decide) (fun _ _ _ h => h) (Or.inl ⟨by rfl, ?_⟩) (.inr ⟨⟨wd, hbd⟩, rfl⟩) ?_; rotate_left; (intro w; go_simp); (try with_reducible rfl))
  (try simp only [List.getElem_toArray, List.getElem_cons_succ, List.getElem_cons_zero, Act.put, List.setIfInBounds_toArray, List.set_cons_succ, List.set_cons_zero])
  (refine Th.wpAnyK_takeY (i := 2) (v := ?_) rfl (by decide +kernel) (by decide +kernel) (by decide +kernel) (by decide) (fun _ _ _ h => h) (Or.inl ⟨by rfl, ?_⟩) (.inr ⟨⟨wd, hbd⟩, rfl⟩) ?_; rotate_left; (intro w; go_simp); (try with_reducible rfl))
  (try simp only [List.getElem_toArray, List.getElem_cons_succ, List.getElem_cons_zero, Act.put, List.setIfInBounds_toArray, List.set_cons_succ, List.set_cons_zero])
  (refine Th.wpAnyK_takeY (i := 3) (v := ?_) rfl (by decide +kernel) (by decide +kernel) (by decide +kernel) (by decide) (fun _ _ _ h => h) (Or.inl ⟨by rfl, ?_⟩) (.inr ⟨⟨wd, hbd⟩, rfl⟩) ?_; rotate_left; (intro w; go_simp); (try with_reducible rfl))
  (try simp only [List.getElem_toArray, List.getElem_cons_succ, List.getElem_cons_zero, Act.put, List.setIfInBounds_toArray, List.set_cons_succ, List.set_cons_zero])
  (refine Th.wpAnyK_take (i := 4) (v := .int .u64 j) [5, 9] rfl (by decide +kernel) (by decide +kernel) (by decide +kernel) (by decide +kernel) (fun _ _ _ h => h) (Th.yields_loadK rfl 27 (.tmp 50) rfl rfl (by rintro _ ⟨y, rfl⟩; exact HL3.out y)) ⟨⟨wd, hbd⟩, rfl⟩ ?_)
  (try simp only [List.getElem_toArray, List.getElem_cons_succ, List.getElem_cons_zero, Act.put, List.setIfInBounds_toArray, List.set_cons_succ, List.set_cons_zero])
  (refine Th.wpAnyK_takeY (i := 5) (v := ?_) rfl (by decide +kernel) (by decide +kernel) (by decide +kernel) (by decide) (fun _ _ _ h => h) (Or.inl ⟨by rfl, ?_⟩) (.inr ⟨⟨wd, hbd⟩, rfl⟩) ?_; rotate_left; (intro w; go_simp); (try with_reducible rfl))
  (try simp only [List.getElem_toArray, List.getElem_cons_succ, List.getElem_cons_zero, Act.put, List.setIfInBounds_toArray, List.set_cons_succ, List.set_cons_zero])
  (refine Th.wpAnyK_takeY (i := 6) (v := ?_) rfl (by decide +kernel) (by decide +kernel) (by decide +kernel) (by decide) (fun _ _ _ h => h) (Or.inl ⟨by rfl, ?_⟩) (.inr ⟨⟨wd, hbd⟩, rfl⟩) ?_; rotate_left; (intro w; go_simp); (try with_reducible rfl))
  (try simp only [List.getElem_toArray, List.getElem_cons_succ, List.getElem_cons_zero, Act.put, List.setIfInBounds_toArray, List.set_cons_succ, List.set_cons_zero])
  (refine Th.wpAnyK_takeY (i := 7) (v := ?_) rfl (by decide +kernel) (by decide +kernel) (by decide +kernel) (by decide) (fun _ _ _ h => h) (Or.inl ⟨by rfl, ?_⟩) (.inr ⟨⟨wd, hbd⟩, rfl⟩) ?_; rotate_left; (intro w; go_simp); (try with_reducible rfl))
  (try simp only [List.getElem_toArray, List.getElem_cons_succ, List.getElem_cons_zero, Act.put, List.setIfInBounds_toArray, List.set_cons_succ, List.set_cons_zero])
  (refine Th.wpAnyK_takeY (i := 8) (v := ?_) rfl (by decide +kernel) (by decide +kernel) (by decide +kernel) (by decide) (fun _ _ _ h => h) (Or.inl ⟨by rfl, ?_⟩) (.inr ⟨⟨wd, hbd⟩, rfl⟩) ?_; rotate_left; (intro w; go_simp); (try with_reducible rfl))
  (try simp only [List.getElem_toArray, List.getElem_cons_succ, List.getElem_cons_zero, Act.put, List.setIfInBounds_toArray, List.set_cons_succ, List.set_cons_zero])
  have HP4 := Lib.hid (HP3.out.below hbd); have HK4 := Lib.hid (HK3.out.trans (KA.of_below hbd))
  have r3 : wd.cell? ⟨fb, 3, none⟩ = some (.int .u64 j) := by (have h5 := HP4.out.r hk HMM.out 1 (by omega); rw [HHR1.out.1] at h5; rw [HFB.out]; exact h5)
  have rf : ∀ i, wd.frozen? ⟨fb, i, none⟩ = false := fun i => by rw [HFB.out]; exact HP4.out.fr hk HMM.out i
  (refine Th.wpAnyK_ready (rs := [9]) (by decide +kernel) (by simp) ?_; refine (Th.AllReadyK.cons rfl (fun K hK => ?_) Th.AllReadyK.nil))
  refine step_of rfl ?_
  go_step
  refine hK _ _ (.inl rfl) ?_
  clear hK K
  refine Th.wpAnyK_done (by decide +kernel) ?_ _
  clear r3 rf hwj1 hbd HL3 HP3 HK3
  generalize hW : World.setCell _ _ _ = W
  obtain ⟨hp4, hk4⟩ : MP W P _ ps fvs ∧ KA P.B P.N wd W := by rw [← hW, HFB.out]; exact HP4.out.setR hk HMM.out 1 ((j : Int) + 1)
  have HP5 := Lib.hid hp4; have HK5 := Lib.hid (HK4.out.trans hk4)
  clear hW hp4 hk4 HP4 HK4
  have HL4 := Lib.hid (show ∀ y : Ext W, (Instr.loadAt 27 (.pointer (some ⟨fb, 3, none⟩))).run Try.prog y.w = .ok (.int .u64 ((j : Int) + 1)) y.w from fun y => by (have hc : y.w.cell? ⟨fb, 3, none⟩ = some (.int .u64 ((j : Int) + 1)) := (by have h5 := (HP5.out.below y.h).r hk (m := m) (by rw [Sg.thr_at]; exact HMM.out) 1 (by omega); rw [Sg.thr_at, setF_fs] at h5; rw [HFB.out]; exact h5)); go_simp)
  have hwj2 := HJW.out
  go_upto_region 9 with fail
  refine Th.wp_region_K (fun w' => ∃ y : Ext W, w' = y.w) 8 (by decide +kernel) ?_
  generalize hwd : World.drew W = we
  have hbe : Below W.heap.size W we := by rw [← hwd]; exact (Below.refl _ _).drew
  clear hwd
  (refine Th.wpAnyK_takeY (i := 0) (v := ?_) rfl (by decide +kernel) (by decide +kernel) (by decide +kernel) (by decide) (fun _ _ _ h => h) (Or.inl ⟨by rfl, ?_⟩) (.inr ⟨⟨we, hbe⟩, rfl⟩) ?_; rotate_left; (intro w; go_simp); (try with_reducible rfl))
  (try simp only [List.getElem_toArray, List.getElem_cons_succ, List.getElem_cons_zero, Act.put, List.setIfInBounds_toArray, List.set_cons_succ, List.set_cons_zero])
  (refine Th.wpAnyK_takeY (i := 1) (v := ?_) rfl (by decide +kernel) (by decide +kernel) (by decide +kernel) (by decide) (fun _ _ _ h => h) (Or.inl ⟨by rfl, ?_⟩) (.inr ⟨⟨we, hbe⟩, rfl⟩) ?_; rotate_left; (intro w; go_simp); (try with_reducible rfl))
  (try simp only [List.getElem_toArray, List.getElem_cons_succ, List.getElem_cons_zero, Act.put, List.setIfInBounds_toArray, List.set_cons_succ, List.set_cons_zero])
  (refine Th.wpAnyK_takeY (i := 2) (v := ?_) rfl (by decide +kernel) (by decide +kernel) (by decide +kernel) (by decide) (fun _ _ _ h => h) (Or.inl ⟨by rfl, ?_⟩) (.inr ⟨⟨we, hbe⟩, rfl⟩) ?_; rotate_left; (intro w; go_simp); (try with_reducible rfl))
  (try simp only [List.getElem_toArray, List.getElem_cons_succ, List.getElem_cons_zero, Act.put, List.setIfInBounds_toArray, List.set_cons_succ, List.set_cons_zero])
  (refine Th.wpAnyK_takeY (i := 3) (v := ?_) rfl (by decide +kernel) (by decide +kernel) (by decide +kernel) (by decide) (fun _ _ _ h => h) (Or.inl ⟨by rfl, ?_⟩) (.inr ⟨⟨we, hbe⟩, rfl⟩) ?_; rotate_left; (intro w; go_simp); (try with_reducible rfl))
  (try simp only [List.getElem_toArray, List.getElem_cons_succ, List.getElem_cons_zero, Act.put, List.setIfInBounds_toArray, List.set_cons_succ, List.set_cons_zero])
  (refine Th.wpAnyK_take (i := 4) (v := .int .u64 ((j : Int) + 1)) [5, 8] rfl (by decide +kernel) (by decide +kernel) (by decide +kernel) (by decide +kernel) (fun _ _ _ h => h) (Th.yields_loadK rfl 27 (.tmp 59) rfl rfl (by rintro _ ⟨y, rfl⟩; exact HL4.out y)) ⟨⟨we, hbe⟩, rfl⟩ ?_)
  (try simp only [List.getElem_toArray, List.getElem_cons_succ, List.getElem_cons_zero, Act.put, List.setIfInBounds_toArray, List.set_cons_succ, List.set_cons_zero])
  (refine Th.wpAnyK_takeY (i := 5) (v := ?_) rfl (by decide +kernel) (by decide +kernel) (by decide +kernel) (by decide) (fun _ _ _ h => h) (Or.inl ⟨by rfl, ?_⟩) (.inr ⟨⟨we, hbe⟩, rfl⟩) ?_; rotate_left; (intro w; go_simp); (try with_reducible rfl))
  (try simp only [List.getElem_toArray, List.getElem_cons_succ, List.getElem_cons_zero, Act.put, List.setIfInBounds_toArray, List.set_cons_succ, List.set_cons_zero])
  (refine Th.wpAnyK_takeY (i := 6) (v := ?_) rfl (by decide +kernel) (by decide +kernel) (by decide +kernel) (by decide) (fun _ _ _ h => h) (Or.inl ⟨by rfl, ?_⟩) (.inr ⟨⟨we, hbe⟩, rfl⟩) ?_; rotate_left; (intro w; go_simp); (try with_reducible rfl))
  (try simp only [List.getElem_toArray, List.getElem_cons_succ, List.getElem_cons_zero, Act.put, List.setIfInBounds_toArray, List.set_cons_succ, List.set_cons_zero])
  (refine Th.wpAnyK_ready (rs := [7]) (by decide +kernel) (by simp) ?_; refine (Th.AllReadyK.cons rfl (fun K hK => ?_) Th.AllReadyK.nil))
  refine step_of rfl ?_
  go_step
  refine (cThreads (HP5.out.below hbe).c).mono ?_; rintro _ w6 ⟨rfl, hw6⟩
  rw [← hw6]
  refine hK _ _ (.inr ⟨⟨we, hbe⟩, rfl⟩) ?_
  clear hK K hw6
  (try simp only [List.getElem_toArray, List.getElem_cons_succ, List.getElem_cons_zero, Act.put, List.setIfInBounds_toArray, List.set_cons_succ, List.set_cons_zero])
  (refine Th.wpAnyK_ready (rs := [8]) (by decide +kernel) (by simp) ?_; refine (Th.AllReadyK.cons rfl (fun K hK => ?_) Th.AllReadyK.nil))
  refine step_of rfl ?_
  go_step
  refine hK _ _ (.inl rfl) ?_
  clear hK K
  refine Th.wpAnyK_done (by decide +kernel) ?_ _
  have HP6 := Lib.hid (HP5.out.below hbe); have HK6 := Lib.hid (HK5.out.trans (KA.of_below hbe))
  clear HL4 hbe hwj2 HP5 HK5
  have hjq : ((j : Int) + 1 == P.t) = false := by have := HHZ.out; simp; omega
  go_wp2_with fail
  first | (refine bodyPost_end (v := .tuple #[]) (by simp [results, Try.results33, go_sem]) rfl ?_) | (refine bodyPost_ret (v := .tuple #[]) (by simp [results, Try.results33, go_sem]) rfl ?_)
  rw [HQ.out]
  exact ⟨rfl, by unfold adv1nS; rw [HHR1.out.1]; exact HP6.out.mm, HK6.out⟩
set_option maxRecDepth 8000 in
set_option maxHeartbeats 2000000 in
theorem adv1e {w : World} {P : Pc} {σ : Sg} {ps : Nat → Nat → Nat} {fvs : Nat → Value} (h : MP w P σ ps fvs) {k m : Nat} (hk : k < P.t) (hm : (σ.Ts k).nf = m + 1) (hN : m ≤ 1000) (a0 : 0 ≤ σ.acc) (a1 : σ.acc < 1000000) (hpc : ((σ.Ts k).fs m).pc = 1) (hr : 0 ≤ ((σ.Ts k).fs m).r 0 ∧ ((σ.Ts k).fs m).r 0 < 18446744073709551616) {j : Nat} (hr1 : ((σ.Ts k).fs m).r 1 = j ∧ j < P.t) (hl : lagsB (σ.f (aI j)) (((σ.Ts k).fs m).r 0) = false) (hz : j + 1 = P.t) :
    Calls Try.prog 33 #[.pointer (some ⟨P.q, 0, none⟩), .pointer (some ⟨P.tq k, 0, none⟩), .pointer (some ⟨ps k m, 0, none⟩)] w fun x w' => x = .returned (.tuple #[]) ∧ MM w' P (adv1eS k m σ) ∧ KA P.B P.N w w' := by
  refine Calls.veil fun Q HQ => ?_
  have HP := Lib.hid h
  have hmm : m < (σ.Ts k).nf := by omega
  have HMM := Lib.hid hmm; have HM := Lib.hid hm
  have hbb := h.mm.bd
  have HPC := Lib.hid hpc
  obtain ⟨fb, hfb⟩ : ∃ fb, fb = ps k m := ⟨_, rfl⟩
  have HFB := Lib.hid hfb
  rw [← hfb]
  have f1 : w.cell? ⟨fb, 1, none⟩ = some (.int .i64 1) := by rw [hfb, h.pc hk hmm, hpc]
  have f2 : w.cell? ⟨fb, 2, none⟩ = some (.int .u64 (((σ.Ts k).fs m).r 0)) := by rw [hfb]; exact h.r hk hmm 0 (by omega)
  have HHR := Lib.hid hr
  have HHR1 := Lib.hid hr1
  have HHL := Lib.hid hl
  have HHZ := Lib.hid hz
  clear h hmm hm hfb hpc
  clear hr
  clear hr1
  clear hl
  clear hz
  go_enter Try.func33, Try.ntmps33
  have hrg := HP.out.c.mem.rng (aI j) (by have := HHR1.out; unfold aI; omega)
  have hjt := HHR1.out.2
  have hwj : IntKind.i64.wrap (j : Int) = j := by rw [IntKind.wrap_i64]; omega
  go_upto_region 6 with fail
  clear f1 f2
  have HL1 := Lib.hid (show ∀ y : Ext w, (Instr.loadAt 27 (.pointer (some ⟨fb, 3, none⟩))).run Try.prog y.w = .ok (.int .u64 j) y.w from fun y => by (have hc : y.w.cell? ⟨fb, 3, none⟩ = some (.int .u64 j) := (by have h5 := (HP.out.below y.h).r hk HMM.out 1 (by omega); rw [HHR1.out.1] at h5; rw [HFB.out]; exact h5)); clear hwj; go_simp)
  refine Th.wp_region_K (fun w' => ∃ y : Ext w, w' = y.w) 11 (by decide +kernel) ?_
  generalize hwd : World.drew w = wd
  have hbd : Below w.heap.size w wd := by rw [← hwd]; exact (Below.refl _ _).drew
  clear hwd
  (refine Th.wpAnyK_takeY (i := 0) (v := ?_) rfl (by decide +kernel) (by decide +kernel) (by decide +kernel) (by decide) (fun _ _ _ h => h) (Or.inl ⟨by rfl, ?_⟩) (.inr ⟨⟨wd, hbd⟩, rfl⟩) ?_; rotate_left; (intro w; go_simp); (try with_reducible rfl))
  (try simp only [List.getElem_toArray, List.getElem_cons_succ, List.getElem_cons_zero, Act.put, List.setIfInBounds_toArray, List.set_cons_succ, List.set_cons_zero])
  (refine Th.wpAnyK_takeY (i := 2) (v := ?_) rfl (by decide +kernel) (by decide +kernel) (by decide +kernel) (by decide) (fun _ _ _ h => h) (Or.inl ⟨by rfl, ?_⟩) (.inr ⟨⟨wd, hbd⟩, rfl⟩) ?_; rotate_left; (intro w; go_simp); (try with_reducible rfl))
  (try simp only [List.getElem_toArray, List.getElem_cons_succ, List.getElem_cons_zero, Act.put, List.setIfInBounds_toArray, List.set_cons_succ, List.set_cons_zero])
  (refine Th.wpAnyK_takeY (i := 4) (v := ?_) rfl (by decide +kernel) (by decide +kernel) (by decide +kernel) (by decide) (fun _ _ _ h => h) (Or.inl ⟨by rfl, ?_⟩) (.inr ⟨⟨wd, hbd⟩, rfl⟩) ?_; rotate_left; (intro w; go_simp); (try with_reducible rfl))
  (try simp only [List.getElem_toArray, List.getElem_cons_succ, List.getElem_cons_zero, Act.put, List.setIfInBounds_toArray, List.set_cons_succ, List.set_cons_zero])
  (refine Th.wpAnyK_takeY (i := 5) (v := ?_) rfl (by decide +kernel) (by decide +kernel) (by decide +kernel) (by decide) (fun _ _ _ h => h) (Or.inl ⟨by rfl, ?_⟩) (.inr ⟨⟨wd, hbd⟩, rfl⟩) ?_; rotate_left; (intro w; go_simp); (try with_reducible rfl))
  (try simp only [List.getElem_toArray, List.getElem_cons_succ, List.getElem_cons_zero, Act.put, List.setIfInBounds_toArray, List.set_cons_succ, List.set_cons_zero])
  (refine Th.wpAnyK_takeY (i := 6) (v := ?_) rfl (by decide +kernel) (by decide +kernel) (by decide +kernel) (by decide) (fun _ _ _ h => h) (Or.inl ⟨by rfl, ?_⟩) (.inr ⟨⟨wd, hbd⟩, rfl⟩) ?_; rotate_left; (intro w; go_simp); (try with_reducible rfl))
  (try simp only [List.getElem_toArray, List.getElem_cons_succ, List.getElem_cons_zero, Act.put, List.setIfInBounds_toArray, List.set_cons_succ, List.set_cons_zero])
  (refine Th.wpAnyK_takeY (i := 12) (v := ?_) rfl (by decide +kernel) (by decide +kernel) (by decide +kernel) (by decide) (fun _ _ _ h => h) (Or.inl ⟨by rfl, ?_⟩) (.inr ⟨⟨wd, hbd⟩, rfl⟩) ?_; rotate_left; (intro w; go_simp); (try with_reducible rfl))
  (try simp only [List.getElem_toArray, List.getElem_cons_succ, List.getElem_cons_zero, Act.put, List.setIfInBounds_toArray, List.set_cons_succ, List.set_cons_zero])
  (refine Th.wpAnyK_takeY (i := 7) (v := ?_) rfl (by decide +kernel) (by decide +kernel) (by decide +kernel) (by decide) (fun _ _ _ h => h) (Or.inl ⟨by rfl, ?_⟩) (.inr ⟨⟨wd, hbd⟩, rfl⟩) ?_; rotate_left; (intro w; go_simp); (try with_reducible rfl))
  (try simp only [List.getElem_toArray, List.getElem_cons_succ, List.getElem_cons_zero, Act.put, List.setIfInBounds_toArray, List.set_cons_succ, List.set_cons_zero])
  (refine Th.wpAnyK_take (i := 8) (v := .int .u64 j) [9, 10, 11] rfl (by decide +kernel) (by decide +kernel) (by decide +kernel) (by decide +kernel) (fun _ _ _ h => h) (Th.yields_loadK rfl 27 (.tmp 37) rfl rfl (by rintro _ ⟨y, rfl⟩; exact HL1.out y)) ⟨⟨wd, hbd⟩, rfl⟩ ?_)
  (try simp only [List.getElem_toArray, List.getElem_cons_succ, List.getElem_cons_zero, Act.put, List.setIfInBounds_toArray, List.set_cons_succ, List.set_cons_zero])
  (refine Th.wpAnyK_takeY (i := 9) (v := ?_) rfl (by decide +kernel) (by decide +kernel) (by decide +kernel) (by decide) (fun _ _ _ h => h) (Or.inl ⟨by rfl, ?_⟩) (.inr ⟨⟨wd, hbd⟩, rfl⟩) ?_; rotate_left; (intro w; go_simp); (try with_reducible rfl))
  (try simp only [List.getElem_toArray, List.getElem_cons_succ, List.getElem_cons_zero, Act.put, List.setIfInBounds_toArray, List.set_cons_succ, List.set_cons_zero])
  (refine Th.wpAnyK_ready (rs := [1]) (by decide +kernel) (by simp) ?_; refine (Th.AllReadyK.cons rfl (fun K hK => ?_) Th.AllReadyK.nil))
  refine step_of rfl ?_
  go_step
  refine (cMem (HP.out.below hbd).c).mono ?_; rintro _ w6 ⟨rfl, hw6⟩
  rw [← hw6]
  refine hK _ _ (.inr ⟨⟨wd, hbd⟩, rfl⟩) ?_
  clear hK K hw6
  (try simp only [List.getElem_toArray, List.getElem_cons_succ, List.getElem_cons_zero, Act.put, List.setIfInBounds_toArray, List.set_cons_succ, List.set_cons_zero])
  (refine Th.wpAnyK_ready (rs := [3]) (by decide +kernel) (by simp) ?_; refine (Th.AllReadyK.cons rfl (fun K hK => ?_) Th.AllReadyK.nil))
  refine step_of rfl ?_
  go_step
  refine (cPlan (HP.out.below hbd).c).mono ?_; rintro _ w6 ⟨rfl, hw6⟩
  rw [← hw6]
  refine hK _ _ (.inr ⟨⟨wd, hbd⟩, rfl⟩) ?_
  clear hK K hw6
  (try simp only [List.getElem_toArray, List.getElem_cons_succ, List.getElem_cons_zero, Act.put, List.setIfInBounds_toArray, List.set_cons_succ, List.set_cons_zero])
  (refine Th.wpAnyK_ready (rs := [10]) (by decide +kernel) (by simp) ?_; refine (Th.AllReadyK.cons rfl (fun K hK => ?_) Th.AllReadyK.nil))
  refine step_of rfl ?_
  go_step
  refine (pactive_calls _ _ _ _ _ (HP.out.below hbd).c.p0 (HP.out.below hbd).c.p1 (by omega) (by omega) (by omega) (by omega)).mono ?_; rintro _ w7 ⟨rfl, hb7⟩
  rw [thr_aI hjt]
  have hb7 := below_on hbd hb7
  refine hK _ _ (.inr ⟨⟨w7, hb7⟩, rfl⟩) ?_
  clear hK K
  (try simp only [List.getElem_toArray, List.getElem_cons_succ, List.getElem_cons_zero, Act.put, List.setIfInBounds_toArray, List.set_cons_succ, List.set_cons_zero])
  (refine Th.wpAnyK_ready (rs := [11]) (by decide +kernel) (by simp) ?_; refine (Th.AllReadyK.cons rfl (fun K hK => ?_) Th.AllReadyK.nil))
  refine step_of rfl ?_
  go_step
  refine (Mm.mload _ _ _ _ _ _ (aI j : Int) _ _ (HP.out.below hb7).c.mem a0 (by omega)).mono ?_; rintro _ w3 ⟨rfl, hm3, ho⟩
  rw [okAa hjt] at hm3
  have hli : Mm.ldI (3 + 8 * P.t + 7 * P.s) σ.f (aI j : Int) = σ.f (aI j) := by unfold Mm.ldI; rw [okAa hjt]; rfl
  rw [hli]
  obtain ⟨hp3, hk3⟩ := (HP.out.below hb7).only ho (show Mm.MemAt w3 P.mb P.mg (3 + 8 * P.t + 7 * P.s) P.C σ.f (σ.acc + 1) σ.flt by simpa using hm3)
  have HP3 := Lib.hid hp3; have HK3 := Lib.hid ((KA.of_below hb7 : KA P.B P.N w w7).trans hk3)
  refine hK _ _ (.inl rfl) ?_
  clear hK K hli hm3 ho hp3 hk3
  (try simp only [List.getElem_toArray, List.getElem_cons_succ, List.getElem_cons_zero, Act.put, List.setIfInBounds_toArray, List.set_cons_succ, List.set_cons_zero])
  (refine Th.wpAnyK_ready (rs := [13]) (by decide +kernel) (by simp) ?_; refine (Th.AllReadyK.cons rfl (fun K hK => ?_) Th.AllReadyK.nil))
  refine step_of rfl ?_
  go_step
  refine (blags_calls _ _ _ hrg.1 hrg.2).mono ?_; rintro _ w6 ⟨rfl, hw6⟩
  rw [← hw6, HHL.out]
  refine hK _ _ (.inl rfl) ?_
  clear hK K hw6
  refine Th.wpAnyK_done (by decide +kernel) ?_ _
  clear hwj HL1 hbd hb7
  have hwj1 : IntKind.u64.wrap ((j : Int) + 1) = j + 1 := by rw [IntKind.wrap_u64]; omega
  have HJW := Lib.hid (show IntKind.i64.wrap ((j : Int) + 1) = j + 1 from by rw [IntKind.wrap_i64]; omega)
  have HL3 := Lib.hid (show ∀ y : Ext w3, (Instr.loadAt 27 (.pointer (some ⟨fb, 3, none⟩))).run Try.prog y.w = .ok (.int .u64 j) y.w from fun y => by (have hc : y.w.cell? ⟨fb, 3, none⟩ = some (.int .u64 j) := (by have h5 := (HP3.out.below y.h).r hk HMM.out 1 (by omega); rw [HHR1.out.1] at h5; rw [HFB.out]; exact h5)); clear hwj1; go_simp)
  go_upto_region 8 with fail
  refine Th.wp_region_K (fun w' => ∃ y : Ext w3, w' = y.w) 9 (by decide +kernel) ?_
  generalize hwd : World.drew w3 = wd
  have hbd : Below w3.heap.size w3 wd := by rw [← hwd]; exact (Below.refl _ _).drew
  clear hwd
  (refine Th.wpAnyK_takeY (i := 0) (v := ?_) rfl (by decide +kernel) (by decide +kernel) (by decide +kernel) (by decide) (fun _ _ _ h => h) (Or.inl ⟨by rfl, ?_⟩) (.inr ⟨⟨wd, hbd⟩, rfl⟩) ?_; rotate_left; (intro w; go_simp); (try with_reducible rfl))
  (try simp only [List.getElem_toArray, List.getElem_cons_succ, List.getElem_cons_zero, Act.put, List.setIfInBounds_toArray, List.set_cons_succ, List.set_cons_zero])
  (refine Th.wpAnyK_takeY (i := 1) (v := ?_) rfl (by decide +kernel) (by decide +kernel) (by decide +kernel) (by decide) (fun _ _ _ h => h) (Or.inl ⟨by rfl, ?_⟩) (.inr ⟨⟨wd, hbd⟩, rfl⟩) ?_; rotate_left; (intro w; go_simp); (try with_reducible rfl))
  (try simp only [List.getElem_toArray, List.getElem_cons_succ, List.getElem_cons_zero, Act.put, List.setIfInBounds_toArray, List.set_cons_succ, List.set_cons_zero])
  (refine Th.wpAnyK_takeY (i := 2) (v := ?_) rfl (by decide +kernel) (by decide +kernel) (by decide +kernel) (by decide) (fun _ _ _ h => h) (Or.inl ⟨by rfl, ?_⟩) (.inr ⟨⟨wd, hbd⟩, rfl⟩) ?_; rotate_left; (intro w; go_simp); (try with_reducible rfl))
  (try simp only [List.getElem_toArray, List.getElem_cons_succ, List.getElem_cons_zero, Act.put, List.setIfInBounds_toArray, List.set_cons_succ, List.set_cons_zero])
  (refine Th.wpAnyK_takeY (i := 3) (v := ?_) rfl (by decide +kernel) (by decide +kernel) (by decide +kernel) (by decide) (fun _ _ _ h => h) (Or.inl ⟨by rfl, ?_⟩) (.inr ⟨⟨wd, hbd⟩, rfl⟩) ?_; rotate_left; (intro w; go_simp); (try with_reducible rfl))
  (try simp only [List.getElem_toArray, List.getElem_cons_succ, List.getElem_cons_zero, Act.put, List.setIfInBounds_toArray, List.set_cons_succ, List.set_cons_zero])
  (refine Th.wpAnyK_take (i := 4) (v := .int .u64 j) [5, 9] rfl (by decide +kernel) (by decide +kernel) (by decide +kernel) (by decide +kernel) (fun _ _ _ h => h) (Th.yields_loadK rfl 27 (.tmp 50) rfl rfl (by rintro _ ⟨y, rfl⟩; exact HL3.out y)) ⟨⟨wd, hbd⟩, rfl⟩ ?_)
  (try simp only [List.getElem_toArray, List.getElem_cons_succ, List.getElem_cons_zero, Act.put, List.setIfInBounds_toArray, List.set_cons_succ, List.set_cons_zero])
  (refine Th.wpAnyK_takeY (i := 5) (v := ?_) rfl (by decide +kernel) (by decide +kernel) (by decide +kernel) (by decide) (fun _ _ _ h => h) (Or.inl ⟨by rfl, ?_⟩) (.inr ⟨⟨wd, hbd⟩, rfl⟩) ?_; rotate_left; (intro w; go_simp); (try with_reducible rfl))
  (try simp only [List.getElem_toArray, List.getElem_cons_succ, List.getElem_cons_zero, Act.put, List.setIfInBounds_toArray, List.set_cons_succ, List.set_cons_zero])
  (refine Th.wpAnyK_takeY (i := 6) (v := ?_) rfl (by decide +kernel) (by decide +kernel) (by decide +kernel) (by decide) (fun _ _ _ h => h) (Or.inl ⟨by rfl, ?_⟩) (.inr ⟨⟨wd, hbd⟩, rfl⟩) ?_; rotate_left; (intro w; go_simp); (try with_reducible rfl))
  (try simp only [List.getElem_toArray, List.getElem_cons_succ, List.getElem_cons_zero, Act.put, List.setIfInBounds_toArray, List.set_cons_succ, List.set_cons_zero])
  (refine Th.wpAnyK_takeY (i := 7) (v := ?_) rfl (by decide +kernel) (by decide +kernel) (by decide +kernel) (by decide) (fun _ _ _ h => h) (Or.inl ⟨by rfl, ?_⟩) (.inr ⟨⟨wd, hbd⟩, rfl⟩) ?_; rotate_left; (intro w; go_simp); (try with_reducible rfl))
  (try simp only [List.getElem_toArray, List.getElem_cons_succ, List.getElem_cons_zero, Act.put, List.setIfInBounds_toArray, List.set_cons_succ, List.set_cons_zero])
  (refine Th.wpAnyK_takeY (i := 8) (v := ?_) rfl (by decide +kernel) (by decide +kernel) (by decide +kernel) (by decide) (fun _ _ _ h => h) (Or.inl ⟨by rfl, ?_⟩) (.inr ⟨⟨wd, hbd⟩, rfl⟩) ?_; rotate_left; (intro w; go_simp); (try with_reducible rfl))
  (try simp only [List.getElem_toArray, List.getElem_cons_succ, List.getElem_cons_zero, Act.put, List.setIfInBounds_toArray, List.set_cons_succ, List.set_cons_zero])
  have HP4 := Lib.hid (HP3.out.below hbd); have HK4 := Lib.hid (HK3.out.trans (KA.of_below hbd))
  have r3 : wd.cell? ⟨fb, 3, none⟩ = some (.int .u64 j) := by (have h5 := HP4.out.r hk HMM.out 1 (by omega); rw [HHR1.out.1] at h5; rw [HFB.out]; exact h5)
  have rf : ∀ i, wd.frozen? ⟨fb, i, none⟩ = false := fun i => by rw [HFB.out]; exact HP4.out.fr hk HMM.out i
  (refine Th.wpAnyK_ready (rs := [9]) (by decide +kernel) (by simp) ?_; refine (Th.AllReadyK.cons rfl (fun K hK => ?_) Th.AllReadyK.nil))
  refine step_of rfl ?_
  go_step
  refine hK _ _ (.inl rfl) ?_
  clear hK K
  refine Th.wpAnyK_done (by decide +kernel) ?_ _
  clear r3 rf hwj1 hbd HL3 HP3 HK3
  generalize hW : World.setCell _ _ _ = W
  obtain ⟨hp4, hk4⟩ : MP W P _ ps fvs ∧ KA P.B P.N wd W := by rw [← hW, HFB.out]; exact HP4.out.setR hk HMM.out 1 ((j : Int) + 1)
  have HP5 := Lib.hid hp4; have HK5 := Lib.hid (HK4.out.trans hk4)
  clear hW hp4 hk4 HP4 HK4
  have HL4 := Lib.hid (show ∀ y : Ext W, (Instr.loadAt 27 (.pointer (some ⟨fb, 3, none⟩))).run Try.prog y.w = .ok (.int .u64 ((j : Int) + 1)) y.w from fun y => by (have hc : y.w.cell? ⟨fb, 3, none⟩ = some (.int .u64 ((j : Int) + 1)) := (by have h5 := (HP5.out.below y.h).r hk (m := m) (by rw [Sg.thr_at]; exact HMM.out) 1 (by omega); rw [Sg.thr_at, setF_fs] at h5; rw [HFB.out]; exact h5)); go_simp)
  have hwj2 := HJW.out
  go_upto_region 9 with fail
  refine Th.wp_region_K (fun w' => ∃ y : Ext W, w' = y.w) 8 (by decide +kernel) ?_
  generalize hwd : World.drew W = we
  have hbe : Below W.heap.size W we := by rw [← hwd]; exact (Below.refl _ _).drew
  clear hwd
  (refine Th.wpAnyK_takeY (i := 0) (v := ?_) rfl (by decide +kernel) (by decide +kernel) (by decide +kernel) (by decide) (fun _ _ _ h => h) (Or.inl ⟨by rfl, ?_⟩) (.inr ⟨⟨we, hbe⟩, rfl⟩) ?_; rotate_left; (intro w; go_simp); (try with_reducible rfl))
  (try simp only [List.getElem_toArray, List.getElem_cons_succ, List.getElem_cons_zero, Act.put, List.setIfInBounds_toArray, List.set_cons_succ, List.set_cons_zero])
  (refine Th.wpAnyK_takeY (i := 1) (v := ?_) rfl (by decide +kernel) (by decide +kernel) (by decide +kernel) (by decide) (fun _ _ _ h => h) (Or.inl ⟨by rfl, ?_⟩) (.inr ⟨⟨we, hbe⟩, rfl⟩) ?_; rotate_left; (intro w; go_simp); (try with_reducible rfl))
  (try simp only [List.getElem_toArray, List.getElem_cons_succ, List.getElem_cons_zero, Act.put, List.setIfInBounds_toArray, List.set_cons_succ, List.set_cons_zero])
  (refine Th.wpAnyK_takeY (i := 2) (v := ?_) rfl (by decide +kernel) (by decide +kernel) (by decide +kernel) (by decide) (fun _ _ _ h => h) (Or.inl ⟨by rfl, ?_⟩) (.inr ⟨⟨we, hbe⟩, rfl⟩) ?_; rotate_left; (intro w; go_simp); (try with_reducible rfl))
  (try simp only [List.getElem_toArray, List.getElem_cons_succ, List.getElem_cons_zero, Act.put, List.setIfInBounds_toArray, List.set_cons_succ, List.set_cons_zero])
  (refine Th.wpAnyK_takeY (i := 3) (v := ?_) rfl (by decide +kernel) (by decide +kernel) (by decide +kernel) (by decide) (fun _ _ _ h => h) (Or.inl ⟨by rfl, ?_⟩) (.inr ⟨⟨we, hbe⟩, rfl⟩) ?_; rotate_left; (intro w; go_simp); (try with_reducible rfl))
  (try simp only [List.getElem_toArray, List.getElem_cons_succ, List.getElem_cons_zero, Act.put, List.setIfInBounds_toArray, List.set_cons_succ, List.set_cons_zero])
  (refine Th.wpAnyK_take (i := 4) (v := .int .u64 ((j : Int) + 1)) [5, 8] rfl (by decide +kernel) (by decide +kernel) (by decide +kernel) (by decide +kernel) (fun _ _ _ h => h) (Th.yields_loadK rfl 27 (.tmp 59) rfl rfl (by rintro _ ⟨y, rfl⟩; exact HL4.out y)) ⟨⟨we, hbe⟩, rfl⟩ ?_)
  (try simp only [List.getElem_toArray, List.getElem_cons_succ, List.getElem_cons_zero, Act.put, List.setIfInBounds_toArray, List.set_cons_succ, List.set_cons_zero])
  (refine Th.wpAnyK_takeY (i := 5) (v := ?_) rfl (by decide +kernel) (by decide +kernel) (by decide +kernel) (by decide) (fun _ _ _ h => h) (Or.inl ⟨by rfl, ?_⟩) (.inr ⟨⟨we, hbe⟩, rfl⟩) ?_; rotate_left; (intro w; go_simp); (try with_reducible rfl))
  (try simp only [List.getElem_toArray, List.getElem_cons_succ, List.getElem_cons_zero, Act.put, List.setIfInBounds_toArray, List.set_cons_succ, List.set_cons_zero])
  (refine Th.wpAnyK_takeY (i := 6) (v := ?_) rfl (by decide +kernel) (by decide +kernel) (by decide +kernel) (by decide) (fun _ _ _ h => h) (Or.inl ⟨by rfl, ?_⟩) (.inr ⟨⟨we, hbe⟩, rfl⟩) ?_; rotate_left; (intro w; go_simp); (try with_reducible rfl))
  (try simp only [List.getElem_toArray, List.getElem_cons_succ, List.getElem_cons_zero, Act.put, List.setIfInBounds_toArray, List.set_cons_succ, List.set_cons_zero])
  (refine Th.wpAnyK_ready (rs := [7]) (by decide +kernel) (by simp) ?_; refine (Th.AllReadyK.cons rfl (fun K hK => ?_) Th.AllReadyK.nil))
  refine step_of rfl ?_
  go_step
  refine (cThreads (HP5.out.below hbe).c).mono ?_; rintro _ w6 ⟨rfl, hw6⟩
  rw [← hw6]
  refine hK _ _ (.inr ⟨⟨we, hbe⟩, rfl⟩) ?_
  clear hK K hw6
  (try simp only [List.getElem_toArray, List.getElem_cons_succ, List.getElem_cons_zero, Act.put, List.setIfInBounds_toArray, List.set_cons_succ, List.set_cons_zero])
  (refine Th.wpAnyK_ready (rs := [8]) (by decide +kernel) (by simp) ?_; refine (Th.AllReadyK.cons rfl (fun K hK => ?_) Th.AllReadyK.nil))
  refine step_of rfl ?_
  go_step
  refine hK _ _ (.inl rfl) ?_
  clear hK K
  refine Th.wpAnyK_done (by decide +kernel) ?_ _
  have HP6 := Lib.hid (HP5.out.below hbe); have HK6 := Lib.hid (HK5.out.trans (KA.of_below hbe))
  clear HL4 hbe hwj2 HP5 HK5
  have hjq : ((j : Int) + 1 == P.t) = true := by have := HHZ.out; simp; omega
  have f1 : we.cell? ⟨fb, 1, none⟩ = some (.int .i64 1) := by rw [HFB.out, HP6.out.pc hk (by rw [Sg.thr_at]; exact HMM.out), Sg.thr_at, setF_fs]; exact congrArg _ (congrArg _ HPC.out)
  have rf : ∀ i, we.frozen? ⟨fb, i, none⟩ = false := fun i => by rw [HFB.out]; exact HP6.out.fr hk (by rw [Sg.thr_at]; exact HMM.out) i
  go_wp2_with fail
  clear f1 rf
  generalize hW : World.setCell _ _ _ = V
  obtain ⟨hp5, hk5⟩ : MP V P _ ps fvs ∧ KA P.B P.N we V := by rw [← hW, HFB.out]; exact HP6.out.setPC hk (by rw [Sg.thr_at]; exact HMM.out) 2
  rw [Sg.thr_at, setF_fs, setF_setF, Sg.thr_thr] at hp5
  have HP7 := Lib.hid (show MP V P (adv1eS k m σ) ps fvs from by unfold adv1eS; rw [HHR1.out.1]; exact hp5); have HK7 := Lib.hid (HK6.out.trans hk5)
  clear hW hp5 hk5 HP6 HK6
  first | (refine bodyPost_end (v := .tuple #[]) (by simp [results, Try.results33, go_sem]) rfl ?_) | (refine bodyPost_ret (v := .tuple #[]) (by simp [results, Try.results33, go_sem]) rfl ?_)
  rw [HQ.out]
  exact ⟨rfl, HP7.out.mm, HK7.out⟩
end Go.Proofs.Ytjpkmkaiojnhgaa

/- Layer 18: steps of Enter, Leave, Advance. -/
namespace Go.Proofs.Ytjpkmkaiojnhgaa
open Go.RowKit WordM EdgeM
set_option linter.unusedVariables false
set_option linter.unusedSimpArgs false
set_option maxRecDepth 8000 in
set_option maxHeartbeats 2000000 in
theorem adv2y {w : World} {P : Pc} {σ : Sg} {ps : Nat → Nat → Nat} {fvs : Nat → Value} (h : MP w P σ ps fvs) {k m : Nat} (hk : k < P.t) (hm : (σ.Ts k).nf = m + 1) (hN : m ≤ 1000) (a0 : 0 ≤ σ.acc) (a1 : σ.acc < 1000000) (hpc : ((σ.Ts k).fs m).pc = 2) (hr : 0 ≤ ((σ.Ts k).fs m).r 0 ∧ ((σ.Ts k).fs m).r 0 < 18446744073709551615) (hz : (σ.f 1 == ((σ.Ts k).fs m).r 0) = true) :
    Calls Try.prog 33 #[.pointer (some ⟨P.q, 0, none⟩), .pointer (some ⟨P.tq k, 0, none⟩), .pointer (some ⟨ps k m, 0, none⟩)] w fun x w' => x = .returned (.tuple #[]) ∧ MM w' P (adv2yS k m σ) ∧ KA P.B P.N w w' := by
  refine Calls.veil fun Q HQ => ?_
  have HP := Lib.hid h
  have hmm : m < (σ.Ts k).nf := by omega
  have HMM := Lib.hid hmm; have HM := Lib.hid hm
  have hbb := h.mm.bd
  have HPC := Lib.hid hpc
  obtain ⟨fb, hfb⟩ : ∃ fb, fb = ps k m := ⟨_, rfl⟩
  have HFB := Lib.hid hfb
  rw [← hfb]
  have f1 : w.cell? ⟨fb, 1, none⟩ = some (.int .i64 2) := by rw [hfb, h.pc hk hmm, hpc]
  have f2 : w.cell? ⟨fb, 2, none⟩ = some (.int .u64 (((σ.Ts k).fs m).r 0)) := by rw [hfb]; exact h.r hk hmm 0 (by omega)
  have HHR := Lib.hid hr
  have HHZ := Lib.hid hz
  clear h hmm hm hfb hpc
  clear hr
  clear hz
  go_enter Try.func33, Try.ntmps33
  obtain ⟨r0, hr0⟩ : ∃ r0, r0 = ((σ.Ts k).fs m).r 0 := ⟨_, rfl⟩
  have HRE := Lib.hid hr0
  rw [← hr0] at f2
  have HR0 := Lib.hid (show 0 ≤ r0 ∧ r0 < 18446744073709551615 by rw [hr0]; exact HHR.out)
  have HZ0 := Lib.hid (show (σ.f 1 == r0) = true by rw [hr0]; exact HHZ.out)
  have hwr : IntKind.u64.wrap (r0 + 1) = r0 + 1 := by have := HR0.out; rw [IntKind.wrap_u64]; omega
  clear hr0
  go_wp2_with fail
  refine (cMem HP.out.c).mono ?_; rintro _ _ ⟨rfl, rfl⟩
  go_wp2_with fail
  refine (Mm.mcas _ _ _ _ _ _ 1 r0 (r0 + 1) _ _ HP.out.c.mem a0 (by omega) (by have := HR0.out; omega) (by have := HR0.out; omega)).mono ?_; rintro _ w3 ⟨rfl, hm3, ho⟩
  rw [okA1 _ (by omega)] at hm3 ⊢
  simp only [Bool.true_and, Bool.not_true, Bool.or_false] at hm3 ⊢
  clear f1 f2 hwr
  have hz0 := HZ0.out
  (try rw [show (σ.f (1 : Int).toNat == r0) = true from hz0] at hm3)
  (try rw [show (σ.f (Int.toNat 1) == r0) = true from hz0])
  (try rw [hz0] at hm3)
  (try rw [hz0])
  (try rw [if_pos rfl] at hm3)
  obtain ⟨hp3, hk3⟩ := HP.out.only ho (show Mm.MemAt w3 P.mb P.mg (3 + 8 * P.t + 7 * P.s) P.C (Mm.upd σ.f 1 (r0 + 1)) (σ.acc + 1) σ.flt from hm3)
  rw [HRE.out] at hp3
  have HP3 := Lib.hid hp3; have HK3 := Lib.hid hk3
  clear hm3 ho hp3 hk3 hz0
  go_wp2_with fail
  generalize hY : World.alloc _ _ = V2
  obtain ⟨hy, hby⟩ := Th.heapnewE hY
  obtain ⟨sb, hsb⟩ : ∃ sb, sb = w3.heap.size := ⟨_, rfl⟩
  rw [← hsb] at hy ⊢
  have HP8 := Lib.hid (HP3.out.below hby); have HK8 := Lib.hid (HK3.out.trans (KA.of_below hby))
  have hur := ur_one hy
  clear hY hy hby hsb HP3 HK3
  refine (HP8.out.back hk (hur) (by have := HM.out; show (σ.Ts k).nf ≤ _; omega)).mono ?_; rintro _ w9 ⟨rfl, hm9, hk9⟩
  have HM9 := Lib.hid hm9; have HK9 := Lib.hid (HK8.out.trans hk9)
  clear hm9 hk9
  go_wp2_with fail
  first | (refine bodyPost_end (v := .tuple #[]) (by simp [results, Try.results33, go_sem]) rfl ?_) | (refine bodyPost_ret (v := .tuple #[]) (by simp [results, Try.results33, go_sem]) rfl ?_)
  rw [HQ.out]
  exact ⟨rfl, HM9.out, HK9.out⟩
set_option maxRecDepth 8000 in
set_option maxHeartbeats 2000000 in
theorem adv2n {w : World} {P : Pc} {σ : Sg} {ps : Nat → Nat → Nat} {fvs : Nat → Value} (h : MP w P σ ps fvs) {k m : Nat} (hk : k < P.t) (hm : (σ.Ts k).nf = m + 1) (hN : m ≤ 1000) (a0 : 0 ≤ σ.acc) (a1 : σ.acc < 1000000) (hpc : ((σ.Ts k).fs m).pc = 2) (hr : 0 ≤ ((σ.Ts k).fs m).r 0 ∧ ((σ.Ts k).fs m).r 0 < 18446744073709551615) (hz : (σ.f 1 == ((σ.Ts k).fs m).r 0) = false) :
    Calls Try.prog 33 #[.pointer (some ⟨P.q, 0, none⟩), .pointer (some ⟨P.tq k, 0, none⟩), .pointer (some ⟨ps k m, 0, none⟩)] w fun x w' => x = .returned (.tuple #[]) ∧ MM w' P (backAS k 0 σ) ∧ KA P.B P.N w w' := by
  refine Calls.veil fun Q HQ => ?_
  have HP := Lib.hid h
  have hmm : m < (σ.Ts k).nf := by omega
  have HMM := Lib.hid hmm; have HM := Lib.hid hm
  have hbb := h.mm.bd
  have HPC := Lib.hid hpc
  obtain ⟨fb, hfb⟩ : ∃ fb, fb = ps k m := ⟨_, rfl⟩
  have HFB := Lib.hid hfb
  rw [← hfb]
  have f1 : w.cell? ⟨fb, 1, none⟩ = some (.int .i64 2) := by rw [hfb, h.pc hk hmm, hpc]
  have f2 : w.cell? ⟨fb, 2, none⟩ = some (.int .u64 (((σ.Ts k).fs m).r 0)) := by rw [hfb]; exact h.r hk hmm 0 (by omega)
  have HHR := Lib.hid hr
  have HHZ := Lib.hid hz
  clear h hmm hm hfb hpc
  clear hr
  clear hz
  go_enter Try.func33, Try.ntmps33
  obtain ⟨r0, hr0⟩ : ∃ r0, r0 = ((σ.Ts k).fs m).r 0 := ⟨_, rfl⟩
  have HRE := Lib.hid hr0
  rw [← hr0] at f2
  have HR0 := Lib.hid (show 0 ≤ r0 ∧ r0 < 18446744073709551615 by rw [hr0]; exact HHR.out)
  have HZ0 := Lib.hid (show (σ.f 1 == r0) = false by rw [hr0]; exact HHZ.out)
  have hwr : IntKind.u64.wrap (r0 + 1) = r0 + 1 := by have := HR0.out; rw [IntKind.wrap_u64]; omega
  clear hr0
  go_wp2_with fail
  refine (cMem HP.out.c).mono ?_; rintro _ _ ⟨rfl, rfl⟩
  go_wp2_with fail
  refine (Mm.mcas _ _ _ _ _ _ 1 r0 (r0 + 1) _ _ HP.out.c.mem a0 (by omega) (by have := HR0.out; omega) (by have := HR0.out; omega)).mono ?_; rintro _ w3 ⟨rfl, hm3, ho⟩
  rw [okA1 _ (by omega)] at hm3 ⊢
  simp only [Bool.true_and, Bool.not_true, Bool.or_false] at hm3 ⊢
  clear f1 f2 hwr
  have hz0 := HZ0.out
  (try rw [show (σ.f (1 : Int).toNat == r0) = false from hz0] at hm3)
  (try rw [show (σ.f (Int.toNat 1) == r0) = false from hz0])
  (try rw [hz0] at hm3)
  (try rw [hz0])
  (try rw [if_neg (by decide)] at hm3)
  obtain ⟨hp3, hk3⟩ := HP.out.only ho (show Mm.MemAt w3 P.mb P.mg (3 + 8 * P.t + 7 * P.s) P.C σ.f (σ.acc + 1) σ.flt from hm3)
  have HP3 := Lib.hid hp3; have HK3 := Lib.hid hk3
  clear hm3 ho hp3 hk3 hz0
  go_wp2_with fail
  generalize hY : World.alloc _ _ = V2
  obtain ⟨hy, hby⟩ := Th.heapnewE hY
  obtain ⟨sb, hsb⟩ : ∃ sb, sb = w3.heap.size := ⟨_, rfl⟩
  rw [← hsb] at hy ⊢
  have HP8 := Lib.hid (HP3.out.below hby); have HK8 := Lib.hid (HK3.out.trans (KA.of_below hby))
  have hur := ur_one hy
  clear hY hy hby hsb HP3 HK3
  refine (HP8.out.back hk (hur) (by have := HM.out; show (σ.Ts k).nf ≤ _; omega)).mono ?_; rintro _ w9 ⟨rfl, hm9, hk9⟩
  have HM9 := Lib.hid hm9; have HK9 := Lib.hid (HK8.out.trans hk9)
  clear hm9 hk9
  go_wp2_with fail
  first | (refine bodyPost_end (v := .tuple #[]) (by simp [results, Try.results33, go_sem]) rfl ?_) | (refine bodyPost_ret (v := .tuple #[]) (by simp [results, Try.results33, go_sem]) rfl ?_)
  rw [HQ.out]
  exact ⟨rfl, HM9.out, HK9.out⟩
end Go.Proofs.Ytjpkmkaiojnhgaa

/- Layer 18: all steps. -/
namespace Go.Proofs.Ytjpkmkaiojnhgaa
end Go.Proofs.Ytjpkmkaiojnhgaa
