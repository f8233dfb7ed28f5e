/- GAS: several texts in one. -/
import Derived.Test.YtaaciolfgplnoaaGAQ
import Derived.Test.YtaaciolfgplnoaaEpoG
import Derived.Test.YtaaciolfgplnoaaGAC
import Derived.Test.YtaaciolfgplnoaaGAN
import Derived.Test.YtaaciolfgplnoaaGAD
import Derived.Test.YtaaciolfgplnoaaGAJ
/- Layer 18: steps of Enter, Leave, Advance. -/
namespace Go.Proofs.Ytaaciolfgplnoaa
open Go.RowKit WordM EdgeM
set_option linter.unusedVariables false
set_option linter.unusedSimpArgs false
set_option maxRecDepth 8000 in
set_option maxHeartbeats 2000000 in
theorem adv2y {w : World} {P : Pc} {σ : Sg} {ps : Nat → Nat → Nat} {fvs : Nat → Value} (h : MP w P σ ps fvs) {k m : Nat} (hk : k < P.t) (hm : (σ.Ts k).nf = m + 1) (hN : m ≤ 1000) (a0 : 0 ≤ σ.acc) (a1 : σ.acc < 1000000) (hpc : ((σ.Ts k).fs m).pc = 2) (hr : 0 ≤ ((σ.Ts k).fs m).r 0 ∧ ((σ.Ts k).fs m).r 0 < 18446744073709551615) (hz : (σ.f 1 == ((σ.Ts k).fs m).r 0) = true) :
    Calls Try.prog 67 #[.pointer (some ⟨P.q, 0, none⟩), .pointer (some ⟨P.tq k, 0, none⟩), .pointer (some ⟨ps k m, 0, none⟩)] w fun x w' => x = .returned (.tuple #[]) ∧ MM w' P (adv2yS k m σ) ∧ KA P.B P.N w w' := by
  refine Calls.veil fun Q HQ => ?_
  have HP := Lib.hid h
  have hmm : m < (σ.Ts k).nf := by omega
  have HMM := Lib.hid hmm; have HM := Lib.hid hm
  have hbb := h.mm.bd
  have HPC := Lib.hid hpc
  obtain ⟨fb, hfb⟩ : ∃ fb, fb = ps k m := ⟨_, rfl⟩
  have HFB := Lib.hid hfb
  rw [← hfb]
  have f1 : w.cell? ⟨fb, 1, none⟩ = some (.int .i64 2) := by rw [hfb, h.pc hk hmm, hpc]
  have f2 : w.cell? ⟨fb, 2, none⟩ = some (.int .u64 (((σ.Ts k).fs m).r 0)) := by rw [hfb]; exact h.r hk hmm 0 (by omega)
  have HHR := Lib.hid hr
  have HHZ := Lib.hid hz
  clear h hmm hm hfb hpc
  clear hr
  clear hz
  go_enter Try.func67, Try.ntmps67
  obtain ⟨r0, hr0⟩ : ∃ r0, r0 = ((σ.Ts k).fs m).r 0 := ⟨_, rfl⟩
  have HRE := Lib.hid hr0
  rw [← hr0] at f2
  have HR0 := Lib.hid (show 0 ≤ r0 ∧ r0 < 18446744073709551615 by rw [hr0]; exact HHR.out)
  have HZ0 := Lib.hid (show (σ.f 1 == r0) = true by rw [hr0]; exact HHZ.out)
  have hwr : IntKind.u64.wrap (r0 + 1) = r0 + 1 := by have := HR0.out; rw [IntKind.wrap_u64]; omega
  clear hr0
  go_wp2_with fail
  refine (cMem HP.out.c).mono ?_; rintro _ _ ⟨rfl, rfl⟩
  go_wp2_with fail
  refine (Mm.mcas _ _ _ _ _ _ 1 r0 (r0 + 1) _ _ HP.out.c.mem a0 (by omega) (by have := HR0.out; omega) (by have := HR0.out; omega)).mono ?_; rintro _ w3 ⟨rfl, hm3, ho⟩
  rw [okA1 _ (by omega)] at hm3 ⊢
  simp only [Bool.true_and, Bool.not_true, Bool.or_false] at hm3 ⊢
  clear f1 f2 hwr
  have hz0 := HZ0.out
  (try rw [show (σ.f (1 : Int).toNat == r0) = true from hz0] at hm3)
  (try rw [show (σ.f (Int.toNat 1) == r0) = true from hz0])
  (try rw [hz0] at hm3)
  (try rw [hz0])
  (try rw [if_pos rfl] at hm3)
  obtain ⟨hp3, hk3⟩ := HP.out.only ho (show Mm.MemAt w3 P.mb P.mg (3 + 8 * P.t + 7 * P.s) P.C (Mm.upd σ.f 1 (r0 + 1)) (σ.acc + 1) σ.flt from hm3)
  rw [HRE.out] at hp3
  have HP3 := Lib.hid hp3; have HK3 := Lib.hid hk3
  clear hm3 ho hp3 hk3 hz0
  go_wp2_with fail
  generalize hY : World.alloc _ _ = V2
  obtain ⟨hy, hby⟩ := Th.heapnewE hY
  obtain ⟨sb, hsb⟩ : ∃ sb, sb = w3.heap.size := ⟨_, rfl⟩
  rw [← hsb] at hy ⊢
  have HP8 := Lib.hid (HP3.out.below hby); have HK8 := Lib.hid (HK3.out.trans (KA.of_below hby))
  have hur := ur_one hy
  clear hY hy hby hsb HP3 HK3
  refine (HP8.out.back hk (hur) (by have := HM.out; show (σ.Ts k).nf ≤ _; omega)).mono ?_; rintro _ w9 ⟨rfl, hm9, hk9⟩
  have HM9 := Lib.hid hm9; have HK9 := Lib.hid (HK8.out.trans hk9)
  clear hm9 hk9
  go_wp2_with fail
  first | (refine bodyPost_end (v := .tuple #[]) (by simp [results, Try.results67, go_sem]) rfl ?_) | (refine bodyPost_ret (v := .tuple #[]) (by simp [results, Try.results67, go_sem]) rfl ?_)
  rw [HQ.out]
  exact ⟨rfl, HM9.out, HK9.out⟩
set_option maxRecDepth 8000 in
set_option maxHeartbeats 2000000 in
theorem adv2n {w : World} {P : Pc} {σ : Sg} {ps : Nat → Nat → Nat} {fvs : Nat → Value} (h : MP w P σ ps fvs) {k m : Nat} (hk : k < P.t) (hm : (σ.Ts k).nf = m + 1) (hN : m ≤ 1000) (a0 : 0 ≤ σ.acc) (a1 : σ.acc < 1000000) (hpc : ((σ.Ts k).fs m).pc = 2) (hr : 0 ≤ ((σ.Ts k).fs m).r 0 ∧ ((σ.Ts k).fs m).r 0 < 18446744073709551615) (hz : (σ.f 1 == ((σ.Ts k).fs m).r 0) = false) :
    Calls Try.prog 67 #[.pointer (some ⟨P.q, 0, none⟩), .pointer (some ⟨P.tq k, 0, none⟩), .pointer (some ⟨ps k m, 0, none⟩)] w fun x w' => x = .returned (.tuple #[]) ∧ MM w' P (backAS k 0 σ) ∧ KA P.B P.N w w' := by
  refine Calls.veil fun Q HQ => ?_
  have HP := Lib.hid h
  have hmm : m < (σ.Ts k).nf := by omega
  have HMM := Lib.hid hmm; have HM := Lib.hid hm
  have hbb := h.mm.bd
  have HPC := Lib.hid hpc
  obtain ⟨fb, hfb⟩ : ∃ fb, fb = ps k m := ⟨_, rfl⟩
  have HFB := Lib.hid hfb
  rw [← hfb]
  have f1 : w.cell? ⟨fb, 1, none⟩ = some (.int .i64 2) := by rw [hfb, h.pc hk hmm, hpc]
  have f2 : w.cell? ⟨fb, 2, none⟩ = some (.int .u64 (((σ.Ts k).fs m).r 0)) := by rw [hfb]; exact h.r hk hmm 0 (by omega)
  have HHR := Lib.hid hr
  have HHZ := Lib.hid hz
  clear h hmm hm hfb hpc
  clear hr
  clear hz
  go_enter Try.func67, Try.ntmps67
  obtain ⟨r0, hr0⟩ : ∃ r0, r0 = ((σ.Ts k).fs m).r 0 := ⟨_, rfl⟩
  have HRE := Lib.hid hr0
  rw [← hr0] at f2
  have HR0 := Lib.hid (show 0 ≤ r0 ∧ r0 < 18446744073709551615 by rw [hr0]; exact HHR.out)
  have HZ0 := Lib.hid (show (σ.f 1 == r0) = false by rw [hr0]; exact HHZ.out)
  have hwr : IntKind.u64.wrap (r0 + 1) = r0 + 1 := by have := HR0.out; rw [IntKind.wrap_u64]; omega
  clear hr0
  go_wp2_with fail
  refine (cMem HP.out.c).mono ?_; rintro _ _ ⟨rfl, rfl⟩
  go_wp2_with fail
  refine (Mm.mcas _ _ _ _ _ _ 1 r0 (r0 + 1) _ _ HP.out.c.mem a0 (by omega) (by have := HR0.out; omega) (by have := HR0.out; omega)).mono ?_; rintro _ w3 ⟨rfl, hm3, ho⟩
  rw [okA1 _ (by omega)] at hm3 ⊢
  simp only [Bool.true_and, Bool.not_true, Bool.or_false] at hm3 ⊢
  clear f1 f2 hwr
  have hz0 := HZ0.out
  (try rw [show (σ.f (1 : Int).toNat == r0) = false from hz0] at hm3)
  (try rw [show (σ.f (Int.toNat 1) == r0) = false from hz0])
  (try rw [hz0] at hm3)
  (try rw [hz0])
  (try rw [if_neg (by decide)] at hm3)
  obtain ⟨hp3, hk3⟩ := HP.out.only ho (show Mm.MemAt w3 P.mb P.mg (3 + 8 * P.t + 7 * P.s) P.C σ.f (σ.acc + 1) σ.flt from hm3)
  have HP3 := Lib.hid hp3; have HK3 := Lib.hid hk3
  clear hm3 ho hp3 hk3 hz0
  go_wp2_with fail
  generalize hY : World.alloc _ _ = V2
  obtain ⟨hy, hby⟩ := Th.heapnewE hY
  obtain ⟨sb, hsb⟩ : ∃ sb, sb = w3.heap.size := ⟨_, rfl⟩
  rw [← hsb] at hy ⊢
  have HP8 := Lib.hid (HP3.out.below hby); have HK8 := Lib.hid (HK3.out.trans (KA.of_below hby))
  have hur := ur_one hy
  clear hY hy hby hsb HP3 HK3
  refine (HP8.out.back hk (hur) (by have := HM.out; show (σ.Ts k).nf ≤ _; omega)).mono ?_; rintro _ w9 ⟨rfl, hm9, hk9⟩
  have HM9 := Lib.hid hm9; have HK9 := Lib.hid (HK8.out.trans hk9)
  clear hm9 hk9
  go_wp2_with fail
  first | (refine bodyPost_end (v := .tuple #[]) (by simp [results, Try.results67, go_sem]) rfl ?_) | (refine bodyPost_ret (v := .tuple #[]) (by simp [results, Try.results67, go_sem]) rfl ?_)
  rw [HQ.out]
  exact ⟨rfl, HM9.out, HK9.out⟩
end Go.Proofs.Ytaaciolfgplnoaa

/- Layer 18: all steps. -/
namespace Go.Proofs.Ytaaciolfgplnoaa
end Go.Proofs.Ytaaciolfgplnoaa

/- Layer 18: Do; Enter, Leave and Advance, alone. -/
namespace Go.Proofs.Ytaaciolfgplnoaa
open Go.RowKit WordM EdgeM
set_option linter.unusedVariables false
set_option linter.unusedSimpArgs false
set_option maxRecDepth 8000 in
set_option maxHeartbeats 2000000 in
theorem edoE {w : World} {P : Pc} {σ σ' : Sg} (h : MM w P σ) {k m : Nat} (hk : k < P.t) (hm : (σ.Ts k).nf = m + 1) (hN : m ≤ 1000) (hfn : ((σ.Ts k).fs m).fn = 10)
    (hst : ∀ w' ps fvs, MP w' P σ ps fvs → Calls Try.prog 65 #[.pointer (some ⟨P.q, 0, none⟩), .int .i64 k, .pointer (some ⟨P.tq k, 0, none⟩), .pointer (some ⟨ps k m, 0, none⟩)] w' fun x w'' => x = .returned (.tuple #[]) ∧ MM w'' P σ' ∧ KA P.B P.N w' w'') :
    Calls Try.prog 36 #[.pointer (some ⟨P.q, 0, none⟩), .int .i64 k] w fun x w' => x = .returned (.tuple #[]) ∧ MM w' P σ' ∧ KA P.B P.N w w' := by
  refine Calls.veil fun Q HQ => ?_
  obtain ⟨ps, fvs, hp⟩ := h.mp
  have HP := Lib.hid hp
  have hmm : m < (σ.Ts k).nf := by omega
  have HMM := Lib.hid hmm; have HM := Lib.hid hm; have HFN := Lib.hid hfn; have HS := Lib.hid hst
  clear h hp hmm hm hfn hst
  go_enter Try.func36, Try.ntmps36
  go_wp2_with fail
  refine (cThread_yes HP.out.c k hk).mono ?_; rintro _ w1 ⟨rfl, hb1⟩
  have HP1 := Lib.hid (HP.out.below hb1); have HB1 := Lib.hid hb1
  clear hb1
  go_wp2_with fail
  refine (HP1.out.top hk HM.out (by omega)).mono ?_; rintro _ w2 ⟨rfl, hb2⟩
  have HP2 := Lib.hid (HP1.out.below hb2); have HK2 := Lib.hid (KA.of_below (below_on HB1.out hb2) : KA P.B P.N w w2)
  clear hb2 HP1 HB1
  obtain ⟨fb, hfb⟩ : ∃ fb, fb = ps k m := ⟨_, rfl⟩
  have HFB := Lib.hid hfb
  rw [← hfb]
  clear hfb
  have f0 : w2.cell? ⟨fb, 0, none⟩ = some (.int .i64 10) := by rw [HFB.out, HP2.out.fn hk HMM.out, HFN.out]
  go_wp2_with fail
  clear f0
  (try rw [HFB.out])
  refine (HS.out w2 ps fvs HP2.out).mono ?_; rintro _ w3 ⟨rfl, hm3, hk3⟩
  have HM3 := Lib.hid hm3; have HK3 := Lib.hid (HK2.out.trans hk3)
  clear hm3 hk3 HP2 HK2
  go_wp2_with fail
  first | (refine bodyPost_end (v := .tuple #[]) (by simp [results, Try.results36, go_sem]) rfl ?_) | (refine bodyPost_ret (v := .tuple #[]) (by simp [results, Try.results36, go_sem]) rfl ?_)
  rw [HQ.out]
  exact ⟨rfl, HM3.out, HK3.out⟩
set_option maxRecDepth 8000 in
set_option maxHeartbeats 2000000 in
theorem edoA {w : World} {P : Pc} {σ σ' : Sg} (h : MM w P σ) {k m : Nat} (hk : k < P.t) (hm : (σ.Ts k).nf = m + 1) (hN : m ≤ 1000) (hfn : ((σ.Ts k).fs m).fn = 12)
    (hst : ∀ w' ps fvs, MP w' P σ ps fvs → Calls Try.prog 67 #[.pointer (some ⟨P.q, 0, none⟩), .pointer (some ⟨P.tq k, 0, none⟩), .pointer (some ⟨ps k m, 0, none⟩)] w' fun x w'' => x = .returned (.tuple #[]) ∧ MM w'' P σ' ∧ KA P.B P.N w' w'') :
    Calls Try.prog 36 #[.pointer (some ⟨P.q, 0, none⟩), .int .i64 k] w fun x w' => x = .returned (.tuple #[]) ∧ MM w' P σ' ∧ KA P.B P.N w w' := by
  refine Calls.veil fun Q HQ => ?_
  obtain ⟨ps, fvs, hp⟩ := h.mp
  have HP := Lib.hid hp
  have hmm : m < (σ.Ts k).nf := by omega
  have HMM := Lib.hid hmm; have HM := Lib.hid hm; have HFN := Lib.hid hfn; have HS := Lib.hid hst
  clear h hp hmm hm hfn hst
  go_enter Try.func36, Try.ntmps36
  go_wp2_with fail
  refine (cThread_yes HP.out.c k hk).mono ?_; rintro _ w1 ⟨rfl, hb1⟩
  have HP1 := Lib.hid (HP.out.below hb1); have HB1 := Lib.hid hb1
  clear hb1
  go_wp2_with fail
  refine (HP1.out.top hk HM.out (by omega)).mono ?_; rintro _ w2 ⟨rfl, hb2⟩
  have HP2 := Lib.hid (HP1.out.below hb2); have HK2 := Lib.hid (KA.of_below (below_on HB1.out hb2) : KA P.B P.N w w2)
  clear hb2 HP1 HB1
  obtain ⟨fb, hfb⟩ : ∃ fb, fb = ps k m := ⟨_, rfl⟩
  have HFB := Lib.hid hfb
  rw [← hfb]
  clear hfb
  have f0 : w2.cell? ⟨fb, 0, none⟩ = some (.int .i64 12) := by rw [HFB.out, HP2.out.fn hk HMM.out, HFN.out]
  go_wp2_with fail
  clear f0
  (try rw [HFB.out])
  refine (HS.out w2 ps fvs HP2.out).mono ?_; rintro _ w3 ⟨rfl, hm3, hk3⟩
  have HM3 := Lib.hid hm3; have HK3 := Lib.hid (HK2.out.trans hk3)
  clear hm3 hk3 HP2 HK2
  go_wp2_with fail
  first | (refine bodyPost_end (v := .tuple #[]) (by simp [results, Try.results36, go_sem]) rfl ?_) | (refine bodyPost_ret (v := .tuple #[]) (by simp [results, Try.results36, go_sem]) rfl ?_)
  rw [HQ.out]
  exact ⟨rfl, HM3.out, HK3.out⟩
theorem Sg.odds_le {σ : Sg} {a : Int} (h : σ.acc ≤ a + 1) : σ.odds a = σ := by
  cases σ with | mk f acc flt H G sl steps odd Ts =>
  simp only at h
  have e : decide (1 < acc - a) = false := decide_eq_false (by omega)
  simp only [Sg.odds, e, Bool.or_false]
/-- What stands of a thread within a routine. -/
structure EAt (σ0 σ : Sg) (k : Nat) (F : Th.Fm) (a b : Nat) : Prop where
  nf : (σ.Ts k).nf = 1
  fs : (σ.Ts k).fs 0 = F
  oth : ∀ i, i ≠ k → σ.Ts i = σ0.Ts i
  ss : (σ.Ts k).ss = (σ0.Ts k).ss
  ac : σ.acc = σ0.acc + a ∧ σ.steps = σ0.steps + b
  ok : σ.flt = σ0.flt ∧ σ.sl = σ0.sl ∧ σ.odd = σ0.odd
theorem EAt.call {σ : Sg} {k : Nat} (hm : (σ.Ts k).nf = 0) (fn : Int) : EAt σ (σ.thr k (Th.callT (σ.Ts k) fn 0 fun _ => 0)) k ⟨fn, 0, fun i => if i < 0 then 0 else 0⟩ 0 0 := by
  refine ⟨?_, ?_, fun i hi => ?_, ?_, ⟨by show σ.acc = _; omega, by show σ.steps = _; omega⟩, rfl, rfl, rfl⟩
  · unfold Sg.thr Th.callT; simp only [if_true]; omega
  · unfold Sg.thr Th.callT Th.upM; simp [hm]
  · unfold Sg.thr; simp only [if_neg hi]
  · unfold Sg.thr Th.callT; simp
theorem EAt.set {σ0 σ : Sg} {k a b : Nat} {F F' : Th.Fm} {f' : Nat → Int} (h : EAt σ0 σ k F a b) : EAt σ0 { σ.stp.thr k (setF (σ.Ts k) 0 F') with acc := σ.acc + 1, f := f' } k F' (a + 1) (b + 1) := by
  have hac := h.ac
  refine ⟨?_, ?_, fun i hi => ?_, ?_, ⟨by show σ.acc + 1 = _; omega, by show σ.steps + 1 = _; omega⟩, h.ok⟩
  · show ((σ.stp.thr k (setF (σ.Ts k) 0 F')).Ts k).nf = 1; rw [Sg.thr_at]; exact h.nf
  · show ((σ.stp.thr k (setF (σ.Ts k) 0 F')).Ts k).fs 0 = _; rw [Sg.thr_at, setF_fs]
  · unfold Sg.thr; simp only [if_neg hi]; exact h.oth i hi
  · show ((σ.stp.thr k (setF (σ.Ts k) 0 F')).Ts k).ss = _; rw [Sg.thr_at]; exact h.ss
end Go.Proofs.Ytaaciolfgplnoaa

/- Layer 17: rows of one-cell values, read and owned. -/
namespace Go.Proofs.Ytaaciolfgplnoaa.Sl
open Go.RowKit
set_option linter.unusedVariables false
set_option linter.unusedSimpArgs false
theorem uSI : Try.prog.underlying 101 = some (.slice 3) := by kernel_rfl
theorem uSU : Try.prog.underlying 43 = some (.slice 22) := by kernel_rfl
theorem infI : (Try.prog.info? 3).map (fun i => (i.zero, i.size, i.bytes)) = some (some (.int .i64 0), 1, 8) := by kernel_rfl
theorem infU : (Try.prog.info? 22).map (fun i => (i.zero, i.size, i.bytes)) = some (some (.int .u64 0), 1, 8) := by kernel_rfl
/-- A list of one-cell values, read; its block is from N on. -/
inductive VR (N : Nat) (T : TypeId) (w : World) : Value → List Value → Prop
  | nil : VR N T w (.slice none 0 0) []
  | odd (a : Addr) (c : Nat) : c ≤ 9223372036854775807 → VR N T w (.slice (some a) 0 c) []
  | row (g o c : Nat) (xs : List Value) : N ≤ g → (∃ cur, w.heap[g]? = some (.cells cur T (0, 0))) → xs.length ≤ c → c ≤ 9223372036854775807 → (∀ (i : Nat) (u : Value), xs[i]? = some u → w.cell? ⟨g, o + i, none⟩ = some u) → VR N T w (.slice (some ⟨g, o, none⟩) xs.length c) xs
theorem cell_blk {w w' : World} {g i : Nat} {u : Value} (e : w'.heap[g]? = w.heap[g]?) (h : w.cell? ⟨g, i, none⟩ = some u) : w'.cell? ⟨g, i, none⟩ = some u := (World.cell?_of_block (a := ⟨g, i, none⟩) e).trans h
theorem VR.of {N : Nat} {T : TypeId} {w w' : World} {v : Value} {xs : List Value} (h : VR N T w v xs) (k : ∀ j cur, N ≤ j → w.heap[j]? = some (.cells cur T (0, 0)) → w'.heap[j]? = w.heap[j]?) : VR N T w' v xs := by
  cases h with
  | nil => exact .nil
  | odd a c h1 => exact .odd a c h1
  | row g o c _ h0 hb h1 h2 h3 =>
    obtain ⟨cur, hc⟩ := hb
    have e := k g cur h0 hc
    exact .row g o c _ h0 ⟨cur, e.trans hc⟩ h1 h2 fun i u hu => cell_blk e (h3 i u hu)
theorem VR.below {N : Nat} {T : TypeId} {w w' : World} {v : Value} {xs : List Value} (h : VR N T w v xs) (k : Below w.heap.size w w') : VR N T w' v xs :=
  h.of fun j cur _ hj => k.block j (Th.blk_lt hj)
theorem VR.ka {B N N' : Nat} {T : TypeId} {w w' : World} {v : Value} {xs : List Value} (h : VR N T w v xs) (k : KA B N' w w') (hN : N' ≤ N) (h1 : 48 ≠ T) (h2 : 49 ≠ T) : VR N T w' v xs :=
  h.of fun j cur hn hj => k.keep hj (.inr (Nat.le_trans hN hn)) h1 h2
theorem VR.mono {N N' : Nat} {T : TypeId} {w : World} {v : Value} {xs : List Value} (h : VR N T w v xs) (hN : N' ≤ N) : VR N' T w v xs := by
  cases h with
  | nil => exact .nil
  | odd a c h1 => exact .odd a c h1
  | row g o c _ h0 hb h1 h2 h3 => exact .row g o c _ (Nat.le_trans hN h0) hb h1 h2 h3
theorem VR.parts {N : Nat} {T : TypeId} {w : World} {v : Value} {xs : List Value} (h : VR N T w v xs) : ∃ p c, v = .slice p xs.length c ∧ xs.length ≤ c ∧ c ≤ 9223372036854775807 ∧ Hid (0 < xs.length → ∃ g o, p = some ⟨g, o, none⟩ ∧ N ≤ g ∧ (∃ cur, w.heap[g]? = some (.cells cur T (0, 0))) ∧ ∀ (i : Nat) (u : Value), xs[i]? = some u → w.cell? ⟨g, o + i, none⟩ = some u) := by
  cases h with
  | nil => exact ⟨_, _, rfl, Nat.le_refl _, by decide, fun h => by simp at h⟩
  | odd a c h1 => exact ⟨_, _, rfl, Nat.zero_le _, h1, fun h => by simp at h⟩
  | row g o c _ h0 hb h1 h2 h3 => exact ⟨_, _, rfl, h1, h2, fun _ => ⟨g, o, rfl, h0, hb, h3⟩⟩
/-- An own row is read. -/
theorem own_VR {T : TypeId} {w : World} {B n : Nat} {v : Value} {xs : List Value} (h : w.ownsRow B T 1 v n xs) (hn : n = xs.length) : VR B T w v xs := by
  subst hn
  rcases h.2 with ⟨rfl, h0⟩ | ⟨g, cap, cur, rfl, hb, hh, h1, h2, h3, h4⟩
  · have e : xs = [] := List.eq_nil_of_length_eq_zero h0
    subst e; exact .nil
  · refine .row g 0 cap xs hb ⟨cur, hh⟩ h1 h2 fun i u hu => ?_
    have hi : i < xs.length := (List.getElem?_eq_some_iff.1 hu).1
    rw [← h4, List.getElem?_take_of_lt (by simpa using hi)] at hu
    rw [Nat.zero_add, cell_of_row _ g _ _ _ (0, 0) hh]; simpa using hu
theorem own_nil {T : TypeId} (w : World) (B : Nat) : w.ownsRow B T 1 (.slice none 0 0) ([] : List Value).length [] := ⟨rfl, .inl ⟨rfl, rfl⟩⟩
theorem own_none {T : TypeId} (w : World) : (w.alloc (.cells #[] T)).ownsRow w.heap.size T 1 (.slice (some ⟨w.heap.size, 0, none⟩) 0 0) ([] : List Value).length [] :=
  ⟨rfl, .inr ⟨_, 0, _, rfl, Nat.le_refl _, heap_alloc_new w _, Nat.le_refl _, by decide, rfl, rfl⟩⟩
theorem own_one {T : TypeId} (w : World) (u : Value) : (w.alloc (.cells #[u] T)).ownsRow w.heap.size T 1 (.slice (some ⟨w.heap.size, 0, none⟩) 1 1) ([u] : List Value).length [u] :=
  ⟨rfl, .inr ⟨_, 1, _, rfl, Nat.le_refl _, heap_alloc_new w _, Nat.le_refl _, by decide, rfl, rfl⟩⟩
theorem one_VR {T : TypeId} {w W : World} (u : Value) (e : w.alloc (.cells #[u] T) = W) : VR w.heap.size T W (.slice (some ⟨w.heap.size, 0, none⟩) 1 1) [u] := by
  rw [← e]; exact own_VR (own_one w u) rfl
theorem own_ge {w : World} {B : Nat} {e : TypeId} {size : Nat} {v : Value} {n : Nat} {xs : List Value} (h : w.ownsRow B e size v n xs) : ∀ k, v.ownBlock = some k → B ≤ k := by
  intro k hk
  rcases h.2 with ⟨rfl, _⟩ | ⟨g, cap, cur, rfl, hg, _⟩
  · cases hk
  · simp only [Value.ownBlock, Option.some.injEq] at hk; omega
theorem own_ty {w : World} {B : Nat} {T : TypeId} {size : Nat} {v : Value} {n : Nat} {xs : List Value} (h : w.ownsRow B T size v n xs) {k : Nat} (hk : v.ownBlock = some k) : ∃ cur, w.heap[k]? = some (.cells cur T (0, 0)) := by
  rcases h.2 with ⟨rfl, _⟩ | ⟨g, cap, cur, rfl, _, hh, _⟩
  · cases hk
  · simp only [Value.ownBlock, Option.some.injEq] at hk; subst hk; exact ⟨cur, hh⟩
theorem own_kept {T : TypeId} {w w' : World} {B n : Nat} {v : Value} {xs : List Value} (h : w.ownsRow B T 1 v n xs) (k : ∀ b, v.ownBlock = some b → w'.heap[b]? = w.heap[b]?) : w'.ownsRow B T 1 v n xs := by
  refine ⟨h.1, ?_⟩
  rcases h.2 with hn | ⟨g, cap, cur, rfl, hb, hgg, rest⟩
  · exact .inl hn
  · exact .inr ⟨g, cap, cur, rfl, hb, by rw [k g rfl]; exact hgg, rest⟩
theorem own_below {T : TypeId} {w w' : World} {B n : Nat} {v : Value} {xs : List Value} (h : w.ownsRow B T 1 v n xs) (k : Below w.heap.size w w') : w'.ownsRow B T 1 v n xs :=
  own_kept h fun b hb => by obtain ⟨_, hh⟩ := own_ty h hb; exact k.block b (Th.blk_lt hh)
/-- A list is appended to an own one. -/
theorem wpList_append_v {T SL : TypeId} {z : Value} (uT : Try.prog.underlying SL = some (.slice T)) (infoT : (Try.prog.info? T).map (fun i => (i.zero, i.size, i.bytes)) = some (some z, 1, 8)) (hzs : z.cells.size = 1)
    {w : World} {ops : Array Oper} {rest : List Oper} {o : Oper} {a : Act} {Q : Exit → Act → World → Prop} (hgd : o.guard = none) (s x : Operand)
    (ho : o.op = .call { callee := .builtin .append, args := #[s, x], argTypes := #[SL, SL] })
    (B N : Nat) (v u : Value) (xs ys : List Value) (hs : a.eval s = v) (hown : w.ownsRow B T 1 v xs.length xs) (hx : a.eval x = u) (hu : VR N T w u ys) (h1 : ∀ u ∈ ys, u.oneCell' = true) (hlen : xs.length + ys.length ≤ 1000000) (hB : B ≤ w.heap.size)
    (h : ∀ v' w', w'.ownsRow B T 1 v' (xs ++ ys).length (xs ++ ys) → w.grownBy w' v.ownBlock → wpList Try.prog ops Q rest (a.put o.dst v') w') : wpList Try.prog ops Q (o :: rest) a w := by
  obtain ⟨i0, hi, hz0, hz1, hz2⟩ := Th.info_one infoT
  cases hu with
  | nil => exact wpList_append_own_none hgd s x SL ho B T i0 1 uT hi v xs.length xs hs hown hx (h v w (by rw [List.append_nil]; exact hown) ⟨rfl, rfl, rfl, Nat.le_refl _, fun _ _ _ => rfl⟩)
  | odd ad c hc0 =>
    refine wpList_append_own _ hgd s x SL ho B T i0 z 1 8 uT hi hz0 hz1 hz2 hzs (by decide) v xs.length xs hs hown ad 0 c [] hx rfl (fun j u hu => by simp at hu) (fun u hu => by simp at hu) (by unfold maxLen; omega) (by omega) hB ?_
    intro v' w' h4 h5 _
    exact h v' w' (by rw [List.length_append]; exact h4) h5
  | row g o' c _ h0 hb h2 h3 h4 =>
    refine wpList_append_own _ hgd s x SL ho B T i0 z 1 8 uT hi hz0 hz1 hz2 hzs (by decide) v xs.length xs hs hown ⟨g, o', none⟩ ys.length c ys hx (by omega) ?_ h1 (by unfold maxLen; omega) (by omega) hB ?_
    · intro j u hu
      rw [Th.addP]; exact h4 j u hu
    · intro v' w' h5 h6 _
      exact h v' w' (by rw [List.length_append]; exact h5) h6
/-! ### Numbers -/
def ints (L : List Nat) : List Value := L.map fun (x : Nat) => Value.int .i64 (x : Int)
theorem ints_len (L : List Nat) : (ints L).length = L.length := by simp [ints]
theorem ints_get {L : List Nat} {i : Nat} (h : i < L.length) : (ints L)[i]? = some (.int .i64 ((L[i]'h : Nat) : Int)) := by simp [ints, h]
theorem ints_app (L M : List Nat) : ints (L ++ M) = ints L ++ ints M := by simp [ints]
def wds (L : List Int) : List Value := L.map fun (x : Int) => Value.int .u64 x
theorem wds_len (L : List Int) : (wds L).length = L.length := by simp [wds]
theorem wds_app (L M : List Int) : wds (L ++ M) = wds L ++ wds M := by simp [wds]
/-- What is free, as the reference has it. -/
structure FV (N : Nat) (w : World) (v : Value) (L : List Nat) (G : List Int) : Prop where
  e : ∃ a b, v = .agg #[a, b] ∧ VR N 3 w a (ints L) ∧ VR N 22 w b (wds G)
theorem FV.below {N : Nat} {w w' : World} {v : Value} {L : List Nat} {G : List Int} (h : FV N w v L G) (k : Below w.heap.size w w') : FV N w' v L G := by
  obtain ⟨a, b, e, h1, h2⟩ := h.e
  exact ⟨a, b, e, h1.below k, h2.below k⟩
end Go.Proofs.Ytaaciolfgplnoaa.Sl

/- Layer 17: the reference's Take and Give. -/
namespace Go.Proofs.Ytaaciolfgplnoaa.Sl
open Go.RowKit
set_option linter.unusedVariables false
set_option linter.unusedSimpArgs false
def hdN : List Nat → Nat
  | [] => 0
  | a :: _ => a
end Go.Proofs.Ytaaciolfgplnoaa.Sl

/- Layer 17: the reference's Give. -/
namespace Go.Proofs.Ytaaciolfgplnoaa.Sl
open Go.RowKit
set_option linter.unusedVariables false
set_option linter.unusedSimpArgs false
end Go.Proofs.Ytaaciolfgplnoaa.Sl

/- Layer 17: the reference's New. -/
namespace Go.Proofs.Ytaaciolfgplnoaa.Sl
open Go.RowKit
set_option linter.unusedVariables false
set_option linter.unusedSimpArgs false
def frees (s : Nat) : List Nat := (List.range (s - 5)).map fun i => i + 6
def fr (i : Nat) : List Nat := (List.range (i - 6)).map fun i => i + 6
end Go.Proofs.Ytaaciolfgplnoaa.Sl

/- Layer 17: the reference's Chain. -/
namespace Go.Proofs.Ytaaciolfgplnoaa
open Go.RowKit WordM EdgeM
set_option linter.unusedVariables false
set_option linter.unusedSimpArgs false
set_option maxRecDepth 8000 in
set_option maxHeartbeats 1000000 in
theorem ratS (t s : Nat) (K sl fi : Int) (w : World) (t2 : t ≤ 6) (s2 : s ≤ 250) :
    Calls Try.prog 72 #[.agg #[.int .i64 t, .int .i64 s, .int .u64 K], .int .i64 sl, .int .i64 fi] w fun e w' => e = .returned (.int .i64 (nodeI t s sl fi)) ∧ Below w.heap.size w w' := by
  refine Calls.veil fun Q HQ => ?_
  by_cases hc : 1 ≤ sl ∧ sl ≤ s ∧ 0 ≤ fi ∧ fi < 7
  · have HN := Lib.hid (show nodeI t s sl fi = 3 + 8 * (t : Int) + 7 * (sl - 1) + fi from by unfold nodeI; rw [if_pos hc]; omega)
    obtain ⟨h1, h2, h3, h4⟩ := hc
    have g1 : ¬ sl < 1 := by omega
    have g2 : ¬ (s : Int) < sl := by omega
    have g3 : ¬ fi < 0 := by omega
    have g4 : ¬ 6 < fi := by omega
    go_enter Try.func72, Try.ntmps72
    go_upto_region 1 with fail
    generalize hV : World.alloc _ _ = U
    obtain ⟨u0, hbu⟩ := Th.heapnewE hV
    have o0 := Th.newcell u0 0 _ rfl; have o1 := Th.newcell u0 1 _ rfl
    have HB := Lib.hid hbu
    clear hV u0 hbu
    go_wp2_with fail
    (try go_ret)
    rw [HQ.out]
    exact ⟨by first | (rw [HN.out]; done) | (rw [HN.out]; rfl), HB.out⟩
  · have HN := Lib.hid (show nodeI t s sl fi = -1 from by unfold nodeI; rw [if_neg hc])
    rcases (by omega : sl < 1 ∨ (¬ sl < 1 ∧ (s : Int) < sl) ∨ (¬ sl < 1 ∧ ¬ (s : Int) < sl ∧ fi < 0) ∨ (¬ sl < 1 ∧ ¬ (s : Int) < sl ∧ ¬ fi < 0 ∧ 6 < fi)) with g1 | ⟨g1, g2⟩ | ⟨g1, g2, g3⟩ | ⟨g1, g2, g3, g4⟩
    all_goals
      clear hc
      go_enter Try.func72, Try.ntmps72
      go_upto_region 1 with fail
      generalize hV : World.alloc _ _ = U
      obtain ⟨u0, hbu⟩ := Th.heapnewE hV
      have o0 := Th.newcell u0 0 _ rfl; have o1 := Th.newcell u0 1 _ rfl
      have HB := Lib.hid hbu
      clear hV u0 hbu
      go_wp2_with fail
      (try go_ret)
      rw [HQ.out]
      exact ⟨by first | (rw [HN.out]; done) | (rw [HN.out]; rfl), HB.out⟩
end Go.Proofs.Ytaaciolfgplnoaa
namespace Go.Proofs.Ytaaciolfgplnoaa.Sl
open Go.RowKit WordM EdgeM
set_option linter.unusedVariables false
set_option linter.unusedSimpArgs false
/-- Where a word of a slot lies. -/
def nd (t a j : Nat) : Nat := 3 + 8 * t + 7 * (a - 1) + j
theorem nd_node {t s a j : Nat} (h1 : 1 ≤ a) (h2 : a ≤ s) (hj : j < 7) : nodeI t s a j = ((nd t a j : Nat) : Int) := by
  unfold nodeI nd; rw [if_pos (by omega)]; omega
theorem nd_lt {t s a j : Nat} (h1 : 1 ≤ a) (h2 : a ≤ s) (hj : j < 7) : nd t a j < 3 + 8 * t + 7 * s := by unfold nd; omega
/-- A free list lies there. -/
structure Lk (t s : Nat) (f : Nat → Int) (x : Int) (L : List Nat) : Prop where
  hd : x = hdN L
  at_ : ∀ j (h : j < L.length), 1 ≤ L[j] ∧ L[j] ≤ s ∧ f (nd t L[j] 0) = hdN (L.drop (j + 1))
theorem hd_drop {L : List Nat} {j : Nat} (h : j < L.length) : hdN (L.drop j) = L[j] := by
  rw [List.drop_eq_getElem_cons h]; rfl
theorem hd_end {L : List Nat} {j : Nat} (h : L.length ≤ j) : hdN (L.drop j) = 0 := by rw [List.drop_eq_nil_of_le h]; rfl
theorem hd_le {t s : Nat} {f : Nat → Int} {x : Int} {L : List Nat} (h : Lk t s f x L) (j : Nat) : hdN (L.drop j) ≤ s := by
  rcases Nat.lt_or_ge j L.length with hj | hj
  · rw [hd_drop hj]; exact (h.at_ j hj).2.1
  · rw [hd_end hj]; omega
theorem ints_take {L : List Nat} {j : Nat} (h : j < L.length) : ints (L.take j) ++ [.int .i64 (L[j] : Nat)] = ints (L.take (j + 1)) := by
  rw [List.take_succ_eq_append_getElem h, ints_app]; rfl
def lenOf : Value → Nat
  | .slice _ n _ => n
  | _ => 0
theorem own_slice {T : TypeId} {w : World} {B n : Nat} {v : Value} {xs : List Value} (h : w.ownsRow B T 1 v n xs) : ∃ p c, v = .slice p n c ∧ n ≤ c ∧ c ≤ 9223372036854775807 := by
  rcases h.2 with ⟨rfl, rfl⟩ | ⟨g, cap, cur, rfl, _, _, h1, h2, _⟩
  · exact ⟨none, 0, rfl, Nat.le_refl _, by decide⟩
  · exact ⟨_, _, rfl, h1, h2⟩
set_option maxRecDepth 8000 in
set_option maxHeartbeats 4000000 in
theorem rchain {w : World} {g C t s : Nat} {K : Int} {f : Nat → Int} {L : List Nat} (hr : Mm.RowAt w g (3 + 8 * t + 7 * s) f) (t1 : 1 ≤ t) (t2 : t ≤ 6) (s1 : 7 ≤ s) (s2 : s ≤ 250) (hL : Lk t s f (f 2 % 4096) L) (hn : L.length ≤ s) (hf : 0 ≤ f 2 ∧ f 2 < 18446744073709551616) :
    Calls Try.prog 74 #[.agg #[.int .i64 t, .int .i64 s, .int .u64 K], .slice (some ⟨g, 0, none⟩) (3 + 8 * t + 7 * s) C] w fun e w' => ∃ v', e = .returned (.tuple #[v', .bool true]) ∧ VR w.heap.size 3 w' v' (ints L) ∧ Below w.heap.size w w' := by
  refine Calls.veil fun Q HQ => ?_
  have HR := Lib.hid hr; have HL := Lib.hid hL
  clear hr hL
  obtain ⟨n, hn'⟩ : ∃ n, n = 3 + 8 * t + 7 * s := ⟨_, rfl⟩
  have HN := Lib.hid hn'
  rw [← hn']
  clear hn'
  go_enter Try.func74, Try.ntmps74
  go_upto_region 1 with fail
  generalize hU : World.alloc w _ = U
  obtain ⟨u0, hbu⟩ := Th.heapnewE hU
  obtain ⟨b1, hb1⟩ : ∃ b1, b1 = w.heap.size := ⟨_, rfl⟩
  rw [← hb1] at u0 ⊢
  have HBU := Lib.hid hbu; have HS := Lib.hid (show b1 < U.heap.size ∧ w.heap.size ≤ U.heap.size from ⟨Th.blk_lt u0, hbu.size⟩)
  have HK := Lib.hid (show Th.Blk 24 U b1 3 (fun j => if j = 0 then .int .i64 t else if j = 1 then .int .i64 s else .int .u64 K) from u0)
  clear hU u0 hbu hb1
  have c0 : U.cell? ⟨b1, 0, none⟩ = some (.int .i64 t) := HK.out.get (i := 0) (by omega); have c1 : U.cell? ⟨b1, 1, none⟩ = some (.int .i64 s) := HK.out.get (i := 1) (by omega); have c2 : U.cell? ⟨b1, 2, none⟩ = some (.int .u64 K) := HK.out.get (i := 2) (by omega)
  go_wp2_with fail
  refine (rwords_calls t s K _ t1 t2 s1 s2).mono ?_; rintro _ w1 ⟨vW, rfl, ow, hbw⟩
  obtain ⟨gW, cW, rfl⟩ : ∃ gW cW, vW = .slice (some ⟨gW, 0, none⟩) n cW := by
    rcases ow.2 with ⟨_, h0⟩ | ⟨gW, cW, _, rfl, _⟩
    · omega
    · exact ⟨gW, cW, by rw [HN.out]⟩
  have HB1 := Lib.hid (below_on HBU.out hbw)
  have HK1 := Lib.hid (HK.out.below hbw)
  have HR1 := Lib.hid (HR.out.below (below_on HBU.out hbw))
  have y2 : w1.cell? ⟨g, 2, none⟩ = some (.int .u64 (f 2)) := HR1.out.row 2 (by omega)
  have HS1 := Lib.hid hbw.size
  clear ow hbw c0 c1 c2
  have hn3 : 3 ≤ n := by rw [HN.out]; omega
  have hz : ((n : Int) != n) = false := by simp
  go_wp2_with fail
  go_loopw [6, 7] (fun ov iv wr => ∃ j : Nat, j ≤ L.length ∧ iv = .int .i64 (hdN (L.drop j)) ∧ Hid (wr.ownsRow U.heap.size 3 1 ov j (ints (L.take j)) ∧ Below U.heap.size w1 wr))
    (fun ov _ _ => L.length - (lenOf ov))
  case atStart => exact ⟨0, by omega, by have := HL.out.hd; simp only [List.drop_zero]; rw [← this], Lib.hid ⟨own_nil _ _, Below.refl _ _⟩⟩
  case round =>
    obtain ⟨j, hj, rfl, HO⟩ := hrel
    obtain ⟨p, c, rfl, q1, q2⟩ := own_slice HO.out.1
    have hkb : ∀ k, k < U.heap.size → wr.heap[k]? = w1.heap[k]? := fun k hk => HO.out.2.block k hk
    have HKr := Lib.hid (HK1.out.of (hkb b1 HS.out.1))
    have HRr := Lib.hid (show Mm.RowAt wr g (3 + 8 * t + 7 * s) f from HR1.out.keep (HO.out.2.size) (hkb g (by have := HR.out.lt; have := HS.out.2; omega)))
    have HBr := Lib.hid (show Below w.heap.size w wr from HB1.out.trans (HO.out.2.mono HS.out.2))
    have HSr := Lib.hid (show U.heap.size ≤ wr.heap.size from Nat.le_trans HS1.out HO.out.2.size)
    clear hkb
    rcases (by omega : j < L.length ∨ j = L.length) with hlt | hje
    · rw [hd_drop hlt]
      obtain ⟨a1, a2, a3⟩ := HL.out.at_ j hlt
      obtain ⟨a, ha⟩ : ∃ a, a = L[j] := ⟨_, rfl⟩
      have HT := Lib.hid (ints_take hlt)
      have HX := Lib.hid (hd_le HL.out (j + 1))
      obtain ⟨x, hx⟩ : ∃ x, x = hdN (L.drop (j + 1)) := ⟨_, rfl⟩
      have HXX := Lib.hid hx
      rw [← ha] at a1 a2 a3 HT ⊢
      rw [← hx] at a3 HX
      have hx2 : x ≤ 250 := by have := HX.out; omega
      have HNX : Hid (nodeI (t : Int) s a 0 = ((nd t a 0 : Nat) : Int)) := Lib.hid (by have := nd_node (t := t) a1 a2 (show 0 < 7 by omega); simpa using this)
      have HNL := Lib.hid (nd_lt (t := t) a1 a2 (show 0 < 7 by omega))
      have HA := Lib.hid a3
      have c0 : wr.cell? ⟨b1, 0, none⟩ = some (.int .i64 t) := HKr.out.get (i := 0) (by omega); have c1 : wr.cell? ⟨b1, 1, none⟩ = some (.int .i64 s) := HKr.out.get (i := 1) (by omega); have c2 : wr.cell? ⟨b1, 2, none⟩ = some (.int .u64 K) := HKr.out.get (i := 2) (by omega)
      have g1 : ((a : Int) != 0) = true := by simp; omega
      have g2 : ¬ ((s : Int) < a) := by omega
      have g3 : ¬ ((s : Int) < j) := by omega
      clear ha hx a3 hz y2
      go_wp2_with (at_builtin; refine wpList_append_v uSI infI rfl rfl (.tmp 35) (.tmp 37) rfl U.heap.size wr.heap.size _ _ (ints (L.take j)) [.int .i64 a] rfl (by rw [ints_len, List.length_take, Nat.min_eq_left hj]; exact own_below HO.out.1 ((Below.refl _ _).alloc (Nat.le_refl _) _)) rfl (one_VR _ rfl) (by simp [Value.oneCell']) (by rw [ints_len, List.length_take]; simp; omega) (by have := HSr.out; simp; omega) ?_)
      intro v2 w2 hown hgrow
      have hb : Below U.heap.size wr w2 := by
        have h5 := own_below HO.out.1 ((Below.refl wr.heap.size wr).alloc (Nat.le_refl _) (.cells #[.int .i64 a] 3))
        exact ((Below.refl U.heap.size wr).alloc HSr.out _).grown hgrow (by have := HSr.out; simp; omega) (own_ge h5)
      have hown : w2.ownsRow U.heap.size 3 1 v2 (j + 1) (ints (L.take (j + 1))) := by
        have h9 := hown
        rw [HT.out, ints_len, List.length_take, Nat.min_eq_left hj] at h9
        exact h9
      have HO2 := Lib.hid hown; have HB2 := Lib.hid hb
      have HK2 := Lib.hid (HKr.out.of (hb.block b1 HS.out.1))
      have HR2 := Lib.hid (show Mm.RowAt w2 g (3 + 8 * t + 7 * s) f from HRr.out.keep hb.size (hb.block g (by have := HR.out.lt; have := HS.out.2; omega)))
      obtain ⟨p2, k2, rfl, _, _⟩ := own_slice hown
      clear hown hgrow hb c0 c1 c2
      have c0 : w2.cell? ⟨b1, 0, none⟩ = some (.int .i64 t) := HK2.out.get (i := 0) (by omega); have c1 : w2.cell? ⟨b1, 1, none⟩ = some (.int .i64 s) := HK2.out.get (i := 1) (by omega); have c2 : w2.cell? ⟨b1, 2, none⟩ = some (.int .u64 K) := HK2.out.get (i := 2) (by omega)
      go_wp2_with fail
      refine (ratS t s K a 0 w2 t2 s2).mono ?_; rintro _ w3 ⟨rfl, hb3⟩
      rw [HNX.out]
      have y3 : w3.cell? ⟨g, nd t a 0, none⟩ = some (.int .u64 x) := by
        rw [← HA.out]; exact (HR2.out.below hb3).row _ HNL.out
      have hnd : nd t a 0 < n := by rw [HN.out]; exact HNL.out
      obtain ⟨d, hd⟩ : ∃ d, d = nd t a 0 := ⟨_, rfl⟩
      rw [← hd] at y3 hnd ⊢
      have HO3 := Lib.hid (own_below HO2.out hb3)
      have HB3 := Lib.hid (show Below U.heap.size w1 w3 from (HO.out.2.trans HB2.out).trans (hb3.mono (by have := HSr.out; have := HB2.out.size; omega)))
      clear hd hb3 c0 c1 c2
      go_wp2_with fail
      go_roundw
      case rel => exact ⟨j + 1, by omega, by rw [← HXX.out], Lib.hid ⟨HO3.out, HB3.out⟩⟩
      case measure => simp [lenOf]; omega
    · rw [hd_end (by omega)]
      go_wp2_with fail
      rw [HQ.out]
      refine ⟨_, rfl, ?_, HBr.out⟩
      have h9 := HO.out.1
      rw [hje, List.take_length] at h9
      rw [hje]
      exact (own_VR h9 (by rw [ints_len])).mono HS.out.2
end Go.Proofs.Ytaaciolfgplnoaa.Sl

/- Layer 17: what lives asks. -/
namespace Go.Proofs.Ytaaciolfgplnoaa
open Go.RowKit WordM EdgeM
set_option linter.unusedVariables false
set_option linter.unusedSimpArgs false
/-- What a thread was told last. -/
theorem MM.ret {w : World} {P : Pc} {σ : Sg} (h : MM w P σ) {k : Nat} (hk : k < P.t) {i : Nat} (hi : i < 12) : w.cell? ⟨P.tq k, i, none⟩ = some (.int .u64 ((σ.Ts k).ret i)) := by
  obtain ⟨ps, fvs, tf⟩ := h.th
  rw [(tf.th k hk).a.blk.get (i := i) (by omega)]
  unfold Th.thF; rw [if_pos hi]
theorem mayC_157 : mayC 1 7 5 = true := by decide +kernel
theorem l17a : partF 1 3 7 2 = 6 := by decide +kernel
theorem l17b : Mm.ldI 60 (partF 1 3 7) (nodeI 1 7 6 0) = 7 ∧ Mm.ldI 60 (Mm.upd (partF 1 3 7) 2 (chgI 6 7)) (nodeI 1 7 6 1) = 0 ∧ makeI 6 0 = 6 := by decide +kernel
end Go.Proofs.Ytaaciolfgplnoaa

/- Layer 15: a thread that is not there. -/
namespace Go.Proofs.Ytaaciolfgplnoaa.Th
open Go.RowKit
set_option linter.unusedVariables false
set_option linter.unusedSimpArgs false
end Go.Proofs.Ytaaciolfgplnoaa.Th

/- Layer 17: where nothing is done; the walk of SlotsNone. -/
namespace Go.Proofs.Ytaaciolfgplnoaa.Mm
open Go.RowKit
set_option linter.unusedVariables false
set_option linter.unusedSimpArgs false
theorem own_wordsT {w : World} {B : Nat} {v : Value} {n : Nat} {f : Nat → Int} (h : w.ownsRow B 22 1 v n (wordsL n f)) (hn : 0 < n) :
    ∃ g cap, v = .slice (some ⟨g, 0, none⟩) n cap ∧ B ≤ g ∧ n ≤ cap ∧ cap ≤ 9223372036854775807 ∧ RowAt w g n f ∧ ∃ cur, w.heap[g]? = some (.cells cur 22 (0, 0)) := by
  rcases h.2 with ⟨_, h0⟩ | ⟨g, cap, cur, hv, hg, hh, hc, hm, hs, ht⟩
  · omega
  · refine ⟨g, cap, hv, hg, hc, hm, ⟨fun i hi => ?_, fun i => frozen_of_row _ g i _ _ hh, (Array.getElem?_eq_some_iff.1 hh).1⟩, cur, hh⟩
    have h1 := wordsL_get n f i hi
    rw [cell_of_row _ g i _ _ (0, 0) hh]
    rw [← ht, List.getElem?_take_of_lt (by omega)] at h1
    simpa using h1
theorem scloneT (g n C : Nat) (f : Nat → Int) (w : World) (h : ∀ i, i < n → w.cell? ⟨g, i, none⟩ = some (.int .u64 (f i))) (n1 : 1 ≤ n) (n2 : n ≤ 4096) :
    Calls Try.prog 73 #[.slice (some ⟨g, 0, none⟩) n C] w fun e w' => ∃ g' C', e = .returned (.slice (some ⟨g', 0, none⟩) n C') ∧ w.heap.size ≤ g' ∧ n ≤ C' ∧ C' ≤ 9223372036854775807 ∧ (RowAt w' g' n f ∧ ∃ cur, w'.heap[g']? = some (.cells cur 22 (0, 0))) ∧ Below w.heap.size w w' := by
  obtain ⟨i0, hi, hz0, hz1, hz2⟩ := info_parts info64
  have hg : g < w.heap.size := World.block_lt_of_cell? w ⟨g, 0, none⟩ (h 0 (by omega))
  have h' : ∀ i, i < n → (w.alloc (.cells #[] 22)).cell? ⟨g, i, none⟩ = some (.int .u64 (f i)) := fun i hi => Ext.on (h i hi) _
  have H' := Lib.hid h'; clear h' h
  have qT : ∀ (w : World) (a : Addr) (n c : Nat), (binOp .eql 43 (.slice (some a) n c) (.slice none 0 0)).run Try.prog w = .ok (.bool false) w := fun w a n c => Go.run_eql_slice_nil w _ _ (some a) n c u64s
  refine Calls.veil fun Q HQ => ?_
  go_enter Try.func73, Try.ntmps73
  go_wp2_with (at_builtin; refine wpList_append_own _ rfl (.tmp 5) (.tmp 6) 43 rfl w.heap.size 22 i0 _ 1 8 u64s hi hz0 hz1 hz2 rfl (by decide) _ _ _ rfl (own_none w) ⟨g, 0, none⟩ n C (wordsL n f) rfl (by rw [wordsL_len]; omega) (news_words H'.out) (one_words n f) (by unfold maxLen; omega) (by omega) (by simp) ?_)
  intro v1 w1 hown hgrow _
  try simp only [Nat.zero_add, List.nil_append] at hown
  have hb := grow0 hgrow
  obtain ⟨g', C', rfl, e1, e2, e3, e4⟩ := own_wordsT hown n1
  have H4 := Lib.hid e4
  clear e4 hown hgrow
  go_wp2_with fail
  (try go_ret)
  rw [HQ.out]
  exact ⟨g', C', rfl, e1, e2, e3, H4.out, hb⟩
theorem mwordsT (b g n C : Nat) (f : Nat → Int) (acc : Int) (flt : Bool) (w : World) (h : MemAt w b g n C f acc flt) :
    Calls Try.prog 46 #[.pointer (some ⟨b, 0, none⟩)] w fun e w' => ∃ g' C', e = .returned (.slice (some ⟨g', 0, none⟩) n C') ∧ w.heap.size ≤ g' ∧ n ≤ C' ∧ C' ≤ 9223372036854775807 ∧ (RowAt w' g' n f ∧ ∃ cur, w'.heap[g']? = some (.cells cur 22 (0, 0))) ∧ Below w.heap.size w w' := by
  have e0 := h.h0
  refine Calls.veil fun Q HQ => ?_
  go_enter Try.func46, Try.ntmps46
  go_wp2_with fail
  refine (scloneT g n C f w h.row h.n1 h.n2).mono ?_; rintro _ w1 ⟨g', C', rfl, e1, e2, e3, e4, hb⟩
  have H4 := Lib.hid e4
  clear e4
  go_wp2_with fail
  (try go_ret)
  rw [HQ.out]
  exact ⟨g', C', rfl, e1, e2, e3, H4.out, hb⟩
end Go.Proofs.Ytaaciolfgplnoaa.Mm
namespace Go.Proofs.Ytaaciolfgplnoaa
open Go.RowKit WordM EdgeM
set_option linter.unusedVariables false
set_option linter.unusedSimpArgs false
end Go.Proofs.Ytaaciolfgplnoaa
