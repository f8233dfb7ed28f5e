/- EpoT: several texts in one. -/
import Derived.Test.YtjpkmkaiojnhgaaEpoS
import Derived.Test.YtjpkmkaiojnhgaaFrame
/- Layer 18: Do; Enter, Leave and Advance, alone. -/
namespace Go.Proofs.Ytjpkmkaiojnhgaa
open Go.RowKit WordM EdgeM
set_option linter.unusedVariables false
set_option linter.unusedSimpArgs false
set_option maxRecDepth 8000 in
set_option maxHeartbeats 2000000 in
theorem edoE {w : World} {P : Pc} {σ σ' : Sg} (h : MM w P σ) {k m : Nat} (hk : k < P.t) (hm : (σ.Ts k).nf = m + 1) (hN : m ≤ 1000) (hfn : ((σ.Ts k).fs m).fn = 10)
    (hst : ∀ w' ps fvs, MP w' P σ ps fvs → Calls Try.prog 31 #[.pointer (some ⟨P.q, 0, none⟩), .int .i64 k, .pointer (some ⟨P.tq k, 0, none⟩), .pointer (some ⟨ps k m, 0, none⟩)] w' fun x w'' => x = .returned (.tuple #[]) ∧ MM w'' P σ' ∧ KA P.B P.N w' w'') :
    Calls Try.prog 12 #[.pointer (some ⟨P.q, 0, none⟩), .int .i64 k] w fun x w' => x = .returned (.tuple #[]) ∧ MM w' P σ' ∧ KA P.B P.N w w' := by
  refine Calls.veil fun Q HQ => ?_
  obtain ⟨ps, fvs, hp⟩ := h.mp
  have HP := Lib.hid hp
  have hmm : m < (σ.Ts k).nf := by omega
  have HMM := Lib.hid hmm; have HM := Lib.hid hm; have HFN := Lib.hid hfn; have HS := Lib.hid hst
  clear h hp hmm hm hfn hst
  go_enter Try.func12, Try.ntmps12
  go_wp2_with fail
  refine (cThread_yes HP.out.c k hk).mono ?_; rintro _ w1 ⟨rfl, hb1⟩
  have HP1 := Lib.hid (HP.out.below hb1); have HB1 := Lib.hid hb1
  clear hb1
  go_wp2_with fail
  refine (HP1.out.top hk HM.out (by omega)).mono ?_; rintro _ w2 ⟨rfl, hb2⟩
  have HP2 := Lib.hid (HP1.out.below hb2); have HK2 := Lib.hid (KA.of_below (below_on HB1.out hb2) : KA P.B P.N w w2)
  clear hb2 HP1 HB1
  obtain ⟨fb, hfb⟩ : ∃ fb, fb = ps k m := ⟨_, rfl⟩
  have HFB := Lib.hid hfb
  rw [← hfb]
  clear hfb
  have f0 : w2.cell? ⟨fb, 0, none⟩ = some (.int .i64 10) := by rw [HFB.out, HP2.out.fn hk HMM.out, HFN.out]
  go_wp2_with fail
  clear f0
  (try rw [HFB.out])
  refine (HS.out w2 ps fvs HP2.out).mono ?_; rintro _ w3 ⟨rfl, hm3, hk3⟩
  have HM3 := Lib.hid hm3; have HK3 := Lib.hid (HK2.out.trans hk3)
  clear hm3 hk3 HP2 HK2
  go_wp2_with fail
  first | (refine bodyPost_end (v := .tuple #[]) (by simp [results, Try.results12, go_sem]) rfl ?_) | (refine bodyPost_ret (v := .tuple #[]) (by simp [results, Try.results12, go_sem]) rfl ?_)
  rw [HQ.out]
  exact ⟨rfl, HM3.out, HK3.out⟩
set_option maxRecDepth 8000 in
set_option maxHeartbeats 2000000 in
theorem edoL {w : World} {P : Pc} {σ σ' : Sg} (h : MM w P σ) {k m : Nat} (hk : k < P.t) (hm : (σ.Ts k).nf = m + 1) (hN : m ≤ 1000) (hfn : ((σ.Ts k).fs m).fn = 11)
    (hst : ∀ w' ps fvs, MP w' P σ ps fvs → Calls Try.prog 32 #[.pointer (some ⟨P.q, 0, none⟩), .int .i64 k, .pointer (some ⟨P.tq k, 0, none⟩)] w' fun x w'' => x = .returned (.tuple #[]) ∧ MM w'' P σ' ∧ KA P.B P.N w' w'') :
    Calls Try.prog 12 #[.pointer (some ⟨P.q, 0, none⟩), .int .i64 k] w fun x w' => x = .returned (.tuple #[]) ∧ MM w' P σ' ∧ KA P.B P.N w w' := by
  refine Calls.veil fun Q HQ => ?_
  obtain ⟨ps, fvs, hp⟩ := h.mp
  have HP := Lib.hid hp
  have hmm : m < (σ.Ts k).nf := by omega
  have HMM := Lib.hid hmm; have HM := Lib.hid hm; have HFN := Lib.hid hfn; have HS := Lib.hid hst
  clear h hp hmm hm hfn hst
  go_enter Try.func12, Try.ntmps12
  go_wp2_with fail
  refine (cThread_yes HP.out.c k hk).mono ?_; rintro _ w1 ⟨rfl, hb1⟩
  have HP1 := Lib.hid (HP.out.below hb1); have HB1 := Lib.hid hb1
  clear hb1
  go_wp2_with fail
  refine (HP1.out.top hk HM.out (by omega)).mono ?_; rintro _ w2 ⟨rfl, hb2⟩
  have HP2 := Lib.hid (HP1.out.below hb2); have HK2 := Lib.hid (KA.of_below (below_on HB1.out hb2) : KA P.B P.N w w2)
  clear hb2 HP1 HB1
  obtain ⟨fb, hfb⟩ : ∃ fb, fb = ps k m := ⟨_, rfl⟩
  have HFB := Lib.hid hfb
  rw [← hfb]
  clear hfb
  have f0 : w2.cell? ⟨fb, 0, none⟩ = some (.int .i64 11) := by rw [HFB.out, HP2.out.fn hk HMM.out, HFN.out]
  go_wp2_with fail
  clear f0
  (try rw [HFB.out])
  refine (HS.out w2 ps fvs HP2.out).mono ?_; rintro _ w3 ⟨rfl, hm3, hk3⟩
  have HM3 := Lib.hid hm3; have HK3 := Lib.hid (HK2.out.trans hk3)
  clear hm3 hk3 HP2 HK2
  go_wp2_with fail
  first | (refine bodyPost_end (v := .tuple #[]) (by simp [results, Try.results12, go_sem]) rfl ?_) | (refine bodyPost_ret (v := .tuple #[]) (by simp [results, Try.results12, go_sem]) rfl ?_)
  rw [HQ.out]
  exact ⟨rfl, HM3.out, HK3.out⟩
set_option maxRecDepth 8000 in
set_option maxHeartbeats 2000000 in
theorem edoA {w : World} {P : Pc} {σ σ' : Sg} (h : MM w P σ) {k m : Nat} (hk : k < P.t) (hm : (σ.Ts k).nf = m + 1) (hN : m ≤ 1000) (hfn : ((σ.Ts k).fs m).fn = 12)
    (hst : ∀ w' ps fvs, MP w' P σ ps fvs → Calls Try.prog 33 #[.pointer (some ⟨P.q, 0, none⟩), .pointer (some ⟨P.tq k, 0, none⟩), .pointer (some ⟨ps k m, 0, none⟩)] w' fun x w'' => x = .returned (.tuple #[]) ∧ MM w'' P σ' ∧ KA P.B P.N w' w'') :
    Calls Try.prog 12 #[.pointer (some ⟨P.q, 0, none⟩), .int .i64 k] w fun x w' => x = .returned (.tuple #[]) ∧ MM w' P σ' ∧ KA P.B P.N w w' := by
  refine Calls.veil fun Q HQ => ?_
  obtain ⟨ps, fvs, hp⟩ := h.mp
  have HP := Lib.hid hp
  have hmm : m < (σ.Ts k).nf := by omega
  have HMM := Lib.hid hmm; have HM := Lib.hid hm; have HFN := Lib.hid hfn; have HS := Lib.hid hst
  clear h hp hmm hm hfn hst
  go_enter Try.func12, Try.ntmps12
  go_wp2_with fail
  refine (cThread_yes HP.out.c k hk).mono ?_; rintro _ w1 ⟨rfl, hb1⟩
  have HP1 := Lib.hid (HP.out.below hb1); have HB1 := Lib.hid hb1
  clear hb1
  go_wp2_with fail
  refine (HP1.out.top hk HM.out (by omega)).mono ?_; rintro _ w2 ⟨rfl, hb2⟩
  have HP2 := Lib.hid (HP1.out.below hb2); have HK2 := Lib.hid (KA.of_below (below_on HB1.out hb2) : KA P.B P.N w w2)
  clear hb2 HP1 HB1
  obtain ⟨fb, hfb⟩ : ∃ fb, fb = ps k m := ⟨_, rfl⟩
  have HFB := Lib.hid hfb
  rw [← hfb]
  clear hfb
  have f0 : w2.cell? ⟨fb, 0, none⟩ = some (.int .i64 12) := by rw [HFB.out, HP2.out.fn hk HMM.out, HFN.out]
  go_wp2_with fail
  clear f0
  (try rw [HFB.out])
  refine (HS.out w2 ps fvs HP2.out).mono ?_; rintro _ w3 ⟨rfl, hm3, hk3⟩
  have HM3 := Lib.hid hm3; have HK3 := Lib.hid (HK2.out.trans hk3)
  clear hm3 hk3 HP2 HK2
  go_wp2_with fail
  first | (refine bodyPost_end (v := .tuple #[]) (by simp [results, Try.results12, go_sem]) rfl ?_) | (refine bodyPost_ret (v := .tuple #[]) (by simp [results, Try.results12, go_sem]) rfl ?_)
  rw [HQ.out]
  exact ⟨rfl, HM3.out, HK3.out⟩
theorem cfE : ∀ (args : Array Value) (w : World), (callFunc 12 args).run Try.prog w = .ok (.enter 12 args) w := fun args w => by go_simp
theorem Sg.odds_le {σ : Sg} {a : Int} (h : σ.acc ≤ a + 1) : σ.odds a = σ := by
  cases σ with | mk f acc flt H G sl steps odd Ts =>
  simp only at h
  have e : decide (1 < acc - a) = false := decide_eq_false (by omega)
  simp only [Sg.odds, e, Bool.or_false]
/-- What stands of a thread within a routine. -/
structure EAt (σ0 σ : Sg) (k : Nat) (F : Th.Fm) (a b : Nat) : Prop where
  nf : (σ.Ts k).nf = 1
  fs : (σ.Ts k).fs 0 = F
  oth : ∀ i, i ≠ k → σ.Ts i = σ0.Ts i
  ss : (σ.Ts k).ss = (σ0.Ts k).ss
  ac : σ.acc = σ0.acc + a ∧ σ.steps = σ0.steps + b
  ok : σ.flt = σ0.flt ∧ σ.sl = σ0.sl ∧ σ.odd = σ0.odd
/-- What a routine, alone, came to. -/
structure EOut (σ0 σ : Sg) (k : Nat) (F : Nat → Int) (L : Nat) (r : Int) (s3 : Value) : Prop where
  f : σ.f = F
  nf : (σ.Ts k).nf = 0
  oth : ∀ i, i ≠ k → σ.Ts i = σ0.Ts i
  ret : (σ.Ts k).ret 0 = r
  s1 : (σ.Ts k).ss 1 = (σ0.Ts k).ss 1
  s3 : (σ.Ts k).ss 3 = s3
  ac : σ0.acc ≤ σ.acc ∧ σ.acc ≤ σ0.acc + L ∧ σ0.steps ≤ σ.steps ∧ σ.steps ≤ σ0.steps + L
  ok : σ.flt = σ0.flt ∧ σ.sl = σ0.sl ∧ σ.odd = σ0.odd
theorem EAt.call {σ : Sg} {k : Nat} (hm : (σ.Ts k).nf = 0) (fn : Int) : EAt σ (σ.thr k (Th.callT (σ.Ts k) fn 0 fun _ => 0)) k ⟨fn, 0, fun i => if i < 0 then 0 else 0⟩ 0 0 := by
  refine ⟨?_, ?_, fun i hi => ?_, ?_, ⟨by show σ.acc = _; omega, by show σ.steps = _; omega⟩, rfl, rfl, rfl⟩
  · unfold Sg.thr Th.callT; simp only [if_true]; omega
  · unfold Sg.thr Th.callT Th.upM; simp [hm]
  · unfold Sg.thr; simp only [if_neg hi]
  · unfold Sg.thr Th.callT; simp
theorem EAt.set {σ0 σ : Sg} {k a b : Nat} {F F' : Th.Fm} {f' : Nat → Int} (h : EAt σ0 σ k F a b) : EAt σ0 { σ.stp.thr k (setF (σ.Ts k) 0 F') with acc := σ.acc + 1, f := f' } k F' (a + 1) (b + 1) := by
  have hac := h.ac
  refine ⟨?_, ?_, fun i hi => ?_, ?_, ⟨by show σ.acc + 1 = _; omega, by show σ.steps + 1 = _; omega⟩, h.ok⟩
  · show ((σ.stp.thr k (setF (σ.Ts k) 0 F')).Ts k).nf = 1; rw [Sg.thr_at]; exact h.nf
  · show ((σ.stp.thr k (setF (σ.Ts k) 0 F')).Ts k).fs 0 = _; rw [Sg.thr_at, setF_fs]
  · unfold Sg.thr; simp only [if_neg hi]; exact h.oth i hi
  · show ((σ.stp.thr k (setF (σ.Ts k) 0 F')).Ts k).ss = _; rw [Sg.thr_at]; exact h.ss
theorem aEnterP {w : World} {P : Pc} {σ : Sg} (h : MM w P σ) {k most : Nat} (hk : k < P.t) (hm : (σ.Ts k).nf = 0) (hmo : most ≤ 1000000) (a0 : 0 ≤ σ.acc) (a1 : σ.acc < 900000) (s0 : 0 ≤ σ.steps) (s1 : σ.steps < 900000) (h4 : 1 ≤ most) (hpin : (σ.Ts k).ss 1 = .bool true) :
    Calls Try.prog 11 #[.pointer (some ⟨P.q, 0, none⟩), .int .i64 k, .func (.func 12) #[] #[], .int .i64 most, .int .i64 10, .slice none 0 0] w fun x w' => x = .returned (.tuple #[.int .i64 1, .bool true]) ∧ ∃ σ', MM w' P σ' ∧ KA P.B P.N w w' ∧ EOut σ σ' k (σ.f) 1 0 ((σ.Ts k).ss 3) := by
  have t0 := EAt.call hm 10
  obtain ⟨τ0, hτ⟩ : ∃ τ0, τ0 = σ.thr k (Th.callT (σ.Ts k) 10 0 fun _ => 0) := ⟨_, rfl⟩
  have hf0 : τ0.f = σ.f := by rw [hτ]; rfl
  rw [← hτ] at t0
  have hac := t0.ac
  refine (malone (L := 1) (n0 := 0) (τ := fun j => if j = 0 then τ0 else backS k τ0.stp) (ρ := fun _ => backS k τ0.stp) h hk cfE (Th.UR.nil (fun _ => 0)) hm (by omega) (by omega) hmo hτ
    (fun j hj => ?_) (fun j hj w' hm' _ => ?_) (fun j hj => ?_) (fun j hj => ?_) (fun j hj => ?_) ?_).mono ?_
  · obtain rfl : j = 0 := by omega
    exact (Sg.odds_le (by show τ0.acc ≤ τ0.acc + 1; omega)).symm
  · obtain rfl : j = 0 := by omega
    have hm' : MM w' P τ0.stp := hm'
    exact edoE (m := 0) hm' hk t0.nf (by omega) (by rw [show (τ0.stp.Ts k).fs 0 = _ from t0.fs]) fun w2 ps fvs hp => enterP hp hk t0.nf (by omega) (by show 0 ≤ τ0.acc; omega) (by show τ0.acc < _; omega) (by show (τ0.Ts k).ss 1 = _; rw [t0.ss]; exact hpin)
  · obtain rfl : j = 0 := by omega
    show 0 ≤ τ0.steps ∧ τ0.steps < _; omega
  · show _ ≤ (τ0.acc) - (if j = 0 then τ0 else _).acc ∧ (τ0.acc) - (if j = 0 then τ0 else _).acc < _
    obtain rfl : j = 0 := by omega
    rw [if_pos rfl]; omega
  · obtain rfl : j = 0 := by omega
    show 0 < (τ0.Ts k).nf ∧ (τ0.Ts k).nf ≤ _
    rw [t0.nf]; omega
  · show ((backS k τ0.stp).Ts k).nf ≤ 0
    unfold backS Sg.thr Th.backT; simp only [if_true]
    show (τ0.Ts k).nf - 1 ≤ 0
    rw [t0.nf]; omega
  · rintro _ w' ⟨rfl, hm', hk'⟩
    rw [if_neg (by decide)] at hm'
    refine ⟨rfl, _, hm', hk', ⟨?_, ?_, fun i hi => ?_, ?_, ?_, ?_, ⟨?_, ?_, ?_, ?_⟩, t0.ok⟩⟩
    · show τ0.f = _; rw [hf0]
    · unfold backS Sg.thr Th.backT; simp only [if_true]; show (τ0.Ts k).nf - 1 = 0; rw [t0.nf]
    · unfold backS Sg.thr; simp only [if_neg hi]; exact t0.oth i hi
    · unfold backS Sg.thr Th.backT; simp
    · unfold backS Sg.thr Th.backT; simp only [if_true]; show (τ0.Ts k).ss 1 = _; rw [t0.ss]
    · unfold backS Sg.thr Th.backT; simp only [if_true]; show (τ0.Ts k).ss 3 = _; rw [t0.ss]
    · show _ ≤ τ0.acc; omega
    · show τ0.acc ≤ _; omega
    · show _ ≤ τ0.steps + 1; omega
    · show τ0.steps + 1 ≤ _; omega
theorem aLeaveP {w : World} {P : Pc} {σ : Sg} (h : MM w P σ) {k most : Nat} (hk : k < P.t) (hm : (σ.Ts k).nf = 0) (hmo : most ≤ 1000000) (a0 : 0 ≤ σ.acc) (a1 : σ.acc < 900000) (s0 : 0 ≤ σ.steps) (s1 : σ.steps < 900000) (h4 : 1 ≤ most) (hpin : (σ.Ts k).ss 1 = .bool true) :
    Calls Try.prog 11 #[.pointer (some ⟨P.q, 0, none⟩), .int .i64 k, .func (.func 12) #[] #[], .int .i64 most, .int .i64 11, .slice none 0 0] w fun x w' => x = .returned (.tuple #[.int .i64 1, .bool true]) ∧ ∃ σ', MM w' P σ' ∧ KA P.B P.N w w' ∧ EOut σ σ' k (σ.f) 1 0 ((σ.Ts k).ss 3) := by
  have t0 := EAt.call hm 11
  obtain ⟨τ0, hτ⟩ : ∃ τ0, τ0 = σ.thr k (Th.callT (σ.Ts k) 11 0 fun _ => 0) := ⟨_, rfl⟩
  have hf0 : τ0.f = σ.f := by rw [hτ]; rfl
  rw [← hτ] at t0
  have hac := t0.ac
  refine (malone (L := 1) (n0 := 0) (τ := fun j => if j = 0 then τ0 else backS k τ0.stp) (ρ := fun _ => backS k τ0.stp) h hk cfE (Th.UR.nil (fun _ => 0)) hm (by omega) (by omega) hmo hτ
    (fun j hj => ?_) (fun j hj w' hm' _ => ?_) (fun j hj => ?_) (fun j hj => ?_) (fun j hj => ?_) ?_).mono ?_
  · obtain rfl : j = 0 := by omega
    exact (Sg.odds_le (by show τ0.acc ≤ τ0.acc + 1; omega)).symm
  · obtain rfl : j = 0 := by omega
    have hm' : MM w' P τ0.stp := hm'
    exact edoL (m := 0) hm' hk t0.nf (by omega) (by rw [show (τ0.stp.Ts k).fs 0 = _ from t0.fs]) fun w2 ps fvs hp => leaveP hp hk t0.nf (by omega) (by show 0 ≤ τ0.acc; omega) (by show τ0.acc < _; omega) (by show (τ0.Ts k).ss 1 = _; rw [t0.ss]; exact hpin)
  · obtain rfl : j = 0 := by omega
    show 0 ≤ τ0.steps ∧ τ0.steps < _; omega
  · show _ ≤ (τ0.acc) - (if j = 0 then τ0 else _).acc ∧ (τ0.acc) - (if j = 0 then τ0 else _).acc < _
    obtain rfl : j = 0 := by omega
    rw [if_pos rfl]; omega
  · obtain rfl : j = 0 := by omega
    show 0 < (τ0.Ts k).nf ∧ (τ0.Ts k).nf ≤ _
    rw [t0.nf]; omega
  · show ((backS k τ0.stp).Ts k).nf ≤ 0
    unfold backS Sg.thr Th.backT; simp only [if_true]
    show (τ0.Ts k).nf - 1 ≤ 0
    rw [t0.nf]; omega
  · rintro _ w' ⟨rfl, hm', hk'⟩
    rw [if_neg (by decide)] at hm'
    refine ⟨rfl, _, hm', hk', ⟨?_, ?_, fun i hi => ?_, ?_, ?_, ?_, ⟨?_, ?_, ?_, ?_⟩, t0.ok⟩⟩
    · show τ0.f = _; rw [hf0]
    · unfold backS Sg.thr Th.backT; simp only [if_true]; show (τ0.Ts k).nf - 1 = 0; rw [t0.nf]
    · unfold backS Sg.thr; simp only [if_neg hi]; exact t0.oth i hi
    · unfold backS Sg.thr Th.backT; simp
    · unfold backS Sg.thr Th.backT; simp only [if_true]; show (τ0.Ts k).ss 1 = _; rw [t0.ss]
    · unfold backS Sg.thr Th.backT; simp only [if_true]; show (τ0.Ts k).ss 3 = _; rw [t0.ss]
    · show _ ≤ τ0.acc; omega
    · show τ0.acc ≤ _; omega
    · show _ ≤ τ0.steps + 1; omega
    · show τ0.steps + 1 ≤ _; omega
theorem aLeave {w : World} {P : Pc} {σ : Sg} (h : MM w P σ) {k most : Nat} (hk : k < P.t) (hm : (σ.Ts k).nf = 0) (hmo : most ≤ 1000000) (a0 : 0 ≤ σ.acc) (a1 : σ.acc < 900000) (s0 : 0 ≤ σ.steps) (s1 : σ.steps < 900000) (h4 : 1 ≤ most) (hpin : (σ.Ts k).ss 1 = .bool false) :
    Calls Try.prog 11 #[.pointer (some ⟨P.q, 0, none⟩), .int .i64 k, .func (.func 12) #[] #[], .int .i64 most, .int .i64 11, .slice none 0 0] w fun x w' => x = .returned (.tuple #[.int .i64 1, .bool true]) ∧ ∃ σ', MM w' P σ' ∧ KA P.B P.N w w' ∧ EOut σ σ' k (Mm.upd σ.f (aI k) 0) 1 0 ((σ.Ts k).ss 3) := by
  have t0 := EAt.call hm 11
  obtain ⟨τ0, hτ⟩ : ∃ τ0, τ0 = σ.thr k (Th.callT (σ.Ts k) 11 0 fun _ => 0) := ⟨_, rfl⟩
  have hf0 : τ0.f = σ.f := by rw [hτ]; rfl
  rw [← hτ] at t0
  have hac := t0.ac
  refine (malone (L := 1) (n0 := 0) (τ := fun j => if j = 0 then τ0 else leaveS k τ0.stp) (ρ := fun _ => leaveS k τ0.stp) h hk cfE (Th.UR.nil (fun _ => 0)) hm (by omega) (by omega) hmo hτ
    (fun j hj => ?_) (fun j hj w' hm' _ => ?_) (fun j hj => ?_) (fun j hj => ?_) (fun j hj => ?_) ?_).mono ?_
  · obtain rfl : j = 0 := by omega
    exact (Sg.odds_le (by show τ0.acc + 1 ≤ τ0.acc + 1; omega)).symm
  · obtain rfl : j = 0 := by omega
    have hm' : MM w' P τ0.stp := hm'
    exact edoL (m := 0) hm' hk t0.nf (by omega) (by rw [show (τ0.stp.Ts k).fs 0 = _ from t0.fs]) fun w2 ps fvs hp => leaveN hp hk t0.nf (by omega) (by show 0 ≤ τ0.acc; omega) (by show τ0.acc < _; omega) (by show (τ0.Ts k).ss 1 = _; rw [t0.ss]; exact hpin)
  · obtain rfl : j = 0 := by omega
    show 0 ≤ τ0.steps ∧ τ0.steps < _; omega
  · show _ ≤ (τ0.acc + 1) - (if j = 0 then τ0 else _).acc ∧ (τ0.acc + 1) - (if j = 0 then τ0 else _).acc < _
    obtain rfl : j = 0 := by omega
    rw [if_pos rfl]; omega
  · obtain rfl : j = 0 := by omega
    show 0 < (τ0.Ts k).nf ∧ (τ0.Ts k).nf ≤ _
    rw [t0.nf]; omega
  · show ((leaveS k τ0.stp).Ts k).nf ≤ 0
    unfold leaveS Sg.thr Th.backT; simp only [if_true]
    show (τ0.Ts k).nf - 1 ≤ 0
    rw [t0.nf]; omega
  · rintro _ w' ⟨rfl, hm', hk'⟩
    rw [if_neg (by decide)] at hm'
    refine ⟨rfl, _, hm', hk', ⟨?_, ?_, fun i hi => ?_, ?_, ?_, ?_, ⟨?_, ?_, ?_, ?_⟩, t0.ok⟩⟩
    · show Mm.upd τ0.f (aI k) 0 = _; rw [hf0]
    · unfold leaveS Sg.thr Th.backT; simp only [if_true]; show (τ0.Ts k).nf - 1 = 0; rw [t0.nf]
    · unfold leaveS Sg.thr; simp only [if_neg hi]; exact t0.oth i hi
    · unfold leaveS Sg.thr Th.backT; simp
    · unfold leaveS Sg.thr Th.backT; simp only [if_true]; show (τ0.Ts k).ss 1 = _; rw [t0.ss]
    · unfold leaveS Sg.thr Th.backT; simp only [if_true]; show (τ0.Ts k).ss 3 = _; rw [t0.ss]
    · show _ ≤ τ0.acc + 1; omega
    · show τ0.acc + 1 ≤ _; omega
    · show _ ≤ τ0.steps + 1; omega
    · show τ0.steps + 1 ≤ _; omega
theorem aEnter {w : World} {P : Pc} {σ : Sg} (h : MM w P σ) {k most : Nat} (hk : k < P.t) (hm : (σ.Ts k).nf = 0) (hmo : most ≤ 1000000) (a0 : 0 ≤ σ.acc) (a1 : σ.acc < 900000) (s0 : 0 ≤ σ.steps) (s1 : σ.steps < 900000) (h4 : 3 ≤ most) (hpin : (σ.Ts k).ss 1 = .bool false) (hw : 1 ≤ σ.f 1) :
    Calls Try.prog 11 #[.pointer (some ⟨P.q, 0, none⟩), .int .i64 k, .func (.func 12) #[] #[], .int .i64 most, .int .i64 10, .slice none 0 0] w fun x w' => x = .returned (.tuple #[.int .i64 3, .bool true]) ∧ ∃ σ', MM w' P σ' ∧ KA P.B P.N w w' ∧ EOut σ σ' k (Mm.upd σ.f (aI k) (actI (σ.f 1))) 3 0 (.int .u64 (σ.f 1 - 1)) := by
  have hrg := h.c.mem.rng 1 (by have := h.bd; omega)
  have t0 := EAt.call hm 10
  obtain ⟨τ0, hτ⟩ : ∃ τ0, τ0 = σ.thr k (Th.callT (σ.Ts k) 10 0 fun _ => 0) := ⟨_, rfl⟩
  have hf0 : τ0.f = σ.f := by rw [hτ]; rfl
  rw [← hτ] at t0
  have hpp : ∀ {x : Sg} {F : Th.Fm} {a b : Nat}, EAt σ x k F a b → (x.stp.Ts k).ss 1 = .bool false := fun {x F a b} hx => by show (x.Ts k).ss 1 = _; rw [hx.ss]; exact hpin
  obtain ⟨τ1, h1⟩ : ∃ τ1, τ1 = enter0S P k 0 τ0.stp := ⟨_, rfl⟩
  have t1 : EAt σ τ1 k ⟨10, 1, updr (fun i => if i < 0 then 0 else 0) 0 (σ.f 1)⟩ 1 1 := by
    have := t0.set (F' := ⟨10, 1, updr (fun i => if i < 0 then 0 else 0) 0 (σ.f 1)⟩) (f' := τ0.f)
    rw [h1]; unfold enter0S
    rw [show (τ0.stp.Ts k).fs 0 = _ from t0.fs, show τ0.stp.f 1 = σ.f 1 from by show τ0.f 1 = _; rw [hf0]]
    exact this
  have hf1 : τ1.f = σ.f := by rw [h1]; exact hf0
  obtain ⟨τ2, h2⟩ : ∃ τ2, τ2 = enter1S P k 0 τ1.stp := ⟨_, rfl⟩
  have t2 : EAt σ τ2 k ⟨10, 2, updr (fun i => if i < 0 then 0 else 0) 0 (σ.f 1)⟩ 2 2 := by
    have := t1.set (F' := ⟨10, 2, updr (fun i => if i < 0 then 0 else 0) 0 (σ.f 1)⟩) (f' := Mm.upd τ1.f (aI k) (actI (σ.f 1)))
    rw [h2]; unfold enter1S
    rw [show (τ1.stp.Ts k).fs 0 = _ from t1.fs]
    exact this
  have hf2 : τ2.f = Mm.upd σ.f (aI k) (actI (σ.f 1)) := by
    rw [h2]; unfold enter1S
    rw [show (τ1.stp.Ts k).fs 0 = _ from t1.fs]
    show Mm.upd τ1.f (aI k) _ = _
    rw [hf1]; rfl
  have hf21 : τ2.f 1 = σ.f 1 := by rw [hf2]; unfold Mm.upd; rw [if_neg (by unfold aI; omega)]
  obtain ⟨τ3, h3⟩ : ∃ τ3, τ3 = enter2S P k 0 τ2.stp := ⟨_, rfl⟩
  have a0' := t0.ac; have a1' := t1.ac; have a2' := t2.ac
  have a3' : τ3.acc = τ2.acc + 1 ∧ τ3.steps = τ2.steps + 1 := by rw [h3]; exact ⟨rfl, rfl⟩
  have n3 : (τ3.Ts k).nf = 0 := by
    rw [h3]; unfold enter2S Sg.thr Th.backT setS; simp only [if_true]; show (τ2.Ts k).nf - 1 = 0; rw [t2.nf]
  refine (malone (L := 3) (n0 := 0) (τ := fun j => if j = 0 then τ0 else if j = 1 then τ1 else if j = 2 then τ2 else τ3) (ρ := fun j => if j = 0 then τ1 else if j = 1 then τ2 else τ3) h hk cfE (Th.UR.nil (fun _ => 0)) hm (by omega) (by omega) hmo hτ
    (fun j hj => ?_) (fun j hj w' hm' _ => ?_) (fun j hj => ?_) (fun j hj => ?_) (fun j hj => ?_) ?_).mono ?_
  · rcases (by omega : j = 0 ∨ j = 1 ∨ j = 2) with rfl | rfl | rfl
    · exact (Sg.odds_le (by show τ1.acc ≤ τ0.acc + 1; omega)).symm
    · exact (Sg.odds_le (by show τ2.acc ≤ τ1.acc + 1; omega)).symm
    · exact (Sg.odds_le (by show τ3.acc ≤ τ2.acc + 1; omega)).symm
  · rcases (by omega : j = 0 ∨ j = 1 ∨ j = 2) with rfl | rfl | rfl
    · show Calls _ _ _ _ fun x w'' => x = _ ∧ MM w'' P τ1 ∧ _
      have hm' : MM w' P τ0.stp := hm'
      rw [h1]
      exact edoE (m := 0) hm' hk t0.nf (by omega) (by rw [show (τ0.stp.Ts k).fs 0 = _ from t0.fs]) fun w2 ps fvs hp => enter0 hp hk t0.nf (by omega) (by show 0 ≤ τ0.acc; omega) (by show τ0.acc < _; omega) (hpp t0) (by rw [show (τ0.stp.Ts k).fs 0 = _ from t0.fs])
    · show Calls _ _ _ _ fun x w'' => x = _ ∧ MM w'' P τ2 ∧ _
      have hm' : MM w' P τ1.stp := hm'
      rw [h2]
      exact edoE (m := 0) hm' hk t1.nf (by omega) (by rw [show (τ1.stp.Ts k).fs 0 = _ from t1.fs]) fun w2 ps fvs hp => enter1 hp hk t1.nf (by omega) (by show 0 ≤ τ1.acc; omega) (by show τ1.acc < _; omega) (hpp t1) (by rw [show (τ1.stp.Ts k).fs 0 = _ from t1.fs]) (by rw [show (τ1.stp.Ts k).fs 0 = _ from t1.fs]; simp [updr]; omega)
    · show Calls _ _ _ _ fun x w'' => x = _ ∧ MM w'' P τ3 ∧ _
      have hm' : MM w' P τ2.stp := hm'
      rw [h3]
      exact edoE (m := 0) hm' hk t2.nf (by omega) (by rw [show (τ2.stp.Ts k).fs 0 = _ from t2.fs]) fun w2 ps fvs hp => enter2 hp hk t2.nf (by omega) (by show 0 ≤ τ2.acc; omega) (by show τ2.acc < _; omega) (hpp t2) (by rw [show (τ2.stp.Ts k).fs 0 = _ from t2.fs]) (by show 1 ≤ τ2.f 1; rw [hf21]; exact hw)
  · rcases (by omega : j = 0 ∨ j = 1 ∨ j = 2) with rfl | rfl | rfl
    · show 0 ≤ τ0.steps ∧ τ0.steps < _; omega
    · show 0 ≤ τ1.steps ∧ τ1.steps < _; omega
    · show 0 ≤ τ2.steps ∧ τ2.steps < _; omega
  · rcases (by omega : j = 0 ∨ j = 1 ∨ j = 2) with rfl | rfl | rfl
    · show _ ≤ τ1.acc - τ0.acc ∧ τ1.acc - τ0.acc < _; omega
    · show _ ≤ τ2.acc - τ1.acc ∧ τ2.acc - τ1.acc < _; omega
    · show _ ≤ τ3.acc - τ2.acc ∧ τ3.acc - τ2.acc < _; omega
  · rcases (by omega : j = 0 ∨ j = 1 ∨ j = 2) with rfl | rfl | rfl
    · show 0 < (τ0.Ts k).nf ∧ (τ0.Ts k).nf ≤ _; rw [t0.nf]; omega
    · show 0 < (τ1.Ts k).nf ∧ (τ1.Ts k).nf ≤ _; rw [t1.nf]; omega
    · show 0 < (τ2.Ts k).nf ∧ (τ2.Ts k).nf ≤ _; rw [t2.nf]; omega
  · show (τ3.Ts k).nf ≤ 0; omega
  · rintro _ w' ⟨rfl, hm', hk'⟩
    have hm' : MM w' P τ3 := hm'
    refine ⟨rfl, τ3, hm', hk', ⟨?_, n3, fun i hi => ?_, ?_, ?_, ?_, by omega, ?_⟩⟩
    · rw [h3]; exact hf2
    · rw [h3]; unfold enter2S Sg.thr; simp only [if_neg hi]; exact t2.oth i hi
    · rw [h3]; unfold enter2S Sg.thr Th.backT; simp
    · rw [h3]; unfold enter2S Sg.thr Th.backT setS; simp only [if_true]; show (if (1 : Nat) = 3 then _ else (τ2.Ts k).ss 1) = _; rw [if_neg (by decide), t2.ss]
    · rw [h3]; unfold enter2S Sg.thr Th.backT setS; simp only [if_true]; show Value.int .u64 (τ2.f 1 - 1) = _; rw [hf21]
    · rw [h3]; exact t2.ok
/-- The states of Advance, where the first so many don't lag. -/
def avS (P : Pc) (k : Nat) (σ : Sg) : Nat → Sg
  | 0 => σ.thr k (Th.callT (σ.Ts k) 12 0 fun _ => 0)
  | 1 => enter0S P k 0 (avS P k σ 0).stp
  | j + 2 => if j + 1 = P.t then adv1eS k 0 (avS P k σ (j + 1)).stp else adv1nS k 0 (avS P k σ (j + 1)).stp
theorem updr_updr (r : Nat → Int) (a : Nat) (x y : Int) : updr (updr r a x) a y = updr r a y := by
  funext i; unfold updr
  by_cases e : i = a
  · rw [if_pos e, if_pos e]
  · rw [if_neg e, if_neg e, if_neg e]
theorem av_at {P : Pc} {k : Nat} {σ : Sg} (hm : (σ.Ts k).nf = 0) : ∀ j, j ≤ P.t → EAt σ (avS P k σ (j + 1)) k ⟨12, if j = P.t ∧ 0 < j then 2 else 1, updr (updr (fun i => if i < 0 then 0 else 0) 0 (σ.f 1)) 1 j⟩ (j + 1) (j + 1) ∧ (avS P k σ (j + 1)).f = σ.f
  | 0, _ => by
    have t0 := EAt.call hm 12
    have e : (avS P k σ 1) = { (avS P k σ 0).stp.thr k (setF ((avS P k σ 0).Ts k) 0 ⟨12, 1, updr (fun i => if i < 0 then 0 else 0) 0 (σ.f 1)⟩) with acc := (avS P k σ 0).acc + 1, f := σ.f } := by
      show enter0S P k 0 (avS P k σ 0).stp = _
      unfold enter0S
      rw [show ((avS P k σ 0).stp.Ts k).fs 0 = _ from t0.fs]; rfl
    have er : updr (updr (fun i => if i < 0 then (0 : Int) else 0) 0 (σ.f 1)) 1 ((0 : Nat) : Int) = updr (fun i => if i < 0 then 0 else 0) 0 (σ.f 1) := by
      funext i; unfold updr
      by_cases h1 : i = 1
      · subst h1; simp
      · rw [if_neg h1]
    rw [er, if_neg (by omega), e]
    exact ⟨EAt.set (σ := avS P k σ 0) t0, rfl⟩
  | j + 1, hj => by
    obtain ⟨t1, f1⟩ := av_at (P := P) hm j (by omega)
    rw [if_neg (by omega)] at t1
    by_cases hl : j + 1 = P.t
    · have e : (avS P k σ (j + 2)) = { (avS P k σ (j + 1)).stp.thr k (setF ((avS P k σ (j + 1)).Ts k) 0 ⟨12, 2, updr (updr (fun i => if i < 0 then 0 else 0) 0 (σ.f 1)) 1 ((j + 1 : Nat) : Int)⟩) with acc := (avS P k σ (j + 1)).acc + 1, f := σ.f } := by
        show (if j + 1 = P.t then adv1eS k 0 (avS P k σ (j + 1)).stp else adv1nS k 0 (avS P k σ (j + 1)).stp) = _
        rw [if_pos hl]
        unfold adv1eS
        rw [show ((avS P k σ (j + 1)).stp.Ts k).fs 0 = _ from t1.fs, ← f1]
        have e2 : updr (updr (updr (fun i => if i < 0 then (0 : Int) else 0) 0 ((avS P k σ (j + 1)).f 1)) 1 j) 1 (updr (updr (fun i => if i < 0 then (0 : Int) else 0) 0 ((avS P k σ (j + 1)).f 1)) 1 j 1 + 1) = updr (updr (fun i => if i < 0 then (0 : Int) else 0) 0 ((avS P k σ (j + 1)).f 1)) 1 ((j + 1 : Nat) : Int) := by
          rw [updr_updr]; congr 1
        show ({ (avS P k σ (j + 1)).stp.thr k (setF ((avS P k σ (j + 1)).Ts k) 0 ⟨12, 2, _⟩) with acc := (avS P k σ (j + 1)).acc + 1 } : Sg) = _
        rw [e2]; rfl
      rw [if_pos ⟨hl, by omega⟩, e]
      exact ⟨EAt.set t1, rfl⟩
    · have e : (avS P k σ (j + 2)) = { (avS P k σ (j + 1)).stp.thr k (setF ((avS P k σ (j + 1)).Ts k) 0 ⟨12, 1, updr (updr (fun i => if i < 0 then 0 else 0) 0 (σ.f 1)) 1 ((j + 1 : Nat) : Int)⟩) with acc := (avS P k σ (j + 1)).acc + 1, f := σ.f } := by
        show (if j + 1 = P.t then adv1eS k 0 (avS P k σ (j + 1)).stp else adv1nS k 0 (avS P k σ (j + 1)).stp) = _
        rw [if_neg hl]
        unfold adv1nS
        rw [show ((avS P k σ (j + 1)).stp.Ts k).fs 0 = _ from t1.fs, ← f1]
        have e2 : updr (updr (updr (fun i => if i < 0 then (0 : Int) else 0) 0 ((avS P k σ (j + 1)).f 1)) 1 j) 1 (updr (updr (fun i => if i < 0 then (0 : Int) else 0) 0 ((avS P k σ (j + 1)).f 1)) 1 j 1 + 1) = updr (updr (fun i => if i < 0 then (0 : Int) else 0) 0 ((avS P k σ (j + 1)).f 1)) 1 ((j + 1 : Nat) : Int) := by
          rw [updr_updr]; congr 1
        show ({ (avS P k σ (j + 1)).stp.thr k (setF ((avS P k σ (j + 1)).Ts k) 0 ⟨12, 1, _⟩) with acc := (avS P k σ (j + 1)).acc + 1 } : Sg) = _
        rw [e2]; rfl
      rw [if_neg (by omega), e]
      exact ⟨EAt.set t1, rfl⟩
theorem aAdv {w : World} {P : Pc} {σ : Sg} (h : MM w P σ) {k most : Nat} (hk : k < P.t) (hm : (σ.Ts k).nf = 0) (hmo : most ≤ 1000000) (a0 : 0 ≤ σ.acc) (a1 : σ.acc < 900000) (s0 : 0 ≤ σ.steps) (s1 : σ.steps < 900000) (h4 : P.t + 2 ≤ most) (hno : ∀ j, j < P.t → lagsB (σ.f (aI j)) (σ.f 1) = false) (hf1 : σ.f 1 < 18446744073709551615) :
    Calls Try.prog 11 #[.pointer (some ⟨P.q, 0, none⟩), .int .i64 k, .func (.func 12) #[] #[], .int .i64 most, .int .i64 12, .slice none 0 0] w fun x w' => x = .returned (.tuple #[.int .i64 ((P.t + 2 : Nat) : Int), .bool true]) ∧ ∃ σ', MM w' P σ' ∧ KA P.B P.N w w' ∧ EOut σ σ' k (Mm.upd σ.f 1 (σ.f 1 + 1)) (P.t + 2) 1 ((σ.Ts k).ss 3) := by
  have hbd := h.bd
  have hrg := h.c.mem.rng 1 (by omega)
  have t0 := EAt.call hm 12
  have hat := av_at (P := P) (k := k) (σ := σ) hm
  have hac : ∀ j, j ≤ P.t + 1 → (avS P k σ j).acc = σ.acc + j ∧ (avS P k σ j).steps = σ.steps + j ∧ ((avS P k σ j).Ts k).nf = 1 := fun j hj => by
    cases j with
    | zero => exact ⟨t0.ac.1, t0.ac.2, t0.nf⟩
    | succ j => obtain ⟨h1, _⟩ := hat j (by omega); exact ⟨h1.ac.1, h1.ac.2, h1.nf⟩
  obtain ⟨tl, fl⟩ := hat (P.t) (by omega)
  obtain ⟨E, hE⟩ : ∃ E, E = adv2yS k 0 (avS P k σ (P.t + 1)).stp := ⟨_, rfl⟩
  have aE : E.acc = (avS P k σ (P.t + 1)).acc + 1 ∧ E.steps = (avS P k σ (P.t + 1)).steps + 1 := by rw [hE]; exact ⟨rfl, rfl⟩
  have nE : (E.Ts k).nf = 0 := by
    rw [hE]; unfold adv2yS Sg.thr Th.backT; simp only [if_true]; show ((avS P k σ (P.t + 1)).Ts k).nf - 1 = 0; rw [tl.nf]
  refine (malone (L := P.t + 2) (n0 := 0) (τ := fun j => if j < P.t + 2 then avS P k σ j else E) (ρ := fun j => if j + 1 < P.t + 2 then avS P k σ (j + 1) else E) h hk cfE (Th.UR.nil (fun _ => 0)) hm (by omega) (by omega) hmo (by rw [if_pos (by omega)]; rfl)
    (fun j hj => ?_) (fun j hj w' hm' _ => ?_) (fun j hj => ?_) (fun j hj => ?_) (fun j hj => ?_) ?_).mono ?_
  · simp only [if_pos hj]
    have h1 := hac j (by omega)
    by_cases hl : j + 1 < P.t + 2
    · simp only [if_pos hl]
      have h2 := hac (j + 1) (by omega)
      exact (Sg.odds_le (by omega)).symm
    · simp only [if_neg hl]
      obtain rfl : j = P.t + 1 := by omega
      exact (Sg.odds_le (by omega)).symm
  · simp only [if_pos hj] at hm' ⊢
    have h1 := hac j (by omega)
    by_cases hl : j + 1 < P.t + 2
    · simp only [if_pos hl]
      cases j with
      | zero =>
        show Calls _ _ _ _ fun x w'' => x = _ ∧ MM w'' P (enter0S P k 0 (avS P k σ 0).stp) ∧ _
        exact edoA (m := 0) hm' hk h1.2.2 (by omega) (by rw [show ((avS P k σ 0).stp.Ts k).fs 0 = _ from t0.fs]) fun w2 ps fvs hp => adv0 hp hk h1.2.2 (by omega) (by show 0 ≤ (avS P k σ 0).acc; omega) (by show (avS P k σ 0).acc < _; omega) (by rw [show ((avS P k σ 0).stp.Ts k).fs 0 = _ from t0.fs])
      | succ j =>
        obtain ⟨tj, fj⟩ := hat j (by omega)
        rw [if_neg (by omega)] at tj
        have hfs : ((avS P k σ (j + 1)).stp.Ts k).fs 0 = _ := tj.fs
        have hlag : lagsB ((avS P k σ (j + 1)).stp.f (aI j)) ((((avS P k σ (j + 1)).stp.Ts k).fs 0).r 0) = false := by
          rw [hfs, show (avS P k σ (j + 1)).stp.f = σ.f from fj]
          show lagsB (σ.f (aI j)) (updr (updr (fun i => if i < 0 then (0 : Int) else 0) 0 (σ.f 1)) 1 (j : Int) 0) = false
          rw [show updr (updr (fun i => if i < 0 then (0 : Int) else 0) 0 (σ.f 1)) 1 (j : Int) 0 = σ.f 1 by unfold updr; simp]
          exact hno j (by omega)
        have hr0 : 0 ≤ (((avS P k σ (j + 1)).stp.Ts k).fs 0).r 0 ∧ (((avS P k σ (j + 1)).stp.Ts k).fs 0).r 0 < 18446744073709551616 := by
          rw [hfs]
          show 0 ≤ updr (updr (fun i => if i < 0 then (0 : Int) else 0) 0 (σ.f 1)) 1 (j : Int) 0 ∧ updr (updr (fun i => if i < 0 then (0 : Int) else 0) 0 (σ.f 1)) 1 (j : Int) 0 < _
          rw [show updr (updr (fun i => if i < 0 then (0 : Int) else 0) 0 (σ.f 1)) 1 (j : Int) 0 = σ.f 1 by unfold updr; simp]
          omega
        have hr1 : (((avS P k σ (j + 1)).stp.Ts k).fs 0).r 1 = j := by rw [hfs]; show updr (updr (fun i => if i < 0 then (0 : Int) else 0) 0 (σ.f 1)) 1 (j : Int) 1 = _; unfold updr; simp
        show Calls _ _ _ _ fun x w'' => x = _ ∧ MM w'' P (if j + 1 = P.t then adv1eS k 0 (avS P k σ (j + 1)).stp else adv1nS k 0 (avS P k σ (j + 1)).stp) ∧ _
        refine edoA (m := 0) hm' hk h1.2.2 (by omega) (by rw [hfs]) fun w2 ps fvs hp => ?_
        by_cases he : j + 1 = P.t
        · rw [if_pos he]
          exact adv1e hp hk h1.2.2 (by omega) (by show 0 ≤ (avS P k σ (j + 1)).acc; omega) (by show (avS P k σ (j + 1)).acc < _; omega) (by rw [hfs]) hr0 ⟨hr1, by omega⟩ hlag he
        · rw [if_neg he]
          exact adv1n hp hk h1.2.2 (by omega) (by show 0 ≤ (avS P k σ (j + 1)).acc; omega) (by show (avS P k σ (j + 1)).acc < _; omega) (by rw [hfs]) hr0 ⟨hr1, by omega⟩ hlag (by omega)
    · simp only [if_neg hl]
      obtain rfl : j = P.t + 1 := by omega
      have hfs : ((avS P k σ (P.t + 1)).stp.Ts k).fs 0 = _ := tl.fs
      rw [hE]
      refine edoA (m := 0) hm' hk h1.2.2 (by omega) (by rw [hfs]) fun w2 ps fvs hp => ?_
      have hr0 : updr (updr (fun i => if i < 0 then (0 : Int) else 0) 0 (σ.f 1)) 1 (P.t : Int) 0 = σ.f 1 := by unfold updr; simp
      have hpos : 0 < P.t := by omega
      exact adv2y hp hk h1.2.2 (by omega) (by show 0 ≤ (avS P k σ (P.t + 1)).acc; omega) (by show (avS P k σ (P.t + 1)).acc < _; omega) (by rw [hfs, if_pos ⟨rfl, hpos⟩]) (by rw [hfs]; show 0 ≤ updr (updr (fun i => if i < 0 then (0 : Int) else 0) 0 (σ.f 1)) 1 (P.t : Int) 0 ∧ updr (updr (fun i => if i < 0 then (0 : Int) else 0) 0 (σ.f 1)) 1 (P.t : Int) 0 < _; rw [hr0]; omega) (by rw [hfs, show (avS P k σ (P.t + 1)).stp.f = σ.f from fl]; show (σ.f 1 == updr (updr (fun i => if i < 0 then (0 : Int) else 0) 0 (σ.f 1)) 1 (P.t : Int) 0) = true; rw [hr0]; exact beq_self_eq_true _)
  · simp only [if_pos hj]
    have h1 := hac j (by omega)
    omega
  · simp only [if_pos hj]
    have h1 := hac j (by omega)
    by_cases hl : j + 1 < P.t + 2
    · simp only [if_pos hl]
      have h2 := hac (j + 1) (by omega)
      omega
    · simp only [if_neg hl]
      obtain rfl : j = P.t + 1 := by omega
      omega
  · simp only [if_pos hj]
    rw [(hac j (by omega)).2.2]; omega
  · simp only [if_neg (Nat.lt_irrefl _)]
    omega
  · rintro _ w' ⟨rfl, hm', hk'⟩
    simp only [if_neg (Nat.lt_irrefl _)] at hm'
    have h1 := hac (P.t + 1) (by omega)
    refine ⟨rfl, E, hm', hk', ⟨?_, nE, fun i hi => ?_, ?_, ?_, ?_, by omega, ?_⟩⟩
    · rw [hE]; unfold adv2yS
      show Mm.upd (avS P k σ (P.t + 1)).f 1 ((((avS P k σ (P.t + 1)).stp.Ts k).fs 0).r 0 + 1) = _
      rw [show ((avS P k σ (P.t + 1)).stp.Ts k).fs 0 = _ from tl.fs, fl]
      show Mm.upd σ.f 1 (updr (updr (fun i => if i < 0 then (0 : Int) else 0) 0 (σ.f 1)) 1 (P.t : Int) 0 + 1) = _
      rw [show updr (updr (fun i => if i < 0 then (0 : Int) else 0) 0 (σ.f 1)) 1 (P.t : Int) 0 = σ.f 1 by unfold updr; simp]
    · rw [hE]; unfold adv2yS Sg.thr; simp only [if_neg hi]; exact tl.oth i hi
    · rw [hE]; unfold adv2yS Sg.thr Th.backT; simp
    · rw [hE]; unfold adv2yS Sg.thr Th.backT; simp only [if_true]; show ((avS P k σ (P.t + 1)).Ts k).ss 1 = _; rw [tl.ss]
    · rw [hE]; unfold adv2yS Sg.thr Th.backT; simp only [if_true]; show ((avS P k σ (P.t + 1)).Ts k).ss 3 = _; rw [tl.ss]
    · rw [hE]; exact tl.ok
theorem aAdvL {w : World} {P : Pc} {σ : Sg} (h : MM w P σ) {k most : Nat} (hk : k < P.t) (hm : (σ.Ts k).nf = 0) (hmo : most ≤ 1000000) (a0 : 0 ≤ σ.acc) (a1 : σ.acc < 900000) (s0 : 0 ≤ σ.steps) (s1 : σ.steps < 900000) {l : Nat} (hlt : l < P.t) (h4 : l + 2 ≤ most) (hno : ∀ j, j < l → lagsB (σ.f (aI j)) (σ.f 1) = false) (hyes : lagsB (σ.f (aI l)) (σ.f 1) = true) :
    Calls Try.prog 11 #[.pointer (some ⟨P.q, 0, none⟩), .int .i64 k, .func (.func 12) #[] #[], .int .i64 most, .int .i64 12, .slice none 0 0] w fun x w' => x = .returned (.tuple #[.int .i64 ((l + 2 : Nat) : Int), .bool true]) ∧ ∃ σ', MM w' P σ' ∧ KA P.B P.N w w' ∧ EOut σ σ' k (σ.f) (l + 2) 0 ((σ.Ts k).ss 3) := by
  have hbd := h.bd
  have hrg := h.c.mem.rng 1 (by omega)
  have t0 := EAt.call hm 12
  have hat := av_at (P := P) (k := k) (σ := σ) hm
  have hac : ∀ j, j ≤ P.t + 1 → (avS P k σ j).acc = σ.acc + j ∧ (avS P k σ j).steps = σ.steps + j ∧ ((avS P k σ j).Ts k).nf = 1 := fun j hj => by
    cases j with
    | zero => exact ⟨t0.ac.1, t0.ac.2, t0.nf⟩
    | succ j => obtain ⟨h1, _⟩ := hat j (by omega); exact ⟨h1.ac.1, h1.ac.2, h1.nf⟩
  obtain ⟨tl, fl⟩ := hat (l) (by omega)
  obtain ⟨E, hE⟩ : ∃ E, E = backAS k 0 (avS P k σ (l + 1)).stp := ⟨_, rfl⟩
  have aE : E.acc = (avS P k σ (l + 1)).acc + 1 ∧ E.steps = (avS P k σ (l + 1)).steps + 1 := by rw [hE]; exact ⟨rfl, rfl⟩
  have nE : (E.Ts k).nf = 0 := by
    rw [hE]; unfold backAS Sg.thr Th.backT; simp only [if_true]; show ((avS P k σ (l + 1)).Ts k).nf - 1 = 0; rw [tl.nf]
  refine (malone (L := l + 2) (n0 := 0) (τ := fun j => if j < l + 2 then avS P k σ j else E) (ρ := fun j => if j + 1 < l + 2 then avS P k σ (j + 1) else E) h hk cfE (Th.UR.nil (fun _ => 0)) hm (by omega) (by omega) hmo (by rw [if_pos (by omega)]; rfl)
    (fun j hj => ?_) (fun j hj w' hm' _ => ?_) (fun j hj => ?_) (fun j hj => ?_) (fun j hj => ?_) ?_).mono ?_
  · simp only [if_pos hj]
    have h1 := hac j (by omega)
    by_cases hl : j + 1 < l + 2
    · simp only [if_pos hl]
      have h2 := hac (j + 1) (by omega)
      exact (Sg.odds_le (by omega)).symm
    · simp only [if_neg hl]
      obtain rfl : j = l + 1 := by omega
      exact (Sg.odds_le (by omega)).symm
  · simp only [if_pos hj] at hm' ⊢
    have h1 := hac j (by omega)
    by_cases hl : j + 1 < l + 2
    · simp only [if_pos hl]
      cases j with
      | zero =>
        show Calls _ _ _ _ fun x w'' => x = _ ∧ MM w'' P (enter0S P k 0 (avS P k σ 0).stp) ∧ _
        exact edoA (m := 0) hm' hk h1.2.2 (by omega) (by rw [show ((avS P k σ 0).stp.Ts k).fs 0 = _ from t0.fs]) fun w2 ps fvs hp => adv0 hp hk h1.2.2 (by omega) (by show 0 ≤ (avS P k σ 0).acc; omega) (by show (avS P k σ 0).acc < _; omega) (by rw [show ((avS P k σ 0).stp.Ts k).fs 0 = _ from t0.fs])
      | succ j =>
        obtain ⟨tj, fj⟩ := hat j (by omega)
        rw [if_neg (by omega)] at tj
        have hfs : ((avS P k σ (j + 1)).stp.Ts k).fs 0 = _ := tj.fs
        have hlag : lagsB ((avS P k σ (j + 1)).stp.f (aI j)) ((((avS P k σ (j + 1)).stp.Ts k).fs 0).r 0) = false := by
          rw [hfs, show (avS P k σ (j + 1)).stp.f = σ.f from fj]
          show lagsB (σ.f (aI j)) (updr (updr (fun i => if i < 0 then (0 : Int) else 0) 0 (σ.f 1)) 1 (j : Int) 0) = false
          rw [show updr (updr (fun i => if i < 0 then (0 : Int) else 0) 0 (σ.f 1)) 1 (j : Int) 0 = σ.f 1 by unfold updr; simp]
          exact hno j (by omega)
        have hr0 : 0 ≤ (((avS P k σ (j + 1)).stp.Ts k).fs 0).r 0 ∧ (((avS P k σ (j + 1)).stp.Ts k).fs 0).r 0 < 18446744073709551616 := by
          rw [hfs]
          show 0 ≤ updr (updr (fun i => if i < 0 then (0 : Int) else 0) 0 (σ.f 1)) 1 (j : Int) 0 ∧ updr (updr (fun i => if i < 0 then (0 : Int) else 0) 0 (σ.f 1)) 1 (j : Int) 0 < _
          rw [show updr (updr (fun i => if i < 0 then (0 : Int) else 0) 0 (σ.f 1)) 1 (j : Int) 0 = σ.f 1 by unfold updr; simp]
          omega
        have hr1 : (((avS P k σ (j + 1)).stp.Ts k).fs 0).r 1 = j := by rw [hfs]; show updr (updr (fun i => if i < 0 then (0 : Int) else 0) 0 (σ.f 1)) 1 (j : Int) 1 = _; unfold updr; simp
        show Calls _ _ _ _ fun x w'' => x = _ ∧ MM w'' P (if j + 1 = P.t then adv1eS k 0 (avS P k σ (j + 1)).stp else adv1nS k 0 (avS P k σ (j + 1)).stp) ∧ _
        refine edoA (m := 0) hm' hk h1.2.2 (by omega) (by rw [hfs]) fun w2 ps fvs hp => ?_
        by_cases he : j + 1 = P.t
        · rw [if_pos he]
          exact adv1e hp hk h1.2.2 (by omega) (by show 0 ≤ (avS P k σ (j + 1)).acc; omega) (by show (avS P k σ (j + 1)).acc < _; omega) (by rw [hfs]) hr0 ⟨hr1, by omega⟩ hlag he
        · rw [if_neg he]
          exact adv1n hp hk h1.2.2 (by omega) (by show 0 ≤ (avS P k σ (j + 1)).acc; omega) (by show (avS P k σ (j + 1)).acc < _; omega) (by rw [hfs]) hr0 ⟨hr1, by omega⟩ hlag (by omega)
    · simp only [if_neg hl]
      obtain rfl : j = l + 1 := by omega
      have hfs : ((avS P k σ (l + 1)).stp.Ts k).fs 0 = _ := tl.fs
      rw [hE]
      refine edoA (m := 0) hm' hk h1.2.2 (by omega) (by rw [hfs]) fun w2 ps fvs hp => ?_
      have hr0 : updr (updr (fun i => if i < 0 then (0 : Int) else 0) 0 (σ.f 1)) 1 (l : Int) 0 = σ.f 1 := by unfold updr; simp
      exact adv1l hp hk h1.2.2 (by omega) (by show 0 ≤ (avS P k σ (l + 1)).acc; omega) (by show (avS P k σ (l + 1)).acc < _; omega) (by rw [hfs, if_neg (by omega)]) (by rw [hfs]; show 0 ≤ updr (updr (fun i => if i < 0 then (0 : Int) else 0) 0 (σ.f 1)) 1 (l : Int) 0 ∧ updr (updr (fun i => if i < 0 then (0 : Int) else 0) 0 (σ.f 1)) 1 (l : Int) 0 < _; rw [hr0]; omega) ⟨by rw [hfs]; show updr (updr (fun i => if i < 0 then (0 : Int) else 0) 0 (σ.f 1)) 1 (l : Int) 1 = _; unfold updr; simp, hlt⟩ (by rw [hfs, show (avS P k σ (l + 1)).stp.f = σ.f from fl]; show lagsB (σ.f (aI l)) (updr (updr (fun i => if i < 0 then (0 : Int) else 0) 0 (σ.f 1)) 1 (l : Int) 0) = true; rw [hr0]; exact hyes)
  · simp only [if_pos hj]
    have h1 := hac j (by omega)
    omega
  · simp only [if_pos hj]
    have h1 := hac j (by omega)
    by_cases hl : j + 1 < l + 2
    · simp only [if_pos hl]
      have h2 := hac (j + 1) (by omega)
      omega
    · simp only [if_neg hl]
      obtain rfl : j = l + 1 := by omega
      omega
  · simp only [if_pos hj]
    rw [(hac j (by omega)).2.2]; omega
  · simp only [if_neg (Nat.lt_irrefl _)]
    omega
  · rintro _ w' ⟨rfl, hm', hk'⟩
    simp only [if_neg (Nat.lt_irrefl _)] at hm'
    have h1 := hac (l + 1) (by omega)
    refine ⟨rfl, E, hm', hk', ⟨?_, nE, fun i hi => ?_, ?_, ?_, ?_, by omega, ?_⟩⟩
    · rw [hE]; exact fl
    · rw [hE]; unfold backAS Sg.thr; simp only [if_neg hi]; exact tl.oth i hi
    · rw [hE]; unfold backAS Sg.thr Th.backT; simp
    · rw [hE]; unfold backAS Sg.thr Th.backT; simp only [if_true]; show ((avS P k σ (l + 1)).Ts k).ss 1 = _; rw [tl.ss]
    · rw [hE]; unfold backAS Sg.thr Th.backT; simp only [if_true]; show ((avS P k σ (l + 1)).Ts k).ss 3 = _; rw [tl.ss]
    · rw [hE]; exact tl.ok
end Go.Proofs.Ytjpkmkaiojnhgaa

/- Layer 18: the epoch and all announcements, as words have them; what lives asks. -/
namespace Go.Proofs.Ytjpkmkaiojnhgaa
open Go.RowKit WordM EdgeM
set_option linter.unusedVariables false
set_option linter.unusedSimpArgs false
theorem MM.ret {w : World} {P : Pc} {σ : Sg} (h : MM w P σ) {k : Nat} (hk : k < P.t) {i : Nat} (hi : i < 12) : w.cell? ⟨P.tq k, i, none⟩ = some (.int .u64 ((σ.Ts k).ret i)) := by
  obtain ⟨ps, fvs, tf⟩ := h.th
  rw [(tf.th k hk).a.blk.get (i := i) (by omega)]
  unfold Th.thF; rw [if_pos hi]
theorem MM.ss {w : World} {P : Pc} {σ : Sg} (h : MM w P σ) {k : Nat} (hk : k < P.t) {i : Nat} (hi : i < 12) : w.cell? ⟨P.tq k, 12 + i, none⟩ = some ((σ.Ts k).ss i) := by
  obtain ⟨ps, fvs, hp⟩ := h.mp
  exact hp.ss hk i hi
theorem belowC {B : Nat} {w W : World} (h : Below B w W) {b i : Nat} (hb : B ≤ b) (v : Value) : Below B w (W.setCell ⟨b, i, none⟩ v) := h.setCell (p := ⟨b, i, none⟩) hb v
theorem ucells_succ (n : Nat) (f : Nat → Int) : Th.ucells (n + 1) f = Th.ucells n f ++ [.int .u64 (f n)] := by
  unfold Th.ucells; rw [List.range_succ, List.map_append]; rfl
theorem MC.p2 {w : World} {B q pl mb mg C gq gg gm : Nat} {fv : Value} {tq : Nat → Nat} {t s : Nat} {K : Int} {f : Nat → Int} {acc : Int} {flt : Bool} {H : Nat → Bool} {G : Nat → Int} {sl steps : Int} {odd : Bool} (h : MC w B q pl mb mg C gq gg gm fv tq t s K f acc flt H G sl steps odd) : w.cell? ⟨pl, 2, none⟩ = some (.int .u64 K) := Th.newcell h.pln 2 _ rfl
/-- The epoch, and all announcements. -/
def nowL (t : Nat) (f : Nat → Int) : List Value := Th.ucells t fun j => f (aI j)
set_option maxRecDepth 16000 in
set_option maxHeartbeats 4000000 in
theorem lnow {w : World} {P : Pc} {σ : Sg} (h : MM w P σ) : Calls Try.prog 14 #[.pointer (some ⟨P.q, 0, none⟩)] w fun e w' => ∃ sv, e = .returned (.agg #[.int .u64 (σ.f 1), sv]) ∧ Th.OwnL 27 w' w.heap.size sv P.t (nowL P.t σ.f) ∧ Below w.heap.size w w' := by
  refine Calls.veil fun Q HQ => ?_
  have HH := Lib.hid h
  have hbd := h.bd
  have HBD := Lib.hid hbd
  clear h
  go_enter Try.func14, Try.ntmps14
  go_upto_region 1 with fail
  generalize hV : World.alloc _ _ = U
  obtain ⟨u0, hbu⟩ := Th.heapnewE hV
  obtain ⟨b2, hb2⟩ : ∃ b2, b2 = w.heap.size := ⟨_, rfl⟩
  rw [← hb2] at u0 ⊢
  have HU := Lib.hid u0; have HBU := Lib.hid hbu; have HM1 := Lib.hid (HH.out.below hbu); have HBE := Lib.hid hb2
  clear hV u0 hbu hb2
  go_wp2_with fail
  refine (cMem HM1.out.c).mono ?_; rintro _ _ ⟨rfl, rfl⟩
  go_wp2_with fail
  refine (Mm.mwords _ _ _ _ _ _ _ _ HM1.out.c.mem).mono ?_; rintro _ w2 ⟨g1, C1, rfl, hg1, hC1, hC2, hr1, hb⟩
  have HM2 := Lib.hid (HM1.out.below hb); have HB2 := Lib.hid (below_on HBU.out hb); have HU2 := Lib.hid (Th.up hb HU.out); have HR2 := Lib.hid hr1
  clear hb hg1 hr1 HM1 HU HBU
  go_wp2_with fail
  refine (cPlan HM2.out.c).mono ?_; rintro _ _ ⟨rfl, rfl⟩
  go_wp2_with fail
  refine (pconf_calls _ _ _ _ _ HM2.out.c.p0 HM2.out.c.p1 HM2.out.c.p2).mono ?_; rintro _ w3 ⟨rfl, hb⟩
  have HB3 := Lib.hid (below_on HB2.out hb); have HU3 := Lib.hid (Th.up hb HU2.out); have HR3 := Lib.hid (HR2.out.below hb)
  clear hb HM2 HB2 HU2 HR2
  go_upto_region 4 with fail
  generalize hV : World.alloc _ _ = V
  obtain ⟨u4, u5, hbv⟩ := heap2c hV
  obtain ⟨b5, hb5⟩ : ∃ z, z = w3.heap.size + 1 := ⟨_, rfl⟩
  rw [← hb5] at u5 ⊢
  obtain ⟨b4, hb4⟩ : ∃ z, z = w3.heap.size := ⟨_, rfl⟩
  rw [← hb4] at u4 ⊢
  have HBV := Lib.hid (below_on HB3.out hbv); have HUV := Lib.hid (Th.up hbv HU3.out); have HRV := Lib.hid (HR3.out.below hbv)
  have HLT := Lib.hid (show b2 < b4 ∧ b4 < b5 ∧ g1 < b4 ∧ w.heap.size ≤ b2 from by have h1 := Th.blk_lt HU3.out; have h2 := HR3.out.lt; have h3 := HBE.out; omega)
  have c0 := Th.newcell u4 0 _ rfl; have c1 := Th.newcell u4 1 _ rfl; have c2 := Th.newcell u4 2 _ rfl
  have H4 := Lib.hid u4; have H5 := Lib.hid u5
  clear hV u4 u5 hbv hb5 hb4 HB3 HU3 HR3
  obtain ⟨n, hn⟩ : ∃ n, n = 3 + 8 * P.t + 7 * P.s := ⟨_, rfl⟩
  have HN := Lib.hid hn
  rw [← hn] at HRV hC1 ⊢
  go_wp2_with fail
  refine (rwords_calls P.t P.s P.K _ (by omega) (by omega) (by omega) (by omega)).mono ?_; rintro _ w4 ⟨v, rfl, hv, hb⟩
  rw [← hn] at hv
  rw [show (3 + 8 * (P.t : Int) + 7 * (P.s : Int)) = (n : Int) from by omega]
  obtain ⟨vg, vc, rfl⟩ : ∃ g c, v = .slice (some ⟨g, 0, none⟩) n c := by
    rcases hv.2 with ⟨_, h0⟩ | ⟨g, cap, cur, rfl, _⟩
    · omega
    · exact ⟨g, cap, rfl⟩
  have HB4 := Lib.hid (below_on HBV.out hb); have HU4 := Lib.hid (Th.up hb HUV.out); have HR4 := Lib.hid (HRV.out.below hb); have H44 := Lib.hid (Th.up hb H4.out); have H54 := Lib.hid (Th.up hb H5.out)
  clear hv hb c0 c1 c2 HBV HUV HRV H4 H5
  have hn3 : 3 + 8 * P.t ≤ n := by omega
  have hn9 : n ≤ 4000 := by omega
  clear hn
  have r1 : w4.cell? ⟨g1, 1, none⟩ = some (.int .u64 (σ.f 1)) := HR4.out.row 1 (by omega)
  have e0 := Th.newcell H54.out 0 _ rfl
  have ef : ∀ i, w4.frozen? ⟨b5, i, none⟩ = false := fun i => frozen_of_row _ _ _ _ _ H54.out
  have h1n : (1 : Int) < n := by omega
  go_upto_region 7 with fail
  clear r1 e0 ef h1n
  generalize hW : World.setCell _ _ _ = W
  have h5W := heap_setCell_same _ b5 0 _ _ (.int .u64 (σ.f 1)) H54.out
  rw [hW] at h5W
  have h5W : W.heap[b5]? = some (.cells #[.int .u64 (σ.f 1), .slice none 0 0] 33 (0, 0)) := h5W
  have hkW : Below b5 w4 W := by rw [← hW]; exact belowC (show Below b5 w4 w4 from ⟨rfl, rfl, rfl, Nat.le_refl _, fun _ _ => rfl⟩) (Nat.le_refl _) _
  have H5W := Lib.hid h5W; have HKW := Lib.hid hkW
  have HWS := Lib.hid (show b5 < W.heap.size from Th.blk_lt h5W)
  clear hW h5W hkW
  go_wp2_with fail
  go_loopw [6] (fun iv wr => ∃ j : Nat, j ≤ P.t ∧ iv = .int .i64 j ∧ ∃ sv, Hid (wr.heap[b5]? = some (.cells #[.int .u64 (σ.f 1), sv] 33 (0, 0))) ∧ Hid (Th.OwnL 27 wr (b5 + 1) sv j (Th.ucells j fun i => σ.f (aI i))) ∧ Hid (Below b5 w4 wr)) (fun iv _ => P.t - (intOf iv).toNat)
  case atStart => exact ⟨0, Nat.zero_le _, rfl, _, H5W, Lib.hid (Th.OwnL.nil _ _), HKW⟩
  case round =>
    clear H5W HKW
    obtain ⟨j, hj, rfl, sv, HE, HO, HK⟩ := hrel
    obtain ⟨sa, sc, rfl, _, _⟩ := HO.out.slice
    have h4r : wr.heap[b4]? = _ := (HK.out.block b4 (by have := HLT.out; omega)).trans H44.out
    have o0 := Th.newcell h4r 0 _ rfl
    have H4R := Lib.hid h4r
    clear h4r
    rcases (by omega : j < P.t ∨ j = P.t) with hlt | heq
    · have hji : (j : Int) < P.t := by omega
      go_upto_region 10 with fail
      clear o0
      obtain ⟨a, ha⟩ : ∃ a : Nat, a = aI j := ⟨_, rfl⟩
      have hab : a = 3 + 8 * j := by rw [ha]; unfold aI; omega
      have HA := Lib.hid ha
      have haj : 3 + 8 * (j : Int) = (a : Int) := by omega
      have hm8 : IntKind.i64.wrap (8 * (j : Int)) = 8 * j := by rw [IntKind.wrap_i64]; omega
      have hm3 : IntKind.i64.wrap (3 + 8 * (j : Int)) = (a : Int) := by rw [IntKind.wrap_i64]; omega
      have hma : IntKind.i64.wrap (a : Int) = (a : Int) := by rw [IntKind.wrap_i64]; omega
      have han : (a : Int) < n := by omega
      have HAN := Lib.hid (show a < n by omega)
      clear ha hab
      have hrr : Mm.RowAt wr g1 n σ.f := HR4.out.keep (by have := HK.out.size; omega) (HK.out.block g1 (by have := HLT.out; omega))
      have HRR := Lib.hid hrr
      clear hrr
      have HL1 := Lib.hid (show ∀ y : Ext wr, (Instr.loadAt 31 (.pointer (some ⟨b5, 1, none⟩))).run Try.prog y.w = .ok (.slice sa j sc) y.w from fun y => by (have hc := Ext.use (Ext.cells (Th.newcell HE.out 1 _ rfl)) y.h; clear haj hm8 hm3 hma han; go_simp))
      have HL7 := Lib.hid (show ∀ y : Ext wr, (Instr.loadAt 27 (.pointer (some ⟨g1, a, none⟩))).run Try.prog y.w = .ok (.int .u64 (σ.f a)) y.w from fun y => by (have hc := Ext.use (Ext.cells (HRR.out.row a HAN.out)) y.h; clear haj hm8 hm3 hma han; go_simp))
      refine Th.wp_region_K (fun w' => ∃ y : Ext wr, w' = y.w) 9 (by decide +kernel) ?_
      generalize hwd : World.drew wr = wd
      have hbd : Below wr.heap.size wr wd := by rw [← hwd]; exact (Below.refl _ _).drew
      have hsz : b5 < wd.heap.size := Nat.lt_of_lt_of_le (Th.blk_lt HE.out) hbd.size
      clear hwd
      obtain ⟨p, c, W2, hrun, ho, hg, hloc⟩ := Th.push1 Th.uU64 Th.infoU64 (by rfl) (Th.OwnL.below HO.out hbd) (.int .u64 (σ.f a)) rfl (by omega) hsz
      have HO2 := Lib.hid ho; have HG2 := Lib.hid hg
      clear ho hg hloc hsz
      (refine Th.wpAnyK_takeY (i := 0) (v := ?_) rfl (by decide +kernel) (by decide +kernel) (by decide +kernel) (by decide) (fun _ _ _ h => h) (Or.inl ⟨by rfl, ?_⟩) (.inr ⟨⟨wd, hbd⟩, rfl⟩) ?_; rotate_left; (intro w; go_simp); (try with_reducible rfl))
      (try simp only [List.getElem_toArray, List.getElem_cons_succ, List.getElem_cons_zero, Act.put, List.setIfInBounds_toArray, List.set_cons_succ, List.set_cons_zero])
      (refine Th.wpAnyK_take (i := 1) (v := .slice sa j sc) [9] rfl (by decide +kernel) (by decide +kernel) (by decide +kernel) (by decide +kernel) (fun _ _ _ h => h) (Th.yields_loadK rfl 31 (.tmp 31) rfl rfl (by rintro _ ⟨y, rfl⟩; exact HL1.out y)) ⟨⟨wd, hbd⟩, rfl⟩ ?_)
      (try simp only [List.getElem_toArray, List.getElem_cons_succ, List.getElem_cons_zero, Act.put, List.setIfInBounds_toArray, List.set_cons_succ, List.set_cons_zero])
      (refine Th.wpAnyK_takeY (i := 2) (v := ?_) rfl (by decide +kernel) (by decide +kernel) (by decide +kernel) (by decide) (fun _ _ _ h => h) (Or.inl ⟨by rfl, ?_⟩) (.inr ⟨⟨wd, hbd⟩, rfl⟩) ?_; rotate_left; (intro w; go_simp); (try with_reducible rfl))
      (try simp only [List.getElem_toArray, List.getElem_cons_succ, List.getElem_cons_zero, Act.put, List.setIfInBounds_toArray, List.set_cons_succ, List.set_cons_zero])
      (refine Th.wpAnyK_takeY (i := 3) (v := ?_) rfl (by decide +kernel) (by decide +kernel) (by decide +kernel) (by decide) (fun _ _ _ h => h) (Or.inl ⟨by rfl, ?_⟩) (.inr ⟨⟨wd, hbd⟩, rfl⟩) ?_; rotate_left; (intro w; go_simp); (try with_reducible rfl))
      (try simp only [List.getElem_toArray, List.getElem_cons_succ, List.getElem_cons_zero, Act.put, List.setIfInBounds_toArray, List.set_cons_succ, List.set_cons_zero])
      (refine Th.wpAnyK_takeY (i := 4) (v := ?_) rfl (by decide +kernel) (by decide +kernel) (by decide +kernel) (by decide) (fun _ _ _ h => h) (Or.inl ⟨by rfl, ?_⟩) (.inr ⟨⟨wd, hbd⟩, rfl⟩) ?_; rotate_left; (intro w; go_simp); (try with_reducible rfl))
      (try simp only [List.getElem_toArray, List.getElem_cons_succ, List.getElem_cons_zero, Act.put, List.setIfInBounds_toArray, List.set_cons_succ, List.set_cons_zero])
      (refine Th.wpAnyK_takeY (i := 5) (v := ?_) rfl (by decide +kernel) (by decide +kernel) (by decide +kernel) (by decide) (fun _ _ _ h => h) (Or.inl ⟨by rfl, ?_⟩) (.inr ⟨⟨wd, hbd⟩, rfl⟩) ?_; rotate_left; (intro w; go_simp); (try with_reducible rfl))
      (try simp only [List.getElem_toArray, List.getElem_cons_succ, List.getElem_cons_zero, Act.put, List.setIfInBounds_toArray, List.set_cons_succ, List.set_cons_zero])
      (refine Th.wpAnyK_takeY (i := 6) (v := ?_) rfl (by decide +kernel) (by decide +kernel) (by decide +kernel) (by decide) (fun _ _ _ h => h) (Or.inl ⟨by rfl, ?_⟩) (.inr ⟨⟨wd, hbd⟩, rfl⟩) ?_; rotate_left; (intro w; go_simp); (try with_reducible rfl))
      (try simp only [List.getElem_toArray, List.getElem_cons_succ, List.getElem_cons_zero, Act.put, List.setIfInBounds_toArray, List.set_cons_succ, List.set_cons_zero])
      (refine Th.wpAnyK_take (i := 7) (v := .int .u64 (σ.f a)) [8, 9] rfl (by decide +kernel) (by decide +kernel) (by decide +kernel) (by decide +kernel) (fun _ _ _ h => h) (Th.yields_loadK rfl 27 (.tmp 37) rfl rfl (by rintro _ ⟨y, rfl⟩; exact HL7.out y)) ⟨⟨wd, hbd⟩, rfl⟩ ?_)
      (try simp only [List.getElem_toArray, List.getElem_cons_succ, List.getElem_cons_zero, Act.put, List.setIfInBounds_toArray, List.set_cons_succ, List.set_cons_zero])
      (refine Th.wpAnyK_ready (rs := [8]) (by decide +kernel) (by simp) ?_; refine (Th.AllReadyK.cons rfl (fun K hK => ?_) Th.AllReadyK.nil))
      refine step_of rfl ?_
      go_step
      refine hK _ _ (.inr ⟨⟨_, below_new hbd _⟩, rfl⟩) ?_
      clear hK K
      (try simp only [List.getElem_toArray, List.getElem_cons_succ, List.getElem_cons_zero, Act.put, List.setIfInBounds_toArray, List.set_cons_succ, List.set_cons_zero])
      (refine Th.wpAnyK_ready (rs := [9]) (by decide +kernel) (by simp) ?_; refine (Th.AllReadyK.cons rfl (fun K hK => ?_) Th.AllReadyK.nil))
      refine step_of rfl ?_
      refine wp_append_run (.tmp 32) (.tmp 39) 31 rfl rfl rfl rfl hrun ?_
      refine hK _ _ (.inl rfl) ?_
      clear hK K hrun
      (try simp only [List.getElem_toArray, List.getElem_cons_succ, List.getElem_cons_zero, Act.put, List.setIfInBounds_toArray, List.set_cons_succ, List.set_cons_zero])
      have h5e : W2.heap[b5]? = some (.cells #[.int .u64 (σ.f 1), .slice sa j sc] 33 (0, 0)) := (HG2.out.block b5 (Nat.lt_of_lt_of_le (Th.blk_lt HE.out) hbd.size) (fun e => by have := (Th.OwnL.blk (Th.OwnL.below HO.out hbd) e.symm).1; omega)).trans (Th.up hbd HE.out)
      have HKE := Lib.hid (show Below b5 w4 W2 from ⟨HG2.out.os.trans (hbd.os.trans HK.out.os), HG2.out.tape.trans (hbd.tape.trans HK.out.tape), HG2.out.output.trans (hbd.output.trans HK.out.output), Nat.le_trans HK.out.size (Nat.le_trans hbd.size HG2.out.size), fun i hi => (HG2.out.block i (by have := HWS.out; have := HK.out.size; have := hbd.size; have := Th.blk_lt HE.out; omega) (fun e => by have := (Th.OwnL.blk (Th.OwnL.below HO.out hbd) e.symm).1; omega)).trans ((hbd.block i (by have := Th.blk_lt HE.out; omega)).trans (HK.out.block i hi))⟩)
      have H5E := Lib.hid h5e
      have e1 := Th.newcell h5e 1 _ rfl
      have ef : ∀ i, W2.frozen? ⟨b5, i, none⟩ = false := fun i => frozen_of_row _ _ _ _ _ H5E.out
      clear h5e
      (refine Th.wpAnyK_takeY (i := 10) (v := ?_) rfl (by decide +kernel) (by decide +kernel) (by decide +kernel) (by decide) (fun _ _ _ h => h) (Or.inl ⟨by rfl, ?_⟩) (.inl rfl) ?_; rotate_left; (intro w; go_simp); (try with_reducible rfl))
      (try simp only [List.getElem_toArray, List.getElem_cons_succ, List.getElem_cons_zero, Act.put, List.setIfInBounds_toArray, List.set_cons_succ, List.set_cons_zero])
      (refine Th.wpAnyK_ready (rs := [11]) (by decide +kernel) (by simp) ?_; refine (Th.AllReadyK.cons rfl (fun K hK => ?_) Th.AllReadyK.nil))
      refine step_of rfl ?_
      go_step
      refine hK _ _ (.inl rfl) ?_
      clear hK K
      refine Th.wpAnyK_done (by decide +kernel) ?_ _
      clear e1 ef haj hm8 hm3 hma han hbd
      generalize hW : World.setCell _ _ _ = W3
      have h5W := heap_setCell_same _ b5 1 _ _ (.slice p (j + 1) c) H5E.out
      rw [hW] at h5W
      have h5W : W3.heap[b5]? = some (.cells #[.int .u64 (σ.f 1), .slice p (j + 1) c] 33 (0, 0)) := h5W
      have H5W := Lib.hid h5W
      have HKW := Lib.hid (show Below b5 w4 W3 from by rw [← hW]; exact belowC HKE.out (Nat.le_refl _) _)
      have HO3 := Lib.hid (show Th.OwnL 27 W3 (b5 + 1) (.slice p (j + 1) c) (j + 1) (Th.ucells (j + 1) fun i => σ.f (aI i)) from by
        rw [ucells_succ, ← HA.out]
        exact HO2.out.of fun b hb => by rw [← hW]; exact Below.heap_setCell _ _ _ _ (by show _ ≠ b5; have := (HO2.out.blk hb).1; omega))
      clear hW h5W
      go_wp2_with fail
      go_roundw
      case rel => exact ⟨j + 1, by omega, by go_num, _, H5W, HO3, HKW⟩
      case measure => simp [intOf]; omega
    · subst heq
      have hji : ¬ (P.t : Int) < P.t := by omega
      have e0 := Th.newcell HE.out 0 _ rfl; have e1 := Th.newcell HE.out 1 _ rfl
      have h2r : wr.heap[b2]? = _ := (HK.out.block b2 (by have := HLT.out; omega)).trans HU4.out
      have z0 := Th.newcell h2r 0 _ rfl; have z1 := Th.newcell h2r 1 _ rfl
      have zf : ∀ i, wr.frozen? ⟨b2, i, none⟩ = false := fun i => frozen_of_row _ _ _ _ _ h2r
      have HBR := Lib.hid (show Below w.heap.size w wr from ⟨HK.out.os.trans HB4.out.os, HK.out.tape.trans HB4.out.tape, HK.out.output.trans HB4.out.output, Nat.le_trans HB4.out.size HK.out.size, fun i hi => (HK.out.block i (by have := HLT.out; omega)).trans (HB4.out.block i hi)⟩)
      have HNE := Lib.hid (show ¬ b5 = b2 from by have := HLT.out; omega)
      clear h2r
      go_wp2_with fail
      refine bodyPost_ret (v := .agg #[.int .u64 (σ.f 1), .slice sa P.t sc]) (by simp [results, Try.results14, go_sem, z0, z1, World.cell?_setCell_same, World.cell?_setCell_other]) rfl ?_
      rw [HQ.out]
      refine ⟨_, rfl, ?_, belowC (belowC HBR.out (by have := HLT.out; omega) _) (by have := HLT.out; omega) _⟩
      have ho := HO.out.of (w' := (wr.setCell ⟨b2, 0, none⟩ (.int .u64 (σ.f 1))).setCell ⟨b2, 1, none⟩ (.slice sa P.t sc)) fun b hb => by
        have := (HO.out.blk hb).1
        rw [Below.heap_setCell _ _ _ _ (by show _ ≠ b2; have := HLT.out; omega), Below.heap_setCell _ _ _ _ (by show _ ≠ b2; have := HLT.out; omega)]
      refine ⟨ho.1, ?_⟩
      rcases ho.2 with h0 | ⟨g, cap, cur, h1, h2, h3⟩
      · exact .inl h0
      · exact .inr ⟨g, cap, cur, h1, by have := HLT.out; omega, h3⟩
end Go.Proofs.Ytjpkmkaiojnhgaa

/- Layer 18: the epoch and all announcements, as words have them; what lives asks. -/
namespace Go.Proofs.Ytjpkmkaiojnhgaa
open Go.RowKit WordM EdgeM
set_option linter.unusedVariables false
set_option linter.unusedSimpArgs false
theorem mayC_175 : mayC 1 7 5 = true := by decide +kernel
theorem l18a : partF 1 3 7 1 = 3 := by decide +kernel
set_option maxRecDepth 8000 in
set_option maxHeartbeats 2000000 in
theorem lives18_calls (w : World) : Calls Try.prog 7 #[] w fun e w' => e = .returned (.bool true) ∧ Below w.heap.size w w' := by
  refine Calls.veil fun Q HQ => ?_
  go_enter Try.func7, Try.ntmps7
  go_wp2_with fail
  refine (cnewI (t := 1) (s := 7) _ mayC_175).mono ?_; rintro _ w1 ⟨q, pl, mb, mg, C, gq, gg, gm, fv, tq, rfl, hmi, hb, hin⟩
  have hm0 := MM.init hmi hin
  obtain ⟨P, hP⟩ : ∃ P : Pc, P = ⟨w.heap.size, q, pl, mb, mg, C, gq, gg, gm, fv, tq, 1, 7, 5, w1.heap.size⟩ := ⟨_, rfl⟩
  rw [← hP] at hm0
  have eq1 : q = P.q := by rw [hP]
  have HE := Lib.hid (show P.t = 1 ∧ P.K = 5 ∧ P.B = w.heap.size from by rw [hP]; exact ⟨rfl, rfl, rfl⟩)
  rw [eq1]
  obtain ⟨σ0, hσ⟩ : ∃ σ0, σ0 = sgInit 1 7 := ⟨_, rfl⟩
  rw [← hσ] at hm0
  have HF0 := Lib.hid (show σ0.f 1 = 3 ∧ (σ0.Ts 0).nf = 0 ∧ σ0.acc = 0 ∧ σ0.steps = 0 ∧ (σ0.Ts 0).ss 1 = .bool false from by rw [hσ]; exact ⟨l18a, rfl, rfl, rfl, rfl⟩)
  have HB1 := Lib.hid hb; have HM1 := Lib.hid hm0
  have HK0 := Lib.hid (show 0 < P.t by rw [HE.out.1]; omega)
  clear hmi hb hin hP eq1 hm0 hσ
  go_wp2_with fail
  refine (aEnter (most := 9) HM1.out HK0.out HF0.out.2.1 (by omega) (by rw [HF0.out.2.2.1]; omega) (by rw [HF0.out.2.2.1]; omega) (by rw [HF0.out.2.2.2.1]; omega) (by rw [HF0.out.2.2.2.1]; omega) (by omega) HF0.out.2.2.2.2 (by rw [HF0.out.1]; omega)).mono ?_
  rintro _ w2 ⟨rfl, σ1, hm2, hk2, ho2⟩
  have HM2 := Lib.hid hm2; have HO2 := Lib.hid ho2
  have HB2 := Lib.hid (show Below w.heap.size w w2 by have := hk2; rw [HE.out.2.2] at this; exact KA.below HB1.out this)
  clear hm2 hk2 ho2 HM1 HB1
  have hf1 : σ1.f 1 = 3 := by rw [HO2.out.f]; unfold Mm.upd; rw [if_neg (by unfold aI; omega)]; exact HF0.out.1
  have hfa : σ1.f (aI 0) = 7 := by rw [HO2.out.f]; unfold Mm.upd; rw [if_pos rfl, HF0.out.1]; rfl
  have HF1 := Lib.hid (And.intro hf1 hfa)
  clear hf1 hfa
  go_wp2_with fail
  refine (aAdv (most := 9) HM2.out HK0.out HO2.out.nf (by omega) (by have := HO2.out.ac; have := HF0.out.2.2; omega) (by have := HO2.out.ac; have := HF0.out.2.2; omega) (by have := HO2.out.ac; have := HF0.out.2.2; omega) (by have := HO2.out.ac; have := HF0.out.2.2; omega) (by rw [HE.out.1]; omega) (fun j hj => by rw [HE.out.1] at hj; have e : j = 0 := (by omega); subst e; rw [HF1.out.1, HF1.out.2]; decide) (by rw [HF1.out.1]; omega)).mono ?_
  rintro _ w3 ⟨rfl, σ2, hm3, hk3, ho3⟩
  have HM3 := Lib.hid hm3; have HO3 := Lib.hid ho3
  have HB3 := Lib.hid (show Below w.heap.size w w3 by have := hk3; rw [HE.out.2.2] at this; exact KA.below HB2.out this)
  clear hm3 hk3 ho3 HM2 HB2
  have hf2 : σ2.f 1 = 4 := by rw [HO3.out.f]; unfold Mm.upd; rw [if_pos rfl, HF1.out.1]; rfl
  have HF2 := Lib.hid hf2
  have HS2 := Lib.hid (show (σ2.Ts 0).ss 3 = .int .u64 2 from by rw [HO3.out.s3, HO2.out.s3, HF0.out.1]; rfl)
  have hpt : P.t = 1 := HE.out.1
  have HPT := Lib.hid hpt
  clear hf2 hpt
  go_wp2_with fail
  refine (cMem HM3.out.c).mono ?_; rintro _ _ ⟨rfl, rfl⟩
  go_wp2_with fail
  have hbd := HM3.out.bd
  refine (Mm.mload _ _ _ _ _ _ 1 _ _ HM3.out.c.mem (by have := HO2.out.ac; have := HO3.out.ac; have := HF0.out.2.2; omega) (by have := HO2.out.ac; have := HO3.out.ac; have := HF0.out.2.2; have := HE.out.1; omega)).mono ?_; rintro _ w4 ⟨rfl, hm4, ho4⟩
  rw [okA1 _ (by omega)] at hm4
  have hli : Mm.ldI (3 + 8 * P.t + 7 * P.s) σ2.f 1 = 4 := by unfold Mm.ldI; rw [okA1 _ (by omega)]; exact HF2.out
  rw [hli]
  obtain ⟨ps, fvs, hp3⟩ := HM3.out.mp
  obtain ⟨hp4, hk4⟩ := hp3.only ho4 hm4
  have HM4 := Lib.hid hp4.mm
  have HB4 := Lib.hid (show Below w.heap.size w w4 by have := hk4; rw [HE.out.2.2] at this; exact KA.below HB3.out this)
  clear hm4 ho4 hp3 hp4 hk4 hli hbd HM3 HB3
  go_wp2_with fail
  refine (cThread_yes HM4.out.c 0 HK0.out).mono ?_; rintro _ w5 ⟨rfl, hb⟩
  have HM5 := Lib.hid (HM4.out.below hb); have HB5 := Lib.hid (below_on HB4.out hb)
  clear hb HM4 HB4
  have cs : w5.cell? ⟨P.tq 0, 15, none⟩ = some (.int .u64 2) := by have := HM5.out.ss HK0.out (i := 3) (by omega); rw [show ((_ : Sg).Ts 0).ss 3 = Value.int .u64 2 from HS2.out] at this; exact this
  go_wp2_with fail
  (try go_ret)
  rw [HQ.out]
  exact ⟨rfl, HB5.out⟩
end Go.Proofs.Ytjpkmkaiojnhgaa
