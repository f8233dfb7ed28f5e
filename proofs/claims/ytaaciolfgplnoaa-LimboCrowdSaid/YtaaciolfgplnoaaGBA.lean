/- GBA: several texts in one. -/
import Derived.Test.YtaaciolfgplnoaaLimE
import Derived.Test.YtaaciolfgplnoaaGAV
/- Layer 19: Do by kind. -/
namespace Go.Proofs.Ytaaciolfgplnoaa
open Go.RowKit WordM EdgeM
set_option linter.unusedVariables false
set_option linter.unusedSimpArgs false
set_option maxRecDepth 8000 in
theorem ldoR {w : World} {P : Pc} {σ σ' : Sg} (h : MM w P σ) {k m : Nat} (hk : k < P.t) (hm : (σ.Ts k).nf = m + 1) (hN : m ≤ 1000) (hfn : ((σ.Ts k).fs m).fn = 20)
    (hst : ∀ w' ps fvs, MP w' P σ ps fvs → Calls Try.prog 33 #[.pointer (some ⟨P.q, 0, none⟩), .int .i64 k, .pointer (some ⟨P.tq k, 0, none⟩), .pointer (some ⟨ps k m, 0, none⟩)] w' fun x w'' => x = .returned (.tuple #[]) ∧ MM w'' P σ' ∧ KA P.B P.N w' w'') :
    Calls Try.prog 14 #[.pointer (some ⟨P.q, 0, none⟩), .int .i64 k] w fun x w' => x = .returned (.tuple #[]) ∧ MM w' P σ' ∧ KA P.B P.N w w' := by
  refine Calls.veil fun Q HQ => ?_
  obtain ⟨ps, fvs, hp⟩ := h.mp
  have HP := Lib.hid hp
  have hmm : m < (σ.Ts k).nf := by omega
  have HMM := Lib.hid hmm; have HM := Lib.hid hm; have HFN := Lib.hid hfn; have HS := Lib.hid hst
  clear h hp hmm hm hfn hst
  go_enter Try.func14, Try.ntmps14
  go_wp2_with fail
  refine (cThread_yes HP.out.c k hk).mono ?_; rintro _ w1 ⟨rfl, hb1⟩
  have HP1 := Lib.hid (HP.out.below hb1); have HB1 := Lib.hid hb1
  clear hb1
  go_wp2_with fail
  refine (HP1.out.top hk HM.out (by omega)).mono ?_; rintro _ w2 ⟨rfl, hb2⟩
  have HP2 := Lib.hid (HP1.out.below hb2); have HK2 := Lib.hid (KA.of_below (below_on HB1.out hb2) : KA P.B P.N w w2)
  clear hb2 HP1 HB1
  obtain ⟨fb, hfb⟩ : ∃ fb, fb = ps k m := ⟨_, rfl⟩
  have HFB := Lib.hid hfb
  rw [← hfb]
  clear hfb
  have f0 : w2.cell? ⟨fb, 0, none⟩ = some (.int .i64 20) := by rw [HFB.out, HP2.out.fn hk HMM.out, HFN.out]
  go_wp2_with fail
  clear f0
  (try rw [HFB.out])
  refine (HS.out w2 ps fvs HP2.out).mono ?_; rintro _ w3 ⟨rfl, hm3, hk3⟩
  have HM3 := Lib.hid hm3; have HK3 := Lib.hid (HK2.out.trans hk3)
  clear hm3 hk3 HP2 HK2
  go_wp2_with fail
  first | (refine bodyPost_end (v := .tuple #[]) (by simp [results, Try.results14, go_sem]) rfl ?_) | (refine bodyPost_ret (v := .tuple #[]) (by simp [results, Try.results14, go_sem]) rfl ?_)
  rw [HQ.out]
  exact ⟨rfl, HM3.out, HK3.out⟩
set_option maxRecDepth 8000 in
theorem ldoD {w : World} {P : Pc} {σ σ' : Sg} (h : MM w P σ) {k m : Nat} (hk : k < P.t) (hm : (σ.Ts k).nf = m + 1) (hN : m ≤ 1000) (hfn : ((σ.Ts k).fs m).fn = 21)
    (hst : ∀ w' ps fvs, MP w' P σ ps fvs → Calls Try.prog 34 #[.pointer (some ⟨P.q, 0, none⟩), .int .i64 k, .pointer (some ⟨P.tq k, 0, none⟩), .pointer (some ⟨ps k m, 0, none⟩)] w' fun x w'' => x = .returned (.tuple #[]) ∧ MM w'' P σ' ∧ KA P.B P.N w' w'') :
    Calls Try.prog 14 #[.pointer (some ⟨P.q, 0, none⟩), .int .i64 k] w fun x w' => x = .returned (.tuple #[]) ∧ MM w' P σ' ∧ KA P.B P.N w w' := by
  refine Calls.veil fun Q HQ => ?_
  obtain ⟨ps, fvs, hp⟩ := h.mp
  have HP := Lib.hid hp
  have hmm : m < (σ.Ts k).nf := by omega
  have HMM := Lib.hid hmm; have HM := Lib.hid hm; have HFN := Lib.hid hfn; have HS := Lib.hid hst
  clear h hp hmm hm hfn hst
  go_enter Try.func14, Try.ntmps14
  go_wp2_with fail
  refine (cThread_yes HP.out.c k hk).mono ?_; rintro _ w1 ⟨rfl, hb1⟩
  have HP1 := Lib.hid (HP.out.below hb1); have HB1 := Lib.hid hb1
  clear hb1
  go_wp2_with fail
  refine (HP1.out.top hk HM.out (by omega)).mono ?_; rintro _ w2 ⟨rfl, hb2⟩
  have HP2 := Lib.hid (HP1.out.below hb2); have HK2 := Lib.hid (KA.of_below (below_on HB1.out hb2) : KA P.B P.N w w2)
  clear hb2 HP1 HB1
  obtain ⟨fb, hfb⟩ : ∃ fb, fb = ps k m := ⟨_, rfl⟩
  have HFB := Lib.hid hfb
  rw [← hfb]
  clear hfb
  have f0 : w2.cell? ⟨fb, 0, none⟩ = some (.int .i64 21) := by rw [HFB.out, HP2.out.fn hk HMM.out, HFN.out]
  go_wp2_with fail
  clear f0
  (try rw [HFB.out])
  refine (HS.out w2 ps fvs HP2.out).mono ?_; rintro _ w3 ⟨rfl, hm3, hk3⟩
  have HM3 := Lib.hid hm3; have HK3 := Lib.hid (HK2.out.trans hk3)
  clear hm3 hk3 HP2 HK2
  go_wp2_with fail
  first | (refine bodyPost_end (v := .tuple #[]) (by simp [results, Try.results14, go_sem]) rfl ?_) | (refine bodyPost_ret (v := .tuple #[]) (by simp [results, Try.results14, go_sem]) rfl ?_)
  rw [HQ.out]
  exact ⟨rfl, HM3.out, HK3.out⟩
set_option maxRecDepth 8000 in
theorem ldoC {w : World} {P : Pc} {σ σ' : Sg} (h : MM w P σ) {k m : Nat} (hk : k < P.t) (hm : (σ.Ts k).nf = m + 1) (hN : m ≤ 1000) (hfn : ((σ.Ts k).fs m).fn = 22)
    (hst : ∀ w' ps fvs, MP w' P σ ps fvs → Calls Try.prog 35 #[.pointer (some ⟨P.q, 0, none⟩), .int .i64 k, .pointer (some ⟨P.tq k, 0, none⟩), .pointer (some ⟨ps k m, 0, none⟩)] w' fun x w'' => x = .returned (.tuple #[]) ∧ MM w'' P σ' ∧ KA P.B P.N w' w'') :
    Calls Try.prog 14 #[.pointer (some ⟨P.q, 0, none⟩), .int .i64 k] w fun x w' => x = .returned (.tuple #[]) ∧ MM w' P σ' ∧ KA P.B P.N w w' := by
  refine Calls.veil fun Q HQ => ?_
  obtain ⟨ps, fvs, hp⟩ := h.mp
  have HP := Lib.hid hp
  have hmm : m < (σ.Ts k).nf := by omega
  have HMM := Lib.hid hmm; have HM := Lib.hid hm; have HFN := Lib.hid hfn; have HS := Lib.hid hst
  clear h hp hmm hm hfn hst
  go_enter Try.func14, Try.ntmps14
  go_wp2_with fail
  refine (cThread_yes HP.out.c k hk).mono ?_; rintro _ w1 ⟨rfl, hb1⟩
  have HP1 := Lib.hid (HP.out.below hb1); have HB1 := Lib.hid hb1
  clear hb1
  go_wp2_with fail
  refine (HP1.out.top hk HM.out (by omega)).mono ?_; rintro _ w2 ⟨rfl, hb2⟩
  have HP2 := Lib.hid (HP1.out.below hb2); have HK2 := Lib.hid (KA.of_below (below_on HB1.out hb2) : KA P.B P.N w w2)
  clear hb2 HP1 HB1
  obtain ⟨fb, hfb⟩ : ∃ fb, fb = ps k m := ⟨_, rfl⟩
  have HFB := Lib.hid hfb
  rw [← hfb]
  clear hfb
  have f0 : w2.cell? ⟨fb, 0, none⟩ = some (.int .i64 22) := by rw [HFB.out, HP2.out.fn hk HMM.out, HFN.out]
  go_wp2_with fail
  clear f0
  (try rw [HFB.out])
  refine (HS.out w2 ps fvs HP2.out).mono ?_; rintro _ w3 ⟨rfl, hm3, hk3⟩
  have HM3 := Lib.hid hm3; have HK3 := Lib.hid (HK2.out.trans hk3)
  clear hm3 hk3 HP2 HK2
  go_wp2_with fail
  first | (refine bodyPost_end (v := .tuple #[]) (by simp [results, Try.results14, go_sem]) rfl ?_) | (refine bodyPost_ret (v := .tuple #[]) (by simp [results, Try.results14, go_sem]) rfl ?_)
  rw [HQ.out]
  exact ⟨rfl, HM3.out, HK3.out⟩
set_option maxRecDepth 8000 in
theorem ldoX {w : World} {P : Pc} {σ σ' : Sg} (h : MM w P σ) {k m : Nat} (hk : k < P.t) (hm : (σ.Ts k).nf = m + 1) (hN : m ≤ 1000) (hfn : ((σ.Ts k).fs m).fn ≠ 20 ∧ ((σ.Ts k).fs m).fn ≠ 21 ∧ ((σ.Ts k).fs m).fn ≠ 22)
    (hst : ∀ w', MM w' P σ → Calls Try.prog 36 #[.pointer (some ⟨P.q, 0, none⟩), .int .i64 k] w' fun x w'' => x = .returned (.tuple #[]) ∧ MM w'' P σ' ∧ KA P.B P.N w' w'') :
    Calls Try.prog 14 #[.pointer (some ⟨P.q, 0, none⟩), .int .i64 k] w fun x w' => x = .returned (.tuple #[]) ∧ MM w' P σ' ∧ KA P.B P.N w w' := by
  refine Calls.veil fun Q HQ => ?_
  obtain ⟨ps, fvs, hp⟩ := h.mp
  have HP := Lib.hid hp
  have hmm : m < (σ.Ts k).nf := by omega
  have HMM := Lib.hid hmm; have HM := Lib.hid hm; have HFN := Lib.hid hfn; have HS := Lib.hid hst
  clear h hp hmm hm hfn hst
  go_enter Try.func14, Try.ntmps14
  go_wp2_with fail
  refine (cThread_yes HP.out.c k hk).mono ?_; rintro _ w1 ⟨rfl, hb1⟩
  have HP1 := Lib.hid (HP.out.below hb1); have HB1 := Lib.hid hb1
  clear hb1
  go_wp2_with fail
  refine (HP1.out.top hk HM.out (by omega)).mono ?_; rintro _ w2 ⟨rfl, hb2⟩
  have HP2 := Lib.hid (HP1.out.below hb2); have HK2 := Lib.hid (KA.of_below (below_on HB1.out hb2) : KA P.B P.N w w2)
  clear hb2 HP1 HB1
  obtain ⟨fb, hfb⟩ : ∃ fb, fb = ps k m := ⟨_, rfl⟩
  have HFB := Lib.hid hfb
  rw [← hfb]
  clear hfb
  obtain ⟨fn, hfn⟩ : ∃ fn, fn = ((σ.Ts k).fs m).fn := ⟨_, rfl⟩
  have f0 : w2.cell? ⟨fb, 0, none⟩ = some (.int .i64 fn) := by rw [HFB.out, HP2.out.fn hk HMM.out, hfn]
  have hne := HFN.out
  rw [← hfn] at hne
  have e0 : (fn == 20) = false := by simpa using hne.1
  have e1 : (fn == 21) = false := by simpa using hne.2.1
  have e2 : (fn == 22) = false := by simpa using hne.2.2
  clear hfn hne
  go_wp2_with fail
  clear f0 e0 e1 e2
  refine (HS.out w2 HP2.out.mm).mono ?_; rintro _ w3 ⟨rfl, hm3, hk3⟩
  have HM3 := Lib.hid hm3; have HK3 := Lib.hid (HK2.out.trans hk3)
  clear hm3 hk3 HP2 HK2
  go_wp2_with fail
  first | (refine bodyPost_end (v := .tuple #[]) (by simp [results, Try.results14, go_sem]) rfl ?_) | (refine bodyPost_ret (v := .tuple #[]) (by simp [results, Try.results14, go_sem]) rfl ?_)
  rw [HQ.out]
  exact ⟨rfl, HM3.out, HK3.out⟩
set_option maxRecDepth 8000 in
theorem edoX {w : World} {P : Pc} {σ σ' : Sg} (h : MM w P σ) {k m : Nat} (hk : k < P.t) (hm : (σ.Ts k).nf = m + 1) (hN : m ≤ 1000) (hfn : ((σ.Ts k).fs m).fn ≠ 10 ∧ ((σ.Ts k).fs m).fn ≠ 11 ∧ ((σ.Ts k).fs m).fn ≠ 12)
    (hst : ∀ w', MM w' P σ → Calls Try.prog 68 #[.pointer (some ⟨P.q, 0, none⟩), .int .i64 k] w' fun x w'' => x = .returned (.tuple #[]) ∧ MM w'' P σ' ∧ KA P.B P.N w' w'') :
    Calls Try.prog 36 #[.pointer (some ⟨P.q, 0, none⟩), .int .i64 k] w fun x w' => x = .returned (.tuple #[]) ∧ MM w' P σ' ∧ KA P.B P.N w w' := by
  refine Calls.veil fun Q HQ => ?_
  obtain ⟨ps, fvs, hp⟩ := h.mp
  have HP := Lib.hid hp
  have hmm : m < (σ.Ts k).nf := by omega
  have HMM := Lib.hid hmm; have HM := Lib.hid hm; have HFN := Lib.hid hfn; have HS := Lib.hid hst
  clear h hp hmm hm hfn hst
  go_enter Try.func36, Try.ntmps36
  go_wp2_with fail
  refine (cThread_yes HP.out.c k hk).mono ?_; rintro _ w1 ⟨rfl, hb1⟩
  have HP1 := Lib.hid (HP.out.below hb1); have HB1 := Lib.hid hb1
  clear hb1
  go_wp2_with fail
  refine (HP1.out.top hk HM.out (by omega)).mono ?_; rintro _ w2 ⟨rfl, hb2⟩
  have HP2 := Lib.hid (HP1.out.below hb2); have HK2 := Lib.hid (KA.of_below (below_on HB1.out hb2) : KA P.B P.N w w2)
  clear hb2 HP1 HB1
  obtain ⟨fb, hfb⟩ : ∃ fb, fb = ps k m := ⟨_, rfl⟩
  have HFB := Lib.hid hfb
  rw [← hfb]
  clear hfb
  obtain ⟨fn, hfn⟩ : ∃ fn, fn = ((σ.Ts k).fs m).fn := ⟨_, rfl⟩
  have f0 : w2.cell? ⟨fb, 0, none⟩ = some (.int .i64 fn) := by rw [HFB.out, HP2.out.fn hk HMM.out, hfn]
  have hne := HFN.out
  rw [← hfn] at hne
  have e0 : (fn == 10) = false := by simpa using hne.1
  have e1 : (fn == 11) = false := by simpa using hne.2.1
  have e2 : (fn == 12) = false := by simpa using hne.2.2
  clear hfn hne
  go_wp2_with fail
  clear f0 e0 e1 e2
  refine (HS.out w2 HP2.out.mm).mono ?_; rintro _ w3 ⟨rfl, hm3, hk3⟩
  have HM3 := Lib.hid hm3; have HK3 := Lib.hid (HK2.out.trans hk3)
  clear hm3 hk3 HP2 HK2
  go_wp2_with fail
  first | (refine bodyPost_end (v := .tuple #[]) (by simp [results, Try.results36, go_sem]) rfl ?_) | (refine bodyPost_ret (v := .tuple #[]) (by simp [results, Try.results36, go_sem]) rfl ?_)
  rw [HQ.out]
  exact ⟨rfl, HM3.out, HK3.out⟩
theorem ldoX2 {w : World} {P : Pc} {σ σ' : Sg} (h : MM w P σ) {k m : Nat} (hk : k < P.t) (hm : (σ.Ts k).nf = m + 1) (hN : m ≤ 1000) (hfn : ((σ.Ts k).fs m).fn < 10)
    (hst : ∀ w', MM w' P σ → Calls Try.prog 68 #[.pointer (some ⟨P.q, 0, none⟩), .int .i64 k] w' fun x w'' => x = .returned (.tuple #[]) ∧ MM w'' P σ' ∧ KA P.B P.N w' w'') :
    Calls Try.prog 14 #[.pointer (some ⟨P.q, 0, none⟩), .int .i64 k] w fun x w' => x = .returned (.tuple #[]) ∧ MM w' P σ' ∧ KA P.B P.N w w' :=
  ldoX h hk hm hN (by omega) fun w' h' => edoX h' hk hm hN (by omega) hst
theorem ldo_take {w : World} {P : Pc} {σ : Sg} (h : MM w P σ) {k m : Nat} (hk : k < P.t) (hm : (σ.Ts k).nf = m + 1) (hfn : ((σ.Ts k).fs m).fn = 1) (hpc : 0 ≤ ((σ.Ts k).fs m).pc ∧ ((σ.Ts k).fs m).pc ≤ 3)
    (hr : 0 ≤ ((σ.Ts k).fs m).r 0 ∧ ((σ.Ts k).fs m).r 0 < 18446744073709551616) (hr1 : ((σ.Ts k).fs m).pc = 2 → 0 ≤ ((σ.Ts k).fs m).r 1 ∧ ((σ.Ts k).fs m).r 1 < 9223372036854775808) (a0 : 0 ≤ σ.acc) (a1 : σ.acc < 1000000) (hsl : σ.sl < 1000000) (hN : m ≤ 1000) :
    Calls Try.prog 14 #[.pointer (some ⟨P.q, 0, none⟩), .int .i64 k] w fun x w' => x = .returned (.tuple #[]) ∧ MM w' P (rTake P k m σ) ∧ KA P.B P.N w w' :=
  ldoX2 h hk hm hN (by omega) fun w' h' => sdo_take h' hk hm hfn hpc hr hr1 a0 a1 hsl hN
theorem ldo_give {w : World} {P : Pc} {σ : Sg} (h : MM w P σ) {k m : Nat} (hk : k < P.t) (hm : (σ.Ts k).nf = m + 1) (hfn : ((σ.Ts k).fs m).fn = 2) (hpc : 0 ≤ ((σ.Ts k).fs m).pc ∧ ((σ.Ts k).fs m).pc ≤ 3)
    (hr : 0 ≤ ((σ.Ts k).fs m).r 0 ∧ ((σ.Ts k).fs m).r 0 < 18446744073709551616) (hr1 : 2 ≤ ((σ.Ts k).fs m).pc → 0 ≤ ((σ.Ts k).fs m).r 1 ∧ ((σ.Ts k).fs m).r 1 < 18446744073709551616) (hl : ((σ.Ts k).fs m).pc = 0 → Gd.leadsB P.s σ.H σ.G (((σ.Ts k).fs m).r 0) = true) (a0 : 0 ≤ σ.acc) (a1 : σ.acc < 1000000) (hsl : σ.sl < 1000000) (hN : m ≤ 1000) :
    Calls Try.prog 14 #[.pointer (some ⟨P.q, 0, none⟩), .int .i64 k] w fun x w' => x = .returned (.tuple #[]) ∧ MM w' P (rGive P k m σ) ∧ KA P.B P.N w w' :=
  ldoX2 h hk hm hN (by omega) fun w' h' => sdo_give h' hk hm hfn hpc hr hr1 hl a0 a1 hsl hN
theorem ldoA {w : World} {P : Pc} {σ σ' : Sg} (h : MM w P σ) {k m : Nat} (hk : k < P.t) (hm : (σ.Ts k).nf = m + 1) (hN : m ≤ 1000) (hfn : ((σ.Ts k).fs m).fn = 12)
    (hst : ∀ w' ps fvs, MP w' P σ ps fvs → Calls Try.prog 67 #[.pointer (some ⟨P.q, 0, none⟩), .pointer (some ⟨P.tq k, 0, none⟩), .pointer (some ⟨ps k m, 0, none⟩)] w' fun x w'' => x = .returned (.tuple #[]) ∧ MM w'' P σ' ∧ KA P.B P.N w' w'') :
    Calls Try.prog 14 #[.pointer (some ⟨P.q, 0, none⟩), .int .i64 k] w fun x w' => x = .returned (.tuple #[]) ∧ MM w' P σ' ∧ KA P.B P.N w w' :=
  ldoX h hk hm hN (by omega) fun w' h' => edoA h' hk hm hN hfn hst
end Go.Proofs.Ytaaciolfgplnoaa

/- Layer 19: a step of Do as a relation between states. -/
namespace Go.Proofs.Ytaaciolfgplnoaa
open Go.RowKit WordM EdgeM
set_option linter.unusedVariables false
set_option linter.unusedSimpArgs false
inductive LS (P : Pc) (k m : Nat) (σ : Sg) : Sg → Prop
  | adv0 (hfn : ((σ.Ts k).fs m).fn = 12) (hpc : ((σ.Ts k).fs m).pc = 0) : LS P k m σ (enter0S P k m σ)
  | adv1l (hfn : ((σ.Ts k).fs m).fn = 12) (hpc : ((σ.Ts k).fs m).pc = 1) (hr : 0 ≤ ((σ.Ts k).fs m).r 0 ∧ ((σ.Ts k).fs m).r 0 < 18446744073709551616) {j : Nat} (hr1 : ((σ.Ts k).fs m).r 1 = j ∧ j < P.t) (hl : lagsB (σ.f (aI j)) (((σ.Ts k).fs m).r 0) = true) : LS P k m σ (backAS k 0 σ)
  | adv1n (hfn : ((σ.Ts k).fs m).fn = 12) (hpc : ((σ.Ts k).fs m).pc = 1) (hr : 0 ≤ ((σ.Ts k).fs m).r 0 ∧ ((σ.Ts k).fs m).r 0 < 18446744073709551616) {j : Nat} (hr1 : ((σ.Ts k).fs m).r 1 = j ∧ j < P.t) (hl : lagsB (σ.f (aI j)) (((σ.Ts k).fs m).r 0) = false) (hz : j + 1 < P.t) : LS P k m σ (adv1nS k m σ)
  | adv1e (hfn : ((σ.Ts k).fs m).fn = 12) (hpc : ((σ.Ts k).fs m).pc = 1) (hr : 0 ≤ ((σ.Ts k).fs m).r 0 ∧ ((σ.Ts k).fs m).r 0 < 18446744073709551616) {j : Nat} (hr1 : ((σ.Ts k).fs m).r 1 = j ∧ j < P.t) (hl : lagsB (σ.f (aI j)) (((σ.Ts k).fs m).r 0) = false) (hz : j + 1 = P.t) : LS P k m σ (adv1eS k m σ)
  | adv2y (hfn : ((σ.Ts k).fs m).fn = 12) (hpc : ((σ.Ts k).fs m).pc = 2) (hr : 0 ≤ ((σ.Ts k).fs m).r 0 ∧ ((σ.Ts k).fs m).r 0 < 18446744073709551615) (hz : (σ.f 1 == ((σ.Ts k).fs m).r 0) = true) : LS P k m σ (adv2yS k m σ)
  | adv2n (hfn : ((σ.Ts k).fs m).fn = 12) (hpc : ((σ.Ts k).fs m).pc = 2) (hr : 0 ≤ ((σ.Ts k).fs m).r 0 ∧ ((σ.Ts k).fs m).r 0 < 18446744073709551615) (hz : (σ.f 1 == ((σ.Ts k).fs m).r 0) = false) : LS P k m σ (backAS k 0 σ)
  | ret1 (hfn : ((σ.Ts k).fs m).fn = 20) (hpc : ((σ.Ts k).fs m).pc = 1) (g0 : 0 ≤ ((σ.Ts k).fs m).r 0 ∧ ((σ.Ts k).fs m).r 0 < 18446744073709551616) (g1 : 0 ≤ ((σ.Ts k).fs m).r 1 ∧ ((σ.Ts k).fs m).r 1 < 18446744073709551616) {b : Nat} (hb : ((σ.Ts k).fs m).r 1 % 3 = b) (hq : (σ.f (stI k b) != ((σ.Ts k).fs m).r 1) = false) : LS P k m σ (rt1S k m σ)
  | ret1d (hfn : ((σ.Ts k).fs m).fn = 20) (hpc : ((σ.Ts k).fs m).pc = 1) (g0 : 0 ≤ ((σ.Ts k).fs m).r 0 ∧ ((σ.Ts k).fs m).r 0 < 18446744073709551616) (g1 : 0 ≤ ((σ.Ts k).fs m).r 1 ∧ ((σ.Ts k).fs m).r 1 < 18446744073709551616) {b : Nat} (hb : ((σ.Ts k).fs m).r 1 % 3 = b) (hq : (σ.f (stI k b) != ((σ.Ts k).fs m).r 1) = true) : LS P k m σ (rt1dS k m b σ)
  | ret2 (hfn : ((σ.Ts k).fs m).fn = 20) (hpc : ((σ.Ts k).fs m).pc = 2) (g0 : 0 ≤ ((σ.Ts k).fs m).r 0 ∧ ((σ.Ts k).fs m).r 0 < 18446744073709551616) (g1 : 0 ≤ ((σ.Ts k).fs m).r 1 ∧ ((σ.Ts k).fs m).r 1 < 18446744073709551616) {b : Nat} (hb : ((σ.Ts k).fs m).r 1 % 3 = b) : LS P k m σ (rt2S k m b σ)
  | ret5 (hfn : ((σ.Ts k).fs m).fn = 20) (hpc : ((σ.Ts k).fs m).pc = 5) (g0 : 0 ≤ ((σ.Ts k).fs m).r 0 ∧ ((σ.Ts k).fs m).r 0 < 18446744073709551616) (g1 : 0 ≤ ((σ.Ts k).fs m).r 1 ∧ ((σ.Ts k).fs m).r 1 < 18446744073709551616) {b : Nat} (hb : ((σ.Ts k).fs m).r 1 % 3 = b) : LS P k m σ (rt5S k m b σ)
  | ret4 (hfn : ((σ.Ts k).fs m).fn = 20) (hpc : ((σ.Ts k).fs m).pc = 4) (g0 : 0 ≤ ((σ.Ts k).fs m).r 0 ∧ ((σ.Ts k).fs m).r 0 < 18446744073709551616) (g1 : 0 ≤ ((σ.Ts k).fs m).r 1 ∧ ((σ.Ts k).fs m).r 1 < 18446744073709551616) (g2 : 0 ≤ ((σ.Ts k).fs m).r 2 ∧ ((σ.Ts k).fs m).r 2 < 18446744073709551616) {b : Nat} (hb : ((σ.Ts k).fs m).r 1 % 3 = b) {nx : Nat} (hl : Gd.leadsB P.s σ.H σ.G (((σ.Ts k).fs m).r 0 % 4611686018427387904) = true) (hn : (((σ.Ts k).fs m).r 0 % 4611686018427387904) % 4096 = nx) (n1 : 1 ≤ nx) (n2 : nx ≤ P.s) : LS P k m σ (rt4S P k m nx σ)
  | ret0 (hfn : ((σ.Ts k).fs m).fn = 20) (hpc : ((σ.Ts k).fs m).pc = 0) (g0 : 0 ≤ ((σ.Ts k).fs m).r 0 ∧ ((σ.Ts k).fs m).r 0 < 18446744073709551616) (g1 : 0 ≤ ((σ.Ts k).fs m).r 1 ∧ ((σ.Ts k).fs m).r 1 < 18446744073709551616) {b : Nat} (hb : ((σ.Ts k).fs m).r 1 % 3 = b) : LS P k m σ (rt0S k m σ)
  | ret3 (hfn : ((σ.Ts k).fs m).fn = 20) (hpc : ((σ.Ts k).fs m).pc = 3) (g0 : 0 ≤ ((σ.Ts k).fs m).r 0 ∧ ((σ.Ts k).fs m).r 0 < 18446744073709551616) (g1 : 0 ≤ ((σ.Ts k).fs m).r 1 ∧ ((σ.Ts k).fs m).r 1 < 18446744073709551616) {b : Nat} (hb : ((σ.Ts k).fs m).r 1 % 3 = b) : LS P k m σ (rt3S k m b σ)
  | dr0 (hfn : ((σ.Ts k).fs m).fn = 21) (hpc : ((σ.Ts k).fs m).pc = 0) {b : Nat} (hb : ((σ.Ts k).fs m).r 0 = b) (hb3 : b < 3) (g1 : 0 ≤ ((σ.Ts k).fs m).r 1 ∧ ((σ.Ts k).fs m).r 1 < 18446744073709551616) (hz : (σ.f (bgI k b) == 0) = false) : LS P k m σ (dr0S k m b σ)
  | dr0z (hfn : ((σ.Ts k).fs m).fn = 21) (hpc : ((σ.Ts k).fs m).pc = 0) {b : Nat} (hb : ((σ.Ts k).fs m).r 0 = b) (hb3 : b < 3) (g1 : 0 ≤ ((σ.Ts k).fs m).r 1 ∧ ((σ.Ts k).fs m).r 1 < 18446744073709551616) (hz : (σ.f (bgI k b) == 0) = true) : LS P k m σ (dr0zS k m b σ)
  | dr1 (hfn : ((σ.Ts k).fs m).fn = 21) (hpc : ((σ.Ts k).fs m).pc = 1) {b : Nat} (hb : ((σ.Ts k).fs m).r 0 = b) (hb3 : b < 3) (g1 : 0 ≤ ((σ.Ts k).fs m).r 1 ∧ ((σ.Ts k).fs m).r 1 < 18446744073709551616) : LS P k m σ (dr1S k m b σ)
  | dr2z (hfn : ((σ.Ts k).fs m).fn = 21) (hpc : ((σ.Ts k).fs m).pc = 2) {b : Nat} (hb : ((σ.Ts k).fs m).r 0 = b) (hb3 : b < 3) (g1 : 0 ≤ ((σ.Ts k).fs m).r 1 ∧ ((σ.Ts k).fs m).r 1 < 18446744073709551616) (hz : ((σ.Ts k).fs m).r 1 = 0) : LS P k m σ (dr2zS k σ)
  | dr2n (hfn : ((σ.Ts k).fs m).fn = 21) (hpc : ((σ.Ts k).fs m).pc = 2) {b : Nat} (hb : ((σ.Ts k).fs m).r 0 = b) (hb3 : b < 3) (g1 : 0 ≤ ((σ.Ts k).fs m).r 1 ∧ ((σ.Ts k).fs m).r 1 < 18446744073709551616) (hz : (((σ.Ts k).fs m).r 1 == 0) = false) {nx : Nat} (hl : Gd.leadsB P.s σ.H σ.G (((σ.Ts k).fs m).r 1) = true) (hn : ((σ.Ts k).fs m).r 1 % 4096 = nx) (n1 : 1 ≤ nx) (n2 : nx ≤ P.s) : LS P k m σ (dr2nS P k m nx σ)
  | cl0 (hfn : ((σ.Ts k).fs m).fn = 22) (hpc : ((σ.Ts k).fs m).pc = 0) : LS P k m σ (cl0S k m σ)
  | cl1z (hfn : ((σ.Ts k).fs m).fn = 22) (hpc : ((σ.Ts k).fs m).pc = 1) (hz : ((σ.Ts k).fs m).r 1 = 3) : LS P k m σ (dr2zS k σ)
  | cl1n (hfn : ((σ.Ts k).fs m).fn = 22) (hpc : ((σ.Ts k).fs m).pc = 1) (g0 : 0 ≤ ((σ.Ts k).fs m).r 0 ∧ ((σ.Ts k).fs m).r 0 < 18446744073709551616) {b : Nat} (hb : ((σ.Ts k).fs m).r 1 = b) (hb3 : b < 3) (hq : oldB (σ.f (stI k b)) (((σ.Ts k).fs m).r 0) = false) : LS P k m σ (cl1nS k m σ)
  | cl1d (hfn : ((σ.Ts k).fs m).fn = 22) (hpc : ((σ.Ts k).fs m).pc = 1) (g0 : 0 ≤ ((σ.Ts k).fs m).r 0 ∧ ((σ.Ts k).fs m).r 0 < 18446744073709551616) {b : Nat} (hb : ((σ.Ts k).fs m).r 1 = b) (hb3 : b < 3) (hq : oldB (σ.f (stI k b)) (((σ.Ts k).fs m).r 0) = true) : LS P k m σ (cl1dS k m b σ)
  | take (hfn : ((σ.Ts k).fs m).fn = 1) (hpc : 0 ≤ ((σ.Ts k).fs m).pc ∧ ((σ.Ts k).fs m).pc ≤ 3) (hr : 0 ≤ ((σ.Ts k).fs m).r 0 ∧ ((σ.Ts k).fs m).r 0 < 18446744073709551616) (hr1 : ((σ.Ts k).fs m).pc = 2 → 0 ≤ ((σ.Ts k).fs m).r 1 ∧ ((σ.Ts k).fs m).r 1 < 9223372036854775808) : LS P k m σ (rTake P k m σ)
  | give (hfn : ((σ.Ts k).fs m).fn = 2) (hpc : 0 ≤ ((σ.Ts k).fs m).pc ∧ ((σ.Ts k).fs m).pc ≤ 3) (hr : 0 ≤ ((σ.Ts k).fs m).r 0 ∧ ((σ.Ts k).fs m).r 0 < 18446744073709551616) (hr1 : 2 ≤ ((σ.Ts k).fs m).pc → 0 ≤ ((σ.Ts k).fs m).r 1 ∧ ((σ.Ts k).fs m).r 1 < 18446744073709551616) (hl : ((σ.Ts k).fs m).pc = 0 → Gd.leadsB P.s σ.H σ.G (((σ.Ts k).fs m).r 0) = true) : LS P k m σ (rGive P k m σ)
theorem ls_do {w : World} {P : Pc} {σ σ' : Sg} (h : MM w P σ) {k m : Nat} (hk : k < P.t) (hm : (σ.Ts k).nf = m + 1) (hN : m ≤ 1000) (a0 : 0 ≤ σ.acc) (a1 : σ.acc < 1000000) (hsl : σ.sl < 1000000) (hs : LS P k m σ σ') :
    Calls Try.prog 14 #[.pointer (some ⟨P.q, 0, none⟩), .int .i64 k] w fun x w' => x = .returned (.tuple #[]) ∧ MM w' P σ' ∧ KA P.B P.N w w' := by
  cases hs with
  | @adv0 hfn hpc => exact ldoA h hk hm hN hfn fun w2 ps fvs hp => adv0 hp hk hm hN a0 a1 hpc
  | @adv1l hfn hpc hr j hr1 hl => exact ldoA h hk hm hN hfn fun w2 ps fvs hp => adv1l hp hk hm hN a0 a1 hpc hr hr1 hl
  | @adv1n hfn hpc hr j hr1 hl hz => exact ldoA h hk hm hN hfn fun w2 ps fvs hp => adv1n hp hk hm hN a0 a1 hpc hr hr1 hl hz
  | @adv1e hfn hpc hr j hr1 hl hz => exact ldoA h hk hm hN hfn fun w2 ps fvs hp => adv1e hp hk hm hN a0 a1 hpc hr hr1 hl hz
  | @adv2y hfn hpc hr hz => exact ldoA h hk hm hN hfn fun w2 ps fvs hp => adv2y hp hk hm hN a0 a1 hpc hr hz
  | @adv2n hfn hpc hr hz => exact ldoA h hk hm hN hfn fun w2 ps fvs hp => adv2n hp hk hm hN a0 a1 hpc hr hz
  | @ret1 hfn hpc g0 g1 b hb hq => exact ldoR h hk hm hN hfn fun w2 ps fvs hp => ret1 hp hk hm hN a0 a1 hpc g0 g1 hb hq
  | @ret1d hfn hpc g0 g1 b hb hq => exact ldoR h hk hm hN hfn fun w2 ps fvs hp => ret1d hp hk hm hN a0 a1 hpc g0 g1 hb hq
  | @ret2 hfn hpc g0 g1 b hb => exact ldoR h hk hm hN hfn fun w2 ps fvs hp => ret2 hp hk hm hN a0 a1 hpc g0 g1 hb
  | @ret5 hfn hpc g0 g1 b hb => exact ldoR h hk hm hN hfn fun w2 ps fvs hp => ret5 hp hk hm hN a0 a1 hpc g0 g1 hb
  | @ret4 hfn hpc g0 g1 g2 b hb nx hl hn n1 n2 => exact ldoR h hk hm hN hfn fun w2 ps fvs hp => ret4 hp hk hm hN a0 a1 hpc g0 g1 g2 hb hl hn n1 n2
  | @ret0 hfn hpc g0 g1 b hb => exact ldoR h hk hm hN hfn fun w2 ps fvs hp => ret0 hp hk hm hN a0 a1 hpc g0 g1 hb
  | @ret3 hfn hpc g0 g1 b hb => exact ldoR h hk hm hN hfn fun w2 ps fvs hp => ret3 hp hk hm hN a0 a1 hpc g0 g1 hb
  | @dr0 hfn hpc b hb hb3 g1 hz => exact ldoD h hk hm hN hfn fun w2 ps fvs hp => dr0 hp hk hm hN a0 a1 hpc hb hb3 g1 hz
  | @dr0z hfn hpc b hb hb3 g1 hz => exact ldoD h hk hm hN hfn fun w2 ps fvs hp => dr0z hp hk hm hN a0 a1 hpc hb hb3 g1 hz
  | @dr1 hfn hpc b hb hb3 g1 => exact ldoD h hk hm hN hfn fun w2 ps fvs hp => dr1 hp hk hm hN a0 a1 hpc hb hb3 g1
  | @dr2z hfn hpc b hb hb3 g1 hz => exact ldoD h hk hm hN hfn fun w2 ps fvs hp => dr2z hp hk hm hN a0 a1 hpc hb hb3 g1 hz
  | @dr2n hfn hpc b hb hb3 g1 hz nx hl hn n1 n2 => exact ldoD h hk hm hN hfn fun w2 ps fvs hp => dr2n hp hk hm hN a0 a1 hpc hb hb3 g1 hz hl hn n1 n2
  | @cl0 hfn hpc => exact ldoC h hk hm hN hfn fun w2 ps fvs hp => cl0 hp hk hm hN a0 a1 hpc
  | @cl1z hfn hpc hz => exact ldoC h hk hm hN hfn fun w2 ps fvs hp => cl1z hp hk hm hN a0 a1 hpc hz
  | @cl1n hfn hpc g0 b hb hb3 hq => exact ldoC h hk hm hN hfn fun w2 ps fvs hp => cl1n hp hk hm hN a0 a1 hpc g0 hb hb3 hq
  | @cl1d hfn hpc g0 b hb hb3 hq => exact ldoC h hk hm hN hfn fun w2 ps fvs hp => cl1d hp hk hm hN a0 a1 hpc g0 hb hb3 hq
  | @take hfn hpc hr hr1 => exact ldo_take h hk hm hfn hpc hr hr1 a0 a1 hsl hN
  | @give hfn hpc hr hr1 hl => exact ldo_give h hk hm hfn hpc hr hr1 hl a0 a1 hsl hN
end Go.Proofs.Ytaaciolfgplnoaa

/- Layer 19: what a step leaves alone; the machine's Step. -/
namespace Go.Proofs.Ytaaciolfgplnoaa
open Go.RowKit WordM EdgeM
set_option linter.unusedVariables false
set_option linter.unusedSimpArgs false
theorem LS.acc {P : Pc} {k m : Nat} {σ σ' : Sg} (h : LS P k m σ σ') : σ.acc ≤ σ'.acc ∧ σ'.acc ≤ σ.acc + 1 := by
  have h1 := rTake_acc P k m σ
  have h2 := (rGive_acc P k m σ).1
  cases h
  all_goals first | omega | (refine ⟨?_, Int.le_refl _⟩; show σ.acc ≤ σ.acc + 1; omega) | (refine ⟨Int.le_refl _, ?_⟩; show σ.acc ≤ σ.acc + 1; omega)
theorem LS.oth {P : Pc} {k m : Nat} {σ σ' : Sg} (h : LS P k m σ σ') {i : Nat} (hi : i ≠ k) : σ'.Ts i = σ.Ts i := by
  cases h
  all_goals first | exact if_neg hi | ((first | unfold rTake | unfold rGive); repeat' split) <;> (unfold Sg.thr; simp only [if_neg hi])
theorem rTake_st (P : Pc) (k m : Nat) (σ : Sg) : (rTake P k m σ).steps = σ.steps ∧ (rTake P k m σ).odd = σ.odd := by
  unfold rTake
  repeat' split
  all_goals exact ⟨rfl, rfl⟩
theorem LS.st {P : Pc} {k m : Nat} {σ σ' : Sg} (h : LS P k m σ σ') : σ'.steps = σ.steps ∧ σ'.odd = σ.odd := by
  have h1 := rTake_st P k m σ
  have h2 := rGive_acc P k m σ
  cases h
  all_goals first | exact h1 | exact ⟨h2.2.1, h2.2.2.1⟩ | exact ⟨rfl, rfl⟩
theorem LS.nf {P : Pc} {k m : Nat} {σ σ' : Sg} (h : LS P k m σ σ') (hn : (σ.Ts k).nf = m + 1) : m ≤ (σ'.Ts k).nf ∧ (σ'.Ts k).nf ≤ m + 2 := by
  cases h
  all_goals first
    | (simp only [adv1eS, adv1nS, adv2yS, backAS, cl0S, cl1dS, cl1nS, dr0S, dr0zS, dr1S, dr2nS, dr2zS, enter0S, rt0S, rt1S, rt1dS, rt2S, rt3S, rt4S, rt5S, Sg.thr, ↓reduceIte, setF, Th.callT, Th.backT]; omega)
    | ((first | unfold rTake | unfold rGive); repeat' split) <;> (simp only [Sg.thr, ↓reduceIte, setF, Th.callT, Th.backT]; omega)
theorem LS.hg {P : Pc} {k m : Nat} {σ σ' : Sg} (h : LS P k m σ σ') (h1 : ((σ.Ts k).fs m).fn ≠ 1) (h2 : ((σ.Ts k).fs m).fn ≠ 2) : σ'.H = σ.H ∧ σ'.G = σ.G ∧ σ'.sl = σ.sl ∧ σ'.flt = σ.flt := by
  cases h
  all_goals first | exact ⟨rfl, rfl, rfl, rfl⟩ | exact absurd ‹_› h1 | exact absurd ‹_› h2
theorem cfL (args : Array Value) (w : World) : (callFunc 14 args).run Try.prog w = .ok (.enter 14 args) w := by go_simp
theorem lstep {w : World} {P : Pc} {σ σ' : Sg} {k m : Nat} (h : MM w P σ) (hk : k < P.t) (hn : (σ.Ts k).nf = m + 1) (hN : m ≤ 1000) (a0 : 0 ≤ σ.acc) (a1 : σ.acc < 900000) (hsl : σ.sl < 1000000) (s0 : 0 ≤ σ.steps) (s1 : σ.steps < 1000000) (hs : LS P k m σ.stp σ') :
    Calls Try.prog 13 #[.pointer (some ⟨P.q, 0, none⟩), .int .i64 k, .func (.func 14) #[] #[]] w fun x w' => x = .returned (.bool (decide (0 < (σ'.Ts k).nf))) ∧ MM w' P σ' ∧ KA P.B P.N w w' ∧ ∀ i, i ≠ k → σ'.Ts i = σ.Ts i := by
  have hacc : σ.acc ≤ σ'.acc ∧ σ'.acc ≤ σ.acc + 1 := hs.acc
  have hn' : (σ'.Ts k).nf ≤ m + 2 := (hs.nf (by exact hn)).2
  refine (mstep (caps := #[]) (σ' := σ') h hk (by omega) cfL (fun w' hm' _ => ls_do hm' hk hn hN (by exact a0) (by show σ.acc < _; omega) (by show σ.sl < _; omega) hs) (by omega) (by omega) (by omega) (by omega) (by omega)).mono ?_
  rintro _ w' ⟨rfl, hm', hk'⟩
  rw [Sg.odds_le hacc.2] at hm'
  exact ⟨rfl, hm', hk', fun i hi => hs.oth hi⟩
end Go.Proofs.Ytaaciolfgplnoaa

/- Layer 19: what threads that take, retire, clean and go on, step by step, leave free, hold, put into bags, and stand in (no program in it). -/
namespace Go.Proofs.Ytaaciolfgplnoaa.Lb
open Go.RowKit WordM EdgeM Sl
set_option linter.unusedVariables false
set_option linter.unusedSimpArgs false
/-- What is no part of the machine: whose a slot is, when it was retired, lists of edges by tags, the free list. -/
structure Gh where
  O : Nat → Nat
  W : Nat → Int
  X : Nat → List Int
  L : List Nat
/-- The tags of a thread: 2 its hand, 3 what its top frame takes or gives, 4 to 6 its bags, 7 what it retires. -/
def ofK (k v : Nat) : Prop := 10 * k + 2 ≤ v ∧ v ≤ 10 * k + 7
def lim (T : Th.Td) : Prop := ∃ m, T.nf = m + 1 ∧ (T.fs m).fn = 2 ∧ 1 ≤ (T.fs m).pc
def ownF (T : Th.Td) (a : Nat) : Prop := ∃ m, T.nf = m + 1 ∧ (T.fs m).r 0 % 4096 = a ∧ ((T.fs m).fn = 2 ∨ ((T.fs m).fn = 1 ∧ (T.fs m).pc = 3))
def sl (e : Int) : Nat := (e % 4096).toNat
/-- A list of edges, from a word on. -/
def Ch (t : Nat) (f : Nat → Int) : Int → List Int → Prop
  | x, [] => x = 0
  | x, e :: r => x = e ∧ Ch t f (f (nd t (sl e) 0)) r
/-- Where a bag begins: while it is drained, within Drain. -/
def rootOf (T : Th.Td) (f : Nat → Int) (k c : Nat) : Int := if 2 ≤ T.nf ∧ (T.fs 1).pc = 2 ∧ (T.fs 1).r 0 = c then (T.fs 1).r 1 else f (bgI k c)
def edX (s : Nat) (O : Nat → Nat) (G : Nat → Int) (v : Nat) (e : Int) : Prop := (0 < e ∧ e < 4611686018427387904) ∧ ∃ a : Nat, e % 4096 = a ∧ 1 ≤ a ∧ a ≤ s ∧ O a = v ∧ G (a - 1) = e / 4096 % 1125899906842624
section
variable (P : Pc) (f G : Nat → Int) (g : Gh) (k : Nat)
def TakeF (F : Th.Fm) : Prop := F.fn = 1 ∧ 0 ≤ F.r 0 ∧ F.r 0 < 18446744073709551616 ∧ (F.pc = 0 ∨ ∃ a : Nat, F.r 0 % 4096 = a ∧ 1 ≤ a ∧ a ≤ P.s ∧
  ((F.pc = 1 ∧ F.r 0 / 4096 ≤ f 2 / 4096) ∨ (F.pc = 2 ∧ F.r 0 / 4096 ≤ f 2 / 4096 ∧ 0 ≤ F.r 1 ∧ F.r 1 < 4611686018427387904 ∧ (F.r 0 = f 2 → F.r 1 = f (nd P.t a 0))) ∨ (F.pc = 3 ∧ g.O a = 10 * k + 3 ∧ g.W a < 0)))
def GiveF (F : Th.Fm) : Prop := F.fn = 2 ∧ 0 ≤ F.r 0 ∧ F.r 0 < 4611686018427387904 ∧ ∃ a : Nat, F.r 0 % 4096 = a ∧ 1 ≤ a ∧ a ≤ P.s ∧ g.O a = 10 * k + 3 ∧
  ((F.pc = 0 ∧ G (a - 1) = F.r 0 / 4096 % 1125899906842624 ∧ g.W a + 3 ≤ f 1) ∨ F.pc = 1 ∨ (F.pc = 2 ∧ 0 ≤ F.r 1 ∧ F.r 1 < 18446744073709551616 ∧ F.r 1 / 4096 ≤ f 2 / 4096) ∨ (F.pc = 3 ∧ 0 ≤ F.r 1 ∧ F.r 1 < 18446744073709551616 ∧ F.r 1 / 4096 ≤ f 2 / 4096 ∧ f (nd P.t a 0) = F.r 1 % 4096))
def AdvF (F : Th.Fm) : Prop := F.fn = 12 ∧ ((F.pc = 0 ∧ F.r 1 = 0) ∨ (F.pc = 1 ∧ 0 ≤ F.r 0 ∧ F.r 0 ≤ f 1 ∧ ∃ j : Nat, F.r 1 = j ∧ j < P.t) ∨ (F.pc = 2 ∧ 0 ≤ F.r 0 ∧ F.r 0 ≤ f 1))
/-- Retire, past its first step: of the bag c. -/
def RetB (F : Th.Fm) (c : Nat) : Prop := F.fn = 20 ∧ g.X (10 * k + 7) = [F.r 0] ∧ g.W (sl (F.r 0)) ≤ F.r 1 ∧ 0 ≤ F.r 1 ∧ F.r 1 ≤ f 1 ∧ F.r 1 % 3 = c
def RetF (F : Th.Fm) : Prop := (F.fn = 20 ∧ g.X (10 * k + 7) = [F.r 0] ∧ F.pc = 0 ∧ F.r 1 = 0 ∧ g.W (sl (F.r 0)) ≤ f 1) ∨ ∃ c : Nat, c < 3 ∧ RetB f g k F c ∧
  ((F.pc = 1 ∧ f (stI k c) ≤ F.r 1) ∨ (F.pc = 2 ∧ g.X (10 * k + 4 + c) = []) ∨ (F.pc = 3 ∧ f (stI k c) = F.r 1) ∨ (F.pc = 4 ∧ f (stI k c) = F.r 1 ∧ F.r 2 = f (bgI k c)) ∨ (F.pc = 5 ∧ f (stI k c) = F.r 1 ∧ f (nd P.t (sl (F.r 0)) 0) = f (bgI k c)))
def CleanF (F : Th.Fm) : Prop := F.fn = 22 ∧ g.X (10 * k + 7) = [] ∧ ((F.pc = 0 ∧ F.r 1 = 0) ∨ (F.pc = 1 ∧ 0 ≤ F.r 0 ∧ F.r 0 ≤ f 1 ∧ ∃ c : Nat, F.r 1 = c ∧ c ≤ 3))
/-- Beneath Drain of the bag b. -/
def BotF (F : Th.Fm) (b : Nat) : Prop := (F.pc = 2 ∧ RetB f g k F b) ∨ (F.pc = 1 ∧ CleanF f g k F)
def DrainF (F : Th.Fm) (b : Nat) : Prop := F.fn = 21 ∧ F.r 0 = b ∧ b < 3 ∧ 0 ≤ F.r 1 ∧ F.r 1 < 18446744073709551616 ∧ (g.X (10 * k + 4 + b) = [] ∨ f (stI k b) + 3 ≤ f 1) ∧
  (F.pc = 0 ∨ (F.pc = 1 ∧ F.r 1 = f (bgI k b)) ∨ (F.pc = 2 ∧ f (bgI k b) = 0))
/-- What a thread stands in. -/
def TI (T : Th.Td) : Prop := (T.nf = 0 ∧ g.X (10 * k + 7) = []) ∨
  (T.nf = 1 ∧ ((g.X (10 * k + 7) = [] ∧ (TakeF P f g k (T.fs 0) ∨ AdvF P f (T.fs 0))) ∨ CleanF f g k (T.fs 0) ∨ RetF P f g k (T.fs 0))) ∨
  (T.nf = 2 ∧ ∃ b, BotF f g k (T.fs 0) b ∧ DrainF f g k (T.fs 1) b) ∨
  (T.nf = 3 ∧ ∃ b, BotF f g k (T.fs 0) b ∧ DrainF f g k (T.fs 1) b ∧ (T.fs 1).pc = 2 ∧ GiveF P f G g k (T.fs 2))
end
structure XS (P : Pc) (σ : Sg) (g : Gh) (n : Nat) : Prop where
  lk : Lk P.t P.s σ.f (σ.f 2 % 4096) g.L
  un : g.L.Nodup
  ol : ∀ a, 1 ≤ a → a ≤ P.s → (g.O a = 0 ↔ a ∈ g.L)
  hh : ∀ a, 1 ≤ a → a ≤ P.s → (σ.H (a - 1) = false ↔ (g.O a = 0 ∨ ∃ j, j < P.t ∧ g.O a = 10 * j + 3 ∧ lim (σ.Ts j)))
  gn : ∀ a, 1 ≤ a → a ≤ P.s → σ.f (nd P.t a 1) = σ.G (a - 1) ∧ 0 ≤ σ.G (a - 1) ∧ σ.G (a - 1) ≤ n
  lb : ∀ a, 1 ≤ a → a ≤ P.s → 0 ≤ σ.f (nd P.t a 0) ∧ σ.f (nd P.t a 0) < 4611686018427387904
  ct : 0 ≤ σ.f 2 ∧ σ.f 2 / 4096 ≤ n
  ep : 3 ≤ σ.f 1 ∧ σ.f 1 ≤ n + 3
  ai : ∀ j, j < P.t → σ.f (aI j) = 0
  th : ∀ k, k < P.t → TI P σ.f σ.G g k (σ.Ts k)
  ow : ∀ a, 1 ≤ a → a ≤ P.s → ∀ j, g.O a = 10 * j + 3 → j < P.t ∧ ownF (σ.Ts j) a
  xt : ∀ a, 1 ≤ a → a ≤ P.s → g.O a = 0 ∨ g.O a = 1 ∨ ∃ j, j < P.t ∧ ofK j (g.O a)
  one : ∀ a, 1 ≤ a → a ≤ P.s → (g.O a = 1 ↔ a ≤ 5)
  xe : ∀ j, j < P.t → ∀ v, ofK j v → ∀ e ∈ g.X v, edX P.s g.O σ.G v e
  xu : ∀ j, j < P.t → ∀ v, ofK j v → ((g.X v).map sl).Nodup
  xc : ∀ a, 1 ≤ a → a ≤ P.s → ∀ j, j < P.t → ofK j (g.O a) → g.O a ≠ 10 * j + 3 → ∃ e ∈ g.X (g.O a), e % 4096 = a
  wh : ∀ a, 1 ≤ a → a ≤ P.s → ∀ j, g.O a = 10 * j + 2 → g.W a < 0
  ch : ∀ k, k < P.t → ∀ c, c < 3 → Ch P.t σ.f (rootOf (σ.Ts k) σ.f k c) (g.X (10 * k + 4 + c))
  sta : ∀ k, k < P.t → ∀ c, c < 3 → (0 ≤ σ.f (stI k c) ∧ σ.f (stI k c) ≤ σ.f 1) ∧ (g.X (10 * k + 4 + c) ≠ [] → σ.f (stI k c) % 3 = c) ∧ ∀ e ∈ g.X (10 * k + 4 + c), g.W (sl e) ≤ σ.f (stI k c)
  ac : 0 ≤ σ.acc ∧ σ.acc ≤ n ∧ 0 ≤ σ.steps ∧ σ.steps ≤ n
  ok : σ.flt = false ∧ σ.sl = 0 ∧ σ.odd = false
theorem sl_of {e : Int} {a : Nat} (h : e % 4096 = a) : sl e = a := by unfold sl; omega
theorem edX.slot {s : Nat} {O : Nat → Nat} {G : Nat → Int} {v : Nat} {e : Int} (h : edX s O G v e) : 1 ≤ sl e ∧ sl e ≤ s ∧ O (sl e) = v ∧ e % 4096 = sl e := by
  obtain ⟨_, a, h1, h2, h3, h4, _⟩ := h
  rw [sl_of h1]; exact ⟨h2, h3, h4, h1⟩
theorem edX.on {s : Nat} {O O' : Nat → Nat} {G G' : Nat → Int} {v : Nat} {e : Int} (h : edX s O G v e) (k : ∀ a, 1 ≤ a → a ≤ s → O a = v → O' a = O a ∧ G' (a - 1) = G (a - 1)) : edX s O' G' v e := by
  obtain ⟨h0, a, h1, h2, h3, h4, h5⟩ := h
  obtain ⟨e1, e2⟩ := k a h2 h3 h4
  exact ⟨h0, a, h1, h2, h3, by rw [e1]; exact h4, by rw [e2]; exact h5⟩
theorem Ch.on {t : Nat} {f f' : Nat → Int} : ∀ {l : List Int} {x : Int}, Ch t f x l → (∀ e ∈ l, f' (nd t (sl e) 0) = f (nd t (sl e) 0)) → Ch t f' x l
  | [], _, h, _ => h
  | e :: r, x, h, k => ⟨h.1, by rw [k e List.mem_cons_self]; exact Ch.on h.2 (fun y hy => k y (List.mem_cons_of_mem _ hy))⟩
theorem Ch.nil {t : Nat} {f : Nat → Int} {l : List Int} (h : Ch t f 0 l) (hp : ∀ e ∈ l, 0 < e) : l = [] := by
  cases l with
  | nil => rfl
  | cons e r => have h1 : (0 : Int) = e := h.1; have := hp e List.mem_cons_self; omega
theorem Ch.cons {t : Nat} {f : Nat → Int} {l : List Int} {x : Int} (h : Ch t f x l) (hx : x ≠ 0) : ∃ r, l = x :: r ∧ Ch t f (f (nd t (sl x) 0)) r := by
  cases l with
  | nil => exact absurd h hx
  | cons e r => obtain ⟨h1, h2⟩ := h; subst h1; exact ⟨r, rfl, h2⟩
theorem ofK_inj {i j v : Nat} (h : ofK i v) (k : ofK j v) : i = j := by unfold ofK at *; omega
theorem ofK_3 (k : Nat) : ofK k (10 * k + 3) := by unfold ofK; omega
theorem ofK_2 (k : Nat) : ofK k (10 * k + 2) := by unfold ofK; omega
theorem ofK_7 (k : Nat) : ofK k (10 * k + 7) := by unfold ofK; omega
theorem ofK_b {k c : Nat} (h : c < 3) : ofK k (10 * k + 4 + c) := by unfold ofK; omega
theorem ofK_pos {k v : Nat} (h : ofK k v) : v ≠ 0 ∧ v ≠ 1 := by unfold ofK at h; omega
/-- What another thread sees of a step. -/
structure Sees (P : Pc) (f f' G G' : Nat → Int) (g g' : Gh) (i : Nat) : Prop where
  v : ∀ v, ofK i v → g'.X v = g.X v
  s : ∀ a, 1 ≤ a → a ≤ P.s → ofK i (g.O a) → g'.O a = g.O a ∧ g'.W a = g.W a ∧ G' (a - 1) = G (a - 1) ∧ f' (nd P.t a 0) = f (nd P.t a 0)
  st : ∀ c, c < 3 → f' (stI i c) = f (stI i c) ∧ f' (bgI i c) = f (bgI i c)
  ep : f 1 ≤ f' 1
  h2 : (f' 2 = f 2 ∧ ∀ a, 1 ≤ a → a ≤ P.s → g.O a = 0 → f' (nd P.t a 0) = f (nd P.t a 0)) ∨ f 2 / 4096 < f' 2 / 4096
section
variable {P : Pc} {f f' G G' : Nat → Int} {g g' : Gh} {i : Nat} {F : Th.Fm} {T : Th.Td}
theorem Sees.le (h : Sees P f f' G G' g g' i) : f 2 / 4096 ≤ f' 2 / 4096 := by
  rcases h.h2 with ⟨h, _⟩ | h
  · rw [h]; exact Int.le_refl _
  · omega
theorem TakeF.oth (h : TakeF P f g i F) (k : Sees P f f' G G' g g' i) (hlk : Lk P.t P.s f (f 2 % 4096) g.L) (hol : ∀ a, 1 ≤ a → a ≤ P.s → (g.O a = 0 ↔ a ∈ g.L)) : TakeF P f' g' i F := by
  obtain ⟨f1, f2, f3, f4⟩ := h
  have hle := k.le
  refine ⟨f1, f2, f3, ?_⟩
  rcases f4 with f4 | ⟨a, f4, f5, f6, f7⟩
  · exact .inl f4
  · refine .inr ⟨a, f4, f5, f6, ?_⟩
    rcases f7 with ⟨f7, f8⟩ | ⟨f7, f8, f9, f10, f11⟩ | ⟨f7, f8, f9⟩
    · exact .inl ⟨f7, Int.le_trans f8 hle⟩
    · refine .inr (.inl ⟨f7, Int.le_trans f8 hle, f9, f10, fun e9 => ?_⟩)
      rcases k.h2 with ⟨h2, h3⟩ | h2
      · have e10 := f11 (by rw [e9, h2])
        have ha : a ∈ g.L := by
          have h4 := hlk.hd
          generalize g.L = L at h4 ⊢
          cases L with
          | nil => exfalso; rw [← h2, ← e9, f4] at h4; have : (a : Int) = 0 := h4; omega
          | cons x r => rw [← h2, ← e9, f4] at h4; have h5 : (a : Int) = (x : Int) := h4; have : a = x := by omega
                        rw [this]; exact List.mem_cons_self
        rw [e10, h3 a f5 f6 ((hol a f5 f6).2 ha)]
      · exfalso; rw [e9] at f8; omega
    · obtain ⟨e1, e2, _⟩ := k.s a f5 f6 (by rw [f8]; exact ofK_3 i)
      exact .inr (.inr ⟨f7, by rw [e1]; exact f8, by rw [e2]; exact f9⟩)
theorem GiveF.oth (h : GiveF P f G g i F) (k : Sees P f f' G G' g g' i) : GiveF P f' G' g' i F := by
  obtain ⟨f1, f2, f3, a, f4, f5, f6, f7, f8⟩ := h
  have hle := k.le
  have hep := k.ep
  obtain ⟨e1, e2, e3, e4⟩ := k.s a f5 f6 (by rw [f7]; exact ofK_3 i)
  refine ⟨f1, f2, f3, a, f4, f5, f6, by rw [e1]; exact f7, ?_⟩
  rcases f8 with ⟨f8, f9, f10⟩ | f8 | ⟨f8, f9, f10, f11⟩ | ⟨f8, f9, f10, f11, f12⟩
  · exact .inl ⟨f8, by rw [e3]; exact f9, by rw [e2]; omega⟩
  · exact .inr (.inl f8)
  · exact .inr (.inr (.inl ⟨f8, f9, f10, Int.le_trans f11 hle⟩))
  · exact .inr (.inr (.inr ⟨f8, f9, f10, Int.le_trans f11 hle, by rw [e4]; exact f12⟩))
theorem AdvF.oth (h : AdvF P f F) (k : f 1 ≤ f' 1) : AdvF P f' F := by
  obtain ⟨f1, h⟩ := h
  refine ⟨f1, ?_⟩
  rcases h with h | ⟨a, b, c, d⟩ | ⟨a, b, c⟩
  · exact .inl h
  · exact .inr (.inl ⟨a, b, Int.le_trans c k, d⟩)
  · exact .inr (.inr ⟨a, b, Int.le_trans c k⟩)
theorem RetB.oth {c : Nat} (h : RetB f g i F c) (k : Sees P f f' G G' g g' i) (hxe : ∀ v, ofK i v → ∀ e ∈ g.X v, edX P.s g.O G v e) : RetB f' g' i F c := by
  obtain ⟨h1, h2, h3, h4, h5, h6⟩ := h
  have hs := (hxe _ (ofK_7 i) (F.r 0) (by rw [h2]; exact List.mem_cons_self)).slot
  obtain ⟨_, e2, _⟩ := k.s _ hs.1 hs.2.1 (by rw [hs.2.2.1]; exact ofK_7 i)
  exact ⟨h1, by rw [k.v _ (ofK_7 i)]; exact h2, by rw [e2]; exact h3, h4, Int.le_trans h5 k.ep, h6⟩
theorem RetF.oth (h : RetF P f g i F) (k : Sees P f f' G G' g g' i) (hxe : ∀ v, ofK i v → ∀ e ∈ g.X v, edX P.s g.O G v e) : RetF P f' g' i F := by
  rcases h with ⟨h1, h2, h3, h4, h5⟩ | ⟨c, hc, hb, h⟩
  · have hs := (hxe _ (ofK_7 i) (F.r 0) (by rw [h2]; exact List.mem_cons_self)).slot
    obtain ⟨_, e2, _⟩ := k.s _ hs.1 hs.2.1 (by rw [hs.2.2.1]; exact ofK_7 i)
    exact .inl ⟨h1, by rw [k.v _ (ofK_7 i)]; exact h2, h3, h4, by rw [e2]; exact Int.le_trans h5 k.ep⟩
  · obtain ⟨s1, s2⟩ := k.st c hc
    have hs := (hxe _ (ofK_7 i) (F.r 0) (by rw [hb.2.1]; exact List.mem_cons_self)).slot
    obtain ⟨_, _, _, e4⟩ := k.s _ hs.1 hs.2.1 (by rw [hs.2.2.1]; exact ofK_7 i)
    refine .inr ⟨c, hc, hb.oth k hxe, ?_⟩
    rw [s1, s2, e4, k.v _ (ofK_b hc)]; exact h
theorem CleanF.oth (h : CleanF f g i F) (k : Sees P f f' G G' g g' i) : CleanF f' g' i F := by
  obtain ⟨h1, h2, h3⟩ := h
  refine ⟨h1, by rw [k.v _ (ofK_7 i)]; exact h2, ?_⟩
  rcases h3 with h3 | ⟨a, b, c, d⟩
  · exact .inl h3
  · exact .inr ⟨a, b, Int.le_trans c k.ep, d⟩
theorem BotF.oth {b : Nat} (h : BotF f g i F b) (k : Sees P f f' G G' g g' i) (hxe : ∀ v, ofK i v → ∀ e ∈ g.X v, edX P.s g.O G v e) : BotF f' g' i F b := by
  rcases h with ⟨h1, h2⟩ | ⟨h1, h2⟩
  · exact .inl ⟨h1, h2.oth k hxe⟩
  · exact .inr ⟨h1, h2.oth k⟩
theorem DrainF.oth {b : Nat} (h : DrainF f g i F b) (k : Sees P f f' G G' g g' i) : DrainF f' g' i F b := by
  obtain ⟨h1, h2, h3, h4, h5, h6, h7⟩ := h
  obtain ⟨s1, s2⟩ := k.st b h3
  refine ⟨h1, h2, h3, h4, h5, ?_, by rw [s2]; exact h7⟩
  rw [k.v _ (ofK_b h3), s1]
  have := k.ep
  rcases h6 with h6 | h6
  · exact .inl h6
  · right; omega
theorem TI.oth (h : TI P f G g i T) (k : Sees P f f' G G' g g' i) (hlk : Lk P.t P.s f (f 2 % 4096) g.L) (hol : ∀ a, 1 ≤ a → a ≤ P.s → (g.O a = 0 ↔ a ∈ g.L)) (hxe : ∀ v, ofK i v → ∀ e ∈ g.X v, edX P.s g.O G v e) : TI P f' G' g' i T := by
  rcases h with ⟨h1, h2⟩ | ⟨h1, h2⟩ | ⟨h1, b, h2, h3⟩ | ⟨h1, b, h2, h3, h4, h5⟩
  · exact .inl ⟨h1, by rw [k.v _ (ofK_7 i)]; exact h2⟩
  · refine .inr (.inl ⟨h1, ?_⟩)
    rcases h2 with ⟨h2, h3⟩ | h2 | h2
    · refine .inl ⟨by rw [k.v _ (ofK_7 i)]; exact h2, ?_⟩
      rcases h3 with h3 | h3
      · exact .inl (h3.oth k hlk hol)
      · exact .inr (h3.oth k.ep)
    · exact .inr (.inl (h2.oth k))
    · exact .inr (.inr (h2.oth k hxe))
  · exact .inr (.inr (.inl ⟨h1, b, h2.oth k hxe, h3.oth k⟩))
  · exact .inr (.inr (.inr ⟨h1, b, h2.oth k hxe, h3.oth k, h4, h5.oth k⟩))
end
end Go.Proofs.Ytaaciolfgplnoaa.Lb
