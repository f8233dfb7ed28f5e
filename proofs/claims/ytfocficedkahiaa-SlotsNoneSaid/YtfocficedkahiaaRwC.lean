/- RwC: several texts in one. -/
import Derived.Test.YtfocficedkahiaaRwB
import Derived.Test.YtfocficedkahiaaFrame
/- Layer 17: Take, alone. -/
namespace Go.Proofs.Ytfocficedkahiaa
open Go.RowKit WordM EdgeM
set_option linter.unusedVariables false
set_option linter.unusedSimpArgs false
theorem Sg.odds_one {σ : Sg} {a : Int} (h : σ.acc = a + 1) : σ.odds a = σ := by
  cases σ with | mk f acc flt H G sl steps odd Ts =>
  simp only at h
  have e : decide (1 < acc - a) = false := decide_eq_false (by omega)
  simp only [Sg.odds, e, Bool.or_false]
/-- What stands of a thread within a routine. -/
structure TkAt (σ0 σ : Sg) (k m : Nat) (F : Th.Fm) : Prop where
  nf : (σ.Ts k).nf = m + 1
  fs : (σ.Ts k).fs m = F
  oth : ∀ i, i ≠ k → σ.Ts i = σ0.Ts i
theorem thr_oth {σ0 σ : Sg} {k : Nat} (T : Th.Td) (h : ∀ i, i ≠ k → σ.Ts i = σ0.Ts i) (i : Nat) (hi : i ≠ k) : (fun i => if i = k then T else σ.Ts i) i = σ0.Ts i := by
  simp only [if_neg hi]; exact h i hi
theorem setF_fs (T : Th.Td) (m : Nat) (F : Th.Fm) : (setF T m F).fs m = F := by unfold setF Th.upM; simp
theorem TkAt.set {σ0 σ σ' : Sg} {k m : Nat} {F F' : Th.Fm} (h : TkAt σ0 σ k m F) (e : σ'.Ts = fun i => if i = k then setF (σ.Ts k) m F' else σ.Ts i) : TkAt σ0 σ' k m F' := by
  refine ⟨?_, ?_, fun i hi => ?_⟩
  · rw [e]; simp only [if_true]; exact h.nf
  · rw [e]; simp only [if_true]; exact setF_fs _ _ _
  · rw [e]; simp only [if_neg hi]; exact h.oth i hi
theorem TkAt.call {σ : Sg} {k m : Nat} (hm : (σ.Ts k).nf = m) (fn : Int) (n : Nat) (R : Nat → Int) : TkAt σ (σ.thr k (Th.callT (σ.Ts k) fn n R)) k m ⟨fn, 0, fun i => if i < n then R i else 0⟩ := by
  subst hm
  refine ⟨?_, ?_, fun i hi => ?_⟩
  · unfold Sg.thr Th.callT; simp
  · unfold Sg.thr Th.callT Th.upM; simp
  · unfold Sg.thr; simp only [if_neg hi]
def tkS (P : Pc) (k m : Nat) (σ : Sg) (R : Nat → Int) : Nat → Sg
  | 0 => σ.thr k (Th.callT (σ.Ts k) 1 0 R)
  | j + 1 => rTake P k m (tkS P k m σ R j).stp
theorem rTake_acc (P : Pc) (k m : Nat) (σ : Sg) : (rTake P k m σ).acc = σ.acc + 1 := by
  unfold rTake
  split
  · split <;> rfl
  · split
    · rfl
    · split
      · split <;> rfl
      · rfl
theorem rTake_steps (P : Pc) (k m : Nat) (σ : Sg) : (rTake P k m σ).steps = σ.steps := by
  unfold rTake
  split
  · split <;> rfl
  · split
    · rfl
    · split
      · split <;> rfl
      · rfl
theorem rTake_odd (P : Pc) (k m : Nat) (σ : Sg) : (rTake P k m σ).odd = σ.odd ∧ (rTake P k m σ).G = σ.G := by
  unfold rTake
  split
  · split <;> exact ⟨rfl, rfl⟩
  · split
    · exact ⟨rfl, rfl⟩
    · split
      · split <;> exact ⟨rfl, rfl⟩
      · exact ⟨rfl, rfl⟩
section
variable {P : Pc} {k m : Nat} {σ : Sg} {R : Nat → Int}
theorem tkS_acc : ∀ j : Nat, (tkS P k m σ R j).acc = σ.acc + j ∧ (tkS P k m σ R j).steps = σ.steps + j ∧ (tkS P k m σ R j).odd = σ.odd ∧ (tkS P k m σ R j).G = σ.G
  | 0 => ⟨by show σ.acc = _; omega, by show σ.steps = _; omega, rfl, rfl⟩
  | j + 1 => by
    obtain ⟨h1, h2, h3, h4⟩ := tkS_acc j
    refine ⟨?_, ?_, ?_, ?_⟩
    · show (rTake P k m _).acc = _
      rw [rTake_acc]; show (tkS P k m σ R j).acc + 1 = _; rw [h1]; omega
    · show (rTake P k m _).steps = _
      rw [rTake_steps]; show (tkS P k m σ R j).steps + 1 = _; rw [h2]; omega
    · show (rTake P k m _).odd = _
      rw [(rTake_odd _ _ _ _).1]; exact h3
    · show (rTake P k m _).G = _
      rw [(rTake_odd _ _ _ _).2]; exact h4
/-- The registers of Take. -/
def tkR (hd lk : Int) : Nat → Int := updr (updr (fun i => if i < 0 then 0 else 0) 0 hd) 1 lk
variable (hm : (σ.Ts k).nf = m)
include hm
theorem tk0 : TkAt σ (tkS P k m σ R 0) k m ⟨1, 0, fun i => if i < 0 then R i else 0⟩ := TkAt.call hm 1 0 R
/-- Nothing is free. -/
theorem tk1z (hz : σ.f 2 % 4096 = 0) : tkS P k m σ R 1 = { (tkS P k m σ R 0).stp.thr k (Th.backT (setF ((tkS P k m σ R 0).Ts k) m ⟨1, 1, updr (fun i => if i < 0 then R i else 0) 0 (σ.f 2)⟩) 1 (fun _ => 0)) with acc := σ.acc + 1 } := by
  have h0 := tk0 (P := P) (R := R) hm
  show rTake P k m (tkS P k m σ R 0).stp = _
  unfold rTake
  rw [show ((tkS P k m σ R 0).stp.Ts k).fs m = _ from h0.fs, if_pos rfl, if_pos (show (tkS P k m σ R 0).stp.f 2 % 4096 = 0 from hz)]
  rfl
variable (hz : ¬ σ.f 2 % 4096 = 0)
include hz
theorem tk1 : TkAt σ (tkS P k m σ R 1) k m ⟨1, 1, updr (fun i => if i < 0 then R i else 0) 0 (σ.f 2)⟩ ∧ (tkS P k m σ R 1).f = σ.f ∧ (tkS P k m σ R 1).flt = σ.flt ∧ (tkS P k m σ R 1).H = σ.H ∧ (tkS P k m σ R 1).sl = σ.sl := by
  have h0 := tk0 (P := P) (R := R) hm
  have e : tkS P k m σ R 1 = { (tkS P k m σ R 0).stp.thr k (setF ((tkS P k m σ R 0).Ts k) m ⟨1, 1, updr (fun i => if i < 0 then R i else 0) 0 (σ.f 2)⟩) with acc := σ.acc + 1 } := by
    show rTake P k m (tkS P k m σ R 0).stp = _
    unfold rTake
    rw [show ((tkS P k m σ R 0).stp.Ts k).fs m = _ from h0.fs, if_pos rfl, if_neg (show ¬ (tkS P k m σ R 0).stp.f 2 % 4096 = 0 from hz)]
    rfl
  rw [e]
  exact ⟨h0.set rfl, rfl, rfl, rfl, rfl⟩
theorem tk2 : TkAt σ (tkS P k m σ R 2) k m ⟨1, 2, updr (updr (fun i => if i < 0 then R i else 0) 0 (σ.f 2)) 1 (P.ld σ.f (σ.f 2 % 4096) 0)⟩ ∧ (tkS P k m σ R 2).f = σ.f ∧ (tkS P k m σ R 2).flt = (σ.flt || !P.ok (σ.f 2 % 4096) 0) ∧ (tkS P k m σ R 2).H = σ.H ∧ (tkS P k m σ R 2).sl = σ.sl := by
  obtain ⟨h1, e1, e2, e3, e4⟩ := tk1 (P := P) (R := R) hm hz
  have e : tkS P k m σ R 2 = { (tkS P k m σ R 1).stp.thr k (setF ((tkS P k m σ R 1).Ts k) m ⟨1, 2, updr (updr (fun i => if i < 0 then R i else 0) 0 (σ.f 2)) 1 (P.ld (tkS P k m σ R 1).f (σ.f 2 % 4096) 0)⟩) with acc := (tkS P k m σ R 1).acc + 1, flt := (tkS P k m σ R 1).flt || !P.ok (σ.f 2 % 4096) 0 } := by
    show rTake P k m (tkS P k m σ R 1).stp = _
    unfold rTake
    rw [show ((tkS P k m σ R 1).stp.Ts k).fs m = _ from h1.fs, if_neg (show ¬ (1 : Int) = 0 by omega), if_pos rfl]
    rfl
  rw [e]
  exact ⟨by rw [e1]; exact h1.set rfl, e1, by rw [e2], e3, e4⟩
theorem tk3 : TkAt σ (tkS P k m σ R 3) k m ⟨1, 3, updr (updr (fun i => if i < 0 then R i else 0) 0 (σ.f 2)) 1 (P.ld σ.f (σ.f 2 % 4096) 0)⟩ ∧ (tkS P k m σ R 3).f = Mm.upd σ.f 2 (chgI (σ.f 2) (P.ld σ.f (σ.f 2 % 4096) 0)) ∧ (tkS P k m σ R 3).flt = (σ.flt || !P.ok (σ.f 2 % 4096) 0) ∧
    (tkS P k m σ R 3).H = Gd.takeH P.s σ.H (σ.f 2 % 4096) ∧ (tkS P k m σ R 3).sl = if Gd.canT P.s σ.H (σ.f 2 % 4096) = true then σ.sl else σ.sl + 1 := by
  obtain ⟨h1, e1, e2, e3, e4⟩ := tk2 (P := P) (R := R) hm hz
  have e : tkS P k m σ R 3 = { (tkS P k m σ R 2).stp.thr k (setF ((tkS P k m σ R 2).Ts k) m ⟨1, 3, updr (updr (fun i => if i < 0 then R i else 0) 0 (σ.f 2)) 1 (P.ld σ.f (σ.f 2 % 4096) 0)⟩) with
      acc := (tkS P k m σ R 2).acc + 1, f := Mm.upd (tkS P k m σ R 2).f 2 (chgI (σ.f 2) (P.ld σ.f (σ.f 2 % 4096) 0)), H := Gd.takeH P.s (tkS P k m σ R 2).H (σ.f 2 % 4096), sl := if Gd.canT P.s (tkS P k m σ R 2).H (σ.f 2 % 4096) = true then (tkS P k m σ R 2).sl else (tkS P k m σ R 2).sl + 1 } := by
    show rTake P k m (tkS P k m σ R 2).stp = _
    unfold rTake
    rw [show ((tkS P k m σ R 2).stp.Ts k).fs m = _ from h1.fs, if_neg (show ¬ (2 : Int) = 0 by omega), if_neg (show ¬ (2 : Int) = 1 by omega), if_pos rfl, if_pos (show ((tkS P k m σ R 2).stp.f 2 == (Th.Fm.mk 1 2 (updr (updr (fun i => if i < 0 then R i else 0) 0 (σ.f 2)) 1 (P.ld σ.f (σ.f 2 % 4096) 0))).r 0) = true from by show ((tkS P k m σ R 2).f 2 == σ.f 2) = true; rw [e1]; exact beq_self_eq_true _)]
    rfl
  rw [e]
  exact ⟨h1.set rfl, by rw [← e1], e2, by rw [← e3], by rw [← e3, ← e4]⟩
theorem tk4 : (tkS P k m σ R 4).f = Mm.upd σ.f 2 (chgI (σ.f 2) (P.ld σ.f (σ.f 2 % 4096) 0)) ∧ (tkS P k m σ R 4).flt = ((σ.flt || !P.ok (σ.f 2 % 4096) 0) || !P.ok (σ.f 2 % 4096) 1) ∧
    (tkS P k m σ R 4).H = Gd.takeH P.s σ.H (σ.f 2 % 4096) ∧ (tkS P k m σ R 4).sl = (if Gd.canT P.s σ.H (σ.f 2 % 4096) = true then σ.sl else σ.sl + 1) ∧
    ((tkS P k m σ R 4).Ts k).nf = m ∧ ((tkS P k m σ R 4).Ts k).ret = (fun i => if i < 1 then makeI (σ.f 2 % 4096) (P.ld (Mm.upd σ.f 2 (chgI (σ.f 2) (P.ld σ.f (σ.f 2 % 4096) 0))) (σ.f 2 % 4096) 1) else 0) ∧ ∀ i, i ≠ k → (tkS P k m σ R 4).Ts i = σ.Ts i := by
  obtain ⟨h1, e1, e2, e3, e4⟩ := tk3 (P := P) (R := R) hm hz
  have e : tkS P k m σ R 4 = { (tkS P k m σ R 3).stp.thr k (Th.backT ((tkS P k m σ R 3).Ts k) 1 (fun _ => makeI (σ.f 2 % 4096) (P.ld (tkS P k m σ R 3).f (σ.f 2 % 4096) 1))) with
      acc := (tkS P k m σ R 3).acc + 1, flt := (tkS P k m σ R 3).flt || !P.ok (σ.f 2 % 4096) 1 } := by
    show rTake P k m (tkS P k m σ R 3).stp = _
    unfold rTake
    rw [show ((tkS P k m σ R 3).stp.Ts k).fs m = _ from h1.fs, if_neg (show ¬ (3 : Int) = 0 by omega), if_neg (show ¬ (3 : Int) = 1 by omega), if_neg (show ¬ (3 : Int) = 2 by omega)]
    rfl
  rw [e]
  refine ⟨e1, by rw [← e2], e3, e4, ?_, ?_, fun i hi => ?_⟩
  · unfold Sg.thr Th.backT; simp only [if_true]; rw [h1.nf]; omega
  · unfold Sg.thr Th.backT; simp only [if_true]; rw [e1]
  · unfold Sg.thr; simp only [if_neg hi]; exact h1.oth i hi
end
theorem cfT : ∀ (args : Array Value) (w : World), (callFunc 5 args).run Try.prog w = .ok (.enter 5 args) w := fun args w => by go_simp
/-- Take, alone, where something is free. -/
theorem alone_take {w : World} {P : Pc} {σ : Sg} (h : MM w P σ) {k m most : Nat} (hk : k < P.t) (hm : (σ.Ts k).nf = m) (hN : m ≤ 1000) (h4 : 4 ≤ most) (hmo : most ≤ 1000000) (hz : ¬ σ.f 2 % 4096 = 0)
    (hlk : P.ld σ.f (σ.f 2 % 4096) 0 < 9223372036854775808) (a0 : 0 ≤ σ.acc) (a1 : σ.acc < 900000) (s0 : 0 ≤ σ.steps) (s1 : σ.steps < 900000) (hsl : σ.sl < 900000) {v : Value} {R : Nat → Int} (hu : Th.UR w v 0 R) :
    Calls Try.prog 16 #[.pointer (some ⟨P.q, 0, none⟩), .int .i64 k, .func (.func 5) #[] #[], .int .i64 most, .int .i64 1, v] w fun x w' => x = .returned (.tuple #[.int .i64 4, .bool true]) ∧ MM w' P (tkS P k m σ R 4) ∧ KA P.B P.N w w' := by
  have hrg := h.c.mem.rng
  have hbd := h.bd
  have hln : 0 ≤ P.ld σ.f (σ.f 2 % 4096) 0 := by
    unfold Pc.ld Mm.ldI
    split
    · rename_i hoo
      exact (hrg _ (by unfold Mm.okA Pc.n at hoo; simp at hoo; omega)).1
    · omega
  have hf2 := hrg 2 (by omega)
  have t0 := tk0 (P := P) (R := R) hm
  obtain ⟨t1, f1, _, _, sl1⟩ := tk1 (P := P) (R := R) hm hz
  obtain ⟨t2, f2, _, _, sl2⟩ := tk2 (P := P) (R := R) hm hz
  obtain ⟨t3, f3, _, _, sl3⟩ := tk3 (P := P) (R := R) hm hz
  obtain ⟨_, _, _, _, n4, _, _⟩ := tk4 (P := P) (R := R) hm hz
  have ha := tkS_acc (P := P) (k := k) (m := m) (σ := σ) (R := R)
  have dc : ∀ j, j < 4 → ((tkS P k m σ R j).Ts k).nf = m + 1 := fun j hj => by
    rcases (by omega : j = 0 ∨ j = 1 ∨ j = 2 ∨ j = 3) with rfl | rfl | rfl | rfl
    · exact t0.nf
    · exact t1.nf
    · exact t2.nf
    · exact t3.nf
  refine malone (L := 4) (n0 := m) (τ := tkS P k m σ R) (ρ := fun j => rTake P k m (tkS P k m σ R j).stp) h hk cfT hu hm (by omega) (by omega) hmo rfl
    (fun j _ => (Sg.odds_one (rTake_acc _ _ _ _)).symm) (fun j hj w' hm' _ => ?_) (fun j hj => ?_) (fun j hj => ?_) (fun j hj => ⟨by rw [dc j hj]; omega, by rw [dc j hj]; omega⟩) (by rw [n4]; omega)
  · have hacc := ha j
    have key : ((tkS P k m σ R j).stp.Ts k).nf = m + 1 ∧ (((tkS P k m σ R j).stp.Ts k).fs m).fn = 1 ∧ (0 ≤ (((tkS P k m σ R j).stp.Ts k).fs m).pc ∧ (((tkS P k m σ R j).stp.Ts k).fs m).pc ≤ 3) ∧
        (0 ≤ (((tkS P k m σ R j).stp.Ts k).fs m).r 0 ∧ (((tkS P k m σ R j).stp.Ts k).fs m).r 0 < 18446744073709551616) ∧ ((((tkS P k m σ R j).stp.Ts k).fs m).pc = 2 → 0 ≤ (((tkS P k m σ R j).stp.Ts k).fs m).r 1 ∧ (((tkS P k m σ R j).stp.Ts k).fs m).r 1 < 9223372036854775808) ∧ (tkS P k m σ R j).sl ≤ σ.sl + 1 := by
      rcases (by omega : j = 0 ∨ j = 1 ∨ j = 2 ∨ j = 3) with rfl | rfl | rfl | rfl
      · refine ⟨t0.nf, ?_, ?_, ?_, ?_, ?_⟩
        · rw [show ((tkS P k m σ R 0).stp.Ts k).fs m = _ from t0.fs]
        · rw [show ((tkS P k m σ R 0).stp.Ts k).fs m = _ from t0.fs]; simp
        · rw [show ((tkS P k m σ R 0).stp.Ts k).fs m = _ from t0.fs]; simp
        · rw [show ((tkS P k m σ R 0).stp.Ts k).fs m = _ from t0.fs]; simp
        · show σ.sl ≤ _; omega
      · refine ⟨t1.nf, ?_, ?_, ?_, ?_, ?_⟩
        · rw [show ((tkS P k m σ R 1).stp.Ts k).fs m = _ from t1.fs]
        · rw [show ((tkS P k m σ R 1).stp.Ts k).fs m = _ from t1.fs]; simp
        · rw [show ((tkS P k m σ R 1).stp.Ts k).fs m = _ from t1.fs]; simpa [updr] using hf2
        · rw [show ((tkS P k m σ R 1).stp.Ts k).fs m = _ from t1.fs]; simp
        · rw [sl1]; omega
      · refine ⟨t2.nf, ?_, ?_, ?_, ?_, ?_⟩
        · rw [show ((tkS P k m σ R 2).stp.Ts k).fs m = _ from t2.fs]
        · rw [show ((tkS P k m σ R 2).stp.Ts k).fs m = _ from t2.fs]; simp
        · rw [show ((tkS P k m σ R 2).stp.Ts k).fs m = _ from t2.fs]; simpa [updr] using hf2
        · rw [show ((tkS P k m σ R 2).stp.Ts k).fs m = _ from t2.fs]; intro _; simpa [updr] using And.intro hln hlk
        · rw [sl2]; omega
      · refine ⟨t3.nf, ?_, ?_, ?_, ?_, ?_⟩
        · rw [show ((tkS P k m σ R 3).stp.Ts k).fs m = _ from t3.fs]
        · rw [show ((tkS P k m σ R 3).stp.Ts k).fs m = _ from t3.fs]; simp
        · rw [show ((tkS P k m σ R 3).stp.Ts k).fs m = _ from t3.fs]; simpa [updr] using hf2
        · rw [show ((tkS P k m σ R 3).stp.Ts k).fs m = _ from t3.fs]; simp
        · rw [sl3]; split <;> omega
    obtain ⟨k1, k2, k3, k4, k5, k6⟩ := key
    have h7 : (tkS P k m σ R j).stp.acc = σ.acc + j := hacc.1
    have h8 : (tkS P k m σ R j).stp.sl ≤ σ.sl + 1 := k6
    exact sdo_take hm' hk k1 k2 k3 k4 k5 (by omega) (by omega) (by omega) hN
  · have := (ha j).2.1; omega
  · have h1 : (rTake P k m (tkS P k m σ R j).stp).acc = (tkS P k m σ R j).acc + 1 := rTake_acc _ _ _ _
    (try dsimp only)
    omega
/-- Take, alone, where nothing is free. -/
theorem alone_none {w : World} {P : Pc} {σ : Sg} (h : MM w P σ) {k m most : Nat} (hk : k < P.t) (hm : (σ.Ts k).nf = m) (hN : m ≤ 1000) (h4 : 1 ≤ most) (hmo : most ≤ 1000000) (hz : σ.f 2 % 4096 = 0)
    (a0 : 0 ≤ σ.acc) (a1 : σ.acc < 900000) (s0 : 0 ≤ σ.steps) (s1 : σ.steps < 900000) (hsl : σ.sl < 900000) {v : Value} {R : Nat → Int} (hu : Th.UR w v 0 R) :
    Calls Try.prog 16 #[.pointer (some ⟨P.q, 0, none⟩), .int .i64 k, .func (.func 5) #[] #[], .int .i64 most, .int .i64 1, v] w fun x w' => x = .returned (.tuple #[.int .i64 1, .bool true]) ∧ MM w' P (tkS P k m σ R 1) ∧ KA P.B P.N w w' := by
  have t0 := tk0 (P := P) (R := R) hm
  have e1 := tk1z (P := P) (R := R) hm hz
  have n1 : ((tkS P k m σ R 1).Ts k).nf = m := by
    rw [e1]; unfold Sg.thr Th.backT setF; simp only [if_true]
    have := t0.nf
    show ((tkS P k m σ R 0).Ts k).nf - 1 = m
    omega
  have ha := tkS_acc (P := P) (k := k) (m := m) (σ := σ) (R := R)
  refine malone (L := 1) (n0 := m) (τ := tkS P k m σ R) (ρ := fun j => rTake P k m (tkS P k m σ R j).stp) h hk cfT hu hm (by omega) (by omega) hmo rfl
    (fun j _ => (Sg.odds_one (rTake_acc _ _ _ _)).symm) (fun j hj w' hm' _ => ?_) (fun j hj => ?_) (fun j hj => ?_) (fun j hj => ?_) (by rw [n1]; omega)
  · obtain rfl : j = 0 := by omega
    refine sdo_take hm' hk t0.nf ?_ ?_ ?_ ?_ ?_ ?_ ?_ hN
    · rw [show ((tkS P k m σ R 0).stp.Ts k).fs m = _ from t0.fs]
    · rw [show ((tkS P k m σ R 0).stp.Ts k).fs m = _ from t0.fs]; simp
    · rw [show ((tkS P k m σ R 0).stp.Ts k).fs m = _ from t0.fs]; simp
    · rw [show ((tkS P k m σ R 0).stp.Ts k).fs m = _ from t0.fs]; simp
    · show 0 ≤ σ.acc; omega
    · show σ.acc < _; omega
    · show σ.sl < _; omega
  · have := (ha j).2.1; omega
  · have h1 : (rTake P k m (tkS P k m σ R j).stp).acc = (tkS P k m σ R j).acc + 1 := rTake_acc _ _ _ _
    (try dsimp only)
    omega
  · obtain rfl : j = 0 := by omega
    exact ⟨by rw [t0.nf]; omega, by rw [t0.nf]; omega⟩
end Go.Proofs.Ytfocficedkahiaa

/- Layer 17: what lives asks. -/
namespace Go.Proofs.Ytfocficedkahiaa
open Go.RowKit WordM EdgeM
set_option linter.unusedVariables false
set_option linter.unusedSimpArgs false
/-- What a thread was told last. -/
theorem MM.ret {w : World} {P : Pc} {σ : Sg} (h : MM w P σ) {k : Nat} (hk : k < P.t) {i : Nat} (hi : i < 12) : w.cell? ⟨P.tq k, i, none⟩ = some (.int .u64 ((σ.Ts k).ret i)) := by
  obtain ⟨ps, fvs, tf⟩ := h.th
  rw [(tf.th k hk).a.blk.get (i := i) (by omega)]
  unfold Th.thF; rw [if_pos hi]
theorem mayC_157 : mayC 1 7 5 = true := by decide +kernel
theorem l17a : partF 1 3 7 2 = 6 := by decide +kernel
theorem l17b : Mm.ldI 60 (partF 1 3 7) (nodeI 1 7 6 0) = 7 ∧ Mm.ldI 60 (Mm.upd (partF 1 3 7) 2 (chgI 6 7)) (nodeI 1 7 6 1) = 0 ∧ makeI 6 0 = 6 := by decide +kernel
theorem l17c : Mm.upd (partF 1 3 7) 2 (chgI 6 7) 2 = 4103 ∧ Mm.ldI 60 (Mm.upd (partF 1 3 7) 2 (chgI 6 7)) (nodeI 1 7 7 0) = 0 ∧ Mm.ldI 60 (Mm.upd (Mm.upd (partF 1 3 7) 2 (chgI 6 7)) 2 (chgI 4103 0)) (nodeI 1 7 7 1) = 0 ∧ makeI 7 0 = 7 ∧ Mm.upd (Mm.upd (partF 1 3 7) 2 (chgI 6 7)) 2 (chgI 4103 0) 2 % 4096 = 0 := by decide +kernel
set_option maxRecDepth 8000 in
set_option maxHeartbeats 2000000 in
theorem lives17_calls (w : World) : Calls Try.prog 7 #[] w fun e w' => e = .returned (.bool true) ∧ Below w.heap.size w w' := by
  refine Calls.veil fun Q HQ => ?_
  go_enter Try.func7, Try.ntmps7
  go_wp2_with fail
  refine (cnewI (t := 1) (s := 7) _ mayC_157).mono ?_; rintro _ w1 ⟨q, pl, mb, mg, C, gq, gg, gm, fv, tq, rfl, hmi, hb, hin⟩
  have hm0 := MM.init hmi hin
  obtain ⟨P, hP⟩ : ∃ P : Pc, P = ⟨w.heap.size, q, pl, mb, mg, C, gq, gg, gm, fv, tq, 1, 7, 5, w1.heap.size⟩ := ⟨_, rfl⟩
  rw [← hP] at hm0
  have eq1 : q = P.q := by rw [hP]
  have et1 : P.t = 1 := by rw [hP]
  have es1 : P.s = 7 := by rw [hP]
  have eB : P.B = w.heap.size := by rw [hP]
  have en : P.n = 60 := by rw [hP]; rfl
  rw [eq1]
  have HB1 := Lib.hid hb; have HM1 := Lib.hid hm0
  have HE := Lib.hid (And.intro et1 (And.intro es1 (And.intro eB en)))
  clear hmi hb hin hP eq1 et1 es1 eB en hm0
  go_wp2_with fail
  refine (cThread_yes HM1.out.c 0 (by rw [HE.out.1]; omega)).mono ?_; rintro _ w2 ⟨rfl, hb2⟩
  have HM2 := Lib.hid (HM1.out.below hb2); have HB2 := Lib.hid (below_on HB1.out hb2)
  clear hb2 HM1 HB1
  go_wp2_with fail
  -- the first Take
  have ld : ∀ (f : Nat → Int) (a b : Int), P.ld f a b = Mm.ldI 60 f (nodeI 1 7 a b) := fun f a b => by unfold Pc.ld; rw [HE.out.2.2.2, HE.out.1, HE.out.2.1]; rfl
  have HLD := Lib.hid ld
  have z1 : (sgInit 1 7).f 2 = 6 := l17a
  have hz1 : ¬ (sgInit 1 7).f 2 % 4096 = 0 := by rw [z1]; decide
  have hk0 : 0 < P.t := by rw [HE.out.1]; omega
  have HK0 := Lib.hid hk0
  refine (alone_take (R := fun _ => 0) (m := 0) (most := 50) HM2.out hk0 rfl (by omega) (by omega) (by omega) hz1 (by rw [ld, z1]; show Mm.ldI 60 (partF 1 3 7) (nodeI 1 7 6 0) < _; rw [l17b.1]; omega) (by decide) (by decide) (by decide) (by decide) (by decide) (Th.UR.nil _)).mono ?_
  rintro _ w3 ⟨rfl, hm3, hk3⟩
  obtain ⟨f3, _, _, s3, n3, r3, _⟩ := tk4 (P := P) (k := 0) (m := 0) (σ := sgInit 1 7) (R := fun _ => 0) rfl hz1
  obtain ⟨a3, b3, _, _⟩ := tkS_acc (P := P) (k := 0) (m := 0) (σ := sgInit 1 7) (R := fun _ => 0) 4
  generalize tkS P 0 0 (sgInit 1 7) (fun _ => 0) 4 = σ3 at *
  have fe : σ3.f = Mm.upd (partF 1 3 7) 2 (chgI 6 7) := by
    rw [f3, ld, z1]
    show Mm.upd (partF 1 3 7) 2 (chgI 6 (Mm.ldI 60 (partF 1 3 7) (nodeI 1 7 6 0))) = _
    rw [l17b.1]
  have re : (σ3.Ts 0).ret 0 = 6 := by
    rw [r3]
    show makeI ((sgInit 1 7).f 2 % 4096) (P.ld _ _ _) = 6
    rw [ld, ld, z1]
    show makeI 6 (Mm.ldI 60 (Mm.upd (partF 1 3 7) 2 (chgI 6 (Mm.ldI 60 (partF 1 3 7) (nodeI 1 7 6 0)))) (nodeI 1 7 6 1)) = 6
    rw [l17b.1, l17b.2.1, l17b.2.2]
  have se : σ3.sl ≤ 1 := by
    rw [s3]
    have hs0 : (sgInit 1 7).sl = 0 := rfl
    split <;> omega
  have ae : σ3.acc = 4 := a3
  have be : σ3.steps = 4 := b3
  have HM3 := Lib.hid hm3; have HK3 := Lib.hid hk3
  have HF3 := Lib.hid (And.intro fe (And.intro se (And.intro ae (And.intro be n3))))
  have cr := hm3.ret hk0 (i := 0) (by omega)
  rw [re] at cr
  have HB3 := Lib.hid (show Below w.heap.size w w3 by have := hk3; rw [HE.out.2.2.1] at this; exact KA.below HB2.out this)
  clear hm3 hk3 f3 s3 n3 r3 a3 b3 fe re se ae be HM2 HB2 HK3 hz1 z1 ld hk0
  go_wp2_with fail
  clear cr
  -- the second one
  have ld := HLD.out
  have hk0 := HK0.out
  have z1 : σ3.f 2 = 4103 := by rw [HF3.out.1]; exact l17c.1
  have hz1 : ¬ σ3.f 2 % 4096 = 0 := by rw [z1]; decide
  refine (alone_take (R := fun _ => 0) (m := 0) (most := 50) HM3.out hk0 HF3.out.2.2.2.2 (by omega) (by omega) (by omega) hz1 (by rw [ld, z1, HF3.out.1]; show Mm.ldI 60 _ (nodeI 1 7 7 0) < _; rw [l17c.2.1]; omega) (by rw [HF3.out.2.2.1]; omega) (by rw [HF3.out.2.2.1]; omega) (by rw [HF3.out.2.2.2.1]; omega) (by rw [HF3.out.2.2.2.1]; omega) (by have := HF3.out.2.1; omega) (Th.UR.nil _)).mono ?_
  rintro _ w4 ⟨rfl, hm4, hk4⟩
  obtain ⟨f3, _, _, s3, n3, r3, _⟩ := tk4 (P := P) (k := 0) (m := 0) (σ := σ3) (R := fun _ => 0) HF3.out.2.2.2.2 hz1
  obtain ⟨a3, b3, _, _⟩ := tkS_acc (P := P) (k := 0) (m := 0) (σ := σ3) (R := fun _ => 0) 4
  generalize tkS P 0 0 σ3 (fun _ => 0) 4 = σ4 at *
  have fe : σ4.f = Mm.upd (Mm.upd (partF 1 3 7) 2 (chgI 6 7)) 2 (chgI 4103 0) := by
    rw [f3, ld, z1, HF3.out.1]
    show Mm.upd _ 2 (chgI 4103 (Mm.ldI 60 _ (nodeI 1 7 7 0))) = _
    rw [l17c.2.1]
  have re : (σ4.Ts 0).ret 0 = 7 := by
    rw [r3]
    show makeI (σ3.f 2 % 4096) (P.ld _ _ _) = 7
    rw [ld, ld, z1, HF3.out.1]
    show makeI 7 (Mm.ldI 60 (Mm.upd _ 2 (chgI 4103 (Mm.ldI 60 _ (nodeI 1 7 7 0)))) (nodeI 1 7 7 1)) = 7
    rw [l17c.2.1, l17c.2.2.1, l17c.2.2.2.1]
  have se : σ4.sl ≤ 2 := by
    rw [s3]
    have := HF3.out.2.1
    split <;> omega
  have ae : σ4.acc = 8 := by rw [a3, HF3.out.2.2.1]; rfl
  have be : σ4.steps = 8 := by rw [b3, HF3.out.2.2.2.1]; rfl
  have HM4 := Lib.hid hm4
  have HF4 := Lib.hid (And.intro fe (And.intro se (And.intro ae (And.intro be n3))))
  have cr := hm4.ret hk0 (i := 0) (by omega)
  rw [re] at cr
  have HB4 := Lib.hid (show Below w.heap.size w w4 by have := hk4; rw [HE.out.2.2.1] at this; exact KA.below HB3.out this)
  clear hm4 hk4 f3 s3 n3 r3 a3 b3 fe re se ae be HM3 HB3 hz1 z1 ld hk0 HF3
  go_wp2_with fail
  clear cr
  -- the third one
  have hk0 := HK0.out
  have hz1 : σ4.f 2 % 4096 = 0 := by rw [HF4.out.1]; exact l17c.2.2.2.2
  refine (alone_none (R := fun _ => 0) (m := 0) (most := 50) HM4.out hk0 HF4.out.2.2.2.2 (by omega) (by omega) (by omega) hz1 (by rw [HF4.out.2.2.1]; omega) (by rw [HF4.out.2.2.1]; omega) (by rw [HF4.out.2.2.2.1]; omega) (by rw [HF4.out.2.2.2.1]; omega) (by have := HF4.out.2.1; omega) (Th.UR.nil _)).mono ?_
  rintro _ w5 ⟨rfl, hm5, hk5⟩
  have cr := hm5.ret hk0 (i := 0) (by omega)
  rw [tk1z (P := P) (R := fun _ => 0) HF4.out.2.2.2.2 hz1] at cr
  have cr : w5.cell? ⟨P.tq 0, 0, none⟩ = some (.int .u64 0) := cr
  have HB5 := Lib.hid (show Below w.heap.size w w5 by have := hk5; rw [HE.out.2.2.1] at this; exact KA.below HB4.out this)
  clear hm5 hk5 HM4 HB4 hz1 hk0 HF4
  go_wp2_with fail
  (try go_ret)
  rw [HQ.out]
  exact ⟨rfl, HB5.out⟩
end Go.Proofs.Ytfocficedkahiaa
