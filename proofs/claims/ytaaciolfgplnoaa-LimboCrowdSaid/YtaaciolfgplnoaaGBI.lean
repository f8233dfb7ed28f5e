/- GBI: several texts in one. -/
import Derived.Test.YtaaciolfgplnoaaGBH
import Derived.Test.YtaaciolfgplnoaaGAS
/- Layer 19: what lives asks: Take and Retire, alone. -/
namespace Go.Proofs.Ytaaciolfgplnoaa
open Go.RowKit WordM EdgeM
set_option linter.unusedVariables false
set_option linter.unusedSimpArgs false
theorem alone_take19 {w : World} {P : Pc} {σ : Sg} (h : MM w P σ) {k m most : Nat} (hk : k < P.t) (hm : (σ.Ts k).nf = m) (hN : m ≤ 1000) (h4 : 4 ≤ most) (hmo : most ≤ 1000000) (hz : ¬ σ.f 2 % 4096 = 0)
    (hlk : P.ld σ.f (σ.f 2 % 4096) 0 < 9223372036854775808) (a0 : 0 ≤ σ.acc) (a1 : σ.acc < 900000) (s0 : 0 ≤ σ.steps) (s1 : σ.steps < 900000) (hsl : σ.sl < 900000) {v : Value} {R : Nat → Int} (hu : Th.UR w v 0 R) :
    Calls Try.prog 23 #[.pointer (some ⟨P.q, 0, none⟩), .int .i64 k, .func (.func 14) #[] #[], .int .i64 most, .int .i64 1, v] w fun x w' => x = .returned (.tuple #[.int .i64 4, .bool true]) ∧ MM w' P (tkS P k m σ R 4) ∧ KA P.B P.N w w' := by
  have hrg := h.c.mem.rng
  have hbd := h.bd
  have hln : 0 ≤ P.ld σ.f (σ.f 2 % 4096) 0 := by
    unfold Pc.ld Mm.ldI
    split
    · rename_i hoo
      exact (hrg _ (by unfold Mm.okA Pc.n at hoo; simp at hoo; omega)).1
    · omega
  have hf2 := hrg 2 (by omega)
  have t0 := tk0 (P := P) (R := R) hm
  obtain ⟨t1, f1, _, _, sl1⟩ := tk1 (P := P) (R := R) hm hz
  obtain ⟨t2, f2, _, _, sl2⟩ := tk2 (P := P) (R := R) hm hz
  obtain ⟨t3, f3, _, _, sl3⟩ := tk3 (P := P) (R := R) hm hz
  obtain ⟨_, _, _, _, n4, _, _⟩ := tk4 (P := P) (R := R) hm hz
  have ha := tkS_acc (P := P) (k := k) (m := m) (σ := σ) (R := R)
  have dc : ∀ j, j < 4 → ((tkS P k m σ R j).Ts k).nf = m + 1 := fun j hj => by
    rcases (by omega : j = 0 ∨ j = 1 ∨ j = 2 ∨ j = 3) with rfl | rfl | rfl | rfl
    · exact t0.nf
    · exact t1.nf
    · exact t2.nf
    · exact t3.nf
  refine malone (L := 4) (n0 := m) (τ := tkS P k m σ R) (ρ := fun j => rTake P k m (tkS P k m σ R j).stp) h hk cfL hu hm (by omega) (by omega) hmo rfl
    (fun j _ => (Sg.odds_one (rTake_acc _ _ _ _)).symm) (fun j hj w' hm' _ => ?_) (fun j hj => ?_) (fun j hj => ?_) (fun j hj => ⟨by rw [dc j hj]; omega, by rw [dc j hj]; omega⟩) (by rw [n4]; omega)
  · have hacc := ha j
    have key : ((tkS P k m σ R j).stp.Ts k).nf = m + 1 ∧ (((tkS P k m σ R j).stp.Ts k).fs m).fn = 1 ∧ (0 ≤ (((tkS P k m σ R j).stp.Ts k).fs m).pc ∧ (((tkS P k m σ R j).stp.Ts k).fs m).pc ≤ 3) ∧
        (0 ≤ (((tkS P k m σ R j).stp.Ts k).fs m).r 0 ∧ (((tkS P k m σ R j).stp.Ts k).fs m).r 0 < 18446744073709551616) ∧ ((((tkS P k m σ R j).stp.Ts k).fs m).pc = 2 → 0 ≤ (((tkS P k m σ R j).stp.Ts k).fs m).r 1 ∧ (((tkS P k m σ R j).stp.Ts k).fs m).r 1 < 9223372036854775808) ∧ (tkS P k m σ R j).sl ≤ σ.sl + 1 := by
      rcases (by omega : j = 0 ∨ j = 1 ∨ j = 2 ∨ j = 3) with rfl | rfl | rfl | rfl
      · refine ⟨t0.nf, ?_, ?_, ?_, ?_, ?_⟩
        · rw [show ((tkS P k m σ R 0).stp.Ts k).fs m = _ from t0.fs]
        · rw [show ((tkS P k m σ R 0).stp.Ts k).fs m = _ from t0.fs]; simp
        · rw [show ((tkS P k m σ R 0).stp.Ts k).fs m = _ from t0.fs]; simp
        · rw [show ((tkS P k m σ R 0).stp.Ts k).fs m = _ from t0.fs]; simp
        · show σ.sl ≤ _; omega
      · refine ⟨t1.nf, ?_, ?_, ?_, ?_, ?_⟩
        · rw [show ((tkS P k m σ R 1).stp.Ts k).fs m = _ from t1.fs]
        · rw [show ((tkS P k m σ R 1).stp.Ts k).fs m = _ from t1.fs]; simp
        · rw [show ((tkS P k m σ R 1).stp.Ts k).fs m = _ from t1.fs]; simpa [updr] using hf2
        · rw [show ((tkS P k m σ R 1).stp.Ts k).fs m = _ from t1.fs]; simp
        · rw [sl1]; omega
      · refine ⟨t2.nf, ?_, ?_, ?_, ?_, ?_⟩
        · rw [show ((tkS P k m σ R 2).stp.Ts k).fs m = _ from t2.fs]
        · rw [show ((tkS P k m σ R 2).stp.Ts k).fs m = _ from t2.fs]; simp
        · rw [show ((tkS P k m σ R 2).stp.Ts k).fs m = _ from t2.fs]; simpa [updr] using hf2
        · rw [show ((tkS P k m σ R 2).stp.Ts k).fs m = _ from t2.fs]; intro _; simpa [updr] using And.intro hln hlk
        · rw [sl2]; omega
      · refine ⟨t3.nf, ?_, ?_, ?_, ?_, ?_⟩
        · rw [show ((tkS P k m σ R 3).stp.Ts k).fs m = _ from t3.fs]
        · rw [show ((tkS P k m σ R 3).stp.Ts k).fs m = _ from t3.fs]; simp
        · rw [show ((tkS P k m σ R 3).stp.Ts k).fs m = _ from t3.fs]; simpa [updr] using hf2
        · rw [show ((tkS P k m σ R 3).stp.Ts k).fs m = _ from t3.fs]; simp
        · rw [sl3]; split <;> omega
    obtain ⟨k1, k2, k3, k4, k5, k6⟩ := key
    have h7 : (tkS P k m σ R j).stp.acc = σ.acc + j := hacc.1
    have h8 : (tkS P k m σ R j).stp.sl ≤ σ.sl + 1 := k6
    exact ldo_take hm' hk k1 k2 k3 k4 k5 (by omega) (by omega) (by omega) hN
  · have := (ha j).2.1; omega
  · have h1 : (rTake P k m (tkS P k m σ R j).stp).acc = (tkS P k m σ R j).acc + 1 := rTake_acc _ _ _ _
    (try dsimp only)
    omega
end Go.Proofs.Ytaaciolfgplnoaa
namespace Go.Proofs.Ytaaciolfgplnoaa.Lb
open Go.RowKit WordM EdgeM Sl
/-- The states of Retire of the edge 6, where its bag is empty and its stamp is another one. -/
theorem retire_seq {P : Pc} {σ : Sg} {R : Nat → Int} (hn : (σ.Ts 0).nf = 0) (hR : R 0 = 6) (hf1 : σ.f 1 = 3) (hs0 : σ.f (stI 0 0) = 0) (hb0 : σ.f (bgI 0 0) = 0) (hl : Gd.leadsB P.s σ.H σ.G 6 = true) (hP : 6 ≤ P.s) :
    ∃ (τ : Nat → Sg) (mm : Nat → Nat), τ 0 = σ.thr 0 (Th.callT (σ.Ts 0) 20 1 R) ∧ (∀ j, j < 7 → LS P 0 (mm j) (τ j).stp (τ (j + 1)) ∧ ((τ j).Ts 0).nf = mm j + 1 ∧ mm j ≤ 1) ∧ (τ 7).f = Mm.upd (Mm.upd (Mm.upd σ.f (stI 0 0) 3) (nd P.t 6 0) 0) (bgI 0 0) 6 ∧ (τ 7).H = σ.H ∧ ((τ 7).Ts 0).nf = 0 ∧ ∀ j, j ≤ 7 → (σ.acc ≤ (τ j).acc ∧ (τ j).acc ≤ σ.acc + j) ∧ (τ j).steps = σ.steps + j ∧ (τ j).sl = σ.sl := by
  obtain ⟨c1, c2⟩ := call_fs hn 20 1 R
  have at_ : ∀ (s : Sg) (X : Th.Td) (a : Int) (f : Nat → Int), (({ s.thr 0 X with acc := a, f := f } : Sg).Ts 0) = X := fun s X a f => (by show (s.thr 0 X).Ts 0 = X; exact thr_k _ _ _)
  -- begun
  obtain ⟨s0, h0⟩ : ∃ s0, s0 = σ.thr 0 (Th.callT (σ.Ts 0) 20 1 R) := ⟨_, rfl⟩
  have T0 : s0.Ts 0 = Th.callT (σ.Ts 0) 20 1 R := by rw [h0]; exact thr_k _ _ _
  have n0 : (s0.Ts 0).nf = 1 := by rw [T0]; exact c1
  have F0 : (s0.Ts 0).fs 0 = ⟨20, 0, fun i => if i < 1 then R i else 0⟩ := by rw [T0]; exact c2
  obtain ⟨r0, hr0⟩ : ∃ r0 : Nat → Int, r0 = fun i => if i < 1 then R i else 0 := ⟨_, rfl⟩
  rw [← hr0] at F0
  have q00 : r0 0 = 6 := by rw [hr0]; show (if 0 < 1 then R 0 else 0) = 6; rw [if_pos (by omega)]; exact hR
  have q01 : r0 1 = 0 := by rw [hr0]; rfl
  have e0 : s0.f = σ.f ∧ s0.H = σ.H ∧ s0.G = σ.G ∧ s0.acc = σ.acc ∧ s0.steps = σ.steps ∧ s0.sl = σ.sl := by rw [h0]; exact ⟨rfl, rfl, rfl, rfl, rfl, rfl⟩
  -- the epoch is read
  obtain ⟨s1, h1⟩ : ∃ s1, s1 = rt0S 0 0 s0.stp := ⟨_, rfl⟩
  have L0 : LS P 0 0 s0.stp s1 := by
    rw [h1]
    exact .ret0 (σ := s0.stp) (b := 0) (by show ((s0.Ts 0).fs 0).fn = 20; rw [F0]) (by show ((s0.Ts 0).fs 0).pc = 0; rw [F0]) (by show 0 ≤ ((s0.Ts 0).fs 0).r 0 ∧ ((s0.Ts 0).fs 0).r 0 < _; rw [F0]; show 0 ≤ r0 0 ∧ r0 0 < _; rw [q00]; decide) (by show 0 ≤ ((s0.Ts 0).fs 0).r 1 ∧ ((s0.Ts 0).fs 0).r 1 < _; rw [F0]; show 0 ≤ r0 1 ∧ r0 1 < _; rw [q01]; decide) (by show ((s0.Ts 0).fs 0).r 1 % 3 = _; rw [F0]; show r0 1 % 3 = _; rw [q01]; rfl)
  obtain ⟨r1, hr1⟩ : ∃ r1 : Nat → Int, r1 = updr r0 1 3 := ⟨_, rfl⟩
  have q10 : r1 0 = 6 := by rw [hr1, updr_ne _ _ (by decide)]; exact q00
  have q11 : r1 1 = 3 := by rw [hr1, updr_at]
  have T1 : s1.Ts 0 = setF (s0.Ts 0) 0 ⟨20, 1, r1⟩ := by
    rw [h1]
    refine (at_ _ _ _ _).trans ?_
    show setF (s0.Ts 0) 0 ⟨((s0.Ts 0).fs 0).fn, 1, updr ((s0.Ts 0).fs 0).r 1 (s0.f 1)⟩ = _
    rw [F0, e0.1, hf1, hr1]
  have n1 : (s1.Ts 0).nf = 1 := by rw [T1]; exact n0
  have F1 : (s1.Ts 0).fs 0 = ⟨20, 1, r1⟩ := by rw [T1, setF_fs]
  have e1 : s1.f = σ.f ∧ s1.H = σ.H ∧ s1.G = σ.G ∧ s1.acc = σ.acc + 1 ∧ s1.steps = σ.steps + 1 ∧ s1.sl = σ.sl := by
    rw [h1]; exact ⟨e0.1, e0.2.1, e0.2.2.1, by show s0.acc + 1 = _; rw [e0.2.2.2.1], by show s0.steps + 1 = _; rw [e0.2.2.2.2.1], e0.2.2.2.2.2⟩
  -- the stamp is another one
  obtain ⟨s2, h2⟩ : ∃ s2, s2 = rt1dS 0 0 0 s1.stp := ⟨_, rfl⟩
  have L1 : LS P 0 0 s1.stp s2 := by
    rw [h2]
    exact .ret1d (σ := s1.stp) (b := 0) (by show ((s1.Ts 0).fs 0).fn = 20; rw [F1]) (by show ((s1.Ts 0).fs 0).pc = 1; rw [F1]) (by show 0 ≤ ((s1.Ts 0).fs 0).r 0 ∧ ((s1.Ts 0).fs 0).r 0 < _; rw [F1]; show 0 ≤ r1 0 ∧ r1 0 < _; rw [q10]; decide) (by show 0 ≤ ((s1.Ts 0).fs 0).r 1 ∧ ((s1.Ts 0).fs 0).r 1 < _; rw [F1]; show 0 ≤ r1 1 ∧ r1 1 < _; rw [q11]; decide) (by show ((s1.Ts 0).fs 0).r 1 % 3 = _; rw [F1]; show r1 1 % 3 = _; rw [q11]; rfl) (by show (s1.f (stI 0 0) != ((s1.Ts 0).fs 0).r 1) = true; rw [F1, e1.1, hs0]; show ((0 : Int) != r1 1) = true; rw [q11]; rfl)
  have T2 : s2.Ts 0 = Th.callT (setF (s1.Ts 0) 0 ⟨20, 2, r1⟩) 21 1 (fun _ => 0) := by
    rw [h2]
    refine (at_ _ _ _ _).trans ?_
    show Th.callT (setF (s1.Ts 0) 0 ⟨((s1.Ts 0).fs 0).fn, 2, ((s1.Ts 0).fs 0).r⟩) 21 1 (fun _ => ((0 : Nat) : Int)) = _
    rw [F1]; rfl
  have m1 : (setF (s1.Ts 0) 0 ⟨20, 2, r1⟩).nf = 1 := n1
  have n2 : (s2.Ts 0).nf = 2 := by rw [T2]; show (setF (s1.Ts 0) 0 ⟨20, 2, r1⟩).nf + 1 = 2; omega
  have F2 : (s2.Ts 0).fs 1 = ⟨21, 0, fun i => if i < 1 then 0 else 0⟩ := by
    rw [T2]
    have := callT_top (setF (s1.Ts 0) 0 ⟨20, 2, r1⟩) 21 1 (fun _ => 0); rw [m1] at this; exact this
  have G2 : (s2.Ts 0).fs 0 = ⟨20, 2, r1⟩ := by rw [T2, callT_o _ _ _ _ (by rw [m1]; decide), setF_fs]
  have e2 : s2.f = σ.f ∧ s2.H = σ.H ∧ s2.G = σ.G ∧ s2.acc = σ.acc + 2 ∧ s2.steps = σ.steps + 2 ∧ s2.sl = σ.sl := by
    rw [h2]; exact ⟨e1.1, e1.2.1, e1.2.2.1, by show s1.acc + 1 = _; rw [e1.2.2.2.1]; omega, by show s1.steps + 1 = _; rw [e1.2.2.2.2.1]; omega, e1.2.2.2.2.2⟩
  have z2 : ((s2.Ts 0).fs 1).r 0 = 0 ∧ ((s2.Ts 0).fs 1).r 1 = 0 := by rw [F2]; exact ⟨rfl, rfl⟩
  -- nothing is drained
  obtain ⟨s3, h3⟩ : ∃ s3, s3 = dr0zS 0 1 0 s2.stp := ⟨_, rfl⟩
  have L2 : LS P 0 1 s2.stp s3 := by
    rw [h3]
    exact .dr0z (σ := s2.stp) (b := 0) (by show ((s2.Ts 0).fs 1).fn = 21; rw [F2]) (by show ((s2.Ts 0).fs 1).pc = 0; rw [F2]) z2.1 (by omega) (by show 0 ≤ ((s2.Ts 0).fs 1).r 1 ∧ ((s2.Ts 0).fs 1).r 1 < _; rw [z2.2]; decide) (by show (s2.f (bgI 0 0) == 0) = true; rw [e2.1, hb0]; rfl)
  have T3 : (s3.Ts 0).nf = 1 ∧ (s3.Ts 0).fs 0 = ⟨20, 2, r1⟩ := by
    have h9 : s3.Ts 0 = Th.backT (setF (s2.Ts 0) 1 ⟨((s2.Ts 0).fs 1).fn, 1, updr ((s2.Ts 0).fs 1).r 1 (s2.f (bgI 0 0))⟩) 0 (fun _ => 0) := by rw [h3]; exact at_ _ _ _ _
    rw [h9]
    exact ⟨by show (s2.Ts 0).nf - 1 = 1; omega, by show (s2.Ts 0).fs 0 = _; exact G2⟩
  have e3 : s3.f = σ.f ∧ s3.H = σ.H ∧ s3.G = σ.G ∧ s3.acc = σ.acc + 3 ∧ s3.steps = σ.steps + 3 ∧ s3.sl = σ.sl := by
    rw [h3]; exact ⟨e2.1, e2.2.1, e2.2.2.1, by show s2.acc + 1 = _; rw [e2.2.2.2.1]; omega, by show s2.steps + 1 = _; rw [e2.2.2.2.2.1]; omega, e2.2.2.2.2.2⟩
  obtain ⟨n3, F3⟩ := T3
  -- the bag is stamped
  obtain ⟨s4, h4⟩ : ∃ s4, s4 = rt2S 0 0 0 s3.stp := ⟨_, rfl⟩
  have L3 : LS P 0 0 s3.stp s4 := by
    rw [h4]
    exact .ret2 (σ := s3.stp) (b := 0) (by show ((s3.Ts 0).fs 0).fn = 20; rw [F3]) (by show ((s3.Ts 0).fs 0).pc = 2; rw [F3]) (by show 0 ≤ ((s3.Ts 0).fs 0).r 0 ∧ ((s3.Ts 0).fs 0).r 0 < _; rw [F3]; show 0 ≤ r1 0 ∧ r1 0 < _; rw [q10]; decide) (by show 0 ≤ ((s3.Ts 0).fs 0).r 1 ∧ ((s3.Ts 0).fs 0).r 1 < _; rw [F3]; show 0 ≤ r1 1 ∧ r1 1 < _; rw [q11]; decide) (by show ((s3.Ts 0).fs 0).r 1 % 3 = _; rw [F3]; show r1 1 % 3 = _; rw [q11]; rfl)
  have T4 : (s4.Ts 0).nf = 1 ∧ (s4.Ts 0).fs 0 = ⟨20, 3, r1⟩ := by
    have h9 : s4.Ts 0 = setF (s3.Ts 0) 0 ⟨((s3.Ts 0).fs 0).fn, 3, ((s3.Ts 0).fs 0).r⟩ := by rw [h4]; exact at_ _ _ _ _
    rw [h9, setF_fs, F3]
    exact ⟨n3, rfl⟩
  have e4 : s4.f = Mm.upd σ.f (stI 0 0) 3 ∧ s4.H = σ.H ∧ s4.G = σ.G ∧ s4.acc = σ.acc + 4 ∧ s4.steps = σ.steps + 4 ∧ s4.sl = σ.sl := by
    rw [h4]
    refine ⟨?_, e3.2.1, e3.2.2.1, by show s3.acc + 1 = _; rw [e3.2.2.2.1]; omega, by show s3.steps + 1 = _; rw [e3.2.2.2.2.1]; omega, e3.2.2.2.2.2⟩
    show Mm.upd s3.f (stI 0 0) (((s3.Ts 0).fs 0).r 1) = _
    rw [e3.1, F3]; show Mm.upd σ.f (stI 0 0) (r1 1) = _; rw [q11]
  obtain ⟨n4, F4⟩ := T4
  have b4 : s4.f (bgI 0 0) = 0 := by rw [e4.1, upd_ne _ _ (by decide)]; exact hb0
  -- its head is read
  obtain ⟨s5, h5⟩ : ∃ s5, s5 = rt3S 0 0 0 s4.stp := ⟨_, rfl⟩
  have L4 : LS P 0 0 s4.stp s5 := by
    rw [h5]
    exact .ret3 (σ := s4.stp) (b := 0) (by show ((s4.Ts 0).fs 0).fn = 20; rw [F4]) (by show ((s4.Ts 0).fs 0).pc = 3; rw [F4]) (by show 0 ≤ ((s4.Ts 0).fs 0).r 0 ∧ ((s4.Ts 0).fs 0).r 0 < _; rw [F4]; show 0 ≤ r1 0 ∧ r1 0 < _; rw [q10]; decide) (by show 0 ≤ ((s4.Ts 0).fs 0).r 1 ∧ ((s4.Ts 0).fs 0).r 1 < _; rw [F4]; show 0 ≤ r1 1 ∧ r1 1 < _; rw [q11]; decide) (by show ((s4.Ts 0).fs 0).r 1 % 3 = _; rw [F4]; show r1 1 % 3 = _; rw [q11]; rfl)
  obtain ⟨r2, hr2⟩ : ∃ r2 : Nat → Int, r2 = updr r1 2 0 := ⟨_, rfl⟩
  have q20 : r2 0 = 6 := by rw [hr2, updr_ne _ _ (by decide)]; exact q10
  have q21 : r2 1 = 3 := by rw [hr2, updr_ne _ _ (by decide)]; exact q11
  have q22 : r2 2 = 0 := by rw [hr2, updr_at]
  have T5 : (s5.Ts 0).nf = 1 ∧ (s5.Ts 0).fs 0 = ⟨20, 4, r2⟩ := by
    have h9 : s5.Ts 0 = setF (s4.Ts 0) 0 ⟨((s4.Ts 0).fs 0).fn, 4, updr ((s4.Ts 0).fs 0).r 2 (s4.f (bgI 0 0))⟩ := by rw [h5]; exact at_ _ _ _ _
    rw [h9, setF_fs, F4, b4, hr2]
    exact ⟨n4, rfl⟩
  have e5 : s5.f = Mm.upd σ.f (stI 0 0) 3 ∧ s5.H = σ.H ∧ s5.G = σ.G ∧ s5.acc = σ.acc + 5 ∧ s5.steps = σ.steps + 5 ∧ s5.sl = σ.sl := by
    rw [h5]; exact ⟨e4.1, e4.2.1, e4.2.2.1, by show s4.acc + 1 = _; rw [e4.2.2.2.1]; omega, by show s4.steps + 1 = _; rw [e4.2.2.2.2.1]; omega, e4.2.2.2.2.2⟩
  obtain ⟨n5, F5⟩ := T5
  -- the node leads on to it
  obtain ⟨s6, h6⟩ : ∃ s6, s6 = rt4S P 0 0 6 s5.stp := ⟨_, rfl⟩
  have L5 : LS P 0 0 s5.stp s6 := by
    rw [h6]
    exact .ret4 (σ := s5.stp) (b := 0) (nx := 6) (by show ((s5.Ts 0).fs 0).fn = 20; rw [F5]) (by show ((s5.Ts 0).fs 0).pc = 4; rw [F5]) (by show 0 ≤ ((s5.Ts 0).fs 0).r 0 ∧ ((s5.Ts 0).fs 0).r 0 < _; rw [F5]; show 0 ≤ r2 0 ∧ r2 0 < _; rw [q20]; decide) (by show 0 ≤ ((s5.Ts 0).fs 0).r 1 ∧ ((s5.Ts 0).fs 0).r 1 < _; rw [F5]; show 0 ≤ r2 1 ∧ r2 1 < _; rw [q21]; decide) (by show 0 ≤ ((s5.Ts 0).fs 0).r 2 ∧ ((s5.Ts 0).fs 0).r 2 < _; rw [F5]; show 0 ≤ r2 2 ∧ r2 2 < _; rw [q22]; decide) (by show ((s5.Ts 0).fs 0).r 1 % 3 = _; rw [F5]; show r2 1 % 3 = _; rw [q21]; rfl) (by show Gd.leadsB P.s s5.H s5.G (((s5.Ts 0).fs 0).r 0 % 4611686018427387904) = true; rw [F5, e5.2.1, e5.2.2.1]; show Gd.leadsB P.s σ.H σ.G (r2 0 % 4611686018427387904) = true; rw [q20]; exact hl) (by show ((s5.Ts 0).fs 0).r 0 % 4611686018427387904 % 4096 = _; rw [F5]; show r2 0 % 4611686018427387904 % 4096 = _; rw [q20]; rfl) (by omega) hP
  have T6 : (s6.Ts 0).nf = 1 ∧ (s6.Ts 0).fs 0 = ⟨20, 5, r2⟩ := by
    have h9 : s6.Ts 0 = setF (s5.Ts 0) 0 ⟨((s5.Ts 0).fs 0).fn, 5, ((s5.Ts 0).fs 0).r⟩ := by rw [h6]; exact at_ _ _ _ _
    rw [h9, setF_fs, F5]
    exact ⟨n5, rfl⟩
  have e6 : s6.f = Mm.upd (Mm.upd σ.f (stI 0 0) 3) (nd P.t 6 0) 0 ∧ s6.H = σ.H ∧ s6.G = σ.G ∧ s6.acc = σ.acc + 6 ∧ s6.steps = σ.steps + 6 ∧ s6.sl = σ.sl := by
    rw [h6]
    refine ⟨?_, e5.2.1, e5.2.2.1, by show s5.acc + 1 = _; rw [e5.2.2.2.1]; omega, by show s5.steps + 1 = _; rw [e5.2.2.2.2.1]; omega, e5.2.2.2.2.2⟩
    show Mm.upd s5.f (nd P.t 6 0) (((s5.Ts 0).fs 0).r 2) = _
    rw [e5.1, F5]; show Mm.upd _ _ (r2 2) = _; rw [q22]
  obtain ⟨n6, F6⟩ := T6
  -- it is the bag's head
  obtain ⟨s7, h7⟩ : ∃ s7, s7 = rt5S 0 0 0 s6.stp := ⟨_, rfl⟩
  have L6 : LS P 0 0 s6.stp s7 := by
    rw [h7]
    exact .ret5 (σ := s6.stp) (b := 0) (by show ((s6.Ts 0).fs 0).fn = 20; rw [F6]) (by show ((s6.Ts 0).fs 0).pc = 5; rw [F6]) (by show 0 ≤ ((s6.Ts 0).fs 0).r 0 ∧ ((s6.Ts 0).fs 0).r 0 < _; rw [F6]; show 0 ≤ r2 0 ∧ r2 0 < _; rw [q20]; decide) (by show 0 ≤ ((s6.Ts 0).fs 0).r 1 ∧ ((s6.Ts 0).fs 0).r 1 < _; rw [F6]; show 0 ≤ r2 1 ∧ r2 1 < _; rw [q21]; decide) (by show ((s6.Ts 0).fs 0).r 1 % 3 = _; rw [F6]; show r2 1 % 3 = _; rw [q21]; rfl)
  have n7 : (s7.Ts 0).nf = 0 := by
    have h9 : s7.Ts 0 = Th.backT (s6.Ts 0) 0 (fun _ => 0) := by rw [h7]; exact at_ _ _ _ _
    rw [h9]; show (s6.Ts 0).nf - 1 = 0; omega
  have e7 : s7.f = Mm.upd (Mm.upd (Mm.upd σ.f (stI 0 0) 3) (nd P.t 6 0) 0) (bgI 0 0) 6 ∧ s7.H = σ.H ∧ s7.acc = σ.acc + 7 ∧ s7.steps = σ.steps + 7 ∧ s7.sl = σ.sl := by
    rw [h7]
    refine ⟨?_, e6.2.1, by show s6.acc + 1 = _; rw [e6.2.2.2.1]; omega, by show s6.steps + 1 = _; rw [e6.2.2.2.2.1]; omega, e6.2.2.2.2.2⟩
    show Mm.upd s6.f (bgI 0 0) (((s6.Ts 0).fs 0).r 0 % 4611686018427387904) = _
    rw [e6.1, F6]; show Mm.upd _ _ (r2 0 % 4611686018427387904) = _; rw [q20]; rfl
  refine ⟨fun j => match j with | 0 => s0 | 1 => s1 | 2 => s2 | 3 => s3 | 4 => s4 | 5 => s5 | 6 => s6 | _ => s7, fun j => if j = 2 then 1 else 0, h0, fun j hj => ?_, e7.1, e7.2.1, n7, fun j hj => ?_⟩
  · match j, hj with
    | 0, _ => exact ⟨L0, n0, by decide⟩
    | 1, _ => exact ⟨L1, n1, by decide⟩
    | 2, _ => exact ⟨L2, n2, by decide⟩
    | 3, _ => exact ⟨L3, n3, by decide⟩
    | 4, _ => exact ⟨L4, n4, by decide⟩
    | 5, _ => exact ⟨L5, n5, by decide⟩
    | 6, _ => exact ⟨L6, n6, by decide⟩
  · match j, hj with
    | 0, _ => exact ⟨⟨by show σ.acc ≤ s0.acc; omega, by show s0.acc ≤ _; omega⟩, by show s0.steps = _; omega, e0.2.2.2.2.2⟩
    | 1, _ => exact ⟨⟨by show σ.acc ≤ s1.acc; omega, by show s1.acc ≤ _; omega⟩, by show s1.steps = _; omega, e1.2.2.2.2.2⟩
    | 2, _ => exact ⟨⟨by show σ.acc ≤ s2.acc; omega, by show s2.acc ≤ _; omega⟩, by show s2.steps = _; omega, e2.2.2.2.2.2⟩
    | 3, _ => exact ⟨⟨by show σ.acc ≤ s3.acc; omega, by show s3.acc ≤ _; omega⟩, by show s3.steps = _; omega, e3.2.2.2.2.2⟩
    | 4, _ => exact ⟨⟨by show σ.acc ≤ s4.acc; omega, by show s4.acc ≤ _; omega⟩, by show s4.steps = _; omega, e4.2.2.2.2.2⟩
    | 5, _ => exact ⟨⟨by show σ.acc ≤ s5.acc; omega, by show s5.acc ≤ _; omega⟩, by show s5.steps = _; omega, e5.2.2.2.2.2⟩
    | 6, _ => exact ⟨⟨by show σ.acc ≤ s6.acc; omega, by show s6.acc ≤ _; omega⟩, by show s6.steps = _; omega, e6.2.2.2.2.2⟩
    | 7, _ => exact ⟨⟨by show σ.acc ≤ s7.acc; omega, by show s7.acc ≤ _; omega⟩, by show s7.steps = _; omega, e7.2.2.2.2⟩
theorem alone_ret {w : World} {P : Pc} {σ : Sg} (h : MM w P σ) {τ : Nat → Sg} {mm : Nat → Nat} (hk : 0 < P.t) {R : Nat → Int} (hn : (σ.Ts 0).nf = 0) (h0 : τ 0 = σ.thr 0 (Th.callT (σ.Ts 0) 20 1 R)) (hs : ∀ j, j < 7 → LS P 0 (mm j) (τ j).stp (τ (j + 1)) ∧ ((τ j).Ts 0).nf = mm j + 1 ∧ mm j ≤ 1) (h7 : ((τ 7).Ts 0).nf = 0) (hac : ∀ j, j ≤ 7 → (σ.acc ≤ (τ j).acc ∧ (τ j).acc ≤ σ.acc + j) ∧ (τ j).steps = σ.steps + j ∧ (τ j).sl = σ.sl)
    (a0 : 0 ≤ σ.acc) (a1 : σ.acc < 900000) (s0 : 0 ≤ σ.steps) (s1 : σ.steps < 900000) (hsl : σ.sl < 900000) {v : Value} (hu : Th.UR w v 1 R) :
    Calls Try.prog 23 #[.pointer (some ⟨P.q, 0, none⟩), .int .i64 ((0 : Nat) : Int), .func (.func 14) #[] #[], .int .i64 ((50 : Nat) : Int), .int .i64 20, v] w fun x w' => x = .returned (.tuple #[.int .i64 ((7 : Nat) : Int), .bool true]) ∧ MM w' P (τ 7) ∧ KA P.B P.N w w' := by
  refine malone (L := 7) (n0 := 0) (τ := τ) (ρ := fun j => τ (j + 1)) h hk cfL hu hn (by omega) (by omega) (by omega) h0 (fun j hj => ?_) (fun j hj w' hm' _ => ?_) (fun j hj => ?_) (fun j hj => ?_) (fun j hj => ?_) (by omega)
  · have h1 := (hs j hj).1.acc
    exact (Sg.odds_le (σ := τ (j + 1)) (a := (τ j).acc) (by have : (τ (j + 1)).acc ≤ (τ j).stp.acc + 1 := h1.2; exact this)).symm
  · obtain ⟨q1, q2, q3⟩ := hs j hj
    have h2 := hac j (by omega)
    exact ls_do hm' hk (by exact q2) (by omega) (by show 0 ≤ (τ j).acc; omega) (by show (τ j).acc < _; omega) (by show (τ j).sl < _; omega) q1
  · have := hac j (by omega); omega
  · have h1 := (hs j hj).1.acc
    have h2 : (τ j).acc ≤ (τ (j + 1)).acc ∧ (τ (j + 1)).acc ≤ (τ j).acc + 1 := h1
    show -1000000 ≤ (τ (j + 1)).acc - (τ j).acc ∧ (τ (j + 1)).acc - (τ j).acc < 1000000
    omega
  · obtain ⟨_, q2, q3⟩ := hs j hj; omega
end Go.Proofs.Ytaaciolfgplnoaa.Lb

/- Layer 19: lives. -/
namespace Go.Proofs.Ytaaciolfgplnoaa.Lb
open Go.RowKit WordM EdgeM Sl
set_option linter.unusedVariables false
set_option linter.unusedSimpArgs false
theorem l19a : Mm.upd (partF 1 3 7) 2 (chgI 6 7) 1 = 3 ∧ Mm.upd (partF 1 3 7) 2 (chgI 6 7) (stI 0 0) = 0 ∧ Mm.upd (partF 1 3 7) 2 (chgI 6 7) (bgI 0 0) = 0 := by decide +kernel
theorem l19b : Gd.leadsB 7 (Gd.takeH 7 (fun i => decide (i < 5)) 6) (fun _ => 0) 6 = true ∧ Gd.cntB (Gd.takeH 7 (fun i => decide (i < 5)) 6) 7 = 6 := by decide +kernel
def f19 : Nat → Int := Mm.upd (Mm.upd (Mm.upd (Mm.upd (partF 1 3 7) 2 (chgI 6 7)) (stI 0 0) 3) (nd 1 6 0) 0) (bgI 0 0) 6
theorem l19c : f19 (stI 0 0) = 3 ∧ f19 (bgI 0 0) = 6 ∧ f19 (nd 1 6 0) = 0 ∧ f19 (bgI 0 1) = 0 ∧ f19 (bgI 0 2) = 0 := by decide +kernel
def X19 (c : Nat) : List Int := if c = 0 then [6] else []
theorem ch19 : ∀ c, c < 3 → Ch 1 f19 (f19 (bgI 0 c)) (X19 c) := fun c hc => by
  rcases (by omega : c = 0 ∨ c = 1 ∨ c = 2) with rfl | rfl | rfl
  · exact ⟨l19c.2.1, l19c.2.2.1⟩
  · exact l19c.2.2.2.1
  · exact l19c.2.2.2.2
set_option maxRecDepth 8000 in
set_option maxHeartbeats 2000000 in
theorem lives19_calls (w : World) : Calls Try.prog 5 #[] w fun e w' => e = .returned (.bool true) ∧ Below w.heap.size w w' := by
  refine Calls.veil fun Q HQ => ?_
  go_enter Try.func5, Try.ntmps5
  go_wp2_with fail
  refine (cnewI (t := 1) (s := 7) _ mayC_157).mono ?_; rintro _ w1 ⟨q, pl, mb, mg, C, gq, gg, gm, fv, tq, rfl, hmi, hb, hin⟩
  have hm0 := MM.init hmi hin
  obtain ⟨P, hP⟩ : ∃ P : Pc, P = ⟨w.heap.size, q, pl, mb, mg, C, gq, gg, gm, fv, tq, 1, 7, 5, w1.heap.size⟩ := ⟨_, rfl⟩
  rw [← hP] at hm0
  have eq1 : q = P.q := by rw [hP]
  have et1 : P.t = 1 := by rw [hP]
  have es1 : P.s = 7 := by rw [hP]
  have eB : P.B = w.heap.size := by rw [hP]
  have en : P.n = 60 := by rw [hP]; rfl
  rw [eq1]
  have HB1 := Lib.hid hb; have HM1 := Lib.hid hm0
  have HE := Lib.hid (And.intro et1 (And.intro es1 (And.intro eB en)))
  clear hmi hb hin hP eq1 et1 es1 eB en hm0
  go_wp2_with fail
  -- Take
  have ld : ∀ (f : Nat → Int) (a b : Int), P.ld f a b = Mm.ldI 60 f (nodeI 1 7 a b) := fun f a b => by unfold Pc.ld; rw [HE.out.2.2.2, HE.out.1, HE.out.2.1]; rfl
  have z1 : (sgInit 1 7).f 2 = 6 := l17a
  have hz1 : ¬ (sgInit 1 7).f 2 % 4096 = 0 := by rw [z1]; decide
  have hk0 : 0 < P.t := by rw [HE.out.1]; omega
  have HK0 := Lib.hid hk0
  refine (alone_take19 (R := fun _ => 0) (m := 0) (most := 50) HM1.out hk0 rfl (by omega) (by omega) (by omega) hz1 (by rw [ld, z1]; show Mm.ldI 60 (partF 1 3 7) (nodeI 1 7 6 0) < _; rw [l17b.1]; omega) (by decide) (by decide) (by decide) (by decide) (by decide) (Th.UR.nil _)).mono ?_
  rintro _ w3 ⟨rfl, hm3, hk3⟩
  obtain ⟨f3, _, h3, s3, n3, _, _⟩ := tk4 (P := P) (k := 0) (m := 0) (σ := sgInit 1 7) (R := fun _ => 0) rfl hz1
  obtain ⟨a3, b3, _, g3⟩ := tkS_acc (P := P) (k := 0) (m := 0) (σ := sgInit 1 7) (R := fun _ => 0) 4
  generalize tkS P 0 0 (sgInit 1 7) (fun _ => 0) 4 = σ3 at *
  have fe : σ3.f = Mm.upd (partF 1 3 7) 2 (chgI 6 7) := by
    rw [f3, ld, z1]
    show Mm.upd (partF 1 3 7) 2 (chgI 6 (Mm.ldI 60 (partF 1 3 7) (nodeI 1 7 6 0))) = _
    rw [l17b.1]
  have he : σ3.H = Gd.takeH 7 (fun i => decide (i < 5)) 6 := by rw [h3, z1, HE.out.2.1]; rfl
  have ge : σ3.G = fun _ => 0 := by rw [g3]; rfl
  have se : σ3.sl ≤ 1 := by
    rw [s3]
    have hs0 : (sgInit 1 7).sl = 0 := rfl
    split <;> omega
  have ae : σ3.acc = 4 := a3
  have be : σ3.steps = 4 := b3
  have HM3 := Lib.hid hm3
  have HB3 := Lib.hid (show Below w.heap.size w w3 by have := hk3; rw [HE.out.2.2.1] at this; exact KA.below HB1.out this)
  have hlead : Gd.leadsB P.s σ3.H σ3.G 6 = true := by rw [HE.out.2.1, he, ge]; exact l19b.1
  obtain ⟨τ, mm, t0, ts, tf, th, tn, ta⟩ := retire_seq (P := P) (σ := σ3) (R := fun _ => 6) n3 rfl (by rw [fe]; exact l19a.1) (by rw [fe]; exact l19a.2.1) (by rw [fe]; exact l19a.2.2) hlead (by rw [HE.out.2.1]; omega)
  have tf : (τ 7).f = f19 := by rw [tf, fe, HE.out.1]; rfl
  have th : Gd.cntB (τ 7).H P.s = 6 := by rw [th, he, HE.out.2.1]; exact l19b.2
  have HT := Lib.hid (And.intro t0 (And.intro ts (And.intro tn ta)))
  have HF := Lib.hid (And.intro tf th)
  have H3 := Lib.hid (And.intro n3 (And.intro ae (And.intro be se)))
  clear hm3 hk3 f3 h3 s3 n3 a3 b3 g3 fe he ge se ae be hlead t0 ts tf th tn ta HM1 HB1 hz1 z1 ld hk0
  go_upto_region 5 with fail
  go_wp2_with fail
  generalize hU : World.alloc w3 _ = U
  obtain ⟨u0, hbu⟩ := Th.heapnewE hU
  have HM4 := Lib.hid (HM3.out.below hbu); have HB4 := Lib.hid (below_on HB3.out hbu)
  have hur : Th.UR U (.slice (some ⟨w3.heap.size, 0, none⟩) 1 1) 1 (fun _ => 6) := Th.UR.row _ 0 1 1 _ (by omega) (by omega) (fun i0 hi0 => by rw [show i0 = 0 by omega]; exact Th.newcell u0 0 _ rfl)
  clear hU u0 hbu
  refine (alone_ret HM4.out HK0.out H3.out.1 HT.out.1 HT.out.2.1 HT.out.2.2.1 HT.out.2.2.2 (by rw [H3.out.2.1]; omega) (by rw [H3.out.2.1]; omega) (by rw [H3.out.2.2.1]; omega) (by rw [H3.out.2.2.1]; omega) (by have := H3.out.2.2.2; omega) hur).mono ?_
  rintro _ w5 ⟨rfl, hm5, hk5⟩
  have HM5 := Lib.hid hm5
  have HB5 := Lib.hid (show Below w.heap.size w w5 by have := hk5; rw [HE.out.2.2.1] at this; exact KA.below HB4.out this)
  clear hm5 hk5 hur HM4 HM3
  go_wp2_with fail
  refine (lbagsX HM5.out HK0.out X19 (by rw [HE.out.1, HF.out.1]; exact ch19) (fun c hc e he => by
    unfold X19 at he
    split at he
    · simp only [List.mem_singleton] at he
      subst he
      rw [HE.out.2.1]; decide
    · exact absurd he List.not_mem_nil) (fun c hc => by unfold X19; rw [HE.out.2.1]; split <;> simp)).mono ?_
  rintro _ w6 ⟨v, rfl, hv, hb6⟩
  obtain ⟨p1, k1, hv1, _, _, _⟩ := (hv 1 (by omega)).parts
  obtain ⟨p2, k2, hv2, _, _, _⟩ := (hv 2 (by omega)).parts
  obtain ⟨p0, k0, hv0, _, _, hc0⟩ := (hv 0 (by omega)).parts
  obtain ⟨g0, o0, rfl, _, _, hcell⟩ := hc0.out (by decide)
  have hc6 : w6.cell? ⟨g0, o0, none⟩ = some (.int .u64 6) := hcell 0 (.int .u64 6) rfl
  rw [hv0, hv1, hv2, HF.out.1, l19c.1]
  have hl0 : (wds (X19 0)).length = 1 := rfl
  rw [hl0]
  have HM6 := Lib.hid (HM5.out.below hb6); have HB6 := Lib.hid (below_on HB5.out hb6)
  clear hv hb6 hv1 hv2 hv0 hcell hl0 HM5 HB5
  go_upto_region 7 with fail
  generalize hV : World.alloc w6 _ = V
  obtain ⟨v0, hbv⟩ := Th.heapnewE hV
  obtain ⟨bb, hbb⟩ : ∃ bb, bb = w6.heap.size := ⟨_, rfl⟩
  rw [← hbb] at v0 ⊢
  have y0 : V.cell? ⟨bb, 0, none⟩ = some (.int .u64 3) := Th.newcell v0 0 _ rfl
  have y1 : V.cell? ⟨bb, 1, none⟩ = some (.slice (some ⟨g0, o0, none⟩) 1 k0) := Th.newcell v0 1 _ rfl
  have hc7 : V.cell? ⟨g0, o0, none⟩ = some (.int .u64 6) := Ext.use (Ext.cells hc6) hbv
  have HM7 := Lib.hid (HM6.out.below hbv); have HB7 := Lib.hid (below_on HB6.out hbv)
  clear hV v0 hbv hbb hc6
  go_wp2_with fail
  refine (cGuard HM7.out.c).mono ?_; rintro _ _ ⟨rfl, rfl⟩
  go_wp2_with fail
  refine (Gd.gheld HM7.out.c.grd).mono ?_; rintro _ _ ⟨rfl, rfl⟩
  rw [HF.out.2]
  go_wp2_with fail
  (try go_ret)
  rw [HQ.out]
  exact ⟨rfl, HB7.out⟩
end Go.Proofs.Ytaaciolfgplnoaa.Lb

/- Layer 19: small contracts for the walk of LimboCrowd; where nothing is done. -/
namespace Go.Proofs.Ytaaciolfgplnoaa.Lb
open Go.RowKit WordM EdgeM Sl
set_option linter.unusedVariables false
set_option linter.unusedSimpArgs false
def D2 (w : World) (g off : Nat) (k a : Int) : Prop := w.cell? ⟨g, off, none⟩ = some (.int .i64 k) ∧ w.cell? ⟨g, off + 1, none⟩ = some (.int .i64 a)
theorem d2_cells {w : World} {cs : List Value} (h : Fr.Sh.oks w [.int .i64, .int .i64] cs) : ∃ (k a : Int), cs = [.int .i64 k, .int .i64 a] := by
  obtain ⟨_, _, rfl, k0, h⟩ := Fr.get_cons h
  obtain ⟨_, _, rfl, k1, h⟩ := Fr.get_cons h
  obtain rfl := Fr.get_nil h
  obtain ⟨k, rfl, _⟩ := Fr.get_int k0
  obtain ⟨a, rfl, _⟩ := Fr.get_int k1
  exact ⟨k, a, rfl⟩
theorem d2_open {w : World} {v : Value} (h : Fr.ok1 w (.slice [.int .i64, .int .i64]) v) : ∃ ao len cap, v = .slice ao len cap ∧ len ≤ cap ∧ cap ≤ 9223372036854775807 ∧ ∀ i, i < len → ∃ g off, ao = some ⟨g, off, none⟩ ∧ ∃ k a, D2 w g (off + i * 2) k a := by
  rcases Fr.get_slice h with rfl | ⟨a, len, cap, rfl, h1, h2, h3⟩
  · exact ⟨none, 0, 0, rfl, Nat.le_refl _, by decide, fun i hi => by omega⟩
  · refine ⟨some a, len, cap, rfl, h1, h2, fun i hi => ?_⟩
    obtain ⟨cs0, h5, h6⟩ := h3 0 (by omega)
    obtain ⟨k, a1, rfl⟩ := d2_cells h6
    have hs : a.spot = none := by
      have h7 := (World.cells?_some h5).2.2 0 (by decide)
      exact World.cell?_spot (by simpa [Addr.add] using h7)
    obtain ⟨g, off, spot⟩ := a
    simp only at hs
    subst hs
    obtain ⟨cs, h5, h6⟩ := h3 i (by omega)
    obtain ⟨k, a1, rfl⟩ := d2_cells h6
    obtain ⟨_, _, h7⟩ := World.cells?_some h5
    have e1 : ((⟨g, off, none⟩ : Addr).add (i * [Fr.Sh.int .i64, Fr.Sh.int .i64].length)) = ⟨g, off + i * 2, none⟩ := by
      simp [Addr.add] <;> (intro hh; subst hh; rfl)
    rw [e1] at h7
    refine ⟨g, off, rfl, k, a1, ?_, ?_⟩
    · simpa [Addr.add] using h7 0 (by decide)
    · simpa [Addr.add] using h7 1 (by decide)
theorem mtopS {w : World} {P : Pc} {σ : Sg} (h : MM w P σ) {k : Nat} (hk : k < P.t) (hn : (σ.Ts k).nf = 1) : Calls Try.prog 12 #[.pointer (some ⟨P.tq k, 0, none⟩)] w fun e w' => ∃ fb, e = .returned (.pointer (some ⟨fb, 0, none⟩)) ∧ w'.cell? ⟨fb, 0, none⟩ = some (.int .i64 ((σ.Ts k).fs 0).fn) ∧ Below w.heap.size w w' := by
  obtain ⟨ps, fvs, tf⟩ := h.th
  refine (Th.ftop1 (tf.th k hk).a (m := 0) hn (by omega)).mono ?_
  rintro _ w' ⟨rfl, hb⟩
  refine ⟨_, rfl, ?_, hb⟩
  have hbk := (((tf.below hb).th k hk).a.fb 0 (by omega)).1
  rw [hbk.get (i := 0) (by omega)]
  rfl

theorem wp_append_run {w : World} {o : Oper} {a : Act} {K : Act → World → Prop} {Q : Exit → Act → World → Prop} (s x : Operand) (SL : TypeId)
    (ho : o.op = .call { callee := .builtin .append, args := #[s, x], argTypes := #[SL, SL] }) (hty : o.type = SL) {v u v' : Value} {w' : World} (hs : a.eval s = v) (hx : a.eval x = u)
    (hr : (Builtin.append_ #[SL, SL] SL #[v, u]).run Try.prog w = .ok v' w') (h : K (a.put o.dst v') w') : o.wp Try.prog a w K Q := by
  unfold Oper.wp execOp
  simp only [ho, hty, resolve, invoke, builtin, Sem.run_bind, Sem.run_pure, Result.andThen_ok, List.map_toArray, List.map_cons, List.map_nil, hs, hx, hr]
  exact h
/-- The epoch is read. -/
theorem mnow {w : World} {P : Pc} {σ : Sg} (h : MM w P σ) (a0 : 0 ≤ σ.acc) (a1 : σ.acc < 1000000) :
    Calls Try.prog 9 #[.pointer (some ⟨P.mb, 0, none⟩), .int .i64 1] w fun e w' => e = .returned (.int .u64 (σ.f 1)) ∧ MM w' P { σ with acc := σ.acc + 1 } ∧ KA P.B P.N w w' := by
  obtain ⟨ps, fvs, hp⟩ := h.mp
  refine (hp.load 1 (by have := h.bd; omega) a0 a1).mono ?_
  rintro _ w' ⟨rfl, h1, h2⟩
  exact ⟨rfl, h1.mm, h2⟩
section
variable {P : Pc} {σ σ' : Sg} {g g' : Gh} {n k : Nat}
theorem XS.len (h : XS P σ g n) : g.L.length ≤ P.s := nodup_len P.s g.L h.un (fun a ha => (h.mem ha).2) fun a ha => (h.mem ha).1
theorem XS.ne (h : XS P σ g n) : ∀ i j (h1 : i < g.L.length) (h2 : j < g.L.length), j < i → g.L[i] ≠ g.L[j] := fun i j h1 h2 hij e => (List.pairwise_iff_getElem.1 h.un) j i h2 h1 hij e.symm
theorem XS.no (h : XS P σ g n) : ∀ j (hj : j < g.L.length), σ.H (g.L[j] - 1) = false := fun j hj =>
  (h.hh _ (h.lk.at_ j hj).1 (h.lk.at_ j hj).2.1).2 (.inl ((h.ol _ (h.lk.at_ j hj).1 (h.lk.at_ j hj).2.1).2 (List.getElem_mem hj)))
/-- What the law has put away. -/
def AW (P : Pc) (σ : Sg) (g : Gh) (A : List (Int × Int)) (n : Nat) : Prop := ∀ p ∈ A, (0 ≤ p.1 ∧ p.1 < 4611686018427387904) ∧ Gd.leadsB P.s σ.H σ.G p.1 = true ∧ (1 ≤ sl p.1 ∧ sl p.1 ≤ P.s) ∧ g.W (sl p.1) = p.2 ∧ 3 ≤ p.2 ∧ p.2 ≤ n + 3
theorem AW.nil (n : Nat) : AW P σ g [] n := fun p hp => absurd hp List.not_mem_nil
theorem AW.le {A : List (Int × Int)} {m : Nat} (h : AW P σ g A n) (hm : n ≤ m) : AW P σ g A m := fun p hp => by
  obtain ⟨h1, h2, h3, h4, h5, h6⟩ := h p hp
  exact ⟨h1, h2, h3, h4, h5, by omega⟩
theorem AW.same {A : List (Int × Int)} (h : AW P σ g A n) (hH : σ'.H = σ.H) (hG : σ'.G = σ.G) : AW P σ' g A n := fun p hp => by
  obtain ⟨h1, h2, h3⟩ := h p hp
  exact ⟨h1, by rw [hH, hG]; exact h2, h3⟩
theorem AW.callR {A : List (Int × Int)} (h : AW P σ g A n) (hi : XS P σ g n) (hk : k < P.t) {e : Int} {B : List Int} (he : g.X (10 * k + 2) = e :: B) (hH : σ'.H = σ.H) (hG : σ'.G = σ.G) : AW P σ' (rg g k e B (σ.f 1)) (A ++ [(e, σ.f 1)]) n := fun p hp => by
  obtain ⟨x0, a1, a2, ho, hw, hem, hHe, hGe⟩ := hi.hand hk (e := e) (by rw [he]; exact List.mem_cons_self)
  have hep := hi.ep
  rcases List.mem_append.1 hp with hp | hp
  · obtain ⟨h1, h2, h3, h4, h5, h6⟩ := h p hp
    have hne : sl p.1 ≠ sl e := fun e9 => by rw [e9] at h4; omega
    refine ⟨h1, by rw [hH, hG]; exact h2, h3, ?_, h5, h6⟩
    show updW g.W (sl e) (σ.f 1) (sl p.1) = _
    rw [updW_ne _ _ hne]; exact h4
  · simp only [List.mem_singleton] at hp
    subst hp
    refine ⟨⟨by show 0 ≤ e; omega, x0.2⟩, by rw [hH, hG]; exact leads_of hem a1 a2 hHe hGe, ⟨a1, a2⟩, ?_, by show 3 ≤ σ.f 1; omega, by show σ.f 1 ≤ _; omega⟩
    show updW g.W (sl e) (σ.f 1) (sl e) = σ.f 1
    rw [updW_at]
theorem leads_same {s : Nat} {H H' : Nat → Bool} {G G' : Nat → Int} {e : Int} (h1 : H' (sl e - 1) = H (sl e - 1)) (h2 : G' (sl e - 1) = G (sl e - 1)) : Gd.leadsB s H' G' e = Gd.leadsB s H G e := by
  unfold Gd.leadsB
  rw [show (e % 4096).toNat - 1 = sl e - 1 from rfl, h1, h2]
theorem leads_H {s : Nat} {H : Nat → Bool} {G : Nat → Int} {e : Int} (h : H (sl e - 1) = false) : Gd.leadsB s H G e = false := by
  unfold Gd.leadsB
  rw [show (e % 4096).toNat - 1 = sl e - 1 from rfl, h]; simp
/-- Behind a step: what was given back stood three epochs below. -/
theorem AW.step {A : List (Int × Int)} (h : AW P σ g A n) (hs : SO P σ σ' k g g' n) : ∀ p ∈ A, (Gd.leadsB P.s σ'.H σ'.G p.1 = false → p.2 + 3 ≤ σ.f 1) ∧ (Gd.leadsB P.s σ'.H σ'.G p.1 = true → g'.W (sl p.1) = p.2) := fun p hp => by
  obtain ⟨h1, h2, ⟨h3, h3'⟩, h4, h5, h6⟩ := h p hp
  rcases hs.eff (sl p.1) h3 h3' with ⟨e1, e2, e3⟩ | e | ⟨e1, e2⟩
  · have hl := leads_same (s := P.s) (e := p.1) e2 e1
    exact ⟨fun h9 => (by rw [hl, h2] at h9; cases h9), fun _ => by rw [e3]; exact h4⟩
  · rw [leads_H (G := σ.G) e] at h2; cases h2
  · exact ⟨fun _ => by rw [h4] at e1; exact e1, fun h9 => by rw [leads_H (G := σ'.G) e2] at h9; cases h9⟩
/-- What is still away. -/
def stillL (s : Nat) (σ : Sg) (A : List (Int × Int)) : List (Int × Int) := A.filter fun p => Gd.leadsB s σ.H σ.G p.1
theorem AW.still {A : List (Int × Int)} (h : AW P σ g A n) (hs : SO P σ σ' k g g' n) : AW P σ' g' (stillL P.s σ' A) (n + 1) := fun p hp => by
  obtain ⟨hm, hl⟩ := List.mem_filter.1 hp
  obtain ⟨h1, h2, h3, h4, h5, h6⟩ := h p hm
  exact ⟨h1, hl, h3, (h.step hs p hm).2 hl, h5, by omega⟩
theorem still_len (s : Nat) (σ : Sg) (A : List (Int × Int)) : (stillL s σ A).length ≤ A.length := List.length_filter_le _ _
theorem still_take (s : Nat) (σ : Sg) {A : List (Int × Int)} {j : Nat} (h : j < A.length) : stillL s σ (A.take (j + 1)) = stillL s σ (A.take j) ++ (if Gd.leadsB s σ.H σ.G A[j].1 = true then [A[j]] else []) := by
  unfold stillL
  rw [List.take_add_one, List.getElem?_eq_getElem h, List.filter_append]
  cases hb : Gd.leadsB s σ.H σ.G A[j].1 <;> simp [hb]
end
set_option maxRecDepth 16000 in
set_option maxHeartbeats 4000000 in
theorem limboCrowd_no (T S Kc : Int) (v1 : Value) (w : World) (hmay : mayC T S Kc = false) :
    Calls Try.prog 3 #[.agg #[.int .i64 T, .int .i64 S, .int .u64 Kc], v1] w fun e w' => e = .returned (.bool true) ∧ Below w.heap.size w w' := by
  refine Calls.veil fun Q HQ => ?_
  have HM := Lib.hid hmay
  clear hmay
  go_enter Try.func3, Try.ntmps3
  go_upto_region 1 with fail
  generalize hV : World.alloc _ _ = U
  obtain ⟨u0, hbu⟩ := Th.heapnewE hV
  obtain ⟨cb, hcb⟩ : ∃ cb, cb = w.heap.size := ⟨_, rfl⟩
  rw [← hcb] at u0 ⊢
  have HC := Lib.hid u0; have HBU := Lib.hid hbu
  clear hV u0 hbu hcb
  have o0 := Th.newcell HC.out 0 _ rfl; have o1 := Th.newcell HC.out 1 _ rfl; have o2 := Th.newcell HC.out 2 _ rfl
  go_wp2_with fail
  refine (rmay_calls T S Kc _).mono ?_; rintro _ w1 ⟨rfl, hb⟩
  have HC1 := Lib.hid (Th.up hb HC.out)
  have HB1 := Lib.hid (below_on HBU.out hb)
  clear hb HC HBU o0 o1 o2
  rw [HM.out]
  go_wp2_with fail
  refine (lives19_calls _).mono ?_; rintro _ w3 ⟨rfl, hb⟩
  have HB3 := Lib.hid (below_on HB1.out hb)
  clear hb
  go_wp2_with fail
  (try go_ret)
  rw [HQ.out]
  exact ⟨rfl, HB3.out⟩
set_option maxRecDepth 16000 in
set_option maxHeartbeats 4000000 in
theorem limboCrowd_big (T S Kc : Int) (pa : Option Addr) (pn pc : Nat) (w : World) (hmay : mayC T S Kc = true) (hpn : 1200 < pn) :
    Calls Try.prog 3 #[.agg #[.int .i64 T, .int .i64 S, .int .u64 Kc], .slice pa pn pc] w fun e w' => e = .returned (.bool true) ∧ Below w.heap.size w w' := by
  refine Calls.veil fun Q HQ => ?_
  have HM := Lib.hid hmay
  have hp2 : (1200 : Int) < pn := by omega
  clear hmay hpn
  go_enter Try.func3, Try.ntmps3
  go_upto_region 1 with fail
  generalize hV : World.alloc _ _ = U
  obtain ⟨u0, hbu⟩ := Th.heapnewE hV
  obtain ⟨cb, hcb⟩ : ∃ cb, cb = w.heap.size := ⟨_, rfl⟩
  rw [← hcb] at u0 ⊢
  have HC := Lib.hid u0; have HBU := Lib.hid hbu
  clear hV u0 hbu hcb
  have o0 := Th.newcell HC.out 0 _ rfl; have o1 := Th.newcell HC.out 1 _ rfl; have o2 := Th.newcell HC.out 2 _ rfl
  go_wp2_with fail
  refine (rmay_calls T S Kc _).mono ?_; rintro _ w1 ⟨rfl, hb⟩
  have HC1 := Lib.hid (Th.up hb HC.out)
  have HB1 := Lib.hid (below_on HBU.out hb)
  clear hb HC HBU o0 o1 o2
  rw [HM.out]
  go_wp2_with fail
  refine (lives19_calls _).mono ?_; rintro _ w3 ⟨rfl, hb⟩
  have HB3 := Lib.hid (below_on HB1.out hb)
  clear hb
  go_wp2_with fail
  (try go_ret)
  rw [HQ.out]
  exact ⟨rfl, HB3.out⟩
end Go.Proofs.Ytaaciolfgplnoaa.Lb
