/- GAN: several texts in one. -/
import Derived.Test.YtaaciolfgplnoaaGAM
import Derived.Test.YtaaciolfgplnoaaGAL
/- Layer 17 and on: Step, and a routine alone, whatever the routine. -/
namespace Go.Proofs.Ytaaciolfgplnoaa
open Go.RowKit WordM EdgeM
set_option linter.unusedVariables false
set_option linter.unusedSimpArgs false
theorem qRF (fid : FuncId) (caps : Array Value) : ∀ w : World, (binOp BinOp.eql 89 (.func (.func fid) #[] caps) .nilFunc).run Try.prog w = .ok (.bool false) w := fun _ => by kernel_rfl
def Sg.stp (σ : Sg) : Sg := { σ with steps := σ.steps + 1 }
def Sg.odds (σ : Sg) (a : Int) : Sg := { σ with odd := σ.odd || decide (1 < σ.acc - a) }
theorem MM.setq {w w' : World} {P : Pc} {σ : Sg} {steps' : Int} {odd' : Bool} (h : MM w P σ) (hq : w'.heap[P.q]? = some (.cells (machC P.pl P.mb P.gq P.fv steps' odd') 83 (0, 0))) (hs : w.heap.size ≤ w'.heap.size) (k : ∀ j, j ≠ P.q → w'.heap[j]? = w.heap[j]?) (ho : w'.os = w.os ∧ w'.tape = w.tape ∧ w'.output = w.output) :
    MM w' P { σ with steps := steps', odd := odd' } ∧ KA P.B P.N w w' := by
  obtain ⟨ps, fvs, tf⟩ := h.th
  refine ⟨⟨h.c.setq hq hs k, ⟨ps, fvs, tf.hi hs fun j _ hj => k j (by omega)⟩, h.qN, h.tN, Nat.le_trans h.NS hs⟩, ⟨ho.1, ho.2.1, ho.2.2, hs, fun j hj hx => k j fun e => hx (by rw [e]; exact ⟨h.ord.2.2.2.2.2.1.1, .inl h.ord.2.2.2.2.2.1.2⟩)⟩⟩
set_option maxRecDepth 8000 in
set_option maxHeartbeats 2000000 in
theorem mstep {w : World} {P : Pc} {σ σ' : Sg} {fid : FuncId} {caps : Array Value} (h : MM w P σ) {k : Nat} (hk : k < P.t) (hd : 0 < (σ.Ts k).nf) (hcf : ∀ (args : Array Value) (w : World), (callFunc fid args).run Try.prog w = .ok (.enter fid args) w)
    (hdo : ∀ w', MM w' P σ.stp → KA P.B P.N w w' → Calls Try.prog fid (#[.pointer (some ⟨P.q, 0, none⟩), .int .i64 k] ++ caps) w' fun x w'' => x = .returned (.tuple #[]) ∧ MM w'' P σ' ∧ KA P.B P.N w' w'')
    (s0 : 0 ≤ σ.steps) (s1 : σ.steps < 1000000) (hac : -1000000 ≤ σ'.acc - σ.acc ∧ σ'.acc - σ.acc < 1000000) (hn : (σ.Ts k).nf ≤ 1000000) (hn' : (σ'.Ts k).nf ≤ 1000000) :
    Calls Try.prog 13 #[.pointer (some ⟨P.q, 0, none⟩), .int .i64 k, .func (.func fid) #[] caps] w fun x w' => x = .returned (.bool (decide (0 < (σ'.Ts k).nf))) ∧ MM w' P (σ'.odds σ.acc) ∧ KA P.B P.N w w' := by
  refine Calls.veil fun Q HQ => ?_
  have HH := Lib.hid h
  have HDO := Lib.hid hdo; have HCF := Lib.hid hcf
  obtain ⟨nk, hnk⟩ : ∃ nk, (σ.Ts k).nf = nk := ⟨_, rfl⟩
  have HNK := Lib.hid hnk
  obtain ⟨nj, hnj⟩ : ∃ nj, (σ'.Ts k).nf = nj := ⟨_, rfl⟩
  have HNJ := Lib.hid hnj
  rw [hnk] at hd hn
  rw [hnj] at hn' HQ
  have he1 : ¬ (nk : Int) = 0 := by omega
  have qn := qRF fid caps
  have HAC := Lib.hid hac
  clear h hdo hd hcf hnk hnj hac
  go_enter Try.func13, Try.ntmps13
  go_wp2_with fail
  refine (cThread_yes HH.out.c k hk).mono ?_; rintro _ w1 ⟨rfl, hb1⟩
  have HM1 := Lib.hid (HH.out.below hb1); have HB1 := Lib.hid hb1
  clear hb1
  go_wp2_with fail
  refine (mdepth HM1.out hk).mono ?_; rintro _ _ ⟨rfl, rfl⟩
  rw [HNK.out]
  have c1 := HM1.out.c.c1
  go_wp2_with fail
  refine (Mm.maccs _ _ _ _ _ _ _ _ HM1.out.c.mem).mono ?_; rintro _ _ ⟨rfl, rfl⟩
  have c4 := HM1.out.c.c4
  have cf : ∀ i, w1.frozen? ⟨P.q, i, none⟩ = false := fun i => frozen_of_row _ _ _ _ _ HM1.out.c.blk
  go_upto_region 6 with fail
  generalize hV : World.setCell _ _ _ = V
  have hvq : V.heap[P.q]? = some (.cells (machC P.pl P.mb P.gq P.fv (σ.steps + 1) σ.odd) 83 (0, 0)) := by rw [← hV]; exact heap_setCell_same _ P.q 4 _ _ _ HM1.out.c.blk
  have hvo : ∀ j, j ≠ P.q → V.heap[j]? = w1.heap[j]? := fun j hj => by rw [← hV]; exact Below.heap_setCell _ _ _ _ hj
  have hvs : V.heap.size = w1.heap.size := by rw [← hV]; simp [World.setCell]
  have hos : V.os = w1.os ∧ V.tape = w1.tape ∧ V.output = w1.output := by rw [← hV]; exact ⟨rfl, rfl, rfl⟩
  obtain ⟨hmv, hkv⟩ := HM1.out.setq hvq (by omega) hvo hos
  have HMV := Lib.hid (show MM V P σ.stp from hmv); have HKV := Lib.hid ((KA.of_below HB1.out : KA P.B P.N w w1).trans hkv)
  clear hV hvq hvo hvs hos hmv hkv HM1 c1 c4 cf qn
  have hcf := HCF.out
  go_wp2_with fail
  clear hcf
  refine (HDO.out V HMV.out HKV.out).mono ?_; rintro _ w5 ⟨rfl, hm5, hk5⟩
  have HM5 := Lib.hid hm5; have HK5 := Lib.hid (HKV.out.trans hk5)
  clear hm5 hk5 HMV HKV
  have c1 := HM5.out.c.c1
  go_wp2_with fail
  refine (Mm.maccs _ _ _ _ _ _ _ _ HM5.out.c.mem).mono ?_; rintro _ _ ⟨rfl, rfl⟩
  have HW := Lib.hid (show IntKind.i64.wrap (σ'.acc - σ.acc) = σ'.acc - σ.acc by have := HAC.out; rw [IntKind.wrap_i64]; omega)
  have hwa := HW.out
  by_cases hn1 : 1 < σ'.acc - σ.acc
  · have c5 := HM5.out.c.c5
    have cf : ∀ i, w5.frozen? ⟨P.q, i, none⟩ = false := fun i => frozen_of_row _ _ _ _ _ HM5.out.c.blk
    go_upto_region 9 with fail
    generalize hV : World.setCell _ _ _ = V
    have hvq : V.heap[P.q]? = some (.cells (machC P.pl P.mb P.gq P.fv σ'.steps true) 83 (0, 0)) := by rw [← hV]; exact heap_setCell_same _ P.q 5 _ _ _ HM5.out.c.blk
    have hvo : ∀ j, j ≠ P.q → V.heap[j]? = w5.heap[j]? := fun j hj => by rw [← hV]; exact Below.heap_setCell _ _ _ _ hj
    have hvs : V.heap.size = w5.heap.size := by rw [← hV]; simp [World.setCell]
    have hos : V.os = w5.os ∧ V.tape = w5.tape ∧ V.output = w5.output := by rw [← hV]; exact ⟨rfl, rfl, rfl⟩
    obtain ⟨hmv, hkv⟩ := HM5.out.setq hvq (by omega) hvo hos
    have HM6 := Lib.hid (show MM V P (σ'.odds σ.acc) by unfold Sg.odds; rw [decide_eq_true hn1, Bool.or_true]; exact hmv)
    have HK6 := Lib.hid (HK5.out.trans hkv)
    clear hV hvq hvo hvs hos hmv hkv c1 c5 cf HM5 HK5 hn1 hwa
    go_wp2_with fail
    refine (mdepth HM6.out hk).mono ?_; rintro _ _ ⟨rfl, rfl⟩
    rw [show ((σ'.odds σ.acc).Ts k).nf = nj from HNJ.out]
    go_wp2_with fail
    (try go_ret)
    rw [HQ.out]
    exact ⟨by simp, HM6.out, HK6.out⟩
  · go_upto_region 9 with fail
    have HM6 := Lib.hid (show MM w5 P (σ'.odds σ.acc) by unfold Sg.odds; rw [decide_eq_false (by omega), Bool.or_false]; exact HM5.out)
    clear c1 hn1 hwa HM5
    go_wp2_with fail
    refine (mdepth HM6.out hk).mono ?_; rintro _ _ ⟨rfl, rfl⟩
    rw [show ((σ'.odds σ.acc).Ts k).nf = nj from HNJ.out]
    go_wp2_with fail
    (try go_ret)
    rw [HQ.out]
    exact ⟨by simp, HM6.out, HK5.out⟩
/-! ### A routine alone -/
set_option maxRecDepth 8000 in
set_option maxHeartbeats 2000000 in
theorem malone {w : World} {P : Pc} {σ : Sg} {fid : FuncId} {caps : Array Value} {τ ρ : Nat → Sg} {k L most n n0 : Nat} {fn : Int} {v : Value} {R : Nat → Int} (h : MM w P σ) (hk : k < P.t) (hcf : ∀ (args : Array Value) (w : World), (callFunc fid args).run Try.prog w = .ok (.enter fid args) w)
    (hu : Th.UR w v n R) (hn0 : (σ.Ts k).nf = n0) (hn1 : n0 ≤ 10000) (hL : 1 ≤ L ∧ L ≤ most) (hm : most ≤ 1000000) (h0 : τ 0 = σ.thr k (Th.callT (σ.Ts k) fn n R)) (hs : ∀ j, j < L → τ (j + 1) = (ρ j).odds (τ j).acc)
    (hdo : ∀ j, j < L → ∀ w', MM w' P (τ j).stp → KA P.B P.N w w' → Calls Try.prog fid (#[.pointer (some ⟨P.q, 0, none⟩), .int .i64 k] ++ caps) w' fun x w'' => x = .returned (.tuple #[]) ∧ MM w'' P (ρ j) ∧ KA P.B P.N w' w'')
    (hst : ∀ j, j < L → 0 ≤ (τ j).steps ∧ (τ j).steps < 1000000) (hac : ∀ j, j < L → -1000000 ≤ (ρ j).acc - (τ j).acc ∧ (ρ j).acc - (τ j).acc < 1000000) (hnf : ∀ j, j < L → n0 < ((τ j).Ts k).nf ∧ ((τ j).Ts k).nf ≤ 1000000) (hnl : ((τ L).Ts k).nf ≤ n0) :
    Calls Try.prog 23 #[.pointer (some ⟨P.q, 0, none⟩), .int .i64 k, .func (.func fid) #[] caps, .int .i64 most, .int .i64 fn, v] w fun x w' => x = .returned (.tuple #[.int .i64 L, .bool true]) ∧ MM w' P (τ L) ∧ KA P.B P.N w w' := by
  refine Calls.veil fun Q HQ => ?_
  have HH := Lib.hid h; have HU := Lib.hid hu
  have HALL := Lib.hid (And.intro hcf (And.intro h0 (And.intro hs (And.intro hdo (And.intro hst (And.intro hac (And.intro hnf hnl)))))))
  have HN0 := Lib.hid hn0
  obtain ⟨va, vc, rfl, _, _⟩ := hu.slice
  obtain ⟨hL1, hL2⟩ := hL
  clear h hu hcf h0 hs hdo hst hac hnf hnl hn0
  go_enter Try.func23, Try.ntmps23
  go_wp2_with fail
  refine (cThread_yes HH.out.c k hk).mono ?_; rintro _ w1 ⟨rfl, hb1⟩
  have HM1 := Lib.hid (HH.out.below hb1); have HB1 := Lib.hid hb1
  clear hb1
  go_wp2_with fail
  refine (mdepth HM1.out hk).mono ?_; rintro _ _ ⟨rfl, rfl⟩
  rw [HN0.out]
  go_wp2_with fail
  refine (mcall HM1.out hk fn (HU.out.below HB1.out) (by rw [HN0.out]; omega)).mono ?_; rintro _ w2 ⟨rfl, hm2, hk2⟩
  rw [← HALL.out.2.1] at hm2
  have HM2 := Lib.hid hm2; have HK2 := Lib.hid ((KA.of_below HB1.out : KA P.B P.N w w1).trans hk2)
  clear hm2 hk2 HM1
  go_wp2_with fail
  go_loopw [16] (fun iv wr => ∃ j : Nat, j < L ∧ iv = .int .i64 j ∧ Hid (MM wr P (τ j)) ∧ Hid (KA P.B P.N w wr)) (fun iv _ => L - (intOf iv).toNat)
  case atStart => exact ⟨0, by omega, rfl, HM2, HK2⟩
  case round =>
    clear HM2 HK2
    obtain ⟨j, hj, rfl, HM3, HK3⟩ := hrel
    have hji : (j : Int) < most := by omega
    go_wp2_with fail
    refine (mstep (σ' := ρ j) HM3.out hk (by have := (HALL.out.2.2.2.2.2.2.1 j hj).1; omega) HALL.out.1 (fun w' hm' hk' => HALL.out.2.2.2.1 j hj w' hm' (HK3.out.trans hk')) (HALL.out.2.2.2.2.1 j hj).1 (HALL.out.2.2.2.2.1 j hj).2 (HALL.out.2.2.2.2.2.1 j hj) (HALL.out.2.2.2.2.2.2.1 j hj).2 ?_).mono ?_
    · have e : ((ρ j).Ts k).nf = ((τ (j + 1)).Ts k).nf := by rw [HALL.out.2.2.1 j hj]; rfl
      rw [e]
      rcases (by omega : j + 1 < L ∨ j + 1 = L) with e2 | e2
      · exact (HALL.out.2.2.2.2.2.2.1 (j + 1) e2).2
      · rw [e2]; have := HALL.out.2.2.2.2.2.2.2; omega
    rintro _ w5 ⟨rfl, hm5, hk5⟩
    rw [← HALL.out.2.2.1 j hj] at hm5
    have HM5 := Lib.hid hm5; have HK5 := Lib.hid (HK3.out.trans hk5)
    clear hm5 hk5 HM3 HK3
    go_wp2_with fail
    refine (mdepth HM5.out hk).mono ?_; rintro _ _ ⟨rfl, rfl⟩
    rcases (by omega : j + 1 < L ∨ j + 1 = L) with e2 | e2
    · have hgt := (HALL.out.2.2.2.2.2.2.1 (j + 1) e2).1
      generalize ((τ (j + 1)).Ts k).nf = nj at hgt
      have hle : ¬ (nj : Int) ≤ n0 := by omega
      clear hgt
      go_wp2_with fail
      go_roundw
      case rel => exact ⟨j + 1, e2, by go_num, HM5, HK5⟩
      case measure => simp [intOf]; omega
    · subst e2
      have hgt := HALL.out.2.2.2.2.2.2.2
      generalize ((τ (j + 1)).Ts k).nf = nj at hgt
      have hle : (nj : Int) ≤ n0 := by omega
      clear hgt
      go_wp2_with fail
      (try go_ret2)
      rw [HQ.out]
      exact ⟨by go_num, HM5.out, HK5.out⟩
end Go.Proofs.Ytaaciolfgplnoaa

/- Layer 17: Do, at Take. -/
namespace Go.Proofs.Ytaaciolfgplnoaa
open Go.RowKit WordM EdgeM
set_option linter.unusedVariables false
set_option linter.unusedSimpArgs false
def setF (T : Th.Td) (m : Nat) (F : Th.Fm) : Th.Td := { T with fs := Th.upM T.fs m F }
def updr (r : Nat → Int) (a : Nat) (v : Int) : Nat → Int := fun i => if i = a then v else r i
def Pc.n (P : Pc) : Nat := 3 + 8 * P.t + 7 * P.s
def Pc.ld (P : Pc) (f : Nat → Int) (slot fi : Int) : Int := Mm.ldI P.n f (nodeI P.t P.s slot fi)
def Pc.ok (P : Pc) (slot fi : Int) : Bool := Mm.okA P.n (nodeI P.t P.s slot fi)
/-- A step of Take. -/
def rTake (P : Pc) (k m : Nat) (σ : Sg) : Sg :=
  if ((σ.Ts k).fs m).pc = 0 then
    if σ.f 2 % 4096 = 0 then { σ.thr k (Th.backT (setF (σ.Ts k) m ⟨((σ.Ts k).fs m).fn, 1, updr ((σ.Ts k).fs m).r 0 (σ.f 2)⟩) 1 (fun _ => 0)) with acc := σ.acc + 1 }
    else { σ.thr k (setF (σ.Ts k) m ⟨((σ.Ts k).fs m).fn, 1, updr ((σ.Ts k).fs m).r 0 (σ.f 2)⟩) with acc := σ.acc + 1 }
  else if ((σ.Ts k).fs m).pc = 1 then
    { σ.thr k (setF (σ.Ts k) m ⟨((σ.Ts k).fs m).fn, 2, updr ((σ.Ts k).fs m).r 1 (P.ld σ.f (((σ.Ts k).fs m).r 0 % 4096) 0)⟩) with acc := σ.acc + 1, flt := σ.flt || !P.ok (((σ.Ts k).fs m).r 0 % 4096) 0 }
  else if ((σ.Ts k).fs m).pc = 2 then
    if (σ.f 2 == ((σ.Ts k).fs m).r 0) = true then
      { σ.thr k (setF (σ.Ts k) m ⟨((σ.Ts k).fs m).fn, 3, ((σ.Ts k).fs m).r⟩) with
        acc := σ.acc + 1, f := Mm.upd σ.f 2 (chgI (((σ.Ts k).fs m).r 0) (((σ.Ts k).fs m).r 1)), H := Gd.takeH P.s σ.H (((σ.Ts k).fs m).r 0 % 4096),
        sl := if Gd.canT P.s σ.H (((σ.Ts k).fs m).r 0 % 4096) = true then σ.sl else σ.sl + 1 }
    else { σ.thr k (setF (σ.Ts k) m ⟨((σ.Ts k).fs m).fn, 0, ((σ.Ts k).fs m).r⟩) with acc := σ.acc + 1 }
  else
    { σ.thr k (Th.backT (σ.Ts k) 1 (fun _ => makeI (((σ.Ts k).fs m).r 0 % 4096) (P.ld σ.f (((σ.Ts k).fs m).r 0 % 4096) 1))) with
      acc := σ.acc + 1, flt := σ.flt || !P.ok (((σ.Ts k).fs m).r 0 % 4096) 1 }
theorem mtake {w : World} {P : Pc} {σ : Sg} (h : MM w P σ) {ps : Nat → Nat → Nat} {fvs : Nat → Value} (tf : TF w P.q P.t P.tq σ.Ts ps fvs) {k m : Nat} (hk : k < P.t) (hm : (σ.Ts k).nf = m + 1) (hpc : 0 ≤ ((σ.Ts k).fs m).pc ∧ ((σ.Ts k).fs m).pc ≤ 3)
    (hr : 0 ≤ ((σ.Ts k).fs m).r 0 ∧ ((σ.Ts k).fs m).r 0 < 18446744073709551616) (hr1 : ((σ.Ts k).fs m).pc = 2 → 0 ≤ ((σ.Ts k).fs m).r 1 ∧ ((σ.Ts k).fs m).r 1 < 9223372036854775808) (a0 : 0 ≤ σ.acc) (a1 : σ.acc < 1000000) (hsl : σ.sl < 1000000) (hN : m ≤ 1000) :
    Calls Try.prog 87 #[.agg #[.pointer (some ⟨P.q, 0, none⟩), .pointer (some ⟨P.tq k, 0, none⟩), .pointer (some ⟨ps k m, 0, none⟩)]] w fun x w' => x = .returned (.tuple #[]) ∧ MM w' P (rTake P k m σ) ∧ KA P.B P.N w w' := by
  have hmm : m < (σ.Ts k).nf := by omega
  rcases (by omega : ((σ.Ts k).fs m).pc = 0 ∨ ((σ.Ts k).fs m).pc = 1 ∨ ((σ.Ts k).fs m).pc = 2 ∨ ((σ.Ts k).fs m).pc = 3) with e | e | e | e
  · by_cases hz : σ.f 2 % 4096 = 0
    · refine (take0z h.c tf hk hm e hr hz hN a0 a1).mono ?_
      rintro _ w' ⟨rfl, hc, ⟨fv', ht, ho⟩, ks⟩
      have e1 : rTake P k m σ = { σ.thr k (Th.backT (setF (σ.Ts k) m ⟨((σ.Ts k).fs m).fn, 1, updr ((σ.Ts k).fs m).r 0 (σ.f 2)⟩) 1 (fun _ => 0)) with acc := σ.acc + 1 } := by unfold rTake; rw [if_pos e, if_pos hz]
      refine ⟨rfl, by rw [e1]; exact ⟨hc, ⟨_, _, ht⟩, h.qN, h.tN, Nat.le_trans h.NS ks.size⟩, h.ka tf hk (m := m) ks fun j hj => ?_⟩
      rcases hj with e | e | e | e | e
      · exact .inl e
      · exact .inr (.inl e)
      · exact .inr (.inr (.inr (.inr (.inr (.inr (.inr (.inr ⟨hmm, e⟩)))))))
      · exact .inr (.inr (.inr (.inr (.inr (.inr (.inl e))))))
      · exact .inr (.inr (.inr (.inr (.inr (.inr (.inr (.inl e)))))))
    · refine (take0n h.c tf hk hm e hr hz a0 a1).mono ?_
      rintro _ w' ⟨rfl, hc, ht, ks⟩
      have e1 : rTake P k m σ = { σ.thr k (setF (σ.Ts k) m ⟨((σ.Ts k).fs m).fn, 1, updr ((σ.Ts k).fs m).r 0 (σ.f 2)⟩) with acc := σ.acc + 1 } := by unfold rTake; rw [if_pos e, if_neg hz]
      refine ⟨rfl, by rw [e1]; exact ⟨hc, ⟨_, _, ht⟩, h.qN, h.tN, Nat.le_trans h.NS ks.size⟩, h.ka tf hk (m := m) ks fun j hj => ?_⟩
      rcases hj with e | e | e
      · exact .inl e
      · exact .inr (.inl e)
      · exact .inr (.inr (.inr (.inr (.inr (.inr (.inr (.inr ⟨hmm, e⟩)))))))
  · refine (take1 h.c tf hk hm e hr a0 a1).mono ?_
    rintro _ w' ⟨rfl, hc, ht, ks⟩
    refine ⟨rfl, by unfold rTake; rw [if_neg (by omega), if_pos e]; exact ⟨hc, ⟨_, _, ht⟩, h.qN, h.tN, Nat.le_trans h.NS ks.size⟩, h.ka tf hk (m := m) ks fun j hj => ?_⟩
    rcases hj with e | e | e
    · exact .inl e
    · exact .inr (.inl e)
    · exact .inr (.inr (.inr (.inr (.inr (.inr (.inr (.inr ⟨hmm, e⟩)))))))
  · cases hz : σ.f 2 == ((σ.Ts k).fs m).r 0 with
    | true =>
      refine (take2y h.c tf hk hm e hr (hr1 e) hz hsl a0 a1).mono ?_
      rintro _ w' ⟨rfl, hc, ht, ks⟩
      refine ⟨rfl, by unfold rTake; rw [if_neg (by omega), if_neg (by omega), if_pos e, if_pos hz]; exact ⟨hc, ⟨_, _, ht⟩, h.qN, h.tN, Nat.le_trans h.NS ks.size⟩, h.ka tf hk (m := m) ks fun j hj => ?_⟩
      rcases hj with e | e | e | e | e | e
      · exact .inl e
      · exact .inr (.inl e)
      · exact .inr (.inr (.inl e))
      · exact .inr (.inr (.inr (.inl e)))
      · exact .inr (.inr (.inr (.inr (.inl e))))
      · exact .inr (.inr (.inr (.inr (.inr (.inr (.inr (.inr ⟨hmm, e⟩)))))))
    | false =>
      refine (take2n h.c tf hk hm e hr (hr1 e) hz a0 a1).mono ?_
      rintro _ w' ⟨rfl, hc, ht, ks⟩
      refine ⟨rfl, by unfold rTake; rw [if_neg (by omega), if_neg (by omega), if_pos e, if_neg (by rw [hz]; decide)]; exact ⟨hc, ⟨_, _, ht⟩, h.qN, h.tN, Nat.le_trans h.NS ks.size⟩, h.ka tf hk (m := m) ks fun j hj => ?_⟩
      rcases hj with e | e | e
      · exact .inl e
      · exact .inr (.inl e)
      · exact .inr (.inr (.inr (.inr (.inr (.inr (.inr (.inr ⟨hmm, e⟩)))))))
  · refine (take3 h.c tf hk hm e hr hN a0 a1).mono ?_
    rintro _ w' ⟨rfl, hc, ⟨fv', ht, ho⟩, ks⟩
    refine ⟨rfl, by unfold rTake; rw [if_neg (by omega), if_neg (by omega), if_neg (by omega)]; exact ⟨hc, ⟨_, _, ht⟩, h.qN, h.tN, Nat.le_trans h.NS ks.size⟩, h.ka tf hk (m := m) ks fun j hj => ?_⟩
    rcases hj with e | e | e | e
    · exact .inl e
    · exact .inr (.inl e)
    · exact .inr (.inr (.inr (.inr (.inr (.inr (.inl e))))))
    · exact .inr (.inr (.inr (.inr (.inr (.inr (.inr (.inl e)))))))
/-! ### Do -/
set_option maxRecDepth 8000 in
set_option maxHeartbeats 2000000 in
theorem sdoT {w : World} {P : Pc} {σ σ' : Sg} (h : MM w P σ) {k m : Nat} (hk : k < P.t) (hm : (σ.Ts k).nf = m + 1) (hN : m ≤ 1000) (hfn : ((σ.Ts k).fs m).fn = 1)
    (hst : ∀ w' ps fvs, MM w' P σ → TF w' P.q P.t P.tq σ.Ts ps fvs → Calls Try.prog 87 #[.agg #[.pointer (some ⟨P.q, 0, none⟩), .pointer (some ⟨P.tq k, 0, none⟩), .pointer (some ⟨ps k m, 0, none⟩)]] w' fun x w'' => x = .returned (.tuple #[]) ∧ MM w'' P σ' ∧ KA P.B P.N w' w'') :
    Calls Try.prog 68 #[.pointer (some ⟨P.q, 0, none⟩), .int .i64 k] w fun x w' => x = .returned (.tuple #[]) ∧ MM w' P σ' ∧ KA P.B P.N w w' := by
  refine Calls.veil fun Q HQ => ?_
  obtain ⟨ps, fvs, tf⟩ := h.th
  have HH := Lib.hid h; have HT := Lib.hid tf; have HS := Lib.hid hst; have HM := Lib.hid hm; have HFN := Lib.hid hfn
  clear h tf hst hm hfn
  go_enter Try.func68, Try.ntmps68
  go_wp2_with fail
  refine (cThread_yes HH.out.c k hk).mono ?_; rintro _ w1 ⟨rfl, hb1⟩
  have HB1 := Lib.hid hb1
  clear hb1
  go_wp2_with fail
  refine (Th.ftop1 ((HT.out.below HB1.out).th k hk).a HM.out (by omega)).mono ?_; rintro _ w2 ⟨rfl, hb2⟩
  have HB2 := Lib.hid (below_on HB1.out hb2)
  clear hb2
  have hbk := (((HT.out.below HB2.out).th k hk).a.fb m (by have := HM.out; omega)).1
  obtain ⟨fb, hfb⟩ : ∃ fb, fb = ps k m := ⟨_, rfl⟩
  have HFB := Lib.hid hfb
  rw [← hfb] at hbk ⊢
  have HC := Lib.hid (show w2.cell? ⟨fb, 0, none⟩ = some (.int .i64 1) by rw [hbk.get (i := 0) (by omega)]; unfold Th.frF; rw [if_pos rfl, HFN.out])
  clear hfb hbk
  go_upto_region 4 with fail
  generalize hV : World.alloc _ _ = V
  obtain ⟨u0, hbv⟩ := Th.heapnewE hV
  obtain ⟨X, hX⟩ : ∃ X, X = w2.heap.size := ⟨_, rfl⟩
  rw [← hX] at u0 ⊢
  have x0 := Th.newcell u0 0 _ rfl; have x1 := Th.newcell u0 1 _ rfl; have x2 := Th.newcell u0 2 _ rfl
  have hbw := below_on HB2.out hbv
  have c0 : V.cell? ⟨fb, 0, none⟩ = some (.int .i64 1) := Ext.cell ⟨V, hbv⟩ HC.out
  have HBV := Lib.hid hbw
  clear hV u0 hbv hbw hX
  go_wp2_with fail
  rw [HFB.out]
  refine (HS.out V ps fvs (HH.out.below HBV.out) (HT.out.below HBV.out)).mono ?_; rintro _ w5 ⟨rfl, hm5, hk5⟩
  have HM5 := Lib.hid hm5; have HK5 := Lib.hid ((KA.of_below HBV.out : KA P.B P.N w V).trans hk5)
  clear hm5 hk5 x0 x1 x2 c0
  go_wp2_with fail
  refine bodyPost_end (v := .tuple #[]) (by simp [results, Try.results68, go_sem]) rfl ?_
  rw [HQ.out]
  exact ⟨rfl, HM5.out, HK5.out⟩
/-- A step of Take, by Do. -/
theorem sdo_take {w : World} {P : Pc} {σ : Sg} (h : MM w P σ) {k m : Nat} (hk : k < P.t) (hm : (σ.Ts k).nf = m + 1) (hfn : ((σ.Ts k).fs m).fn = 1) (hpc : 0 ≤ ((σ.Ts k).fs m).pc ∧ ((σ.Ts k).fs m).pc ≤ 3)
    (hr : 0 ≤ ((σ.Ts k).fs m).r 0 ∧ ((σ.Ts k).fs m).r 0 < 18446744073709551616) (hr1 : ((σ.Ts k).fs m).pc = 2 → 0 ≤ ((σ.Ts k).fs m).r 1 ∧ ((σ.Ts k).fs m).r 1 < 9223372036854775808) (a0 : 0 ≤ σ.acc) (a1 : σ.acc < 1000000) (hsl : σ.sl < 1000000) (hN : m ≤ 1000) :
    Calls Try.prog 68 #[.pointer (some ⟨P.q, 0, none⟩), .int .i64 k] w fun x w' => x = .returned (.tuple #[]) ∧ MM w' P (rTake P k m σ) ∧ KA P.B P.N w w' :=
  sdoT h hk hm hN hfn fun w' ps fvs hm' tf => mtake hm' tf hk hm hpc hr hr1 a0 a1 hsl hN
end Go.Proofs.Ytaaciolfgplnoaa

/- Layer 17: Take, alone. -/
namespace Go.Proofs.Ytaaciolfgplnoaa
open Go.RowKit WordM EdgeM
set_option linter.unusedVariables false
set_option linter.unusedSimpArgs false
theorem Sg.odds_one {σ : Sg} {a : Int} (h : σ.acc = a + 1) : σ.odds a = σ := by
  cases σ with | mk f acc flt H G sl steps odd Ts =>
  simp only at h
  have e : decide (1 < acc - a) = false := decide_eq_false (by omega)
  simp only [Sg.odds, e, Bool.or_false]
/-- What stands of a thread within a routine. -/
structure TkAt (σ0 σ : Sg) (k m : Nat) (F : Th.Fm) : Prop where
  nf : (σ.Ts k).nf = m + 1
  fs : (σ.Ts k).fs m = F
  oth : ∀ i, i ≠ k → σ.Ts i = σ0.Ts i
theorem setF_fs (T : Th.Td) (m : Nat) (F : Th.Fm) : (setF T m F).fs m = F := by unfold setF Th.upM; simp
theorem TkAt.set {σ0 σ σ' : Sg} {k m : Nat} {F F' : Th.Fm} (h : TkAt σ0 σ k m F) (e : σ'.Ts = fun i => if i = k then setF (σ.Ts k) m F' else σ.Ts i) : TkAt σ0 σ' k m F' := by
  refine ⟨?_, ?_, fun i hi => ?_⟩
  · rw [e]; simp only [if_true]; exact h.nf
  · rw [e]; simp only [if_true]; exact setF_fs _ _ _
  · rw [e]; simp only [if_neg hi]; exact h.oth i hi
theorem TkAt.call {σ : Sg} {k m : Nat} (hm : (σ.Ts k).nf = m) (fn : Int) (n : Nat) (R : Nat → Int) : TkAt σ (σ.thr k (Th.callT (σ.Ts k) fn n R)) k m ⟨fn, 0, fun i => if i < n then R i else 0⟩ := by
  subst hm
  refine ⟨?_, ?_, fun i hi => ?_⟩
  · unfold Sg.thr Th.callT; simp
  · unfold Sg.thr Th.callT Th.upM; simp
  · unfold Sg.thr; simp only [if_neg hi]
def tkS (P : Pc) (k m : Nat) (σ : Sg) (R : Nat → Int) : Nat → Sg
  | 0 => σ.thr k (Th.callT (σ.Ts k) 1 0 R)
  | j + 1 => rTake P k m (tkS P k m σ R j).stp
theorem rTake_acc (P : Pc) (k m : Nat) (σ : Sg) : (rTake P k m σ).acc = σ.acc + 1 := by
  unfold rTake
  split
  · split <;> rfl
  · split
    · rfl
    · split
      · split <;> rfl
      · rfl
theorem rTake_steps (P : Pc) (k m : Nat) (σ : Sg) : (rTake P k m σ).steps = σ.steps := by
  unfold rTake
  split
  · split <;> rfl
  · split
    · rfl
    · split
      · split <;> rfl
      · rfl
theorem rTake_odd (P : Pc) (k m : Nat) (σ : Sg) : (rTake P k m σ).odd = σ.odd ∧ (rTake P k m σ).G = σ.G := by
  unfold rTake
  split
  · split <;> exact ⟨rfl, rfl⟩
  · split
    · exact ⟨rfl, rfl⟩
    · split
      · split <;> exact ⟨rfl, rfl⟩
      · exact ⟨rfl, rfl⟩
section
variable {P : Pc} {k m : Nat} {σ : Sg} {R : Nat → Int}
theorem tkS_acc : ∀ j : Nat, (tkS P k m σ R j).acc = σ.acc + j ∧ (tkS P k m σ R j).steps = σ.steps + j ∧ (tkS P k m σ R j).odd = σ.odd ∧ (tkS P k m σ R j).G = σ.G
  | 0 => ⟨by show σ.acc = _; omega, by show σ.steps = _; omega, rfl, rfl⟩
  | j + 1 => by
    obtain ⟨h1, h2, h3, h4⟩ := tkS_acc j
    refine ⟨?_, ?_, ?_, ?_⟩
    · show (rTake P k m _).acc = _
      rw [rTake_acc]; show (tkS P k m σ R j).acc + 1 = _; rw [h1]; omega
    · show (rTake P k m _).steps = _
      rw [rTake_steps]; show (tkS P k m σ R j).steps + 1 = _; rw [h2]; omega
    · show (rTake P k m _).odd = _
      rw [(rTake_odd _ _ _ _).1]; exact h3
    · show (rTake P k m _).G = _
      rw [(rTake_odd _ _ _ _).2]; exact h4
variable (hm : (σ.Ts k).nf = m)
include hm
theorem tk0 : TkAt σ (tkS P k m σ R 0) k m ⟨1, 0, fun i => if i < 0 then R i else 0⟩ := TkAt.call hm 1 0 R
/-- Nothing is free. -/
theorem tk1z (hz : σ.f 2 % 4096 = 0) : tkS P k m σ R 1 = { (tkS P k m σ R 0).stp.thr k (Th.backT (setF ((tkS P k m σ R 0).Ts k) m ⟨1, 1, updr (fun i => if i < 0 then R i else 0) 0 (σ.f 2)⟩) 1 (fun _ => 0)) with acc := σ.acc + 1 } := by
  have h0 := tk0 (P := P) (R := R) hm
  show rTake P k m (tkS P k m σ R 0).stp = _
  unfold rTake
  rw [show ((tkS P k m σ R 0).stp.Ts k).fs m = _ from h0.fs, if_pos rfl, if_pos (show (tkS P k m σ R 0).stp.f 2 % 4096 = 0 from hz)]
  rfl
variable (hz : ¬ σ.f 2 % 4096 = 0)
include hz
theorem tk1 : TkAt σ (tkS P k m σ R 1) k m ⟨1, 1, updr (fun i => if i < 0 then R i else 0) 0 (σ.f 2)⟩ ∧ (tkS P k m σ R 1).f = σ.f ∧ (tkS P k m σ R 1).flt = σ.flt ∧ (tkS P k m σ R 1).H = σ.H ∧ (tkS P k m σ R 1).sl = σ.sl := by
  have h0 := tk0 (P := P) (R := R) hm
  have e : tkS P k m σ R 1 = { (tkS P k m σ R 0).stp.thr k (setF ((tkS P k m σ R 0).Ts k) m ⟨1, 1, updr (fun i => if i < 0 then R i else 0) 0 (σ.f 2)⟩) with acc := σ.acc + 1 } := by
    show rTake P k m (tkS P k m σ R 0).stp = _
    unfold rTake
    rw [show ((tkS P k m σ R 0).stp.Ts k).fs m = _ from h0.fs, if_pos rfl, if_neg (show ¬ (tkS P k m σ R 0).stp.f 2 % 4096 = 0 from hz)]
    rfl
  rw [e]
  exact ⟨h0.set rfl, rfl, rfl, rfl, rfl⟩
theorem tk2 : TkAt σ (tkS P k m σ R 2) k m ⟨1, 2, updr (updr (fun i => if i < 0 then R i else 0) 0 (σ.f 2)) 1 (P.ld σ.f (σ.f 2 % 4096) 0)⟩ ∧ (tkS P k m σ R 2).f = σ.f ∧ (tkS P k m σ R 2).flt = (σ.flt || !P.ok (σ.f 2 % 4096) 0) ∧ (tkS P k m σ R 2).H = σ.H ∧ (tkS P k m σ R 2).sl = σ.sl := by
  obtain ⟨h1, e1, e2, e3, e4⟩ := tk1 (P := P) (R := R) hm hz
  have e : tkS P k m σ R 2 = { (tkS P k m σ R 1).stp.thr k (setF ((tkS P k m σ R 1).Ts k) m ⟨1, 2, updr (updr (fun i => if i < 0 then R i else 0) 0 (σ.f 2)) 1 (P.ld (tkS P k m σ R 1).f (σ.f 2 % 4096) 0)⟩) with acc := (tkS P k m σ R 1).acc + 1, flt := (tkS P k m σ R 1).flt || !P.ok (σ.f 2 % 4096) 0 } := by
    show rTake P k m (tkS P k m σ R 1).stp = _
    unfold rTake
    rw [show ((tkS P k m σ R 1).stp.Ts k).fs m = _ from h1.fs, if_neg (show ¬ (1 : Int) = 0 by omega), if_pos rfl]
    rfl
  rw [e]
  exact ⟨by rw [e1]; exact h1.set rfl, e1, by rw [e2], e3, e4⟩
theorem tk3 : TkAt σ (tkS P k m σ R 3) k m ⟨1, 3, updr (updr (fun i => if i < 0 then R i else 0) 0 (σ.f 2)) 1 (P.ld σ.f (σ.f 2 % 4096) 0)⟩ ∧ (tkS P k m σ R 3).f = Mm.upd σ.f 2 (chgI (σ.f 2) (P.ld σ.f (σ.f 2 % 4096) 0)) ∧ (tkS P k m σ R 3).flt = (σ.flt || !P.ok (σ.f 2 % 4096) 0) ∧
    (tkS P k m σ R 3).H = Gd.takeH P.s σ.H (σ.f 2 % 4096) ∧ (tkS P k m σ R 3).sl = if Gd.canT P.s σ.H (σ.f 2 % 4096) = true then σ.sl else σ.sl + 1 := by
  obtain ⟨h1, e1, e2, e3, e4⟩ := tk2 (P := P) (R := R) hm hz
  have e : tkS P k m σ R 3 = { (tkS P k m σ R 2).stp.thr k (setF ((tkS P k m σ R 2).Ts k) m ⟨1, 3, updr (updr (fun i => if i < 0 then R i else 0) 0 (σ.f 2)) 1 (P.ld σ.f (σ.f 2 % 4096) 0)⟩) with
      acc := (tkS P k m σ R 2).acc + 1, f := Mm.upd (tkS P k m σ R 2).f 2 (chgI (σ.f 2) (P.ld σ.f (σ.f 2 % 4096) 0)), H := Gd.takeH P.s (tkS P k m σ R 2).H (σ.f 2 % 4096), sl := if Gd.canT P.s (tkS P k m σ R 2).H (σ.f 2 % 4096) = true then (tkS P k m σ R 2).sl else (tkS P k m σ R 2).sl + 1 } := by
    show rTake P k m (tkS P k m σ R 2).stp = _
    unfold rTake
    rw [show ((tkS P k m σ R 2).stp.Ts k).fs m = _ from h1.fs, if_neg (show ¬ (2 : Int) = 0 by omega), if_neg (show ¬ (2 : Int) = 1 by omega), if_pos rfl, if_pos (show ((tkS P k m σ R 2).stp.f 2 == (Th.Fm.mk 1 2 (updr (updr (fun i => if i < 0 then R i else 0) 0 (σ.f 2)) 1 (P.ld σ.f (σ.f 2 % 4096) 0))).r 0) = true from by show ((tkS P k m σ R 2).f 2 == σ.f 2) = true; rw [e1]; exact beq_self_eq_true _)]
    rfl
  rw [e]
  exact ⟨h1.set rfl, by rw [← e1], e2, by rw [← e3], by rw [← e3, ← e4]⟩
theorem tk4 : (tkS P k m σ R 4).f = Mm.upd σ.f 2 (chgI (σ.f 2) (P.ld σ.f (σ.f 2 % 4096) 0)) ∧ (tkS P k m σ R 4).flt = ((σ.flt || !P.ok (σ.f 2 % 4096) 0) || !P.ok (σ.f 2 % 4096) 1) ∧
    (tkS P k m σ R 4).H = Gd.takeH P.s σ.H (σ.f 2 % 4096) ∧ (tkS P k m σ R 4).sl = (if Gd.canT P.s σ.H (σ.f 2 % 4096) = true then σ.sl else σ.sl + 1) ∧
    ((tkS P k m σ R 4).Ts k).nf = m ∧ ((tkS P k m σ R 4).Ts k).ret = (fun i => if i < 1 then makeI (σ.f 2 % 4096) (P.ld (Mm.upd σ.f 2 (chgI (σ.f 2) (P.ld σ.f (σ.f 2 % 4096) 0))) (σ.f 2 % 4096) 1) else 0) ∧ ∀ i, i ≠ k → (tkS P k m σ R 4).Ts i = σ.Ts i := by
  obtain ⟨h1, e1, e2, e3, e4⟩ := tk3 (P := P) (R := R) hm hz
  have e : tkS P k m σ R 4 = { (tkS P k m σ R 3).stp.thr k (Th.backT ((tkS P k m σ R 3).Ts k) 1 (fun _ => makeI (σ.f 2 % 4096) (P.ld (tkS P k m σ R 3).f (σ.f 2 % 4096) 1))) with
      acc := (tkS P k m σ R 3).acc + 1, flt := (tkS P k m σ R 3).flt || !P.ok (σ.f 2 % 4096) 1 } := by
    show rTake P k m (tkS P k m σ R 3).stp = _
    unfold rTake
    rw [show ((tkS P k m σ R 3).stp.Ts k).fs m = _ from h1.fs, if_neg (show ¬ (3 : Int) = 0 by omega), if_neg (show ¬ (3 : Int) = 1 by omega), if_neg (show ¬ (3 : Int) = 2 by omega)]
    rfl
  rw [e]
  refine ⟨e1, by rw [← e2], e3, e4, ?_, ?_, fun i hi => ?_⟩
  · unfold Sg.thr Th.backT; simp only [if_true]; rw [h1.nf]; omega
  · unfold Sg.thr Th.backT; simp only [if_true]; rw [e1]
  · unfold Sg.thr; simp only [if_neg hi]; exact h1.oth i hi
end
end Go.Proofs.Ytaaciolfgplnoaa

/- Layer 17: a node's field is written. -/
namespace Go.Proofs.Ytaaciolfgplnoaa
open Go.RowKit WordM EdgeM
set_option linter.unusedVariables false
set_option linter.unusedSimpArgs false
set_option maxRecDepth 8000 in
set_option maxHeartbeats 1000000 in
theorem cwclos {w : World} {B q pl mb mg C gq gg gm : Nat} {fv : Value} {tq : Nat → Nat} {t s : Nat} {Kc : Int} {f : Nat → Int} {acc : Int} {flt : Bool} {H : Nat → Bool} {G : Nat → Int} {sl steps : Int} {odd : Bool} (h : MC w B q pl mb mg C gq gg gm fv tq t s Kc f acc flt H G sl steps odd) {bx : Nat} {b0 : Nat} {x : Int} (hb : w.cell? ⟨bx, 0, none⟩ = some (.pointer (some ⟨q, 0, none⟩))) (h0 : w.cell? ⟨b0, 0, none⟩ = some (.int .u64 x)) (a0 : 0 ≤ acc) (a1 : acc < 1000000) (x0 : 0 ≤ x) (x1 : x < 18446744073709551616) (p : Int) :
    Calls Try.prog 81 #[.int .i64 p, .pointer (some ⟨bx, 0, none⟩), .pointer (some ⟨b0, 0, none⟩)] w fun e w' => e = .returned (.tuple #[]) ∧ Mm.MemAt w' mb mg (3 + 8 * t + 7 * s) C (if Mm.okA (3 + 8 * t + 7 * s) p = true then Mm.upd f (p).toNat x else f) (acc + 1) (flt || !Mm.okA (3 + 8 * t + 7 * s) p) ∧ Mm.Only mb mg w w' := by
  refine Calls.veil fun Q HQ => ?_
  have HH := Lib.hid h; have HB := Lib.hid hb
  have HV0 := Lib.hid h0
  have HLM := Lib.hid (show ∀ y : Ext w, (Instr.loadAt 28 (.pointer (some ⟨bx, 0, none⟩))).run Try.prog y.w = .ok (.pointer (some ⟨q, 0, none⟩)) y.w from fun y => by have hc := Ext.use (Ext.cells HB.out) y.h; clear hb h0; go_simp)
  have HLB := Lib.hid (show ∀ y : Ext w, (Instr.loadAt 38 (.pointer (some ⟨q, 1, none⟩))).run Try.prog y.w = .ok (.pointer (some ⟨mb, 0, none⟩)) y.w from fun y => by have hc := (HH.out.below y.h).c1; clear hb h0; go_simp)
  have HLV0 := Lib.hid (show ∀ y : Ext w, (Instr.loadAt 22 (.pointer (some ⟨b0, 0, none⟩))).run Try.prog y.w = .ok (.int .u64 x) y.w from fun y => by have hc := Ext.use (Ext.cells HV0.out) y.h; clear hb h0; go_simp)
  clear h hb h0
  go_enter Try.func81, Try.ntmps81
  (try go_upto_region 0 with fail)
  refine Th.wp_region_K (fun w' => ∃ y : Ext w, w' = y.w) 6 (by decide +kernel) ?_
  generalize hwd : World.drew w = wd
  have hbd : Below w.heap.size w wd := by rw [← hwd]; exact (Below.refl _ _).drew
  clear hwd
  (refine Th.wpAnyK_take (i := 0) (v := .pointer (some ⟨q, 0, none⟩)) [1, 2, 3, 6] rfl (by decide +kernel) (by decide +kernel) (by decide +kernel) (by decide +kernel) (fun _ _ _ h => h) (Th.yields_loadK rfl 28 (.tmp 1) rfl rfl (by rintro _ ⟨y, rfl⟩; exact HLM.out y)) ⟨⟨wd, hbd⟩, rfl⟩ ?_)
  (try simp only [List.getElem_toArray, List.getElem_cons_succ, List.getElem_cons_zero, Act.put, List.setIfInBounds_toArray, List.set_cons_succ, List.set_cons_zero])
  (refine Th.wpAnyK_takeY (i := 1) (v := ?_) rfl (by decide +kernel) (by decide +kernel) (by decide +kernel) (by decide) (fun _ _ _ h => h) (Or.inl ⟨by rfl, ?_⟩) (.inr ⟨⟨wd, hbd⟩, rfl⟩) ?_; rotate_left; (intro w; go_simp); (try with_reducible rfl))
  (try simp only [List.getElem_toArray, List.getElem_cons_succ, List.getElem_cons_zero, Act.put, List.setIfInBounds_toArray, List.set_cons_succ, List.set_cons_zero])
  (refine Th.wpAnyK_takeY (i := 2) (v := ?_) rfl (by decide +kernel) (by decide +kernel) (by decide +kernel) (by decide) (fun _ _ _ h => h) (Or.inl ⟨by rfl, ?_⟩) (.inr ⟨⟨wd, hbd⟩, rfl⟩) ?_; rotate_left; (intro w; go_simp); (try with_reducible rfl))
  (try simp only [List.getElem_toArray, List.getElem_cons_succ, List.getElem_cons_zero, Act.put, List.setIfInBounds_toArray, List.set_cons_succ, List.set_cons_zero])
  (refine Th.wpAnyK_take (i := 3) (v := .pointer (some ⟨mb, 0, none⟩)) [6] rfl (by decide +kernel) (by decide +kernel) (by decide +kernel) (by decide +kernel) (fun _ _ _ h => h) (Th.yields_loadK rfl 38 (.tmp 6) rfl rfl (by rintro _ ⟨y, rfl⟩; exact HLB.out y)) ⟨⟨wd, hbd⟩, rfl⟩ ?_)
  (try simp only [List.getElem_toArray, List.getElem_cons_succ, List.getElem_cons_zero, Act.put, List.setIfInBounds_toArray, List.set_cons_succ, List.set_cons_zero])
  (refine Th.wpAnyK_takeY (i := 4) (v := ?_) rfl (by decide +kernel) (by decide +kernel) (by decide +kernel) (by decide) (fun _ _ _ h => h) (Or.inl ⟨by rfl, ?_⟩) (.inr ⟨⟨wd, hbd⟩, rfl⟩) ?_; rotate_left; (intro w; go_simp); (try with_reducible rfl))
  (try simp only [List.getElem_toArray, List.getElem_cons_succ, List.getElem_cons_zero, Act.put, List.setIfInBounds_toArray, List.set_cons_succ, List.set_cons_zero])
  (refine Th.wpAnyK_take (i := 5) (v := .int .u64 x) [6] rfl (by decide +kernel) (by decide +kernel) (by decide +kernel) (by decide +kernel) (fun _ _ _ h => h) (Th.yields_loadK rfl 22 (.tmp 2) rfl rfl (by rintro _ ⟨y, rfl⟩; exact HLV0.out y)) ⟨⟨wd, hbd⟩, rfl⟩ ?_)
  (try simp only [List.getElem_toArray, List.getElem_cons_succ, List.getElem_cons_zero, Act.put, List.setIfInBounds_toArray, List.set_cons_succ, List.set_cons_zero])
  (refine Th.wpAnyK_ready (rs := [6]) (by decide +kernel) (by simp) ?_; refine (Th.AllReadyK.cons rfl (fun K hK => ?_) Th.AllReadyK.nil))
  refine step_of rfl ?_
  go_step
  refine (Mm.mstore _ _ _ _ _ _ p x _ _ (HH.out.below hbd).mem a0 (by omega) x0 x1).mono ?_; rintro _ w1 ⟨rfl, hm, ho⟩
  refine hK _ _ (.inl rfl) ?_
  clear hK K
  have HM := Lib.hid hm; have HO := Lib.hid ((Mm.Only.of_below hbd).trans ho)
  clear hm ho
  refine Th.wpAnyK_done (by decide +kernel) ?_ _
  go_wp2_with fail
  refine bodyPost_end (v := .tuple #[]) (by simp [results, Try.results81, go_sem]) rfl ?_
  rw [HQ.out]
  exact ⟨rfl, HM.out, HO.out⟩
set_option maxRecDepth 8000 in
set_option maxHeartbeats 1000000 in
theorem cwreach {w : World} {B q pl mb mg C gq gg gm : Nat} {fv : Value} {tq : Nat → Nat} {t s : Nat} {Kc : Int} {f : Nat → Int} {acc : Int} {flt : Bool} {H : Nat → Bool} {G : Nat → Int} {sl steps : Int} {odd : Bool} (h : MC w B q pl mb mg C gq gg gm fv tq t s Kc f acc flt H G sl steps odd) {bx : Nat} {b0 : Nat} {x : Int} (hb : w.cell? ⟨bx, 0, none⟩ = some (.pointer (some ⟨q, 0, none⟩))) (h0 : w.cell? ⟨b0, 0, none⟩ = some (.int .u64 x)) (a0 : 0 ≤ acc) (a1 : acc < 1000000) (x0 : 0 ≤ x) (x1 : x < 18446744073709551616) (e fi : Int) (e0 : 0 ≤ e) (e1 : e < 18446744073709551616) (hl : Gd.leadsB s H G e = true) :
    Calls Try.prog 80 #[.pointer (some ⟨q, 0, none⟩), .int .u64 e, .int .i64 fi, .func (Fn.func 81) #[] #[.pointer (some ⟨bx, 0, none⟩), .pointer (some ⟨b0, 0, none⟩)]] w fun x' w' => x' = .returned (.tuple #[]) ∧ Mm.MemAt w' mb mg (3 + 8 * t + 7 * s) C (if Mm.okA (3 + 8 * t + 7 * s) (nodeI t s (e % 4096) fi) = true then Mm.upd f ((nodeI t s (e % 4096) fi)).toNat x else f) (acc + 1) (flt || !Mm.okA (3 + 8 * t + 7 * s) (nodeI t s (e % 4096) fi)) ∧ Mm.Only mb mg w w' := by
  refine Calls.veil fun Q HQ => ?_
  have HH := Lib.hid h; have HB := Lib.hid hb; have HL := Lib.hid hl
  have HV0 := Lib.hid h0
  have c2 := h.c2
  clear h hb hl h0
  go_enter Try.func80, Try.ntmps80
  go_wp2_with fail
  refine (Gd.gleads HH.out.grd e e0 e1).mono ?_; rintro _ w1 ⟨rfl, hb1⟩
  rw [HL.out]
  have HH1 := Lib.hid (HH.out.below hb1); have HB1 := Lib.hid hb1
  clear hb1 c2
  go_upto_region 3 with fail
  have HLP := Lib.hid (show ∀ y : Ext w1, (Instr.loadAt 75 (.pointer (some ⟨q, 0, none⟩))).run Try.prog y.w = .ok (.pointer (some ⟨pl, 0, none⟩)) y.w from fun y => by have hc := (HH1.out.below y.h).c0; go_simp)
  refine Th.wp_region_K (fun w' => ∃ y : Ext w1, w' = y.w) 9 (by decide +kernel) ?_
  generalize hwd : World.drew w1 = wd
  have hbd : Below w1.heap.size w1 wd := by rw [← hwd]; exact (Below.refl _ _).drew
  clear hwd
  (refine Th.wpAnyK_takeY (i := 0) (v := ?_) rfl (by decide +kernel) (by decide +kernel) (by decide +kernel) (by decide) (fun _ _ _ h => h) (Or.inl ⟨by rfl, ?_⟩) (.inr ⟨⟨wd, hbd⟩, rfl⟩) ?_; rotate_left; (intro w; go_simp); (try with_reducible rfl))
  (try simp only [List.getElem_toArray, List.getElem_cons_succ, List.getElem_cons_zero, Act.put, List.setIfInBounds_toArray, List.set_cons_succ, List.set_cons_zero])
  (refine Th.wpAnyK_takeY (i := 1) (v := ?_) rfl (by decide +kernel) (by decide +kernel) (by decide +kernel) (by decide) (fun _ _ _ h => h) (Or.inl ⟨by rfl, ?_⟩) (.inr ⟨⟨wd, hbd⟩, rfl⟩) ?_; rotate_left; (intro w; go_simp); (try with_reducible rfl))
  (try simp only [List.getElem_toArray, List.getElem_cons_succ, List.getElem_cons_zero, Act.put, List.setIfInBounds_toArray, List.set_cons_succ, List.set_cons_zero])
  (refine Th.wpAnyK_takeY (i := 2) (v := ?_) rfl (by decide +kernel) (by decide +kernel) (by decide +kernel) (by decide) (fun _ _ _ h => h) (Or.inl ⟨by rfl, ?_⟩) (.inr ⟨⟨wd, hbd⟩, rfl⟩) ?_; rotate_left; (intro w; go_simp); (try with_reducible rfl))
  (try simp only [List.getElem_toArray, List.getElem_cons_succ, List.getElem_cons_zero, Act.put, List.setIfInBounds_toArray, List.set_cons_succ, List.set_cons_zero])
  (refine Th.wpAnyK_takeY (i := 3) (v := ?_) rfl (by decide +kernel) (by decide +kernel) (by decide +kernel) (by decide) (fun _ _ _ h => h) (Or.inl ⟨by rfl, ?_⟩) (.inr ⟨⟨wd, hbd⟩, rfl⟩) ?_; rotate_left; (intro w; go_simp); (try with_reducible rfl))
  (try simp only [List.getElem_toArray, List.getElem_cons_succ, List.getElem_cons_zero, Act.put, List.setIfInBounds_toArray, List.set_cons_succ, List.set_cons_zero])
  (refine Th.wpAnyK_take (i := 4) (v := .pointer (some ⟨pl, 0, none⟩)) [8, 9] rfl (by decide +kernel) (by decide +kernel) (by decide +kernel) (by decide +kernel) (fun _ _ _ h => h) (Th.yields_loadK rfl 75 (.tmp 23) rfl rfl (by rintro _ ⟨y, rfl⟩; exact HLP.out y)) ⟨⟨wd, hbd⟩, rfl⟩ ?_)
  (try simp only [List.getElem_toArray, List.getElem_cons_succ, List.getElem_cons_zero, Act.put, List.setIfInBounds_toArray, List.set_cons_succ, List.set_cons_zero])
  (refine Th.wpAnyK_takeY (i := 5) (v := ?_) rfl (by decide +kernel) (by decide +kernel) (by decide +kernel) (by decide) (fun _ _ _ h => h) (Or.inl ⟨by rfl, ?_⟩) (.inr ⟨⟨wd, hbd⟩, rfl⟩) ?_; rotate_left; (intro w; go_simp); (try with_reducible rfl))
  (try simp only [List.getElem_toArray, List.getElem_cons_succ, List.getElem_cons_zero, Act.put, List.setIfInBounds_toArray, List.set_cons_succ, List.set_cons_zero])
  (refine Th.wpAnyK_takeY (i := 7) (v := ?_) rfl (by decide +kernel) (by decide +kernel) (by decide +kernel) (by decide) (fun _ _ _ h => h) (Or.inl ⟨by rfl, ?_⟩) (.inr ⟨⟨wd, hbd⟩, rfl⟩) ?_; rotate_left; (intro w; go_simp); (try with_reducible rfl))
  (try simp only [List.getElem_toArray, List.getElem_cons_succ, List.getElem_cons_zero, Act.put, List.setIfInBounds_toArray, List.set_cons_succ, List.set_cons_zero])
  (refine Th.wpAnyK_ready (rs := [6]) (by decide +kernel) (by simp) ?_; refine (Th.AllReadyK.cons rfl (fun K hK => ?_) Th.AllReadyK.nil))
  refine step_of rfl ?_
  go_step
  refine (eslot_calls e _ e0 e1).mono ?_; rintro _ w6 ⟨rfl, hw6⟩
  rw [← hw6]
  refine hK _ _ (.inr ⟨⟨wd, hbd⟩, rfl⟩) ?_
  clear hK K hw6
  (try simp only [List.getElem_toArray, List.getElem_cons_succ, List.getElem_cons_zero, Act.put, List.setIfInBounds_toArray, List.set_cons_succ, List.set_cons_zero])
  (refine Th.wpAnyK_ready (rs := [8]) (by decide +kernel) (by simp) ?_; refine (Th.AllReadyK.cons rfl (fun K hK => ?_) Th.AllReadyK.nil))
  refine step_of rfl ?_
  go_step
  have hbb := HH.out.bd
  refine (pnode_calls t s pl (e % 4096) fi _ (HH1.out.below hbd).p0 (HH1.out.below hbd).p1 (by omega) (by omega) (by omega) (by omega)).mono ?_; rintro _ w2 ⟨rfl, hb2⟩
  have hb2 := below_on hbd hb2
  refine hK _ _ (.inr ⟨⟨w2, hb2⟩, rfl⟩) ?_
  clear hK K hbb
  (try simp only [List.getElem_toArray, List.getElem_cons_succ, List.getElem_cons_zero, Act.put, List.setIfInBounds_toArray, List.set_cons_succ, List.set_cons_zero])
  (refine Th.wpAnyK_ready (rs := [9]) (by decide +kernel) (by simp) ?_; refine (Th.AllReadyK.cons rfl (fun K hK => ?_) Th.AllReadyK.nil))
  refine step_of rfl ?_
  have hb3 := below_on HB1.out hb2
  go_step
  refine (cwclos (HH.out.below hb3) (Ext.use (Ext.cells HB.out) hb3) (Ext.use (Ext.cells HV0.out) hb3) a0 a1 x0 x1 ((nodeI t s (e % 4096) fi))).mono ?_; rintro _ w3 ⟨rfl, hm, ho⟩
  have HF := Lib.hid (And.intro hm ((Mm.Only.of_below hb3).trans ho))
  refine hK _ _ (.inl rfl) ?_
  clear hK K hm ho
  refine Th.wpAnyK_done (by decide +kernel) ?_ _
  go_wp2_with fail
  refine bodyPost_end (v := .tuple #[]) (by simp [results, Try.results80, go_sem]) rfl ?_
  rw [HQ.out]
  exact ⟨rfl, HF.out⟩
set_option maxRecDepth 8000 in
set_option maxHeartbeats 1000000 in
theorem cwacc {w : World} {B q pl mb mg C gq gg gm : Nat} {fv : Value} {tq : Nat → Nat} {t s : Nat} {Kc : Int} {f : Nat → Int} {acc : Int} {flt : Bool} {H : Nat → Bool} {G : Nat → Int} {sl steps : Int} {odd : Bool} (h : MC w B q pl mb mg C gq gg gm fv tq t s Kc f acc flt H G sl steps odd) {x : Int} (e fi : Int) (e0 : 0 ≤ e) (e1 : e < 18446744073709551616) (hl : Gd.leadsB s H G e = true) (a0 : 0 ≤ acc) (a1 : acc < 1000000) (x0 : 0 ≤ x) (x1 : x < 18446744073709551616) :
    Calls Try.prog 61 #[.pointer (some ⟨q, 0, none⟩), .int .u64 e, .int .i64 fi, .int .u64 x] w fun x' w' => x' = .returned (.tuple #[]) ∧ MC w' B q pl mb mg C gq gg gm fv tq t s Kc (if Mm.okA (3 + 8 * t + 7 * s) (nodeI t s (e % 4096) fi) = true then Mm.upd f ((nodeI t s (e % 4096) fi)).toNat x else f) (acc + 1) (flt || !Mm.okA (3 + 8 * t + 7 * s) (nodeI t s (e % 4096) fi)) H G sl steps odd ∧ Mm.Only mb mg w w' := by
  refine Calls.veil fun Q HQ => ?_
  have HH := Lib.hid h; have HL := Lib.hid hl
  clear h hl
  go_enter Try.func61, Try.ntmps61
  go_upto_region 1 with fail
  generalize hV : World.alloc _ _ = U
  obtain ⟨u0, u1, hbu⟩ := heap2c hV
  obtain ⟨b0, hb0⟩ : ∃ z, z = w.heap.size + 1 := ⟨_, rfl⟩
  rw [← hb0] at u1 ⊢
  obtain ⟨bx, hbx⟩ : ∃ z, z = w.heap.size := ⟨_, rfl⟩
  rw [← hbx] at u0 ⊢
  have HU := Lib.hid (HH.out.below hbu); have HBU := Lib.hid hbu
  have bc := Th.newcell u0 0 _ rfl
  have v0 := Th.newcell u1 0 _ rfl
  have HBC := Lib.hid bc
  have HV0 := Lib.hid v0
  clear hV hbu u0 u1 hbx hb0 v0
  go_wp2_with fail
  clear bc
  refine (cwreach HU.out HBC.out HV0.out a0 a1 x0 x1 e fi e0 e1 HL.out).mono ?_; rintro _ w2 ⟨rfl, hm, ho⟩
  have HM := Lib.hid hm; have HO := Lib.hid ((Mm.Only.of_below HBU.out).trans ho)
  clear hm ho
  go_wp2_with fail
  refine bodyPost_end (v := .tuple #[]) (by simp [results, Try.results61, go_sem]) rfl ?_
  rw [HQ.out]
  exact ⟨rfl, HH.out.only HO.out HM.out, HO.out⟩
end Go.Proofs.Ytaaciolfgplnoaa
