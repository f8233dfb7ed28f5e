/- Layer 16: accesses to a node that is held. -/
import Derived.Test.YtkkdehniheajeaaCorQ
import Derived.Test.YtkkdehniheajeaaCorK
namespace Go.Proofs.Ytkkdehniheajeaa
open Go.RowKit WordM EdgeM
set_option linter.unusedVariables false
set_option linter.unusedSimpArgs false
theorem okP {n P : Nat} (h : P < n) : Mm.okA n (P : Int) = true := by unfold Mm.okA; exact decide_eq_true (by omega)
theorem a_write {w : World} {B q pl mb mg C gq gg gm : Nat} {fv : Value} {tq : Nat → Nat} {t s : Nat} {Kc : Int} {f : Nat → Int} {acc : Int} {H : Nat → Bool} {G : Nat → Int} {sl steps : Int} {odd : Bool} (h : MI w B q pl mb mg C gq gg gm fv tq t s Kc f acc false H G sl steps odd) {x : Int} (e fi : Int) (e0 : 0 ≤ e) (e1 : e < 18446744073709551616) (hl : Gd.leadsB s H G e = true) (a0 : 0 ≤ acc) (a1 : acc < 1000000) (x0 : 0 ≤ x) (x1 : x < 18446744073709551616) {P : Nat} (hp : nodeI t s (e % 4096) fi = (P : Int)) (hP : P < 3 + 8 * t + 7 * s) :
    Calls Try.prog 35 #[.pointer (some ⟨q, 0, none⟩), .int .u64 e, .int .i64 fi, .int .u64 x] w fun x' w' => x' = .returned (.tuple #[]) ∧ MI w' B q pl mb mg C gq gg gm fv tq t s Kc (Mm.upd f P x) (acc + 1) false H G sl steps odd ∧ Mm.Only mb mg w w' := by
  refine (wacc h e fi e0 e1 hl a0 a1 x0 x1).mono ?_
  rintro e' w' ⟨rfl, hm, ho⟩
  have hok := okP hP
  have hok0 : Mm.okA (3 + 8 * t + 7 * s) 0 = true := okP (P := 0) (by omega)
  rw [hp] at hm
  simp only [Mm.ldI, hok, hok0, Int.toNat_natCast, Int.toNat_zero, if_true, Bool.not_true, Bool.or_false, Bool.true_and, Bool.and_self] at hm
  exact ⟨rfl, hm, ho⟩
theorem a_read {w : World} {B q pl mb mg C gq gg gm : Nat} {fv : Value} {tq : Nat → Nat} {t s : Nat} {Kc : Int} {f : Nat → Int} {acc : Int} {H : Nat → Bool} {G : Nat → Int} {sl steps : Int} {odd : Bool} (h : MI w B q pl mb mg C gq gg gm fv tq t s Kc f acc false H G sl steps odd) (e fi : Int) (e0 : 0 ≤ e) (e1 : e < 18446744073709551616) (hl : Gd.leadsB s H G e = true) (a0 : 0 ≤ acc) (a1 : acc < 1000000) {P : Nat} (hp : nodeI t s (e % 4096) fi = (P : Int)) (hP : P < 3 + 8 * t + 7 * s) :
    Calls Try.prog 36 #[.pointer (some ⟨q, 0, none⟩), .int .u64 e, .int .i64 fi] w fun x' w' => x' = .returned (.int .u64 (f P)) ∧ MI w' B q pl mb mg C gq gg gm fv tq t s Kc (f) (acc + 1) false H G sl steps odd ∧ Mm.Only mb mg w w' := by
  refine (rread h e fi e0 e1 hl a0 a1).mono ?_
  rintro e' w' ⟨rfl, hm, ho⟩
  have hok := okP hP
  have hok0 : Mm.okA (3 + 8 * t + 7 * s) 0 = true := okP (P := 0) (by omega)
  rw [hp] at hm ⊢
  simp only [Mm.ldI, hok, hok0, Int.toNat_natCast, Int.toNat_zero, if_true, Bool.not_true, Bool.or_false, Bool.true_and, Bool.and_self] at hm ⊢
  exact ⟨trivial, hm, ho⟩
theorem a_swap {w : World} {B q pl mb mg C gq gg gm : Nat} {fv : Value} {tq : Nat → Nat} {t s : Nat} {Kc : Int} {f : Nat → Int} {acc : Int} {H : Nat → Bool} {G : Nat → Int} {sl steps : Int} {odd : Bool} (h : MI w B q pl mb mg C gq gg gm fv tq t s Kc f acc false H G sl steps odd) {old x : Int} (e fi : Int) (e0 : 0 ≤ e) (e1 : e < 18446744073709551616) (hl : Gd.leadsB s H G e = true) (a0 : 0 ≤ acc) (a1 : acc < 1000000) (x0 : 0 ≤ x) (x1 : x < 18446744073709551616) {P : Nat} (hp : nodeI t s (e % 4096) fi = (P : Int)) (hP : P < 3 + 8 * t + 7 * s) :
    Calls Try.prog 37 #[.pointer (some ⟨q, 0, none⟩), .int .u64 e, .int .i64 fi, .int .u64 old, .int .u64 x] w fun x' w' => x' = .returned (.bool (f P == old)) ∧ MI w' B q pl mb mg C gq gg gm fv tq t s Kc (if (f P == old) = true then Mm.upd f P x else f) (acc + 1) false H G sl steps odd ∧ Mm.Only mb mg w w' := by
  refine (sacc h e fi e0 e1 hl a0 a1 x0 x1).mono ?_
  rintro e' w' ⟨rfl, hm, ho⟩
  have hok := okP hP
  have hok0 : Mm.okA (3 + 8 * t + 7 * s) 0 = true := okP (P := 0) (by omega)
  rw [hp] at hm ⊢
  simp only [Mm.ldI, hok, hok0, Int.toNat_natCast, Int.toNat_zero, if_true, Bool.not_true, Bool.or_false, Bool.true_and, Bool.and_self] at hm ⊢
  exact ⟨trivial, hm, ho⟩
theorem a_mark {w : World} {B q pl mb mg C gq gg gm : Nat} {fv : Value} {tq : Nat → Nat} {t s : Nat} {Kc : Int} {f : Nat → Int} {acc : Int} {H : Nat → Bool} {G : Nat → Int} {sl steps : Int} {odd : Bool} (h : MI w B q pl mb mg C gq gg gm fv tq t s Kc f acc false H G sl steps odd) {x : Int} (e fi : Int) (e0 : 0 ≤ e) (e1 : e < 18446744073709551616) (hl : Gd.leadsB s H G e = true) (a0 : 0 ≤ acc) (a1 : acc < 1000000) (x0 : 0 ≤ x) (x1 : x < 18446744073709551616) {P : Nat} (hp : nodeI t s (e % 4096) fi = (P : Int)) (hP : P < 3 + 8 * t + 7 * s) :
    Calls Try.prog 39 #[.pointer (some ⟨q, 0, none⟩), .int .u64 e, .int .i64 fi, .int .u64 x] w fun x' w' => x' = .returned (.int .u64 (f P)) ∧ MI w' B q pl mb mg C gq gg gm fv tq t s Kc (Mm.upd f P (Mm.orI (f P) x)) (acc + 1) false H G sl steps odd ∧ Mm.Only mb mg w w' := by
  refine (macc h e fi e0 e1 hl a0 a1 x0 x1).mono ?_
  rintro e' w' ⟨rfl, hm, ho⟩
  have hok := okP hP
  have hok0 : Mm.okA (3 + 8 * t + 7 * s) 0 = true := okP (P := 0) (by omega)
  rw [hp] at hm ⊢
  simp only [Mm.ldI, hok, hok0, Int.toNat_natCast, Int.toNat_zero, if_true, Bool.not_true, Bool.or_false, Bool.true_and, Bool.and_self] at hm ⊢
  exact ⟨trivial, hm, ho⟩
theorem a_decide {w : World} {B q pl mb mg C gq gg gm : Nat} {fv : Value} {tq : Nat → Nat} {t s : Nat} {Kc : Int} {f : Nat → Int} {acc : Int} {H : Nat → Bool} {G : Nat → Int} {sl steps : Int} {odd : Bool} (h : MI w B q pl mb mg C gq gg gm fv tq t s Kc f acc false H G sl steps odd) {tm old x : Int} (e fi : Int) (e0 : 0 ≤ e) (e1 : e < 18446744073709551616) (hl : Gd.leadsB s H G e = true) (a0 : 0 ≤ acc) (a1 : acc < 1000000) (x0 : 0 ≤ x) (x1 : x < 18446744073709551616) {P : Nat} (hp : nodeI t s (e % 4096) fi = (P : Int)) (hP : P < 3 + 8 * t + 7 * s) :
    Calls Try.prog 38 #[.pointer (some ⟨q, 0, none⟩), .int .u64 tm, .int .u64 e, .int .i64 fi, .int .u64 old, .int .u64 x] w fun x' w' => x' = .returned (.bool (f 0 == tm && f P == old)) ∧ MI w' B q pl mb mg C gq gg gm fv tq t s Kc (if (f 0 == tm && f P == old) = true then Mm.upd f P x else f) (acc + 1) false H G sl steps odd ∧ Mm.Only mb mg w w' := by
  refine (dacc h e fi e0 e1 hl a0 a1 x0 x1).mono ?_
  rintro e' w' ⟨rfl, hm, ho⟩
  have hok := okP hP
  have hok0 : Mm.okA (3 + 8 * t + 7 * s) 0 = true := okP (P := 0) (by omega)
  rw [hp] at hm ⊢
  simp only [Mm.ldI, hok, hok0, Int.toNat_natCast, Int.toNat_zero, if_true, Bool.not_true, Bool.or_false, Bool.true_and, Bool.and_self] at hm ⊢
  exact ⟨trivial, hm, ho⟩
theorem upd_at (f : Nat → Int) (P : Nat) (x : Int) : Mm.upd f P x P = x := by unfold Mm.upd; rw [if_pos rfl]
theorem upd_0 (f : Nat → Int) {P : Nat} (h : P ≠ 0) (x : Int) : Mm.upd f P x 0 = f 0 := by unfold Mm.upd; rw [if_neg (Ne.symm h)]
theorem only_below {W w w' : World} {a b : Nat} (h : Below W.heap.size W w) (k : Mm.Only a b w w') (ha : W.heap.size ≤ a) (hb : W.heap.size ≤ b) : Below W.heap.size W w' :=
  ⟨k.os.trans h.os, k.tape.trans h.tape, k.output.trans h.output, Nat.le_trans h.size k.size, fun j hj => (k.block j (Nat.lt_of_lt_of_le hj h.size) (by omega) (by omega)).trans (h.block j hj)⟩
set_option maxRecDepth 16000 in
set_option maxHeartbeats 8000000 in
theorem coreHolds_walk (v0 v1 v2 : Value) (w : World) (s0 : Fr.okN w [.int .i64, .int .i64, .int .u64] v0) (s1 : Fr.okN w [.int .i64, .int .i64, .int .u64, .int .u64, .int .u64, .int .u64] v1) (s2 : Fr.ok1 w (.int .u64) v2) :
    Calls Try.prog 6 #[v0, v1, v2] w fun e w' => e = .returned (.bool true) ∧ Below w.heap.size w w' := by
  obtain ⟨cs, rfl, h⟩ := s0
  obtain ⟨_, _, rfl, k0, h⟩ := Fr.get_cons h
  obtain ⟨_, _, rfl, k1, h⟩ := Fr.get_cons h
  obtain ⟨_, _, rfl, k2, h⟩ := Fr.get_cons h
  obtain rfl := Fr.get_nil h
  obtain ⟨T, rfl, _⟩ := Fr.get_int k0
  obtain ⟨S, rfl, _⟩ := Fr.get_int k1
  obtain ⟨Kc, rfl, _⟩ := Fr.get_int k2
  clear h k0 k1 k2
  obtain ⟨cs, rfl, h⟩ := s1
  obtain ⟨_, _, rfl, k0, h⟩ := Fr.get_cons h
  obtain ⟨_, _, rfl, k1, h⟩ := Fr.get_cons h
  obtain ⟨_, _, rfl, k2, h⟩ := Fr.get_cons h
  obtain ⟨_, _, rfl, k3, h⟩ := Fr.get_cons h
  obtain ⟨_, _, rfl, k4, h⟩ := Fr.get_cons h
  obtain ⟨_, _, rfl, k5, h⟩ := Fr.get_cons h
  obtain rfl := Fr.get_nil h
  obtain ⟨k, rfl, _⟩ := Fr.get_int k0
  obtain ⟨fi, rfl, _⟩ := Fr.get_int k1
  obtain ⟨e, rfl, we⟩ := Fr.get_int k2
  obtain ⟨tm, rfl, _⟩ := Fr.get_int k3
  obtain ⟨old, rfl, _⟩ := Fr.get_int k4
  obtain ⟨x, rfl, _⟩ := Fr.get_int k5
  obtain ⟨vw, rfl, wv⟩ := Fr.get_int s2
  obtain ⟨e0, e1⟩ := Mm.wfu64m we
  obtain ⟨x0, x1⟩ := Mm.wfu64m wv
  clear h k0 k1 k2 k3 k4 k5 we wv s2
  show Calls Try.prog _ #[.agg #[.int .i64 T, .int .i64 S, .int .u64 Kc], .agg #[.int .i64 k, .int .i64 fi, .int .u64 e, .int .u64 tm, .int .u64 old, .int .u64 x], _] w _
  refine Calls.veil fun Q HQ => ?_
  go_enter Try.func6, Try.ntmps6
  go_upto_region 1 with fail
  generalize hV : World.alloc _ _ = U
  obtain ⟨u0, u1, hbu⟩ := heap2c hV
  obtain ⟨ob, hob⟩ : ∃ z, z = w.heap.size + 1 := ⟨_, rfl⟩
  obtain ⟨cb, hcb⟩ : ∃ z, z = w.heap.size := ⟨_, rfl⟩
  rw [← hob] at u1 ⊢
  rw [← hcb] at u0 ⊢
  have HOB := Lib.hid u1; have HBU := Lib.hid hbu; have HOU := Lib.hid (Th.blk_lt u1)
  have o0 := Th.newcell u0 0 _ rfl; have o1 := Th.newcell u0 1 _ rfl; have o2 := Th.newcell u0 2 _ rfl
  clear hV u0 u1 hbu hob hcb
  cases hmay : mayC T S Kc with
  | false =>
    have HM := Lib.hid hmay
    clear hmay
    go_wp2_with fail
    refine (cnew_no _ _ _ _ HM.out).mono ?_; rintro _ w10 ⟨rfl, hb⟩
    have HB10 := Lib.hid (below_on HBU.out hb)
    clear hb o0 o1 o2
    go_wp2_with fail
    refine (lives16_calls _).mono ?_; rintro _ w12 ⟨rfl, hb⟩
    go_wp2_with fail
    (try go_ret)
    rw [HQ.out]
    exact ⟨rfl, below_on HB10.out hb⟩
  | true =>
    have hm := mayC_true hmay
    obtain ⟨t, rfl⟩ : ∃ t : Nat, T = t := ⟨T.toNat, by omega⟩
    obtain ⟨s, rfl⟩ : ∃ s : Nat, S = s := ⟨S.toNat, by omega⟩
    have HM := Lib.hid hmay
    have HBD := Lib.hid (show (1 ≤ t ∧ t ≤ 6) ∧ (7 ≤ s ∧ s ≤ 250) by omega)
    clear hmay hm
    go_wp2_with fail
    refine (cnew _ HM.out).mono ?_; rintro _ w1 ⟨q, pl, mb, mg, C, gq, gg, gm, fv, tq, rfl, hmi, hb⟩
    have HMI := Lib.hid hmi; have HOB1 := Lib.hid (Th.up hb HOB.out); have HB1 := Lib.hid (below_on HBU.out hb)
    have HUL := Lib.hid (show w.heap.size ≤ U.heap.size from HBU.out.size)
    clear hb hmi o0 o1 o2 HOB
    go_wp2_with fail
    refine (gMem HMI.out).mono ?_; rintro _ _ ⟨rfl, rfl⟩
    go_wp2_with fail
    refine (Mm.mwords _ _ _ _ _ _ _ _ HMI.out.mem).mono ?_; rintro _ w2 ⟨gw, Cw, rfl, c1, c2, c3, hr, hb⟩
    have HMI2 := Lib.hid (HMI.out.below hb); have HOB2 := Lib.hid (Th.up hb HOB1.out); have HB2 := Lib.hid (below_on HB1.out hb); have HW := Lib.hid hr
    have HGW := Lib.hid (show q < gw ∧ mb < gw ∧ mg < gw from by have h1 := Th.blk_lt HMI.out.blk; have h2 := HMI.out.o3; have h3 := HMI.out.o4; have h4 := HMI.out.o5; omega)
    clear hb hr HMI HOB1 HB1
    have p1 := Th.newcell HOB2.out 1 _ rfl; have p2 := Th.newcell HOB2.out 2 _ rfl
    go_wp2_with fail
    refine (gGuard HMI2.out).mono ?_; rintro _ _ ⟨rfl, rfl⟩
    go_wp2_with fail
    refine (Gd.gleads HMI2.out.grd e e0 e1).mono ?_; rintro _ w3 ⟨rfl, hb⟩
    have HMI3 := Lib.hid (HMI2.out.below hb); have HOB3 := Lib.hid (Th.up hb HOB2.out); have HB3 := Lib.hid (below_on HB2.out hb); have HW3 := Lib.hid (HW.out.below hb)
    clear hb HMI2 HOB2 HB2 HW p1 p2
    cases hl : Gd.leadsB s (fun i => decide (i < 5)) (fun _ => 0) e with
    | false =>
      have HL := Lib.hid hl
      clear hl
      have p0 := Th.newcell HOB3.out 0 _ rfl; have p1 := Th.newcell HOB3.out 1 _ rfl; have p2 := Th.newcell HOB3.out 2 _ rfl; have p3 := Th.newcell HOB3.out 3 _ rfl; have p4 := Th.newcell HOB3.out 4 _ rfl; have p5 := Th.newcell HOB3.out 5 _ rfl
      go_wp2_with fail
      refine (do_no HMI3.out k fi e tm old x e0 e1 HL.out).mono ?_; rintro _ w4 ⟨rfl, hm4, ho4⟩
      have HMI4 := Lib.hid hm4
      have HB4 := Lib.hid (only_below HB3.out ho4 (by have := hm4.o1; have := hm4.o2; have := hm4.o3; have := hm4.o5; have := HUL.out; omega) (by have := hm4.o1; have := hm4.o2; have := hm4.o3; have := hm4.o5; have := HUL.out; omega))
      have HW4 := Lib.hid (HW3.out.only ho4 (by have := HGW.out; omega) (by have := HGW.out; omega))
      clear hm4 ho4 p0 p1 p2 p3 p4 p5 HMI3 HOB3 HB3 HW3
      go_wp2_with fail
      refine (gFault1 HMI4.out).mono ?_; rintro _ w5 ⟨rfl, hb⟩
      have HMI5 := Lib.hid (HMI4.out.below hb); have HB5 := Lib.hid (below_on HB4.out hb); have HW5 := Lib.hid (HW4.out.below hb)
      clear hb HMI4 HB4 HW4
      go_wp2_with fail
      refine (gMem HMI5.out).mono ?_; rintro _ _ ⟨rfl, rfl⟩
      go_wp2_with fail
      refine (Mm.mwords _ _ _ _ _ _ _ _ HMI5.out.mem).mono ?_; rintro _ w6 ⟨g2, C2, rfl, d1, d2, d3, hr, hb⟩
      have HMI6 := Lib.hid (HMI5.out.below hb); have HB6 := Lib.hid (below_on HB5.out hb); have HW6 := Lib.hid (HW5.out.below hb); have HR6 := Lib.hid hr
      clear hb hr HMI5 HB5 HW5
      go_wp2_with fail
      refine (lwords _ _ _ _ _ _ _ (by have := HBD.out; omega) d2 c2 d3 c3 HR6.out.row HW6.out.row).mono ?_; rintro _ w7 ⟨rfl, hb⟩
      have HMI7 := Lib.hid (HMI6.out.below hb); have HB7 := Lib.hid (below_on HB6.out hb)
      clear hb HMI6 HB6
      go_wp2_with fail
      refine (gMem HMI7.out).mono ?_; rintro _ _ ⟨rfl, rfl⟩
      go_wp2_with fail
      refine (Mm.maccs _ _ _ _ _ _ _ _ HMI7.out.mem).mono ?_; rintro _ _ ⟨rfl, rfl⟩
      go_wp2_with fail
      refine (lives16_calls _).mono ?_; rintro _ w8 ⟨rfl, hb⟩
      go_wp2_with fail
      (try go_ret)
      rw [HQ.out]
      exact ⟨by simp, below_on HB7.out hb⟩
    | true =>
      have HL := Lib.hid hl
      have hsl : 1 ≤ e % 4096 ∧ e % 4096 ≤ s := by
        unfold Gd.leadsB at hl
        simp only [Bool.and_eq_true, decide_eq_true_eq] at hl
        exact hl.1
      have HSL := Lib.hid hsl
      have HOL := Lib.hid (show ob < mb ∧ ob < mg ∧ U.heap.size ≤ mb ∧ U.heap.size ≤ mg from by have h1 := HMI3.out.o1; have h2 := HMI3.out.o2; have h3 := HBU.out.size; have h4 : ob < U.heap.size := HOU.out; omega)
      clear hl hsl
      have p1 := Th.newcell HOB3.out 1 _ rfl
      rcases (by omega : (fi < 0) ∨ (¬ fi < 0 ∧ 6 < fi) ∨ (¬ fi < 0 ∧ ¬ 6 < fi)) with h1 | ⟨h1, h2⟩ | ⟨h1, h2⟩
      iterate 2
        case _ =>
          go_wp2_with fail
          refine (lives16_calls _).mono ?_; rintro _ w8 ⟨rfl, hb⟩
          go_wp2_with fail
          (try go_ret)
          rw [HQ.out]
          exact ⟨rfl, below_on HB3.out hb⟩
      obtain ⟨P, hPd⟩ : ∃ P : Nat, P = 3 + 8 * t + 7 * ((e % 4096).toNat - 1) + fi.toNat := ⟨_, rfl⟩
      have HP := Lib.hid (show nodeI t s (e % 4096) fi = (P : Int) ∧ P < 3 + 8 * t + 7 * s ∧ P ≠ 0 from by
        have h := HSL.out; have hb := HBD.out
        refine ⟨?_, by omega, by omega⟩
        unfold nodeI; rw [if_pos (by omega)]; omega)
      obtain ⟨F0, hF0⟩ : ∃ F0, F0 = partF t 3 s := ⟨_, rfl⟩
      have HF0 := Lib.hid (show F0 0 = 1 from by rw [hF0]; rfl)
      rw [← hF0] at HMI3
      clear hPd hF0
      go_wp2_with fail
      clear h1 h2 p1
      obtain ⟨v1, hv1⟩ : ∃ v1, v1 = IntKind.u64.wrap (vw + 1) := ⟨_, rfl⟩
      have HV := Lib.hid (show (0 ≤ v1 ∧ v1 < 18446744073709551616) ∧ vw ≠ v1 from by rw [hv1, IntKind.wrap_u64]; omega)
      have HVE := Lib.hid hv1
      clear hv1
      refine (a_write HMI3.out e fi e0 e1 HL.out (by omega) (by omega) x0 x1 HP.out.1 HP.out.2.1).mono ?_; rintro _ w4 ⟨rfl, hm, ho⟩
      obtain ⟨F1, hF⟩ : ∃ F, F = Mm.upd F0 P vw := ⟨_, rfl⟩
      rw [← hF] at hm
      have HA1 := Lib.hid (show F1 P = vw ∧ F1 0 = 1 from by rw [hF]; exact ⟨upd_at _ _ _, (upd_0 _ HP.out.2.2 _).trans HF0.out⟩)
      clear hF
      have HMI4 := Lib.hid hm; have HB4 := Lib.hid (only_below HB3.out ho (Nat.le_trans HUL.out HOL.out.2.2.1) (Nat.le_trans HUL.out HOL.out.2.2.2)); have HOB4 := Lib.hid ((ho.block ob (Th.blk_lt HOB3.out) (by have := HOL.out; omega) (by have := HOL.out; omega)).trans HOB3.out)
      clear hm ho HMI3 HB3 HOB3
      have p1 := Th.newcell HOB4.out 1 _ rfl
      go_wp2_with fail
      clear p1
      refine (a_read HMI4.out e fi e0 e1 HL.out (by omega) (by omega) HP.out.1 HP.out.2.1).mono ?_; rintro _ w5 ⟨rfl, hm, ho⟩
      rw [HA1.out.1]
      have HMI5 := Lib.hid hm; have HB5 := Lib.hid (only_below HB4.out ho (Nat.le_trans HUL.out HOL.out.2.2.1) (Nat.le_trans HUL.out HOL.out.2.2.2)); have HOB5 := Lib.hid ((ho.block ob (Th.blk_lt HOB4.out) (by have := HOL.out; omega) (by have := HOL.out; omega)).trans HOB4.out)
      clear hm ho HMI4 HB4 HOB4
      have p1 := Th.newcell HOB5.out 1 _ rfl
      go_wp2_with fail
      clear p1
      rw [← HVE.out]
      refine (a_swap HMI5.out e fi e0 e1 HL.out (by omega) (by omega) (by omega) (by omega) HP.out.1 HP.out.2.1).mono ?_; rintro _ w6 ⟨rfl, hm, ho⟩
      have h6 : (F1 P == v1) = false := by rw [HA1.out.1]; exact beq_false_of_ne HV.out.2
      rw [h6] at hm ⊢
      rw [if_neg (by decide)] at hm
      clear h6
      have HMI6 := Lib.hid hm; have HB6 := Lib.hid (only_below HB5.out ho (Nat.le_trans HUL.out HOL.out.2.2.1) (Nat.le_trans HUL.out HOL.out.2.2.2)); have HOB6 := Lib.hid ((ho.block ob (Th.blk_lt HOB5.out) (by have := HOL.out; omega) (by have := HOL.out; omega)).trans HOB5.out)
      clear hm ho HMI5 HB5 HOB5
      have p1 := Th.newcell HOB6.out 1 _ rfl
      go_wp2_with fail
      clear p1
      rw [← HVE.out]
      refine (a_swap HMI6.out e fi e0 e1 HL.out (by omega) (by omega) HV.out.1.1 HV.out.1.2 HP.out.1 HP.out.2.1).mono ?_; rintro _ w7 ⟨rfl, hm, ho⟩
      have h6 : (F1 P == vw) = true := by rw [HA1.out.1]; exact beq_self_eq_true _
      rw [h6] at hm ⊢
      rw [if_pos rfl] at hm
      clear h6
      obtain ⟨F2, hF⟩ : ∃ F, F = Mm.upd F1 P v1 := ⟨_, rfl⟩
      rw [← hF] at hm
      have HA2 := Lib.hid (show F2 P = v1 ∧ F2 0 = 1 from by rw [hF]; exact ⟨upd_at _ _ _, (upd_0 _ HP.out.2.2 _).trans HA1.out.2⟩)
      clear hF
      have HMI7 := Lib.hid hm; have HB7 := Lib.hid (only_below HB6.out ho (Nat.le_trans HUL.out HOL.out.2.2.1) (Nat.le_trans HUL.out HOL.out.2.2.2)); have HOB7 := Lib.hid ((ho.block ob (Th.blk_lt HOB6.out) (by have := HOL.out; omega) (by have := HOL.out; omega)).trans HOB6.out)
      clear hm ho HMI6 HB6 HOB6
      have p1 := Th.newcell HOB7.out 1 _ rfl
      go_wp2_with fail
      clear p1
      rw [← HVE.out]
      refine (a_decide HMI7.out e fi e0 e1 HL.out (by omega) (by omega) (by omega) (by omega) HP.out.1 HP.out.2.1).mono ?_; rintro _ w8 ⟨rfl, hm, ho⟩
      have h6 : (F2 0 == 0 && F2 P == v1) = false := by rw [HA2.out.2]; rfl
      rw [h6] at hm ⊢
      rw [if_neg (by decide)] at hm
      clear h6
      have HMI8 := Lib.hid hm; have HB8 := Lib.hid (only_below HB7.out ho (Nat.le_trans HUL.out HOL.out.2.2.1) (Nat.le_trans HUL.out HOL.out.2.2.2)); have HOB8 := Lib.hid ((ho.block ob (Th.blk_lt HOB7.out) (by have := HOL.out; omega) (by have := HOL.out; omega)).trans HOB7.out)
      clear hm ho HMI7 HB7 HOB7
      have p1 := Th.newcell HOB8.out 1 _ rfl
      go_wp2_with fail
      clear p1
      rw [← HVE.out]
      refine (a_decide HMI8.out e fi e0 e1 HL.out (by omega) (by omega) (by omega) (by omega) HP.out.1 HP.out.2.1).mono ?_; rintro _ w9 ⟨rfl, hm, ho⟩
      have h6 : (F2 0 == 1 && F2 P == v1) = true := by rw [HA2.out.1, HA2.out.2]; simp
      rw [h6] at hm ⊢
      rw [if_pos rfl] at hm
      clear h6
      obtain ⟨F3, hF⟩ : ∃ F, F = Mm.upd F2 P 5 := ⟨_, rfl⟩
      rw [← hF] at hm
      have HA3 := Lib.hid (show F3 P = 5 ∧ F3 0 = 1 from by rw [hF]; exact ⟨upd_at _ _ _, (upd_0 _ HP.out.2.2 _).trans HA2.out.2⟩)
      clear hF
      have HMI9 := Lib.hid hm; have HB9 := Lib.hid (only_below HB8.out ho (Nat.le_trans HUL.out HOL.out.2.2.1) (Nat.le_trans HUL.out HOL.out.2.2.2)); have HOB9 := Lib.hid ((ho.block ob (Th.blk_lt HOB8.out) (by have := HOL.out; omega) (by have := HOL.out; omega)).trans HOB8.out)
      clear hm ho HMI8 HB8 HOB8
      have p1 := Th.newcell HOB9.out 1 _ rfl
      go_wp2_with fail
      clear p1
      refine (a_mark HMI9.out e fi e0 e1 HL.out (by omega) (by omega) (by omega) (by omega) HP.out.1 HP.out.2.1).mono ?_; rintro _ w10 ⟨rfl, hm, ho⟩
      rw [HA3.out.1] at hm ⊢
      obtain ⟨F4, hF⟩ : ∃ F, F = Mm.upd F3 P (Mm.orI 5 2) := ⟨_, rfl⟩
      rw [← hF] at hm
      have HA4 := Lib.hid (show F4 P = 7 ∧ F4 0 = 1 from by rw [hF]; exact ⟨(upd_at _ _ _).trans (by decide), (upd_0 _ HP.out.2.2 _).trans HA3.out.2⟩)
      clear hF
      have HMI10 := Lib.hid hm; have HB10 := Lib.hid (only_below HB9.out ho (Nat.le_trans HUL.out HOL.out.2.2.1) (Nat.le_trans HUL.out HOL.out.2.2.2)); have HOB10 := Lib.hid ((ho.block ob (Th.blk_lt HOB9.out) (by have := HOL.out; omega) (by have := HOL.out; omega)).trans HOB9.out)
      clear hm ho HMI9 HB9 HOB9
      have p1 := Th.newcell HOB10.out 1 _ rfl
      go_wp2_with fail
      clear p1
      refine (a_read HMI10.out e fi e0 e1 HL.out (by omega) (by omega) HP.out.1 HP.out.2.1).mono ?_; rintro _ w11 ⟨rfl, hm, ho⟩
      rw [HA4.out.1]
      have HMI11 := Lib.hid hm; have HB11 := Lib.hid (only_below HB10.out ho (Nat.le_trans HUL.out HOL.out.2.2.1) (Nat.le_trans HUL.out HOL.out.2.2.2)); have HOB11 := Lib.hid ((ho.block ob (Th.blk_lt HOB10.out) (by have := HOL.out; omega) (by have := HOL.out; omega)).trans HOB10.out)
      clear hm ho HMI10 HB10 HOB10
      have p1 := Th.newcell HOB11.out 1 _ rfl
      go_wp2_with fail
      clear p1
      refine (gFault0 HMI11.out).mono ?_; rintro _ w12 ⟨rfl, hb⟩
      have HB12 := Lib.hid (below_on HB11.out hb)
      clear hb
      go_wp2_with fail
      refine (lives16_calls _).mono ?_; rintro _ w13 ⟨rfl, hb⟩
      go_wp2_with fail
      (try go_ret)
      rw [HQ.out]
      exact ⟨by simp, below_on HB12.out hb⟩
end Go.Proofs.Ytkkdehniheajeaa
