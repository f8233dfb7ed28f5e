/- Layer 6: an access, of both. -/
import Derived.Test.YtdfkpkjbfhjglaaMemB
namespace Go.Proofs.Ytdfkpkjbfhjglaa
open Go.RowKit
set_option linter.unusedVariables false
set_option linter.unusedSimpArgs false

def okD (n : Nat) (k a c : Int) : Bool := if 0 ≤ k ∧ k ≤ 4 then okA n a else okA n c && okA n a
def toldD (n : Nat) (f : Nat → Int) (k a : Int) : Int := if k = 0 ∨ k = 3 ∨ k = 4 then ldI n f a else 0
def doneD (n : Nat) (f : Nat → Int) (k a c is old : Int) : Bool := if 0 ≤ k ∧ k ≤ 4 then (if k = 2 then okA n a && f a.toNat == old else false) else okA n c && okA n a && f c.toNat == is && f a.toNat == old
def nextD (n : Nat) (f : Nat → Int) (k a c is old x : Int) : Nat → Int :=
  if okD n k a c = true then
    (if k = 0 then f else if k = 1 then upd f a.toNat x else if k = 3 then upd f a.toNat (orI (f a.toNat) x) else if k = 4 then upd f a.toNat (addI (f a.toNat) x) else if doneD n f k a c is old = true then upd f a.toNat x else f)
  else f

set_option maxHeartbeats 1000000 in
theorem mdo (b g n C : Nat) (f : Nat → Int) (acc k a c is old x : Int) (flt : Bool) (w : World) (h : MemAt w b g n C f acc flt) (c0 : 0 ≤ acc) (c1 : acc < 4611686018427387904) (x0 : 0 ≤ x) (x1 : x < 18446744073709551616) :
    Calls Try.prog 10 #[.pointer (some ⟨b, 0, none⟩), .agg #[.int .i64 k, .int .i64 a, .int .i64 c, .int .u64 is, .int .u64 old, .int .u64 x]] w fun e w' =>
      e = .returned (.tuple #[.int .u64 (toldD n f k a), .bool (doneD n f k a c is old)]) ∧ MemAt w' b g n C (nextD n f k a c is old x) (acc + 1) (flt || !okD n k a c) ∧ Only b g w w' := by
  refine Calls.veil fun Q HQ => ?_
  rcases (by omega : k = 0 ∨ k = 1 ∨ k = 2 ∨ k = 3 ∨ k = 4 ∨ (k < 0 ∨ 4 < k)) with rfl | rfl | rfl | rfl | rfl | hk
  · go_enter Try.func10, Try.ntmps10
    go_wp2_with fail
    generalize hW : World.alloc w _ = W
    have hO : Only b g w W := by rw [← hW]; exact (Only.refl _ _ _).alloc _
    have hM : MemAt W b g n C f acc flt := by rw [← hW]; exact h.alloc _
    clear hW h
    refine (mload b g n C f acc a flt W hM c0 c1).mono ?_; rintro _ w1 ⟨rfl, hM1, hO1⟩
    have HM := Lib.hid hM1; clear hM hM1
    go_wp2_with fail
    (try go_ret2)
    rw [HQ.out]
    exact ⟨by simp [toldD, doneD], by simpa [nextD, okD, doneD] using HM.out, hO.trans hO1⟩
  · go_enter Try.func10, Try.ntmps10
    go_wp2_with fail
    generalize hW : World.alloc w _ = W
    have hO : Only b g w W := by rw [← hW]; exact (Only.refl _ _ _).alloc _
    have hM : MemAt W b g n C f acc flt := by rw [← hW]; exact h.alloc _
    clear hW h
    refine (mstore b g n C f acc a x flt W hM c0 c1 x0 x1).mono ?_; rintro _ w1 ⟨rfl, hM1, hO1⟩
    have HM := Lib.hid hM1; clear hM hM1
    go_wp2_with fail
    (try go_ret2)
    rw [HQ.out]
    exact ⟨by simp [toldD, doneD], by simpa [nextD, okD, doneD] using HM.out, hO.trans hO1⟩
  · go_enter Try.func10, Try.ntmps10
    go_wp2_with fail
    generalize hW : World.alloc w _ = W
    have hO : Only b g w W := by rw [← hW]; exact (Only.refl _ _ _).alloc _
    have hM : MemAt W b g n C f acc flt := by rw [← hW]; exact h.alloc _
    clear hW h
    refine (mcas b g n C f acc a old x flt W hM c0 c1 x0 x1).mono ?_; rintro _ w1 ⟨rfl, hM1, hO1⟩
    have HM := Lib.hid hM1; clear hM hM1
    go_wp2_with fail
    (try go_ret2)
    rw [HQ.out]
    refine ⟨by simp [toldD, doneD], ?_, hO.trans hO1⟩
    have := HM.out
    cases ha : okA n a <;> simpa [nextD, okD, doneD, ha] using this
  · go_enter Try.func10, Try.ntmps10
    go_wp2_with fail
    generalize hW : World.alloc w _ = W
    have hO : Only b g w W := by rw [← hW]; exact (Only.refl _ _ _).alloc _
    have hM : MemAt W b g n C f acc flt := by rw [← hW]; exact h.alloc _
    clear hW h
    refine (mor b g n C f acc a x flt W hM c0 c1 x0 x1).mono ?_; rintro _ w1 ⟨rfl, hM1, hO1⟩
    have HM := Lib.hid hM1; clear hM hM1
    go_wp2_with fail
    (try go_ret2)
    rw [HQ.out]
    exact ⟨by simp [toldD, doneD], by simpa [nextD, okD, doneD] using HM.out, hO.trans hO1⟩
  · go_enter Try.func10, Try.ntmps10
    go_wp2_with fail
    generalize hW : World.alloc w _ = W
    have hO : Only b g w W := by rw [← hW]; exact (Only.refl _ _ _).alloc _
    have hM : MemAt W b g n C f acc flt := by rw [← hW]; exact h.alloc _
    clear hW h
    refine (madd b g n C f acc a x flt W hM c0 c1 x0 x1).mono ?_; rintro _ w1 ⟨rfl, hM1, hO1⟩
    have HM := Lib.hid hM1; clear hM hM1
    go_wp2_with fail
    (try go_ret2)
    rw [HQ.out]
    exact ⟨by simp [toldD, doneD], by simpa [nextD, okD, doneD] using HM.out, hO.trans hO1⟩
  · have z0 : (k == 0) = false := by rw [beq_eq_false_iff_ne]; omega
    have z1 : (k == 1) = false := by rw [beq_eq_false_iff_ne]; omega
    have z2 : (k == 2) = false := by rw [beq_eq_false_iff_ne]; omega
    have z3 : (k == 3) = false := by rw [beq_eq_false_iff_ne]; omega
    have z4 : (k == 4) = false := by rw [beq_eq_false_iff_ne]; omega
    have HK := Lib.hid hk; clear hk
    go_enter Try.func10, Try.ntmps10
    go_wp2_with fail
    generalize hW : World.alloc w _ = W
    have hO : Only b g w W := by rw [← hW]; exact (Only.refl _ _ _).alloc _
    have hM : MemAt W b g n C f acc flt := by rw [← hW]; exact h.alloc _
    clear hW h
    refine (mdcss b g n C f acc c is a old x flt W hM c0 c1 x0 x1).mono ?_; rintro _ w1 ⟨rfl, hM1, hO1⟩
    have HM := Lib.hid hM1; clear hM hM1
    go_wp2_with fail
    (try go_ret2)
    rw [HQ.out]
    have hk := HK.out
    have k0 : ¬ (0 ≤ k ∧ k ≤ 4) := by omega
    have k1 : ¬ (k = 0 ∨ k = 3 ∨ k = 4) := by omega
    refine ⟨?_, ?_, hO.trans hO1⟩
    · rw [show toldD n f k a = 0 from if_neg k1]; unfold doneD; rw [if_neg k0]; simp
    · have := HM.out
      unfold nextD okD doneD
      simp only [if_neg k0, if_neg (show ¬ k = 0 by omega), if_neg (show ¬ k = 1 by omega), if_neg (show ¬ k = 3 by omega), if_neg (show ¬ k = 4 by omega)]
      cases ha : (okA n c && okA n a) <;> simpa [ha] using this
theorem mdo0 (k a c is old x : Int) (w : World) :
    Calls Try.prog 10 #[.pointer none, .agg #[.int .i64 k, .int .i64 a, .int .i64 c, .int .u64 is, .int .u64 old, .int .u64 x]] w fun e w' =>
      e = .returned (.tuple #[.int .u64 0, .bool false]) ∧ Below w.heap.size w w' := by
  rcases (by omega : k = 0 ∨ k = 1 ∨ k = 2 ∨ k = 3 ∨ k = 4 ∨ (k < 0 ∨ 4 < k)) with rfl | rfl | rfl | rfl | rfl | hk
  all_goals
    first
      | (have z0 : (k == 0) = false := by rw [beq_eq_false_iff_ne]; omega
         have z1 : (k == 1) = false := by rw [beq_eq_false_iff_ne]; omega
         have z2 : (k == 2) = false := by rw [beq_eq_false_iff_ne]; omega
         have z3 : (k == 3) = false := by rw [beq_eq_false_iff_ne]; omega
         have z4 : (k == 4) = false := by rw [beq_eq_false_iff_ne]; omega
         clear hk)
      | skip
    go_enter Try.func10, Try.ntmps10
    go_wp2_with fail
    generalize hW : World.alloc w _ = W
    have hB : Below w.heap.size w W := by rw [← hW]; (repeat (first | exact Below.refl _ _ | assumption | refine below_new ?_ _ | refine Below.drew ?_ | refine below_drewN ?_ _ | refine below_on ?_ (by assumption)))
    clear hW
    first
      | (refine (mload0 _ _).mono ?_; rintro _ w1 ⟨rfl, hb⟩)
      | (refine (mstore0 _ _ _).mono ?_; rintro _ w1 ⟨rfl, hb⟩)
      | (refine (mcas0 _ _ _ _).mono ?_; rintro _ w1 ⟨rfl, hb⟩)
      | (refine (mor0 _ _ _).mono ?_; rintro _ w1 ⟨rfl, hb⟩)
      | (refine (madd0 _ _ _).mono ?_; rintro _ w1 ⟨rfl, hb⟩)
      | (refine (mdcss0 _ _ _ _ _ _).mono ?_; rintro _ w1 ⟨rfl, hb⟩)
    go_wp2_with fail
    go_ret2
    exact ⟨by simp, below_on hB hb⟩
end Go.Proofs.Ytdfkpkjbfhjglaa
