/- A number as text: the reference's. -/
import Derived.Test.YtdgplijnhkgeiaaDoorTxtB
import Derived.Test.YtdgplijnhkgeiaaDoorWrdA
import Derived.Test.YtdgplijnhkgeiaaDoorEvtA
import Derived.Test.YtdgplijnhkgeiaaDoorMix
namespace Go.Proofs.YtdgplijnhkgeiaaDoor
open Go.RowKit
set_option linter.unusedVariables false
set_option linter.unusedSimpArgs false
open Go.Lib (itoa decDigits)
theorem itoa_pos {n : Int} (h : 0 ≤ n) : itoa n = decDigits n.toNat := by unfold Lib.itoa; rw [if_neg (by omega)]
theorem itoa_neg {n : Int} (h : n < 0) : itoa n = 45 :: decDigits n.natAbs := by unfold Lib.itoa; rw [if_pos h]
theorem itoa_zero : itoa 0 = [48] := by rw [itoa_pos (by decide), show (0 : Int).toNat = 0 from rfl, Lib.decDigits, dif_pos (by decide)]; rfl
theorem dec_small {u : Nat} (h : u < 10) : decDigits u = [UInt8.ofNat (48 + u)] := by rw [Lib.decDigits, dif_pos h]
theorem dec_big {u : Nat} (h : ¬ u < 10) : decDigits u = decDigits (u / 10) ++ [UInt8.ofNat (48 + u % 10)] := by rw [Lib.decDigits, dif_neg h]
theorem enc48 : Utf8.encode 48 = ⟨#[48]⟩ := by decide +kernel
theorem enc49 : Utf8.encode 49 = ⟨#[49]⟩ := by decide +kernel
theorem enc50 : Utf8.encode 50 = ⟨#[50]⟩ := by decide +kernel
theorem enc51 : Utf8.encode 51 = ⟨#[51]⟩ := by decide +kernel
theorem enc52 : Utf8.encode 52 = ⟨#[52]⟩ := by decide +kernel
theorem enc53 : Utf8.encode 53 = ⟨#[53]⟩ := by decide +kernel
theorem enc54 : Utf8.encode 54 = ⟨#[54]⟩ := by decide +kernel
theorem enc55 : Utf8.encode 55 = ⟨#[55]⟩ := by decide +kernel
theorem enc56 : Utf8.encode 56 = ⟨#[56]⟩ := by decide +kernel
theorem enc57 : Utf8.encode 57 = ⟨#[57]⟩ := by decide +kernel
theorem str_con (c : UInt8) (r : List UInt8) : (⟨#[c]⟩ : ByteArray) ++ ⟨r.toArray⟩ = ⟨(c :: r).toArray⟩ := str_app [c] r
set_option maxHeartbeats 4000000 in
theorem rnum (n : Int) (hn : I64 n) (w : World) :
    Calls Tryd.prog 44 #[.int .i64 n] w fun e w' => e = .returned (.string ⟨(itoa n).toArray⟩) ∧ Below w.heap.size w w' := by
  refine Calls.veil fun Q HQ => ?_
  have hn1 := hn.1; have hn2 := hn.2
  rcases (by omega : n = 0 ∨ 0 < n ∨ n < 0) with rfl | h | h
  · go_enter Tryd.func44, Tryd.ntmps44
    go_wp2_with fail
    (try go_ret)
    rw [HQ.out, itoa_zero]
    exact ⟨rfl, Below.refl _ _⟩
  · obtain ⟨M, rfl⟩ := Int.eq_ofNat_of_zero_le (Int.le_of_lt h)
    have hz : ((M : Int) == 0) = false := by simp; omega
    have HM := Lib.hid (show 0 < M by omega)
    have HM2 := Lib.hid (show (M : Int) ≤ 9223372036854775807 from hn2)
    clear hn hn1 hn2 h
    go_enter Tryd.func44, Tryd.ntmps44
    go_wp2_with fail
    clear hz
    go_loopw [0, 3] (fun nv sv wr => ∃ (m : Nat) (r : List UInt8), nv = .int .i64 (m : Int) ∧ sv = .string ⟨r.toArray⟩ ∧ Hid ((0 < m → decDigits m ++ r = decDigits M) ∧ (m = 0 → r = decDigits M) ∧ m ≤ M) ∧ Hid (Below w.heap.size w wr)) (fun nv sv _ => (intOf nv).toNat)
    case atStart => exact ⟨M, [], rfl, rfl, Lib.hid ⟨fun _ => by simp, fun h => by have := HM.out; omega, Nat.le_refl _⟩, Lib.hid (Below.refl _ _)⟩
    case round =>
      obtain ⟨m, r, rfl, rfl, HR, HW⟩ := hrel
      rcases (by omega : m = 0 ∨ 0 < m) with rfl | h0
      · go_wp2_with fail
        (try go_ret)
        rw [HQ.out, itoa_pos (by omega), HR.out.2.1 (by first | rfl | trivial)]
        exact ⟨by simp, HW.out⟩
      · have hz : ((m : Int) != 0) = true := by simp; omega
        have HL := Lib.hid (show r.length ≤ 21 by
          have h1 := congrArg List.length (HR.out.1 h0)
          rw [List.length_append] at h1
          have h2 := Lib.itoa_length_le (M : Int) (by omega) HM2.out
          rw [itoa_pos (by omega)] at h2
          have h3 : (M : Int).toNat = M := by omega
          rw [h3] at h2; omega)
        have hm : (m : Int) ≤ 9223372036854775807 := by have := HM2.out; have := HR.out.2.2; omega
        obtain ⟨d, hd⟩ : ∃ d, d = m % 10 := ⟨_, rfl⟩
        have e1 : Int.tmod (m : Int) 10 = (d : Int) := by rw [hd, Int.tmod_eq_emod_of_nonneg (by omega)]; omega
        have e2 : Int.tdiv (m : Int) 10 = ((m / 10 : Nat) : Int) := by rw [Int.tdiv_eq_ediv_of_nonneg (by omega)]; omega
        have hd9 : d ≤ 9 := by omega
        have hneg : ¬ (d : Int) < 0 := by omega
        have HD := Lib.hid hd
        clear hd
        go_upto_region 10 with fail
        clear e1 hneg hz
        have HX := Lib.hid (show 0 < m / 10 → decDigits (m / 10) ++ (UInt8.ofNat (48 + d) :: r) = decDigits M from fun h => by
          have h1 := HR.out.1 h0
          rw [dec_big (by omega), ← HD.out, List.append_assoc] at h1; exact h1)
        have HY := Lib.hid (show m / 10 = 0 → UInt8.ofNat (48 + d) :: r = decDigits M from fun h => by
          have h1 := HR.out.1 h0
          rw [dec_small (by omega), show m = d by have := HD.out; omega] at h1; exact h1)
        rcases (by omega : d = 0 ∨ d = 1 ∨ d = 2 ∨ d = 3 ∨ d = 4 ∨ d = 5 ∨ d = 6 ∨ d = 7 ∨ d = 8 ∨ d = 9) with rfl | rfl | rfl | rfl | rfl | rfl | rfl | rfl | rfl | rfl
        all_goals
          have u48 := enc48; have u49 := enc49; have u50 := enc50; have u51 := enc51; have u52 := enc52; have u53 := enc53; have u54 := enc54; have u55 := enc55; have u56 := enc56; have u57 := enc57
          have q1 : ¬ 9223372036854775807 < 1 + r.length := by have := HL.out; omega
          go_wp2_with fail
          go_roundw
          case rel => exact ⟨m / 10, _, by rw [show ((m : Int) / 10) = ((m / 10 : Nat) : Int) by omega], by rw [str_con]; rfl, Lib.hid ⟨HX.out, HY.out, by have := HR.out.2.2; omega⟩, HW⟩
          case measure => simp [intOf]; omega
  · obtain ⟨M, hM⟩ : ∃ M : Nat, n = -(M : Int) := ⟨n.natAbs, by omega⟩
    subst hM
    have hz : (-(M : Int) == 0) = false := by simp; omega
    have HM := Lib.hid (show 0 < M by omega)
    have HM2 := Lib.hid (show (M : Int) ≤ 9223372036854775808 by omega)
    clear hn hn1 hn2 h
    go_enter Tryd.func44, Tryd.ntmps44
    go_wp2_with fail
    clear hz
    go_loopw [0, 3] (fun nv sv wr => ∃ (m : Nat) (r : List UInt8), nv = .int .i64 (-(m : Int)) ∧ sv = .string ⟨r.toArray⟩ ∧ Hid (decDigits m ++ r = decDigits M ∧ 0 < m ∧ m ≤ M) ∧ Hid (Below w.heap.size w wr)) (fun nv sv _ => (-(intOf nv)).toNat)
    case atStart => exact ⟨M, [], rfl, rfl, Lib.hid ⟨by simp, HM.out, Nat.le_refl _⟩, Lib.hid (Below.refl _ _)⟩
    case round =>
      obtain ⟨m, r, rfl, rfl, HR, HW⟩ := hrel
      have h0 := HR.out.2.1
      have hz : (-(m : Int) != 0) = true := by simp; omega
      have HL := Lib.hid (show r.length ≤ 21 by
        have h1 := congrArg List.length HR.out.1
        rw [List.length_append] at h1
        have h2 := Lib.itoa_length_le (-(M : Int)) (by have := HM2.out; omega) (by omega)
        rw [itoa_neg (by have := HM.out; omega)] at h2
        have h3 : (-(M : Int)).natAbs = M := by omega
        rw [h3, List.length_cons] at h2; omega)
      have hm : (m : Int) ≤ 9223372036854775808 := by have := HM2.out; have := HR.out.2.2; omega
      obtain ⟨d, hd⟩ : ∃ d, d = m % 10 := ⟨_, rfl⟩
      have HE1 := Lib.hid (show Int.tmod (-(m : Int)) 10 = -(d : Int) by rw [Int.neg_tmod, hd, Int.tmod_eq_emod_of_nonneg (by omega)]; omega)
      have HE2 := Lib.hid (show Int.tdiv (-(m : Int)) 10 = -((m / 10 : Nat) : Int) by rw [Int.neg_tdiv, Int.tdiv_eq_ediv_of_nonneg (by omega)]; omega)
      have hd9 : d ≤ 9 := by omega
      have HD := Lib.hid hd
      clear hd
      have HX := Lib.hid (show 10 ≤ m → decDigits (m / 10) ++ (UInt8.ofNat (48 + d) :: r) = decDigits M from fun h => by
        have h1 := HR.out.1
        rw [dec_big (by omega), ← HD.out, List.append_assoc] at h1; exact h1)
      have HY := Lib.hid (show m < 10 → UInt8.ofNat (48 + d) :: r = decDigits M from fun h => by
        have h1 := HR.out.1
        rw [dec_small (by omega), show m = d by have := HD.out; omega] at h1; exact h1)
      have u48 := enc48; have u49 := enc49; have u50 := enc50; have u51 := enc51; have u52 := enc52; have u53 := enc53; have u54 := enc54; have u55 := enc55; have u56 := enc56; have u57 := enc57
      have q1 : ¬ 9223372036854775807 < 1 + r.length := by have := HL.out; omega
      have q2 : ¬ 9223372036854775807 < 1 + 1 + r.length := by have := HL.out; omega
      have q3 : ¬ 9223372036854775807 < 2 + r.length := by have := HL.out; omega
      have e2 := HE2.out
      rcases (by omega : d = 0 ∨ d = 1 ∨ d = 2 ∨ d = 3 ∨ d = 4 ∨ d = 5 ∨ d = 6 ∨ d = 7 ∨ d = 8 ∨ d = 9) with rfl | rfl | rfl | rfl | rfl | rfl | rfl | rfl | rfl | rfl
      · have e1 : Int.tmod (-(m : Int)) 10 = 0 := HE1.out
        rcases (by omega : m < 10 ∨ 10 ≤ m) with hs | hb
        · exfalso; have := HD.out; omega
        · have hg : ¬ (-10 : Int) < -(m : Int) := by omega
          go_wp2_with fail
          go_roundw
          case rel => exact ⟨m / 10, _, by rw [show (-((m / 10 : Nat) : Int)) = -((m : Int) / 10) by omega], by rw [str_con]; rfl, Lib.hid ⟨HX.out hb, by omega, by have := HR.out.2.2; omega⟩, HW⟩
          case measure => simp [intOf]; omega
      · have e1 : Int.tmod (-(m : Int)) 10 = -1 := HE1.out
        rcases (by omega : m < 10 ∨ 10 ≤ m) with hs | hb
        · have hg : (-10 : Int) < -(m : Int) := by omega
          go_wp2_with fail
          (try go_ret)
          rw [HQ.out, itoa_neg (by have := HM.out; omega), show (-(M : Int)).natAbs = M by omega, ← HY.out hs]
          exact ⟨rfl, HW.out⟩
        · have hg : ¬ (-10 : Int) < -(m : Int) := by omega
          go_wp2_with fail
          go_roundw
          case rel => exact ⟨m / 10, _, by rw [show (-((m / 10 : Nat) : Int)) = -((m : Int) / 10) by omega], by rw [str_con]; rfl, Lib.hid ⟨HX.out hb, by omega, by have := HR.out.2.2; omega⟩, HW⟩
          case measure => simp [intOf]; omega
      · have e1 : Int.tmod (-(m : Int)) 10 = -2 := HE1.out
        rcases (by omega : m < 10 ∨ 10 ≤ m) with hs | hb
        · have hg : (-10 : Int) < -(m : Int) := by omega
          go_wp2_with fail
          (try go_ret)
          rw [HQ.out, itoa_neg (by have := HM.out; omega), show (-(M : Int)).natAbs = M by omega, ← HY.out hs]
          exact ⟨rfl, HW.out⟩
        · have hg : ¬ (-10 : Int) < -(m : Int) := by omega
          go_wp2_with fail
          go_roundw
          case rel => exact ⟨m / 10, _, by rw [show (-((m / 10 : Nat) : Int)) = -((m : Int) / 10) by omega], by rw [str_con]; rfl, Lib.hid ⟨HX.out hb, by omega, by have := HR.out.2.2; omega⟩, HW⟩
          case measure => simp [intOf]; omega
      · have e1 : Int.tmod (-(m : Int)) 10 = -3 := HE1.out
        rcases (by omega : m < 10 ∨ 10 ≤ m) with hs | hb
        · have hg : (-10 : Int) < -(m : Int) := by omega
          go_wp2_with fail
          (try go_ret)
          rw [HQ.out, itoa_neg (by have := HM.out; omega), show (-(M : Int)).natAbs = M by omega, ← HY.out hs]
          exact ⟨rfl, HW.out⟩
        · have hg : ¬ (-10 : Int) < -(m : Int) := by omega
          go_wp2_with fail
          go_roundw
          case rel => exact ⟨m / 10, _, by rw [show (-((m / 10 : Nat) : Int)) = -((m : Int) / 10) by omega], by rw [str_con]; rfl, Lib.hid ⟨HX.out hb, by omega, by have := HR.out.2.2; omega⟩, HW⟩
          case measure => simp [intOf]; omega
      · have e1 : Int.tmod (-(m : Int)) 10 = -4 := HE1.out
        rcases (by omega : m < 10 ∨ 10 ≤ m) with hs | hb
        · have hg : (-10 : Int) < -(m : Int) := by omega
          go_wp2_with fail
          (try go_ret)
          rw [HQ.out, itoa_neg (by have := HM.out; omega), show (-(M : Int)).natAbs = M by omega, ← HY.out hs]
          exact ⟨rfl, HW.out⟩
        · have hg : ¬ (-10 : Int) < -(m : Int) := by omega
          go_wp2_with fail
          go_roundw
          case rel => exact ⟨m / 10, _, by rw [show (-((m / 10 : Nat) : Int)) = -((m : Int) / 10) by omega], by rw [str_con]; rfl, Lib.hid ⟨HX.out hb, by omega, by have := HR.out.2.2; omega⟩, HW⟩
          case measure => simp [intOf]; omega
      · have e1 : Int.tmod (-(m : Int)) 10 = -5 := HE1.out
        rcases (by omega : m < 10 ∨ 10 ≤ m) with hs | hb
        · have hg : (-10 : Int) < -(m : Int) := by omega
          go_wp2_with fail
          (try go_ret)
          rw [HQ.out, itoa_neg (by have := HM.out; omega), show (-(M : Int)).natAbs = M by omega, ← HY.out hs]
          exact ⟨rfl, HW.out⟩
        · have hg : ¬ (-10 : Int) < -(m : Int) := by omega
          go_wp2_with fail
          go_roundw
          case rel => exact ⟨m / 10, _, by rw [show (-((m / 10 : Nat) : Int)) = -((m : Int) / 10) by omega], by rw [str_con]; rfl, Lib.hid ⟨HX.out hb, by omega, by have := HR.out.2.2; omega⟩, HW⟩
          case measure => simp [intOf]; omega
      · have e1 : Int.tmod (-(m : Int)) 10 = -6 := HE1.out
        rcases (by omega : m < 10 ∨ 10 ≤ m) with hs | hb
        · have hg : (-10 : Int) < -(m : Int) := by omega
          go_wp2_with fail
          (try go_ret)
          rw [HQ.out, itoa_neg (by have := HM.out; omega), show (-(M : Int)).natAbs = M by omega, ← HY.out hs]
          exact ⟨rfl, HW.out⟩
        · have hg : ¬ (-10 : Int) < -(m : Int) := by omega
          go_wp2_with fail
          go_roundw
          case rel => exact ⟨m / 10, _, by rw [show (-((m / 10 : Nat) : Int)) = -((m : Int) / 10) by omega], by rw [str_con]; rfl, Lib.hid ⟨HX.out hb, by omega, by have := HR.out.2.2; omega⟩, HW⟩
          case measure => simp [intOf]; omega
      · have e1 : Int.tmod (-(m : Int)) 10 = -7 := HE1.out
        rcases (by omega : m < 10 ∨ 10 ≤ m) with hs | hb
        · have hg : (-10 : Int) < -(m : Int) := by omega
          go_wp2_with fail
          (try go_ret)
          rw [HQ.out, itoa_neg (by have := HM.out; omega), show (-(M : Int)).natAbs = M by omega, ← HY.out hs]
          exact ⟨rfl, HW.out⟩
        · have hg : ¬ (-10 : Int) < -(m : Int) := by omega
          go_wp2_with fail
          go_roundw
          case rel => exact ⟨m / 10, _, by rw [show (-((m / 10 : Nat) : Int)) = -((m : Int) / 10) by omega], by rw [str_con]; rfl, Lib.hid ⟨HX.out hb, by omega, by have := HR.out.2.2; omega⟩, HW⟩
          case measure => simp [intOf]; omega
      · have e1 : Int.tmod (-(m : Int)) 10 = -8 := HE1.out
        rcases (by omega : m < 10 ∨ 10 ≤ m) with hs | hb
        · have hg : (-10 : Int) < -(m : Int) := by omega
          go_wp2_with fail
          (try go_ret)
          rw [HQ.out, itoa_neg (by have := HM.out; omega), show (-(M : Int)).natAbs = M by omega, ← HY.out hs]
          exact ⟨rfl, HW.out⟩
        · have hg : ¬ (-10 : Int) < -(m : Int) := by omega
          go_wp2_with fail
          go_roundw
          case rel => exact ⟨m / 10, _, by rw [show (-((m / 10 : Nat) : Int)) = -((m : Int) / 10) by omega], by rw [str_con]; rfl, Lib.hid ⟨HX.out hb, by omega, by have := HR.out.2.2; omega⟩, HW⟩
          case measure => simp [intOf]; omega
      · have e1 : Int.tmod (-(m : Int)) 10 = -9 := HE1.out
        rcases (by omega : m < 10 ∨ 10 ≤ m) with hs | hb
        · have hg : (-10 : Int) < -(m : Int) := by omega
          go_wp2_with fail
          (try go_ret)
          rw [HQ.out, itoa_neg (by have := HM.out; omega), show (-(M : Int)).natAbs = M by omega, ← HY.out hs]
          exact ⟨rfl, HW.out⟩
        · have hg : ¬ (-10 : Int) < -(m : Int) := by omega
          go_wp2_with fail
          go_roundw
          case rel => exact ⟨m / 10, _, by rw [show (-((m / 10 : Nat) : Int)) = -((m : Int) / 10) by omega], by rw [str_con]; rfl, Lib.hid ⟨HX.out hb, by omega, by have := HR.out.2.2; omega⟩, HW⟩
          case measure => simp [intOf]; omega
end Go.Proofs.YtdgplijnhkgeiaaDoor
