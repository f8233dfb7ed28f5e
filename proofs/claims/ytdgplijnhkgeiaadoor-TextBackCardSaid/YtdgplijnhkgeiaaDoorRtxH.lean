/- Layer 35, reading: a word's call, a word's Kind; how many words; a call's part. -/
import Derived.Test.YtdgplijnhkgeiaaDoorRtxG
import Derived.Test.YtdgplijnhkgeiaaDoorTxwC
namespace Go.Proofs.YtdgplijnhkgeiaaDoor
open Go.RowKit
open Go.Lib (cut itoa)
set_option linter.unusedVariables false
set_option linter.unusedSimpArgs false
/-- The word's number, or none. -/
def opI (s : ByteArray) : Option Nat := (List.range 15).find? fun i => decide (wordAt i = s)
theorem op_at {s : ByteArray} {i : Nat} (hi : i < 15) (h : wordAt i = s) : opI s = some i := by
  unfold opI
  rw [List.find?_range_eq_some]
  refine ⟨by simpa using h, by simpa using hi, fun j hj => ?_⟩
  simp only [Bool.not_eq_true', decide_eq_false_iff_not]
  intro e
  have := word_one (by omega) hi (e.trans h.symm)
  omega
theorem op_none {s : ByteArray} (h : ∀ i, i < 15 → wordAt i ≠ s) : opI s = none := by
  unfold opI
  rw [List.find?_eq_none]
  intro i hi
  simpa using h i (by simpa using hi)
theorem op_lt {s : ByteArray} {i : Nat} (h : opI s = some i) : i < 15 ∧ wordAt i = s := by
  have h1 := List.find?_some h
  have h2 := List.mem_of_find?_eq_some h
  exact ⟨by simpa using h2, by simpa using h1⟩
set_option maxHeartbeats 1000000 in
theorem cop (s : ByteArray) (w : World) : Calls Tryd.prog 40 #[.string s] w fun e w' => e = .returned (.tuple #[.int .i64 (((opI s).getD 0 : Nat) : Int), .bool (opI s).isSome]) ∧ Below w.heap.size w w' := by
  refine Calls.veil fun Q HQ => ?_
  go_enter Tryd.func40, Tryd.ntmps40
  go_wp2_with fail
  go_step3
  go_wp2_with fail
  (try go_step3)
  go_wp2_with fail
  refine (cwords _).mono ?_; rintro _ w1 ⟨g, rfl, hw, hb⟩
  have HW := Lib.hid hw
  have HB := Lib.hid hb
  clear hw hb
  go_wp2_with fail
  go_loopw [4, 9] (fun fv iv wr => ∃ i : Nat, i ≤ 15 ∧ fv = .int .i64 (-1) ∧ iv = .int .i64 i ∧ Hid (∀ j, j < i → wordAt j ≠ s) ∧ Below w1.heap.size w1 wr)
    (fun _ iv _ => 15 - (intOf iv).toNat)
  case atStart => exact ⟨0, by omega, rfl, rfl, Lib.hid (by omega), Below.refl _ _⟩
  case round =>
    obtain ⟨i, hi, rfl, rfl, HJ, hbel⟩ := hrel
    rcases (by omega : i < 15 ∨ i = 15) with hlt | heq
    · have c0 := (HW.out.below hbel).c i hlt
      generalize hy : wordAt i = y at c0
      have HY := Lib.hid hy
      clear hy
      by_cases he : y = s
      · have HE := Lib.hid he
        have hs := str_t he
        clear he
        go_wp2_with fail
        (try rw [Exit.noGoto_ret])
        (try go_ret2)
        rw [HQ.out, op_at hlt (HY.out.trans HE.out)]
        exact ⟨rfl, below_on HB.out hbel⟩
      · have HE := Lib.hid he
        have hs := str_f he
        clear he
        go_wp2_with fail
        go_roundw
        case rel => exact ⟨i + 1, by omega, rfl, by go_num, Lib.hid (fun j hj => by rcases (by omega : j < i ∨ j = i) with h | rfl; exact HJ.out j h; (rw [HY.out]; exact HE.out)), hbel⟩
        case measure => simp [intOf]; omega
    · have HE := Lib.hid heq
      have hge : 15 ≤ i := by omega
      clear heq
      go_wp2_with fail
      (try rw [Exit.noGoto_ret])
      (try go_ret2)
      rw [HQ.out, op_none (fun j hj => HJ.out j (by rw [HE.out]; exact hj))]
      exact ⟨rfl, below_on HB.out hbel⟩
/-- The same for Kinds. -/
def kdI (s : ByteArray) : Option Nat := (List.range 9).find? fun i => decide (kindAt i = s)
theorem kind_one {i j : Nat} (hi : i < 9) (hj : j < 9) (h : kindAt i = kindAt j) : i = j := by
  have : ∀ i, i < 9 → ∀ j, j < 9 → kindAt i = kindAt j → i = j := by decide +kernel
  exact this i hi j hj h
theorem kd_at {s : ByteArray} {i : Nat} (hi : i < 9) (h : kindAt i = s) : kdI s = some i := by
  unfold kdI
  rw [List.find?_range_eq_some]
  refine ⟨by simpa using h, by simpa using hi, fun j hj => ?_⟩
  simp only [Bool.not_eq_true', decide_eq_false_iff_not]
  intro e
  have := kind_one (by omega) hi (e.trans h.symm)
  omega
theorem kd_none {s : ByteArray} (h : ∀ i, i < 9 → kindAt i ≠ s) : kdI s = none := by
  unfold kdI
  rw [List.find?_eq_none]
  intro i hi
  simpa using h i (by simpa using hi)
theorem kd_lt {s : ByteArray} {i : Nat} (h : kdI s = some i) : i < 9 ∧ kindAt i = s := by
  have h1 := List.find?_some h
  have h2 := List.mem_of_find?_eq_some h
  exact ⟨by simpa using h2, by simpa using h1⟩
set_option maxHeartbeats 1000000 in
theorem tkind (s : ByteArray) (w : World) : Calls Tryd.prog 45 #[.string s] w fun e w' => (e = match kdI s with | some k => .returned (.int .i64 (k : Nat)) | none => wrP 3) ∧ Below w.heap.size w w' := by
  refine Calls.veil fun Q HQ => ?_
  go_enter Tryd.func45, Tryd.ntmps45
  go_wp2_with fail
  refine (tkinds _).mono ?_; rintro _ w1 ⟨g, rfl, hw, hb⟩
  have HW := Lib.hid hw
  have HB := Lib.hid hb
  clear hw hb
  go_wp2_with fail
  go_loopw [7] (fun iv wr => ∃ i : Nat, i ≤ 9 ∧ iv = .int .i64 i ∧ Hid (∀ j, j < i → kindAt j ≠ s) ∧ Below w1.heap.size w1 wr)
    (fun iv _ => 9 - (intOf iv).toNat)
  case atStart => exact ⟨0, by omega, rfl, Lib.hid (by omega), Below.refl _ _⟩
  case round =>
    obtain ⟨i, hi, rfl, HJ, hbel⟩ := hrel
    rcases (by omega : i < 9 ∨ i = 9) with hlt | heq
    · have c0 := (HW.out.below hbel).c i hlt
      generalize hy : kindAt i = y at c0
      have HY := Lib.hid hy
      clear hy
      by_cases he : y = s
      · have HE := Lib.hid he
        have hs := str_t he
        clear he
        go_wp2_with fail
        (try rw [Exit.noGoto_ret])
        (try go_ret)
        rw [HQ.out, kd_at hlt (HY.out.trans HE.out)]
        exact ⟨rfl, below_on HB.out hbel⟩
      · have HE := Lib.hid he
        have hs := str_f he
        clear he
        go_wp2_with fail
        go_roundw
        case rel => exact ⟨i + 1, by omega, by go_num, Lib.hid (fun j hj => by rcases (by omega : j < i ∨ j = i) with h | rfl; exact HJ.out j h; (rw [HY.out]; exact HE.out)), hbel⟩
        case measure => simp [intOf]; omega
    · have HE := Lib.hid heq
      have hge : 9 ≤ i := by omega
      clear heq
      go_wp2_with fail
      rw [HQ.out, kd_none (fun j hj => HJ.out j (by rw [HE.out]; exact hj))]
      exact ⟨rfl, rfl, below_on HB.out hbel⟩
/-- Just so many words. -/
theorem tmany (v : Value) (p : Option Addr) (n c : Nat) (m : Int) (w : World) (hv : v = .slice p n c) (hn : n ≤ 100000) :
    Calls Tryd.prog 41 #[v, .int .i64 m] w fun e w' => (e = if (n : Int) = m then .returned (.tuple #[]) else wrP 4) ∧ Below w.heap.size w w' := by
  refine Calls.veil fun Q HQ => ?_
  subst hv
  by_cases h : (n : Int) = m
  · subst h
    have hb : (((n : Int)) == (n : Int)) = true := by simp
    go_enter Tryd.func41, Tryd.ntmps41
    go_wp2_with fail
    refine bodyPost_end (v := .tuple #[]) (by simp [results, Tryd.results41, go_sem]) rfl ?_
    rw [HQ.out]
    exact ⟨by simp, Below.refl _ _⟩
  · have hb : (((n : Int)) == m) = false := neq_b h
    have HN := Lib.hid h
    clear h
    go_enter Tryd.func41, Tryd.ntmps41
    go_wp2_with fail
    rw [HQ.out, if_neg HN.out]
    exact ⟨rfl, rfl, Below.refl _ _⟩
/-- A call with a part changed. -/
def withI (c : Ca) (p n : Int) : Ca := if p = 0 then { c with key := n } else if p = 1 then { c with val := n } else if p = 2 then { c with hi := n } else { c with lim := n }
abbrev caV (c : Ca) : Value := .agg #[.int .i64 c.op, .int .i64 c.key, .int .i64 c.val, .int .i64 c.hi, .int .i64 c.lim]
set_option maxHeartbeats 1000000 in
theorem twith (c : Ca) (p n : Int) (w : World) (hn : I64 n) :
    Calls Tryd.prog 42 #[caV c, .int .i64 p, .int .i64 n] w fun e w' => e = .returned (caV (withI c p n)) ∧ Below w.heap.size w w' := by
  refine Calls.veil fun Q HQ => ?_
  obtain ⟨op, key, val, hi, lim⟩ := c
  have hw1 : wrap64 n = n := wrap_id hn
  have hw2 : IntKind.i64.wrap n = n := wrapi_id hn
  clear hn
  rcases (by omega : p = 0 ∨ p = 1 ∨ p = 2 ∨ (p ≠ 0 ∧ p ≠ 1 ∧ p ≠ 2)) with rfl | rfl | rfl | ⟨h0, h1, h2⟩
  case inr.inr.inr =>
    have HN := Lib.hid (show withI ⟨op, key, val, hi, lim⟩ p n = ⟨op, key, val, hi, n⟩ by unfold withI; rw [if_neg h0, if_neg h1, if_neg h2])
    have h0 := neq_b h0; have h1 := neq_b h1; have h2 := neq_b h2
    go_enter Tryd.func42, Tryd.ntmps42
    go_wp2_with fail
    refine bodyPost_ret (v := .agg #[.int .i64 op, .int .i64 key, .int .i64 val, .int .i64 hi, .int .i64 n]) (by simp [results, Tryd.results42, go_sem]) rfl ?_
    rw [HQ.out, HN.out]
    exact ⟨rfl, by (repeat (first | exact Below.refl _ _ | assumption | refine below_new ?_ _ | refine Below.drew ?_ | refine below_drewN ?_ _ | refine below_on ?_ (by assumption)))⟩
  · go_enter Tryd.func42, Tryd.ntmps42
    go_wp2_with fail
    refine bodyPost_ret (v := .agg #[.int .i64 op, .int .i64 n, .int .i64 val, .int .i64 hi, .int .i64 lim]) (by simp [results, Tryd.results42, go_sem]) rfl ?_
    rw [HQ.out]
    exact ⟨rfl, by (repeat (first | exact Below.refl _ _ | assumption | refine below_new ?_ _ | refine Below.drew ?_ | refine below_drewN ?_ _ | refine below_on ?_ (by assumption)))⟩
  · go_enter Tryd.func42, Tryd.ntmps42
    go_wp2_with fail
    refine bodyPost_ret (v := .agg #[.int .i64 op, .int .i64 key, .int .i64 n, .int .i64 hi, .int .i64 lim]) (by simp [results, Tryd.results42, go_sem]) rfl ?_
    rw [HQ.out]
    exact ⟨rfl, by (repeat (first | exact Below.refl _ _ | assumption | refine below_new ?_ _ | refine Below.drew ?_ | refine below_drewN ?_ _ | refine below_on ?_ (by assumption)))⟩
  · go_enter Tryd.func42, Tryd.ntmps42
    go_wp2_with fail
    refine bodyPost_ret (v := .agg #[.int .i64 op, .int .i64 key, .int .i64 val, .int .i64 n, .int .i64 lim]) (by simp [results, Tryd.results42, go_sem]) rfl ?_
    rw [HQ.out]
    exact ⟨rfl, by (repeat (first | exact Below.refl _ _ | assumption | refine below_new ?_ _ | refine Below.drew ?_ | refine below_drewN ?_ _ | refine below_on ?_ (by assumption)))⟩
end Go.Proofs.YtdgplijnhkgeiaaDoor
