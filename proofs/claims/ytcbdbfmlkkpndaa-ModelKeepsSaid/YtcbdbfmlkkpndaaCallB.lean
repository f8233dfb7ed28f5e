/- Layer 9's contracts: answers. -/
import Derived.Test.YtcbdbfmlkkpndaaCallA
import Derived.RegionTactic
namespace Go.Proofs.Ytcbdbfmlkkpndaa
open Go.RowKit
set_option linter.unusedVariables false
set_option linter.unusedSimpArgs false

abbrev ansV (k key val n : Int) (v : Value) : Value := .agg #[.int .i64 k, .int .i64 key, .int .i64 val, .int .i64 n, v]
abbrev callV (op key val hi limit : Int) : Value := .agg #[.int .i64 op, .int .i64 key, .int .i64 val, .int .i64 hi, .int .i64 limit]
def sameAB (k key val n : Int) (l : PL) (k' key' val' n' : Int) (l' : PL) : Bool := k == k' && key == key' && val == val' && n == n' && sameB l l'

set_option maxHeartbeats 1000000 in
theorem csame (k key val n : Int) (v : Value) (l : PL) (k' key' val' n' : Int) (v' : Value) (l' : PL) (w : World) (h : PR w v l) (h' : PR w v' l') (hn : l.length ≤ 100000) :
    Calls Try.prog 16 #[ansV k key val n v, ansV k' key' val' n' v'] w fun e w' => e = .returned (.bool (sameAB k key val n l k' key' val' n' l')) ∧ Below w.heap.size w w' := by
  have HP := Lib.hid h; have HP' := Lib.hid h'
  obtain ⟨p, c, rfl, _, _⟩ := h.slice
  obtain ⟨p', c', rfl, _, _⟩ := h'.slice
  clear h h'
  refine Calls.veil fun Q HQ => ?_
  cases h1 : (k == k')
  · have HS := Lib.hid (show sameAB k key val n l k' key' val' n' l' = false by unfold sameAB; rw [h1]; rfl)
    go_enter Try.func16, Try.ntmps16
    go_wp2_with fail
    (try go_ret)
    rw [HQ.out, HS.out]
    exact ⟨ret_bool rfl, by (repeat (first | exact Below.refl _ _ | assumption | refine below_new ?_ _ | refine Below.drew ?_ | refine below_drewN ?_ _ | refine below_on ?_ (by assumption)))⟩
  · cases h2 : (key == key')
    · have HS := Lib.hid (show sameAB k key val n l k' key' val' n' l' = false by unfold sameAB; rw [h1, h2]; rfl)
      go_enter Try.func16, Try.ntmps16
      go_wp2_with fail
      (try go_ret)
      rw [HQ.out, HS.out]
      exact ⟨ret_bool rfl, by (repeat (first | exact Below.refl _ _ | assumption | refine below_new ?_ _ | refine Below.drew ?_ | refine below_drewN ?_ _ | refine below_on ?_ (by assumption)))⟩
    · cases h3 : (val == val')
      · have HS := Lib.hid (show sameAB k key val n l k' key' val' n' l' = false by unfold sameAB; rw [h1, h2, h3]; rfl)
        go_enter Try.func16, Try.ntmps16
        go_wp2_with fail
        (try go_ret)
        rw [HQ.out, HS.out]
        exact ⟨ret_bool rfl, by (repeat (first | exact Below.refl _ _ | assumption | refine below_new ?_ _ | refine Below.drew ?_ | refine below_drewN ?_ _ | refine below_on ?_ (by assumption)))⟩
      · cases h4 : (n == n')
        · have HS := Lib.hid (show sameAB k key val n l k' key' val' n' l' = false by unfold sameAB; rw [h1, h2, h3, h4]; rfl)
          go_enter Try.func16, Try.ntmps16
          go_wp2_with fail
          (try go_ret)
          rw [HQ.out, HS.out]
          exact ⟨ret_bool rfl, by (repeat (first | exact Below.refl _ _ | assumption | refine below_new ?_ _ | refine Below.drew ?_ | refine below_drewN ?_ _ | refine below_on ?_ (by assumption)))⟩
        · have HS := Lib.hid (show sameAB k key val n l k' key' val' n' l' = sameB l l' by unfold sameAB; rw [h1, h2, h3, h4]; rfl)
          go_enter Try.func16, Try.ntmps16
          go_wp2_with fail
          refine (psame l l' _ _ _ ((HP.out.alloc _).alloc _) ((HP'.out.alloc _).alloc _) hn).mono ?_; rintro _ w1 ⟨rfl, hb⟩
          have hb := below_on (below_new (below_new (Below.refl w.heap.size w) _) _) hb
          go_wp2_with fail
          (try go_ret)
          rw [HQ.out, HS.out]
          exact ⟨ret_bool rfl, hb⟩
set_option maxHeartbeats 1000000 in
theorem rsame9 (k key val n : Int) (v : Value) (l : PL) (k' key' val' n' : Int) (v' : Value) (l' : PL) (w : World) (h : PR w v l) (h' : PR w v' l') (hn : l.length ≤ 100000) :
    Calls Try.prog 11 #[ansV k key val n v, ansV k' key' val' n' v'] w fun e w' => e = .returned (.bool (sameAB k key val n l k' key' val' n' l')) ∧ Below w.heap.size w w' := by
  have HP := Lib.hid h; have HP' := Lib.hid h'
  obtain ⟨p, c, rfl, _, _⟩ := h.slice
  obtain ⟨p', c', rfl, _, _⟩ := h'.slice
  clear h h'
  refine Calls.veil fun Q HQ => ?_
  cases h1 : (k == k')
  · have HS := Lib.hid (show sameAB k key val n l k' key' val' n' l' = false by unfold sameAB; rw [h1]; rfl)
    go_enter Try.func11, Try.ntmps11
    go_wp2_with fail
    (try go_ret)
    rw [HQ.out, HS.out]
    exact ⟨ret_bool rfl, by (repeat (first | exact Below.refl _ _ | assumption | refine below_new ?_ _ | refine Below.drew ?_ | refine below_drewN ?_ _ | refine below_on ?_ (by assumption)))⟩
  · cases h2 : (key == key')
    · have HS := Lib.hid (show sameAB k key val n l k' key' val' n' l' = false by unfold sameAB; rw [h1, h2]; rfl)
      go_enter Try.func11, Try.ntmps11
      go_wp2_with fail
      (try go_ret)
      rw [HQ.out, HS.out]
      exact ⟨ret_bool rfl, by (repeat (first | exact Below.refl _ _ | assumption | refine below_new ?_ _ | refine Below.drew ?_ | refine below_drewN ?_ _ | refine below_on ?_ (by assumption)))⟩
    · cases h3 : (val == val')
      · have HS := Lib.hid (show sameAB k key val n l k' key' val' n' l' = false by unfold sameAB; rw [h1, h2, h3]; rfl)
        go_enter Try.func11, Try.ntmps11
        go_wp2_with fail
        (try go_ret)
        rw [HQ.out, HS.out]
        exact ⟨ret_bool rfl, by (repeat (first | exact Below.refl _ _ | assumption | refine below_new ?_ _ | refine Below.drew ?_ | refine below_drewN ?_ _ | refine below_on ?_ (by assumption)))⟩
      · cases h4 : (n == n')
        · have HS := Lib.hid (show sameAB k key val n l k' key' val' n' l' = false by unfold sameAB; rw [h1, h2, h3, h4]; rfl)
          go_enter Try.func11, Try.ntmps11
          go_wp2_with fail
          (try go_ret)
          rw [HQ.out, HS.out]
          exact ⟨ret_bool rfl, by (repeat (first | exact Below.refl _ _ | assumption | refine below_new ?_ _ | refine Below.drew ?_ | refine below_drewN ?_ _ | refine below_on ?_ (by assumption)))⟩
        · have HS := Lib.hid (show sameAB k key val n l k' key' val' n' l' = sameB l l' by unfold sameAB; rw [h1, h2, h3, h4]; rfl)
          go_enter Try.func11, Try.ntmps11
          go_wp2_with fail
          refine (rsame l l' _ _ _ ((HP.out.alloc _).alloc _) ((HP'.out.alloc _).alloc _) hn).mono ?_; rintro _ w1 ⟨rfl, hb⟩
          have hb := below_on (below_new (below_new (Below.refl w.heap.size w) _) _) hb
          go_wp2_with fail
          (try go_ret)
          rw [HQ.out, HS.out]
          exact ⟨ret_bool rfl, hb⟩
def toldB (k key val n : Int) (l : PL) : Bool := decide ((k = 1 ∨ (key = 0 ∧ val = 0)) ∧ (k = 2 ∨ n = 0) ∧ (k = 3 ∨ l = []))
theorem told_eq (k key val n : Int) (l : PL) : sameAB k key val n l k (if k = 1 then key else 0) (if k = 1 then val else 0) (if k = 2 then n else 0) (if k = 3 then l else []) = toldB k key val n l := by
  unfold sameAB toldB sameB
  rw [Bool.eq_iff_iff]
  simp only [Bool.and_eq_true, beq_iff_eq, decide_eq_true_eq]
  by_cases h1 : k = 1
  · subst h1; simp
  · by_cases h2 : k = 2
    · subst h2; simp
    · by_cases h3 : k = 3
      · subst h3; simp [and_assoc]
      · simp [h1, h2, h3, and_assoc]

/-! ### Which Kinds are an Op's -/
def kindB (op k : Int) : Bool := decide ((k = 0 ∧ (op = 0 ∨ op = 9 ∨ op = 11 ∨ op = 12 ∨ op = 13 ∨ op = 14)) ∨ ((k = 5 ∨ k = 6) ∧ op = 0) ∨ (k = 7 ∧ 3 ≤ op ∧ op ≤ 9) ∨ ((k = 1 ∨ k = 4) ∧ (op = 1 ∨ op = 2 ∨ op = 5 ∨ op = 6 ∨ op = 10 ∨ op = 7 ∨ op = 8)) ∨ (k = 2 ∧ op = 4) ∨ (k = 3 ∧ op = 3))
end Go.Proofs.Ytcbdbfmlkkpndaa
