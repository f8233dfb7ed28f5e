/- Layer 14: May. -/
import Derived.Test.YtnikggdnlijkkaaScrH
import Derived.Test.YtnikggdnlijkkaaScrD
namespace Go.Proofs.Ytnikggdnlijkkaa
open Go.RowKit WordM
set_option linter.unusedVariables false
set_option linter.unusedSimpArgs false
/-- Which entry is the first that may not be written; -1: none. -/
def badAt (L : Nat → Ent) : Nat → Nat → Int
  | 0, _ => -1
  | k + 1, i => if rightE (L i) then badAt L k (i + 1) else (i : Int)
def allR (L : Nat → Ent) (n : Nat) : Bool := (List.range n).all fun i => rightE (L i)
theorem allR_succ (L : Nat → Ent) (n : Nat) : allR L (n + 1) = (allR L n && rightE (L n)) := by simp [allR, List.range_succ, List.all_append]
set_option maxHeartbeats 2000000 in
theorem eindex (n : Nat) (L : Nat → Ent) (v : Value) (w : World) (h : ER w v n L) (hn : n ≤ 100000) : Calls Try.prog 36 #[v, .func (.func 29) #[] #[]] w fun e w' => ∃ r : Int, e = .returned (.int .i64 r) ∧ decide (r ≥ 0) = (!allR L n) ∧ Below w.heap.size w w' := by
  refine Calls.veil fun Q HQ => ?_
  obtain ⟨p, c, rfl, a1, a2, A3⟩ := h.parts
  clear h
  go_enter Try.func36, Try.ntmps36
  go_wp2_with fail
  go_loopw [8] (fun iv wr => ∃ i : Nat, i ≤ n ∧ iv = .int .i64 i ∧ Hid (allR L i = true) ∧ Below w.heap.size w wr)
    (fun iv _ => n - (intOf iv).toNat)
  case atStart => exact ⟨0, by omega, rfl, Lib.hid rfl, Below.refl _ _⟩
  case round =>
    obtain ⟨i, hi, rfl, HA, hbx⟩ := hrel
    rcases (by omega : i < n ∨ i = n) with hlt | heq
    · obtain ⟨g, o, rfl, hA⟩ := A3.out (by omega)
      have hA := (hA.below hbx).cells i hlt
      have HAS := Lib.hid (allR_succ L i)
      have HAN : Hid (rightE (L i) = false → allR L n = false) := Lib.hid fun h => by
        unfold allR
        rw [List.all_eq_false]
        exact ⟨i, by simpa using hlt, by simp [h]⟩
      generalize L i = e at hA HAS HAN
      obtain ⟨th, bg, op, key, val, hi2, lim⟩ := e
      simp only at hA
      obtain ⟨x0, x1, x2, x3, x4, x5, x6⟩ := hA
      have HX := Lib.hid hbx
      clear hbx
      go_wp2_with fail
      refine (swrong th bg op key val hi2 lim wr).mono ?_; rintro _ w2 ⟨rfl, hb2⟩
      have HX2 := Lib.hid (below_on HX.out hb2)
      clear hb2 x0 x1 x2 x3 x4 x5 x6
      cases hr : rightE ⟨th, bg, op, key, val, hi2, lim⟩ with
      | true =>
        have HA1 : Hid (allR L (i + 1) = true) := by rw [HAS.out, HA.out, hr]; exact Lib.hid rfl
        clear hr HAS HAN
        go_wp2_with fail
        go_roundw
        case rel => exact ⟨i + 1, by omega, by go_num, HA1, HX2.out⟩
        case measure => simp [intOf]; omega
      | false =>
        have HA1 := Lib.hid (HAN.out hr)
        clear hr HAS HAN
        go_wp2_with fail
        (try go_ret)
        rw [HQ.out]
        exact ⟨_, rfl, by rw [HA1.out]; simp, HX2.out⟩
    · have HA1 : Hid (allR L n = true) := by rw [← heq]; exact HA
      have hge : n ≤ i := by omega
      have HX := Lib.hid hbx
      clear hbx heq
      go_wp2_with fail
      (try go_ret)
      rw [HQ.out]
      exact ⟨_, rfl, by rw [HA1.out]; rfl, HX.out⟩
end Go.Proofs.Ytnikggdnlijkkaa
