/- Layer 36: the schedule that so many others stand ahead of (no program). -/
import Derived.Test.YtminbfingjbbbaaXplA
namespace Go.Proofs.Ytminbfingjbbbaa
open Go.RowKit
set_option linter.unusedVariables false
set_option linter.unusedSimpArgs false
theorem flat_if {α β : Type} (b : α → Bool) (f : α → List β) : ∀ l : List α, (l.flatMap fun a => if b a = true then [] else f a) = (l.filter fun a => !b a).flatMap f
  | [] => rfl
  | x :: r => by
    rw [List.flatMap_cons, flat_if b f r]
    cases h : b x with
    | true => rw [if_pos rfl, List.filter_cons_of_neg (by simp [h])]; rfl
    | false => rw [if_neg (by decide), List.filter_cons_of_pos (by simp [h]), List.flatMap_cons]
/-- The threads but one, in order. -/
theorem range_but (t x j : Nat) (hx : x < t) (hj : j < t - 1) : ((List.range t).filter fun th => !decide (x = th))[j]? = some (if x ≤ j then j + 1 else j) := by
  obtain ⟨u, rfl⟩ : ∃ u, t = x + (1 + u) := ⟨t - 1 - x, by omega⟩
  rw [List.range_add, List.range_add, List.filter_append, List.map_append, List.filter_append]
  have h1 : (List.range x).filter (fun th => !decide (x = th)) = List.range x := by
    rw [List.filter_eq_self]
    intro a ha
    have : a < x := by simpa using ha
    simp; omega
  have h2 : ((List.range 1).map (x + ·)).filter (fun th => !decide (x = th)) = [] := by simp [List.range_succ]
  have h3 : (((List.range u).map (1 + ·)).map (x + ·)).filter (fun th => !decide (x = th)) = ((List.range u).map (1 + ·)).map (x + ·) := by
    rw [List.filter_eq_self]
    intro a ha
    simp at ha
    obtain ⟨b, _, rfl⟩ := ha
    simp
    try omega
  rw [h1, h2, h3, List.nil_append]
  by_cases h : x ≤ j
  · rw [if_pos h, List.getElem?_append_right (by simpa using h)]
    simp only [List.length_range, List.getElem?_map]
    rw [List.getElem?_range (by omega)]
    simp
    try omega
  · rw [if_neg h, List.getElem?_append_left (by simp; omega), List.getElem?_range (by omega)]
/-- The n-th way of one turn more, behind a turn. -/
theorem ext_get_last (t m n : Nat) (q : PL) (x : Nat) (k : Int) (hm : 0 < m) (hx : x < t) (hn : n < (t - 1) * m) :
    (extL t m (q ++ [((x : Int), k)]))[n]? = some (q ++ [((x : Int), k)] ++ [(((if x ≤ n / m then n / m + 1 else n / m : Nat) : Int), ((n % m : Nat) : Int) + 1)]) := by
  have h1 : n / m < t - 1 := Nat.div_lt_of_lt_mul (Nat.lt_of_lt_of_eq hn (Nat.mul_comm _ _))
  have e : extL t m (q ++ [((x : Int), k)]) = ((List.range t).filter fun th => !decide (x = th)).flatMap fun th : Nat => (List.range m).map fun n : Nat => q ++ [((x : Int), k)] ++ [((th : Int), (n : Int) + 1)] := by
    unfold extL
    rw [flat_if]
    congr 1
    apply List.filter_congr
    intro th _
    rw [skip_last]
  rw [e, get_flat_const _ m hm _ _ (fun x _ => by simp), range_but t x _ hx h1]
  simp [Nat.mod_lt n hm]
/-- One turn after the other, by the number. -/
def atL (t m : Nat) : Nat → Nat → PL → PL
  | 0, _, p => p
  | d + 1, n, p =>
    let each := ((t - 1) * m) ^ d
    let a := n / each / m
    let th : Nat := match p.getLast? with | some q => if q.1 ≤ (a : Int) then a + 1 else a | none => a
    atL t m d (n % each) (p ++ [((th : Int), ((n / each % m : Nat) : Int) + 1)])
theorem match_last (q : PL) (x : Nat) (k : Int) (A : Nat) : (match (q ++ [((x : Int), k)]).getLast? with | some p => if p.1 ≤ (A : Int) then A + 1 else A | none => A) = if x ≤ A then A + 1 else A := by
  rw [List.getLast?_append]
  show (if (x : Int) ≤ (A : Int) then A + 1 else A) = _
  by_cases h : x ≤ A
  · rw [if_pos h, if_pos (by omega)]
  · rw [if_neg h, if_neg (by omega)]
theorem at_last (t m : Nat) (hm : 0 < m) : ∀ (d n : Nat) (q : PL) (x : Nat) (k : Int), x < t → n < ((t - 1) * m) ^ d → (leavesL t m d (q ++ [((x : Int), k)]))[n]? = some (atL t m d n (q ++ [((x : Int), k)]))
  | 0, n, q, x, k, _, hn => by
    have : n = 0 := by simpa using hn
    subst this; rfl
  | d + 1, n, q, x, k, hx, hn => by
    rw [Nat.pow_succ] at hn
    have hc : 0 < ((t - 1) * m) ^ d := Nat.pos_of_ne_zero fun e => by rw [e] at hn; simp at hn
    have hq : n / ((t - 1) * m) ^ d < (t - 1) * m := Nat.div_lt_of_lt_mul hn
    show ((extL t m (q ++ [((x : Int), k)])).flatMap (leavesL t m d))[n]? = _
    rw [get_flat_const (leavesL t m d) (((t - 1) * m) ^ d) hc _ _ (fun p hp => by
      obtain ⟨th, h4, h3⟩ := List.mem_flatMap.1 hp
      split at h3
      · cases h3
      · obtain ⟨k, _, rfl⟩ := List.mem_map.1 h3
        exact leaves_len t m d _ th _ (by simpa using h4)), ext_get_last t m _ q x k hm hx hq]
    have ht : (if x ≤ n / ((t - 1) * m) ^ d / m then n / ((t - 1) * m) ^ d / m + 1 else n / ((t - 1) * m) ^ d / m) < t := by
      have : n / ((t - 1) * m) ^ d / m < t - 1 := Nat.div_lt_of_lt_mul (Nat.lt_of_lt_of_eq hq (Nat.mul_comm _ _))
      split <;> omega
    rw [Option.bind_some, at_last t m hm d _ _ _ _ ht (Nat.mod_lt _ hc)]
    have e := match_last q x k (n / ((t - 1) * m) ^ d / m)
    show _ = some (atL t m d (n % _) (_ ++ [((_ : Int), _)]))
    rw [e]
theorem at_first (t m d n : Nat) (hm : 0 < m) (hn : n < t * m * ((t - 1) * m) ^ d) : (leavesL t m (d + 1) [])[n]? = some (atL t m (d + 1) n []) := by
  have hc : 0 < ((t - 1) * m) ^ d := Nat.pos_of_ne_zero fun e => by rw [e] at hn; simp at hn
  have hq : n / ((t - 1) * m) ^ d < t * m := Nat.div_lt_of_lt_mul (Nat.lt_of_lt_of_eq hn (Nat.mul_comm _ _))
  have ht : n / ((t - 1) * m) ^ d / m < t := Nat.div_lt_of_lt_mul (Nat.lt_of_lt_of_eq hq (Nat.mul_comm _ _))
  show ((extL t m []).flatMap (leavesL t m d))[n]? = _
  rw [get_flat_const (leavesL t m d) (((t - 1) * m) ^ d) hc _ _ (fun p hp => by
      obtain ⟨th, h4, h3⟩ := List.mem_flatMap.1 hp
      split at h3
      · cases h3
      · obtain ⟨k, _, rfl⟩ := List.mem_map.1 h3
        exact leaves_len t m d [] th _ (by simpa using h4)), ext_get_nil t m _ hm hq, Option.bind_some]
  have h := at_last t m hm d (n % ((t - 1) * m) ^ d) [] (n / ((t - 1) * m) ^ d / m) (((n / ((t - 1) * m) ^ d % m : Nat) : Int) + 1) ht (Nat.mod_lt _ hc)
  exact h
theorem many_pow (t m : Nat) : ∀ d, manyL t m (d + 1) = t * m * ((t - 1) * m) ^ d
  | 0 => by simp [manyL]
  | d + 1 => by
    show manyL t m (d + 1) * ((t - 1) * m) = _
    rw [many_pow t m d, Nat.pow_succ, Nat.mul_assoc]
/-- THE n-TH SCHEDULE. -/
theorem at_all (t m k n : Nat) (hm : 0 < m) (hn : n < manyL t m k) : (itL t m k)[n]? = some (atL t m k n []) := by
  rw [← leaves_all]
  cases k with
  | zero =>
    have : n = 0 := by simpa [manyL] using hn
    subst this; rfl
  | succ d => exact at_first t m d n hm (by rw [← many_pow]; exact hn)
end Go.Proofs.Ytminbfingjbbbaa
