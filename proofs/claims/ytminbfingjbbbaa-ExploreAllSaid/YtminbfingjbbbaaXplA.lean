/- Layer 36: all schedules (no program). -/
import Derived.Test.YtminbfingjbbbaaPairA
namespace Go.Proofs.Ytminbfingjbbbaa
open Go.RowKit
set_option linter.unusedVariables false
set_option linter.unusedSimpArgs false
/-- Is a thread the one of the turn ahead? -/
def skipB (p : PL) (th : Nat) : Bool := match p.getLast? with | some q => q.1 == (th : Int) | none => false
/-- A schedule with one turn more, in all ways, in order. -/
def extL (t m : Nat) (p : PL) : List PL := (List.range t).flatMap fun th : Nat => if skipB p th = true then [] else (List.range m).map fun n : Nat => p ++ [((th : Int), (n : Int) + 1)]
/-- All schedules of k turns. -/
def itL (t m : Nat) : Nat → List PL
  | 0 => [[]]
  | k + 1 => (itL t m k).flatMap (extL t m)
/-- All schedules that begin so, with d turns more. -/
def leavesL (t m : Nat) : Nat → PL → List PL
  | 0, p => [p]
  | d + 1, p => (extL t m p).flatMap (leavesL t m d)
theorem lev_it (t m : Nat) : ∀ d i, (itL t m i).flatMap (leavesL t m d) = itL t m (i + d)
  | 0, i => by
    show (itL t m i).flatMap (fun p => [p]) = _
    simp
  | d + 1, i => by
    show (itL t m i).flatMap (fun p => (extL t m p).flatMap (leavesL t m d)) = _
    rw [← List.flatMap_assoc]
    have h := lev_it t m d (i + 1)
    rw [show i + (d + 1) = i + 1 + d by omega]
    exact h
theorem leaves_all (t m k : Nat) : leavesL t m k [] = itL t m k := by
  have h := lev_it t m k 0
  simpa [itL] using h
theorem it_len {t m : Nat} : ∀ {k : Nat} {p : PL}, p ∈ itL t m k → p.length = k
  | 0, p, h => by simp [itL] at h; subst h; rfl
  | k + 1, p, h => by
    obtain ⟨q, h1, h2⟩ := List.mem_flatMap.1 h
    obtain ⟨th, _, h3⟩ := List.mem_flatMap.1 h2
    split at h3
    · cases h3
    · obtain ⟨n, _, rfl⟩ := List.mem_map.1 h3
      rw [List.length_append, it_len h1]; rfl
/-- The last turn's thread is one of the threads. -/
theorem it_last {t m : Nat} : ∀ {k : Nat} {p : PL}, p ∈ itL t m (k + 1) → ∃ th : Nat, th < t ∧ ∃ q n, p = q ++ [((th : Int), n)]
  | k, p, h => by
    obtain ⟨q, h1, h2⟩ := List.mem_flatMap.1 h
    obtain ⟨th, h4, h3⟩ := List.mem_flatMap.1 h2
    split at h3
    · cases h3
    · obtain ⟨n, _, rfl⟩ := List.mem_map.1 h3
      exact ⟨th, by simpa using h4, q, _, rfl⟩
theorem skip_nil (th : Nat) : skipB [] th = false := rfl
theorem skip_last (q : PL) (x th : Nat) (n : Int) : skipB (q ++ [((x : Int), n)]) th = decide (x = th) := by
  unfold skipB
  rw [List.getLast?_append]
  simp
  by_cases h : x = th
  · subst h; simp
  · rw [decide_eq_false h]; simp; omega
/-- How many ways of one turn more there are. -/
theorem ext_nil (t m : Nat) : (extL t m []).length = t * m := by
  unfold extL
  rw [List.length_flatMap]
  have : (List.range t).map (fun th => (if skipB [] th = true then [] else (List.range m).map fun n : Nat => ([] : PL) ++ [((th : Int), (n : Int) + 1)]).length) = (List.range t).map (fun _ => m) := by
    apply List.map_congr_left
    intro th _
    rw [skip_nil]; simp
  rw [this]
  clear this
  induction t with
  | zero => simp
  | succ t ih =>
    rw [List.range_succ, List.map_append, List.sum_append, ih, Nat.succ_mul]
    rfl
theorem ext_last (t m : Nat) (q : PL) (x : Nat) (n : Int) (hx : x < t) : (extL t m (q ++ [((x : Int), n)])).length = (t - 1) * m := by
  unfold extL
  rw [List.length_flatMap]
  have h1 : (List.range t).map (fun th => (if skipB (q ++ [((x : Int), n)]) th = true then [] else (List.range m).map fun k : Nat => (q ++ [((x : Int), n)]) ++ [((th : Int), (k : Int) + 1)]).length) = (List.range t).map (fun th => if x = th then 0 else m) := by
    apply List.map_congr_left
    intro th _
    rw [skip_last]
    by_cases h : x = th
    · simp [h]
    · simp [h]
  rw [h1]
  have h2 : ∀ t, ((List.range t).map (fun th => if x = th then 0 else m)).sum = if x < t then (t - 1) * m else t * m := by
    intro t
    induction t with
    | zero => simp
    | succ t ih =>
      rw [List.range_succ, List.map_append, List.sum_append, ih]
      simp only [List.map_cons, List.map_nil, List.sum_cons, List.sum_nil, Nat.add_zero]
      by_cases h : x < t
      · rw [if_pos h, if_neg (by omega), if_pos (by omega)]
        obtain ⟨u, rfl⟩ : ∃ u, t = u + 1 := ⟨t - 1, by omega⟩
        simp only [Nat.add_sub_cancel]
        rw [Nat.succ_mul]
      · by_cases h3 : x = t
        · rw [if_neg h, if_pos h3, if_pos (by omega)]; simp
        · rw [if_neg h, if_neg h3, if_neg (by omega), Nat.succ_mul]
  rw [h2, if_pos hx]
/-- How many schedules there are. -/
def manyL (t m : Nat) : Nat → Nat
  | 0 => 1
  | 1 => t * m
  | k + 2 => manyL t m (k + 1) * ((t - 1) * m)
theorem len_flat_const {α β : Type} (f : α → List β) (c : Nat) : ∀ l : List α, (∀ x ∈ l, (f x).length = c) → (l.flatMap f).length = l.length * c
  | [], _ => by simp
  | x :: r, h => by
    rw [List.flatMap_cons, List.length_append, h x List.mem_cons_self, len_flat_const f c r (fun y hy => h y (List.mem_cons_of_mem _ hy)), List.length_cons, Nat.succ_mul, Nat.add_comm]
theorem it_many (t m : Nat) : ∀ k, (itL t m k).length = manyL t m k
  | 0 => rfl
  | 1 => by
    show (([[]] : List PL).flatMap (extL t m)).length = t * m
    simp only [List.flatMap_cons, List.flatMap_nil, List.append_nil]
    exact ext_nil t m
  | k + 2 => by
    show ((itL t m (k + 1)).flatMap (extL t m)).length = manyL t m (k + 1) * ((t - 1) * m)
    rw [len_flat_const (extL t m) ((t - 1) * m) _ (fun p hp => by
      obtain ⟨x, hx, q, n, rfl⟩ := it_last hp
      exact ext_last t m q x n hx), it_many t m (k + 1)]
/-- How many schedules go on from one that has turns already. -/
theorem leaves_len (t m : Nat) : ∀ (d : Nat) (q : PL) (x : Nat) (n : Int), x < t → (leavesL t m d (q ++ [((x : Int), n)])).length = ((t - 1) * m) ^ d
  | 0, _, _, _, _ => rfl
  | d + 1, q, x, n, hx => by
    show ((extL t m (q ++ [((x : Int), n)])).flatMap (leavesL t m d)).length = _
    rw [len_flat_const (leavesL t m d) (((t - 1) * m) ^ d) _ (fun p hp => by
      obtain ⟨th, h4, h3⟩ := List.mem_flatMap.1 hp
      split at h3
      · cases h3
      · obtain ⟨k, _, rfl⟩ := List.mem_map.1 h3
        exact leaves_len t m d _ th _ (by simpa using h4)), ext_last t m q x n hx, Nat.pow_succ, Nat.mul_comm]
theorem get_flat_const {α β : Type} (f : α → List β) (c : Nat) (hc : 0 < c) : ∀ (l : List α) (n : Nat), (∀ x ∈ l, (f x).length = c) → (l.flatMap f)[n]? = (l[n / c]?).bind (fun x => (f x)[n % c]?)
  | [], n, _ => by simp
  | x :: r, n, h => by
    rw [List.flatMap_cons]
    by_cases hn : n < c
    · rw [List.getElem?_append_left (by rw [h x List.mem_cons_self]; exact hn), Nat.div_eq_of_lt hn, Nat.mod_eq_of_lt hn]
      rfl
    · rw [List.getElem?_append_right (by rw [h x List.mem_cons_self]; omega), h x List.mem_cons_self, get_flat_const f c hc r _ (fun y hy => h y (List.mem_cons_of_mem _ hy))]
      have h1 : n / c = (n - c) / c + 1 := by rw [← Nat.add_div_right _ hc]; congr 1; omega
      have h2 : (n - c) % c = n % c := by rw [← Nat.add_mod_right (n - c) c]; congr 1; omega
      rw [h1, h2]
      rfl
/-- The n-th way of one turn more, at the beginning. -/
theorem ext_get_nil (t m n : Nat) (hm : 0 < m) (hn : n < t * m) : (extL t m [])[n]? = some [(((n / m : Nat) : Int), ((n % m : Nat) : Int) + 1)] := by
  have e : extL t m [] = (List.range t).flatMap fun th : Nat => (List.range m).map fun k : Nat => [((th : Int), (k : Int) + 1)] := by
    unfold extL
    congr 1
  have h1 : n / m < t := Nat.div_lt_of_lt_mul (by rw [Nat.mul_comm]; exact hn)
  rw [e, get_flat_const _ m hm _ _ (fun x _ => by simp), List.getElem?_range h1]
  simp [Nat.mod_lt n hm]
end Go.Proofs.Ytminbfingjbbbaa
