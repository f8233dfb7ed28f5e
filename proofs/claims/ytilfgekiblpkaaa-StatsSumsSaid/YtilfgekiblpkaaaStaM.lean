/- Layer 38: the reference's counts are the program's. -/
import Derived.Test.YtilfgekiblpkaaaStaG
namespace Go.Proofs.Ytilfgekiblpkaaa
open Go.RowKit
set_option linter.unusedVariables false
set_option linter.unusedSimpArgs false
def rovP (O : List Opr) (i k : Nat) : Bool := decide (k ≠ i) && (!aheadB (o_ O i) (o_ O k) && !aheadB (o_ O k) (o_ O i))
def rovA (O : List Opr) (i k : Nat) : Bool := (List.range k).any (rovP O i)
theorem rovA_succ (O : List Opr) (i k : Nat) : rovA O i (k + 1) = (rovA O i k || rovP O i k) := by
  unfold rovA; rw [List.range_succ, List.any_append]; simp
def rovN (O : List Opr) : Nat → Nat
  | 0 => 0
  | i + 1 => rovN O i + (if rovA O i O.length = true then 1 else 0)
theorem rovN_le (O : List Opr) : ∀ i, rovN O i ≤ i
  | 0 => Nat.le_refl _
  | i + 1 => by have := rovN_le O i; rw [rovN]; split <;> omega
theorem last_max (O : List Opr) (h : ∀ x ∈ O, x.to = -1 ∨ 0 ≤ x.to) : ∀ i, i ≤ O.length → 0 < i → (∃ k, k < i ∧ lastO O i = o_ O k) ∧ ∀ k, k < i → (lastO O i).to < 0 ∨ (0 ≤ (o_ O k).to ∧ (o_ O k).to ≤ (lastO O i).to)
  | 0, _, h0 => by omega
  | i + 1, hi, _ => by
    rw [lastO]
    by_cases h0 : i = 0
    · subst h0
      rw [if_pos (.inl rfl)]
      refine ⟨⟨0, by omega, rfl⟩, fun k hk => ?_⟩
      obtain rfl : k = 0 := by omega
      by_cases hn : (o_ O 0).to < 0
      · exact .inl hn
      · exact .inr ⟨by omega, Int.le_refl _⟩
    · obtain ⟨⟨k0, hk0, e0⟩, hm⟩ := last_max O h i (by omega) (by omega)
      split
      · rename_i hc
        rcases hc with hc | ⟨h1, h2⟩
        · exact absurd hc h0
        · refine ⟨⟨i, by omega, rfl⟩, fun k hk => ?_⟩
          by_cases hn : (o_ O i).to < 0
          · exact .inl hn
          · right
            rcases (by omega : k < i ∨ k = i) with hk' | rfl
            · rcases hm k hk' with h3 | ⟨h3, h4⟩
              · omega
              · exact ⟨h3, by omega⟩
            · exact ⟨by omega, Int.le_refl _⟩
      · rename_i hc
        refine ⟨⟨k0, by omega, e0⟩, fun k hk => ?_⟩
        rcases (by omega : k < i ∨ k = i) with hk' | rfl
        · exact hm k hk'
        · by_cases h1 : (lastO O k).to < 0
          · exact .inl h1
          · right
            have h2 : ¬ ((o_ O k).to < 0 ∨ (lastO O k).to < (o_ O k).to) := fun h2 => hc (.inr ⟨by omega, h2⟩)
            omega
theorem ahead_iff (a b : Opr) : aheadB a b = true ↔ 0 ≤ a.to ∧ a.to < b.fr := by
  unfold aheadB; rw [Bool.and_eq_true, decide_eq_true_eq, decide_eq_true_eq]
theorem rov_eq {O : List Opr} (ha : ∀ (k : Nat) (x : Opr), O[k]? = some x → x.to = -1 ∨ (0 ≤ x.to ∧ x.fr < x.to)) (hb : ∀ (k j : Nat) (x y : Opr), k < j → O[k]? = some x → O[j]? = some y → x.fr < y.fr) (i : Nat) (hi : i < O.length) :
    rovA O i O.length = (befB O i || behB O i) := by
  have at_ : ∀ k, k < O.length → O[k]? = some (o_ O k) := fun k hk => by
    rw [List.getElem?_eq_getElem hk]; unfold o_; rw [List.getD_eq_getElem?_getD, List.getElem?_eq_getElem hk]; rfl
  have up : ∀ k j, k < j → j < O.length → (o_ O k).fr < (o_ O j).fr := fun k j h1 h2 => hb k j _ _ h1 (at_ k (by omega)) (at_ j h2)
  have en : ∀ k, k < O.length → (o_ O k).to = -1 ∨ (0 ≤ (o_ O k).to ∧ (o_ O k).fr < (o_ O k).to) := fun k hk => ha k _ (at_ k hk)
  have no : ∀ k j, k < j → j < O.length → aheadB (o_ O j) (o_ O k) = false := fun k j h1 h2 => by
    rw [Bool.eq_false_iff]
    intro h
    rw [ahead_iff] at h
    have := up k j h1 h2
    have := en j h2
    omega
  rw [Bool.eq_iff_iff]
  unfold rovA
  rw [List.any_eq_true, Bool.or_eq_true]
  constructor
  · rintro ⟨k, hk, hp⟩
    rw [List.mem_range] at hk
    unfold rovP at hp
    rw [Bool.and_eq_true, Bool.and_eq_true, decide_eq_true_eq, Bool.not_eq_true', Bool.not_eq_true'] at hp
    obtain ⟨hne, hp1, hp2⟩ := hp
    rcases (by omega : k < i ∨ i < k) with hlt | hgt
    · left
      unfold befB
      rw [Bool.and_eq_true, decide_eq_true_eq, Bool.not_eq_true', Bool.eq_false_iff]
      refine ⟨by omega, fun h => ?_⟩
      rw [ahead_iff] at h
      rw [Bool.eq_false_iff] at hp2
      refine hp2 ((ahead_iff _ _).2 ?_)
      have := (last_max O (fun x hx => by obtain ⟨j, hj, e⟩ := List.getElem_of_mem hx; have := ha j x (by rw [List.getElem?_eq_getElem hj, e]); omega) i (by omega) (by omega)).2 k hlt
      omega
    · right
      unfold behB
      rw [Bool.and_eq_true, decide_eq_true_eq, Bool.not_eq_true', Bool.eq_false_iff]
      refine ⟨by omega, fun h => ?_⟩
      rw [ahead_iff] at h
      rw [Bool.eq_false_iff] at hp1
      refine hp1 ((ahead_iff _ _).2 ⟨h.1, ?_⟩)
      rcases (by omega : k = i + 1 ∨ i + 1 < k) with rfl | h2
      · exact h.2
      · have := up (i + 1) k h2 hk; omega
  · rintro (h | h)
    · unfold befB at h
      rw [Bool.and_eq_true, decide_eq_true_eq, Bool.not_eq_true'] at h
      obtain ⟨h0, h1⟩ := h
      obtain ⟨⟨k, hk, e⟩, _⟩ := last_max O (fun x hx => by obtain ⟨j, hj, e⟩ := List.getElem_of_mem hx; have := ha j x (by rw [List.getElem?_eq_getElem hj, e]); omega) i (by omega) h0
      refine ⟨k, List.mem_range.2 (by omega), ?_⟩
      unfold rovP
      rw [no k i hk hi, ← e, h1]
      simp; omega
    · unfold behB at h
      rw [Bool.and_eq_true, decide_eq_true_eq, Bool.not_eq_true'] at h
      refine ⟨i + 1, List.mem_range.2 h.1, ?_⟩
      unfold rovP
      rw [no i (i + 1) (by omega) h.1, h.2]
      simp
theorem rovN_eq {O : List Opr} (ha : ∀ (k : Nat) (x : Opr), O[k]? = some x → x.to = -1 ∨ (0 ≤ x.to ∧ x.fr < x.to)) (hb : ∀ (k j : Nat) (x y : Opr), k < j → O[k]? = some x → O[j]? = some y → x.fr < y.fr) : ∀ i, i ≤ O.length → rovN O i = ovN O i
  | 0, _ => rfl
  | i + 1, hi => by rw [rovN, ovN, rovN_eq ha hb i (by omega), rov_eq ha hb i (by omega)]
/-! ### The most open at a time -/
def atB (at_ : Nat) (x : Opr) : Bool := decide (x.fr ≤ at_) && (decide (x.to < 0) || decide ((at_ : Int) < x.to))
def rmN (O : List Opr) : Nat → Int
  | 0 => 0
  | a + 1 => if rmN O a < (O.countP (atB a) : Nat) then (O.countP (atB a) : Nat) else rmN O a
theorem countP_set' {α : Type} (p : α → Bool) : ∀ (l : List α) (i : Nat) (x y : α), l[i]? = some x → (l.set i y).countP p + (if p x = true then 1 else 0) = l.countP p + (if p y = true then 1 else 0)
  | [], _, _, _, h => by simp at h
  | a :: l, 0, x, y, h => by
    simp only [List.getElem?_cons_zero, Option.some.injEq] at h
    subst h
    rw [List.set_cons_zero, List.countP_cons, List.countP_cons]
    omega
  | a :: l, i + 1, x, y, h => by
    have ih := countP_set' p l i x y (by simpa using h)
    rw [List.set_cons_succ, List.countP_cons, List.countP_cons]
    omega
theorem countP_same {α : Type} {p q : α → Bool} {l : List α} (h : ∀ x ∈ l, p x = q x) : l.countP p = l.countP q := by
  induction l with
  | nil => rfl
  | cons a l ih =>
    rw [List.countP_cons, List.countP_cons, ih (fun x hx => h x (List.mem_cons_of_mem _ hx)), h a (List.mem_cons_self ..)]
theorem now_eq {L : Nat → Ev} {n : Nat} (hm : mayH L n = true) : ∀ i, i ≤ n → ((∀ a, a < i → ((stO L i).1.countP (atB a) : Int) = nowN L (a + 1)) ∧ ((stO L i).1.countP (fun x => decide (x.to < 0)) : Int) = nowN L i)
  | 0, _ => ⟨fun a ha => by omega, by simp [stO, nowN]⟩
  | i + 1, hi => by
    obtain ⟨ih1, ih2⟩ := now_eq hm i (by omega)
    obtain ⟨h1, h2, h3⟩ := mayH_at hm (by omega : i < n)
    have I := oinv hm i (by omega)
    have hmem : ∀ x ∈ (stO L i).1, 0 ≤ x.fr ∧ x.fr < i ∧ (x.to = -1 ∨ (x.fr < x.to ∧ x.to < i)) := fun x hx => by
      obtain ⟨j, hj, e⟩ := List.getElem_of_mem hx
      exact I.a j x (by rw [List.getElem?_eq_getElem hj, e])
    cases hb : (L i).bk with
    | true =>
      rw [hb] at h3
      obtain ⟨x0, hx0, hxt, _⟩ := I.d (L i).th h1 h3.symm
      have hto := last_to hm i (by omega) (L i).th h1 h3.symm x0 hx0
      have hs : (stO L (i + 1)).1 = (stO L i).1.set ((stO L i).2 (L i).th.toNat) { x0 with an := (L i).an, to := (i : Int) } := by
        rw [stO, if_pos hb]
        simp only
        rw [List.getD_eq_getElem?_getD, hx0]; rfl
      have hx := hmem x0 (List.mem_of_getElem? hx0)
      have hnow : nowN L (i + 1) = nowN L i - 1 := by rw [nowN, if_pos hb]
      rw [hs]
      have hopen : (((stO L i).1.set ((stO L i).2 (L i).th.toNat) { x0 with an := (L i).an, to := (i : Int) }).countP (fun x => decide (x.to < 0)) : Int) = nowN L (i + 1) := by
        have h := countP_set' (fun x : Opr => decide (x.to < 0)) _ _ x0 { x0 with an := (L i).an, to := (i : Int) } hx0
        rw [if_pos (decide_eq_true (by omega)), if_neg (by simp)] at h
        omega
      refine ⟨fun a ha => ?_, hopen⟩
      rcases (by omega : a < i ∨ a = i) with h | rfl
      · have hc := countP_set' (atB a) _ _ x0 { x0 with an := (L i).an, to := (i : Int) } hx0
        have e : atB a { x0 with an := (L i).an, to := (i : Int) } = atB a x0 := by
          unfold atB
          simp only
          rw [decide_eq_false (show ¬ (i : Int) < 0 by omega), decide_eq_true (show (a : Int) < i by omega), decide_eq_true (show x0.to < 0 by omega)]
          simp
        rw [e] at hc
        have := ih1 a h
        omega
      · rw [countP_same (q := fun x => decide (x.to < 0))]
        · exact hopen
        · intro x hx
          rw [← hs] at hx
          obtain ⟨j, hj, e⟩ := List.getElem_of_mem hx
          have := (oinv hm (a + 1) (by omega)).a j x (by rw [List.getElem?_eq_getElem hj, e])
          unfold atB
          rw [decide_eq_true (show x.fr ≤ (a : Int) by omega), decide_eq_false (show ¬ (a : Int) < x.to by omega)]
          simp
    | false =>
      have hs : (stO L (i + 1)).1 = (stO L i).1 ++ [⟨(L i).th, (L i).ca, an0, (i : Int), -1⟩] := by
        rw [stO, if_neg (by rw [hb]; simp)]
      have hnow : nowN L (i + 1) = nowN L i + 1 := by rw [nowN, if_neg (by rw [hb]; simp)]
      have hopen : (((stO L (i + 1)).1).countP (fun x => decide (x.to < 0)) : Int) = nowN L (i + 1) := by
        rw [hs, List.countP_append]
        have e : (List.countP (fun x : Opr => decide (x.to < 0)) [⟨(L i).th, (L i).ca, an0, (i : Int), -1⟩]) = 1 := by simp
        rw [e]
        omega
      refine ⟨fun a ha => ?_, hopen⟩
      rcases (by omega : a < i ∨ a = i) with h | rfl
      · rw [hs, List.countP_append]
        have e : atB a ⟨(L i).th, (L i).ca, an0, (i : Int), -1⟩ = false := by
          unfold atB
          simp only
          rw [decide_eq_false (show ¬ (i : Int) ≤ a by omega)]
          rfl
        simp only [List.countP_cons, List.countP_nil]
        rw [e]
        have := ih1 a h
        simp; omega
      · rw [countP_same (q := fun x => decide (x.to < 0))]
        · exact hopen
        · intro x hx
          obtain ⟨j, hj, e⟩ := List.getElem_of_mem hx
          have := (oinv hm (a + 1) (by omega)).a j x (by rw [List.getElem?_eq_getElem hj, e])
          unfold atB
          rw [decide_eq_true (show x.fr ≤ (a : Int) by omega), decide_eq_false (show ¬ (a : Int) < x.to by omega)]
          simp
theorem now_most (L : Nat → Ev) : ∀ i, nowN L i ≤ mostN L i
  | 0 => by simp [nowN, mostN]
  | i + 1 => by
    have := now_most L i
    rw [mostN, nowN]
    split <;> omega
theorem rm_eq {L : Nat → Ev} {n : Nat} (hm : mayH L n = true) : ∀ i, i ≤ n → rmN (stO L n).1 i = mostN L i
  | 0, _ => rfl
  | i + 1, hi => by
    rw [rmN, rm_eq hm i (by omega), mostN]
    have h1 := (now_eq hm n (Nat.le_refl _)).1 i (by omega)
    have h2 := now_most L i
    rw [h1]
    cases hb : (L i).bk with
    | true =>
      have : nowN L (i + 1) = nowN L i - 1 := by rw [nowN, if_pos hb]
      rw [if_pos rfl, if_neg (by omega)]
    | false =>
      simp only [Bool.false_eq_true, if_false]
      rw [Int.max_def]
      split <;> split <;> omega
def refF (L : Nat → Ev) (n : Nat) : Nat → Int := upd (upd (cntN (allO L n) (allO L n).length) 39 (rovN (allO L n) (allO L n).length : Nat)) 41 (rmN (allO L n) n)
theorem rmN_nil : ∀ n, rmN [] n = 0
  | 0 => rfl
  | n + 1 => by rw [rmN, rmN_nil n]; rfl
theorem ref_sum (L : Nat → Ev) (n : Nat) : refF L n = sumF L n := by
  unfold refF sumF allO
  cases hm : mayH L n with
  | true =>
    simp only [if_true]
    have I := oinv hm n (Nat.le_refl _)
    rw [rm_eq hm n (Nat.le_refl _), rovN_eq (fun k x h => by have := I.a k x h; omega) I.b _ (Nat.le_refl _)]
  | false =>
    simp only [Bool.false_eq_true, if_false, rmN_nil]
    funext i
    simp [upd, cntN, rovN]
end Go.Proofs.Ytilfgekiblpkaaa
