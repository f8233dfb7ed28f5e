/- Rows of pairs: the mathematics. Nothing of the program. -/
import Derived.WalkKit
namespace Go.Proofs.Ytminbfingjbbbaa
set_option linter.unusedVariables false
set_option linter.unusedSimpArgs false

abbrev PL := List (Int × Int)
def ky (l : PL) (i : Nat) : Int := (l.getD i (0, 0)).1
def vl (l : PL) (i : Nat) : Int := (l.getD i (0, 0)).2
theorem ky_get {l : PL} {i : Nat} (h : i < l.length) : l[i] = (ky l i, vl l i) := by simp [ky, vl, h]
theorem ky_app_l {a b : PL} {i : Nat} (h : i < a.length) : ky (a ++ b) i = ky a i := by simp [ky, List.getD_eq_getElem?_getD, List.getElem?_append_left h]
theorem vl_app_l {a b : PL} {i : Nat} (h : i < a.length) : vl (a ++ b) i = vl a i := by simp [vl, List.getD_eq_getElem?_getD, List.getElem?_append_left h]
theorem ky_app_r {a b : PL} {i : Nat} (h : a.length ≤ i) : ky (a ++ b) i = ky b (i - a.length) := by simp [ky, List.getD_eq_getElem?_getD, List.getElem?_append_right h]
theorem vl_app_r {a b : PL} {i : Nat} (h : a.length ≤ i) : vl (a ++ b) i = vl b (i - a.length) := by simp [vl, List.getD_eq_getElem?_getD, List.getElem?_append_right h]
theorem ky_drop (l : PL) (k i : Nat) : ky (l.drop k) i = ky l (k + i) := by simp [ky, List.getD_eq_getElem?_getD, List.getElem?_drop]
theorem vl_drop (l : PL) (k i : Nat) : vl (l.drop k) i = vl l (k + i) := by simp [vl, List.getD_eq_getElem?_getD, List.getElem?_drop]
theorem ky_take {l : PL} {k i : Nat} (h : i < k) : ky (l.take k) i = ky l i := by simp [ky, List.getD_eq_getElem?_getD, List.getElem?_take_of_lt h]
theorem vl_take {l : PL} {k i : Nat} (h : i < k) : vl (l.take k) i = vl l i := by simp [vl, List.getD_eq_getElem?_getD, List.getElem?_take_of_lt h]
theorem take_one {l : PL} {i : Nat} (h : i < l.length) : l.take (i + 1) = l.take i ++ [(ky l i, vl l i)] := by
  rw [List.take_succ_eq_append_getElem h, ky_get h]
theorem drop_one {l : PL} {i : Nat} (h : i < l.length) : l.drop i = (ky l i, vl l i) :: l.drop (i + 1) := by
  rw [List.drop_eq_getElem_cons h, ky_get h]
theorem pl_ext {a b : PL} (hl : a.length = b.length) (h : ∀ i, i < a.length → ky a i = ky b i ∧ vl a i = vl b i) : a = b := by
  refine List.ext_getElem hl fun i h1 h2 => ?_
  rw [ky_get h1, ky_get h2, (h i h1).1, (h i h1).2]

/-- Do keys rise? -/
def riseB (l : PL) : Bool := decide (∀ i, i < l.length → i + 1 < l.length → ky l i < ky l (i + 1))
theorem rise_next {l : PL} (h : riseB l = true) {i : Nat} (hi : i + 1 < l.length) : ky l i < ky l (i + 1) := of_decide_eq_true h i (by omega) hi
theorem rise_lt {l : PL} (h : riseB l = true) : ∀ {j i : Nat}, i < j → j < l.length → ky l i < ky l j
  | 0, i, hij, _ => by omega
  | j + 1, i, hij, hj => by
    rcases (by omega : i = j ∨ i < j) with rfl | h1
    · exact rise_next h hj
    · have := rise_lt h h1 (by omega); have := rise_next h hj; omega
theorem rise_of {l : PL} (h : ∀ i, i + 1 < l.length → ky l i < ky l (i + 1)) : riseB l = true := decide_eq_true fun i _ hi => h i hi
theorem rise_not {l : PL} {i : Nat} (hi : i + 1 < l.length) (h : ky l (i + 1) ≤ ky l i) : riseB l = false := decide_eq_false fun k => by have := k i (by omega) hi; omega

/-- How many keys are less; whether it is there. -/
def lbN (l : PL) (key : Int) : Nat := (l.filter fun p => decide (p.1 < key)).length
def hereB (l : PL) (key : Int) : Bool := l.any fun p => p.1 == key
theorem lbN_le (l : PL) (key : Int) : lbN l key ≤ l.length := List.length_filter_le _ _
theorem lbN_snoc (l : PL) (p : Int × Int) (key : Int) : lbN (l ++ [p]) key = lbN l key + if p.1 < key then 1 else 0 := by
  unfold lbN; rw [List.filter_append, List.length_append]
  by_cases h : p.1 < key <;> simp [List.filter_cons, h]
theorem hereB_snoc (l : PL) (p : Int × Int) (key : Int) : hereB (l ++ [p]) key = (hereB l key || p.1 == key) := by simp [hereB]
theorem lbN_all : ∀ (l : PL) (key : Int), (∀ i, i < l.length → ky l i < key) → lbN l key = l.length
  | [], _, _ => rfl
  | p :: l, key, h => by
    have h0 := h 0 (by simp)
    have h1 := lbN_all l key (fun i hi => by have := h (i + 1) (by simpa using hi); simpa [ky] using this)
    have : p.1 < key := by simpa [ky] using h0
    unfold lbN at *
    simp [List.filter_cons, this, h1]
theorem lbN_none : ∀ (l : PL) (key : Int), (∀ i, i < l.length → key ≤ ky l i) → lbN l key = 0
  | [], _, _ => rfl
  | p :: l, key, h => by
    have h0 := h 0 (by simp)
    have h1 := lbN_none l key (fun i hi => by have := h (i + 1) (by simpa using hi); simpa [ky] using this)
    have : ¬ p.1 < key := by have : key ≤ p.1 := by simpa [ky] using h0
                             omega
    unfold lbN at *
    simp [List.filter_cons, this, h1]
theorem lbN_is {l : PL} {key : Int} {r : Nat} (hr : r ≤ l.length) (h1 : ∀ k, k < r → ky l k < key) (h2 : ∀ k, r ≤ k → k < l.length → key ≤ ky l k) : lbN l key = r := by
  have e : lbN l key = lbN (l.take r) key + lbN (l.drop r) key := by
    unfold lbN; rw [← List.length_append, ← List.filter_append, List.take_append_drop]
  have hl : (l.take r).length = r := by simp; omega
  rw [e, lbN_all (l.take r) key (fun i hi => by rw [ky_take (by omega)]; exact h1 i (by omega)), lbN_none (l.drop r) key (fun i hi => by rw [ky_drop]; simp at hi; exact h2 _ (by omega) (by omega)), hl]
  omega
/-- In a row: all ahead of it are less, all behind it aren't. -/
theorem lbN_spec {l : PL} (h : riseB l = true) (key : Int) : (∀ k, k < lbN l key → ky l k < key) ∧ ∀ k, lbN l key ≤ k → k < l.length → key ≤ ky l k := by
  have : ∃ r, r ≤ l.length ∧ (∀ k, k < r → ky l k < key) ∧ ∀ k, r ≤ k → k < l.length → key ≤ ky l k := by
    have : ∀ m, m ≤ l.length → ∃ r, r ≤ m ∧ (∀ k, k < r → ky l k < key) ∧ ∀ k, r ≤ k → k < m → key ≤ ky l k := by
      intro m
      induction m with
      | zero => intro _; exact ⟨0, Nat.le_refl _, by omega, by omega⟩
      | succ m ih =>
        intro hm
        obtain ⟨r, h1, h2, h3⟩ := ih (by omega)
        by_cases hk : ky l m < key
        · refine ⟨m + 1, Nat.le_refl _, fun k hk' => ?_, by omega⟩
          rcases (by omega : k = m ∨ k < m) with rfl | h4
          · exact hk
          · have := rise_lt h h4 (by omega); omega
        · refine ⟨r, by omega, h2, fun k h4 h5 => ?_⟩
          rcases (by omega : k = m ∨ k < m) with rfl | h6
          · omega
          · exact h3 k h4 h6
    exact this l.length (Nat.le_refl _)
  obtain ⟨r, h1, h2, h3⟩ := this
  rw [lbN_is h1 h2 h3]
  exact ⟨h2, h3⟩
theorem here_iff {l : PL} {key : Int} : hereB l key = true ↔ ∃ i, i < l.length ∧ ky l i = key := by
  unfold hereB
  rw [List.any_eq_true]
  constructor
  · rintro ⟨p, hp, he⟩
    obtain ⟨i, hi, rfl⟩ := List.getElem_of_mem hp
    exact ⟨i, hi, by rw [ky_get hi] at he; simpa using he⟩
  · rintro ⟨i, hi, he⟩
    exact ⟨l[i], List.getElem_mem hi, by rw [ky_get hi]; simpa using he⟩
/-- In a row it is there just if it stands where it would. -/
theorem here_at {l : PL} (h : riseB l = true) (key : Int) : hereB l key = (decide (lbN l key < l.length) && ky l (lbN l key) == key) := by
  obtain ⟨h1, h2⟩ := lbN_spec h key
  rw [Bool.eq_iff_iff, here_iff]
  simp only [Bool.and_eq_true, decide_eq_true_eq, beq_iff_eq]
  constructor
  · rintro ⟨i, hi, he⟩
    rcases (by omega : i < lbN l key ∨ lbN l key = i ∨ lbN l key < i) with h3 | h3 | h3
    · have := h1 i h3; omega
    · subst h3; exact ⟨hi, he⟩
    · have := h2 (lbN l key) (Nat.le_refl _) (by omega)
      have := rise_lt h h3 hi
      omega
  · rintro ⟨h3, h4⟩; exact ⟨_, h3, h4⟩

def putL (l : PL) (p : Int × Int) : PL := if hereB l p.1 = true then l else l.take (lbN l p.1) ++ [p] ++ l.drop (lbN l p.1)
def dropL (l : PL) (key : Int) : PL := if hereB l key = true then l.take (lbN l key) ++ l.drop (lbN l key + 1) else l
/-- The greatest key that isn't above one; the least one that isn't below it. -/
def floorL (l : PL) (key : Int) : Option (Int × Int) := (l.filter fun p => decide (p.1 ≤ key)).getLast?
def ceilL (l : PL) (key : Int) : Option (Int × Int) := l.find? fun p => decide (key ≤ p.1)
def opt (o : Option (Int × Int)) : Int × Int := o.getD (0, 0)
theorem floor_snoc (l : PL) (p : Int × Int) (key : Int) : floorL (l ++ [p]) key = if p.1 ≤ key then some p else floorL l key := by
  unfold floorL; rw [List.filter_append]
  by_cases h : p.1 ≤ key <;> simp [List.filter_cons, h]
theorem floor_take {l : PL} {r : Nat} {key : Int} (hr : r ≤ l.length) (h2 : ∀ k, r ≤ k → k < l.length → key < ky l k) : floorL l key = floorL (l.take r) key := by
  unfold floorL
  conv => lhs; rw [← List.take_append_drop r l, List.filter_append]
  have : (l.drop r).filter (fun p => decide (p.1 ≤ key)) = [] := by
    rw [List.filter_eq_nil_iff]
    intro p hp
    obtain ⟨i, hi, rfl⟩ := List.getElem_of_mem hp
    rw [ky_get hi, ky_drop]; simp at hi
    have := h2 (r + i) (by omega) (by omega); simp; omega
  rw [this, List.append_nil]
theorem floor_here {l : PL} (h : riseB l = true) {key : Int} (hh : hereB l key = true) : floorL l key = some (ky l (lbN l key), vl l (lbN l key)) := by
  have hA := here_at h key
  rw [hh] at hA
  have hA := hA.symm
  simp only [Bool.and_eq_true, decide_eq_true_eq, beq_iff_eq] at hA
  rw [floor_take (r := lbN l key + 1) (by omega) (fun k h1 h2 => by have := rise_lt h (show lbN l key < k by omega) h2; omega), take_one hA.1, floor_snoc, if_pos (by simp; omega)]
theorem floor_zero {l : PL} (h : riseB l = true) {key : Int} (hh : hereB l key = false) (h0 : lbN l key = 0) : floorL l key = none := by
  obtain ⟨h1, h2⟩ := lbN_spec h key
  rw [floor_take (r := 0) (by omega) (fun k _ hk => ?_)]
  · rfl
  · have := h2 k (by omega) hk
    rcases (by omega : ky l k = key ∨ key < ky l k) with e | e
    · rw [here_iff.2 ⟨k, hk, e⟩] at hh; cases hh
    · exact e
theorem floor_pos {l : PL} (h : riseB l = true) {key : Int} (hh : hereB l key = false) {r : Nat} (h0 : lbN l key = r + 1) : floorL l key = some (ky l r, vl l r) := by
  obtain ⟨h1, h2⟩ := lbN_spec h key
  have hl := lbN_le l key
  rw [h0] at h1 h2 hl
  rw [floor_take (r := r + 1) (by omega) (fun k h3 hk => ?_), take_one (by omega), floor_snoc, if_pos (by have := h1 r (by omega); simp; omega)]
  have := h2 k (by omega) hk
  rcases (by omega : ky l k = key ∨ key < ky l k) with e | e
  · rw [here_iff.2 ⟨k, hk, e⟩] at hh; cases hh
  · exact e
theorem ceil_at {l : PL} {key : Int} {r : Nat} (hr : r < l.length) (h1 : ∀ k, k < r → ky l k < key) (h2 : key ≤ ky l r) : ceilL l key = some (ky l r, vl l r) := by
  unfold ceilL
  rw [List.find?_eq_some_iff_append]
  refine ⟨by simpa using h2, l.take r, l.drop (r + 1), ?_, fun a ha => ?_⟩
  · rw [← drop_one hr, List.take_append_drop]
  · obtain ⟨i, hi, rfl⟩ := List.getElem_of_mem ha
    rw [ky_get hi]; simp at hi
    rw [ky_take (by omega)]
    have := h1 i (by omega); simp; omega
theorem ceil_none {l : PL} {key : Int} (h1 : ∀ k, k < l.length → ky l k < key) : ceilL l key = none := by
  unfold ceilL
  rw [List.find?_eq_none]
  intro a ha
  obtain ⟨i, hi, rfl⟩ := List.getElem_of_mem ha
  rw [ky_get hi]; have := h1 i hi; simp; omega
/-- The first ones between two keys. -/
def betw (l : PL) (lo hi : Int) : PL := l.filter fun p => decide (lo ≤ p.1 ∧ p.1 ≤ hi)
def cutL (l : PL) (lo hi limit : Int) : PL := (betw l lo hi).take limit.toNat
theorem betw_snoc (l : PL) (p : Int × Int) (lo hi : Int) : betw (l ++ [p]) lo hi = betw l lo hi ++ if lo ≤ p.1 ∧ p.1 ≤ hi then [p] else [] := by
  unfold betw; rw [List.filter_append]
  by_cases h : lo ≤ p.1 ∧ p.1 ≤ hi <;> simp [List.filter_cons, h]
theorem cut_snoc (l : PL) (p : Int × Int) (lo hi limit : Int) : cutL (l ++ [p]) lo hi limit = if lo ≤ p.1 ∧ p.1 ≤ hi ∧ ((cutL l lo hi limit).length : Int) < limit then cutL l lo hi limit ++ [p] else cutL l lo hi limit := by
  unfold cutL
  rw [betw_snoc]
  by_cases h : lo ≤ p.1 ∧ p.1 ≤ hi
  · rw [if_pos h, List.take_append, List.length_take]
    by_cases h3 : (betw l lo hi).length < limit.toNat
    · rw [if_pos ⟨h.1, h.2, by omega⟩, List.take_of_length_le (l := [p]) (by simp; omega)]
    · rw [if_neg (by rintro ⟨_, _, h4⟩; omega), show limit.toNat - (betw l lo hi).length = 0 by omega]; simp
  · rw [if_neg h, if_neg (by rintro ⟨h1, h2, _⟩; exact h ⟨h1, h2⟩)]; simp
theorem cut_len (l : PL) (lo hi limit : Int) : (cutL l lo hi limit).length ≤ l.length := by
  unfold cutL betw; rw [List.length_take]; have := List.length_filter_le (fun p : Int × Int => decide (lo ≤ p.1 ∧ p.1 ≤ hi)) l; omega
theorem betw_take {l : PL} {r : Nat} {lo hi : Int} (h2 : ∀ k, r ≤ k → k < l.length → ¬ (lo ≤ ky l k ∧ ky l k ≤ hi)) : betw l lo hi = betw (l.take r) lo hi := by
  unfold betw
  conv => lhs; rw [← List.take_append_drop r l, List.filter_append]
  have : (l.drop r).filter (fun p => decide (lo ≤ p.1 ∧ p.1 ≤ hi)) = [] := by
    rw [List.filter_eq_nil_iff]
    intro p hp
    obtain ⟨i, hi, rfl⟩ := List.getElem_of_mem hp
    rw [ky_get hi, ky_drop]; simp at hi
    have := h2 (r + i) (by omega) (by omega); simpa using this
  rw [this, List.append_nil]
theorem betw_nil {l : PL} {lo hi : Int} (h2 : ∀ k, k < l.length → ¬ (lo ≤ ky l k ∧ ky l k ≤ hi)) : betw l lo hi = [] := by
  rw [betw_take (r := 0) (fun k _ hk => h2 k hk)]; rfl
/-- A cut that is full stays. -/
theorem cut_full {l : PL} {r : Nat} {lo hi limit : Int} (h : limit ≤ ((cutL (l.take r) lo hi limit).length : Int)) : cutL l lo hi limit = cutL (l.take r) lo hi limit := by
  unfold cutL at *
  have e : betw l lo hi = betw (l.take r) lo hi ++ betw (l.drop r) lo hi := by
    unfold betw; rw [← List.filter_append, List.take_append_drop]
  rw [List.length_take] at h
  rw [e, List.take_append, show limit.toNat - (betw (l.take r) lo hi).length = 0 by omega]; simp

/-- The cells of a row. -/
def pcells (l : PL) : List Value := l.flatMap fun p => [.int .i64 p.1, .int .i64 p.2]
theorem pcells_nil : pcells [] = [] := rfl
theorem pcells_app (a b : PL) : pcells (a ++ b) = pcells a ++ pcells b := by simp [pcells]
theorem pcells_one (k v : Int) : pcells [(k, v)] = [.int .i64 k, .int .i64 v] := rfl
theorem pcells_len : ∀ l : PL, (pcells l).length = l.length * 2
  | [] => rfl
  | p :: l => by have := pcells_len l; simp only [pcells, List.flatMap_cons, List.length_append, List.length_cons, List.length_nil] at *; omega
theorem pcells_get : ∀ (l : PL) (i : Nat), i < l.length → (pcells l)[i * 2]? = some (.int .i64 (ky l i)) ∧ (pcells l)[i * 2 + 1]? = some (.int .i64 (vl l i))
  | [], i, h => by simp at h
  | p :: l, 0, h => by simp [pcells, ky, vl]
  | p :: l, i + 1, h => by
    have := pcells_get l i (by simpa using h)
    have e : pcells (p :: l) = .int .i64 p.1 :: .int .i64 p.2 :: pcells l := rfl
    rw [e, show (i + 1) * 2 = i * 2 + 1 + 1 by omega, show i * 2 + 1 + 1 + 1 = (i * 2 + 1) + 1 + 1 by omega]
    simp only [List.getElem?_cons_succ]
    simpa [ky, vl] using this
theorem pcells_one' : ∀ (l : PL), ∀ u ∈ pcells l, u.oneCell' = true := by
  intro l u hu
  simp only [pcells, List.mem_flatMap] at hu
  obtain ⟨p, _, hp⟩ := hu
  simp only [List.mem_cons, List.not_mem_nil, or_false] at hp
  rcases hp with rfl | rfl <;> rfl
theorem pcells_at {l : PL} {j : Nat} {u : Value} (h : (pcells l)[j]? = some u) : ∃ i, i < l.length ∧ ((j = i * 2 ∧ u = .int .i64 (ky l i)) ∨ (j = i * 2 + 1 ∧ u = .int .i64 (vl l i))) := by
  have hj := (List.getElem?_eq_some_iff.1 h).1
  rw [pcells_len] at hj
  obtain ⟨g0, g1⟩ := pcells_get l (j / 2) (by omega)
  refine ⟨j / 2, by omega, ?_⟩
  rcases (by omega : j = j / 2 * 2 ∨ j = j / 2 * 2 + 1) with e | e
  · left; refine ⟨e, ?_⟩; rw [← e, h] at g0; simpa using g0
  · right; refine ⟨e, ?_⟩; rw [← e, h] at g1; simpa using g1
end Go.Proofs.Ytminbfingjbbbaa
