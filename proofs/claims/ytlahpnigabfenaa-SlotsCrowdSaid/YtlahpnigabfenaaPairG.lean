/- PairG: several texts in one. -/
import Derived.WalkKit
import Derived.Test.YtlahpnigabfenaaExt
import Derived.Test.YtlahpnigabfenaaRows
import Derived.ProofKit
import Derived.Outline
import Derived.Lib.Hide
import Derived.Deep.Cut
import Derived.BigQuiet
import Derived.Test.YtlahpnigabfenaaMix
import Derived.Laws.AppendOwn
import Derived.Laws.AppendOwnNone
import Derived.OwnWalk
import Derived.Lib.LazyBuf
/- Rows of pairs: the mathematics. Nothing of the program. -/
namespace Go.Proofs.Ytlahpnigabfenaa.Th
set_option linter.unusedVariables false
set_option linter.unusedSimpArgs false

abbrev PL := List (Int × Int)
def ky (l : PL) (i : Nat) : Int := (l.getD i (0, 0)).1
def vl (l : PL) (i : Nat) : Int := (l.getD i (0, 0)).2
theorem ky_get {l : PL} {i : Nat} (h : i < l.length) : l[i] = (ky l i, vl l i) := by simp [ky, vl, h]
theorem ky_app_l {a b : PL} {i : Nat} (h : i < a.length) : ky (a ++ b) i = ky a i := by simp [ky, List.getD_eq_getElem?_getD, List.getElem?_append_left h]
theorem vl_app_l {a b : PL} {i : Nat} (h : i < a.length) : vl (a ++ b) i = vl a i := by simp [vl, List.getD_eq_getElem?_getD, List.getElem?_append_left h]
theorem ky_app_r {a b : PL} {i : Nat} (h : a.length ≤ i) : ky (a ++ b) i = ky b (i - a.length) := by simp [ky, List.getD_eq_getElem?_getD, List.getElem?_append_right h]
theorem vl_app_r {a b : PL} {i : Nat} (h : a.length ≤ i) : vl (a ++ b) i = vl b (i - a.length) := by simp [vl, List.getD_eq_getElem?_getD, List.getElem?_append_right h]
theorem ky_drop (l : PL) (k i : Nat) : ky (l.drop k) i = ky l (k + i) := by simp [ky, List.getD_eq_getElem?_getD, List.getElem?_drop]
theorem vl_drop (l : PL) (k i : Nat) : vl (l.drop k) i = vl l (k + i) := by simp [vl, List.getD_eq_getElem?_getD, List.getElem?_drop]
theorem ky_take {l : PL} {k i : Nat} (h : i < k) : ky (l.take k) i = ky l i := by simp [ky, List.getD_eq_getElem?_getD, List.getElem?_take_of_lt h]
theorem vl_take {l : PL} {k i : Nat} (h : i < k) : vl (l.take k) i = vl l i := by simp [vl, List.getD_eq_getElem?_getD, List.getElem?_take_of_lt h]
theorem take_one {l : PL} {i : Nat} (h : i < l.length) : l.take (i + 1) = l.take i ++ [(ky l i, vl l i)] := by
  rw [List.take_succ_eq_append_getElem h, ky_get h]
theorem drop_one {l : PL} {i : Nat} (h : i < l.length) : l.drop i = (ky l i, vl l i) :: l.drop (i + 1) := by
  rw [List.drop_eq_getElem_cons h, ky_get h]
theorem pl_ext {a b : PL} (hl : a.length = b.length) (h : ∀ i, i < a.length → ky a i = ky b i ∧ vl a i = vl b i) : a = b := by
  refine List.ext_getElem hl fun i h1 h2 => ?_
  rw [ky_get h1, ky_get h2, (h i h1).1, (h i h1).2]

/-- Do keys rise? -/
def riseB (l : PL) : Bool := decide (∀ i, i < l.length → i + 1 < l.length → ky l i < ky l (i + 1))
theorem rise_next {l : PL} (h : riseB l = true) {i : Nat} (hi : i + 1 < l.length) : ky l i < ky l (i + 1) := of_decide_eq_true h i (by omega) hi
theorem rise_lt {l : PL} (h : riseB l = true) : ∀ {j i : Nat}, i < j → j < l.length → ky l i < ky l j
  | 0, i, hij, _ => by omega
  | j + 1, i, hij, hj => by
    rcases (by omega : i = j ∨ i < j) with rfl | h1
    · exact rise_next h hj
    · have := rise_lt h h1 (by omega); have := rise_next h hj; omega
theorem rise_of {l : PL} (h : ∀ i, i + 1 < l.length → ky l i < ky l (i + 1)) : riseB l = true := decide_eq_true fun i _ hi => h i hi
theorem rise_not {l : PL} {i : Nat} (hi : i + 1 < l.length) (h : ky l (i + 1) ≤ ky l i) : riseB l = false := decide_eq_false fun k => by have := k i (by omega) hi; omega

/-- How many keys are less; whether it is there. -/
def lbN (l : PL) (key : Int) : Nat := (l.filter fun p => decide (p.1 < key)).length
def hereB (l : PL) (key : Int) : Bool := l.any fun p => p.1 == key
theorem lbN_le (l : PL) (key : Int) : lbN l key ≤ l.length := List.length_filter_le _ _
theorem lbN_snoc (l : PL) (p : Int × Int) (key : Int) : lbN (l ++ [p]) key = lbN l key + if p.1 < key then 1 else 0 := by
  unfold lbN; rw [List.filter_append, List.length_append]
  by_cases h : p.1 < key <;> simp [List.filter_cons, h]
theorem hereB_snoc (l : PL) (p : Int × Int) (key : Int) : hereB (l ++ [p]) key = (hereB l key || p.1 == key) := by simp [hereB]
theorem lbN_all : ∀ (l : PL) (key : Int), (∀ i, i < l.length → ky l i < key) → lbN l key = l.length
  | [], _, _ => rfl
  | p :: l, key, h => by
    have h0 := h 0 (by simp)
    have h1 := lbN_all l key (fun i hi => by have := h (i + 1) (by simpa using hi); simpa [ky] using this)
    have : p.1 < key := by simpa [ky] using h0
    unfold lbN at *
    simp [List.filter_cons, this, h1]
theorem lbN_none : ∀ (l : PL) (key : Int), (∀ i, i < l.length → key ≤ ky l i) → lbN l key = 0
  | [], _, _ => rfl
  | p :: l, key, h => by
    have h0 := h 0 (by simp)
    have h1 := lbN_none l key (fun i hi => by have := h (i + 1) (by simpa using hi); simpa [ky] using this)
    have : ¬ p.1 < key := by have : key ≤ p.1 := by simpa [ky] using h0
                             omega
    unfold lbN at *
    simp [List.filter_cons, this, h1]
theorem lbN_is {l : PL} {key : Int} {r : Nat} (hr : r ≤ l.length) (h1 : ∀ k, k < r → ky l k < key) (h2 : ∀ k, r ≤ k → k < l.length → key ≤ ky l k) : lbN l key = r := by
  have e : lbN l key = lbN (l.take r) key + lbN (l.drop r) key := by
    unfold lbN; rw [← List.length_append, ← List.filter_append, List.take_append_drop]
  have hl : (l.take r).length = r := by simp; omega
  rw [e, lbN_all (l.take r) key (fun i hi => by rw [ky_take (by omega)]; exact h1 i (by omega)), lbN_none (l.drop r) key (fun i hi => by rw [ky_drop]; simp at hi; exact h2 _ (by omega) (by omega)), hl]
  omega
/-- In a row: all ahead of it are less, all behind it aren't. -/
theorem lbN_spec {l : PL} (h : riseB l = true) (key : Int) : (∀ k, k < lbN l key → ky l k < key) ∧ ∀ k, lbN l key ≤ k → k < l.length → key ≤ ky l k := by
  have : ∃ r, r ≤ l.length ∧ (∀ k, k < r → ky l k < key) ∧ ∀ k, r ≤ k → k < l.length → key ≤ ky l k := by
    have : ∀ m, m ≤ l.length → ∃ r, r ≤ m ∧ (∀ k, k < r → ky l k < key) ∧ ∀ k, r ≤ k → k < m → key ≤ ky l k := by
      intro m
      induction m with
      | zero => intro _; exact ⟨0, Nat.le_refl _, by omega, by omega⟩
      | succ m ih =>
        intro hm
        obtain ⟨r, h1, h2, h3⟩ := ih (by omega)
        by_cases hk : ky l m < key
        · refine ⟨m + 1, Nat.le_refl _, fun k hk' => ?_, by omega⟩
          rcases (by omega : k = m ∨ k < m) with rfl | h4
          · exact hk
          · have := rise_lt h h4 (by omega); omega
        · refine ⟨r, by omega, h2, fun k h4 h5 => ?_⟩
          rcases (by omega : k = m ∨ k < m) with rfl | h6
          · omega
          · exact h3 k h4 h6
    exact this l.length (Nat.le_refl _)
  obtain ⟨r, h1, h2, h3⟩ := this
  rw [lbN_is h1 h2 h3]
  exact ⟨h2, h3⟩
theorem here_iff {l : PL} {key : Int} : hereB l key = true ↔ ∃ i, i < l.length ∧ ky l i = key := by
  unfold hereB
  rw [List.any_eq_true]
  constructor
  · rintro ⟨p, hp, he⟩
    obtain ⟨i, hi, rfl⟩ := List.getElem_of_mem hp
    exact ⟨i, hi, by rw [ky_get hi] at he; simpa using he⟩
  · rintro ⟨i, hi, he⟩
    exact ⟨l[i], List.getElem_mem hi, by rw [ky_get hi]; simpa using he⟩
/-- In a row it is there just if it stands where it would. -/
theorem here_at {l : PL} (h : riseB l = true) (key : Int) : hereB l key = (decide (lbN l key < l.length) && ky l (lbN l key) == key) := by
  obtain ⟨h1, h2⟩ := lbN_spec h key
  rw [Bool.eq_iff_iff, here_iff]
  simp only [Bool.and_eq_true, decide_eq_true_eq, beq_iff_eq]
  constructor
  · rintro ⟨i, hi, he⟩
    rcases (by omega : i < lbN l key ∨ lbN l key = i ∨ lbN l key < i) with h3 | h3 | h3
    · have := h1 i h3; omega
    · subst h3; exact ⟨hi, he⟩
    · have := h2 (lbN l key) (Nat.le_refl _) (by omega)
      have := rise_lt h h3 hi
      omega
  · rintro ⟨h3, h4⟩; exact ⟨_, h3, h4⟩

def putL (l : PL) (p : Int × Int) : PL := if hereB l p.1 = true then l else l.take (lbN l p.1) ++ [p] ++ l.drop (lbN l p.1)
def dropL (l : PL) (key : Int) : PL := if hereB l key = true then l.take (lbN l key) ++ l.drop (lbN l key + 1) else l
/-- The greatest key that isn't above one; the least one that isn't below it. -/
def floorL (l : PL) (key : Int) : Option (Int × Int) := (l.filter fun p => decide (p.1 ≤ key)).getLast?
def ceilL (l : PL) (key : Int) : Option (Int × Int) := l.find? fun p => decide (key ≤ p.1)
def opt (o : Option (Int × Int)) : Int × Int := o.getD (0, 0)
theorem floor_snoc (l : PL) (p : Int × Int) (key : Int) : floorL (l ++ [p]) key = if p.1 ≤ key then some p else floorL l key := by
  unfold floorL; rw [List.filter_append]
  by_cases h : p.1 ≤ key <;> simp [List.filter_cons, h]
theorem floor_take {l : PL} {r : Nat} {key : Int} (hr : r ≤ l.length) (h2 : ∀ k, r ≤ k → k < l.length → key < ky l k) : floorL l key = floorL (l.take r) key := by
  unfold floorL
  conv => lhs; rw [← List.take_append_drop r l, List.filter_append]
  have : (l.drop r).filter (fun p => decide (p.1 ≤ key)) = [] := by
    rw [List.filter_eq_nil_iff]
    intro p hp
    obtain ⟨i, hi, rfl⟩ := List.getElem_of_mem hp
    rw [ky_get hi, ky_drop]; simp at hi
    have := h2 (r + i) (by omega) (by omega); simp; omega
  rw [this, List.append_nil]
theorem floor_here {l : PL} (h : riseB l = true) {key : Int} (hh : hereB l key = true) : floorL l key = some (ky l (lbN l key), vl l (lbN l key)) := by
  have hA := here_at h key
  rw [hh] at hA
  have hA := hA.symm
  simp only [Bool.and_eq_true, decide_eq_true_eq, beq_iff_eq] at hA
  rw [floor_take (r := lbN l key + 1) (by omega) (fun k h1 h2 => by have := rise_lt h (show lbN l key < k by omega) h2; omega), take_one hA.1, floor_snoc, if_pos (by simp; omega)]
theorem floor_zero {l : PL} (h : riseB l = true) {key : Int} (hh : hereB l key = false) (h0 : lbN l key = 0) : floorL l key = none := by
  obtain ⟨h1, h2⟩ := lbN_spec h key
  rw [floor_take (r := 0) (by omega) (fun k _ hk => ?_)]
  · rfl
  · have := h2 k (by omega) hk
    rcases (by omega : ky l k = key ∨ key < ky l k) with e | e
    · rw [here_iff.2 ⟨k, hk, e⟩] at hh; cases hh
    · exact e
theorem floor_pos {l : PL} (h : riseB l = true) {key : Int} (hh : hereB l key = false) {r : Nat} (h0 : lbN l key = r + 1) : floorL l key = some (ky l r, vl l r) := by
  obtain ⟨h1, h2⟩ := lbN_spec h key
  have hl := lbN_le l key
  rw [h0] at h1 h2 hl
  rw [floor_take (r := r + 1) (by omega) (fun k h3 hk => ?_), take_one (by omega), floor_snoc, if_pos (by have := h1 r (by omega); simp; omega)]
  have := h2 k (by omega) hk
  rcases (by omega : ky l k = key ∨ key < ky l k) with e | e
  · rw [here_iff.2 ⟨k, hk, e⟩] at hh; cases hh
  · exact e
theorem ceil_at {l : PL} {key : Int} {r : Nat} (hr : r < l.length) (h1 : ∀ k, k < r → ky l k < key) (h2 : key ≤ ky l r) : ceilL l key = some (ky l r, vl l r) := by
  unfold ceilL
  rw [List.find?_eq_some_iff_append]
  refine ⟨by simpa using h2, l.take r, l.drop (r + 1), ?_, fun a ha => ?_⟩
  · rw [← drop_one hr, List.take_append_drop]
  · obtain ⟨i, hi, rfl⟩ := List.getElem_of_mem ha
    rw [ky_get hi]; simp at hi
    rw [ky_take (by omega)]
    have := h1 i (by omega); simp; omega
theorem ceil_none {l : PL} {key : Int} (h1 : ∀ k, k < l.length → ky l k < key) : ceilL l key = none := by
  unfold ceilL
  rw [List.find?_eq_none]
  intro a ha
  obtain ⟨i, hi, rfl⟩ := List.getElem_of_mem ha
  rw [ky_get hi]; have := h1 i hi; simp; omega
/-- The first ones between two keys. -/
def betw (l : PL) (lo hi : Int) : PL := l.filter fun p => decide (lo ≤ p.1 ∧ p.1 ≤ hi)
def cutL (l : PL) (lo hi limit : Int) : PL := (betw l lo hi).take limit.toNat
theorem betw_snoc (l : PL) (p : Int × Int) (lo hi : Int) : betw (l ++ [p]) lo hi = betw l lo hi ++ if lo ≤ p.1 ∧ p.1 ≤ hi then [p] else [] := by
  unfold betw; rw [List.filter_append]
  by_cases h : lo ≤ p.1 ∧ p.1 ≤ hi <;> simp [List.filter_cons, h]
theorem cut_snoc (l : PL) (p : Int × Int) (lo hi limit : Int) : cutL (l ++ [p]) lo hi limit = if lo ≤ p.1 ∧ p.1 ≤ hi ∧ ((cutL l lo hi limit).length : Int) < limit then cutL l lo hi limit ++ [p] else cutL l lo hi limit := by
  unfold cutL
  rw [betw_snoc]
  by_cases h : lo ≤ p.1 ∧ p.1 ≤ hi
  · rw [if_pos h, List.take_append, List.length_take]
    by_cases h3 : (betw l lo hi).length < limit.toNat
    · rw [if_pos ⟨h.1, h.2, by omega⟩, List.take_of_length_le (l := [p]) (by simp; omega)]
    · rw [if_neg (by rintro ⟨_, _, h4⟩; omega), show limit.toNat - (betw l lo hi).length = 0 by omega]; simp
  · rw [if_neg h, if_neg (by rintro ⟨h1, h2, _⟩; exact h ⟨h1, h2⟩)]; simp
theorem cut_len (l : PL) (lo hi limit : Int) : (cutL l lo hi limit).length ≤ l.length := by
  unfold cutL betw; rw [List.length_take]; have := List.length_filter_le (fun p : Int × Int => decide (lo ≤ p.1 ∧ p.1 ≤ hi)) l; omega
theorem betw_take {l : PL} {r : Nat} {lo hi : Int} (h2 : ∀ k, r ≤ k → k < l.length → ¬ (lo ≤ ky l k ∧ ky l k ≤ hi)) : betw l lo hi = betw (l.take r) lo hi := by
  unfold betw
  conv => lhs; rw [← List.take_append_drop r l, List.filter_append]
  have : (l.drop r).filter (fun p => decide (lo ≤ p.1 ∧ p.1 ≤ hi)) = [] := by
    rw [List.filter_eq_nil_iff]
    intro p hp
    obtain ⟨i, hi, rfl⟩ := List.getElem_of_mem hp
    rw [ky_get hi, ky_drop]; simp at hi
    have := h2 (r + i) (by omega) (by omega); simpa using this
  rw [this, List.append_nil]
theorem betw_nil {l : PL} {lo hi : Int} (h2 : ∀ k, k < l.length → ¬ (lo ≤ ky l k ∧ ky l k ≤ hi)) : betw l lo hi = [] := by
  rw [betw_take (r := 0) (fun k _ hk => h2 k hk)]; rfl
/-- A cut that is full stays. -/
theorem cut_full {l : PL} {r : Nat} {lo hi limit : Int} (h : limit ≤ ((cutL (l.take r) lo hi limit).length : Int)) : cutL l lo hi limit = cutL (l.take r) lo hi limit := by
  unfold cutL at *
  have e : betw l lo hi = betw (l.take r) lo hi ++ betw (l.drop r) lo hi := by
    unfold betw; rw [← List.filter_append, List.take_append_drop]
  rw [List.length_take] at h
  rw [e, List.take_append, show limit.toNat - (betw (l.take r) lo hi).length = 0 by omega]; simp

/-- The cells of a row. -/
def pcells (l : PL) : List Value := l.flatMap fun p => [.int .i64 p.1, .int .i64 p.2]
theorem pcells_nil : pcells [] = [] := rfl
theorem pcells_app (a b : PL) : pcells (a ++ b) = pcells a ++ pcells b := by simp [pcells]
theorem pcells_one (k v : Int) : pcells [(k, v)] = [.int .i64 k, .int .i64 v] := rfl
theorem pcells_len : ∀ l : PL, (pcells l).length = l.length * 2
  | [] => rfl
  | p :: l => by have := pcells_len l; simp only [pcells, List.flatMap_cons, List.length_append, List.length_cons, List.length_nil] at *; omega
theorem pcells_get : ∀ (l : PL) (i : Nat), i < l.length → (pcells l)[i * 2]? = some (.int .i64 (ky l i)) ∧ (pcells l)[i * 2 + 1]? = some (.int .i64 (vl l i))
  | [], i, h => by simp at h
  | p :: l, 0, h => by simp [pcells, ky, vl]
  | p :: l, i + 1, h => by
    have := pcells_get l i (by simpa using h)
    have e : pcells (p :: l) = .int .i64 p.1 :: .int .i64 p.2 :: pcells l := rfl
    rw [e, show (i + 1) * 2 = i * 2 + 1 + 1 by omega, show i * 2 + 1 + 1 + 1 = (i * 2 + 1) + 1 + 1 by omega]
    simp only [List.getElem?_cons_succ]
    simpa [ky, vl] using this
theorem pcells_one' : ∀ (l : PL), ∀ u ∈ pcells l, u.oneCell' = true := by
  intro l u hu
  simp only [pcells, List.mem_flatMap] at hu
  obtain ⟨p, _, hp⟩ := hu
  simp only [List.mem_cons, List.not_mem_nil, or_false] at hp
  rcases hp with rfl | rfl <;> rfl
theorem pcells_at {l : PL} {j : Nat} {u : Value} (h : (pcells l)[j]? = some u) : ∃ i, i < l.length ∧ ((j = i * 2 ∧ u = .int .i64 (ky l i)) ∨ (j = i * 2 + 1 ∧ u = .int .i64 (vl l i))) := by
  have hj := (List.getElem?_eq_some_iff.1 h).1
  rw [pcells_len] at hj
  obtain ⟨g0, g1⟩ := pcells_get l (j / 2) (by omega)
  refine ⟨j / 2, by omega, ?_⟩
  rcases (by omega : j = j / 2 * 2 ∨ j = j / 2 * 2 + 1) with e | e
  · left; refine ⟨e, ?_⟩; rw [← e, h] at g0; simpa using g0
  · right; refine ⟨e, ?_⟩; rw [← e, h] at g1; simpa using g1
end Go.Proofs.Ytlahpnigabfenaa.Th

/- Layer 8's contracts, those that only read: rises, the same, where a key stands. -/
namespace Go.Proofs.Ytlahpnigabfenaa.Th
open Go.RowKit
set_option linter.unusedVariables false
set_option linter.unusedSimpArgs false

theorem Calls.veil {P : Program} {f : FuncId} {args : Array Value} {w : World} {R : Ending → World → Prop} (h : ∀ Q : Ending → World → Prop, Hid (Q = R) → Calls P f args w Q) : Calls P f args w R := h R rfl

theorem ret_bool {a b : Bool} (h : a = b) : Ending.returned (.bool a) = .returned (.bool b) := by rw [h]
theorem ret_int {k : IntKind} {a b : Int} (h : a = b) : Ending.returned (.int k a) = .returned (.int k b) := by rw [h]
/-- A slice of pairs. -/
inductive PR (w : World) : Value → PL → Prop
  | nil : PR w (.slice none 0 0) []
  | odd (a : Addr) (c : Nat) : c ≤ 9223372036854775807 → PR w (.slice (some a) 0 c) []
  | row (g o c : Nat) (l : PL) : l.length ≤ c → c ≤ 9223372036854775807 → (∀ i, i < l.length → w.cell? ⟨g, o + i * 2, none⟩ = some (.int .i64 (ky l i)) ∧ w.cell? ⟨g, o + i * 2 + 1, none⟩ = some (.int .i64 (vl l i))) → PR w (.slice (some ⟨g, o, none⟩) l.length c) l
theorem PR.below {w w' : World} {v : Value} {l : PL} (h : PR w v l) (k : Below w.heap.size w w') : PR w' v l := by
  cases h with
  | nil => exact .nil
  | odd a c h1 => exact .odd a c h1
  | row g o c l h1 h2 h3 => exact .row g o c l h1 h2 fun i hi => ⟨(Ext.cell ⟨w', k⟩ (h3 i hi).1), (Ext.cell ⟨w', k⟩ (h3 i hi).2)⟩
theorem PR.opened {w : World} {v : Value} {l : PL} (h : PR w v l) (h0 : 0 < l.length) : ∃ g o c, v = .slice (some ⟨g, o, none⟩) l.length c ∧ l.length ≤ c ∧ c ≤ 9223372036854775807 ∧ Hid (∀ i, i < l.length → w.cell? ⟨g, o + i * 2, none⟩ = some (.int .i64 (ky l i)) ∧ w.cell? ⟨g, o + i * 2 + 1, none⟩ = some (.int .i64 (vl l i))) := by
  cases h with
  | nil => simp at h0
  | odd a c _ => simp at h0
  | row g o c _ h1 h2 h3 => exact ⟨g, o, c, rfl, h1, h2, h3⟩
theorem PR.slice {w : World} {v : Value} {l : PL} (h : PR w v l) : ∃ p c, v = .slice p l.length c ∧ l.length ≤ c ∧ c ≤ 9223372036854775807 := by
  cases h with
  | nil => exact ⟨_, _, rfl, Nat.le_refl _, by decide⟩
  | odd a c h1 => exact ⟨_, _, rfl, by simp, h1⟩
  | row g o c _ h1 h2 h3 => exact ⟨_, _, rfl, h1, h2⟩
theorem PR.parts {w : World} {v : Value} {l : PL} (h : PR w v l) : ∃ p c, v = .slice p l.length c ∧ l.length ≤ c ∧ c ≤ 9223372036854775807 ∧ Hid (∀ i, i < l.length → ∃ g o, p = some ⟨g, o, none⟩ ∧ w.cell? ⟨g, o + i * 2, none⟩ = some (.int .i64 (ky l i)) ∧ w.cell? ⟨g, o + i * 2 + 1, none⟩ = some (.int .i64 (vl l i))) := by
  cases h with
  | nil => exact ⟨_, _, rfl, Nat.le_refl _, by decide, fun i hi => by simp at hi⟩
  | odd a c h1 => exact ⟨_, _, rfl, by simp, h1, fun i hi => by simp at hi⟩
  | row g o c _ h1 h2 h3 => exact ⟨_, _, rfl, h1, h2, fun i hi => ⟨g, o, rfl, h3 i hi⟩⟩
theorem scO {w : World} {a b : Addr} {v u : Value} (k : w.cell? b = some u) (h : a ≠ b) : (w.setCell a v).cell? b = some u := (World.cell?_setCell_other w a b v h).trans k
theorem scS {w : World} {a : Addr} {v u : Value} (h : w.cell? a = some u) : (w.setCell a v).cell? a = some v := World.cell?_setCell_same w a v h
theorem scF {w : World} {a b : Addr} {v : Value} (h : w.frozen? b = false) : (w.setCell a v).frozen? b = false := (World.frozen?_setCell w a b v).trans h
/-- A variable of the type of a pair. -/
structure Cell2 (w : World) (b : Nat) (x y : Int) : Prop where
  c0 : w.cell? ⟨b, 0, none⟩ = some (.int .i64 x)
  c1 : w.cell? ⟨b, 1, none⟩ = some (.int .i64 y)
  f : ∀ i, w.frozen? ⟨b, i, none⟩ = false
theorem Cell2.new (w : World) (x y : Int) (T : TypeId) : Cell2 (w.alloc (.cells #[.int .i64 x, .int .i64 y] T)) w.heap.size x y :=
  ⟨Ext.made_in rfl (Below.refl _ _) 0 _ rfl, Ext.made_in rfl (Below.refl _ _) 1 _ rfl, Ext.made_fr rfl (Below.refl _ _)⟩
theorem Cell2.below {w w' : World} {b : Nat} {x y : Int} (h : Cell2 w b x y) (k : Below w.heap.size w w') : Cell2 w' b x y :=
  ⟨Ext.cell ⟨w', k⟩ h.c0, Ext.cell ⟨w', k⟩ h.c1, fun i => (k.frozen (p := ⟨b, i, none⟩) (World.block_lt_of_cell? w ⟨b, 0, none⟩ h.c0)).trans (h.f i)⟩
theorem Cell2.put {w : World} {b : Nat} {x y : Int} (h : Cell2 w b x y) (X Y : Int) : Cell2 ((w.setCell ⟨b, 0, none⟩ (.int .i64 X)).setCell ⟨b, 1, none⟩ (.int .i64 Y)) b X Y :=
  ⟨scO (scS h.c0) (by simp), scS (scO h.c1 (by simp)), fun i => scF (scF (h.f i))⟩
theorem Cell2.other {w : World} {b c i : Nat} {x y : Int} {v : Value} (h : Cell2 w b x y) (hb : c ≠ b) : Cell2 (w.setCell ⟨c, i, none⟩ v) b x y :=
  ⟨scO h.c0 (by simp [hb]), scO h.c1 (by simp [hb]), fun i => scF (h.f i)⟩
theorem PR.other {w : World} {b i : Nat} {v u : Value} {l : PL} (h : PR w v l) (B : Nat) (hB : B ≤ b) (hl : ∀ g o c, v = .slice (some ⟨g, o, none⟩) l.length c → 0 < l.length → g < B) : PR (w.setCell ⟨b, i, none⟩ u) v l := by
  cases h with
  | nil => exact .nil
  | odd a c h1 => exact .odd a c h1
  | row g o c _ h1 h2 h3 =>
    refine .row g o c l h1 h2 fun i hi => ?_
    have := hl g o c rfl (by omega)
    exact ⟨scO (h3 i hi).1 (by intro e; injection e; omega), scO (h3 i hi).2 (by intro e; injection e; omega)⟩
theorem below_setB {B : Nat} {w W : World} {c i : Nat} {v : Value} (h : Below B w W) (hc : B ≤ c) : Below B w (W.setCell ⟨c, i, none⟩ v) := h.setCell (p := ⟨c, i, none⟩) hc v
theorem PR.alloc {w : World} {v : Value} {l : PL} (h : PR w v l) (o : Obj) : PR (w.alloc o) v l := h.below (by (repeat (first | exact Below.refl _ _ | assumption | refine below_new ?_ _ | refine Below.drew ?_ | refine below_drewN ?_ _ | refine below_on ?_ (by assumption))))


def sameB (a b : PL) : Bool := decide (a = b)
theorem same_len {a b : PL} (h : a.length ≠ b.length) : sameB a b = false := decide_eq_false fun e => h (by rw [e])
theorem same_all {a b : PL} (hl : a.length = b.length) (h : ∀ i, i < a.length → ky a i = ky b i ∧ vl a i = vl b i) : sameB a b = true := decide_eq_true (pl_ext hl h)
theorem same_not {a b : PL} {i : Nat} (hi : i < a.length) (h : ¬ (ky a i = ky b i ∧ vl a i = vl b i)) : sameB a b = false := decide_eq_false fun e => h (by rw [e]; exact ⟨rfl, rfl⟩)

end Go.Proofs.Ytlahpnigabfenaa.Th

/- Layer 8's contracts that only read, further. -/
namespace Go.Proofs.Ytlahpnigabfenaa.Th
open Go.RowKit
set_option linter.unusedVariables false
set_option linter.unusedSimpArgs false



end Go.Proofs.Ytlahpnigabfenaa.Th

/- Layer 8's contracts: the reference's At; floor and ceiling. -/
namespace Go.Proofs.Ytlahpnigabfenaa.Th
open Go.RowKit
set_option linter.unusedVariables false
set_option linter.unusedSimpArgs false

end Go.Proofs.Ytlahpnigabfenaa.Th

/- Layer 8's contracts that make rows. -/
namespace Go.Proofs.Ytlahpnigabfenaa.Th
open Go.RowKit
set_option linter.unusedVariables false
set_option linter.unusedSimpArgs false

theorem uPL : Try.prog.underlying 48 = some (.slice 156) := by kernel_rfl
theorem infoPair : (Try.prog.info? 156).map (fun i => (i.zero, i.size, i.bytes)) = some (some (.agg #[.int .i64 0, .int .i64 0]), 2, 16) := by kernel_rfl

abbrev OwnP (w : World) (B : Nat) (v : Value) (l : PL) : Prop := w.ownsRow B 156 2 v l.length (pcells l)
theorem own_PR {w : World} {B : Nat} {v : Value} {l : PL} (h : OwnP w B v l) : PR w v l := by
  rcases h.2 with ⟨rfl, h0⟩ | ⟨g, cap, cur, hv, hg, hh, hc, hm, hs, ht⟩
  · have e : l = [] := List.eq_nil_of_length_eq_zero h0
    subst e; exact .nil
  · subst hv
    refine .row g 0 cap l hc hm fun i hi => ?_
    obtain ⟨g0, g1⟩ := pcells_get l i hi
    have hl := pcells_len l
    rw [← ht, List.getElem?_take_of_lt (by omega)] at g0 g1
    refine ⟨?_, ?_⟩
    · rw [cell_of_row _ g _ _ _ (0, 0) hh]; simpa using g0
    · rw [cell_of_row _ g _ _ _ (0, 0) hh]; simpa using g1
theorem own_none (w : World) : OwnP (w.alloc (.cells #[] 156)) w.heap.size (.slice (some ⟨w.heap.size, 0, none⟩) 0 0) [] :=
  ⟨rfl, .inr ⟨_, 0, _, rfl, Nat.le_refl _, heap_alloc_new w _, Nat.le_refl _, by decide, rfl, rfl⟩⟩
theorem own_nil (w : World) (B : Nat) : OwnP w B (.slice none 0 0) [] := ⟨rfl, .inl ⟨rfl, rfl⟩⟩
theorem own_ge {w : World} {B : Nat} {e : TypeId} {size : Nat} {v : Value} {n : Nat} {xs : List Value} (h : w.ownsRow B e size v n xs) : ∀ k, v.ownBlock = some k → B ≤ k := by
  intro k hk
  rcases h.2 with ⟨rfl, _⟩ | ⟨g, cap, cur, rfl, hg, _⟩
  · cases hk
  · simp only [Value.ownBlock, Option.some.injEq] at hk; omega
theorem grow_step {W w0 w1 : World} {B : Nat} {v : Value} {l : PL} (hown : OwnP w0 B v l) (hbel : Below B W w0) (hB : B ≤ W.heap.size) (hg : w0.grownBy w1 v.ownBlock) : Below B W w1 :=
  hbel.grown hg (by have := hbel.size; omega) (own_ge hown)
theorem addP (g o j : Nat) : ((⟨g, o, none⟩ : Addr).add j) = ⟨g, o + j, none⟩ := by simp only [Addr.add]; split <;> simp_all
theorem PR_news {w : World} {g o : Nat} {l : PL} (h : ∀ i, i < l.length → w.cell? ⟨g, o + i * 2, none⟩ = some (.int .i64 (ky l i)) ∧ w.cell? ⟨g, o + i * 2 + 1, none⟩ = some (.int .i64 (vl l i))) (j : Nat) (u : Value) (hu : (pcells l)[j]? = some u) : w.cell? ((⟨g, o, none⟩ : Addr).add j) = some u := by
  obtain ⟨i, hi, h1⟩ := pcells_at hu
  rw [addP]
  rcases h1 with ⟨rfl, rfl⟩ | ⟨rfl, rfl⟩
  · exact (h i hi).1
  · exact (h i hi).2

theorem wpList_append_pr {w : World} {ops : Array Oper} {rest : List Oper} {o : Oper} {a : Act} {Q : Exit → Act → World → Prop} (hgd : o.guard = none) (s x : Operand)
    (ho : o.op = .call { callee := .builtin .append, args := #[s, x], argTypes := #[48, 48] })
    (B : Nat) (v : Value) (l : PL) (hs : a.eval s = v) (hown : OwnP w B v l) (src : Value) (k : PL) (hx : a.eval x = src) (hp : PR w src k) (hlen : l.length + k.length ≤ 1000000) (hB : B ≤ w.heap.size)
    (h : ∀ v' w', OwnP w' B v' (l ++ k) → w.grownBy w' v.ownBlock → wpList Try.prog ops Q rest (a.put o.dst v') w') : wpList Try.prog ops Q (o :: rest) a w := by
  obtain ⟨i0, hi, hz0, hz1, hz2⟩ := info_parts infoPair
  cases hp with
  | nil => exact wpList_append_own_none hgd s x 48 ho B 156 i0 2 uPL hi v l.length (pcells l) hs hown hx (h v w (by simpa [OwnP] using hown) ⟨rfl, rfl, rfl, Nat.le_refl _, fun _ _ _ => rfl⟩)
  | odd ad c hc0 =>
    refine wpList_append_own _ hgd s x 48 ho B 156 i0 _ 2 16 uPL hi hz0 hz1 hz2 rfl (by decide) v l.length (pcells l) hs hown ad 0 c [] hx rfl (by simp) (by simp) (by unfold maxLen; omega) (by omega) hB ?_
    intro v' w' h4 h5 _
    exact h v' w' (by simpa [OwnP] using h4) h5
  | row g of c _ h1 h2 h3 =>
    refine wpList_append_own _ hgd s x 48 ho B 156 i0 _ 2 16 uPL hi hz0 hz1 hz2 rfl (by decide) v l.length (pcells l) hs hown ⟨g, of, none⟩ k.length c (pcells k) hx (pcells_len k) (PR_news h3) (pcells_one' k) (by unfold maxLen; omega) (by omega) hB ?_
    intro v' w' h4 h5 _
    exact h v' w' (by unfold OwnP; rw [List.length_append, pcells_app]; exact h4) h5

/-- So many rows, one behind the other. -/
def catL (ls : Nat → PL) : Nat → PL
  | 0 => []
  | k + 1 => catL ls k ++ ls k
theorem catL_len (ls : Nat → PL) (M : Nat) : ∀ k, (∀ i, i < k → (ls i).length ≤ M) → (catL ls k).length ≤ k * M
  | 0, _ => by simp [catL]
  | k + 1, h => by
    have := catL_len ls M k (fun i hi => h i (by omega))
    have := h k (by omega)
    simp only [catL, List.length_append]
    rw [Nat.add_mul]; omega
theorem PR.cast {w : World} {p : Option Addr} {n m c : Nat} {l : PL} (h : PR w (.slice p n c) l) (e : n = m) : PR w (.slice p m c) l := by subst e; exact h
theorem PR.mkrow {w : World} {g o n c : Nat} {l : PL} (hn : n = l.length) (hc : n ≤ c) (hm : c ≤ 9223372036854775807) (h : ∀ i, i < l.length → w.cell? ⟨g, o + i * 2, none⟩ = some (.int .i64 (ky l i)) ∧ w.cell? ⟨g, o + i * 2 + 1, none⟩ = some (.int .i64 (vl l i))) : PR w (.slice (some ⟨g, o, none⟩) n c) l := by
  subst hn; exact .row g o c l hc hm h
theorem PR.take {w : World} {g o c : Nat} {l : PL} (h : PR w (.slice (some ⟨g, o, none⟩) l.length c) l) {r : Nat} (hr : r ≤ l.length) : PR w (.slice (some ⟨g, o, none⟩) r c) (l.take r) := by
  obtain ⟨p, c', e, h1, h2, h3⟩ := h.parts
  injection e with e1 _ e2
  subst e2
  refine .mkrow (by simp; omega) (by omega) h2 fun i hi => ?_
  simp at hi
  obtain ⟨g', o', e3, c0, c1⟩ := h3.out i (by omega)
  rw [← e1] at e3
  injection e3 with e3
  injection e3 with e4 e5 _
  subst e4; subst e5
  rw [ky_take (by omega), vl_take (by omega)]
  exact ⟨c0, c1⟩
theorem PR.drop {w : World} {g o c : Nat} {l : PL} (h : PR w (.slice (some ⟨g, o, none⟩) l.length c) l) {r : Nat} (hr : r ≤ l.length) : PR w (.slice (some ⟨g, o + r * 2, none⟩) (l.length - r) (c - r)) (l.drop r) := by
  obtain ⟨p, c', e, h1, h2, h3⟩ := h.parts
  injection e with e1 _ e2
  subst e2
  refine .mkrow (by simp) (by omega) (by omega) fun i hi => ?_
  simp at hi
  obtain ⟨g', o', e3, c0, c1⟩ := h3.out (r + i) (by omega)
  rw [← e1] at e3
  injection e3 with e3
  injection e3 with e4 e5 _
  subst e4; subst e5
  rw [ky_drop, vl_drop, show o + r * 2 + i * 2 = o + (r + i) * 2 by omega]
  exact ⟨c0, c1⟩
theorem PR.drop_all {w : World} {g o c : Nat} {l : PL} (hc : c ≤ 9223372036854775807) : PR w (.slice (some ⟨g, o, none⟩) 0 c) (l.drop l.length) := by
  rw [List.drop_length]; exact .mkrow rfl (by omega) hc (by simp)
theorem PR.single {w : World} {k x : Int} {T : TypeId} : PR (w.alloc (.cells #[.int .i64 k, .int .i64 x] T)) (.slice (some ⟨w.heap.size, 0, none⟩) 1 1) [(k, x)] := by
  have := Cell2.new w k x T
  refine .mkrow rfl (by omega) (by omega) fun i hi => ?_
  have : i = 0 := by simpa using hi
  subst this
  exact ⟨this.c0, this.c1⟩
theorem putL_new {l : PL} {p : Int × Int} (h : hereB l p.1 = false) : putL l p = l.take (lbN l p.1) ++ [p] ++ l.drop (lbN l p.1) := by unfold putL; rw [h]; rfl
theorem putL_old {l : PL} {p : Int × Int} (h : hereB l p.1 = true) : putL l p = l := by unfold putL; rw [h]; rfl
theorem dropL_here {l : PL} {k : Int} (h : hereB l k = true) : dropL l k = l.take (lbN l k) ++ l.drop (lbN l k + 1) := by unfold dropL; rw [h]; rfl
theorem dropL_not {l : PL} {k : Int} (h : hereB l k = false) : dropL l k = l := by unfold dropL; rw [h]; rfl
end Go.Proofs.Ytlahpnigabfenaa.Th

/- Layer 8's contracts that make rows, further. -/
namespace Go.Proofs.Ytlahpnigabfenaa.Th
open Go.RowKit
set_option linter.unusedVariables false
set_option linter.unusedSimpArgs false

end Go.Proofs.Ytlahpnigabfenaa.Th

/- Rows of pairs that stay; a row of cells in a block of its own. -/
namespace Go.Proofs.Ytlahpnigabfenaa.Th
open Go.RowKit
set_option linter.unusedVariables false
set_option linter.unusedSimpArgs false
/-- Of what was there each row of pairs is as it was. -/
structure NP (w w' : World) : Prop where
  size : w.heap.size ≤ w'.heap.size
  keep : ∀ (k : Nat) (cur : Array Value), w.heap[k]? = some (.cells cur 156 (0, 0)) → w'.heap[k]? = some (.cells cur 156 (0, 0))
theorem NP.refl (w : World) : NP w w := ⟨Nat.le_refl _, fun _ _ h => h⟩
theorem NP.trans {a b c : World} (h : NP a b) (k : NP b c) : NP a c := ⟨Nat.le_trans h.size k.size, fun i cur hi => k.keep i cur (h.keep i cur hi)⟩
theorem NP.below {a b : World} (h : Below a.heap.size a b) : NP a b := ⟨h.size, fun k cur hk => by rw [h.block k (Array.getElem?_eq_some_iff.1 hk).1]; exact hk⟩
theorem NP.set {a : World} {b i : Nat} {cur : Array Value} {T : TypeId} {fr : Nat × Nat} (v : Value) (h : a.heap[b]? = some (.cells cur T fr)) (hT : T ≠ 156) : NP a (a.setCell ⟨b, i, none⟩ v) :=
  ⟨by simp, fun k cur' hk => by
    rw [Below.heap_setCell _ _ _ _ (by
      intro e
      simp only at e
      subst e
      rw [h] at hk
      simp only [Option.some.injEq, Obj.cells.injEq] at hk
      exact hT hk.2.1)]
    exact hk⟩
/-- A slice of pairs, in a row of pairs of its own. -/
def PO (w : World) (v : Value) (l : PL) : Prop := PR w v l ∧ ∀ a n c, v = .slice (some a) n c → 0 < n → ∃ cur, w.heap[a.block]? = some (.cells cur 156 (0, 0))
theorem PO.np {w w' : World} {v : Value} {l : PL} (h : PO w v l) (k : NP w w') : PO w' v l := by
  refine ⟨?_, fun a n c e h0 => by obtain ⟨cur, hc⟩ := h.2 a n c e h0; exact ⟨cur, k.keep _ _ hc⟩⟩
  have h2 := h.2
  cases h.1 with
  | nil => exact .nil
  | odd a c h1 => exact .odd a c h1
  | row g o c l h1 h3 h4 =>
    refine .row g o c l h1 h3 fun i hi => ?_
    obtain ⟨cur, hc⟩ := h2 _ _ _ rfl (by omega)
    have hk := k.keep _ _ hc
    have e : w'.heap[g]? = w.heap[g]? := by rw [hc]; exact hk
    exact ⟨(World.cell?_of_block (w := w) (a := ⟨g, o + i * 2, none⟩) e).trans (h4 i hi).1, (World.cell?_of_block (w := w) (a := ⟨g, o + i * 2 + 1, none⟩) e).trans (h4 i hi).2⟩
theorem PO.below {w w' : World} {v : Value} {l : PL} (h : PO w v l) (k : Below w.heap.size w w') : PO w' v l := h.np (.below k)
theorem PO.nil (w : World) : PO w (.slice none 0 0) [] := ⟨.nil, fun _ _ _ e => by cases e⟩
theorem own_PO {w : World} {B : Nat} {v : Value} {l : PL} (h : OwnP w B v l) : PO w v l := by
  refine ⟨own_PR h, fun a n c e h0 => ?_⟩
  rcases h.2 with ⟨hv, _⟩ | ⟨g, cap, cur, hv, _, hh, _⟩
  · rw [hv] at e; cases e
  · rw [hv] at e
    simp only [Value.slice.injEq, Option.some.injEq] at e
    rw [← e.1]
    exact ⟨cur, hh⟩
/-- A row of cells in a block of its own. -/
def RowF (T : TypeId) (w : World) (g m : Nat) (F : Nat → Value) : Prop := ∃ cur : Array Value, w.heap[g]? = some (.cells cur T (0, 0)) ∧ cur.toList.take m = (List.range m).map F
theorem RowF.get {T : TypeId} {w : World} {g m : Nat} {F : Nat → Value} (h : RowF T w g m F) {j : Nat} (hj : j < m) : w.cell? ⟨g, j, none⟩ = some (F j) := by
  obtain ⟨cur, h1, h2⟩ := h
  have h3 : ((List.range m).map F)[j]? = some (F j) := by simp [List.getElem?_range hj]
  rw [← h2, List.getElem?_take_of_lt hj] at h3
  rw [cell_of_row _ _ _ _ _ (0, 0) h1]; simpa using h3
theorem RowF.set {T : TypeId} {w : World} {g m : Nat} {F : Nat → Value} (h : RowF T w g m F) (k : Nat) (x : Value) : RowF T (w.setCell ⟨g, k, none⟩ x) g m (fun j => if j = k then x else F j) := by
  obtain ⟨cur, h1, h2⟩ := h
  refine ⟨_, heap_setCell_same w g k _ _ _ h1, ?_⟩
  have e : ((List.range m).map F).set k x = (List.range m).map (fun j => if j = k then x else F j) := by
    apply List.ext_getElem?
    intro j
    rw [List.getElem?_set]
    by_cases hj : j < m
    · by_cases e : k = j
      · subst e; simp [hj]
      · rw [if_neg e]; simp [hj, Ne.symm e]
    · simp [hj]; omega
  rw [← e, ← h2]
  simp [List.take_set]
theorem RowF.congr {T : TypeId} {w : World} {g m : Nat} {F G : Nat → Value} (h : RowF T w g m F) (e : ∀ j, j < m → F j = G j) : RowF T w g m G := by
  obtain ⟨cur, h1, h2⟩ := h
  exact ⟨cur, h1, h2.trans (List.map_congr_left fun j hj => e j (List.mem_range.1 hj))⟩
theorem RowF.of {T : TypeId} {w w' : World} {g m : Nat} {F : Nat → Value} (h : RowF T w g m F) (e : w'.heap[g]? = w.heap[g]?) : RowF T w' g m F := by
  obtain ⟨cur, h1, h2⟩ := h
  exact ⟨cur, e.trans h1, h2⟩
theorem RowF.lt {T : TypeId} {w : World} {g m : Nat} {F : Nat → Value} (h : RowF T w g m F) : g < w.heap.size := by
  obtain ⟨cur, h1, h2⟩ := h
  exact (Array.getElem?_eq_some_iff.1 h1).1
theorem RowF.fr {T : TypeId} {w : World} {g m : Nat} {F : Nat → Value} (h : RowF T w g m F) (i : Nat) : w.frozen? ⟨g, i, none⟩ = false := by
  obtain ⟨cur, h1, h2⟩ := h
  exact frozen_of_row _ _ _ _ _ h1
theorem RowF.below {T : TypeId} {w w' : World} {g m : Nat} {F : Nat → Value} (h : RowF T w g m F) (k : Below w.heap.size w w') : RowF T w' g m F := h.of (k.block _ h.lt)
end Go.Proofs.Ytlahpnigabfenaa.Th

/- Puts, in rows of their own. -/
namespace Go.Proofs.Ytlahpnigabfenaa.Th
open Go.RowKit
set_option linter.unusedVariables false
set_option linter.unusedSimpArgs false
end Go.Proofs.Ytlahpnigabfenaa.Th
