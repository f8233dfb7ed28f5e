/- Layer 35, reading: words, parted by a byte; numbers that are written are read. (No program.) -/
import Derived.Test.YtdgplijnhkgeiaaDoorEvtA
import Derived.Lib.ParseIntBTie
import Derived.Lib.CutLaws
import Derived.Lib.IndexBytes
namespace Go.Proofs.YtdgplijnhkgeiaaDoor
open Go.RowKit
open Go.Lib (itoa decDigits nDigits parseIntB parseUintM parseUintB cut index indexByte)
set_option linter.unusedVariables false
set_option linter.unusedSimpArgs false
/-- What bytes c part. -/
def splitL (c : UInt8) : List UInt8 → List (List UInt8)
  | [] => [[]]
  | x :: r => if x = c then [] :: splitL c r else match splitL c r with
    | [] => [[x]]
    | h :: t => (x :: h) :: t
theorem splitL_ne (c : UInt8) : ∀ l, splitL c l ≠ []
  | [] => by simp [splitL]
  | x :: r => by
    unfold splitL
    split
    · simp
    · cases h : splitL c r <;> simp
/-- A byte more, at the end. -/
theorem splitL_snoc (c x : UInt8) : ∀ l, ∃ A b, splitL c l = A ++ [b] ∧ splitL c (l ++ [x]) = if x = c then A ++ [b, []] else A ++ [b ++ [x]]
  | [] => by
    refine ⟨[], [], rfl, ?_⟩
    by_cases h : x = c <;> simp [splitL, h]
  | y :: r => by
    obtain ⟨A, b, h1, h2⟩ := splitL_snoc c x r
    by_cases hy : y = c
    · refine ⟨[] :: A, b, by simp [splitL, hy, h1], ?_⟩
      rw [List.cons_append, splitL, if_pos hy, h2]
      split <;> rfl
    · cases A with
      | nil =>
        refine ⟨[], y :: b, by simp [splitL, hy, h1], ?_⟩
        rw [List.cons_append, splitL, if_neg hy, h2]
        by_cases hx : x = c <;> simp [hx]
      | cons a A =>
        refine ⟨(y :: a) :: A, b, by simp [splitL, hy, h1], ?_⟩
        rw [List.cons_append, splitL, if_neg hy, h2]
        by_cases hx : x = c <;> simp [hx]
theorem cut_cons (c x : UInt8) (r : List UInt8) : cut (x :: r) [c] = if x = c then ([], r, true) else (x :: (cut r [c]).1, (cut r [c]).2.1, (cut r [c]).2.2) := by
  unfold cut
  rw [Go.Lib.index_one, Go.Lib.index_one]
  by_cases h : x = c
  · subst h
    have : indexByte (x :: r) x = 0 := by simp [indexByte]
    rw [this]; simp
  · have e : indexByte (x :: r) c = if indexByte r c = -1 then -1 else indexByte r c + 1 := by
      simp [indexByte, h]
    have hge := Go.Lib.index_ge r [c]
    rw [Go.Lib.index_one] at hge
    rw [if_neg h, e]
    generalize indexByte r c = i at *
    by_cases h1 : i = -1
    · subst h1; simp
    · obtain ⟨k, rfl⟩ := Int.eq_ofNat_of_zero_le (show 0 ≤ i by omega)
      have e1 : ((k : Int) + 1).toNat = k + 1 := by omega
      have e2 : ((k : Int)).toNat = k := by omega
      rw [if_neg h1, if_pos (by omega), if_pos (by omega), e1, e2]
      simp [Nat.add_right_comm]
theorem cut_nil (c : UInt8) : cut [] [c] = ([], [], false) := by unfold cut; rw [Go.Lib.index_one]; simp [indexByte]
/-- What strings.Cut hands back, and the words. -/
theorem cut_split (c : UInt8) : ∀ l, splitL c l = if (cut l [c]).2.2 = true then (cut l [c]).1 :: splitL c (cut l [c]).2.1 else [(cut l [c]).1]
  | [] => by rw [cut_nil]; rfl
  | x :: r => by
    rw [cut_cons]
    by_cases h : x = c
    · rw [if_pos h]; simp [splitL, h]
    · rw [if_neg h]
      simp only [splitL, if_neg h]
      rw [cut_split c r]
      by_cases h2 : (cut r [c]).2.2 = true
      · rw [if_pos h2, if_pos h2]
      · rw [if_neg h2, if_neg h2]
theorem cutL_len (c : UInt8) : ∀ l, (cut l [c]).2.2 = true → (cut l [c]).2.1.length < l.length
  | [], h => by rw [cut_nil] at h; cases h
  | x :: r, h => by
    rw [cut_cons] at h ⊢
    by_cases hx : x = c
    · rw [if_pos hx]; simp
    · rw [if_neg hx] at h ⊢
      have := cutL_len c r h
      simp only [List.length_cons] at this ⊢
      omega
/-- A text that is a number's. -/
def IsNum (l : List UInt8) (n : Int) : Prop := I64 n ∧ itoa n = l
theorem dig_nat (d : Nat) (h : d < 10) : (UInt8.ofNat (48 + d)).toNat = 48 + d := by
  rw [UInt8.toNat_ofNat_of_lt' (by show 48 + d < 256; omega)]
theorem parseM_app (M : Nat) : ∀ (a b : List UInt8) (acc u : Nat), parseUintM M acc a = .ok u → parseUintM M acc (a ++ b) = parseUintM M u b
  | [], b, acc, u, h => by simp only [parseUintM] at h; cases h; rfl
  | x :: r, b, acc, u, h => by
    simp only [List.cons_append, parseUintM] at h ⊢
    split at h
    · split at h
      · cases h
      · split at h
        · cases h
        · rename_i h1 h2 h3
          rw [if_pos h1, if_neg h2, if_neg h3]
          exact parseM_app M r b _ u h
    · cases h
theorem parse_dec (M : Nat) (hM : M ≤ 18446744073709551615) : ∀ u, u ≤ M → parseUintM M 0 (decDigits u) = .ok u := by
  intro u
  induction u using Nat.strongRecOn with
  | _ u ih =>
    intro hu
    by_cases h : u < 10
    · rw [Go.Lib.decDigits_one h]
      simp only [parseUintM, dig_nat u h]
      rw [if_pos (by omega), if_neg (by omega), if_neg (by omega)]
      simp
    · rw [decDigits, dif_neg h, parseM_app M _ _ 0 (u / 10) (ih (u / 10) (by omega) (by omega))]
      simp only [parseUintM, dig_nat (u % 10) (by omega)]
      rw [if_pos (by omega), if_neg (by omega), if_neg (by omega)]
      congr 1
      omega
theorem dec_ne (u : Nat) : ∃ x r, decDigits u = x :: r ∧ 48 ≤ x.toNat ∧ x.toNat ≤ 57 := by
  induction u using Nat.strongRecOn with
  | _ u ih =>
    by_cases h : u < 10
    · exact ⟨_, [], Go.Lib.decDigits_one h, by rw [dig_nat u h]; omega, by rw [dig_nat u h]; omega⟩
    · obtain ⟨x, r, h1, h2, h3⟩ := ih (u / 10) (by omega)
      exact ⟨x, r ++ [UInt8.ofNat (48 + u % 10)], by rw [decDigits, dif_neg h, h1]; rfl, h2, h3⟩
/-- WHAT IS WRITTEN IS READ. -/
theorem parse_itoa (n : Int) (h : I64 n) : parseIntB 64 (itoa n) = .ok n := by
  obtain ⟨h1, h2⟩ := h
  by_cases hn : n < 0
  · have e : itoa n = 45 :: decDigits n.natAbs := by unfold itoa; rw [if_pos hn]
    obtain ⟨x, r, hx, _, _⟩ := dec_ne n.natAbs
    have hp := parse_dec 18446744073709551615 (Nat.le_refl _) n.natAbs (by omega)
    rw [e]
    unfold parseIntB
    simp only [show (45 : UInt8).toNat = 45 from rfl]
    rw [if_pos (by simp)]
    have hpu : parseUintB 64 (decDigits n.natAbs) = .ok n.natAbs := by
      unfold parseUintB
      rw [if_neg (by rw [hx]; simp)]
      exact hp
    rw [hpu]
    simp only
    rw [if_neg (by simp), if_neg (by simp; omega)]
    simp
    omega
  · have e : itoa n = decDigits n.toNat := by unfold itoa; rw [if_neg hn]
    obtain ⟨x, r, hx, h3, h4⟩ := dec_ne n.toNat
    have hp := parse_dec 18446744073709551615 (Nat.le_refl _) n.toNat (by omega)
    rw [e]
    have hpu : parseUintB 64 (decDigits n.toNat) = .ok n.toNat := by
      unfold parseUintB
      rw [if_neg (by rw [hx]; simp)]
      exact hp
    rw [hx] at hpu ⊢
    unfold parseIntB
    simp only
    rw [if_neg (by omega), hpu]
    simp only
    rw [if_neg (by simp; omega), if_neg (by omega)]
    have : ¬ x.toNat = 45 := by omega
    simp [this]
    omega
/-- The number that a text is, or none. -/
theorem num_one_of {l : List UInt8} {a b : Int} (h : IsNum l a) (k : IsNum l b) : a = b := by
  have h1 := parse_itoa a h.1
  have h2 := parse_itoa b k.1
  rw [h.2] at h1
  rw [k.2, h1] at h2
  injection h2
noncomputable def numOf (l : List UInt8) : Option Int := by
  classical exact if h : ∃ n, IsNum l n then some (Classical.choose h) else none
theorem numOf_some {l : List UInt8} {n : Int} (h : IsNum l n) : numOf l = some n := by
  have hx : ∃ n, IsNum l n := ⟨n, h⟩
  unfold numOf
  rw [dif_pos hx]
  exact congrArg some (num_one_of (Classical.choose_spec hx) h)
theorem numOf_none {l : List UInt8} (h : ∀ n, ¬ IsNum l n) : numOf l = none := by
  unfold numOf
  rw [dif_neg (fun ⟨n, hn⟩ => h n hn)]
theorem numOf_is {l : List UInt8} {n : Int} (h : numOf l = some n) : IsNum l n := by
  unfold numOf at h
  split at h
  · rename_i hx
    cases h
    exact Classical.choose_spec hx
  · cases h
/-- Digits ahead: what the first t digits of u spell. -/
theorem dec_at (u t : Nat) (h : t < nDigits u) : ∃ d, d < 10 ∧ (decDigits u)[t]? = some (UInt8.ofNat (48 + d)) ∧ u / 10 ^ (nDigits u - (t + 1)) = 10 * (u / 10 ^ (nDigits u - t)) + d := by
  rw [Go.Lib.decDigits_eq]
  refine ⟨u / 10 ^ (nDigits u - (t + 1)) % 10, Nat.mod_lt _ (by decide), ?_, ?_⟩
  · rw [List.getElem?_map, List.getElem?_range h]
    simp only [Option.map_some, Go.Lib.dg]
    have : nDigits u - 1 - t = nDigits u - (t + 1) := by omega
    rw [this]
  · have e : nDigits u - t = (nDigits u - (t + 1)) + 1 := by omega
    rw [e, Nat.pow_succ, ← Nat.div_div_eq_div_mul]
    omega
end Go.Proofs.YtdgplijnhkgeiaaDoor
