/- Plain arithmetic of fields of 64-bit words: masks, fields, words with a field changed, ranks; nothing of the program. -/
import Derived.WalkKit
import Derived.Laws.BitsAll
namespace Go.Proofs.Ytnikggdnlijkkaa.WordM
open Go.RowKit

def mayB (a b : Int) : Bool := decide (0 ≤ a ∧ a ≤ 63 ∧ 1 ≤ b ∧ b ≤ 64 ∧ a + b ≤ 64)
def fld (w a b : Nat) : Nat := w / 2 ^ a % 2 ^ b
def wth (w a b n : Nat) : Nat := 2 ^ (a + b) * (w / 2 ^ (a + b)) + (2 ^ a * (n % 2 ^ b) + w % 2 ^ a)
def fieldI (w a b : Int) : Int := if mayB a b then (fld w.toNat a.toNat b.toNat : Nat) else 0
def withI (w a b n : Int) : Int := if mayB a b then (wth w.toNat a.toNat b.toNat n.toNat : Nat) else w
def maskI (a b : Int) : Int := if mayB a b then (((2 ^ b.toNat - 1) * 2 ^ a.toNat : Nat) : Int) else 0

theorem may_true {a b : Int} (h : mayB a b = true) : 0 ≤ a ∧ a ≤ 63 ∧ 1 ≤ b ∧ b ≤ 64 ∧ a + b ≤ 64 := of_decide_eq_true h
theorem may_false {a b : Int} (h : mayB a b = false) : ¬ (0 ≤ a ∧ a ≤ 63 ∧ 1 ≤ b ∧ b ≤ 64 ∧ a + b ≤ 64) := of_decide_eq_false h
theorem may_mk {a b : Int} (h : 0 ≤ a ∧ a ≤ 63 ∧ 1 ≤ b ∧ b ≤ 64 ∧ a + b ≤ 64) : mayB a b = true := decide_eq_true h
theorem may_not {a b : Int} (h : ¬ (0 ≤ a ∧ a ≤ 63 ∧ 1 ≤ b ∧ b ≤ 64 ∧ a + b ≤ 64)) : mayB a b = false := decide_eq_false h

theorem mask_bit (a b i : Nat) : ((2 ^ b - 1) * 2 ^ a).testBit i = (decide (a ≤ i) && decide (i - a < b)) := by
  rw [Nat.testBit_mul_two_pow, Nat.testBit_two_pow_sub_one]
theorem mask_lt (a b : Nat) (h : a + b ≤ 64) : (2 ^ b - 1) * 2 ^ a < 18446744073709551616 := by
  have h1 : (2 ^ b - 1) * 2 ^ a < 2 ^ b * 2 ^ a := Nat.mul_lt_mul_of_pos_right (Nat.sub_lt (Nat.two_pow_pos b) (by omega)) (Nat.two_pow_pos a)
  rw [← Nat.pow_add] at h1
  have h2 : 2 ^ (b + a) ≤ 2 ^ 64 := Nat.pow_le_pow_right (by omega) (by omega)
  omega
theorem fld_bit (w a b i : Nat) : (fld w a b).testBit i = (decide (i < b) && w.testBit (a + i)) := by
  unfold fld; rw [Nat.testBit_mod_two_pow, Nat.testBit_div_two_pow, Nat.add_comm]
theorem wth_bit (w a b n i : Nat) : (wth w a b n).testBit i = if i < a then w.testBit i else if i < a + b then n.testBit (i - a) else w.testBit i := by
  unfold wth
  have hl : w % 2 ^ a < 2 ^ a := Nat.mod_lt _ (Nat.two_pow_pos a)
  have hl2 : 2 ^ a * (n % 2 ^ b) + w % 2 ^ a < 2 ^ (a + b) := by
    have : n % 2 ^ b + 1 ≤ 2 ^ b := Nat.mod_lt _ (Nat.two_pow_pos b)
    have h3 : 2 ^ a * (n % 2 ^ b + 1) ≤ 2 ^ a * 2 ^ b := Nat.mul_le_mul_left _ this
    rw [← Nat.pow_add, Nat.mul_add] at h3
    omega
  rw [Nat.testBit_two_pow_mul_add _ hl2]
  by_cases h1 : i < a + b
  · rw [if_pos h1, Nat.testBit_two_pow_mul_add _ hl]
    by_cases h2 : i < a
    · rw [if_pos h2, if_pos h2, Nat.testBit_mod_two_pow]; simp [h2]
    · rw [if_neg h2, if_neg h2, if_pos h1, Nat.testBit_mod_two_pow]
      have : i - a < b := by omega
      simp [this]
  · have h2 : ¬ i < a := by omega
    rw [if_neg h1, if_neg h2, if_neg h1, Nat.testBit_div_two_pow]
    congr 1; omega
theorem wth_lt (w a b n : Nat) (h : a + b ≤ 64) (hw : w < 18446744073709551616) : wth w a b n < 18446744073709551616 := by
  have : wth w a b n < 2 ^ 64 := by
    apply Nat.lt_pow_two_of_testBit
    intro i hi
    rw [wth_bit, if_neg (by omega), if_neg (by omega)]
    exact Nat.testBit_lt_two_pow (Nat.lt_of_lt_of_le (by omega : w < 2 ^ 64) (Nat.pow_le_pow_right (by omega) hi))
  simpa using this
theorem fld_lt (w a b : Nat) (h : b ≤ 64) : fld w a b < 18446744073709551616 := by
  have h1 : fld w a b < 2 ^ b := Nat.mod_lt _ (Nat.two_pow_pos b)
  have h2 : 2 ^ b ≤ 2 ^ 64 := Nat.pow_le_pow_right (by omega) h
  omega
/- the program's ways of reckoning, on naturals -/
theorem and_mask (w a b : Nat) : (w &&& ((2 ^ b - 1) * 2 ^ a)) / 2 ^ a = fld w a b := by
  apply Nat.eq_of_testBit_eq; intro i
  rw [Nat.testBit_div_two_pow, Nat.testBit_and, mask_bit, fld_bit]
  have e : decide (a ≤ i + a) = true := decide_eq_true (by omega)
  have e2 : i + a - a = i := by omega
  rw [e, e2, Nat.add_comm a i]
  cases decide (i < b) <;> cases w.testBit (i + a) <;> rfl
theorem or_with (w a b n : Nat) (h : a + b ≤ 64) (hw : w < 18446744073709551616) :
    (w &&& (18446744073709551615 - (2 ^ b - 1) * 2 ^ a)) ||| ((n * 2 ^ a % 18446744073709551616) &&& ((2 ^ b - 1) * 2 ^ a)) = wth w a b n := by
  apply Nat.eq_of_testBit_eq; intro i
  have e : 18446744073709551615 - (2 ^ b - 1) * 2 ^ a = 2 ^ 64 - ((2 ^ b - 1) * 2 ^ a + 1) := by omega
  have e2 : n * 2 ^ a % 18446744073709551616 = n * 2 ^ a % 2 ^ 64 := by rfl
  rw [e, e2, Nat.testBit_or, Nat.testBit_and, Nat.testBit_and, Nat.testBit_two_pow_sub_succ (by have := mask_lt a b h; omega), mask_bit, Nat.testBit_mod_two_pow, Nat.testBit_mul_two_pow, wth_bit]
  by_cases h64 : i < 64
  · by_cases h1 : i < a
    · have : ¬ a ≤ i := by omega
      simp [h1, this, h64]
    · have h1' : a ≤ i := by omega
      by_cases h2 : i < a + b
      · have h2' : i - a < b := by omega
        simp [h1, h1', h2, h2', h64]
      · have h2' : ¬ i - a < b := by omega
        simp [h1, h2, h2', h64]
  · have hz : w.testBit i = false := Nat.testBit_lt_two_pow (Nat.lt_of_lt_of_le (by omega : w < 2 ^ 64) (Nat.pow_le_pow_right (by omega) (by omega)))
    have h1 : ¬ i < a := by omega
    have h2 : ¬ i < a + b := by omega
    simp [h1, h2, h64, hz]

/- the walk's spellings -/
theorem mask_spell (a b : Int) (h : mayB a b = true) : IntKind.u64.wrap (IntKind.u64.wrap (IntKind.u64.wrap (2 ^ b.toNat) - 1) * 2 ^ a.toNat) = maskI a b := by
  obtain ⟨h1, h2, h3, h4, h5⟩ := may_true h
  unfold maskI; rw [if_pos h]
  obtain ⟨A, rfl⟩ := Int.eq_ofNat_of_zero_le h1
  obtain ⟨B, rfl⟩ := Int.eq_ofNat_of_zero_le (by omega : 0 ≤ b)
  rw [Int.toNat_natCast, Int.toNat_natCast]
  have hm := mask_lt A B (by omega)
  have hp : (2 : Int) ^ B = ((2 ^ B : Nat) : Int) := by simp
  have hp' : (2 : Int) ^ A = ((2 ^ A : Nat) : Int) := by simp
  have hpos := Nat.two_pow_pos B
  rw [hp, hp', IntKind.wrap_u64, IntKind.wrap_u64, IntKind.wrap_u64]
  have e1 : (((2 ^ B : Nat) : Int) % 18446744073709551616 - 1) % 18446744073709551616 = ((2 ^ B - 1 : Nat) : Int) := by
    have hB : 2 ^ B ≤ 2 ^ 64 := Nat.pow_le_pow_right (by omega) (by omega)
    omega
  rw [e1, ← Int.natCast_mul]
  omega
theorem mask_bd (a b : Int) : 0 ≤ maskI a b ∧ maskI a b < 18446744073709551616 := by
  unfold maskI
  split
  · rename_i h; have ht := may_true h; have := mask_lt a.toNat b.toNat (by omega); omega
  · omega
theorem field_bd (w a b : Int) : 0 ≤ fieldI w a b ∧ fieldI w a b < 18446744073709551616 := by
  unfold fieldI
  split
  · rename_i h; have ht := may_true h; have := fld_lt w.toNat a.toNat b.toNat (by omega); omega
  · omega
theorem with_bd (w a b n : Int) (h0 : 0 ≤ w) (h1 : w < 18446744073709551616) : 0 ≤ withI w a b n ∧ withI w a b n < 18446744073709551616 := by
  unfold withI
  split
  · rename_i h; have ht := may_true h; have := wth_lt w.toNat a.toNat b.toNat n.toNat (by omega) (by omega); omega
  · omega
theorem xor_top (n : Nat) (h : n < 18446744073709551616) : (n < 9223372036854775808 → n ^^^ 9223372036854775808 = n + 9223372036854775808) ∧ (9223372036854775808 ≤ n → n ^^^ 9223372036854775808 = n - 9223372036854775808) := by
  have hb : ∀ i, (9223372036854775808 : Nat).testBit i = decide (63 = i) := fun i => by rw [show (9223372036854775808 : Nat) = 2 ^ 63 from by decide]; exact Nat.testBit_two_pow
  constructor
  · intro hl
    apply Nat.eq_of_testBit_eq; intro i
    rw [Nat.testBit_xor, hb, show n + 9223372036854775808 = 2 ^ 63 * 1 + n by omega, Nat.testBit_two_pow_mul_add _ (by omega)]
    by_cases h1 : i < 63
    · rw [if_pos h1, decide_eq_false (by omega)]; simp
    · rw [if_neg h1, Nat.testBit_lt_two_pow (Nat.lt_of_lt_of_le (by omega : n < 2 ^ 63) (Nat.pow_le_pow_right (by omega) (by omega)))]
      by_cases h2 : i = 63
      · subst h2; rfl
      · rw [decide_eq_false (by omega), Nat.testBit_lt_two_pow (x := 1) (i := i - 63) (by have := Nat.one_lt_two_pow (n := i - 63) (by omega); omega)]; rfl
  · intro hg
    have e : n = 2 ^ 63 * 1 + (n - 9223372036854775808) := by omega
    generalize hm : n - 9223372036854775808 = m at *
    have hml : m < 2 ^ 63 := by omega
    rw [e]
    apply Nat.eq_of_testBit_eq; intro i
    rw [Nat.testBit_xor, hb, Nat.testBit_two_pow_mul_add _ hml]
    by_cases h1 : i < 63
    · rw [if_pos h1, decide_eq_false (by omega)]; simp
    · rw [if_neg h1, Nat.testBit_lt_two_pow (x := m) (Nat.lt_of_lt_of_le hml (Nat.pow_le_pow_right (by omega) (by omega)))]
      by_cases h2 : i = 63
      · subst h2; rfl
      · rw [decide_eq_false (by omega), Nat.testBit_lt_two_pow (x := 1) (i := i - 63) (by have := Nat.one_lt_two_pow (n := i - 63) (by omega); omega)]; rfl

theorem field_spell (x a b : Int) (h : mayB a b = true) (x1 : 0 ≤ x) (x2 : x < 18446744073709551616) : bits .and .u64 x (maskI a b) / 2 ^ a.toNat = fieldI x a b := by
  have ht := may_true h
  have hm := mask_bd a b
  rw [u64_and x (maskI a b) x1 x2 hm.1 hm.2]
  unfold maskI fieldI; rw [if_pos h, if_pos h, Int.toNat_natCast, ← and_mask]
  simp
theorem with_spell (x a b n : Int) (h : mayB a b = true) (x1 : 0 ≤ x) (x2 : x < 18446744073709551616) (n1 : 0 ≤ n) :
    bits .or .u64 (bits .andNot .u64 x (maskI a b)) (bits .and .u64 (IntKind.u64.wrap (n * 2 ^ a.toNat)) (maskI a b)) = withI x a b n := by
  have ht := may_true h
  have hm := mask_bd a b
  obtain ⟨X, rfl⟩ := Int.eq_ofNat_of_zero_le x1
  obtain ⟨N, rfl⟩ := Int.eq_ofNat_of_zero_le n1
  have hp' : (2 : Int) ^ a.toNat = ((2 ^ a.toNat : Nat) : Int) := by simp
  have hw : IntKind.u64.wrap ((N : Int) * 2 ^ a.toNat) = ((N * 2 ^ a.toNat % 18446744073709551616 : Nat) : Int) := by
    rw [hp', IntKind.wrap_u64, ← Int.natCast_mul]; rfl
  have hlt : N * 2 ^ a.toNat % 18446744073709551616 < 18446744073709551616 := Nat.mod_lt _ (by omega)
  rw [hw, u64_and _ (maskI a b) (by omega) (by omega) hm.1 hm.2, u64_andNot _ (maskI a b) (by omega) (by omega) hm.1 hm.2]
  have l1 : (X : Int).toNat &&& (18446744073709551615 - (maskI a b).toNat) < 2 ^ 64 := Nat.lt_of_le_of_lt Nat.and_le_left (by omega)
  have l2 : ((N * 2 ^ a.toNat % 18446744073709551616 : Nat) : Int).toNat &&& (maskI a b).toNat < 2 ^ 64 := Nat.lt_of_le_of_lt Nat.and_le_left (by omega)
  rw [u64_or _ _ (by omega) (by omega) (by omega) (by omega)]
  simp only [Int.toNat_natCast]
  unfold maskI withI; rw [if_pos h, if_pos h, Int.toNat_natCast, Int.toNat_natCast, Int.toNat_natCast, or_with _ _ _ _ (by omega) (by omega)]
theorem rank_spell (n : Int) (h1 : -9223372036854775808 ≤ n) (h2 : n < 9223372036854775808) : bits .xor .u64 (IntKind.u64.wrap n) 9223372036854775808 = n + 9223372036854775808 := by
  rw [IntKind.wrap_u64, u64_xor _ _ (by omega) (by omega) (by omega) (by omega)]
  have := xor_top (n % 18446744073709551616).toNat (by omega)
  rw [show (9223372036854775808 : Int).toNat = 9223372036854775808 from rfl]
  by_cases h : (n % 18446744073709551616).toNat < 9223372036854775808
  · rw [this.1 h]; omega
  · rw [this.2 (by omega)]; omega
theorem of_spell (n : Int) (h1 : 0 ≤ n) (h2 : n < 18446744073709551616) : wrap64 (bits .xor .u64 n 9223372036854775808) = n - 9223372036854775808 := by
  rw [u64_xor _ _ (by omega) (by omega) (by omega) (by omega)]
  have := xor_top n.toNat (by omega)
  rw [show (9223372036854775808 : Int).toNat = 9223372036854775808 from rfl]
  by_cases h : n.toNat < 9223372036854775808
  · rw [this.1 h]; unfold wrap64; omega
  · rw [this.2 (by omega)]; unfold wrap64; omega

theorem with_not {x a b n : Int} (h : ¬ (0 ≤ a ∧ a ≤ 63 ∧ 1 ≤ b ∧ b ≤ 64 ∧ a + b ≤ 64)) : withI x a b n = x := by
  unfold withI; rw [may_not h]; rfl
theorem field_not {x a b : Int} (h : ¬ (0 ≤ a ∧ a ≤ 63 ∧ 1 ≤ b ∧ b ≤ 64 ∧ a + b ≤ 64)) : fieldI x a b = 0 := by
  unfold fieldI; rw [may_not h]; rfl
theorem field_with {x a b n : Int} (h : 0 ≤ a ∧ a ≤ 63 ∧ 1 ≤ b ∧ b ≤ 64 ∧ a + b ≤ 64) : fieldI (withI x a b n) a b = fieldI n 0 b := by
  unfold fieldI withI; rw [may_mk h, may_mk (a := 0) (b := b) (by omega), if_pos rfl, if_pos rfl, if_pos rfl]
  congr 1
  apply Nat.eq_of_testBit_eq; intro i
  rw [fld_bit, fld_bit, Int.toNat_natCast, wth_bit]
  by_cases hi : i < b.toNat
  · rw [if_neg (by omega), if_pos (by omega)]
    simp [hi]
  · simp [hi]
theorem field_with_other {x a b n c d : Int} (h : 0 ≤ a ∧ a ≤ 63 ∧ 1 ≤ b ∧ b ≤ 64 ∧ a + b ≤ 64) (k : c + d ≤ a ∨ a + b ≤ c) : fieldI (withI x a b n) c d = fieldI x c d := by
  by_cases hm : 0 ≤ c ∧ c ≤ 63 ∧ 1 ≤ d ∧ d ≤ 64 ∧ c + d ≤ 64
  · unfold fieldI withI; rw [may_mk h, may_mk hm, if_pos rfl, if_pos rfl, if_pos rfl]
    congr 1
    apply Nat.eq_of_testBit_eq; intro i
    rw [fld_bit, fld_bit, Int.toNat_natCast, wth_bit]
    by_cases hi : i < d.toNat
    · rcases k with k | k
      · rw [if_pos (by omega)]
      · rw [if_neg (by omega), if_neg (by omega)]
    · simp [hi]
  · rw [field_not hm, field_not hm]

theorem field_eq {x a b : Int} (h : mayB a b = true) (x1 : 0 ≤ x) : fieldI x a b = x / 2 ^ a.toNat % 2 ^ b.toNat := by
  unfold fieldI fld; rw [if_pos h]
  obtain ⟨X, rfl⟩ := Int.eq_ofNat_of_zero_le x1
  simp
theorem with_eq {x a b n : Int} (h : mayB a b = true) (x1 : 0 ≤ x) (n1 : 0 ≤ n) : withI x a b n = 2 ^ (a.toNat + b.toNat) * (x / 2 ^ (a.toNat + b.toNat)) + (2 ^ a.toNat * (n % 2 ^ b.toNat) + x % 2 ^ a.toNat) := by
  unfold withI wth; rw [if_pos h]
  obtain ⟨X, rfl⟩ := Int.eq_ofNat_of_zero_le x1
  obtain ⟨N, rfl⟩ := Int.eq_ofNat_of_zero_le n1
  simp
end Go.Proofs.Ytnikggdnlijkkaa.WordM
