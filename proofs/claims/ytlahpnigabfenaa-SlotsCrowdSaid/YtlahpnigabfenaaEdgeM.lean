/- Plain arithmetic of edges: words with a slot (12 bits), a generation (50), a flag and a tag. -/
import Derived.Test.YtlahpnigabfenaaWordM
namespace Go.Proofs.Ytlahpnigabfenaa.EdgeM
open Go.RowKit WordM

theorem slot_eq {e : Int} (h : 0 ≤ e) : fieldI e 0 12 = e % 4096 := by
  rw [field_eq (by decide) h]; show e / 2 ^ 0 % 2 ^ 12 = _; simp
theorem gen_eq {e : Int} (h : 0 ≤ e) : fieldI e 12 50 = e / 4096 % 1125899906842624 := by
  rw [field_eq (by decide) h]; rfl
theorem flag_eq {e : Int} (h : 0 ≤ e) : fieldI e 62 1 = e / 4611686018427387904 % 2 := by
  rw [field_eq (by decide) h]; rfl
theorem tag_eq {e : Int} (h : 0 ≤ e) (h2 : e < 18446744073709551616) : fieldI e 63 1 = e / 9223372036854775808 := by
  rw [field_eq (by decide) h]; show e / 9223372036854775808 % 2 = _; omega
theorem tag_test {e : Int} (h : 0 ≤ e) (h2 : e < 18446744073709551616) : (fieldI e 63 1 == 1) = decide (9223372036854775808 ≤ e) := by
  rw [tag_eq h h2, Bool.eq_iff_iff, beq_iff_eq, decide_eq_true_iff]; omega
theorem make_eq {s g : Int} (h : 0 ≤ s) (h2 : s ≤ 4095) (hg : 0 ≤ g) : withI s 12 50 g = s + 4096 * (g % 1125899906842624) := by
  rw [with_eq (by decide) h hg]
  show 4611686018427387904 * (s / 4611686018427387904) + (4096 * (g % 1125899906842624) + s % 4096) = _
  omega
theorem flagged_eq {e : Int} (h : 0 ≤ e) (h2 : e < 18446744073709551616) : withI e 62 1 1 = e % 4611686018427387904 + 4611686018427387904 + (if 9223372036854775808 ≤ e then 9223372036854775808 else 0) := by
  rw [with_eq (by decide) h (by omega)]
  show 9223372036854775808 * (e / 9223372036854775808) + (4611686018427387904 * (1 % 2) + e % 4611686018427387904) = _
  split <;> omega
theorem keep_eq {e : Int} (h : 0 ≤ e) (h2 : e < 18446744073709551616) : withI e 63 1 0 = e % 9223372036854775808 := by
  rw [with_eq (by decide) h (by omega)]
  show 18446744073709551616 * (e / 18446744073709551616) + (9223372036854775808 * (0 % 2) + e % 9223372036854775808) = _
  omega
theorem or_top {e : Int} (h : 0 ≤ e) (h2 : e < 18446744073709551616) : bits .or .u64 e 9223372036854775808 = e % 9223372036854775808 + 9223372036854775808 := by
  rw [u64_or _ _ h h2 (by omega) (by omega)]
  obtain ⟨E, rfl⟩ := Int.eq_ofNat_of_zero_le h
  rw [show (9223372036854775808 : Int).toNat = 2 ^ 63 from rfl, Int.toNat_natCast]
  have hk : E ||| 2 ^ 63 = 2 ^ 63 * 1 + E % 2 ^ 63 := by
    apply Nat.eq_of_testBit_eq; intro i
    rw [Nat.testBit_or, Nat.testBit_two_pow_mul_add _ (Nat.mod_lt _ (Nat.two_pow_pos 63)), Nat.testBit_two_pow, Nat.testBit_mod_two_pow]
    by_cases h1 : i < 63
    · simp [h1]; omega
    · rw [if_neg h1]
      by_cases h3 : i = 63
      · subst h3; simp
      · rw [decide_eq_false (by omega), Nat.testBit_lt_two_pow (x := E) (Nat.lt_of_lt_of_le (by omega : E < 2 ^ 64) (Nat.pow_le_pow_right (by omega) (by omega))), Nat.testBit_lt_two_pow (x := 1) (i := i - 63) (by have := Nat.one_lt_two_pow (n := i - 63) (by omega); omega)]; rfl
  rw [hk]; omega
/-- The two marks. -/
def flagB (e : Int) : Bool := e / 4611686018427387904 % 2 == 1
def tagB (e : Int) : Bool := decide (9223372036854775808 ≤ e)
theorem flagB_true {e : Int} (h : flagB e = true) : e / 4611686018427387904 % 2 = 1 := by simpa [flagB] using h
theorem flagB_false {e : Int} (h : flagB e = false) : e / 4611686018427387904 % 2 = 0 := by
  have : ¬ e / 4611686018427387904 % 2 = 1 := by simpa [flagB] using h
  omega
theorem tagB_true {e : Int} (h : tagB e = true) : 9223372036854775808 ≤ e := of_decide_eq_true h
theorem tagB_false {e : Int} (h : tagB e = false) : ¬ 9223372036854775808 ≤ e := of_decide_eq_false h
theorem flagB_mk {e : Int} (h : e / 4611686018427387904 % 2 = 1) : flagB e = true := by simp [flagB, h]
theorem flagB_not {e : Int} (h : e / 4611686018427387904 % 2 = 0) : flagB e = false := by simp [flagB, h]
theorem tagB_mk {e : Int} (h : 9223372036854775808 ≤ e) : tagB e = true := decide_eq_true h
theorem tagB_not {e : Int} (h : ¬ 9223372036854775808 ≤ e) : tagB e = false := decide_eq_false h
/-- A slot that may be, or 0. -/
def slotI (s : Int) : Int := if 0 ≤ s ∧ s ≤ 4095 then s else 0
theorem slotI_bd (s : Int) : 0 ≤ slotI s ∧ slotI s ≤ 4095 := by unfold slotI; split <;> omega
theorem slotI_of {s : Int} (h : 0 ≤ s) (h2 : s ≤ 4095) : slotI s = s := by unfold slotI; rw [if_pos ⟨h, h2⟩]
theorem slotI_not {s : Int} (h : ¬ (0 ≤ s ∧ s ≤ 4095)) : slotI s = 0 := by unfold slotI; rw [if_neg h]
def makeI (s g : Int) : Int := slotI s + 4096 * (g % 1125899906842624)
theorem makeI_bd (s : Int) {g : Int} (_h : 0 ≤ g) : 0 ≤ makeI s g ∧ makeI s g < 4611686018427387904 := by have := slotI_bd s; unfold makeI; omega
theorem node_eq {e : Int} (_h : 0 ≤ e) : makeI (e % 4096) (e / 4096 % 1125899906842624) = e % 4611686018427387904 := by
  unfold makeI; rw [slotI_of (by omega) (by omega)]; omega
end Go.Proofs.Ytlahpnigabfenaa.EdgeM
