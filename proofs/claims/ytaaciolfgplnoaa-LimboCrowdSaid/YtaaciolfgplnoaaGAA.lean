/- GAA: several texts in one. -/
import Derived.WalkKit
import Derived.Laws.BitsAll
import Derived.Below
import Derived.Deep.QuietTactic
import Derived.BigQuiet
import Derived.WalkSmall
/- Plain arithmetic of fields of 64-bit words: masks, fields, words with a field changed, ranks; nothing of the program. -/
namespace Go.Proofs.Ytaaciolfgplnoaa.WordM
open Go.RowKit

def mayB (a b : Int) : Bool := decide (0 ≤ a ∧ a ≤ 63 ∧ 1 ≤ b ∧ b ≤ 64 ∧ a + b ≤ 64)
def fld (w a b : Nat) : Nat := w / 2 ^ a % 2 ^ b
def wth (w a b n : Nat) : Nat := 2 ^ (a + b) * (w / 2 ^ (a + b)) + (2 ^ a * (n % 2 ^ b) + w % 2 ^ a)
def fieldI (w a b : Int) : Int := if mayB a b then (fld w.toNat a.toNat b.toNat : Nat) else 0
def withI (w a b n : Int) : Int := if mayB a b then (wth w.toNat a.toNat b.toNat n.toNat : Nat) else w
def maskI (a b : Int) : Int := if mayB a b then (((2 ^ b.toNat - 1) * 2 ^ a.toNat : Nat) : Int) else 0

theorem may_true {a b : Int} (h : mayB a b = true) : 0 ≤ a ∧ a ≤ 63 ∧ 1 ≤ b ∧ b ≤ 64 ∧ a + b ≤ 64 := of_decide_eq_true h
theorem may_false {a b : Int} (h : mayB a b = false) : ¬ (0 ≤ a ∧ a ≤ 63 ∧ 1 ≤ b ∧ b ≤ 64 ∧ a + b ≤ 64) := of_decide_eq_false h
theorem mask_bit (a b i : Nat) : ((2 ^ b - 1) * 2 ^ a).testBit i = (decide (a ≤ i) && decide (i - a < b)) := by
  rw [Nat.testBit_mul_two_pow, Nat.testBit_two_pow_sub_one]
theorem mask_lt (a b : Nat) (h : a + b ≤ 64) : (2 ^ b - 1) * 2 ^ a < 18446744073709551616 := by
  have h1 : (2 ^ b - 1) * 2 ^ a < 2 ^ b * 2 ^ a := Nat.mul_lt_mul_of_pos_right (Nat.sub_lt (Nat.two_pow_pos b) (by omega)) (Nat.two_pow_pos a)
  rw [← Nat.pow_add] at h1
  have h2 : 2 ^ (b + a) ≤ 2 ^ 64 := Nat.pow_le_pow_right (by omega) (by omega)
  omega
theorem fld_bit (w a b i : Nat) : (fld w a b).testBit i = (decide (i < b) && w.testBit (a + i)) := by
  unfold fld; rw [Nat.testBit_mod_two_pow, Nat.testBit_div_two_pow, Nat.add_comm]
theorem wth_bit (w a b n i : Nat) : (wth w a b n).testBit i = if i < a then w.testBit i else if i < a + b then n.testBit (i - a) else w.testBit i := by
  unfold wth
  have hl : w % 2 ^ a < 2 ^ a := Nat.mod_lt _ (Nat.two_pow_pos a)
  have hl2 : 2 ^ a * (n % 2 ^ b) + w % 2 ^ a < 2 ^ (a + b) := by
    have : n % 2 ^ b + 1 ≤ 2 ^ b := Nat.mod_lt _ (Nat.two_pow_pos b)
    have h3 : 2 ^ a * (n % 2 ^ b + 1) ≤ 2 ^ a * 2 ^ b := Nat.mul_le_mul_left _ this
    rw [← Nat.pow_add, Nat.mul_add] at h3
    omega
  rw [Nat.testBit_two_pow_mul_add _ hl2]
  by_cases h1 : i < a + b
  · rw [if_pos h1, Nat.testBit_two_pow_mul_add _ hl]
    by_cases h2 : i < a
    · rw [if_pos h2, if_pos h2, Nat.testBit_mod_two_pow]; simp [h2]
    · rw [if_neg h2, if_neg h2, if_pos h1, Nat.testBit_mod_two_pow]
      have : i - a < b := by omega
      simp [this]
  · have h2 : ¬ i < a := by omega
    rw [if_neg h1, if_neg h2, if_neg h1, Nat.testBit_div_two_pow]
    congr 1; omega
/- the program's ways of reckoning, on naturals -/
theorem and_mask (w a b : Nat) : (w &&& ((2 ^ b - 1) * 2 ^ a)) / 2 ^ a = fld w a b := by
  apply Nat.eq_of_testBit_eq; intro i
  rw [Nat.testBit_div_two_pow, Nat.testBit_and, mask_bit, fld_bit]
  have e : decide (a ≤ i + a) = true := decide_eq_true (by omega)
  have e2 : i + a - a = i := by omega
  rw [e, e2, Nat.add_comm a i]
  cases decide (i < b) <;> cases w.testBit (i + a) <;> rfl
theorem or_with (w a b n : Nat) (h : a + b ≤ 64) (hw : w < 18446744073709551616) :
    (w &&& (18446744073709551615 - (2 ^ b - 1) * 2 ^ a)) ||| ((n * 2 ^ a % 18446744073709551616) &&& ((2 ^ b - 1) * 2 ^ a)) = wth w a b n := by
  apply Nat.eq_of_testBit_eq; intro i
  have e : 18446744073709551615 - (2 ^ b - 1) * 2 ^ a = 2 ^ 64 - ((2 ^ b - 1) * 2 ^ a + 1) := by omega
  have e2 : n * 2 ^ a % 18446744073709551616 = n * 2 ^ a % 2 ^ 64 := by rfl
  rw [e, e2, Nat.testBit_or, Nat.testBit_and, Nat.testBit_and, Nat.testBit_two_pow_sub_succ (by have := mask_lt a b h; omega), mask_bit, Nat.testBit_mod_two_pow, Nat.testBit_mul_two_pow, wth_bit]
  by_cases h64 : i < 64
  · by_cases h1 : i < a
    · have : ¬ a ≤ i := by omega
      simp [h1, this, h64]
    · have h1' : a ≤ i := by omega
      by_cases h2 : i < a + b
      · have h2' : i - a < b := by omega
        simp [h1, h1', h2, h2', h64]
      · have h2' : ¬ i - a < b := by omega
        simp [h1, h2, h2', h64]
  · have hz : w.testBit i = false := Nat.testBit_lt_two_pow (Nat.lt_of_lt_of_le (by omega : w < 2 ^ 64) (Nat.pow_le_pow_right (by omega) (by omega)))
    have h1 : ¬ i < a := by omega
    have h2 : ¬ i < a + b := by omega
    simp [h1, h2, h64, hz]

/- the walk's spellings -/
theorem mask_spell (a b : Int) (h : mayB a b = true) : IntKind.u64.wrap (IntKind.u64.wrap (IntKind.u64.wrap (2 ^ b.toNat) - 1) * 2 ^ a.toNat) = maskI a b := by
  obtain ⟨h1, h2, h3, h4, h5⟩ := may_true h
  unfold maskI; rw [if_pos h]
  obtain ⟨A, rfl⟩ := Int.eq_ofNat_of_zero_le h1
  obtain ⟨B, rfl⟩ := Int.eq_ofNat_of_zero_le (by omega : 0 ≤ b)
  rw [Int.toNat_natCast, Int.toNat_natCast]
  have hm := mask_lt A B (by omega)
  have hp : (2 : Int) ^ B = ((2 ^ B : Nat) : Int) := by simp
  have hp' : (2 : Int) ^ A = ((2 ^ A : Nat) : Int) := by simp
  have hpos := Nat.two_pow_pos B
  rw [hp, hp', IntKind.wrap_u64, IntKind.wrap_u64, IntKind.wrap_u64]
  have e1 : (((2 ^ B : Nat) : Int) % 18446744073709551616 - 1) % 18446744073709551616 = ((2 ^ B - 1 : Nat) : Int) := by
    have hB : 2 ^ B ≤ 2 ^ 64 := Nat.pow_le_pow_right (by omega) (by omega)
    omega
  rw [e1, ← Int.natCast_mul]
  omega
theorem mask_bd (a b : Int) : 0 ≤ maskI a b ∧ maskI a b < 18446744073709551616 := by
  unfold maskI
  split
  · rename_i h; have ht := may_true h; have := mask_lt a.toNat b.toNat (by omega); omega
  · omega
theorem field_spell (x a b : Int) (h : mayB a b = true) (x1 : 0 ≤ x) (x2 : x < 18446744073709551616) : bits .and .u64 x (maskI a b) / 2 ^ a.toNat = fieldI x a b := by
  have ht := may_true h
  have hm := mask_bd a b
  rw [u64_and x (maskI a b) x1 x2 hm.1 hm.2]
  unfold maskI fieldI; rw [if_pos h, if_pos h, Int.toNat_natCast, ← and_mask]
  simp
theorem with_spell (x a b n : Int) (h : mayB a b = true) (x1 : 0 ≤ x) (x2 : x < 18446744073709551616) (n1 : 0 ≤ n) :
    bits .or .u64 (bits .andNot .u64 x (maskI a b)) (bits .and .u64 (IntKind.u64.wrap (n * 2 ^ a.toNat)) (maskI a b)) = withI x a b n := by
  have ht := may_true h
  have hm := mask_bd a b
  obtain ⟨X, rfl⟩ := Int.eq_ofNat_of_zero_le x1
  obtain ⟨N, rfl⟩ := Int.eq_ofNat_of_zero_le n1
  have hp' : (2 : Int) ^ a.toNat = ((2 ^ a.toNat : Nat) : Int) := by simp
  have hw : IntKind.u64.wrap ((N : Int) * 2 ^ a.toNat) = ((N * 2 ^ a.toNat % 18446744073709551616 : Nat) : Int) := by
    rw [hp', IntKind.wrap_u64, ← Int.natCast_mul]; rfl
  have hlt : N * 2 ^ a.toNat % 18446744073709551616 < 18446744073709551616 := Nat.mod_lt _ (by omega)
  rw [hw, u64_and _ (maskI a b) (by omega) (by omega) hm.1 hm.2, u64_andNot _ (maskI a b) (by omega) (by omega) hm.1 hm.2]
  have l1 : (X : Int).toNat &&& (18446744073709551615 - (maskI a b).toNat) < 2 ^ 64 := Nat.lt_of_le_of_lt Nat.and_le_left (by omega)
  have l2 : ((N * 2 ^ a.toNat % 18446744073709551616 : Nat) : Int).toNat &&& (maskI a b).toNat < 2 ^ 64 := Nat.lt_of_le_of_lt Nat.and_le_left (by omega)
  rw [u64_or _ _ (by omega) (by omega) (by omega) (by omega)]
  simp only [Int.toNat_natCast]
  unfold maskI withI; rw [if_pos h, if_pos h, Int.toNat_natCast, Int.toNat_natCast, Int.toNat_natCast, or_with _ _ _ _ (by omega) (by omega)]
theorem field_eq {x a b : Int} (h : mayB a b = true) (x1 : 0 ≤ x) : fieldI x a b = x / 2 ^ a.toNat % 2 ^ b.toNat := by
  unfold fieldI fld; rw [if_pos h]
  obtain ⟨X, rfl⟩ := Int.eq_ofNat_of_zero_le x1
  simp
theorem with_eq {x a b n : Int} (h : mayB a b = true) (x1 : 0 ≤ x) (n1 : 0 ≤ n) : withI x a b n = 2 ^ (a.toNat + b.toNat) * (x / 2 ^ (a.toNat + b.toNat)) + (2 ^ a.toNat * (n % 2 ^ b.toNat) + x % 2 ^ a.toNat) := by
  unfold withI wth; rw [if_pos h]
  obtain ⟨X, rfl⟩ := Int.eq_ofNat_of_zero_le x1
  obtain ⟨N, rfl⟩ := Int.eq_ofNat_of_zero_le n1
  simp
end Go.Proofs.Ytaaciolfgplnoaa.WordM

/- A region that draws its order, whose loads read memory that was there at its head, and whose callees may make memory but change none of it: one walk of the text's order. -/
namespace Go.Proofs.Ytaaciolfgplnoaa
open Go.RowKit

/-- A world in which all that W had is as it was. -/
structure Ext (W : World) where
  w : World
  h : Below W.heap.size W w

instance (W : World) : Nonempty (Ext W) := ⟨⟨W, Below.refl _ _⟩⟩

theorem Ext.cell {W : World} (x : Ext W) {b o : Nat} {v : Value} (h : W.cell? ⟨b, o, none⟩ = some v) : x.w.cell? ⟨b, o, none⟩ = some v :=
  (x.h.cell (p := ⟨b, o, none⟩) (World.block_lt_of_cell? W ⟨b, o, none⟩ h)).trans h

/-- The facts of the cells at hand, in every such world. -/
theorem Ext.cells {W : World} {b o : Nat} {v : Value} (h : W.cell? ⟨b, o, none⟩ = some v) : ∀ x : Ext W, x.w.cell? ⟨b, o, none⟩ = some v := fun x => x.cell h

/-- A callee that makes memory at most; one that leaves the world alone. -/
theorem Ext.call {W : World} {x : Ext W} {P : Program} {f : FuncId} {args : Array Value} {v : Value}
    (h : Calls P f args x.w fun e w' => e = .returned v ∧ Below x.w.heap.size x.w w') : Calls P f args x.w fun e w' => e = .returned v ∧ ∃ y : Ext W, w' = y.w :=
  h.mono fun _ w' ⟨he, hb⟩ => ⟨he, ⟨w', x.h.trans (hb.mono x.h.size)⟩, rfl⟩
theorem Ext.same {W : World} {x : Ext W} {P : Program} {f : FuncId} {args : Array Value} {v : Value}
    (h : Calls P f args x.w fun e w' => e = .returned v ∧ x.w = w') : Calls P f args x.w fun e w' => e = .returned v ∧ ∃ y : Ext W, w' = y.w :=
  h.mono fun _ _ ⟨he, hb⟩ => ⟨he, x, hb.symm⟩

/-- The cells of the block that was made last, and of the one ahead of it. -/
theorem Ext.made {w W : World} {arr : Array Value} {T : TypeId} (hW : w.alloc (.cells arr T) = W) (i : Nat) (v : Value) (h : arr[i]? = some v) : ∀ x : Ext W, x.w.cell? ⟨w.heap.size, i, none⟩ = some v := by
  subst hW
  refine Ext.cells ?_
  rw [cell_of_row _ w.heap.size i arr T (0, 0) (heap_alloc_new w _)]
  exact h
/-- The same cells in a later world, said of that world itself; and that they may be written. -/
theorem Ext.made_in {w W w1 : World} {arr : Array Value} {T : TypeId} (hW : w.alloc (.cells arr T) = W) (hb : Below W.heap.size W w1) (i : Nat) (v : Value) (h : arr[i]? = some v) : w1.cell? ⟨w.heap.size, i, none⟩ = some v := Ext.made hW i v h ⟨w1, hb⟩
theorem Ext.made_fr {w W w1 : World} {arr : Array Value} {T : TypeId} (hW : w.alloc (.cells arr T) = W) (hb : Below W.heap.size W w1) (i : Nat) : w1.frozen? ⟨w.heap.size, i, none⟩ = false := by
  rw [hb.frozen (p := ⟨w.heap.size, i, none⟩) (by rw [← hW]; simp), ← hW]
  exact frozen_of_row _ w.heap.size i arr T (heap_alloc_new w _)
theorem Ext.made_free {w W : World} {arr : Array Value} {T : TypeId} (hW : w.alloc (.cells arr T) = W) (i : Nat) : ∀ x : Ext W, x.w.frozen? ⟨w.heap.size, i, none⟩ = false := fun x => Ext.made_fr hW x.h i
/-- Below, over new blocks. -/
theorem below_new {w W : World} (h : Below w.heap.size w W) (o : Obj) : Below w.heap.size w (W.alloc o) := h.alloc h.size o
theorem below_on {w W w1 : World} (h : Below w.heap.size w W) (k : Below W.heap.size W w1) : Below w.heap.size w w1 := h.trans (k.mono h.size)
theorem below_set {w W : World} (h : Below w.heap.size w W) {b i : Nat} (hb : w.heap.size ≤ b) (v : Value) : Below w.heap.size w (W.setCell ⟨b, i, none⟩ v) := h.setCell (p := ⟨b, i, none⟩) hb v

/-! ### All worlds of a stretch of code as 'x.w', x : Ext W0: the cells' facts stand once, for every such x -/
theorem ext_region {P : Program} {id : Nat} {Q : Exit → Act → World → Prop} {a : Act} {W : World} (x0 : Ext W) {l : List Oper} (hm : P.follows .mixedOrders = true) (hB : Region.lexB .any l.toArray = true)
    (h : wpQuiet P l.toArray (fun w' => ∃ x : Ext W, w' = x.w) (fun a' => ∀ w', (∃ x : Ext W, w' = x.w) → Q .normal a' w') l a) : (Code.region id l.toArray true).wp P Q a x0.w :=
  wp_region_quiet (C := fun w' => ∃ x : Ext W, w' = x.w) hm hB ⟨⟨{ x0.w with drawn := x0.w.drawn + 1 }, x0.h.trans ⟨rfl, rfl, rfl, Nat.le_refl _, fun _ _ => rfl⟩⟩, rfl⟩ (by simpa using h)

/-- A callee that makes memory at most, met where the world is such a one. -/
theorem Ext.step {W : World} {x : Ext W} {P : Program} {f : FuncId} {args : Array Value} {v : Value}
    (h : Calls P f args x.w fun e w' => e = .returned v ∧ Below x.w.heap.size x.w w') : Calls P f args x.w fun e w' => e = .returned v ∧ ∃ y : Ext W, y.w = w' :=
  h.mono fun _ w' ⟨he, hb⟩ => ⟨he, ⟨w', x.h.trans (hb.mono x.h.size)⟩, rfl⟩

/-- The world at hand, made the base. -/
theorem Ext.base {C : World → Prop} (W : World) (h : ∀ x : Ext W, C x.w) : C W := h ⟨W, Below.refl _ _⟩
/-- A cell's fact of the base, for each such world; of an elder base's facts: they stand. -/
theorem Ext.up {W W' : World} (hb : Below W.heap.size W W') {a : Addr} {v : Value} (h : ∀ x : Ext W, x.w.cell? a = some v) : ∀ x : Ext W', x.w.cell? a = some v :=
  fun x => h ⟨x.w, hb.trans (x.h.mono hb.size)⟩
theorem Ext.use {W U : World} {a : Addr} {v : Value} (h : ∀ x : Ext W, x.w.cell? a = some v) (hb : Below W.heap.size W U) : U.cell? a = some v := h ⟨U, hb⟩
theorem Ext.on {U : World} {a : Addr} {v : Value} (h : U.cell? a = some v) : ∀ o, (U.alloc o).cell? a = some v := fun o => (World.cell?_alloc_lt U o a (World.block_lt_of_cell? U a h)).trans h
theorem Ext.new {U V : World} {b i : Nat} {v : Value} {o : Obj} (h : U.cell? ⟨b, i, none⟩ = some v) (hV : U.alloc o = V) : ∀ x : Ext V, x.w.cell? ⟨b, i, none⟩ = some v := by
  subst hV; exact Ext.cells (Ext.on h o)
theorem Ext.base0 {w : World} {P : Program} {f : FuncId} {args : Array Value} {R : Ending → World → Prop} (h : ∀ x : Ext w, Calls P f args x.w R) : Calls P f args w R := h ⟨w, Below.refl _ _⟩
theorem Ext.below0 {w : World} (y : Ext w) : Below w.heap.size w y.w := y.h
theorem Ext.below {w W : World} (h : Below w.heap.size w W) (x : Ext W) : Below w.heap.size w x.w := h.trans (x.h.mono h.size)
end Go.Proofs.Ytaaciolfgplnoaa
