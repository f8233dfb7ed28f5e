/- Layer 8's contracts, those that only read: rises, the same, where a key stands. -/
import Derived.Test.YtminbfingjbbbaaPairM
import Derived.Test.YtminbfingjbbbaaExt
import Derived.Test.YtminbfingjbbbaaRows
import Derived.ProofKit
import Derived.Outline
import Derived.Lib.Hide
import Derived.Deep.Cut
import Derived.BigQuiet
namespace Go.Proofs.Ytminbfingjbbbaa
open Go.RowKit
set_option linter.unusedVariables false
set_option linter.unusedSimpArgs false

theorem Calls.veil {P : Program} {f : FuncId} {args : Array Value} {w : World} {R : Ending → World → Prop} (h : ∀ Q : Ending → World → Prop, Hid (Q = R) → Calls P f args w Q) : Calls P f args w R := h R rfl

theorem ret_bool {a b : Bool} (h : a = b) : Ending.returned (.bool a) = .returned (.bool b) := by rw [h]
theorem ret_int {k : IntKind} {a b : Int} (h : a = b) : Ending.returned (.int k a) = .returned (.int k b) := by rw [h]
/-- A slice of pairs. -/
inductive PR (w : World) : Value → PL → Prop
  | nil : PR w (.slice none 0 0) []
  | odd (a : Addr) (c : Nat) : c ≤ 9223372036854775807 → PR w (.slice (some a) 0 c) []
  | row (g o c : Nat) (l : PL) : l.length ≤ c → c ≤ 9223372036854775807 → (∀ i, i < l.length → w.cell? ⟨g, o + i * 2, none⟩ = some (.int .i64 (ky l i)) ∧ w.cell? ⟨g, o + i * 2 + 1, none⟩ = some (.int .i64 (vl l i))) → PR w (.slice (some ⟨g, o, none⟩) l.length c) l
theorem PR.below {w w' : World} {v : Value} {l : PL} (h : PR w v l) (k : Below w.heap.size w w') : PR w' v l := by
  cases h with
  | nil => exact .nil
  | odd a c h1 => exact .odd a c h1
  | row g o c l h1 h2 h3 => exact .row g o c l h1 h2 fun i hi => ⟨(Ext.cell ⟨w', k⟩ (h3 i hi).1), (Ext.cell ⟨w', k⟩ (h3 i hi).2)⟩
theorem PR.opened {w : World} {v : Value} {l : PL} (h : PR w v l) (h0 : 0 < l.length) : ∃ g o c, v = .slice (some ⟨g, o, none⟩) l.length c ∧ l.length ≤ c ∧ c ≤ 9223372036854775807 ∧ Hid (∀ i, i < l.length → w.cell? ⟨g, o + i * 2, none⟩ = some (.int .i64 (ky l i)) ∧ w.cell? ⟨g, o + i * 2 + 1, none⟩ = some (.int .i64 (vl l i))) := by
  cases h with
  | nil => simp at h0
  | odd a c _ => simp at h0
  | row g o c _ h1 h2 h3 => exact ⟨g, o, c, rfl, h1, h2, h3⟩
theorem PR.slice {w : World} {v : Value} {l : PL} (h : PR w v l) : ∃ p c, v = .slice p l.length c ∧ l.length ≤ c ∧ c ≤ 9223372036854775807 := by
  cases h with
  | nil => exact ⟨_, _, rfl, Nat.le_refl _, by decide⟩
  | odd a c h1 => exact ⟨_, _, rfl, by simp, h1⟩
  | row g o c _ h1 h2 h3 => exact ⟨_, _, rfl, h1, h2⟩
theorem PR.parts {w : World} {v : Value} {l : PL} (h : PR w v l) : ∃ p c, v = .slice p l.length c ∧ l.length ≤ c ∧ c ≤ 9223372036854775807 ∧ Hid (∀ i, i < l.length → ∃ g o, p = some ⟨g, o, none⟩ ∧ w.cell? ⟨g, o + i * 2, none⟩ = some (.int .i64 (ky l i)) ∧ w.cell? ⟨g, o + i * 2 + 1, none⟩ = some (.int .i64 (vl l i))) := by
  cases h with
  | nil => exact ⟨_, _, rfl, Nat.le_refl _, by decide, fun i hi => by simp at hi⟩
  | odd a c h1 => exact ⟨_, _, rfl, by simp, h1, fun i hi => by simp at hi⟩
  | row g o c _ h1 h2 h3 => exact ⟨_, _, rfl, h1, h2, fun i hi => ⟨g, o, rfl, h3 i hi⟩⟩
theorem scO {w : World} {a b : Addr} {v u : Value} (k : w.cell? b = some u) (h : a ≠ b) : (w.setCell a v).cell? b = some u := (World.cell?_setCell_other w a b v h).trans k
theorem scS {w : World} {a : Addr} {v u : Value} (h : w.cell? a = some u) : (w.setCell a v).cell? a = some v := World.cell?_setCell_same w a v h
theorem scF {w : World} {a b : Addr} {v : Value} (h : w.frozen? b = false) : (w.setCell a v).frozen? b = false := (World.frozen?_setCell w a b v).trans h
/-- A variable of the type of a pair. -/
structure Cell2 (w : World) (b : Nat) (x y : Int) : Prop where
  c0 : w.cell? ⟨b, 0, none⟩ = some (.int .i64 x)
  c1 : w.cell? ⟨b, 1, none⟩ = some (.int .i64 y)
  f : ∀ i, w.frozen? ⟨b, i, none⟩ = false
theorem Cell2.new (w : World) (x y : Int) (T : TypeId) : Cell2 (w.alloc (.cells #[.int .i64 x, .int .i64 y] T)) w.heap.size x y :=
  ⟨Ext.made_in rfl (Below.refl _ _) 0 _ rfl, Ext.made_in rfl (Below.refl _ _) 1 _ rfl, Ext.made_fr rfl (Below.refl _ _)⟩
theorem Cell2.below {w w' : World} {b : Nat} {x y : Int} (h : Cell2 w b x y) (k : Below w.heap.size w w') : Cell2 w' b x y :=
  ⟨Ext.cell ⟨w', k⟩ h.c0, Ext.cell ⟨w', k⟩ h.c1, fun i => (k.frozen (p := ⟨b, i, none⟩) (World.block_lt_of_cell? w ⟨b, 0, none⟩ h.c0)).trans (h.f i)⟩
theorem Cell2.put {w : World} {b : Nat} {x y : Int} (h : Cell2 w b x y) (X Y : Int) : Cell2 ((w.setCell ⟨b, 0, none⟩ (.int .i64 X)).setCell ⟨b, 1, none⟩ (.int .i64 Y)) b X Y :=
  ⟨scO (scS h.c0) (by simp), scS (scO h.c1 (by simp)), fun i => scF (scF (h.f i))⟩
theorem Cell2.other {w : World} {b c i : Nat} {x y : Int} {v : Value} (h : Cell2 w b x y) (hb : c ≠ b) : Cell2 (w.setCell ⟨c, i, none⟩ v) b x y :=
  ⟨scO h.c0 (by simp [hb]), scO h.c1 (by simp [hb]), fun i => scF (h.f i)⟩
theorem PR.other {w : World} {b i : Nat} {v u : Value} {l : PL} (h : PR w v l) (B : Nat) (hB : B ≤ b) (hl : ∀ g o c, v = .slice (some ⟨g, o, none⟩) l.length c → 0 < l.length → g < B) : PR (w.setCell ⟨b, i, none⟩ u) v l := by
  cases h with
  | nil => exact .nil
  | odd a c h1 => exact .odd a c h1
  | row g o c _ h1 h2 h3 =>
    refine .row g o c l h1 h2 fun i hi => ?_
    have := hl g o c rfl (by omega)
    exact ⟨scO (h3 i hi).1 (by intro e; injection e; omega), scO (h3 i hi).2 (by intro e; injection e; omega)⟩
theorem below_setB {B : Nat} {w W : World} {c i : Nat} {v : Value} (h : Below B w W) (hc : B ≤ c) : Below B w (W.setCell ⟨c, i, none⟩ v) := h.setCell (p := ⟨c, i, none⟩) hc v
theorem PR.alloc {w : World} {v : Value} {l : PL} (h : PR w v l) (o : Obj) : PR (w.alloc o) v l := h.below (by (repeat (first | exact Below.refl _ _ | assumption | refine below_new ?_ _ | refine Below.drew ?_ | refine below_drewN ?_ _ | refine below_on ?_ (by assumption))))


def sameB (a b : PL) : Bool := decide (a = b)
theorem same_len {a b : PL} (h : a.length ≠ b.length) : sameB a b = false := decide_eq_false fun e => h (by rw [e])
theorem same_all {a b : PL} (hl : a.length = b.length) (h : ∀ i, i < a.length → ky a i = ky b i ∧ vl a i = vl b i) : sameB a b = true := decide_eq_true (pl_ext hl h)
theorem same_not {a b : PL} {i : Nat} (hi : i < a.length) (h : ¬ (ky a i = ky b i ∧ vl a i = vl b i)) : sameB a b = false := decide_eq_false fun e => h (by rw [e]; exact ⟨rfl, rfl⟩)

end Go.Proofs.Ytminbfingjbbbaa
