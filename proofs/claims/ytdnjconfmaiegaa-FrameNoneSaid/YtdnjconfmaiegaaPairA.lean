/- Layer 8's contracts, those that only read: rises, the same, where a key stands. -/
import Derived.Test.YtdnjconfmaiegaaPairM
import Derived.Test.YtdnjconfmaiegaaExt
import Derived.Test.YtdnjconfmaiegaaRows
import Derived.ProofKit
import Derived.Outline
import Derived.Lib.Hide
import Derived.Deep.Cut
import Derived.BigQuiet
namespace Go.Proofs.Ytdnjconfmaiegaa
open Go.RowKit
set_option linter.unusedVariables false
set_option linter.unusedSimpArgs false

theorem Calls.veil {P : Program} {f : FuncId} {args : Array Value} {w : World} {R : Ending → World → Prop} (h : ∀ Q : Ending → World → Prop, Hid (Q = R) → Calls P f args w Q) : Calls P f args w R := h R rfl

theorem ret_bool {a b : Bool} (h : a = b) : Ending.returned (.bool a) = .returned (.bool b) := by rw [h]
theorem ret_int {k : IntKind} {a b : Int} (h : a = b) : Ending.returned (.int k a) = .returned (.int k b) := by rw [h]
/-- A slice of pairs. -/
inductive PR (w : World) : Value → PL → Prop
  | nil : PR w (.slice none 0 0) []
  | odd (a : Addr) (c : Nat) : c ≤ 9223372036854775807 → PR w (.slice (some a) 0 c) []
  | row (g o c : Nat) (l : PL) : l.length ≤ c → c ≤ 9223372036854775807 → (∀ i, i < l.length → w.cell? ⟨g, o + i * 2, none⟩ = some (.int .i64 (ky l i)) ∧ w.cell? ⟨g, o + i * 2 + 1, none⟩ = some (.int .i64 (vl l i))) → PR w (.slice (some ⟨g, o, none⟩) l.length c) l
theorem PR.below {w w' : World} {v : Value} {l : PL} (h : PR w v l) (k : Below w.heap.size w w') : PR w' v l := by
  cases h with
  | nil => exact .nil
  | odd a c h1 => exact .odd a c h1
  | row g o c l h1 h2 h3 => exact .row g o c l h1 h2 fun i hi => ⟨(Ext.cell ⟨w', k⟩ (h3 i hi).1), (Ext.cell ⟨w', k⟩ (h3 i hi).2)⟩
theorem PR.opened {w : World} {v : Value} {l : PL} (h : PR w v l) (h0 : 0 < l.length) : ∃ g o c, v = .slice (some ⟨g, o, none⟩) l.length c ∧ l.length ≤ c ∧ c ≤ 9223372036854775807 ∧ Hid (∀ i, i < l.length → w.cell? ⟨g, o + i * 2, none⟩ = some (.int .i64 (ky l i)) ∧ w.cell? ⟨g, o + i * 2 + 1, none⟩ = some (.int .i64 (vl l i))) := by
  cases h with
  | nil => simp at h0
  | odd a c _ => simp at h0
  | row g o c _ h1 h2 h3 => exact ⟨g, o, c, rfl, h1, h2, h3⟩
theorem PR.slice {w : World} {v : Value} {l : PL} (h : PR w v l) : ∃ p c, v = .slice p l.length c ∧ l.length ≤ c ∧ c ≤ 9223372036854775807 := by
  cases h with
  | nil => exact ⟨_, _, rfl, Nat.le_refl _, by decide⟩
  | odd a c h1 => exact ⟨_, _, rfl, by simp, h1⟩
  | row g o c _ h1 h2 h3 => exact ⟨_, _, rfl, h1, h2⟩
theorem PR.parts {w : World} {v : Value} {l : PL} (h : PR w v l) : ∃ p c, v = .slice p l.length c ∧ l.length ≤ c ∧ c ≤ 9223372036854775807 ∧ Hid (∀ i, i < l.length → ∃ g o, p = some ⟨g, o, none⟩ ∧ w.cell? ⟨g, o + i * 2, none⟩ = some (.int .i64 (ky l i)) ∧ w.cell? ⟨g, o + i * 2 + 1, none⟩ = some (.int .i64 (vl l i))) := by
  cases h with
  | nil => exact ⟨_, _, rfl, Nat.le_refl _, by decide, fun i hi => by simp at hi⟩
  | odd a c h1 => exact ⟨_, _, rfl, by simp, h1, fun i hi => by simp at hi⟩
  | row g o c _ h1 h2 h3 => exact ⟨_, _, rfl, h1, h2, fun i hi => ⟨g, o, rfl, h3 i hi⟩⟩
theorem scO {w : World} {a b : Addr} {v u : Value} (k : w.cell? b = some u) (h : a ≠ b) : (w.setCell a v).cell? b = some u := (World.cell?_setCell_other w a b v h).trans k
theorem scS {w : World} {a : Addr} {v u : Value} (h : w.cell? a = some u) : (w.setCell a v).cell? a = some v := World.cell?_setCell_same w a v h
theorem scF {w : World} {a b : Addr} {v : Value} (h : w.frozen? b = false) : (w.setCell a v).frozen? b = false := (World.frozen?_setCell w a b v).trans h
/-- A variable of the type of a pair. -/
structure Cell2 (w : World) (b : Nat) (x y : Int) : Prop where
  c0 : w.cell? ⟨b, 0, none⟩ = some (.int .i64 x)
  c1 : w.cell? ⟨b, 1, none⟩ = some (.int .i64 y)
  f : ∀ i, w.frozen? ⟨b, i, none⟩ = false
theorem Cell2.new (w : World) (x y : Int) (T : TypeId) : Cell2 (w.alloc (.cells #[.int .i64 x, .int .i64 y] T)) w.heap.size x y :=
  ⟨Ext.made_in rfl (Below.refl _ _) 0 _ rfl, Ext.made_in rfl (Below.refl _ _) 1 _ rfl, Ext.made_fr rfl (Below.refl _ _)⟩
theorem Cell2.below {w w' : World} {b : Nat} {x y : Int} (h : Cell2 w b x y) (k : Below w.heap.size w w') : Cell2 w' b x y :=
  ⟨Ext.cell ⟨w', k⟩ h.c0, Ext.cell ⟨w', k⟩ h.c1, fun i => (k.frozen (p := ⟨b, i, none⟩) (World.block_lt_of_cell? w ⟨b, 0, none⟩ h.c0)).trans (h.f i)⟩
theorem Cell2.put {w : World} {b : Nat} {x y : Int} (h : Cell2 w b x y) (X Y : Int) : Cell2 ((w.setCell ⟨b, 0, none⟩ (.int .i64 X)).setCell ⟨b, 1, none⟩ (.int .i64 Y)) b X Y :=
  ⟨scO (scS h.c0) (by simp), scS (scO h.c1 (by simp)), fun i => scF (scF (h.f i))⟩
theorem Cell2.other {w : World} {b c i : Nat} {x y : Int} {v : Value} (h : Cell2 w b x y) (hb : c ≠ b) : Cell2 (w.setCell ⟨c, i, none⟩ v) b x y :=
  ⟨scO h.c0 (by simp [hb]), scO h.c1 (by simp [hb]), fun i => scF (h.f i)⟩
theorem PR.other {w : World} {b i : Nat} {v u : Value} {l : PL} (h : PR w v l) (B : Nat) (hB : B ≤ b) (hl : ∀ g o c, v = .slice (some ⟨g, o, none⟩) l.length c → 0 < l.length → g < B) : PR (w.setCell ⟨b, i, none⟩ u) v l := by
  cases h with
  | nil => exact .nil
  | odd a c h1 => exact .odd a c h1
  | row g o c _ h1 h2 h3 =>
    refine .row g o c l h1 h2 fun i hi => ?_
    have := hl g o c rfl (by omega)
    exact ⟨scO (h3 i hi).1 (by intro e; injection e; omega), scO (h3 i hi).2 (by intro e; injection e; omega)⟩
theorem below_setB {B : Nat} {w W : World} {c i : Nat} {v : Value} (h : Below B w W) (hc : B ≤ c) : Below B w (W.setCell ⟨c, i, none⟩ v) := h.setCell (p := ⟨c, i, none⟩) hc v
theorem PR.alloc {w : World} {v : Value} {l : PL} (h : PR w v l) (o : Obj) : PR (w.alloc o) v l := h.below (by (repeat (first | exact Below.refl _ _ | assumption | refine below_new ?_ _ | refine Below.drew ?_ | refine below_drewN ?_ _ | refine below_on ?_ (by assumption))))

set_option maxHeartbeats 1000000 in
theorem prises (l : PL) (v : Value) (w : World) (h : PR w v l) (hn : l.length ≤ 100000) :
    Calls Try.prog 22 #[v] w fun e w' => e = .returned (.bool (riseB l)) ∧ Below w.heap.size w w' := by
  refine Calls.veil fun Q HQ => ?_
  cases h with
  | nil =>
    go_enter Try.func22, Try.ntmps22
    go_wp2_with fail
    refine wp_loop_rounds 1 ?_
    rw [rounds_succ]
    go_wp2_with fail
    (try go_ret)
    rw [HQ.out]
    exact ⟨rfl, Below.refl _ _⟩
  | odd a c hc0 =>
    go_enter Try.func22, Try.ntmps22
    go_wp2_with fail
    refine wp_loop_rounds 1 ?_
    rw [rounds_succ]
    go_wp2_with fail
    (try go_ret)
    rw [HQ.out]
    exact ⟨rfl, Below.refl _ _⟩
  | row g o c l h1 h2 h3 =>
    have H3 := Lib.hid h3
    clear h3
    go_enter Try.func22, Try.ntmps22
    go_wp2_with fail
    go_loopw [3] (fun iv wr => ∃ i : Nat, (i + 1 ≤ l.length ∨ i = 0) ∧ iv = .int .i64 ((i : Int) + 1) ∧ (∀ k, k < i → ky l k < ky l (k + 1)) ∧ Below w.heap.size w wr)
      (fun iv _ => l.length + 1 - (intOf iv).toNat)
    case atStart => exact ⟨0, .inr rfl, rfl, by omega, Below.refl _ _⟩
    case round =>
      obtain ⟨i, hi, rfl, hk, hbel⟩ := hrel
      have HK := Lib.hid hk; clear hk
      rcases (by omega : i + 1 < l.length ∨ l.length ≤ i + 1) with hlt | hge
      · have c0 := Ext.cell ⟨wr, hbel⟩ (H3.out i (by omega)).1
        have c1 := Ext.cell ⟨wr, hbel⟩ (H3.out (i + 1) hlt).1
        simp only at c0 c1
        have hA : IntKind.i64.wrap ((i : Int) + 1 - 1) = (i : Int) := by rw [show (i : Int) + 1 - 1 = i by omega]; exact IntWalk.i64_in _ (by omega)
        have hB : ((i : Int) + 1).toNat = i + 1 := by omega
        have hC : (0 : Int) ≤ (i : Int) + 1 := by omega
        have hD : (i : Int) < (l.length : Int) := by omega
        rcases (by omega : ky l i < ky l (i + 1) ∨ ky l (i + 1) ≤ ky l i) with hc | hc
        · go_wp2_with fail
          go_quiet (fail)
          clear hA hB hC hD
          have hbel' : Below w.heap.size w (wr.drewN nq) := below_drewN hbel _
          go_wp2_with fail
          go_roundw
          case rel => exact ⟨i + 1, .inl (by omega), by go_num, fun k hk => by rcases (by omega : k < i ∨ k = i) with h | rfl; exact HK.out k h; exact hc, hbel'⟩
          case measure => simp [intOf]; omega
        · go_wp2_with fail
          go_quiet (fail)
          clear hA hB hC hD
          have hbel' : Below w.heap.size w (wr.drewN nq) := below_drewN hbel _
          go_wp2_with fail
          (try go_ret)
          rw [HQ.out]
          exact ⟨ret_bool (rise_not hlt hc).symm, hbel'⟩
      · go_wp2_with fail
        (try go_ret)
        rw [HQ.out]
        exact ⟨ret_bool (rise_of fun k hk => HK.out k (by omega)).symm, hbel⟩

def sameB (a b : PL) : Bool := decide (a = b)
theorem same_len {a b : PL} (h : a.length ≠ b.length) : sameB a b = false := decide_eq_false fun e => h (by rw [e])
theorem same_all {a b : PL} (hl : a.length = b.length) (h : ∀ i, i < a.length → ky a i = ky b i ∧ vl a i = vl b i) : sameB a b = true := decide_eq_true (pl_ext hl h)
theorem same_not {a b : PL} {i : Nat} (hi : i < a.length) (h : ¬ (ky a i = ky b i ∧ vl a i = vl b i)) : sameB a b = false := decide_eq_false fun e => h (by rw [e]; exact ⟨rfl, rfl⟩)

end Go.Proofs.Ytdnjconfmaiegaa
