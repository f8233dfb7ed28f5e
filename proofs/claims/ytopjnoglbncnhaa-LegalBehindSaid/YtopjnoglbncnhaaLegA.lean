/- Layer 12: opers as rows; the state behind an order. -/
import Derived.Test.YtopjnoglbncnhaaModY
namespace Go.Proofs.Ytopjnoglbncnhaa
open Go.RowKit
set_option linter.unusedVariables false
set_option linter.unusedSimpArgs false
/-- An oper. -/
structure Op13 where
  th : Int
  c : Ca
  a : An
  fr : Int
  tt : Int
/-- An oper's cells. -/
def OpC (w : World) (g o : Nat) (x : Op13) (av : Value) : Prop :=
  StA w g o x.th x.c x.a av ∧ w.cell? ⟨g, o + 11, none⟩ = some (.int .i64 x.fr) ∧ w.cell? ⟨g, o + 12, none⟩ = some (.int .i64 x.tt)
theorem OpC.below {w w' : World} {g o : Nat} {x : Op13} {av : Value} (h : OpC w g o x av) (k : Below w.heap.size w w') : OpC w' g o x av :=
  ⟨h.1.below k, Ext.use (Ext.cells h.2.1) k, Ext.use (Ext.cells h.2.2) k⟩
def opSh : List Fr.Sh := [.int .i64, .int .i64, .int .i64, .int .i64, .int .i64, .int .i64, .int .i64, .int .i64, .int .i64, .int .i64, .slice [.int .i64, .int .i64], .int .i64, .int .i64]
theorem op_cells {w : World} {cs : List Value} (h : Fr.Sh.oks w opSh cs) : ∃ (x : Op13) (v : Value), cs = [.int .i64 x.th, .int .i64 x.c.op, .int .i64 x.c.key, .int .i64 x.c.val, .int .i64 x.c.hi, .int .i64 x.c.lim, .int .i64 x.a.kind, .int .i64 x.a.key, .int .i64 x.a.val, .int .i64 x.a.n, v, .int .i64 x.fr, .int .i64 x.tt] ∧ (-9223372036854775808 ≤ x.c.key ∧ x.c.key ≤ 9223372036854775807) ∧ PR w v x.a.ps := by
  obtain ⟨_, _, rfl, k0, h⟩ := Fr.get_cons h
  obtain ⟨_, _, rfl, k1, h⟩ := Fr.get_cons h
  obtain ⟨_, _, rfl, k2, h⟩ := Fr.get_cons h
  obtain ⟨_, _, rfl, k3, h⟩ := Fr.get_cons h
  obtain ⟨_, _, rfl, k4, h⟩ := Fr.get_cons h
  obtain ⟨_, _, rfl, k5, h⟩ := Fr.get_cons h
  obtain ⟨_, _, rfl, k6, h⟩ := Fr.get_cons h
  obtain ⟨_, _, rfl, k7, h⟩ := Fr.get_cons h
  obtain ⟨_, _, rfl, k8, h⟩ := Fr.get_cons h
  obtain ⟨_, _, rfl, k9, h⟩ := Fr.get_cons h
  obtain ⟨v, _, rfl, kv, h⟩ := Fr.get_cons h
  obtain ⟨_, _, rfl, ka, h⟩ := Fr.get_cons h
  obtain ⟨_, _, rfl, kb, h⟩ := Fr.get_cons h
  obtain rfl := Fr.get_nil h
  obtain ⟨t, rfl, _⟩ := Fr.get_int k0
  obtain ⟨c1, rfl, _⟩ := Fr.get_int k1
  obtain ⟨c2, rfl, w2⟩ := Fr.get_int k2
  obtain ⟨c3, rfl, _⟩ := Fr.get_int k3
  obtain ⟨c4, rfl, _⟩ := Fr.get_int k4
  obtain ⟨c5, rfl, _⟩ := Fr.get_int k5
  obtain ⟨c6, rfl, _⟩ := Fr.get_int k6
  obtain ⟨c7, rfl, _⟩ := Fr.get_int k7
  obtain ⟨c8, rfl, _⟩ := Fr.get_int k8
  obtain ⟨c9, rfl, _⟩ := Fr.get_int k9
  obtain ⟨ca, rfl, _⟩ := Fr.get_int ka
  obtain ⟨cb, rfl, _⟩ := Fr.get_int kb
  obtain ⟨l, hl⟩ := pairs_open kv
  exact ⟨⟨t, ⟨c1, c2, c3, c4, c5⟩, ⟨c6, c7, c8, c9, l⟩, ca, cb⟩, v, rfl, wfi64 w2, hl⟩
/-- A row of opers. -/
def OpR (w : World) (v : Value) (n : Nat) (O : Nat → Op13) (fv : Nat → Value) : Prop :=
  ∃ ao cap, v = .slice ao n cap ∧ n ≤ cap ∧ cap ≤ 9223372036854775807 ∧ ∀ i, i < n → ∃ g off, ao = some ⟨g, off, none⟩ ∧ OpC w g (off + i * 13) (O i) (fv i)
theorem OpR.below {w w' : World} {v : Value} {n : Nat} {O : Nat → Op13} {fv : Nat → Value} (h : OpR w v n O fv) (k : Below w.heap.size w w') : OpR w' v n O fv := by
  obtain ⟨ao, cap, e, h1, h2, h3⟩ := h
  exact ⟨ao, cap, e, h1, h2, fun i hi => by obtain ⟨g, off, e, h⟩ := h3 i hi; exact ⟨g, off, e, h.below k⟩⟩
theorem opers_open {w : World} {v : Value} (h : Fr.ok1 w (.slice opSh) v) : ∃ n O fv, OpR w v n O fv := by
  rcases Fr.get_slice h with rfl | ⟨a, len, cap, rfl, h1, h2, h3⟩
  · exact ⟨0, fun _ => ⟨0, ⟨0, 0, 0, 0, 0⟩, ⟨0, 0, 0, 0, []⟩, 0, 0⟩, fun _ => undef, none, 0, rfl, Nat.le_refl _, by decide, fun i hi => by omega⟩
  · have key : ∀ i, i < len → ∃ (p : Op13 × Value) (g off : Nat), a = ⟨g, off, none⟩ ∧ OpC w g (off + i * 13) p.1 p.2 := by
      intro i hi
      obtain ⟨cs0, h5, h6⟩ := h3 0 (by omega)
      obtain ⟨x0, v0, rfl, _⟩ := op_cells h6
      have hs : a.spot = none := by
        have h7 := (World.cells?_some h5).2.2 0 (by show 0 < 13; omega)
        exact World.cell?_spot (by simpa [Addr.add] using h7)
      obtain ⟨g, off, spot⟩ := a
      simp only at hs
      subst hs
      obtain ⟨cs, h5, h6⟩ := h3 i (by omega)
      obtain ⟨x, v1, rfl, r, hp⟩ := op_cells h6
      obtain ⟨_, _, h7⟩ := World.cells?_some h5
      have e1 : ((⟨g, off, none⟩ : Addr).add (i * opSh.length)) = ⟨g, off + i * 13, none⟩ := by
        simp [Addr.add, opSh] <;> (intro hh; subst hh; rfl)
      rw [e1] at h7
      refine ⟨(x, v1), g, off, rfl, ⟨⟨?_, ?_, ?_, ?_, ?_, ?_, r⟩, ?_, ?_, ?_, ?_, ?_, hp⟩, ?_, ?_⟩
      · simpa [Addr.add] using h7 0 (by show 0 < 13; omega)
      · simpa [Addr.add] using h7 1 (by show 1 < 13; omega)
      · simpa [Addr.add] using h7 2 (by show 2 < 13; omega)
      · simpa [Addr.add] using h7 3 (by show 3 < 13; omega)
      · simpa [Addr.add] using h7 4 (by show 4 < 13; omega)
      · simpa [Addr.add] using h7 5 (by show 5 < 13; omega)
      · simpa [Addr.add] using h7 6 (by show 6 < 13; omega)
      · simpa [Addr.add] using h7 7 (by show 7 < 13; omega)
      · simpa [Addr.add] using h7 8 (by show 8 < 13; omega)
      · simpa [Addr.add] using h7 9 (by show 9 < 13; omega)
      · simpa [Addr.add] using h7 10 (by show 10 < 13; omega)
      · simpa [Addr.add] using h7 11 (by show 11 < 13; omega)
      · simpa [Addr.add] using h7 12 (by show 12 < 13; omega)
    have key2 : ∀ i, ∃ p : Op13 × Value, i < len → ∃ g off, a = ⟨g, off, none⟩ ∧ OpC w g (off + i * 13) p.1 p.2 := by
      intro i
      by_cases hi : i < len
      · obtain ⟨p, h⟩ := key i hi; exact ⟨p, fun _ => h⟩
      · exact ⟨(⟨0, ⟨0, 0, 0, 0, 0⟩, ⟨0, 0, 0, 0, []⟩, 0, 0⟩, undef), fun h => absurd h hi⟩
    refine ⟨len, fun i => (key2 i).choose.1, fun i => (key2 i).choose.2, some a, cap, rfl, h1, h2, fun i hi => ?_⟩
    obtain ⟨g, off, e, h⟩ := (key2 i).choose_spec hi
    exact ⟨g, off, by rw [e], h⟩
/-- The state behind an oper, and whether its answer may be told. -/
def aftA (st : Sm) (x : Op13) : Sm × Bool := if x.tt < 0 then ((doA st x.th x.c).1, true) else toldA st x.th x.c x.a
theorem OkN.aft {m : Nat} {st : Sm} (h : OkN m st) (x : Op13) (hk : -9223372036854775808 ≤ x.c.key ∧ x.c.key ≤ 9223372036854775807) : OkN (m + 1) (aftA st x).1 := by
  unfold aftA
  split
  · exact h.call _ _ hk
  · exact h.told _ _ _ hk
def zSm : Sm := ⟨[], 0, fun _ => s0⟩
/-- The state behind the first ones of an order; none, if it isn't legal. -/
def behN (O : Nat → Op13) (n : Nat) (ord : Nat → Int) (t : Nat) : Nat → Option Sm
  | 0 => some ⟨[], t, fun _ => s0⟩
  | k + 1 => (behN O n ord t k).bind fun st => if 0 ≤ ord k ∧ ord k < n then (if (aftA st (O (ord k).toNat)).2 = true then some (aftA st (O (ord k).toNat)).1 else none) else none
theorem behN_none {O : Nat → Op13} {n : Nat} {ord : Nat → Int} {t k m : Nat} (h : behN O n ord t k = none) (hk : k ≤ m) : behN O n ord t m = none := by
  induction m with
  | zero => (obtain rfl : k = 0 := by omega); exact h
  | succ m ih =>
    by_cases e : k = m + 1
    · subst e; exact h
    · unfold behN; rw [ih (by omega)]; rfl
theorem behN_out {O : Nat → Op13} {n : Nat} {ord : Nat → Int} {t k : Nat} (h : ¬ (0 ≤ ord k ∧ ord k < n)) : behN O n ord t (k + 1) = none := by
  unfold behN
  cases behN O n ord t k with
  | none => rfl
  | some st => simp only [Option.bind_some]; rw [if_neg h]
theorem behN_yes {O : Nat → Op13} {n : Nat} {ord : Nat → Int} {t k : Nat} {st st' : Sm} (h : behN O n ord t k = some st) (hr : 0 ≤ ord k ∧ ord k < n) (ha : aftA st (O (ord k).toNat) = (st', true)) : behN O n ord t (k + 1) = some st' := by
  unfold behN
  rw [h]; simp only [Option.bind_some]; rw [if_pos hr, ha]; rfl
theorem behN_no {O : Nat → Op13} {n : Nat} {ord : Nat → Int} {t k : Nat} {st st' : Sm} (h : behN O n ord t k = some st) (hr : 0 ≤ ord k ∧ ord k < n) (ha : aftA st (O (ord k).toNat) = (st', false)) : behN O n ord t (k + 1) = none := by
  unfold behN
  rw [h]; simp only [Option.bind_some]; rw [if_pos hr, ha]; rfl
/-- What is told of an order. -/
def behT (o : Option Sm) : Sm × Bool := match o with | none => (zSm, false) | some st => (st, true)
end Go.Proofs.Ytopjnoglbncnhaa
