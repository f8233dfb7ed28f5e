/- Layer 16: an access, in whatever way it ends: the machine's, and the reference's. -/
import Derived.Test.YtkkdehniheajeaaCorX
import Derived.Test.YtkkdehniheajeaaCorT
import Derived.Test.YtkkdehniheajeaaCorW
import Derived.Test.YtkkdehniheajeaaFrame
namespace Go.Proofs.Ytkkdehniheajeaa
open Go.RowKit WordM EdgeM
set_option linter.unusedVariables false
set_option linter.unusedSimpArgs false
/-- What an access is asked for. -/
structure O16 where
  k : Int
  fi : Int
  e : Int
  tm : Int
  old : Int
  x : Int
/-- What accesses change. -/
structure S16 where
  f : Nat → Int
  acc : Int
  flt : Bool
  odd : Bool
def OkO (o : O16) : Prop := (0 ≤ o.e ∧ o.e < 18446744073709551616) ∧ (0 ≤ o.x ∧ o.x < 18446744073709551616)
def o16V (o : O16) : Value := op16 o.k o.fi o.e o.tm o.old o.x
def H5 : Nat → Bool := fun i => decide (i < 5)
def G5 : Nat → Int := fun _ => 0
def ldB (s : Nat) (o : O16) : Bool := Gd.leadsB s H5 G5 o.e
def nx (t s : Nat) (S : S16) (o : O16) : S16 :=
  if ldB s o = true then ⟨Mm.nextD (3 + 8 * t + 7 * s) S.f (kc o.k) (nodeI t s (o.e % 4096) o.fi) 0 o.tm o.old o.x, S.acc + 1, S.flt || !Mm.okD (3 + 8 * t + 7 * s) (kc o.k) (nodeI t s (o.e % 4096) o.fi) 0, S.odd⟩
  else ⟨S.f, S.acc, S.flt, true⟩
def td (t s : Nat) (S : S16) (o : O16) : Int := if ldB s o = true then Mm.toldD (3 + 8 * t + 7 * s) S.f (kc o.k) (nodeI t s (o.e % 4096) o.fi) else 0
def dd (t s : Nat) (S : S16) (o : O16) : Bool := if ldB s o = true then Mm.doneD (3 + 8 * t + 7 * s) S.f (kc o.k) (nodeI t s (o.e % 4096) o.fi) 0 o.tm o.old else false
theorem nx_acc (t s : Nat) (S : S16) (o : O16) : S.acc ≤ (nx t s S o).acc ∧ (nx t s S o).acc ≤ S.acc + 1 := by
  unfold nx
  split
  · show S.acc ≤ S.acc + 1 ∧ S.acc + 1 ≤ S.acc + 1; omega
  · show S.acc ≤ S.acc ∧ S.acc ≤ S.acc + 1; omega
theorem K3.only2 {w w' : World} {q b g : Nat} (h : Mm.Only b g w w') : Gd.K3 w w' q b g := ⟨h.os, h.tape, h.output, h.size, fun k hk _ h1 h2 => h.block k hk h1 h2⟩
theorem K3.only1 {w w' : World} {q b g : Nat} (h : Mm.Only q q w w') : Gd.K3 w w' q b g := ⟨h.os, h.tape, h.output, h.size, fun k hk h1 _ _ => h.block k hk h1 h1⟩
theorem do16 {w : World} {B q pl mb mg C gq gg gm : Nat} {fv : Value} {tq : Nat → Nat} {t s : Nat} {Kc : Int} {S : S16} {sl steps : Int} (h : MI w B q pl mb mg C gq gg gm fv tq t s Kc S.f S.acc S.flt H5 G5 sl steps S.odd) (o : O16) (ho : OkO o) (a0 : 0 ≤ S.acc) (a1 : S.acc < 1000000) :
    Calls Try.prog 24 #[.pointer (some ⟨q, 0, none⟩), o16V o] w fun x' w' => x' = .returned (.tuple #[.int .u64 (td t s S o), .bool (dd t s S o)]) ∧ MI w' B q pl mb mg C gq gg gm fv tq t s Kc (nx t s S o).f (nx t s S o).acc (nx t s S o).flt H5 G5 sl steps (nx t s S o).odd ∧ Gd.K3 w w' q mb mg := by
  unfold nx td dd o16V
  cases hl : ldB s o with
  | true =>
    rw [if_pos rfl, if_pos rfl, if_pos rfl]
    exact (do_yes h o.k o.fi o.e o.tm o.old o.x ho.1.1 ho.1.2 hl a0 a1 ho.2.1 ho.2.2).mono fun _ _ hh => ⟨hh.1, hh.2.1, K3.only2 hh.2.2⟩
  | false =>
    rw [if_neg (by decide), if_neg (by decide), if_neg (by decide)]
    exact (do_no h o.k o.fi o.e o.tm o.old o.x ho.1.1 ho.1.2 hl).mono fun _ _ hh => ⟨hh.1, hh.2.1, K3.only1 hh.2.2⟩
theorem rdo16 (t s C wg gb gc n : Nat) (Kc sl : Int) (S : S16) (o : O16) (ho : OkO o) (w : World) (hn : n = 3 + 8 * t + 7 * s) (hr : Mm.RowAt w wg n S.f) (h : Gd.SR w gb s H5 G5) (t2 : t ≤ 6) (s2 : s ≤ 250) (sc : s ≤ gc) (c2 : gc ≤ 9223372036854775807) (nC : n ≤ C) (cC : C ≤ 9223372036854775807) (a0 : 0 ≤ S.acc) (a1 : S.acc < 1000000) (rng : ∀ i, i < n → 0 ≤ S.f i ∧ S.f i < 18446744073709551616) :
    Calls Try.prog 25 #[.agg (mV t s Kc (.slice (some ⟨wg, 0, none⟩) n C) S.acc S.flt gb gc sl S.odd), o16V o] w fun x' w' => ∃ g' C', (g' = wg ∨ w.heap.size ≤ g') ∧ x' = .returned (.tuple #[.agg (mV t s Kc (.slice (some ⟨g', 0, none⟩) n C') (nx t s S o).acc (nx t s S o).flt gb gc sl (nx t s S o).odd), .int .u64 (td t s S o), .bool (dd t s S o)]) ∧ Mm.RowAt w' g' n (nx t s S o).f ∧ n ≤ C' ∧ C' ≤ 9223372036854775807 ∧ Below w.heap.size w w' := by
  have hG : ∀ i, 0 ≤ G5 i ∧ G5 i < 1125899906842624 := fun i => ⟨by show (0:Int) ≤ 0; omega, by show (0:Int) < 1125899906842624; omega⟩
  subst hn
  unfold nx td dd o16V
  cases hl : ldB s o with
  | true =>
    rw [if_pos rfl, if_pos rfl, if_pos rfl]
    exact rdo_yes t s C wg gb gc Kc S.acc sl S.flt S.odd S.f H5 G5 o.k o.fi o.e o.tm o.old o.x w _ rfl hr h t2 s2 sc c2 nC cC hG a0 (by omega) rng ho.2.1 ho.2.2 ho.1.1 ho.1.2 hl
  | false =>
    rw [if_neg (by decide), if_neg (by decide), if_neg (by decide)]
    exact (rdo_no t s _ C wg gb gc Kc S.acc sl S.flt S.odd H5 G5 o.k o.fi o.e o.tm o.old o.x w h s2 sc c2 hG ho.1.1 ho.1.2 hl).mono fun _ _ hh => ⟨wg, C, .inl rfl, hh.1, hr.below hh.2, nC, cC, hh.2⟩
/-! ### A list of accesses -/
def op16Sh : List Fr.Sh := [.int .i64, .int .i64, .int .u64, .int .u64, .int .u64, .int .u64]
def OpC (w : World) (g off : Nat) (o : O16) : Prop :=
  w.cell? ⟨g, off, none⟩ = some (.int .i64 o.k) ∧ w.cell? ⟨g, off + 1, none⟩ = some (.int .i64 o.fi) ∧ w.cell? ⟨g, off + 2, none⟩ = some (.int .u64 o.e) ∧ w.cell? ⟨g, off + 3, none⟩ = some (.int .u64 o.tm) ∧ w.cell? ⟨g, off + 4, none⟩ = some (.int .u64 o.old) ∧ w.cell? ⟨g, off + 5, none⟩ = some (.int .u64 o.x) ∧ OkO o
theorem OpC.below {w w' : World} {g off : Nat} {o : O16} (h : OpC w g off o) (hb : Below w.heap.size w w') : OpC w' g off o := by
  obtain ⟨h0, h1, h2, h3, h4, h5, r⟩ := h
  exact ⟨Ext.use (Ext.cells h0) hb, Ext.use (Ext.cells h1) hb, Ext.use (Ext.cells h2) hb, Ext.use (Ext.cells h3) hb, Ext.use (Ext.cells h4) hb, Ext.use (Ext.cells h5) hb, r⟩
theorem op16_cells {w : World} {cs : List Value} (h : Fr.Sh.oks w op16Sh cs) : ∃ o : O16, cs = [.int .i64 o.k, .int .i64 o.fi, .int .u64 o.e, .int .u64 o.tm, .int .u64 o.old, .int .u64 o.x] ∧ OkO o := by
  obtain ⟨_, _, rfl, k0, h⟩ := Fr.get_cons h
  obtain ⟨_, _, rfl, k1, h⟩ := Fr.get_cons h
  obtain ⟨_, _, rfl, k2, h⟩ := Fr.get_cons h
  obtain ⟨_, _, rfl, k3, h⟩ := Fr.get_cons h
  obtain ⟨_, _, rfl, k4, h⟩ := Fr.get_cons h
  obtain ⟨_, _, rfl, k5, h⟩ := Fr.get_cons h
  obtain rfl := Fr.get_nil h
  obtain ⟨k, rfl, _⟩ := Fr.get_int k0
  obtain ⟨fi, rfl, _⟩ := Fr.get_int k1
  obtain ⟨e, rfl, w1⟩ := Fr.get_int k2
  obtain ⟨tm, rfl, _⟩ := Fr.get_int k3
  obtain ⟨old, rfl, _⟩ := Fr.get_int k4
  obtain ⟨x, rfl, w2⟩ := Fr.get_int k5
  exact ⟨⟨k, fi, e, tm, old, x⟩, rfl, Mm.wfu64m w1, Mm.wfu64m w2⟩
theorem ops16_open {w : World} {v : Value} (h : Fr.ok1 w (.slice op16Sh) v) : ∃ ao len cap, v = .slice ao len cap ∧ len ≤ cap ∧ cap ≤ 9223372036854775807 ∧ ∀ i, i < len → ∃ g off, ao = some ⟨g, off, none⟩ ∧ ∃ o, OpC w g (off + i * 6) o := by
  rcases Fr.get_slice h with rfl | ⟨a, len, cap, rfl, h1, h2, h3⟩
  · exact ⟨none, 0, 0, rfl, Nat.le_refl _, by decide, fun i hi => by omega⟩
  · refine ⟨some a, len, cap, rfl, h1, h2, fun i hi => ?_⟩
    obtain ⟨cs0, h5, h6⟩ := h3 0 (by omega)
    obtain ⟨o, rfl, _⟩ := op16_cells h6
    have hs : a.spot = none := by
      have h7 := (World.cells?_some h5).2.2 0 (by decide)
      exact World.cell?_spot (by simpa [Addr.add] using h7)
    obtain ⟨g, off, spot⟩ := a
    simp only at hs
    subst hs
    obtain ⟨cs, h5, h6⟩ := h3 i (by omega)
    obtain ⟨o, rfl, r⟩ := op16_cells h6
    obtain ⟨_, _, h7⟩ := World.cells?_some h5
    have e : ((⟨g, off, none⟩ : Addr).add (i * op16Sh.length)) = ⟨g, off + i * 6, none⟩ := by
      simp [Addr.add, op16Sh] <;> (intro hh; subst hh; rfl)
    rw [e] at h7
    refine ⟨g, off, rfl, o, ?_, ?_, ?_, ?_, ?_, ?_, r⟩
    · simpa [Addr.add] using h7 0 (by decide)
    · simpa [Addr.add] using h7 1 (by decide)
    · simpa [Addr.add] using h7 2 (by decide)
    · simpa [Addr.add] using h7 3 (by decide)
    · simpa [Addr.add] using h7 4 (by decide)
    · simpa [Addr.add] using h7 5 (by decide)
end Go.Proofs.Ytkkdehniheajeaa
