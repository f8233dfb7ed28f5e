/- GrdN: several texts in one. -/
import Derived.Test.YtlahpnigabfenaaGrdJ
import Derived.Test.YtlahpnigabfenaaFrame
/- Layer 7: the law's do. -/
namespace Go.Proofs.Ytlahpnigabfenaa.Gd
open Go.RowKit Go.Maps WordM EdgeM
set_option linter.unusedVariables false
set_option linter.unusedSimpArgs false
structure KX (X : List Nat) (w w' : World) : Prop where
  os : w'.os = w.os
  tape : w'.tape = w.tape
  output : w'.output = w.output
  size : w.heap.size ≤ w'.heap.size
  block : ∀ k, k < w.heap.size → k ∉ X → w'.heap[k]? = w.heap[k]?
theorem KX.trans {X : List Nat} {w w1 w2 : World} (h : KX X w w1) (k : KX X w1 w2) : KX X w w2 :=
  ⟨k.os.trans h.os, k.tape.trans h.tape, k.output.trans h.output, Nat.le_trans h.size k.size, fun j hj a => (k.block j (Nat.lt_of_lt_of_le hj h.size) a).trans (h.block j hj a)⟩
theorem KX.of_below {X : List Nat} {w w' : World} (h : Below w.heap.size w w') : KX X w w' := ⟨h.os, h.tape, h.output, h.size, fun k hk _ => h.block k hk⟩
theorem KX.of_k3 {w w' : World} {q g m : Nat} {X : List Nat} (h : K3 w w' q g m) (hX : q ∈ X ∧ g ∈ X ∧ m ∈ X) : KX X w w' :=
  ⟨h.os, h.tape, h.output, h.size, fun k hk ha => h.block k hk (by rintro rfl; exact ha hX.1) (by rintro rfl; exact ha hX.2.1) (by rintro rfl; exact ha hX.2.2)⟩
theorem KX.set {w : World} {X : List Nat} {b i : Nat} {v : Value} (hb : b ∈ X) : KX X w (w.setCell ⟨b, i, none⟩ v) :=
  ⟨rfl, rfl, rfl, by simp [World.setCell], fun k hk ha => Below.heap_setCell _ _ _ _ (by rintro rfl; exact ha hb)⟩
structure E4 (W : World) (X : List Nat) where
  w : World
  h : KX X W w
instance (W : World) (X : List Nat) : Nonempty (E4 W X) := ⟨⟨W, .of_below (Below.refl _ _)⟩⟩
theorem KX.cell {W w : World} {X : List Nat} (x : KX X W w) {b o : Nat} {v : Value} (h : W.cell? ⟨b, o, none⟩ = some v) (hb : b ∉ X) : w.cell? ⟨b, o, none⟩ = some v :=
  (World.cell?_of_block (a := ⟨b, o, none⟩) (x.block b (World.block_lt_of_cell? W ⟨b, o, none⟩ h) hb)).trans h
theorem E4.cells {W : World} {X : List Nat} {b o : Nat} {v : Value} (h : W.cell? ⟨b, o, none⟩ = some v) (hb : b ∉ X) : ∀ x : E4 W X, x.w.cell? ⟨b, o, none⟩ = some v := fun x => x.h.cell h hb
theorem K3.cell {W w : World} {q g m : Nat} (x : K3 W w q g m) {b o : Nat} {v : Value} (h : W.cell? ⟨b, o, none⟩ = some v) (h1 : b ≠ q) (h2 : b ≠ g) (h3 : b ≠ m) : w.cell? ⟨b, o, none⟩ = some v :=
  (World.cell?_of_block (a := ⟨b, o, none⟩) (x.block b (World.block_lt_of_cell? W ⟨b, o, none⟩ h) h1 h2 h3)).trans h
def DoPost (w : World) (q g m b n : Nat) (H : Nat → Bool) (G : Nat → Int) (s : Int) (x : Ending) (w' : World) : Prop :=
  ∃ b' c', x = .returned (.tuple #[xV b' n c' s, .bool true]) ∧ GB w' q g m b' n c' H G s ∧ K3 w w' q g m ∧ (b' = b ∨ w.heap.size ≤ b')
end Go.Proofs.Ytlahpnigabfenaa.Gd

/- Layer 7: lives; do of both, whatever call. -/
namespace Go.Proofs.Ytlahpnigabfenaa.Gd
open Go.RowKit Go.Maps WordM EdgeM
set_option linter.unusedVariables false
set_option linter.unusedSimpArgs false
def doE (k slot e : Int) (n : Nat) (G : Nat → Int) : Int := if k = 1 then edgeN n G slot else e
def doH (k slot e : Int) (n : Nat) (H : Nat → Bool) (G : Nat → Int) : Nat → Bool := if k = 0 then takeH n H slot else dropH n H G (doE k slot e n G)
def doG (k slot e : Int) (n : Nat) (H : Nat → Bool) (G : Nat → Int) : Nat → Int := if k = 0 then G else dropG n H G (doE k slot e n G)
def doT (k slot e : Int) (n : Nat) (H : Nat → Bool) (G : Nat → Int) : Bool := if k = 0 then canT n H slot else leadsB n H G (doE k slot e n G)
def doS (k slot e : Int) (n : Nat) (H : Nat → Bool) (G : Nat → Int) (s : Int) : Int := if doT k slot e n H G = true then s else s + 1
theorem doS_le (k slot e : Int) (n : Nat) (H : Nat → Bool) (G : Nat → Int) (s : Int) : s ≤ doS k slot e n H G s ∧ doS k slot e n H G s ≤ s + 1 := by unfold doS; split <;> omega
end Go.Proofs.Ytlahpnigabfenaa.Gd

/- Layer 7: the calls that came in, as rows. -/
namespace Go.Proofs.Ytlahpnigabfenaa.Gd
open Go.RowKit Go.Maps WordM EdgeM
set_option linter.unusedVariables false
set_option linter.unusedSimpArgs false
theorem wf64g {n : Int} (h : (Lit.int .i64 n).wf = true) : -9223372036854775808 ≤ n ∧ n < 9223372036854775808 := by
  simp [Lit.wf, IntKind.min, IntKind.max, IntKind.signed, IntKind.bits] at h; omega
theorem wfu64g {n : Int} (h : (Lit.int .u64 n).wf = true) : 0 ≤ n ∧ n < 18446744073709551616 := by
  simp [Lit.wf, IntKind.min, IntKind.max, IntKind.signed, IntKind.bits] at h; omega
/-- A call's cells. -/
def Op7 (w : World) (g off : Nat) (k a e : Int) : Prop :=
  w.cell? ⟨g, off, none⟩ = some (.int .i64 k) ∧ w.cell? ⟨g, off + 1, none⟩ = some (.int .i64 a) ∧ w.cell? ⟨g, off + 2, none⟩ = some (.int .u64 e) ∧ 0 ≤ e ∧ e < 18446744073709551616
theorem Op7.below {w w' : World} {g off : Nat} {k a e : Int} (h : Op7 w g off k a e) (hb : Below w.heap.size w w') : Op7 w' g off k a e := by
  obtain ⟨h0, h1, h2, r⟩ := h
  exact ⟨Ext.use (Ext.cells h0) hb, Ext.use (Ext.cells h1) hb, Ext.use (Ext.cells h2) hb, r⟩
theorem Op7.lt {w : World} {g off : Nat} {k a e : Int} (h : Op7 w g off k a e) : g < w.heap.size := World.block_lt_of_cell? w ⟨g, off, none⟩ h.1
def op7Sh : List Fr.Sh := [.int .i64, .int .i64, .int .u64]
theorem op7_cells {w : World} {cs : List Value} (h : Fr.Sh.oks w op7Sh cs) : ∃ k a e : Int, cs = [.int .i64 k, .int .i64 a, .int .u64 e] ∧ (0 ≤ e ∧ e < 18446744073709551616) := by
  obtain ⟨_, _, rfl, k0, h⟩ := Fr.get_cons h
  obtain ⟨_, _, rfl, k1, h⟩ := Fr.get_cons h
  obtain ⟨_, _, rfl, k2, h⟩ := Fr.get_cons h
  obtain rfl := Fr.get_nil h
  obtain ⟨k, rfl, _⟩ := Fr.get_int k0
  obtain ⟨a, rfl, _⟩ := Fr.get_int k1
  obtain ⟨e, rfl, w1⟩ := Fr.get_int k2
  exact ⟨k, a, e, rfl, wfu64g w1⟩
theorem ops7_open {w : World} {v : Value} (h : Fr.ok1 w (.slice op7Sh) v) : ∃ ao len cap, v = .slice ao len cap ∧ len ≤ cap ∧ cap ≤ 9223372036854775807 ∧ ∀ i, i < len → ∃ g off, ao = some ⟨g, off, none⟩ ∧ ∃ k a e, Op7 w g (off + i * 3) k a e := by
  rcases Fr.get_slice h with rfl | ⟨a, len, cap, rfl, h1, h2, h3⟩
  · exact ⟨none, 0, 0, rfl, Nat.le_refl _, by decide, fun i hi => by omega⟩
  · refine ⟨some a, len, cap, rfl, h1, h2, fun i hi => ?_⟩
    obtain ⟨cs0, h5, h6⟩ := h3 0 (by omega)
    obtain ⟨k, a1, e, rfl, _⟩ := op7_cells h6
    have hs : a.spot = none := by
      have h7 := (World.cells?_some h5).2.2 0 (by decide)
      exact World.cell?_spot (by simpa [Addr.add] using h7)
    obtain ⟨g, off, spot⟩ := a
    simp only at hs
    subst hs
    obtain ⟨cs, h5, h6⟩ := h3 i (by omega)
    obtain ⟨k, a1, e, rfl, r⟩ := op7_cells h6
    obtain ⟨_, _, h7⟩ := World.cells?_some h5
    have e1 : ((⟨g, off, none⟩ : Addr).add (i * op7Sh.length)) = ⟨g, off + i * 3, none⟩ := by
      simp [Addr.add, op7Sh] <;> (intro hh; subst hh; rfl)
    rw [e1] at h7
    refine ⟨g, off, rfl, k, a1, e, ?_, ?_, ?_, r⟩
    · simpa [Addr.add] using h7 0 (by decide)
    · simpa [Addr.add] using h7 1 (by decide)
    · simpa [Addr.add] using h7 2 (by decide)
theorem GA.setOther {w : World} {q g m n : Nat} {H : Nat → Bool} {G : Nat → Int} {s : Int} (h : GA w q g m n H G s) {X i : Nat} (h1 : q ≠ X) (h2 : g ≠ X) (h3 : m ≠ X) (v : Value) : GA (w.setCell ⟨X, i, none⟩ v) q g m n H G s := by
  obtain ⟨D, d1, d2⟩ := h.held
  refine ⟨?_, ?_, ⟨D, d1.setCell h3 _, d2⟩, h.g1, h.g2, h.g3, h.n0, h.n1, h.gb, h.sb⟩
  · exact h.obj.of (Below.heap_setCell _ _ _ _ h1)
  · exact h.gens.of (Below.heap_setCell _ _ _ _ h2)
theorem GB.setOther {w : World} {q g m b n c : Nat} {H : Nat → Bool} {G : Nat → Int} {s : Int} (h : GB w q g m b n c H G s) {X i : Nat} (h1 : q ≠ X) (h2 : g ≠ X) (h3 : m ≠ X) (h4 : b ≠ X) (v : Value) : GB (w.setCell ⟨X, i, none⟩ v) q g m b n c H G s :=
  ⟨h.ga.setOther h1 h2 h3 v, h.sr.setOther h4 v, h.bq, h.bg, h.bm, h.nc, h.cc⟩
/-- Below, of what writes blocks of its own. -/
theorem below_k3 {w W V : World} {q g m : Nat} (h : Below w.heap.size w W) (k : K3 W V q g m) (h1 : w.heap.size ≤ q) (h2 : w.heap.size ≤ g) (h3 : w.heap.size ≤ m) : Below w.heap.size w V :=
  ⟨k.os.trans h.os, k.tape.trans h.tape, k.output.trans h.output, Nat.le_trans h.size k.size, fun j hj => (k.block j (Nat.lt_of_lt_of_le hj h.size) (by omega) (by omega) (by omega)).trans (h.block j hj)⟩
theorem gnew_no (slots : Int) (w : World) (h : ¬ (1 ≤ slots ∧ slots ≤ 250)) : Calls Try.prog 31 #[.int .i64 slots] w fun e w' => e = .returned (.pointer none) ∧ Below w.heap.size w w' :=
  (gnew slots w).mono fun e w' ⟨hB, hh⟩ => by
    rcases hh with ⟨_, rfl⟩ | ⟨h1, h2, _⟩
    · exact ⟨rfl, hB⟩
    · exact absurd ⟨h1, h2⟩ h
theorem gnew_yes (n : Nat) (w : World) (h0 : 0 < n) (h1 : n ≤ 250) : Calls Try.prog 31 #[.int .i64 n] w fun e w' => ∃ q g m, e = .returned (.pointer (some ⟨q, 0, none⟩)) ∧ w.heap.size ≤ q ∧ w.heap.size ≤ g ∧ w.heap.size ≤ m ∧ GA w' q g m n (fun _ => false) (fun _ => 0) 0 ∧ Below w.heap.size w w' :=
  (gnew n w).mono fun e w' ⟨hB, hh⟩ => by
    rcases hh with ⟨h2, _⟩ | ⟨_, _, q, g, m, he, hq, hg, hm, h⟩
    · exact absurd ⟨by omega, by omega⟩ h2
    · exact ⟨q, g, m, he, hq, hg, hm, by simpa using h, hB⟩
theorem k3_new {wr W9 : World} {q g m : Nat} {cs : Array Value} {T : TypeId} (k : K3 (wr.alloc (.cells cs T)).drew W9 q g m) (h : q < wr.heap.size ∧ g < wr.heap.size ∧ m < wr.heap.size) : W9.heap[wr.heap.size]? = some (.cells cs T (0, 0)) := by
  refine (k.block _ (by show _ < (wr.alloc (.cells cs T)).heap.size; simp) (by omega) (by omega) (by omega)).trans ?_
  exact heap_alloc_new wr _
end Go.Proofs.Ytlahpnigabfenaa.Gd
