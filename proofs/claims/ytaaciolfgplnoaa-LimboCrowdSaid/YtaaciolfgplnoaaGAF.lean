/- GAF: several texts in one. -/
import Derived.Test.YtaaciolfgplnoaaGAD
import Derived.Test.YtaaciolfgplnoaaGAE
import Derived.Maps.OwnSet
import Derived.Laws.MakeOwn
import Derived.Carry
import Derived.Deep.Cut
import Derived.Test.YtaaciolfgplnoaaGAA
import Derived.StillTailTactics
import Derived.Deep.RegionHeld3
import Derived.Deep.RegionWith
import Derived.Deep.QuietTactic
import Derived.Laws.AppendOwn
import Derived.Laws.AppendOwnNone
import Derived.OwnWalk
/- Layer 7: a guard's state; has, slip, Edge, Held, Slips. -/
namespace Go.Proofs.Ytaaciolfgplnoaa.Gd
open Go.RowKit Go.Maps WordM EdgeM
set_option linter.unusedVariables false
set_option linter.unusedSimpArgs false
theorem Calls.veil {P : Program} {f : FuncId} {args : Array Value} {w : World} {R : Ending → World → Prop} (h : ∀ Q : Ending → World → Prop, Hid (Q = R) → Calls P f args w Q) : Calls P f args w R := h R rfl
theorem grown_cell (W : World) (q i : Nat) (v : Value) : W.grownBy (W.setCell ⟨q, i, none⟩ v) (some q) :=
  ⟨rfl, rfl, rfl, by simp, fun k hk hne => Below.heap_setCell _ _ _ _ (by intro e; exact hne (by rw [e]))⟩
theorem gLaw : Keyed Try.prog 3 := int_keyed (q := .i64) (by kernel_rfl)
theorem uMap : Try.prog.underlying 93 = some (.map 3 91) := by kernel_rfl
theorem uInt : Try.prog.underlying 3 = some (.int .i64) := by kernel_rfl
theorem zUnit (w : World) : (zeroValue 91).run Try.prog w = .ok (.agg #[]) w := by kernel_rfl
def cntB (H : Nat → Bool) : Nat → Nat
  | 0 => 0
  | n + 1 => cntB H n + (if H n = true then 1 else 0)
theorem cntB_le (H : Nat → Bool) : ∀ n, cntB H n ≤ n
  | 0 => Nat.le_refl _
  | n + 1 => by have := cntB_le H n; rw [cntB]; split <;> omega
def setB (H : Nat → Bool) (i : Nat) (b : Bool) : Nat → Bool := fun j => if j = i then b else H j
theorem cntB_hi (H : Nat → Bool) (i : Nat) (b : Bool) : ∀ n, n ≤ i → cntB (setB H i b) n = cntB H n
  | 0, _ => rfl
  | n + 1, h => by have e : setB H i b n = H n := by unfold setB; rw [if_neg (by omega)]
                   rw [cntB, cntB, cntB_hi H i b n (by omega), e]
theorem cntB_set (H : Nat → Bool) (i : Nat) (b : Bool) : ∀ n, i < n → cntB (setB H i b) n + (if H i = true then 1 else 0) = cntB H n + (if b = true then 1 else 0)
  | 0, h => by omega
  | n + 1, h => by
    rw [cntB, cntB]
    rcases (by omega : i = n ∨ i < n) with rfl | hi
    · rw [cntB_hi H i b i (Nat.le_refl _)]
      have e : setB H i b i = b := by unfold setB; rw [if_pos rfl]
      rw [e]; omega
    · have := cntB_set H i b n hi
      have e : setB H i b n = H n := by unfold setB; rw [if_neg (by omega)]
      rw [e]; omega
def updI (G : Nat → Int) (i : Nat) (v : Int) : Nat → Int := fun j => if j = i then v else G j
def cG (G : Nat → Int) (n : Nat) : List Value := (List.range n).map fun i => .int .u64 (G i)
theorem cG_len (G : Nat → Int) (n : Nat) : (cG G n).length = n := by simp [cG]
theorem cG_get {G : Nat → Int} {n i : Nat} (h : i < n) : (cG G n)[i]? = some (.int .u64 (G i)) := by simp [cG, List.getElem?_range h]
theorem cG_set (G : Nat → Int) {n i : Nat} (h : i < n) (x : Int) : (cG G n).set i (.int .u64 x) = cG (updI G i x) n := by
  apply List.ext_getElem?
  intro j
  rw [List.getElem?_set]
  by_cases hj : j < n
  · rw [cG_get hj, cG_get hj]
    by_cases e : i = j
    · subst e; simp [updI, cG, h]
    · rw [if_neg e]; simp [updI, Ne.symm e]
  · have h5 : ∀ G : Nat → Int, (cG G n)[j]? = none := fun G => by rw [List.getElem?_eq_none (by rw [cG_len]; omega)]
    rw [h5, h5, if_neg (by omega : ¬ i = j)]
def slotL (i : Nat) : Lit := .int .i64 ((i : Int) + 1)
def GO (w : World) (q g m n : Nat) (s : Int) : Prop := ∃ c, n ≤ c ∧ c ≤ 9223372036854775807 ∧ w.heap[q]? = some (.cells #[.slice (some ⟨g, 0, none⟩) n c, .map (some m), .int .i64 s] 95 (0, 0))
def GG (w : World) (g n : Nat) (G : Nat → Int) : Prop := ∃ cur : Array Value, w.heap[g]? = some (.cells cur 22 (0, 0)) ∧ cur.toList.take n = cG G n
theorem GO.of {w w' : World} {q g m n : Nat} {s : Int} (h : GO w q g m n s) (e : w'.heap[q]? = w.heap[q]?) : GO w' q g m n s := by
  obtain ⟨c, h1, h2, h3⟩ := h
  exact ⟨c, h1, h2, e.trans h3⟩
theorem GG.of {w w' : World} {g n : Nat} {G : Nat → Int} (h : GG w g n G) (e : w'.heap[g]? = w.heap[g]?) : GG w' g n G := by
  obtain ⟨c, h1, h2⟩ := h
  exact ⟨c, e.trans h1, h2⟩
theorem GO.lt {w : World} {q g m n : Nat} {s : Int} (h : GO w q g m n s) : q < w.heap.size := by
  obtain ⟨c, h1, h2, h3⟩ := h
  exact (Array.getElem?_eq_some_iff.1 h3).1
theorem GG.lt {w : World} {g n : Nat} {G : Nat → Int} (h : GG w g n G) : g < w.heap.size := by
  obtain ⟨c, h1, h2⟩ := h
  exact (Array.getElem?_eq_some_iff.1 h1).1
theorem GO.fr {w : World} {q g m n : Nat} {s : Int} (h : GO w q g m n s) (i : Nat) : w.frozen? ⟨q, i, none⟩ = false := by
  obtain ⟨c, h1, h2, h3⟩ := h
  exact frozen_of_row _ _ _ _ _ h3
theorem GG.fr {w : World} {g n : Nat} {G : Nat → Int} (h : GG w g n G) (i : Nat) : w.frozen? ⟨g, i, none⟩ = false := by
  obtain ⟨c, h1, h2⟩ := h
  exact frozen_of_row _ _ _ _ _ h1
structure GA (w : World) (q g m n : Nat) (H : Nat → Bool) (G : Nat → Int) (s : Int) : Prop where
  obj : GO w q g m n s
  gens : GG w g n G
  held : ∃ D : DataW Unit, w.ownsMap Try.prog 3 (unitElem (H := Unit)) m n D ∧ (∀ i, i < n → Maps.has D (slotL i) = H i) ∧ Maps.size D = cntB H n
  g1 : q ≠ g
  g2 : g ≠ m
  g3 : q ≠ m
  n0 : 0 < n
  n1 : n ≤ 250
  gb : ∀ i, 0 ≤ G i ∧ G i < 1125899906842624
  sb : 0 ≤ s ∧ s ≤ 1000000
theorem owns_tight {w : World} {m k : Nat} {D : DataW Unit} {K : TypeId} (h : w.ownsMap Try.prog K (unitElem (H := Unit)) m k D) : w.ownsMap Try.prog K (unitElem (H := Unit)) m (Maps.size D) D := by
  obtain ⟨es, clock, h1, h2, h3, h4⟩ := h
  refine ⟨es, clock, h1, h2, ?_, h4⟩
  rw [h4, Maps.size_eq, length_read]
  exact Nat.le_refl _
structure K3 (w w' : World) (q g m : Nat) : Prop where
  os : w'.os = w.os
  tape : w'.tape = w.tape
  output : w'.output = w.output
  size : w.heap.size ≤ w'.heap.size
  block : ∀ k, k < w.heap.size → k ≠ q → k ≠ g → k ≠ m → w'.heap[k]? = w.heap[k]?
theorem grown_of_below {w w' : World} (h : Below w.heap.size w w') : w.grownBy w' none := ⟨h.os, h.tape, h.output, h.size, fun k hk _ => h.block k hk⟩
theorem K3.of_below {w w' : World} (h : Below w.heap.size w w') (q g m : Nat) : K3 w w' q g m := ⟨h.os, h.tape, h.output, h.size, fun k hk _ _ _ => h.block k hk⟩
theorem K3.trans {w w1 w2 : World} {q g m : Nat} (h : K3 w w1 q g m) (k : K3 w1 w2 q g m) : K3 w w2 q g m :=
  ⟨k.os.trans h.os, k.tape.trans h.tape, k.output.trans h.output, Nat.le_trans h.size k.size, fun j hj a b c => (k.block j (Nat.lt_of_lt_of_le hj h.size) a b c).trans (h.block j hj a b c)⟩
theorem K3.of_grown {w w' : World} {r q g m : Nat} (h : w.grownBy w' (some r)) (hr : r = q ∨ r = g ∨ r = m) : K3 w w' q g m :=
  ⟨h.os, h.tape, h.output, h.size, fun k hk a b c => h.block k hk (by intro e; cases e; rcases hr with rfl | rfl | rfl <;> contradiction)⟩
theorem GA.lt {w : World} {q g m n : Nat} {H : Nat → Bool} {G : Nat → Int} {s : Int} (h : GA w q g m n H G s) : q < w.heap.size ∧ g < w.heap.size ∧ m < w.heap.size := by
  obtain ⟨D, h1, _⟩ := h.held
  exact ⟨h.obj.lt, h.gens.lt, h1.lt⟩
theorem GA.below {w w' : World} {q g m n : Nat} {H : Nat → Bool} {G : Nat → Int} {s : Int} (h : GA w q g m n H G s) (k : Below w.heap.size w w') : GA w' q g m n H G s := by
  obtain ⟨l1, l2, l3⟩ := h.lt
  obtain ⟨D, h1, h2⟩ := h.held
  exact ⟨h.obj.of (k.block _ l1), h.gens.of (k.block _ l2), ⟨D, h1.kept (grown_of_below k) (by simp), h2⟩, h.g1, h.g2, h.g3, h.n0, h.n1, h.gb, h.sb⟩
theorem GA.c0 {w : World} {q g m n : Nat} {H : Nat → Bool} {G : Nat → Int} {s : Int} (h : GA w q g m n H G s) : ∃ c, n ≤ c ∧ c ≤ 9223372036854775807 ∧ w.cell? ⟨q, 0, none⟩ = some (.slice (some ⟨g, 0, none⟩) n c) := by
  obtain ⟨c, h1, h2, h3⟩ := h.obj
  exact ⟨c, h1, h2, by rw [cell_of_row _ _ _ _ _ (0, 0) h3]; rfl⟩
theorem GA.c1 {w : World} {q g m n : Nat} {H : Nat → Bool} {G : Nat → Int} {s : Int} (h : GA w q g m n H G s) : w.cell? ⟨q, 1, none⟩ = some (.map (some m)) := by
  obtain ⟨c, h1, h2, h3⟩ := h.obj
  rw [cell_of_row _ _ _ _ _ (0, 0) h3]; rfl
theorem GA.c2 {w : World} {q g m n : Nat} {H : Nat → Bool} {G : Nat → Int} {s : Int} (h : GA w q g m n H G s) : w.cell? ⟨q, 2, none⟩ = some (.int .i64 s) := by
  obtain ⟨c, h1, h2, h3⟩ := h.obj
  rw [cell_of_row _ _ _ _ _ (0, 0) h3]; rfl
theorem GA.gc {w : World} {q g m n : Nat} {H : Nat → Bool} {G : Nat → Int} {s : Int} (h : GA w q g m n H G s) {i : Nat} (hi : i < n) : w.cell? ⟨g, i, none⟩ = some (.int .u64 (G i)) := by
  obtain ⟨cur, h1, h2⟩ := h.gens
  have h3 := cG_get (G := G) hi
  rw [← h2, List.getElem?_take_of_lt hi] at h3
  rw [cell_of_row _ _ _ _ _ (0, 0) h1]; simpa using h3
theorem GA.slip {w : World} {q g m n : Nat} {H : Nat → Bool} {G : Nat → Int} {s : Int} (h : GA w q g m n H G s) (t : Int) (ht : 0 ≤ t ∧ t ≤ 1000000) : GA (w.setCell ⟨q, 2, none⟩ (.int .i64 t)) q g m n H G t := by
  obtain ⟨D, h1, h2⟩ := h.held
  refine ⟨?_, ?_, ⟨D, h1.setCell (by intro e; exact h.g3 e.symm) _, h2⟩, h.g1, h.g2, h.g3, h.n0, h.n1, h.gb, ht⟩
  · obtain ⟨c, h1, h2, h3⟩ := h.obj
    exact ⟨c, h1, h2, by rw [heap_setCell_same w q 2 _ _ _ h3]; rfl⟩
  · exact h.gens.of (Below.heap_setCell _ _ _ _ (by intro e; exact h.g1 e.symm))
theorem GA.setG {w : World} {q g m n : Nat} {H : Nat → Bool} {G : Nat → Int} {s : Int} (h : GA w q g m n H G s) {i : Nat} (hi : i < n) {v : Int} (hv : 0 ≤ v ∧ v < 1125899906842624) : GA (w.setCell ⟨g, i, none⟩ (.int .u64 v)) q g m n H (updI G i v) s := by
  obtain ⟨D, h1, h2⟩ := h.held
  refine ⟨?_, ?_, ⟨D, h1.setCell (by intro e; exact h.g2 e.symm) _, h2⟩, h.g1, h.g2, h.g3, h.n0, h.n1, ?_, h.sb⟩
  · exact h.obj.of (Below.heap_setCell _ _ _ _ (by intro e; exact h.g1 e))
  · obtain ⟨cur, h1, h2⟩ := h.gens
    exact ⟨_, heap_setCell_same w g i _ _ _ h1, by rw [← cG_set G hi v, ← h2]; simp [List.take_set]⟩
  · intro j; unfold updI; split
    · exact hv
    · exact h.gb j
theorem ghas {w : World} {q g m n : Nat} {H : Nat → Bool} {G : Nat → Int} {s : Int} (h : GA w q g m n H G s) (slot : Int) :
    Calls Try.prog 37 #[.pointer (some ⟨q, 0, none⟩), .int .i64 slot] w fun e w' => e = .returned (.bool (decide (1 ≤ slot ∧ slot ≤ n))) ∧ w = w' := by
  obtain ⟨c, hc1, hc2, c0⟩ := h.c0
  have n1 := h.n1
  clear h
  rcases (by omega : slot < 1 ∨ (1 ≤ slot ∧ slot ≤ n) ∨ (1 ≤ slot ∧ n < slot)) with q1 | ⟨q1, q2⟩ | ⟨q1, q2⟩
  · rw [show decide (1 ≤ slot ∧ slot ≤ n) = false from decide_eq_false (by omega)]
    go_enter Try.func37, Try.ntmps37
    go_wp2_with fail
    go_ret
    exact ⟨rfl, rfl⟩
  · rw [show decide (1 ≤ slot ∧ slot ≤ n) = true from decide_eq_true ⟨q1, q2⟩]
    go_enter Try.func37, Try.ntmps37
    go_wp2_with fail
    go_ret
    exact ⟨rfl, rfl⟩
  · have hd : decide (slot ≤ (n : Int)) = false := decide_eq_false (by omega)
    rw [show decide (1 ≤ slot ∧ slot ≤ n) = false from decide_eq_false (by omega)]
    go_enter Try.func37, Try.ntmps37
    go_wp2_with fail
    go_ret
    exact ⟨rfl, rfl⟩
theorem gslip {w : World} {q g m n : Nat} {H : Nat → Bool} {G : Nat → Int} {s : Int} (h : GA w q g m n H G s) (hs : s < 1000000) :
    Calls Try.prog 55 #[.pointer (some ⟨q, 0, none⟩)] w fun e w' => e = .returned (.bool false) ∧ GA w' q g m n H G (s + 1) ∧ K3 w w' q g m := by
  refine Calls.veil fun Q HQ => ?_
  have HH := Lib.hid h
  have c2 := h.c2
  have ff : ∀ i, w.frozen? ⟨q, i, none⟩ = false := h.obj.fr
  obtain ⟨s0, s1⟩ := h.sb
  clear h
  go_enter Try.func55, Try.ntmps55
  go_wp2_with fail
  (try go_ret)
  rw [HQ.out]
  exact ⟨rfl, HH.out.slip (s + 1) ⟨by omega, by omega⟩, .of_grown (grown_cell _ _ _ _) (.inl rfl)⟩
theorem gheld {w : World} {q g m n : Nat} {H : Nat → Bool} {G : Nat → Int} {s : Int} (h : GA w q g m n H G s) :
    Calls Try.prog 21 #[.pointer (some ⟨q, 0, none⟩)] w fun e w' => e = .returned (.int .i64 (cntB H n : Nat)) ∧ w = w' := by
  have c1 := h.c1
  obtain ⟨D, h1, h2, h3⟩ := h.held
  rw [← h3]
  clear h h2 h3
  go_enter Try.func21, Try.ntmps21
  go_wp2_with (first
    | (at_len; refine wpList_len_own _ rfl _ 93 rfl 3 91 uMap _ m n D rfl h1 ?_)
    | go_in)
  go_ret
  exact ⟨rfl, rfl⟩
theorem gslips {w : World} {q g m n : Nat} {H : Nat → Bool} {G : Nat → Int} {s : Int} (h : GA w q g m n H G s) :
    Calls Try.prog 42 #[.pointer (some ⟨q, 0, none⟩)] w fun e w' => e = .returned (.int .i64 s) ∧ w = w' := by
  have c2 := h.c2
  clear h
  go_enter Try.func42, Try.ntmps42
  go_wp2_with fail
  go_ret
  exact ⟨rfl, rfl⟩
def edgeN (n : Nat) (G : Nat → Int) (slot : Int) : Int := if 1 ≤ slot ∧ slot ≤ n then makeI slot (G (slot.toNat - 1)) else 0
theorem gedge {w : World} {q g m n : Nat} {H : Nat → Bool} {G : Nat → Int} {s : Int} (h : GA w q g m n H G s) (slot : Int) :
    Calls Try.prog 39 #[.pointer (some ⟨q, 0, none⟩), .int .i64 slot] w fun e w' => e = .returned (.int .u64 (edgeN n G slot)) ∧ w = w' := by
  refine Calls.veil fun Q HQ => ?_
  have HH := Lib.hid h
  obtain ⟨c, hc1, hc2, c0⟩ := h.c0
  have n1 := h.n1
  clear h
  by_cases q1 : 1 ≤ slot ∧ slot ≤ n
  · obtain ⟨i, hi⟩ : ∃ i : Nat, slot = i + 1 := ⟨slot.toNat - 1, by omega⟩
    subst hi
    have hin : i < n := by omega
    have gc := HH.out.gc hin
    rw [show edgeN n G ((i : Int) + 1) = makeI (i + 1) (G i) by unfold edgeN; rw [if_pos q1]; congr 2] at HQ
    have hgb := HH.out.gb i
    have HD := Lib.hid (show decide (1 ≤ (i : Int) + 1 ∧ (i : Int) + 1 ≤ n) = true from decide_eq_true q1)
    clear q1
    go_enter Try.func39, Try.ntmps39
    go_wp2_with fail
    refine (ghas HH.out _).mono ?_; rintro _ _ ⟨rfl, rfl⟩
    rw [HD.out]
    go_wp2_with fail
    refine (emake_calls _ _ _ hgb.1).mono ?_; rintro _ _ ⟨rfl, rfl⟩
    go_wp2_with fail
    (try go_ret)
    rw [HQ.out]
    exact ⟨rfl, rfl⟩
  · rw [show edgeN n G slot = 0 by unfold edgeN; rw [if_neg q1]] at HQ
    have HD := Lib.hid (show decide (1 ≤ slot ∧ slot ≤ n) = false from decide_eq_false q1)
    clear q1
    go_enter Try.func39, Try.ntmps39
    go_wp2_with fail
    refine (ghas HH.out _).mono ?_; rintro _ _ ⟨rfl, rfl⟩
    rw [HD.out]
    go_wp2_with fail
    (try go_ret)
    rw [HQ.out]
    exact ⟨rfl, rfl⟩
end Go.Proofs.Ytaaciolfgplnoaa.Gd

/- Layer 7: a guard's Take and New. -/
namespace Go.Proofs.Ytaaciolfgplnoaa.Gd
open Go.RowKit Go.Maps WordM EdgeM
set_option linter.unusedVariables false
set_option linter.unusedSimpArgs false
theorem slotL_ne {i j : Nat} (h : j ≠ i) : slotL j ≠ slotL i := by
  intro e; unfold slotL at e; injection e; omega
theorem slotL_key {i : Nat} (hi : i < 250) : keyOf Try.prog 3 (.int .i64 ((i : Int) + 1)) = some (slotL i) := keyOf_int_mk uInt (WalkArith.wf_i64 (by omega))
def uD : DataW Unit := .agg []
theorem GA.put {w w' : World} {q g m n : Nat} {H : Nat → Bool} {G : Nat → Int} {s : Int} (h : GA w q g m n H G s) {i : Nat} (hi : i < n) (hf : H i = false) {D : DataW Unit} {k : Nat} (hm : w.ownsMap Try.prog 3 (unitElem (H := Unit)) m k D) (hD : ∀ i, i < n → Maps.has D (slotL i) = H i) (hs : Maps.size D = cntB H n)
    (hw : w'.ownsMap Try.prog 3 (unitElem (H := Unit)) m (k + 1) (D.put (slotL i) uD)) (hg : w.grownBy w' (some m)) : GA w' q g m n (setB H i true) G s := by
  obtain ⟨l1, l2, l3⟩ := h.lt
  have hsz : Maps.size (D.put (slotL i) uD) = cntB (setB H i true) n := by
    rw [size_put (hm.tidy gLaw), hD i hi, hf, hs]
    have := cntB_set H i true n hi
    rw [hf] at this
    simp at this ⊢; omega
  refine ⟨h.obj.of (hg.block _ l1 (by intro e; cases e; exact h.g3 rfl)), h.gens.of (hg.block _ l2 (by intro e; cases e; exact h.g2 rfl)), ⟨_, (owns_tight hw).mono (by rw [hsz]; exact cntB_le _ _), fun j hj => ?_, hsz⟩, h.g1, h.g2, h.g3, h.n0, h.n1, h.gb, h.sb⟩
  by_cases e : j = i
  · subst e
    rw [has_put_same hm.isMap (show WideAt.IsKeyLit (slotL j) from trivial)]; unfold setB; rw [if_pos rfl]
  · rw [has_put_other (slotL_ne e), hD j hj]; unfold setB; rw [if_neg e]
theorem GA.del {w w' : World} {q g m n : Nat} {H : Nat → Bool} {G : Nat → Int} {s : Int} (h : GA w q g m n H G s) {i : Nat} (hi : i < n) (hf : H i = true) {D : DataW Unit} {k : Nat} (hm : w.ownsMap Try.prog 3 (unitElem (H := Unit)) m k D) (hD : ∀ i, i < n → Maps.has D (slotL i) = H i) (hs : Maps.size D = cntB H n)
    (hw : w'.ownsMap Try.prog 3 (unitElem (H := Unit)) m k (D.del (slotL i))) (hg : w.grownBy w' (some m)) : GA w' q g m n (setB H i false) G s := by
  obtain ⟨l1, l2, l3⟩ := h.lt
  have hsz : Maps.size (D.del (slotL i)) = cntB (setB H i false) n := by
    have h1 := size_del (k := slotL i) (hm.tidy gLaw)
    rw [hD i hi, hf, hs] at h1
    have := cntB_set H i false n hi
    rw [hf] at this
    simp at this h1 ⊢; omega
  refine ⟨h.obj.of (hg.block _ l1 (by intro e; cases e; exact h.g3 rfl)), h.gens.of (hg.block _ l2 (by intro e; cases e; exact h.g2 rfl)), ⟨_, (owns_tight hw).mono (by rw [hsz]; exact cntB_le _ _), fun j hj => ?_, hsz⟩, h.g1, h.g2, h.g3, h.n0, h.n1, h.gb, h.sb⟩
  by_cases e : j = i
  · subst e
    rw [has_del_same]; unfold setB; rw [if_pos rfl]
  · rw [has_del_other (slotL_ne e), hD j hj]; unfold setB; rw [if_neg e]
theorem GA.look {w : World} {q g m n : Nat} {H : Nat → Bool} {G : Nat → Int} {s : Int} (h : GA w q g m n H G s) {i : Nat} (hi : i < n) : (Instr.lookup 93 (.map (some m)) (.int .i64 ((i : Int) + 1)) true).run Try.prog w = .ok (.tuple #[.agg #[], .bool (H i)]) w := by
  obtain ⟨D, h1, h2, _⟩ := h.held
  obtain ⟨v, ps, hr, hv⟩ := h1.look_ok gLaw uMap (zUnit w) unitElem_mk (slotL_key (i := i) (by have := h.n1; omega))
  obtain ⟨rfl, _⟩ := unitElem_inv hv
  rw [hr, h2 i hi]
theorem GA.take {w : World} {q g m n : Nat} {H : Nat → Bool} {G : Nat → Int} {s : Int} (h : GA w q g m n H G s) {i : Nat} (hi : i < n) (hf : H i = false) : ∃ w', (Instr.mapUpdate 93 (.map (some m)) (.int .i64 ((i : Int) + 1)) (.agg #[])).run Try.prog w = .ok () w' ∧ GA w' q g m n (setB H i true) G s ∧ K3 w w' q g m := by
  obtain ⟨D, h1, h2, h3⟩ := h.held
  obtain ⟨w', hr, hw, hg⟩ := h1.update gLaw uMap (by have := h.n1; unfold maxLen; omega) (slotL_key (i := i) (by have := h.n1; omega)) unitElem_mk
  exact ⟨w', hr, h.put hi hf h1 h2 h3 hw hg, .of_grown hg (.inr (.inr rfl))⟩
theorem GA.drop {w : World} {q g m n : Nat} {H : Nat → Bool} {G : Nat → Int} {s : Int} (h : GA w q g m n H G s) {i : Nat} (hi : i < n) (hf : H i = true) (ty : TypeId) : ∃ w', (Builtin.delete_ #[93, 3] ty #[.map (some m), .int .i64 ((i : Int) + 1)]).run Try.prog w = .ok (.tuple #[]) w' ∧ GA w' q g m n (setB H i false) G s ∧ K3 w w' q g m := by
  obtain ⟨D, h1, h2, h3⟩ := h.held
  obtain ⟨w', hr, hw, hg⟩ := h1.drop gLaw uMap (slotL_key (i := i) (by have := h.n1; omega)) ty
  exact ⟨w', hr, h.del hi hf h1 h2 h3 hw hg.grown, .of_grown hg.grown (.inr (.inr rfl))⟩
def canT (n : Nat) (H : Nat → Bool) (slot : Int) : Bool := decide (1 ≤ slot ∧ slot ≤ n) && !H (slot.toNat - 1)
def takeH (n : Nat) (H : Nat → Bool) (slot : Int) : Nat → Bool := if canT n H slot = true then setB H (slot.toNat - 1) true else H
set_option maxRecDepth 8000 in
set_option maxHeartbeats 2000000 in
theorem gtake {w : World} {q g m n : Nat} {H : Nat → Bool} {G : Nat → Int} {s : Int} (h : GA w q g m n H G s) (slot : Int) (hs : s < 1000000) :
    Calls Try.prog 28 #[.pointer (some ⟨q, 0, none⟩), .int .i64 slot] w fun e w' => e = .returned (.bool (canT n H slot)) ∧ GA w' q g m n (takeH n H slot) G (if canT n H slot = true then s else s + 1) ∧ K3 w w' q g m := by
  refine Calls.veil fun Q HQ => ?_
  have HH := Lib.hid h
  have c1 := h.c1
  have n1 := h.n1
  clear h
  by_cases q1 : 1 ≤ slot ∧ slot ≤ n
  · obtain ⟨i, hi⟩ : ∃ i : Nat, slot = i + 1 := ⟨slot.toNat - 1, by omega⟩
    subst hi
    have hin : i < n := by omega
    have HD := Lib.hid (show decide (1 ≤ (i : Int) + 1 ∧ (i : Int) + 1 ≤ n) = true from decide_eq_true q1)
    have HI := Lib.hid (show ((i : Int) + 1).toNat - 1 = i by omega)
    clear q1
    have hlk := HH.out.look hin
    cases hf : H i with
    | true =>
      have HC := Lib.hid (show canT n H ((i : Int) + 1) = false by unfold canT; rw [HD.out, HI.out, hf]; rfl)
      rw [hf] at hlk
      go_enter Try.func28, Try.ntmps28
      go_wp2_with fail
      refine (ghas HH.out _).mono ?_; rintro _ _ ⟨rfl, rfl⟩
      rw [HD.out]
      go_wp2_with fail
      generalize hV : World.alloc _ _ = V
      have HB := Lib.hid (show Below w.heap.size w V by rw [← hV]; exact (Below.refl _ _).alloc (Nat.le_refl _) _)
      clear hV
      refine (gslip (HH.out.below HB.out) hs).mono ?_; rintro _ z ⟨rfl, h1, h2⟩
      have H1 := Lib.hid h1
      have H2 := Lib.hid h2
      clear h1 h2
      go_wp2_with fail
      (try go_ret)
      rw [HQ.out]
      refine ⟨by rw [HC.out]; rfl, ?_, (K3.of_below HB.out q g m).trans H2.out⟩
      unfold takeH
      rw [HC.out]
      exact H1.out
    | false =>
      have HC := Lib.hid (show canT n H ((i : Int) + 1) = true by unfold canT; rw [HD.out, HI.out, hf]; rfl)
      have HF := Lib.hid hf
      rw [hf] at hlk
      go_enter Try.func28, Try.ntmps28
      go_wp2_with fail
      refine (ghas HH.out _).mono ?_; rintro _ _ ⟨rfl, rfl⟩
      rw [HD.out]
      go_upto_region 6 with fail
      generalize hV : World.alloc _ _ = V
      have HB := Lib.hid (show Below w.heap.size w V by rw [← hV]; exact (Below.refl _ _).alloc (Nat.le_refl _) _)
      clear hV
      have HV := Lib.hid (HH.out.below HB.out)
      have c1 := HV.out.c1
      obtain ⟨W, hrun, h1, h2⟩ := HV.out.take hin HF.out
      have H1 := Lib.hid h1
      have H2 := Lib.hid h2
      clear h1 h2 hlk
      go_wp2_with fail
      (try go_ret)
      rw [HQ.out]
      refine ⟨by rw [HC.out]; rfl, ?_, (K3.of_below HB.out q g m).trans H2.out⟩
      unfold takeH
      rw [HC.out, if_pos rfl, if_pos rfl, HI.out]
      exact H1.out
  · have HD := Lib.hid (show decide (1 ≤ slot ∧ slot ≤ n) = false from decide_eq_false q1)
    have HC := Lib.hid (show canT n H slot = false by unfold canT; rw [HD.out]; rfl)
    clear q1
    go_enter Try.func28, Try.ntmps28
    go_wp2_with fail
    refine (ghas HH.out _).mono ?_; rintro _ _ ⟨rfl, rfl⟩
    rw [HD.out]
    go_wp2_with fail
    refine (gslip HH.out hs).mono ?_; rintro _ z ⟨rfl, h1, h2⟩
    have H1 := Lib.hid h1
    have H2 := Lib.hid h2
    clear h1 h2
    go_wp2_with fail
    (try go_ret)
    rw [HQ.out]
    refine ⟨by rw [HC.out]; rfl, ?_, H2.out⟩
    unfold takeH
    rw [HC.out]
    exact H1.out
end Go.Proofs.Ytaaciolfgplnoaa.Gd

/- Layer 7: the reference's guard; New of both. -/
namespace Go.Proofs.Ytaaciolfgplnoaa.Gd
open Go.RowKit Go.Maps WordM EdgeM
set_option linter.unusedVariables false
set_option linter.unusedSimpArgs false
/-- The slots of the reference's guard, as they are read. -/
def SR (w : World) (b n : Nat) (H : Nat → Bool) (G : Nat → Int) : Prop := ∀ i, i < n → w.cell? ⟨b, i * 2, none⟩ = some (.bool (H i)) ∧ w.cell? ⟨b, i * 2 + 1, none⟩ = some (.int .u64 (G i))
theorem SR.below {w w' : World} {b n : Nat} {H : Nat → Bool} {G : Nat → Int} (h : SR w b n H G) (k : Below w.heap.size w w') : SR w' b n H G := fun i hi => by
  obtain ⟨h0, h1⟩ := h i hi
  exact ⟨Ext.cell ⟨w', k⟩ h0, Ext.cell ⟨w', k⟩ h1⟩
theorem SR.k3 {w w' : World} {q g m b n : Nat} {H : Nat → Bool} {G : Nat → Int} (h : SR w b n H G) (k : K3 w w' q g m) (h1 : b ≠ q) (h2 : b ≠ g) (h3 : b ≠ m) : SR w' b n H G := fun i hi => by
  obtain ⟨c0, c1⟩ := h i hi
  have hb := k.block b (World.block_lt_of_cell? w ⟨b, i * 2, none⟩ c0) h1 h2 h3
  exact ⟨(World.cell?_of_block (a := ⟨b, i * 2, none⟩) hb).trans c0, (World.cell?_of_block (a := ⟨b, i * 2 + 1, none⟩) hb).trans c1⟩
end Go.Proofs.Ytaaciolfgplnoaa.Gd

/- Layer 7: a guard's Leads, Drop. -/
namespace Go.Proofs.Ytaaciolfgplnoaa.Gd
open Go.RowKit Go.Maps WordM EdgeM
set_option linter.unusedVariables false
set_option linter.unusedSimpArgs false
def leadsB (n : Nat) (H : Nat → Bool) (G : Nat → Int) (e : Int) : Bool := decide (1 ≤ e % 4096 ∧ e % 4096 ≤ n) && (H ((e % 4096).toNat - 1) && (G ((e % 4096).toNat - 1) == e / 4096 % 1125899906842624))
theorem edge_to {i : Nat} {e x : Int} (hi : i < 250) (e1 : 0 ≤ e) (hs : e % 4096 = i + 1) (hx : 0 ≤ x ∧ x < 1125899906842624) : (makeI (i + 1) x % 4611686018427387904 == e % 4611686018427387904) = (x == e / 4096 % 1125899906842624) := by
  have h1 : makeI (i + 1) x = (i + 1) + 4096 * x := by unfold makeI; rw [slotI_of (by omega) (by omega)]; omega
  rw [h1, Bool.eq_iff_iff, beq_iff_eq, beq_iff_eq]
  omega
set_option maxRecDepth 16000 in
set_option maxHeartbeats 2000000 in
theorem gleads {w : World} {q g m n : Nat} {H : Nat → Bool} {G : Nat → Int} {s : Int} (h : GA w q g m n H G s) (e : Int) (e1 : 0 ≤ e) (e2 : e < 18446744073709551616) :
    Calls Try.prog 16 #[.pointer (some ⟨q, 0, none⟩), .int .u64 e] w fun x w' => x = .returned (.bool (leadsB n H G e)) ∧ Below w.heap.size w w' := by
  refine Calls.veil fun Q HQ => ?_
  have HH := Lib.hid h
  have n1 := h.n1
  have E2 := Lib.hid e2
  obtain ⟨t, ht⟩ : ∃ t, t = e % 4096 := ⟨_, rfl⟩
  have HT := Lib.hid ht
  clear h
  by_cases q1 : 1 ≤ t ∧ t ≤ n
  · obtain ⟨i, hi⟩ : ∃ i : Nat, t = i + 1 := ⟨t.toNat - 1, by omega⟩
    have hin : i < n := by omega
    have hgb := HH.out.gb i
    have HE := Lib.hid (edge_to (i := i) (e := e) (x := G i) (by omega) e1 (by omega) hgb)
    have HL := Lib.hid (show leadsB n H G e = (H i && (G i == e / 4096 % 1125899906842624)) by
      unfold leadsB
      rw [← ht, decide_eq_true q1, hi, show ((i : Int) + 1).toNat - 1 = i by omega]
      rfl)
    have HI := Lib.hid hi
    have HD := Lib.hid (show decide (1 ≤ t ∧ t ≤ (n : Int)) = true from decide_eq_true q1)
    have HN := Lib.hid (show edgeN n G t = makeI (i + 1) (G i) by unfold edgeN; rw [if_pos q1, hi]; congr 2)
    have HM := Lib.hid (makeI_bd ((i : Int) + 1) hgb.1)
    have E1 := Lib.hid e1
    clear ht hi q1 hgb e1 e2
    go_enter Try.func16, Try.ntmps16
    go_wp2_with fail
    refine (eslot_calls _ _ E1.out E2.out).mono ?_; rintro _ _ ⟨rfl, rfl⟩
    rw [← HT.out]
    go_wp2_with fail
    refine (ghas HH.out _).mono ?_; rintro _ _ ⟨rfl, rfl⟩
    rw [HD.out]
    go_upto_region 3 with fail
    go_cut [6] from 12 (fun v wx => v = .bool (H i) ∧ Below w.heap.size w wx)
    case first =>
      have c1 := HH.out.c1
      have hlk1 : (Instr.lookup 93 (.map (some m)) (.int .i64 t) true).run Try.prog w.drew = .ok (.tuple #[.agg #[], .bool (H i)]) w.drew := by rw [HI.out]; exact (HH.out.below (Below.refl _ _).drew).look hin
      have hlk2 : (Instr.lookup 93 (.map (some m)) (.int .i64 t) true).run Try.prog (w.drew.alloc (.cells #[] 91)) = .ok (.tuple #[.agg #[], .bool (H i)]) (w.drew.alloc (.cells #[] 91)) := by rw [HI.out]; exact (HH.out.below ((Below.refl _ _).drew.alloc (Nat.le_refl _) _)).look hin
      have hlk3 : (Instr.lookup 93 (.map (some m)) (.int .i64 t) true).run Try.prog (w.alloc (.cells #[] 91)).drew = .ok (.tuple #[.agg #[], .bool (H i)]) (w.alloc (.cells #[] 91)).drew := by rw [HI.out]; exact (HH.out.below ((Below.refl _ _).alloc (Nat.le_refl _) _).drew).look hin
      have c1a : (w.alloc (.cells #[] 91)).cell? ⟨q, 1, none⟩ = some (.map (some m)) := (HH.out.below ((Below.refl _ _).alloc (Nat.le_refl _) _)).c1
      have hql : q < w.heap.size := HH.out.lt.1
      have hqe : ¬ q = w.heap.size := by omega
      have hqf : (q == w.heap.size) = false := by rw [beq_eq_false_iff_ne]; exact hqe
      have HBA := Lib.hid (show Below w.heap.size w (w.alloc (.cells #[] 91)) from (Below.refl _ _).alloc (Nat.le_refl _) _)
      clear hqf
      go_region_with (go_at_call 38; refine (eslot_calls _ _ E1.out E2.out).mono ?_; rintro _ _ ⟨rfl, rfl⟩; rw [← HT.out])
      all_goals
        go_wp2_with fail
        go_meet
        case rel => exact ⟨rfl, (HBA.out).drew⟩
    case rest =>
      obtain ⟨rfl, hb3⟩ := hcut
      have HB3 := Lib.hid hb3
      clear hb3
      have HG3 := Lib.hid (HH.out.below HB3.out)
      rw [HL.out, ← HE.out] at HQ
      cases hf : H i with
      | false =>
        rw [hf] at HQ
        go_wp2_with fail
        (try go_ret)
        rw [HQ.out]
        exact ⟨rfl, HB3.out⟩
      | true =>
        rw [hf, Bool.true_and] at HQ
        go_wp2_with fail
        refine (eslot_calls _ _ E1.out E2.out).mono ?_; rintro _ _ ⟨rfl, rfl⟩
        rw [← HT.out]
        go_wp2_with fail
        refine (gedge HG3.out _).mono ?_; rintro _ _ ⟨rfl, rfl⟩
        rw [HN.out]
        go_wp2_with fail
        refine (eto_calls _ _ _ HM.out.1 (by have := HM.out.2; omega) E1.out E2.out).mono ?_; rintro _ _ ⟨rfl, rfl⟩
        generalize (makeI (↑i + 1) (G i) % 4611686018427387904 == e % 4611686018427387904) = b at HQ
        go_wp2_with fail
        (try go_ret)
        rw [HQ.out]
        exact ⟨rfl, HB3.out⟩
  · have HD := Lib.hid (show decide (1 ≤ t ∧ t ≤ (n : Int)) = false from decide_eq_false q1)
    have HL := Lib.hid (show leadsB n H G e = false by unfold leadsB; rw [← ht, HD.out]; rfl)
    have E1 := Lib.hid e1
    clear ht q1 e1 e2
    go_enter Try.func16, Try.ntmps16
    go_wp2_with fail
    refine (eslot_calls _ _ E1.out E2.out).mono ?_; rintro _ _ ⟨rfl, rfl⟩
    rw [← HT.out]
    go_wp2_with fail
    refine (ghas HH.out _).mono ?_; rintro _ _ ⟨rfl, rfl⟩
    rw [HD.out]
    go_wp2_with fail
    (try go_ret)
    rw [HQ.out]
    exact ⟨by rw [HL.out]; rfl, Below.refl _ _⟩
end Go.Proofs.Ytaaciolfgplnoaa.Gd

/- Layer 7: a guard's Drop. -/
namespace Go.Proofs.Ytaaciolfgplnoaa.Gd
open Go.RowKit Go.Maps WordM EdgeM
set_option linter.unusedVariables false
set_option linter.unusedSimpArgs false
def dropH (n : Nat) (H : Nat → Bool) (G : Nat → Int) (e : Int) : Nat → Bool := if leadsB n H G e = true then setB H ((e % 4096).toNat - 1) false else H
def dropG (n : Nat) (H : Nat → Bool) (G : Nat → Int) (e : Int) : Nat → Int := if leadsB n H G e = true then updI G ((e % 4096).toNat - 1) ((G ((e % 4096).toNat - 1) + 1) % 1125899906842624) else G
theorem leads_parts {n : Nat} {H : Nat → Bool} {G : Nat → Int} {e : Int} (h : leadsB n H G e = true) : ∃ i : Nat, e % 4096 = i + 1 ∧ i < n ∧ H i = true ∧ G i = e / 4096 % 1125899906842624 := by
  unfold leadsB at h
  rw [Bool.and_eq_true, Bool.and_eq_true, decide_eq_true_eq, beq_iff_eq] at h
  obtain ⟨⟨h1, h2⟩, h3, h4⟩ := h
  exact ⟨(e % 4096).toNat - 1, by omega, by omega, h3, h4⟩
theorem make_gen (s : Int) {x : Int} (hx : 0 ≤ x) : makeI s x / 4096 % 1125899906842624 = x % 1125899906842624 := by
  have := slotI_bd s
  unfold makeI; omega
set_option maxRecDepth 8000 in
set_option maxHeartbeats 1000000 in
theorem gdrop {w : World} {q g m n : Nat} {H : Nat → Bool} {G : Nat → Int} {s : Int} (h : GA w q g m n H G s) (e : Int) (e1 : 0 ≤ e) (e2 : e < 18446744073709551616) (hs : s < 1000000) :
    Calls Try.prog 97 #[.pointer (some ⟨q, 0, none⟩), .int .u64 e] w fun x w' => x = .returned (.bool (leadsB n H G e)) ∧ GA w' q g m n (dropH n H G e) (dropG n H G e) (if leadsB n H G e = true then s else s + 1) ∧ K3 w w' q g m := by
  refine Calls.veil fun Q HQ => ?_
  have HH := Lib.hid h
  have n1 := h.n1
  have E1 := Lib.hid e1
  have E2 := Lib.hid e2
  clear h e1 e2
  cases hl : leadsB n H G e with
  | false =>
    rw [show dropH n H G e = H by unfold dropH; rw [hl]; rfl, show dropG n H G e = G by unfold dropG; rw [hl]; rfl, hl] at HQ
    have HL := Lib.hid hl
    clear hl
    go_enter Try.func97, Try.ntmps97
    go_wp2_with fail
    refine (gleads HH.out _ E1.out E2.out).mono ?_; rintro _ z1 ⟨rfl, hb1⟩
    have HB1 := Lib.hid hb1
    clear hb1
    rw [HL.out]
    go_wp2_with fail
    refine (gslip (HH.out.below HB1.out) hs).mono ?_; rintro _ z ⟨rfl, h1, h2⟩
    have H1 := Lib.hid h1
    have H2 := Lib.hid h2
    clear h1 h2
    go_wp2_with fail
    (try go_ret)
    rw [HQ.out]
    exact ⟨rfl, H1.out, (K3.of_below HB1.out q g m).trans H2.out⟩
  | true =>
    obtain ⟨i, hi, hin, hh, hg⟩ := leads_parts hl
    have hti : ((i : Int) + 1).toNat - 1 = i := by omega
    rw [show dropH n H G e = setB H i false by unfold dropH; rw [hl, hi, hti]; rfl, show dropG n H G e = updI G i ((G i + 1) % 1125899906842624) by unfold dropG; rw [hl, hi, hti]; rfl, hl] at HQ
    have HL := Lib.hid hl
    have HI := Lib.hid hi
    have HGE := Lib.hid hg
    have HHI := Lib.hid hh
    have hgb := HH.out.gb i
    obtain ⟨y, hy⟩ : ∃ y, y = G i := ⟨_, rfl⟩
    rw [← hy] at hgb HGE HQ
    have HY := Lib.hid hy
    clear hl hi hti hh hg hy
    go_enter Try.func97, Try.ntmps97
    go_wp2_with fail
    refine (gleads HH.out _ E1.out E2.out).mono ?_; rintro _ z1 ⟨rfl, hb1⟩
    have HB1 := Lib.hid hb1
    clear hb1
    rw [HL.out]
    go_wp2_with fail
    refine (eslot_calls _ _ E1.out E2.out).mono ?_; rintro _ _ ⟨rfl, rfl⟩
    rw [HI.out]
    have HG1 := Lib.hid (HH.out.below HB1.out)
    have c1 := HG1.out.c1
    obtain ⟨W, hrun, h1, h2⟩ := HG1.out.drop hin HHI.out 0
    have H1 := Lib.hid h1
    have H2 := Lib.hid ((K3.of_below HB1.out q g m).trans h2)
    clear h1 h2
    go_upto_region 5 with fail
    clear c1 hrun
    obtain ⟨c, hc1, hc2, c0⟩ := H1.out.c0
    have ff : ∀ k, W.frozen? ⟨g, k, none⟩ = false := H1.out.gens.fr
    have gc := H1.out.gc hin
    have hii : (i : Int) < n := by omega
    have HMB := Lib.hid (makeI_bd ((i : Int) + 1) (show 0 ≤ y + 1 by omega))
    have HMG := Lib.hid (show makeI ((i : Int) + 1) (y + 1) / 4096 % 1125899906842624 = (y + 1) % 1125899906842624 from make_gen _ (by omega))
    have hwi : IntKind.i64.wrap (i : Int) = i := by rw [IntKind.wrap_i64]; omega
    have hwy : IntKind.u64.wrap (y + 1) = y + 1 := by rw [IntKind.wrap_u64]; omega
    go_still_tail 13, (by kernel_rfl)
    still_call ((egen_calls e _ E1.out E2.out).mono (fun _ _ h => ⟨h.1, h.2.symm⟩))
    rw [← HGE.out]
    repeat still_step
    still_call ((emake_calls ((i : Int) + 1) (y + 1) _ (by omega)).mono (fun _ _ h => ⟨h.1, h.2.symm⟩))
    repeat still_step
    still_call ((egen_calls (makeI ((i : Int) + 1) (y + 1)) _ HMB.out.1 (by have := HMB.out.2; omega)).mono (fun _ _ h => ⟨h.1, h.2.symm⟩))
    rw [HMG.out]
    repeat still_step
    try refine wpStill_nil ?_
    have HYB := Lib.hid (show 0 ≤ (y + 1) % 1125899906842624 ∧ (y + 1) % 1125899906842624 < 1125899906842624 by omega)
    generalize (y + 1) % 1125899906842624 = y2 at HYB HQ ⊢
    go_wp2_with fail
    (try go_ret)
    rw [HQ.out]
    exact ⟨rfl, (H1.out.setG hin HYB.out).below (Below.refl _ _).drew, H2.out.trans ((K3.of_grown (grown_cell _ _ _ _) (.inr (.inl rfl))).trans (.of_below (Below.refl _ _).drew q g m))⟩
end Go.Proofs.Ytaaciolfgplnoaa.Gd

/- Layer 7: New of both; the reference's Edge, Leads. -/
namespace Go.Proofs.Ytaaciolfgplnoaa.Gd
open Go.RowKit Go.Maps WordM EdgeM
set_option linter.unusedVariables false
set_option linter.unusedSimpArgs false
theorem info64 : (Try.prog.info? 22).map (fun i => (i.zero, i.size, i.bytes)) = some (some (.int .u64 0), 1, 8) := by kernel_rfl
theorem made_one (n : Nat) : madeCells #[.int .u64 0] n = (cG (fun _ => 0) n).toArray := by
  apply Array.toList_inj.1
  simp [madeCells, cG]
  intro a _; rw [Nat.mod_one]; rfl
theorem run_gens (n : Nat) (hn : n ≤ 250) (w : World) : (Instr.makeSlice 43 (.int .i64 n) (.int .i64 n)).run Try.prog w = .ok (.slice (some ⟨w.heap.size, 0, none⟩) n n) (w.alloc (.cells (cG (fun _ => 0) n).toArray 22)) := by
  obtain ⟨i, hi, hz, hs, hb⟩ := info_parts info64
  rw [run_makeSlice w 43 22 i _ (by kernel_rfl) hi hz .i64 .i64 n n (by omega) (by omega) (by rw [hs]; omega) (by rw [hb]; omega) (by omega)]
  rw [hs, ← made_one]
  simp [Value.cells]
theorem GA.made (w : World) (n : Nat) (h0 : 0 < n) (h1 : n ≤ 250) (W : World) (hW : W = ((w.alloc (.cells (cG (fun _ => 0) n).toArray 22)).alloc (.map #[] 0)).alloc (.cells #[.slice (some ⟨w.heap.size, 0, none⟩) n n, .map (some (w.heap.size + 1)), .int .i64 0] 95)) :
    GA W (w.heap.size + 2) w.heap.size (w.heap.size + 1) n (fun _ => false) (fun _ => 0) 0 := by
  subst hW
  generalize hA : w.alloc (.cells (cG (fun _ => 0) n).toArray 22) = A
  have sA : A.heap.size = w.heap.size + 1 := by rw [← hA, World.size_alloc]
  have gA : A.heap[w.heap.size]? = some (.cells (cG (fun _ => 0) n).toArray 22 (0, 0)) := by rw [← hA]; exact heap_alloc_new w _
  clear hA
  have hm := World.ownsMap_made (H := Unit) A Try.prog 3 (unitElem (H := Unit))
  rw [sA] at hm
  generalize hB : A.alloc (.map #[] 0) = B at hm ⊢
  have sB : B.heap.size = w.heap.size + 2 := by rw [← hB, World.size_alloc, sA]
  have gB : B.heap[w.heap.size]? = some (.cells (cG (fun _ => 0) n).toArray 22 (0, 0)) := by rw [← hB, Below.heap_alloc _ _ _ (by omega)]; exact gA
  clear hB
  refine ⟨?_, ?_, ⟨.map [], (hm.alloc _).mono (Nat.zero_le _), fun i hi => rfl, ?_⟩, by omega, by omega, by omega, h0, h1, fun i => ⟨by omega, by omega⟩, by omega⟩
  · exact ⟨n, Nat.le_refl _, by omega, by rw [← sB]; exact heap_alloc_new B _⟩
  · exact ⟨_, by rw [Below.heap_alloc _ _ _ (by omega)]; exact gB, by show List.take n (cG _ n) = _; rw [List.take_of_length_le (by rw [cG_len]; exact Nat.le_refl _)]⟩
  · have : ∀ n, cntB (fun _ => false) n = 0 := fun n => by induction n with
      | zero => rfl
      | succ n ih => rw [cntB, ih]; rfl
    rw [this]; rfl
set_option maxRecDepth 8000 in
set_option maxHeartbeats 1000000 in
theorem gnew (slots : Int) (w : World) : Calls Try.prog 27 #[.int .i64 slots] w fun e w' => Below w.heap.size w w' ∧ ((¬ (1 ≤ slots ∧ slots ≤ 250) ∧ e = .returned (.pointer none)) ∨ (1 ≤ slots ∧ slots ≤ 250 ∧ ∃ q g m, e = .returned (.pointer (some ⟨q, 0, none⟩)) ∧ w.heap.size ≤ q ∧ w.heap.size ≤ g ∧ w.heap.size ≤ m ∧ GA w' q g m slots.toNat (fun _ => false) (fun _ => 0) 0)) := by
  refine Calls.veil fun Q HQ => ?_
  rcases (by omega : slots < 1 ∨ (1 ≤ slots ∧ 250 < slots) ∨ (1 ≤ slots ∧ slots ≤ 250)) with q1 | ⟨q1, q2⟩ | ⟨q1, q2⟩
  · go_enter Try.func27, Try.ntmps27
    go_wp2_with fail
    (try go_ret)
    rw [HQ.out]
    exact ⟨Below.refl _ _, .inl ⟨by omega, rfl⟩⟩
  · go_enter Try.func27, Try.ntmps27
    go_wp2_with fail
    (try go_ret)
    rw [HQ.out]
    exact ⟨Below.refl _ _, .inl ⟨by omega, rfl⟩⟩
  · obtain ⟨n, rfl⟩ : ∃ n : Nat, slots = n := ⟨slots.toNat, by omega⟩
    have hrun := run_gens n (by omega) w
    have hmm := @run_makeMap Try.prog
    have HP := Lib.hid (And.intro q1 q2)
    go_enter Try.func27, Try.ntmps27
    go_wp2_with fail
    (try go_ret)
    rw [HQ.out]
    obtain ⟨q1, q2⟩ := HP.out
    refine ⟨(((Below.refl _ _).alloc (Nat.le_refl _) _).alloc (by simp) _).alloc (by simp; omega) _, .inr ⟨q1, q2, w.heap.size + 2, w.heap.size, w.heap.size + 1, ?_, by omega, by omega, by omega, GA.made w n (by omega) (by omega) _ ?_⟩⟩
    · simp
    · simp
end Go.Proofs.Ytaaciolfgplnoaa.Gd

/- Layer 7: the reference's Edge, Leads. -/
namespace Go.Proofs.Ytaaciolfgplnoaa.Gd
open Go.RowKit Go.Maps WordM EdgeM
set_option linter.unusedVariables false
set_option linter.unusedSimpArgs false
end Go.Proofs.Ytaaciolfgplnoaa.Gd

/- Layer 7: the reference's slots in a row of their own; a copy. -/
namespace Go.Proofs.Ytaaciolfgplnoaa.Gd
open Go.RowKit Go.Maps WordM EdgeM
set_option linter.unusedVariables false
set_option linter.unusedSimpArgs false
end Go.Proofs.Ytaaciolfgplnoaa.Gd

/- Layer 7: the reference's Take, Drop, New. -/
namespace Go.Proofs.Ytaaciolfgplnoaa.Gd
open Go.RowKit Go.Maps WordM EdgeM
set_option linter.unusedVariables false
set_option linter.unusedSimpArgs false
end Go.Proofs.Ytaaciolfgplnoaa.Gd

/- Layer 7: the law's do, same, lives. -/
namespace Go.Proofs.Ytaaciolfgplnoaa.Gd
open Go.RowKit Go.Maps WordM EdgeM
set_option linter.unusedVariables false
set_option linter.unusedSimpArgs false
/-- Both guards, alike. -/
structure GB (w : World) (q g m b n c : Nat) (H : Nat → Bool) (G : Nat → Int) (s : Int) : Prop where
  ga : GA w q g m n H G s
  sr : SR w b n H G
  bq : b ≠ q
  bg : b ≠ g
  bm : b ≠ m
  nc : n ≤ c
  cc : c ≤ 9223372036854775807
theorem GB.below {w w' : World} {q g m b n c : Nat} {H : Nat → Bool} {G : Nat → Int} {s : Int} (h : GB w q g m b n c H G s) (k : Below w.heap.size w w') : GB w' q g m b n c H G s :=
  ⟨h.ga.below k, h.sr.below k, h.bq, h.bg, h.bm, h.nc, h.cc⟩
theorem GB.lt {w : World} {q g m b n c : Nat} {H : Nat → Bool} {G : Nat → Int} {s : Int} (h : GB w q g m b n c H G s) : b < w.heap.size :=
  World.block_lt_of_cell? w ⟨b, 0 * 2, none⟩ (h.sr 0 h.ga.n0).1
end Go.Proofs.Ytaaciolfgplnoaa.Gd

/- Layer 7: the law's do. -/
namespace Go.Proofs.Ytaaciolfgplnoaa.Gd
open Go.RowKit Go.Maps WordM EdgeM
set_option linter.unusedVariables false
set_option linter.unusedSimpArgs false
structure KX (X : List Nat) (w w' : World) : Prop where
  os : w'.os = w.os
  tape : w'.tape = w.tape
  output : w'.output = w.output
  size : w.heap.size ≤ w'.heap.size
  block : ∀ k, k < w.heap.size → k ∉ X → w'.heap[k]? = w.heap[k]?
theorem KX.trans {X : List Nat} {w w1 w2 : World} (h : KX X w w1) (k : KX X w1 w2) : KX X w w2 :=
  ⟨k.os.trans h.os, k.tape.trans h.tape, k.output.trans h.output, Nat.le_trans h.size k.size, fun j hj a => (k.block j (Nat.lt_of_lt_of_le hj h.size) a).trans (h.block j hj a)⟩
theorem KX.of_below {X : List Nat} {w w' : World} (h : Below w.heap.size w w') : KX X w w' := ⟨h.os, h.tape, h.output, h.size, fun k hk _ => h.block k hk⟩
theorem KX.set {w : World} {X : List Nat} {b i : Nat} {v : Value} (hb : b ∈ X) : KX X w (w.setCell ⟨b, i, none⟩ v) :=
  ⟨rfl, rfl, rfl, by simp [World.setCell], fun k hk ha => Below.heap_setCell _ _ _ _ (by rintro rfl; exact ha hb)⟩
structure E4 (W : World) (X : List Nat) where
  w : World
  h : KX X W w
instance (W : World) (X : List Nat) : Nonempty (E4 W X) := ⟨⟨W, .of_below (Below.refl _ _)⟩⟩
theorem KX.cell {W w : World} {X : List Nat} (x : KX X W w) {b o : Nat} {v : Value} (h : W.cell? ⟨b, o, none⟩ = some v) (hb : b ∉ X) : w.cell? ⟨b, o, none⟩ = some v :=
  (World.cell?_of_block (a := ⟨b, o, none⟩) (x.block b (World.block_lt_of_cell? W ⟨b, o, none⟩ h) hb)).trans h
theorem E4.cells {W : World} {X : List Nat} {b o : Nat} {v : Value} (h : W.cell? ⟨b, o, none⟩ = some v) (hb : b ∉ X) : ∀ x : E4 W X, x.w.cell? ⟨b, o, none⟩ = some v := fun x => x.h.cell h hb
theorem K3.cell {W w : World} {q g m : Nat} (x : K3 W w q g m) {b o : Nat} {v : Value} (h : W.cell? ⟨b, o, none⟩ = some v) (h1 : b ≠ q) (h2 : b ≠ g) (h3 : b ≠ m) : w.cell? ⟨b, o, none⟩ = some v :=
  (World.cell?_of_block (a := ⟨b, o, none⟩) (x.block b (World.block_lt_of_cell? W ⟨b, o, none⟩ h) h1 h2 h3)).trans h
end Go.Proofs.Ytaaciolfgplnoaa.Gd

/- Layer 7: lives; do of both, whatever call. -/
namespace Go.Proofs.Ytaaciolfgplnoaa.Gd
open Go.RowKit Go.Maps WordM EdgeM
set_option linter.unusedVariables false
set_option linter.unusedSimpArgs false
end Go.Proofs.Ytaaciolfgplnoaa.Gd
