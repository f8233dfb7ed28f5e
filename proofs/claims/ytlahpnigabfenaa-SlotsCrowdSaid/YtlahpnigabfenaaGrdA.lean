/- Layer 7: a guard's state; has, slip, Edge, Held, Slips. -/
import Derived.Test.YtlahpnigabfenaaEdgQ
import Derived.Test.YtlahpnigabfenaaMix
import Derived.Maps.OwnSet
namespace Go.Proofs.Ytlahpnigabfenaa.Gd
open Go.RowKit Go.Maps WordM EdgeM
set_option linter.unusedVariables false
set_option linter.unusedSimpArgs false
theorem Calls.veil {P : Program} {f : FuncId} {args : Array Value} {w : World} {R : Ending → World → Prop} (h : ∀ Q : Ending → World → Prop, Hid (Q = R) → Calls P f args w Q) : Calls P f args w R := h R rfl
theorem grown_cell (W : World) (q i : Nat) (v : Value) : W.grownBy (W.setCell ⟨q, i, none⟩ v) (some q) :=
  ⟨rfl, rfl, rfl, by simp, fun k hk hne => Below.heap_setCell _ _ _ _ (by intro e; exact hne (by rw [e]))⟩
theorem gLaw : Keyed Try.prog 3 := int_keyed (q := .i64) (by kernel_rfl)
theorem uMap : Try.prog.underlying 105 = some (.map 3 103) := by kernel_rfl
theorem uInt : Try.prog.underlying 3 = some (.int .i64) := by kernel_rfl
theorem zUnit (w : World) : (zeroValue 103).run Try.prog w = .ok (.agg #[]) w := by kernel_rfl
def cntB (H : Nat → Bool) : Nat → Nat
  | 0 => 0
  | n + 1 => cntB H n + (if H n = true then 1 else 0)
theorem cntB_le (H : Nat → Bool) : ∀ n, cntB H n ≤ n
  | 0 => Nat.le_refl _
  | n + 1 => by have := cntB_le H n; rw [cntB]; split <;> omega
def setB (H : Nat → Bool) (i : Nat) (b : Bool) : Nat → Bool := fun j => if j = i then b else H j
theorem cntB_hi (H : Nat → Bool) (i : Nat) (b : Bool) : ∀ n, n ≤ i → cntB (setB H i b) n = cntB H n
  | 0, _ => rfl
  | n + 1, h => by have e : setB H i b n = H n := by unfold setB; rw [if_neg (by omega)]
                   rw [cntB, cntB, cntB_hi H i b n (by omega), e]
theorem cntB_set (H : Nat → Bool) (i : Nat) (b : Bool) : ∀ n, i < n → cntB (setB H i b) n + (if H i = true then 1 else 0) = cntB H n + (if b = true then 1 else 0)
  | 0, h => by omega
  | n + 1, h => by
    rw [cntB, cntB]
    rcases (by omega : i = n ∨ i < n) with rfl | hi
    · rw [cntB_hi H i b i (Nat.le_refl _)]
      have e : setB H i b i = b := by unfold setB; rw [if_pos rfl]
      rw [e]; omega
    · have := cntB_set H i b n hi
      have e : setB H i b n = H n := by unfold setB; rw [if_neg (by omega)]
      rw [e]; omega
def updI (G : Nat → Int) (i : Nat) (v : Int) : Nat → Int := fun j => if j = i then v else G j
def cG (G : Nat → Int) (n : Nat) : List Value := (List.range n).map fun i => .int .u64 (G i)
theorem cG_len (G : Nat → Int) (n : Nat) : (cG G n).length = n := by simp [cG]
theorem cG_get {G : Nat → Int} {n i : Nat} (h : i < n) : (cG G n)[i]? = some (.int .u64 (G i)) := by simp [cG, List.getElem?_range h]
theorem cG_set (G : Nat → Int) {n i : Nat} (h : i < n) (x : Int) : (cG G n).set i (.int .u64 x) = cG (updI G i x) n := by
  apply List.ext_getElem?
  intro j
  rw [List.getElem?_set]
  by_cases hj : j < n
  · rw [cG_get hj, cG_get hj]
    by_cases e : i = j
    · subst e; simp [updI, cG, h]
    · rw [if_neg e]; simp [updI, Ne.symm e]
  · have h5 : ∀ G : Nat → Int, (cG G n)[j]? = none := fun G => by rw [List.getElem?_eq_none (by rw [cG_len]; omega)]
    rw [h5, h5, if_neg (by omega : ¬ i = j)]
def slotL (i : Nat) : Lit := .int .i64 ((i : Int) + 1)
def GO (w : World) (q g m n : Nat) (s : Int) : Prop := ∃ c, n ≤ c ∧ c ≤ 9223372036854775807 ∧ w.heap[q]? = some (.cells #[.slice (some ⟨g, 0, none⟩) n c, .map (some m), .int .i64 s] 107 (0, 0))
def GG (w : World) (g n : Nat) (G : Nat → Int) : Prop := ∃ cur : Array Value, w.heap[g]? = some (.cells cur 22 (0, 0)) ∧ cur.toList.take n = cG G n
theorem GO.of {w w' : World} {q g m n : Nat} {s : Int} (h : GO w q g m n s) (e : w'.heap[q]? = w.heap[q]?) : GO w' q g m n s := by
  obtain ⟨c, h1, h2, h3⟩ := h
  exact ⟨c, h1, h2, e.trans h3⟩
theorem GG.of {w w' : World} {g n : Nat} {G : Nat → Int} (h : GG w g n G) (e : w'.heap[g]? = w.heap[g]?) : GG w' g n G := by
  obtain ⟨c, h1, h2⟩ := h
  exact ⟨c, e.trans h1, h2⟩
theorem GO.lt {w : World} {q g m n : Nat} {s : Int} (h : GO w q g m n s) : q < w.heap.size := by
  obtain ⟨c, h1, h2, h3⟩ := h
  exact (Array.getElem?_eq_some_iff.1 h3).1
theorem GG.lt {w : World} {g n : Nat} {G : Nat → Int} (h : GG w g n G) : g < w.heap.size := by
  obtain ⟨c, h1, h2⟩ := h
  exact (Array.getElem?_eq_some_iff.1 h1).1
theorem GO.fr {w : World} {q g m n : Nat} {s : Int} (h : GO w q g m n s) (i : Nat) : w.frozen? ⟨q, i, none⟩ = false := by
  obtain ⟨c, h1, h2, h3⟩ := h
  exact frozen_of_row _ _ _ _ _ h3
theorem GG.fr {w : World} {g n : Nat} {G : Nat → Int} (h : GG w g n G) (i : Nat) : w.frozen? ⟨g, i, none⟩ = false := by
  obtain ⟨c, h1, h2⟩ := h
  exact frozen_of_row _ _ _ _ _ h1
structure GA (w : World) (q g m n : Nat) (H : Nat → Bool) (G : Nat → Int) (s : Int) : Prop where
  obj : GO w q g m n s
  gens : GG w g n G
  held : ∃ D : DataW Unit, w.ownsMap Try.prog 3 (unitElem (H := Unit)) m n D ∧ (∀ i, i < n → Maps.has D (slotL i) = H i) ∧ Maps.size D = cntB H n
  g1 : q ≠ g
  g2 : g ≠ m
  g3 : q ≠ m
  n0 : 0 < n
  n1 : n ≤ 250
  gb : ∀ i, 0 ≤ G i ∧ G i < 1125899906842624
  sb : 0 ≤ s ∧ s ≤ 1000000
theorem owns_tight {w : World} {m k : Nat} {D : DataW Unit} {K : TypeId} (h : w.ownsMap Try.prog K (unitElem (H := Unit)) m k D) : w.ownsMap Try.prog K (unitElem (H := Unit)) m (Maps.size D) D := by
  obtain ⟨es, clock, h1, h2, h3, h4⟩ := h
  refine ⟨es, clock, h1, h2, ?_, h4⟩
  rw [h4, Maps.size_eq, length_read]
  exact Nat.le_refl _
structure K3 (w w' : World) (q g m : Nat) : Prop where
  os : w'.os = w.os
  tape : w'.tape = w.tape
  output : w'.output = w.output
  size : w.heap.size ≤ w'.heap.size
  block : ∀ k, k < w.heap.size → k ≠ q → k ≠ g → k ≠ m → w'.heap[k]? = w.heap[k]?
theorem grown_of_below {w w' : World} (h : Below w.heap.size w w') : w.grownBy w' none := ⟨h.os, h.tape, h.output, h.size, fun k hk _ => h.block k hk⟩
theorem K3.of_below {w w' : World} (h : Below w.heap.size w w') (q g m : Nat) : K3 w w' q g m := ⟨h.os, h.tape, h.output, h.size, fun k hk _ _ _ => h.block k hk⟩
theorem K3.trans {w w1 w2 : World} {q g m : Nat} (h : K3 w w1 q g m) (k : K3 w1 w2 q g m) : K3 w w2 q g m :=
  ⟨k.os.trans h.os, k.tape.trans h.tape, k.output.trans h.output, Nat.le_trans h.size k.size, fun j hj a b c => (k.block j (Nat.lt_of_lt_of_le hj h.size) a b c).trans (h.block j hj a b c)⟩
theorem K3.of_grown {w w' : World} {r q g m : Nat} (h : w.grownBy w' (some r)) (hr : r = q ∨ r = g ∨ r = m) : K3 w w' q g m :=
  ⟨h.os, h.tape, h.output, h.size, fun k hk a b c => h.block k hk (by intro e; cases e; rcases hr with rfl | rfl | rfl <;> contradiction)⟩
theorem GA.lt {w : World} {q g m n : Nat} {H : Nat → Bool} {G : Nat → Int} {s : Int} (h : GA w q g m n H G s) : q < w.heap.size ∧ g < w.heap.size ∧ m < w.heap.size := by
  obtain ⟨D, h1, _⟩ := h.held
  exact ⟨h.obj.lt, h.gens.lt, h1.lt⟩
theorem GA.below {w w' : World} {q g m n : Nat} {H : Nat → Bool} {G : Nat → Int} {s : Int} (h : GA w q g m n H G s) (k : Below w.heap.size w w') : GA w' q g m n H G s := by
  obtain ⟨l1, l2, l3⟩ := h.lt
  obtain ⟨D, h1, h2⟩ := h.held
  exact ⟨h.obj.of (k.block _ l1), h.gens.of (k.block _ l2), ⟨D, h1.kept (grown_of_below k) (by simp), h2⟩, h.g1, h.g2, h.g3, h.n0, h.n1, h.gb, h.sb⟩
theorem GA.c0 {w : World} {q g m n : Nat} {H : Nat → Bool} {G : Nat → Int} {s : Int} (h : GA w q g m n H G s) : ∃ c, n ≤ c ∧ c ≤ 9223372036854775807 ∧ w.cell? ⟨q, 0, none⟩ = some (.slice (some ⟨g, 0, none⟩) n c) := by
  obtain ⟨c, h1, h2, h3⟩ := h.obj
  exact ⟨c, h1, h2, by rw [cell_of_row _ _ _ _ _ (0, 0) h3]; rfl⟩
theorem GA.c1 {w : World} {q g m n : Nat} {H : Nat → Bool} {G : Nat → Int} {s : Int} (h : GA w q g m n H G s) : w.cell? ⟨q, 1, none⟩ = some (.map (some m)) := by
  obtain ⟨c, h1, h2, h3⟩ := h.obj
  rw [cell_of_row _ _ _ _ _ (0, 0) h3]; rfl
theorem GA.c2 {w : World} {q g m n : Nat} {H : Nat → Bool} {G : Nat → Int} {s : Int} (h : GA w q g m n H G s) : w.cell? ⟨q, 2, none⟩ = some (.int .i64 s) := by
  obtain ⟨c, h1, h2, h3⟩ := h.obj
  rw [cell_of_row _ _ _ _ _ (0, 0) h3]; rfl
theorem GA.gc {w : World} {q g m n : Nat} {H : Nat → Bool} {G : Nat → Int} {s : Int} (h : GA w q g m n H G s) {i : Nat} (hi : i < n) : w.cell? ⟨g, i, none⟩ = some (.int .u64 (G i)) := by
  obtain ⟨cur, h1, h2⟩ := h.gens
  have h3 := cG_get (G := G) hi
  rw [← h2, List.getElem?_take_of_lt hi] at h3
  rw [cell_of_row _ _ _ _ _ (0, 0) h1]; simpa using h3
theorem GA.slip {w : World} {q g m n : Nat} {H : Nat → Bool} {G : Nat → Int} {s : Int} (h : GA w q g m n H G s) (t : Int) (ht : 0 ≤ t ∧ t ≤ 1000000) : GA (w.setCell ⟨q, 2, none⟩ (.int .i64 t)) q g m n H G t := by
  obtain ⟨D, h1, h2⟩ := h.held
  refine ⟨?_, ?_, ⟨D, h1.setCell (by intro e; exact h.g3 e.symm) _, h2⟩, h.g1, h.g2, h.g3, h.n0, h.n1, h.gb, ht⟩
  · obtain ⟨c, h1, h2, h3⟩ := h.obj
    exact ⟨c, h1, h2, by rw [heap_setCell_same w q 2 _ _ _ h3]; rfl⟩
  · exact h.gens.of (Below.heap_setCell _ _ _ _ (by intro e; exact h.g1 e.symm))
theorem GA.setG {w : World} {q g m n : Nat} {H : Nat → Bool} {G : Nat → Int} {s : Int} (h : GA w q g m n H G s) {i : Nat} (hi : i < n) {v : Int} (hv : 0 ≤ v ∧ v < 1125899906842624) : GA (w.setCell ⟨g, i, none⟩ (.int .u64 v)) q g m n H (updI G i v) s := by
  obtain ⟨D, h1, h2⟩ := h.held
  refine ⟨?_, ?_, ⟨D, h1.setCell (by intro e; exact h.g2 e.symm) _, h2⟩, h.g1, h.g2, h.g3, h.n0, h.n1, ?_, h.sb⟩
  · exact h.obj.of (Below.heap_setCell _ _ _ _ (by intro e; exact h.g1 e))
  · obtain ⟨cur, h1, h2⟩ := h.gens
    exact ⟨_, heap_setCell_same w g i _ _ _ h1, by rw [← cG_set G hi v, ← h2]; simp [List.take_set]⟩
  · intro j; unfold updI; split
    · exact hv
    · exact h.gb j
theorem ghas {w : World} {q g m n : Nat} {H : Nat → Bool} {G : Nat → Int} {s : Int} (h : GA w q g m n H G s) (slot : Int) :
    Calls Try.prog 49 #[.pointer (some ⟨q, 0, none⟩), .int .i64 slot] w fun e w' => e = .returned (.bool (decide (1 ≤ slot ∧ slot ≤ n))) ∧ w = w' := by
  obtain ⟨c, hc1, hc2, c0⟩ := h.c0
  have n1 := h.n1
  clear h
  rcases (by omega : slot < 1 ∨ (1 ≤ slot ∧ slot ≤ n) ∨ (1 ≤ slot ∧ n < slot)) with q1 | ⟨q1, q2⟩ | ⟨q1, q2⟩
  · rw [show decide (1 ≤ slot ∧ slot ≤ n) = false from decide_eq_false (by omega)]
    go_enter Try.func49, Try.ntmps49
    go_wp2_with fail
    go_ret
    exact ⟨rfl, rfl⟩
  · rw [show decide (1 ≤ slot ∧ slot ≤ n) = true from decide_eq_true ⟨q1, q2⟩]
    go_enter Try.func49, Try.ntmps49
    go_wp2_with fail
    go_ret
    exact ⟨rfl, rfl⟩
  · have hd : decide (slot ≤ (n : Int)) = false := decide_eq_false (by omega)
    rw [show decide (1 ≤ slot ∧ slot ≤ n) = false from decide_eq_false (by omega)]
    go_enter Try.func49, Try.ntmps49
    go_wp2_with fail
    go_ret
    exact ⟨rfl, rfl⟩
theorem gslip {w : World} {q g m n : Nat} {H : Nat → Bool} {G : Nat → Int} {s : Int} (h : GA w q g m n H G s) (hs : s < 1000000) :
    Calls Try.prog 60 #[.pointer (some ⟨q, 0, none⟩)] w fun e w' => e = .returned (.bool false) ∧ GA w' q g m n H G (s + 1) ∧ K3 w w' q g m := by
  refine Calls.veil fun Q HQ => ?_
  have HH := Lib.hid h
  have c2 := h.c2
  have ff : ∀ i, w.frozen? ⟨q, i, none⟩ = false := h.obj.fr
  obtain ⟨s0, s1⟩ := h.sb
  clear h
  go_enter Try.func60, Try.ntmps60
  go_wp2_with fail
  (try go_ret)
  rw [HQ.out]
  exact ⟨rfl, HH.out.slip (s + 1) ⟨by omega, by omega⟩, .of_grown (grown_cell _ _ _ _) (.inl rfl)⟩
theorem gheld {w : World} {q g m n : Nat} {H : Nat → Bool} {G : Nat → Int} {s : Int} (h : GA w q g m n H G s) :
    Calls Try.prog 47 #[.pointer (some ⟨q, 0, none⟩)] w fun e w' => e = .returned (.int .i64 (cntB H n : Nat)) ∧ w = w' := by
  have c1 := h.c1
  obtain ⟨D, h1, h2, h3⟩ := h.held
  rw [← h3]
  clear h h2 h3
  go_enter Try.func47, Try.ntmps47
  go_wp2_with (first
    | (at_len; refine wpList_len_own _ rfl _ 105 rfl 3 103 uMap _ m n D rfl h1 ?_)
    | go_in)
  go_ret
  exact ⟨rfl, rfl⟩
theorem gslips {w : World} {q g m n : Nat} {H : Nat → Bool} {G : Nat → Int} {s : Int} (h : GA w q g m n H G s) :
    Calls Try.prog 46 #[.pointer (some ⟨q, 0, none⟩)] w fun e w' => e = .returned (.int .i64 s) ∧ w = w' := by
  have c2 := h.c2
  clear h
  go_enter Try.func46, Try.ntmps46
  go_wp2_with fail
  go_ret
  exact ⟨rfl, rfl⟩
def edgeN (n : Nat) (G : Nat → Int) (slot : Int) : Int := if 1 ≤ slot ∧ slot ≤ n then makeI slot (G (slot.toNat - 1)) else 0
theorem gedge {w : World} {q g m n : Nat} {H : Nat → Bool} {G : Nat → Int} {s : Int} (h : GA w q g m n H G s) (slot : Int) :
    Calls Try.prog 44 #[.pointer (some ⟨q, 0, none⟩), .int .i64 slot] w fun e w' => e = .returned (.int .u64 (edgeN n G slot)) ∧ w = w' := by
  refine Calls.veil fun Q HQ => ?_
  have HH := Lib.hid h
  obtain ⟨c, hc1, hc2, c0⟩ := h.c0
  have n1 := h.n1
  clear h
  by_cases q1 : 1 ≤ slot ∧ slot ≤ n
  · obtain ⟨i, hi⟩ : ∃ i : Nat, slot = i + 1 := ⟨slot.toNat - 1, by omega⟩
    subst hi
    have hin : i < n := by omega
    have gc := HH.out.gc hin
    rw [show edgeN n G ((i : Int) + 1) = makeI (i + 1) (G i) by unfold edgeN; rw [if_pos q1]; congr 2] at HQ
    have hgb := HH.out.gb i
    have HD := Lib.hid (show decide (1 ≤ (i : Int) + 1 ∧ (i : Int) + 1 ≤ n) = true from decide_eq_true q1)
    clear q1
    go_enter Try.func44, Try.ntmps44
    go_wp2_with fail
    refine (ghas HH.out _).mono ?_; rintro _ _ ⟨rfl, rfl⟩
    rw [HD.out]
    go_wp2_with fail
    refine (emake_calls _ _ _ hgb.1).mono ?_; rintro _ _ ⟨rfl, rfl⟩
    go_wp2_with fail
    (try go_ret)
    rw [HQ.out]
    exact ⟨rfl, rfl⟩
  · rw [show edgeN n G slot = 0 by unfold edgeN; rw [if_neg q1]] at HQ
    have HD := Lib.hid (show decide (1 ≤ slot ∧ slot ≤ n) = false from decide_eq_false q1)
    clear q1
    go_enter Try.func44, Try.ntmps44
    go_wp2_with fail
    refine (ghas HH.out _).mono ?_; rintro _ _ ⟨rfl, rfl⟩
    rw [HD.out]
    go_wp2_with fail
    (try go_ret)
    rw [HQ.out]
    exact ⟨rfl, rfl⟩
end Go.Proofs.Ytlahpnigabfenaa.Gd
