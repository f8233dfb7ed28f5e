/- Layer 35, reading: ReadCall, ReadAnswer. (By gen_rtxs.py.) -/
import Derived.Test.YtdgplijnhkgeiaaDoorRtxT
namespace Go.Proofs.YtdgplijnhkgeiaaDoor
open Go.RowKit
set_option linter.unusedVariables false
set_option linter.unusedSimpArgs false
theorem pr_keep {w w' : World} {B : Nat} {v : Value} {l : PL} (h : PR w v l) (hB : ∀ k, v.ownBlock = some k → B ≤ k) (hk : ∀ k, B ≤ k → k < w.heap.size → w'.heap[k]? = w.heap[k]?) : PR w' v l := by
  cases h with
  | nil => exact .nil
  | odd a c h1 => exact .odd a c h1
  | row g o c l h1 h2 h3 =>
    refine .row g o c l h1 h2 fun i hi => ?_
    have hg : g < w.heap.size := by
      have h4 := (h3 i hi).1
      by_cases hl : g < w.heap.size
      · exact hl
      · simp [World.cell?, Array.getElem?_eq_none (by omega : w.heap.size ≤ g)] at h4
    have e := hk g (hB g rfl) hg
    exact ⟨(cell_heap e).trans (h3 i hi).1, (cell_heap e).trans (h3 i hi).2⟩
theorem fin6 {a : Nat} {w V : World} {A : Array Value} {T U : TypeId} (ka : V.heap[a]? = some (.cells A T (0, 0))) (kb : V.heap[a + 1]? = some (.cells #[.int .i64 0] U (0, 0))) (h : Below a w V) (u : Value) :
    (V.setCell ⟨a + 1, 0, none⟩ u).heap[a]? = some (.cells A T (0, 0)) ∧ (V.setCell ⟨a + 1, 0, none⟩ u).heap[a + 1]? = some (.cells #[u] U (0, 0)) ∧ Below a w (V.setCell ⟨a + 1, 0, none⟩ u) :=
  ⟨(heap_setCell_other V ⟨a + 1, 0, none⟩ a u (by show a ≠ a + 1; omega)).trans ka, heap_setCell_same V (a + 1) 0 _ _ u kb, h.setCell (p := ⟨a + 1, 0, none⟩) (by show a ≤ a + 1; omega) u⟩
set_option maxRecDepth 8000 in
set_option maxHeartbeats 4000000 in
theorem treadcall_no (s : List UInt8) (w : World) (hs : s.length ≤ 10000) (hv : VB w.heap.size w) (y : Int) (hr : callR (splitL 32 s) = .error y) :
    Calls Tryd.prog 8 #[tx s] w fun e w' => e = .returned (.tuple #[.agg #[.int .i64 0, .int .i64 0, .int .i64 0, .int .i64 0, .int .i64 0], .int .i64 y]) ∧ Below w.heap.size w w' := by
  refine Calls.veil fun Q HQ => ?_
  have hmf : ∀ (fn : Fn) (first cap : Array Value) (w : World), (Instr.makeFunc fn first cap).run Tryd.prog w = .ok (.func fn first cap) w := fun _ _ _ _ => rfl
  go_enter_defers Tryd.func8, Tryd.ntmps8
  go_upto_region 3 with fail
  generalize hV : World.alloc _ _ = V
  have F0 := Lib.hid (show Below w.heap.size w V ∧ V.heap.size = w.heap.size + 1 + 1 ∧ V.heap[w.heap.size]? = some (.cells #[.int .i64 0, .int .i64 0, .int .i64 0, .int .i64 0, .int .i64 0] 26 (0, 0)) ∧ V.heap[w.heap.size + 1]? = some (.cells #[.int .i64 0] 27 (0, 0)) by
    rw [← hV]
    refine ⟨((Below.refl _ _).alloc (Nat.le_refl _) _).alloc (by simp) _, by simp, ?_, ?_⟩
    · exact (Below.heap_alloc _ _ _ (by simp)).trans (heap_alloc_new w _)
    · have := heap_alloc_new (w.alloc (.cells #[.int .i64 0, .int .i64 0, .int .i64 0, .int .i64 0, .int .i64 0] 26)) (.cells #[.int .i64 0] 27)
      simp only [World.size_alloc] at this
      exact this)
  have HVB := Lib.hid (show VB V.heap.size V from ((hv.below F0.out.1).up (by have := F0.out.2.1; omega)))
  clear hV hv
  go_wp2_with fail
  have TC := tocall s V hs HVB.out
  rw [hr] at TC
  refine TC.mono ?_; rintro _ w1 ⟨hx, hb1⟩
  have hx : _ = wrP y := hx
  subst hx
  have HB1 := Lib.hid hb1
  clear hb1 TC
  go_wp2_with fail
  refine leaves_cons (f := 20) (args := #[.pointer (some ⟨w.heap.size, 0, none⟩), .pointer (some ⟨w.heap.size + 1, 0, none⟩)]) (by simp) (by simp [go_sem]) ?_
  refine (catchc w.heap.size (w.heap.size + 1) ⟨0, 0, 0, 0, 0⟩ 0 y [] _ ((HB1.out.block _ (by have := F0.out.2.1; omega)).trans F0.out.2.2.1) ((HB1.out.block _ (by have := F0.out.2.1; omega)).trans F0.out.2.2.2) (by omega)).mono ?_
  rintro e u' w9 ⟨rfl, rfl, h1, h2, h3⟩
  show Leaves _ _ _ _ [] .returning _
  have x0 := rowc h1 (i := 0) _ rfl
  have x1 := rowc h1 (i := 1) _ rfl
  have x2 := rowc h1 (i := 2) _ rfl
  have x3 := rowc h1 (i := 3) _ rfl
  have x4 := rowc h1 (i := 4) _ rfl
  have x5 := rowc h2 (i := 0) _ rfl
  simp only [cacells, ancells, List.getElem_toArray, List.getElem_cons_succ, List.getElem_cons_zero] at x0 x1 x2 x3 x4 x5
  refine ⟨.tuple #[.agg #[.int .i64 0, .int .i64 0, .int .i64 0, .int .i64 0, .int .i64 0], .int .i64 y], by simp [results, Tryd.results8, go_sem, cacells, ancells, x0, x1, x2, x3, x4, x5], ?_⟩
  rw [HQ.out]
  exact ⟨rfl, (F0.out.1.trans (HB1.out.mono (by have := F0.out.2.1; omega))).trans (h3 _ (Nat.le_refl _) (by omega) (by have h4 := HB1.out.size; have := F0.out.2.1; omega))⟩
set_option maxRecDepth 8000 in
set_option maxHeartbeats 4000000 in
theorem treadcall_ok (s : List UInt8) (w : World) (hs : s.length ≤ 10000) (hv : VB w.heap.size w) (c : Ca) (hr : callR (splitL 32 s) = .ok c) :
    Calls Tryd.prog 8 #[tx s] w fun e w' => e = .returned (.tuple #[caV c, .int .i64 0]) ∧ Below w.heap.size w w' := by
  refine Calls.veil fun Q HQ => ?_
  have hmf : ∀ (fn : Fn) (first cap : Array Value) (w : World), (Instr.makeFunc fn first cap).run Tryd.prog w = .ok (.func fn first cap) w := fun _ _ _ _ => rfl
  go_enter_defers Tryd.func8, Tryd.ntmps8
  go_upto_region 3 with fail
  generalize hV : World.alloc _ _ = V
  have F0 := Lib.hid (show Below w.heap.size w V ∧ V.heap.size = w.heap.size + 1 + 1 ∧ V.heap[w.heap.size]? = some (.cells #[.int .i64 0, .int .i64 0, .int .i64 0, .int .i64 0, .int .i64 0] 26 (0, 0)) ∧ V.heap[w.heap.size + 1]? = some (.cells #[.int .i64 0] 27 (0, 0)) by
    rw [← hV]
    refine ⟨((Below.refl _ _).alloc (Nat.le_refl _) _).alloc (by simp) _, by simp, ?_, ?_⟩
    · exact (Below.heap_alloc _ _ _ (by simp)).trans (heap_alloc_new w _)
    · have := heap_alloc_new (w.alloc (.cells #[.int .i64 0, .int .i64 0, .int .i64 0, .int .i64 0, .int .i64 0] 26)) (.cells #[.int .i64 0] 27)
      simp only [World.size_alloc] at this
      exact this)
  have HVB := Lib.hid (show VB V.heap.size V from ((hv.below F0.out.1).up (by have := F0.out.2.1; omega)))
  clear hV hv
  go_wp2_with fail
  have TC := tocall s V hs HVB.out
  rw [hr] at TC
  refine TC.mono ?_; rintro _ w1 ⟨hx, hb1⟩
  have hx : _ = Ending.returned (caV c) := hx
  subst hx
  obtain ⟨op, key, val, hi, lim⟩ := c
  have HB1 := Lib.hid hb1
  have HA := Lib.hid ((hb1.block w.heap.size (by have := F0.out.2.1; omega)).trans F0.out.2.2.1)
  have HE := Lib.hid ((hb1.block (w.heap.size + 1) (by have := F0.out.2.1; omega)).trans F0.out.2.2.2)
  have y0 : w1.cell? ⟨w.heap.size, 0, none⟩ = some (.int .i64 0) := rowc HA.out (i := 0) _ rfl
  have y1 : w1.cell? ⟨w.heap.size, 1, none⟩ = some (.int .i64 0) := rowc HA.out (i := 1) _ rfl
  have y2 : w1.cell? ⟨w.heap.size, 2, none⟩ = some (.int .i64 0) := rowc HA.out (i := 2) _ rfl
  have y3 : w1.cell? ⟨w.heap.size, 3, none⟩ = some (.int .i64 0) := rowc HA.out (i := 3) _ rfl
  have y4 : w1.cell? ⟨w.heap.size, 4, none⟩ = some (.int .i64 0) := rowc HA.out (i := 4) _ rfl
  have y5 : w1.cell? ⟨w.heap.size + 1, 0, none⟩ = some (.int .i64 0) := rowc HE.out (i := 0) _ rfl
  have yf : ∀ i, w1.frozen? ⟨w.heap.size, i, none⟩ = false := fun i => frozen_of_row _ _ _ _ _ HA.out
  have yg : ∀ i, w1.frozen? ⟨w.heap.size + 1, i, none⟩ = false := fun i => frozen_of_row _ _ _ _ _ HE.out
  clear hb1 TC
  go_wp2_with fail
  generalize hW6 : World.setCell _ _ _ = w6
  have H6 := Lib.hid (show w6.heap[w.heap.size]? = some (.cells (cacells ⟨op, key, val, hi, lim⟩).toArray 26 (0, 0)) ∧ w6.heap[w.heap.size + 1]? = some (.cells #[.int .i64 0] 27 (0, 0)) ∧ Below w.heap.size w w6 by
    have h1 := put5_at (W := w1) (C := w.heap.size) (T := 26) (cc := ⟨0, 0, 0, 0, 0⟩) ⟨op, key, val, hi, lim⟩ HA.out
    have h2 := (put5_other w1 w.heap.size ⟨op, key, val, hi, lim⟩ (show w.heap.size + 1 ≠ w.heap.size by omega)).trans HE.out
    have h3 := put5_below w1 w.heap.size ⟨op, key, val, hi, lim⟩ (Nat.le_refl _)
    have e6 : w6 = (put5 w1 w.heap.size ⟨op, key, val, hi, lim⟩).setCell ⟨w.heap.size + 1, 0, none⟩ (.int .i64 0) := hW6.symm
    rw [e6]
    exact fin6 h1 h2 ((F0.out.1.trans (HB1.out.mono (by have := F0.out.2.1; omega))).trans h3) _)
  clear hW6 y0 y1 y2 y3 y4 y5 yf yg
  have hb6 := H6.out.2.2.size
  refine leaves_cons (f := 20) (args := #[.pointer (some ⟨w.heap.size, 0, none⟩), .pointer (some ⟨w.heap.size + 1, 0, none⟩)]) (by simp) (by simp [go_sem]) ?_
  refine (catchc_idle _ _ w6).mono ?_
  rintro e u' w9 ⟨rfl, rfl, h3⟩
  show Leaves _ _ _ _ [] .returning _
  have hsz6 := (Array.getElem?_eq_some_iff.1 H6.out.2.1).1
  have h1 := (h3.block w.heap.size (by omega)).trans H6.out.1
  have h2 := (h3.block (w.heap.size + 1) hsz6).trans H6.out.2.1
  have x0 := rowc h1 (i := 0) _ rfl
  have x1 := rowc h1 (i := 1) _ rfl
  have x2 := rowc h1 (i := 2) _ rfl
  have x3 := rowc h1 (i := 3) _ rfl
  have x4 := rowc h1 (i := 4) _ rfl
  have x5 := rowc h2 (i := 0) _ rfl
  simp only [cacells, ancells, List.getElem_toArray, List.getElem_cons_succ, List.getElem_cons_zero] at x0 x1 x2 x3 x4 x5
  refine ⟨.tuple #[.agg #[.int .i64 op, .int .i64 key, .int .i64 val, .int .i64 hi, .int .i64 lim], .int .i64 0], by simp [results, Tryd.results8, go_sem, cacells, ancells, x0, x1, x2, x3, x4, x5], ?_⟩
  rw [HQ.out]
  exact ⟨rfl, H6.out.2.2.trans (h3.mono (by omega))⟩
set_option maxRecDepth 8000 in
set_option maxHeartbeats 4000000 in
theorem treadanswer_no (s : List UInt8) (w : World) (hs : s.length ≤ 10000) (hv : VB w.heap.size w) (y : Int) (hr : answerR (splitL 32 s) = .error y) :
    Calls Tryd.prog 10 #[tx s] w fun e w' => e = .returned (.tuple #[.agg #[.int .i64 0, .int .i64 0, .int .i64 0, .int .i64 0, .slice none 0 0], .int .i64 y]) ∧ Below w.heap.size w w' := by
  refine Calls.veil fun Q HQ => ?_
  have hmf : ∀ (fn : Fn) (first cap : Array Value) (w : World), (Instr.makeFunc fn first cap).run Tryd.prog w = .ok (.func fn first cap) w := fun _ _ _ _ => rfl
  go_enter_defers Tryd.func10, Tryd.ntmps10
  go_upto_region 3 with fail
  generalize hV : World.alloc _ _ = V
  have F0 := Lib.hid (show Below w.heap.size w V ∧ V.heap.size = w.heap.size + 1 + 1 ∧ V.heap[w.heap.size]? = some (.cells #[.int .i64 0, .int .i64 0, .int .i64 0, .int .i64 0, .slice none 0 0] 33 (0, 0)) ∧ V.heap[w.heap.size + 1]? = some (.cells #[.int .i64 0] 27 (0, 0)) by
    rw [← hV]
    refine ⟨((Below.refl _ _).alloc (Nat.le_refl _) _).alloc (by simp) _, by simp, ?_, ?_⟩
    · exact (Below.heap_alloc _ _ _ (by simp)).trans (heap_alloc_new w _)
    · have := heap_alloc_new (w.alloc (.cells #[.int .i64 0, .int .i64 0, .int .i64 0, .int .i64 0, .slice none 0 0] 33)) (.cells #[.int .i64 0] 27)
      simp only [World.size_alloc] at this
      exact this)
  have HVB := Lib.hid (show VB V.heap.size V from ((hv.below F0.out.1).up (by have := F0.out.2.1; omega)))
  clear hV hv
  go_wp2_with fail
  have TC := toanswer s V hs HVB.out
  rw [hr] at TC
  refine TC.mono ?_; rintro _ w1 ⟨hx, hb1⟩
  have hx : _ = wrP y := hx
  subst hx
  have HB1 := Lib.hid hb1
  clear hb1 TC
  go_wp2_with fail
  refine leaves_cons (f := 25) (args := #[.pointer (some ⟨w.heap.size, 0, none⟩), .pointer (some ⟨w.heap.size + 1, 0, none⟩)]) (by simp) (by simp [go_sem]) ?_
  refine (catcha w.heap.size (w.heap.size + 1) ⟨0, 0, 0, 0, []⟩ (.slice none 0 0) 0 y [] _ ((HB1.out.block _ (by have := F0.out.2.1; omega)).trans F0.out.2.2.1) ((HB1.out.block _ (by have := F0.out.2.1; omega)).trans F0.out.2.2.2) (by omega)).mono ?_
  rintro e u' w9 ⟨rfl, rfl, h1, h2, h3⟩
  show Leaves _ _ _ _ [] .returning _
  have x0 := rowc h1 (i := 0) _ rfl
  have x1 := rowc h1 (i := 1) _ rfl
  have x2 := rowc h1 (i := 2) _ rfl
  have x3 := rowc h1 (i := 3) _ rfl
  have x4 := rowc h1 (i := 4) _ rfl
  have x5 := rowc h2 (i := 0) _ rfl
  simp only [cacells, ancells, List.getElem_toArray, List.getElem_cons_succ, List.getElem_cons_zero] at x0 x1 x2 x3 x4 x5
  refine ⟨.tuple #[.agg #[.int .i64 0, .int .i64 0, .int .i64 0, .int .i64 0, .slice none 0 0], .int .i64 y], by simp [results, Tryd.results10, go_sem, cacells, ancells, x0, x1, x2, x3, x4, x5], ?_⟩
  rw [HQ.out]
  exact ⟨rfl, (F0.out.1.trans (HB1.out.mono (by have := F0.out.2.1; omega))).trans (h3 _ (Nat.le_refl _) (by omega) (by have h4 := HB1.out.size; have := F0.out.2.1; omega))⟩
set_option maxRecDepth 8000 in
set_option maxHeartbeats 4000000 in
theorem treadanswer_ok (s : List UInt8) (w : World) (hs : s.length ≤ 10000) (hv : VB w.heap.size w) (a : An) (hr : answerR (splitL 32 s) = .ok a) :
    Calls Tryd.prog 10 #[tx s] w fun e w' => ∃ v, e = .returned (.tuple #[.agg (ancells a v).toArray, .int .i64 0]) ∧ PR w' v a.ps ∧ Below w.heap.size w w' := by
  refine Calls.veil fun Q HQ => ?_
  have hmf : ∀ (fn : Fn) (first cap : Array Value) (w : World), (Instr.makeFunc fn first cap).run Tryd.prog w = .ok (.func fn first cap) w := fun _ _ _ _ => rfl
  go_enter_defers Tryd.func10, Tryd.ntmps10
  go_upto_region 3 with fail
  generalize hV : World.alloc _ _ = V
  have F0 := Lib.hid (show Below w.heap.size w V ∧ V.heap.size = w.heap.size + 1 + 1 ∧ V.heap[w.heap.size]? = some (.cells #[.int .i64 0, .int .i64 0, .int .i64 0, .int .i64 0, .slice none 0 0] 33 (0, 0)) ∧ V.heap[w.heap.size + 1]? = some (.cells #[.int .i64 0] 27 (0, 0)) by
    rw [← hV]
    refine ⟨((Below.refl _ _).alloc (Nat.le_refl _) _).alloc (by simp) _, by simp, ?_, ?_⟩
    · exact (Below.heap_alloc _ _ _ (by simp)).trans (heap_alloc_new w _)
    · have := heap_alloc_new (w.alloc (.cells #[.int .i64 0, .int .i64 0, .int .i64 0, .int .i64 0, .slice none 0 0] 33)) (.cells #[.int .i64 0] 27)
      simp only [World.size_alloc] at this
      exact this)
  have HVB := Lib.hid (show VB V.heap.size V from ((hv.below F0.out.1).up (by have := F0.out.2.1; omega)))
  clear hV hv
  go_wp2_with fail
  have TC := toanswer s V hs HVB.out
  rw [hr] at TC
  refine TC.mono ?_; rintro _ w1 ⟨⟨v, hx, hown⟩, hb1⟩
  obtain ⟨kind, key, val, an, ps⟩ := a
  have hx : _ = Ending.returned (.agg #[.int .i64 kind, .int .i64 key, .int .i64 val, .int .i64 an, v]) := hx
  subst hx
  have hp : PR w1 v ps := ownQ_PR hown
  have hpb := ownQ_ge hown
  clear hown
  have HP := Lib.hid hp
  have HPB := Lib.hid hpb
  obtain ⟨pp, pc, rfl, _, _⟩ := hp.slice
  have HB1 := Lib.hid hb1
  have HA := Lib.hid ((hb1.block w.heap.size (by have := F0.out.2.1; omega)).trans F0.out.2.2.1)
  have HE := Lib.hid ((hb1.block (w.heap.size + 1) (by have := F0.out.2.1; omega)).trans F0.out.2.2.2)
  have y0 : w1.cell? ⟨w.heap.size, 0, none⟩ = some (.int .i64 0) := rowc HA.out (i := 0) _ rfl
  have y1 : w1.cell? ⟨w.heap.size, 1, none⟩ = some (.int .i64 0) := rowc HA.out (i := 1) _ rfl
  have y2 : w1.cell? ⟨w.heap.size, 2, none⟩ = some (.int .i64 0) := rowc HA.out (i := 2) _ rfl
  have y3 : w1.cell? ⟨w.heap.size, 3, none⟩ = some (.int .i64 0) := rowc HA.out (i := 3) _ rfl
  have y4 : w1.cell? ⟨w.heap.size, 4, none⟩ = some (.slice none 0 0) := rowc HA.out (i := 4) _ rfl
  have y5 : w1.cell? ⟨w.heap.size + 1, 0, none⟩ = some (.int .i64 0) := rowc HE.out (i := 0) _ rfl
  have yf : ∀ i, w1.frozen? ⟨w.heap.size, i, none⟩ = false := fun i => frozen_of_row _ _ _ _ _ HA.out
  have yg : ∀ i, w1.frozen? ⟨w.heap.size + 1, i, none⟩ = false := fun i => frozen_of_row _ _ _ _ _ HE.out
  clear hb1 TC hp hpb
  go_wp2_with fail
  generalize hW6 : World.setCell _ _ _ = w6
  have H6 := Lib.hid (show w6.heap[w.heap.size]? = some (.cells (ancells ⟨kind, key, val, an, ps⟩ (.slice pp ps.length pc)).toArray 33 (0, 0)) ∧ w6.heap[w.heap.size + 1]? = some (.cells #[.int .i64 0] 27 (0, 0)) ∧ Below w.heap.size w w6 ∧ ∀ k, k ≠ w.heap.size → k ≠ w.heap.size + 1 → w6.heap[k]? = w1.heap[k]? by
    have h1 := putA_at (W := w1) (C := w.heap.size) (T := 33) (a0 := ⟨0, 0, 0, 0, []⟩) (v0 := .slice none 0 0) ⟨kind, key, val, an, ps⟩ (.slice pp ps.length pc) HA.out
    have h2 := (putA_other w1 w.heap.size ⟨kind, key, val, an, ps⟩ (.slice pp ps.length pc) (show w.heap.size + 1 ≠ w.heap.size by omega)).trans HE.out
    have h3 := putA_below w1 w.heap.size ⟨kind, key, val, an, ps⟩ (.slice pp ps.length pc) (Nat.le_refl _)
    have e6 : w6 = (putA w1 w.heap.size ⟨kind, key, val, an, ps⟩ (.slice pp ps.length pc)).setCell ⟨w.heap.size + 1, 0, none⟩ (.int .i64 0) := hW6.symm
    rw [e6]
    obtain ⟨q1, q2, q3⟩ := fin6 h1 h2 ((F0.out.1.trans (HB1.out.mono (by have := F0.out.2.1; omega))).trans h3) (.int .i64 0)
    exact ⟨q1, q2, q3, fun k k1 k2 => (heap_setCell_other _ ⟨w.heap.size + 1, 0, none⟩ k _ k2).trans (putA_other w1 w.heap.size _ _ k1)⟩)
  clear hW6 y0 y1 y2 y3 y4 y5 yf yg
  have hb6 := H6.out.2.2.1.size
  refine leaves_cons (f := 25) (args := #[.pointer (some ⟨w.heap.size, 0, none⟩), .pointer (some ⟨w.heap.size + 1, 0, none⟩)]) (by simp) (by simp [go_sem]) ?_
  refine (catcha_idle _ _ w6).mono ?_
  rintro e u' w9 ⟨rfl, rfl, h3⟩
  show Leaves _ _ _ _ [] .returning _
  have hsz6 := (Array.getElem?_eq_some_iff.1 H6.out.2.1).1
  have h1 := (h3.block w.heap.size (by omega)).trans H6.out.1
  have h2 := (h3.block (w.heap.size + 1) hsz6).trans H6.out.2.1
  have x0 := rowc h1 (i := 0) _ rfl
  have x1 := rowc h1 (i := 1) _ rfl
  have x2 := rowc h1 (i := 2) _ rfl
  have x3 := rowc h1 (i := 3) _ rfl
  have x4 := rowc h1 (i := 4) _ rfl
  have x5 := rowc h2 (i := 0) _ rfl
  simp only [cacells, ancells, List.getElem_toArray, List.getElem_cons_succ, List.getElem_cons_zero] at x0 x1 x2 x3 x4 x5
  refine ⟨.tuple #[.agg #[.int .i64 kind, .int .i64 key, .int .i64 val, .int .i64 an, .slice pp ps.length pc], .int .i64 0], by simp [results, Tryd.results10, go_sem, cacells, ancells, x0, x1, x2, x3, x4, x5], ?_⟩
  rw [HQ.out]
  exact ⟨_, rfl, pr_keep HP.out HPB.out fun k h1 h2 => by
    have hs := F0.out.2.1
    have e1 := H6.out.2.2.2 k (by omega) (by omega)
    have e2 := (Array.getElem?_eq_some_iff.1 (e1.trans (Array.getElem?_eq_getElem h2))).1
    exact (h3.block k e2).trans e1, H6.out.2.2.1.trans (h3.mono (by omega))⟩
end Go.Proofs.YtdgplijnhkgeiaaDoor
