/- Rows of pairs that stay; a row of cells in a block of its own. -/
import Derived.Test.YtkkdehniheajeaaPairE
namespace Go.Proofs.Ytkkdehniheajeaa.Th
open Go.RowKit
set_option linter.unusedVariables false
set_option linter.unusedSimpArgs false
/-- Of what was there each row of pairs is as it was. -/
structure NP (w w' : World) : Prop where
  size : w.heap.size ≤ w'.heap.size
  keep : ∀ (k : Nat) (cur : Array Value), w.heap[k]? = some (.cells cur 138 (0, 0)) → w'.heap[k]? = some (.cells cur 138 (0, 0))
theorem NP.refl (w : World) : NP w w := ⟨Nat.le_refl _, fun _ _ h => h⟩
theorem NP.trans {a b c : World} (h : NP a b) (k : NP b c) : NP a c := ⟨Nat.le_trans h.size k.size, fun i cur hi => k.keep i cur (h.keep i cur hi)⟩
theorem NP.below {a b : World} (h : Below a.heap.size a b) : NP a b := ⟨h.size, fun k cur hk => by rw [h.block k (Array.getElem?_eq_some_iff.1 hk).1]; exact hk⟩
theorem NP.set {a : World} {b i : Nat} {cur : Array Value} {T : TypeId} {fr : Nat × Nat} (v : Value) (h : a.heap[b]? = some (.cells cur T fr)) (hT : T ≠ 138) : NP a (a.setCell ⟨b, i, none⟩ v) :=
  ⟨by simp, fun k cur' hk => by
    rw [Below.heap_setCell _ _ _ _ (by
      intro e
      simp only at e
      subst e
      rw [h] at hk
      simp only [Option.some.injEq, Obj.cells.injEq] at hk
      exact hT hk.2.1)]
    exact hk⟩
/-- A slice of pairs, in a row of pairs of its own. -/
def PO (w : World) (v : Value) (l : PL) : Prop := PR w v l ∧ ∀ a n c, v = .slice (some a) n c → 0 < n → ∃ cur, w.heap[a.block]? = some (.cells cur 138 (0, 0))
theorem PO.np {w w' : World} {v : Value} {l : PL} (h : PO w v l) (k : NP w w') : PO w' v l := by
  refine ⟨?_, fun a n c e h0 => by obtain ⟨cur, hc⟩ := h.2 a n c e h0; exact ⟨cur, k.keep _ _ hc⟩⟩
  have h2 := h.2
  cases h.1 with
  | nil => exact .nil
  | odd a c h1 => exact .odd a c h1
  | row g o c l h1 h3 h4 =>
    refine .row g o c l h1 h3 fun i hi => ?_
    obtain ⟨cur, hc⟩ := h2 _ _ _ rfl (by omega)
    have hk := k.keep _ _ hc
    have e : w'.heap[g]? = w.heap[g]? := by rw [hc]; exact hk
    exact ⟨(World.cell?_of_block (w := w) (a := ⟨g, o + i * 2, none⟩) e).trans (h4 i hi).1, (World.cell?_of_block (w := w) (a := ⟨g, o + i * 2 + 1, none⟩) e).trans (h4 i hi).2⟩
theorem PO.below {w w' : World} {v : Value} {l : PL} (h : PO w v l) (k : Below w.heap.size w w') : PO w' v l := h.np (.below k)
theorem PO.nil (w : World) : PO w (.slice none 0 0) [] := ⟨.nil, fun _ _ _ e => by cases e⟩
theorem own_PO {w : World} {B : Nat} {v : Value} {l : PL} (h : OwnP w B v l) : PO w v l := by
  refine ⟨own_PR h, fun a n c e h0 => ?_⟩
  rcases h.2 with ⟨hv, _⟩ | ⟨g, cap, cur, hv, _, hh, _⟩
  · rw [hv] at e; cases e
  · rw [hv] at e
    simp only [Value.slice.injEq, Option.some.injEq] at e
    rw [← e.1]
    exact ⟨cur, hh⟩
theorem pcloneO (l : PL) (v : Value) (w : World) (h : PR w v l) (hn : l.length ≤ 100000) :
    Calls Try.prog 78 #[v] w fun e w' => ∃ v', e = .returned v' ∧ PO w' v' l ∧ Below w.heap.size w w' := by
  have qT : ∀ (w : World) (a : Addr) (n c : Nat), (binOp .eql 58 (.slice (some a) n c) (.slice none 0 0)).run Try.prog w = .ok (.bool false) w := fun w a n c => Go.run_eql_slice_nil w _ _ (some a) n c uPL
  have qN : ∀ (w : World), (binOp .eql 58 (.slice none 0 0) (.slice none 0 0)).run Try.prog w = .ok (.bool true) w := fun w => Go.run_eql_slice_nil w _ _ none 0 0 uPL
  refine Calls.veil fun Q HQ => ?_
  have H := Lib.hid h
  cases h with
  | nil =>
    go_enter Try.func78, Try.ntmps78
    go_wp2_with fail
    (try go_ret)
    rw [HQ.out]
    exact ⟨_, rfl, .nil _, Below.refl _ _⟩
  | odd ad c hc0 =>
    go_enter Try.func78, Try.ntmps78
    go_wp2_with (at_builtin; refine wpList_append_pr rfl (.tmp 5) (.tmp 6) rfl w.heap.size _ [] rfl (own_none w) _ [] rfl (H.out.alloc _) (by simp) (by simp) ?_)
    intro v1 w1 hown hg
    have hb := grow_step (W := w) (own_none w) (by (repeat (first | exact Below.refl _ _ | assumption | refine below_new ?_ _ | refine Below.drew ?_ | refine below_drewN ?_ _ | refine below_on ?_ (by assumption)))) (Nat.le_refl _) hg
    have HP := Lib.hid (own_PO hown)
    clear hown hg
    go_wp2_with fail
    (try go_ret)
    rw [HQ.out]
    exact ⟨_, rfl, HP.out, hb⟩
  | row g o c _ h1 h2 h3 =>
    clear h3
    go_enter Try.func78, Try.ntmps78
    go_wp2_with (at_builtin; refine wpList_append_pr rfl (.tmp 5) (.tmp 6) rfl w.heap.size _ [] rfl (own_none w) _ l rfl (H.out.alloc _) (by simp; omega) (by simp) ?_)
    intro v1 w1 hown hg
    have hb := grow_step (W := w) (own_none w) (by (repeat (first | exact Below.refl _ _ | assumption | refine below_new ?_ _ | refine Below.drew ?_ | refine below_drewN ?_ _ | refine below_on ?_ (by assumption)))) (Nat.le_refl _) hg
    have HP := Lib.hid (own_PO hown)
    clear hown hg
    go_wp2_with fail
    (try go_ret)
    rw [HQ.out]
    exact ⟨_, rfl, HP.out, hb⟩
/-- A row of cells in a block of its own. -/
def RowF (T : TypeId) (w : World) (g m : Nat) (F : Nat → Value) : Prop := ∃ cur : Array Value, w.heap[g]? = some (.cells cur T (0, 0)) ∧ cur.toList.take m = (List.range m).map F
theorem RowF.get {T : TypeId} {w : World} {g m : Nat} {F : Nat → Value} (h : RowF T w g m F) {j : Nat} (hj : j < m) : w.cell? ⟨g, j, none⟩ = some (F j) := by
  obtain ⟨cur, h1, h2⟩ := h
  have h3 : ((List.range m).map F)[j]? = some (F j) := by simp [List.getElem?_range hj]
  rw [← h2, List.getElem?_take_of_lt hj] at h3
  rw [cell_of_row _ _ _ _ _ (0, 0) h1]; simpa using h3
theorem RowF.set {T : TypeId} {w : World} {g m : Nat} {F : Nat → Value} (h : RowF T w g m F) (k : Nat) (x : Value) : RowF T (w.setCell ⟨g, k, none⟩ x) g m (fun j => if j = k then x else F j) := by
  obtain ⟨cur, h1, h2⟩ := h
  refine ⟨_, heap_setCell_same w g k _ _ _ h1, ?_⟩
  have e : ((List.range m).map F).set k x = (List.range m).map (fun j => if j = k then x else F j) := by
    apply List.ext_getElem?
    intro j
    rw [List.getElem?_set]
    by_cases hj : j < m
    · by_cases e : k = j
      · subst e; simp [hj]
      · rw [if_neg e]; simp [hj, Ne.symm e]
    · simp [hj]; omega
  rw [← e, ← h2]
  simp [List.take_set]
theorem RowF.congr {T : TypeId} {w : World} {g m : Nat} {F G : Nat → Value} (h : RowF T w g m F) (e : ∀ j, j < m → F j = G j) : RowF T w g m G := by
  obtain ⟨cur, h1, h2⟩ := h
  exact ⟨cur, h1, h2.trans (List.map_congr_left fun j hj => e j (List.mem_range.1 hj))⟩
theorem RowF.of {T : TypeId} {w w' : World} {g m : Nat} {F : Nat → Value} (h : RowF T w g m F) (e : w'.heap[g]? = w.heap[g]?) : RowF T w' g m F := by
  obtain ⟨cur, h1, h2⟩ := h
  exact ⟨cur, e.trans h1, h2⟩
theorem RowF.lt {T : TypeId} {w : World} {g m : Nat} {F : Nat → Value} (h : RowF T w g m F) : g < w.heap.size := by
  obtain ⟨cur, h1, h2⟩ := h
  exact (Array.getElem?_eq_some_iff.1 h1).1
theorem RowF.fr {T : TypeId} {w : World} {g m : Nat} {F : Nat → Value} (h : RowF T w g m F) (i : Nat) : w.frozen? ⟨g, i, none⟩ = false := by
  obtain ⟨cur, h1, h2⟩ := h
  exact frozen_of_row _ _ _ _ _ h1
theorem RowF.below {T : TypeId} {w w' : World} {g m : Nat} {F : Nat → Value} (h : RowF T w g m F) (k : Below w.heap.size w w') : RowF T w' g m F := h.of (k.block _ h.lt)
end Go.Proofs.Ytkkdehniheajeaa.Th
