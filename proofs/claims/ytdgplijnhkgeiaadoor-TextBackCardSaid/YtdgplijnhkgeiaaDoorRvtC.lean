/- Layer 35, histories: what ReadHistory's deferred closure does; rows of events. (By gen_rvtc.py.) -/
import Derived.Test.YtdgplijnhkgeiaaDoorRvtB
namespace Go.Proofs.YtdgplijnhkgeiaaDoor
open Go.RowKit
set_option linter.unusedVariables false
set_option linter.unusedSimpArgs false
set_option maxRecDepth 8000 in
theorem catchh_idle (p q : Addr) (w : World) :
    CallsD Tryd.prog 29 #[.pointer (some p), .pointer (some q)] .returning w fun e u' w' => e = .returned (.tuple #[]) ∧ u' = .returning ∧ Below w.heap.size w w' := by
  refine callsD_of_wpS Tryd.func29 rfl fun c₀ cs hu => ?_
  apply wpS_seq
  apply wpS_region
  have T1 : ∀ w, (Instr.typeAssert (Value.nilIface) 20 53 true).run Tryd.prog w = .ok (.tuple #[.agg #[.int .i64 0], .bool false]) w := fun _ => by kernel_rfl
  simp [wpOpsS, go_sem, recoverD, hu, T1, Result.andThen, Tryd.ntmps29, Exit.thenS]
  refine wpS_of_wp ?_
  go_wp2_with fail
  cases c₀
  simp only at hu
  subst hu
  refine ⟨rfl, _, rfl, _, by simp [results, Tryd.results29, go_sem], rfl, rfl, below_new (Below.refl _ _) _⟩
theorem fin1 {a b : Nat} {w V : World} {T U : TypeId} {s x : Value} (ka : V.heap[a]? = some (.cells #[s] T (0, 0))) (kb : V.heap[b]? = some (.cells #[x] U (0, 0))) (h : ∀ N, N ≤ w.heap.size → Below N w V) (hab : a ≠ b) (v u : Value) :
    (((V.setCell ⟨a, 0, none⟩ v).setCell ⟨b, 0, none⟩ u).drew).heap[a]? = some (.cells #[v] T (0, 0)) ∧
    (((V.setCell ⟨a, 0, none⟩ v).setCell ⟨b, 0, none⟩ u).drew).heap[b]? = some (.cells #[u] U (0, 0)) ∧
    (∀ N, N ≤ a → N ≤ b → N ≤ w.heap.size → Below N w (((V.setCell ⟨a, 0, none⟩ v).setCell ⟨b, 0, none⟩ u).drew)) := by
  have e1 := heap_setCell_same V a 0 _ _ v ka
  have e3 := heap_setCell_same _ b 0 _ _ u ((heap_setCell_other V ⟨a, 0, none⟩ b v (fun e => hab e.symm)).trans kb)
  have dh : ∀ (X : World) (k : Nat), X.drew.heap[k]? = X.heap[k]? := fun X k => rfl
  refine ⟨by rw [dh]; exact (heap_setCell_other _ ⟨b, 0, none⟩ a u hab).trans e1, by rw [dh]; exact e3, fun N h1 h2 h3 => ?_⟩
  exact (((h N h3).setCell (p := ⟨a, 0, none⟩) h1 _).setCell (p := ⟨b, 0, none⟩) h2 _).drew
set_option maxRecDepth 8000 in
set_option maxHeartbeats 4000000 in
theorem catchh (a b : Nat) (sl : Value) (x y : Int) (older : List PanicEntry) (w : World) (ha : w.heap[a]? = some (.cells #[sl] 39 (0, 0))) (hb : w.heap[b]? = some (.cells #[.int .i64 x] 27 (0, 0))) (hab : a ≠ b) :
    CallsD Tryd.prog 29 #[.pointer (some ⟨a, 0, none⟩), .pointer (some ⟨b, 0, none⟩)] (.panicking ({ v := wr y, recovered := false } :: older)) w fun e u' w' =>
      e = .returned (.tuple #[]) ∧ u' = .panicking ({ v := wr y, recovered := true } :: older) ∧ w'.heap[a]? = some (.cells #[.slice none 0 0] 39 (0, 0)) ∧ w'.heap[b]? = some (.cells #[.int .i64 y] 27 (0, 0)) ∧ (∀ N, N ≤ a → N ≤ b → N ≤ w.heap.size → Below N w w') := by
  have hla := (Array.getElem?_eq_some_iff.1 ha).1
  have hlb := (Array.getElem?_eq_some_iff.1 hb).1
  have hba : b ≠ a := fun e => hab e.symm
  have ne1 : w.heap.size ≠ a := by omega
  have ne2 : w.heap.size ≠ b := by omega
  refine callsD_of_wpS Tryd.func29 rfl fun c₀ cs hu => ?_
  apply wpS_seq
  apply wpS_region
  have T1 : ∀ w, (Instr.typeAssert (wr y) 20 53 true).run Tryd.prog w = .ok (.tuple #[.agg #[.int .i64 y], .bool true]) w := fun _ => by kernel_rfl
  simp [wpOpsS, go_sem, recoverD, hu, T1, Result.andThen, Tryd.ntmps29, Exit.thenS]
  simp only [Array.replicate_succ, Array.replicate_zero, List.push_toArray, List.append_toArray, List.setIfInBounds_toArray, List.set_cons_succ, List.set_cons_zero, List.nil_append, List.cons_append]
  refine wpS_of_wp ?_
  go_upto_region 2 with fail
  generalize hV : World.alloc _ _ = V
  have y0 : V.cell? ⟨w.heap.size, 0, none⟩ = some (.int .i64 y) := by rw [← hV, cell_of_row _ _ _ _ _ (0, 0) (heap_alloc_new w _)]; rfl
  have ka : V.heap[a]? = some (.cells #[sl] 39 (0, 0)) := by rw [← hV]; exact (Below.heap_alloc _ _ _ hla).trans ha
  have kb : V.heap[b]? = some (.cells #[.int .i64 x] 27 (0, 0)) := by rw [← hV]; exact (Below.heap_alloc _ _ _ hlb).trans hb
  have kN : ∀ N, N ≤ w.heap.size → Below N w V := fun N h => by rw [← hV]; exact (Below.refl _ _).alloc h _
  have a0 : V.cell? ⟨a, 0, none⟩ = some sl := by rw [cell_of_row _ _ _ _ _ (0, 0) ka]; rfl
  have b0 : V.cell? ⟨b, 0, none⟩ = some (.int .i64 x) := by rw [cell_of_row _ _ _ _ _ (0, 0) kb]; rfl
  have fa : ∀ i, V.frozen? ⟨a, i, none⟩ = false := fun i => frozen_of_row _ _ _ _ _ ka
  have fb : ∀ i, V.frozen? ⟨b, i, none⟩ = false := fun i => frozen_of_row _ _ _ _ _ kb
  go_region
  all_goals go_wp2_with fail
  cases c₀
  simp only at hu
  subst hu
  refine ⟨rfl, _, rfl, _, by simp [results, Tryd.results29, go_sem], rfl, rfl, ?_⟩
  exact fin1 ka kb kN hab _ _
/-- An own row of events. -/
def evs (L : List (Ev × Value)) : List Value := L.flatMap fun p => evcells p.1 p.2
theorem evcells_len (e : Ev) (v : Value) : (evcells e v).length = 12 := rfl
theorem evs_len : ∀ L, (evs L).length = 12 * L.length
  | [] => rfl
  | p :: r => by
    have := evs_len r
    simp only [evs, List.flatMap_cons, List.length_append, evcells_len, List.length_cons] at this ⊢
    omega
theorem evs_get : ∀ (L : List (Ev × Value)) (i j : Nat) (p : Ev × Value), L[i]? = some p → j < 12 → (evs L)[i * 12 + j]? = (evcells p.1 p.2)[j]?
  | [], i, j, p, h, _ => by simp at h
  | q :: r, 0, j, p, h, hj => by
    simp at h; subst h
    show (evcells q.1 q.2 ++ evs r)[0 * 12 + j]? = _
    rw [Nat.zero_mul, Nat.zero_add, List.getElem?_append_left (by rw [evcells_len]; exact hj)]
  | q :: r, i + 1, j, p, h, hj => by
    show (evcells q.1 q.2 ++ evs r)[(i + 1) * 12 + j]? = _
    rw [List.getElem?_append_right (by rw [evcells_len]; omega), evcells_len, show (i + 1) * 12 + j - 12 = i * 12 + j by omega]
    exact evs_get r i j p (by simpa using h) hj
theorem evs_app (L : List (Ev × Value)) (e : Ev) (v : Value) : evs (L ++ [(e, v)]) = evs L ++ evcells e v := by simp [evs]
theorem infoEv : (Tryd.prog.info? 45).map (fun i => (i.zero, i.size, i.bytes)) = some (some (.agg #[.int .i64 0, .bool false, .int .i64 0, .int .i64 0, .int .i64 0, .int .i64 0, .int .i64 0, .int .i64 0, .int .i64 0, .int .i64 0, .int .i64 0, .slice none 0 0]), 12, 112) := by kernel_rfl
theorem uVL : Tryd.prog.underlying 39 = some (.slice 45) := by kernel_rfl
abbrev OwnV (w : World) (B : Nat) (v : Value) (L : List (Ev × Value)) : Prop := w.ownsRow B 45 12 v L.length (evs L)
theorem ownV_nil (w : World) (B : Nat) : OwnV w B (.slice none 0 0) [] := ⟨rfl, .inl ⟨rfl, rfl⟩⟩
theorem ownV_ge {w : World} {B : Nat} {v : Value} {L : List (Ev × Value)} (h : OwnV w B v L) : ∀ k, v.ownBlock = some k → B ≤ k := by
  intro k hk
  rcases h.2 with ⟨rfl, _⟩ | ⟨g, cap, cur, rfl, hg, _⟩
  · cases hk
  · simp only [Value.ownBlock, Option.some.injEq] at hk; omega
theorem ownV_slice {w : World} {B : Nat} {v : Value} {L : List (Ev × Value)} (h : OwnV w B v L) : ∃ p c, v = .slice p L.length c := by
  rcases h.2 with ⟨rfl, h0⟩ | ⟨g, cap, cur, hv, _⟩
  · exact ⟨none, 0, by rw [h0]⟩
  · exact ⟨_, _, hv⟩
theorem ownQV_ne {w : World} {B B' : Nat} {v v' : Value} {l : PL} {L' : List (Ev × Value)} (h : OwnQ w B v l) (h' : OwnV w B' v' L') : v.ownBlock = none ∨ v.ownBlock ≠ v'.ownBlock := by
  rcases h.2 with ⟨rfl, _⟩ | ⟨g, cap, cur, rfl, _, hh, _⟩
  · exact .inl rfl
  · rcases h'.2 with ⟨rfl, _⟩ | ⟨g', cap', cur', rfl, _, hh', _⟩
    · exact .inr (fun e => by cases e)
    · refine .inr fun e => ?_
      have e : some g = some g' := e
      injection e with e
      subst e
      rw [hh'] at hh
      injection hh with hh
      injection hh with _ h2
      revert h2
      decide
/-- The events as a row that is read. -/
def VL (w : World) (v : Value) (l : List Ev) : Prop := VR w v l.length (fun i => l.getD i zeroE)
theorem ownV_VL {w : World} {B B' : Nat} {v : Value} {L : List (Ev × Value)} (h : OwnV w B v L) (hq : ∀ p ∈ L, OwnQ w B' p.2 p.1.an.ps) : VL w v (L.map Prod.fst) := by
  unfold VL
  rw [List.length_map]
  rcases h.2 with ⟨rfl, h0⟩ | ⟨g, cap, cur, hv, hg, hh, hc, hm, hs, ht⟩
  · have e : L = [] := List.eq_nil_of_length_eq_zero h0
    subst e; exact .nil _
  · subst hv
    refine .row g 0 L.length cap _ hc hm fun i hi => ?_
    obtain ⟨p, hp⟩ : ∃ p, L[i]? = some p := ⟨L[i], List.getElem?_eq_getElem hi⟩
    have e : (L.map Prod.fst).getD i zeroE = p.1 := by simp [List.getD_eq_getElem?_getD, List.getElem?_map, hp]
    rw [e]
    refine ⟨p.2, fun j hj => ?_, ownQ_PR (hq p (List.mem_of_getElem? hp))⟩
    have g0 := evs_get L i j p hp hj
    have hlen := evs_len L
    rw [← ht, List.getElem?_take_of_lt (by omega)] at g0
    rw [cell_of_row _ g _ _ _ (0, 0) hh, Nat.zero_add, ← g0]
    simp
theorem VL.below {w w' : World} {v : Value} {l : List Ev} (h : VL w v l) (k : Below w.heap.size w w') : VL w' v l := VR.below h k
/-- An event more, at the end. -/
theorem wp_append_v1 {w : World} {o : Oper} {a : Act} {K : Act → World → Prop} {Q : Exit → Act → World → Prop} (s x : Operand)
    (ho : o.op = .call { callee := .builtin .append, args := #[s, x], argTypes := #[39, 39] })
    (B : Nat) (v : Value) (L : List (Ev × Value)) (e : Ev) (q : Option Addr) (m c' g c : Nat) (hs : a.eval s = v) (hown : OwnV w B v L) (hx : a.eval x = .slice (some ⟨g, 0, none⟩) 1 c) (hc : ∀ j u, (evcells e (.slice q m c'))[j]? = some u → w.cell? ⟨g, j, none⟩ = some u) (hn : L.length ≤ 100000) (hB : B ≤ w.heap.size)
    (h : ∀ v' w', OwnV w' B v' (L ++ [(e, .slice q m c')]) → w.grownBy w' v.ownBlock → K (a.put o.dst v') w') : o.wp Tryd.prog a w K Q := by
  obtain ⟨i0, hi, hz0, hz1, hz2⟩ := info_parts infoEv
  refine wp_append_own w s x 39 ho B 45 i0 _ 12 112 uVL hi hz0 hz1 hz2 rfl (by decide) v L.length (evs L) hs hown ⟨g, 0, none⟩ 1 c (evcells e (.slice q m c')) hx rfl ?_ ?_ (by unfold maxLen; omega) (by omega) hB ?_
  · intro j u hu; rw [addP, Nat.zero_add]; exact hc j u hu
  · intro u hu
    simp only [evcells, cacells, ancells, List.cons_append, List.nil_append, List.mem_cons, List.not_mem_nil, or_false] at hu
    rcases hu with rfl | rfl | rfl | rfl | rfl | rfl | rfl | rfl | rfl | rfl | rfl | rfl <;> rfl
  · intro v' w' h4 h5 _
    refine h v' w' ?_ h5
    unfold OwnV
    rw [List.length_append, evs_app]
    exact h4
theorem wpList_append_v1 {w : World} {ops : Array Oper} {rest : List Oper} {o : Oper} {a : Act} {Q : Exit → Act → World → Prop} (hgd : o.guard = none) (s x : Operand)
    (ho : o.op = .call { callee := .builtin .append, args := #[s, x], argTypes := #[39, 39] })
    (B : Nat) (v : Value) (L : List (Ev × Value)) (e : Ev) (q : Option Addr) (m c' g c : Nat) (hs : a.eval s = v) (hown : OwnV w B v L) (hx : a.eval x = .slice (some ⟨g, 0, none⟩) 1 c) (hc : ∀ j u, (evcells e (.slice q m c'))[j]? = some u → w.cell? ⟨g, j, none⟩ = some u) (hn : L.length ≤ 100000) (hB : B ≤ w.heap.size)
    (h : ∀ v' w', OwnV w' B v' (L ++ [(e, .slice q m c')]) → w.grownBy w' v.ownBlock → wpList Tryd.prog ops Q rest (a.put o.dst v') w') : wpList Tryd.prog ops Q (o :: rest) a w := by
  obtain ⟨i0, hi, hz0, hz1, hz2⟩ := info_parts infoEv
  refine wpList_append_own _ hgd s x 39 ho B 45 i0 _ 12 112 uVL hi hz0 hz1 hz2 rfl (by decide) v L.length (evs L) hs hown ⟨g, 0, none⟩ 1 c (evcells e (.slice q m c')) hx rfl ?_ ?_ (by unfold maxLen; omega) (by omega) hB ?_
  · intro j u hu; rw [addP, Nat.zero_add]; exact hc j u hu
  · intro u hu
    simp only [evcells, cacells, ancells, List.cons_append, List.nil_append, List.mem_cons, List.not_mem_nil, or_false] at hu
    rcases hu with rfl | rfl | rfl | rfl | rfl | rfl | rfl | rfl | rfl | rfl | rfl | rfl <;> rfl
  · intro v' w' h4 h5 _
    refine h v' w' ?_ h5
    unfold OwnV
    rw [List.length_append, evs_app]
    exact h4
/-- A block just made, cell by cell. -/
theorem new_cells (w : World) (l : List Value) (T : TypeId) : ∀ j u, l[j]? = some u → (w.alloc (.cells l.toArray T)).cell? ⟨w.heap.size, j, none⟩ = some u := fun j u h => by
  rw [cell_of_row _ _ _ _ _ (0, 0) (heap_alloc_new w _)]; simpa using h
end Go.Proofs.YtdgplijnhkgeiaaDoor
