/- Layer 35, reading: what the deferred closures do. (By gen_rtxr.py.) -/
import Derived.Test.YtdgplijnhkgeiaaDoorRtxR
import Derived.Recover
namespace Go.Proofs.YtdgplijnhkgeiaaDoor
open Go.RowKit
set_option linter.unusedVariables false
set_option linter.unusedSimpArgs false
theorem fin5 {a b : Nat} {w V : World} {A B : Array Value} {T U : TypeId} (ka : V.heap[a]? = some (.cells A T (0, 0))) (kb : V.heap[b]? = some (.cells B U (0, 0))) (h : ∀ N, N ≤ w.heap.size → Below N w V) (hab : a ≠ b) (v0 v1 v2 v3 v4 u : Value) (hA : A.size = 5) (hB : B.size = 1) :
    (((((((V.setCell ⟨a, 0, none⟩ v0).setCell ⟨a, 1, none⟩ v1).setCell ⟨a, 2, none⟩ v2).setCell ⟨a, 3, none⟩ v3).setCell ⟨a, 4, none⟩ v4).setCell ⟨b, 0, none⟩ u).drew).heap[a]? = some (.cells #[v0, v1, v2, v3, v4] T (0, 0)) ∧
    (((((((V.setCell ⟨a, 0, none⟩ v0).setCell ⟨a, 1, none⟩ v1).setCell ⟨a, 2, none⟩ v2).setCell ⟨a, 3, none⟩ v3).setCell ⟨a, 4, none⟩ v4).setCell ⟨b, 0, none⟩ u).drew).heap[b]? = some (.cells #[u] U (0, 0)) ∧
    (∀ N, N ≤ a → N ≤ b → N ≤ w.heap.size → Below N w (((((((V.setCell ⟨a, 0, none⟩ v0).setCell ⟨a, 1, none⟩ v1).setCell ⟨a, 2, none⟩ v2).setCell ⟨a, 3, none⟩ v3).setCell ⟨a, 4, none⟩ v4).setCell ⟨b, 0, none⟩ u).drew)) := by
  have e1 := heap_setCell_same _ a 4 _ _ v4 (heap_setCell_same _ a 3 _ _ v3 (heap_setCell_same _ a 2 _ _ v2 (heap_setCell_same _ a 1 _ _ v1 (heap_setCell_same V a 0 _ _ v0 ka))))
  have e2 : ((((A.setIfInBounds 0 v0).setIfInBounds 1 v1).setIfInBounds 2 v2).setIfInBounds 3 v3).setIfInBounds 4 v4 = #[v0, v1, v2, v3, v4] := by
    obtain ⟨l⟩ := A
    rcases l with _ | ⟨x0, _ | ⟨x1, _ | ⟨x2, _ | ⟨x3, _ | ⟨x4, _ | ⟨x5, t⟩⟩⟩⟩⟩⟩
    case cons.cons.cons.cons.cons.nil => simp only [List.setIfInBounds_toArray, List.set_cons_succ, List.set_cons_zero]
    all_goals (simp at hA)
  rw [e2] at e1
  have o := fun (X : World) (i : Nat) (v : Value) => heap_setCell_other X ⟨a, i, none⟩ b v (fun e => hab e.symm)
  have e3 := heap_setCell_same _ b 0 _ _ u ((o _ 4 v4).trans ((o _ 3 v3).trans ((o _ 2 v2).trans ((o _ 1 v1).trans ((o V 0 v0).trans kb)))))
  have e4 : B.setIfInBounds 0 u = #[u] := by
    obtain ⟨l⟩ := B
    rcases l with _ | ⟨x0, _ | ⟨x1, t⟩⟩
    case cons.nil => simp only [List.setIfInBounds_toArray, List.set_cons_zero]
    all_goals (simp at hB)
  rw [e4] at e3
  have dh : ∀ (X : World) (k : Nat), X.drew.heap[k]? = X.heap[k]? := fun X k => rfl
  refine ⟨by rw [dh]; exact (heap_setCell_other _ ⟨b, 0, none⟩ a u hab).trans e1, by rw [dh]; exact e3, fun N h1 h2 h3 => ?_⟩
  exact (((((((h N h3).setCell (p := ⟨a, 0, none⟩) h1 _).setCell (p := ⟨a, 1, none⟩) h1 _).setCell (p := ⟨a, 2, none⟩) h1 _).setCell (p := ⟨a, 3, none⟩) h1 _).setCell (p := ⟨a, 4, none⟩) h1 _).setCell (p := ⟨b, 0, none⟩) h2 _).drew
set_option maxRecDepth 8000 in
set_option maxHeartbeats 4000000 in
theorem catchc (a b : Nat) (c : Ca) (x y : Int) (older : List PanicEntry) (w : World) (ha : w.heap[a]? = some (.cells (cacells c).toArray 26 (0, 0))) (hb : w.heap[b]? = some (.cells #[.int .i64 x] 27 (0, 0))) (hab : a ≠ b) :
    CallsD Tryd.prog 20 #[.pointer (some ⟨a, 0, none⟩), .pointer (some ⟨b, 0, none⟩)] (.panicking ({ v := wr y, recovered := false } :: older)) w fun e u' w' =>
      e = .returned (.tuple #[]) ∧ u' = .panicking ({ v := wr y, recovered := true } :: older) ∧ w'.heap[a]? = some (.cells (#[.int .i64 0, .int .i64 0, .int .i64 0, .int .i64 0, .int .i64 0]) 26 (0, 0)) ∧ w'.heap[b]? = some (.cells #[.int .i64 y] 27 (0, 0)) ∧ (∀ N, N ≤ a → N ≤ b → N ≤ w.heap.size → Below N w w') := by
  have hla := (Array.getElem?_eq_some_iff.1 ha).1
  have hlb := (Array.getElem?_eq_some_iff.1 hb).1
  have hba : b ≠ a := fun e => hab e.symm
  have ne1 : w.heap.size ≠ a := by omega
  have ne2 : w.heap.size ≠ b := by omega
  refine callsD_of_wpS Tryd.func20 rfl fun c₀ cs hu => ?_
  apply wpS_seq
  apply wpS_region
  have T1 : ∀ w, (Instr.typeAssert (wr y) 20 53 true).run Tryd.prog w = .ok (.tuple #[.agg #[.int .i64 y], .bool true]) w := fun _ => by kernel_rfl
  simp [wpOpsS, go_sem, recoverD, hu, T1, Result.andThen, Tryd.ntmps20, Exit.thenS]
  simp only [Array.replicate_succ, Array.replicate_zero, List.push_toArray, List.append_toArray, List.setIfInBounds_toArray, List.set_cons_succ, List.set_cons_zero, List.nil_append, List.cons_append]
  refine wpS_of_wp ?_
  go_upto_region 2 with fail
  generalize hV : World.alloc _ _ = V
  have y0 : V.cell? ⟨w.heap.size, 0, none⟩ = some (.int .i64 y) := by rw [← hV, cell_of_row _ _ _ _ _ (0, 0) (heap_alloc_new w _)]; rfl
  have ka : V.heap[a]? = some (.cells (cacells c).toArray 26 (0, 0)) := by rw [← hV]; exact (Below.heap_alloc _ _ _ hla).trans ha
  have kb : V.heap[b]? = some (.cells #[.int .i64 x] 27 (0, 0)) := by rw [← hV]; exact (Below.heap_alloc _ _ _ hlb).trans hb
  have kN : ∀ N, N ≤ w.heap.size → Below N w V := fun N h => by rw [← hV]; exact (Below.refl _ _).alloc h _
  have a0 : V.cell? ⟨a, 0, none⟩ = some (.int .i64 c.op) := by rw [cell_of_row _ _ _ _ _ (0, 0) ka]; rfl
  have a1 : V.cell? ⟨a, 1, none⟩ = some (.int .i64 c.key) := by rw [cell_of_row _ _ _ _ _ (0, 0) ka]; rfl
  have a2 : V.cell? ⟨a, 2, none⟩ = some (.int .i64 c.val) := by rw [cell_of_row _ _ _ _ _ (0, 0) ka]; rfl
  have a3 : V.cell? ⟨a, 3, none⟩ = some (.int .i64 c.hi) := by rw [cell_of_row _ _ _ _ _ (0, 0) ka]; rfl
  have a4 : V.cell? ⟨a, 4, none⟩ = some (.int .i64 c.lim) := by rw [cell_of_row _ _ _ _ _ (0, 0) ka]; rfl
  have b0 : V.cell? ⟨b, 0, none⟩ = some (.int .i64 x) := by rw [cell_of_row _ _ _ _ _ (0, 0) kb]; rfl
  have fa : ∀ i, V.frozen? ⟨a, i, none⟩ = false := fun i => frozen_of_row _ _ _ _ _ ka
  have fb : ∀ i, V.frozen? ⟨b, i, none⟩ = false := fun i => frozen_of_row _ _ _ _ _ kb
  go_region
  all_goals go_wp2_with fail
  cases c₀
  simp only at hu
  subst hu
  refine ⟨rfl, _, rfl, _, by simp [results, Tryd.results20, go_sem], rfl, rfl, ?_⟩
  exact fin5 ka kb kN hab _ _ _ _ _ _ rfl rfl
set_option maxRecDepth 8000 in
set_option maxHeartbeats 4000000 in
theorem catcha (a b : Nat) (c : An) (v : Value) (x y : Int) (older : List PanicEntry) (w : World) (ha : w.heap[a]? = some (.cells (ancells c v).toArray 33 (0, 0))) (hb : w.heap[b]? = some (.cells #[.int .i64 x] 27 (0, 0))) (hab : a ≠ b) :
    CallsD Tryd.prog 25 #[.pointer (some ⟨a, 0, none⟩), .pointer (some ⟨b, 0, none⟩)] (.panicking ({ v := wr y, recovered := false } :: older)) w fun e u' w' =>
      e = .returned (.tuple #[]) ∧ u' = .panicking ({ v := wr y, recovered := true } :: older) ∧ w'.heap[a]? = some (.cells (#[.int .i64 0, .int .i64 0, .int .i64 0, .int .i64 0, .slice none 0 0]) 33 (0, 0)) ∧ w'.heap[b]? = some (.cells #[.int .i64 y] 27 (0, 0)) ∧ (∀ N, N ≤ a → N ≤ b → N ≤ w.heap.size → Below N w w') := by
  have hla := (Array.getElem?_eq_some_iff.1 ha).1
  have hlb := (Array.getElem?_eq_some_iff.1 hb).1
  have hba : b ≠ a := fun e => hab e.symm
  have ne1 : w.heap.size ≠ a := by omega
  have ne2 : w.heap.size ≠ b := by omega
  refine callsD_of_wpS Tryd.func25 rfl fun c₀ cs hu => ?_
  apply wpS_seq
  apply wpS_region
  have T1 : ∀ w, (Instr.typeAssert (wr y) 20 53 true).run Tryd.prog w = .ok (.tuple #[.agg #[.int .i64 y], .bool true]) w := fun _ => by kernel_rfl
  simp [wpOpsS, go_sem, recoverD, hu, T1, Result.andThen, Tryd.ntmps25, Exit.thenS]
  simp only [Array.replicate_succ, Array.replicate_zero, List.push_toArray, List.append_toArray, List.setIfInBounds_toArray, List.set_cons_succ, List.set_cons_zero, List.nil_append, List.cons_append]
  refine wpS_of_wp ?_
  go_upto_region 2 with fail
  generalize hV : World.alloc _ _ = V
  have y0 : V.cell? ⟨w.heap.size, 0, none⟩ = some (.int .i64 y) := by rw [← hV, cell_of_row _ _ _ _ _ (0, 0) (heap_alloc_new w _)]; rfl
  have ka : V.heap[a]? = some (.cells (ancells c v).toArray 33 (0, 0)) := by rw [← hV]; exact (Below.heap_alloc _ _ _ hla).trans ha
  have kb : V.heap[b]? = some (.cells #[.int .i64 x] 27 (0, 0)) := by rw [← hV]; exact (Below.heap_alloc _ _ _ hlb).trans hb
  have kN : ∀ N, N ≤ w.heap.size → Below N w V := fun N h => by rw [← hV]; exact (Below.refl _ _).alloc h _
  have a0 : V.cell? ⟨a, 0, none⟩ = some (.int .i64 c.kind) := by rw [cell_of_row _ _ _ _ _ (0, 0) ka]; rfl
  have a1 : V.cell? ⟨a, 1, none⟩ = some (.int .i64 c.key) := by rw [cell_of_row _ _ _ _ _ (0, 0) ka]; rfl
  have a2 : V.cell? ⟨a, 2, none⟩ = some (.int .i64 c.val) := by rw [cell_of_row _ _ _ _ _ (0, 0) ka]; rfl
  have a3 : V.cell? ⟨a, 3, none⟩ = some (.int .i64 c.n) := by rw [cell_of_row _ _ _ _ _ (0, 0) ka]; rfl
  have a4 : V.cell? ⟨a, 4, none⟩ = some v := by rw [cell_of_row _ _ _ _ _ (0, 0) ka]; rfl
  have b0 : V.cell? ⟨b, 0, none⟩ = some (.int .i64 x) := by rw [cell_of_row _ _ _ _ _ (0, 0) kb]; rfl
  have fa : ∀ i, V.frozen? ⟨a, i, none⟩ = false := fun i => frozen_of_row _ _ _ _ _ ka
  have fb : ∀ i, V.frozen? ⟨b, i, none⟩ = false := fun i => frozen_of_row _ _ _ _ _ kb
  go_region
  all_goals go_wp2_with fail
  cases c₀
  simp only at hu
  subst hu
  refine ⟨rfl, _, rfl, _, by simp [results, Tryd.results25, go_sem], rfl, rfl, ?_⟩
  exact fin5 ka kb kN hab _ _ _ _ _ _ rfl rfl
end Go.Proofs.YtdgplijnhkgeiaaDoor
