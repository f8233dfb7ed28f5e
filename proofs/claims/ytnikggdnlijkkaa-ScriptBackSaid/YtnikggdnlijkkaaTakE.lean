/- Layer 14: what Take's deferred closure does. -/
import Derived.Test.YtnikggdnlijkkaaTakD
import Derived.Recover
namespace Go.Proofs.Ytnikggdnlijkkaa
open Go.RowKit WordM
set_option linter.unusedVariables false
set_option linter.unusedSimpArgs false
/-- Of what stood in w only blocks a and b may have changed. -/
structure KX2 (a b : Nat) (w w' : World) : Prop where
  os : w'.os = w.os
  tape : w'.tape = w.tape
  output : w'.output = w.output
  size : w.heap.size ≤ w'.heap.size
  block : ∀ k, k < w.heap.size → k ≠ a → k ≠ b → w'.heap[k]? = w.heap[k]?
theorem KX2.refl (a b : Nat) (w : World) : KX2 a b w w := ⟨rfl, rfl, rfl, Nat.le_refl _, fun _ _ _ _ => rfl⟩
theorem KX2.alloc {a b : Nat} {w w' : World} (h : KX2 a b w w') (o : Obj) : KX2 a b w (w'.alloc o) :=
  ⟨h.os, h.tape, h.output, by have := h.size; simp; omega, fun k hk h1 h2 => (Below.heap_alloc _ _ _ (Nat.lt_of_lt_of_le hk h.size)).trans (h.block k hk h1 h2)⟩
theorem KX2.drew {a b : Nat} {w w' : World} (h : KX2 a b w w') : KX2 a b w w'.drew := ⟨h.os, h.tape, h.output, h.size, h.block⟩
theorem KX2.set {a b i q : Nat} {w w' : World} (h : KX2 a b w w') (hq : q = a ∨ q = b) (v : Value) : KX2 a b w (w'.setCell ⟨q, i, none⟩ v) :=
  ⟨h.os, h.tape, h.output, by have := h.size; simp [World.setCell]; exact this, fun k hk h1 h2 => (heap_setCell_other w' ⟨q, i, none⟩ k v (by show k ≠ q; omega)).trans (h.block k hk h1 h2)⟩
theorem fin2 {a b : Nat} {w V : World} {A B : Array Value} (ka : V.heap[a]? = some (.cells A 29 (0, 0))) (kb : V.heap[b]? = some (.cells B 30 (0, 0))) (h : KX2 a b w V) (hab : a ≠ b) (v0 v1 v2 v3 u : Value) (hA : A.size = 4) (hB : B.size = 1) :
    let W := ((((V.setCell ⟨a, 0, none⟩ v0).setCell ⟨a, 1, none⟩ v1).setCell ⟨a, 2, none⟩ v2).setCell ⟨a, 3, none⟩ v3).setCell ⟨b, 0, none⟩ u
    W.heap[a]? = some (.cells #[v0, v1, v2, v3] 29 (0, 0)) ∧ W.heap[b]? = some (.cells #[u] 30 (0, 0)) ∧ KX2 a b w W := by
  intro W
  have e1 := heap_setCell_same _ a 3 _ _ v3 (heap_setCell_same _ a 2 _ _ v2 (heap_setCell_same _ a 1 _ _ v1 (heap_setCell_same V a 0 _ _ v0 ka)))
  have e2 : (((A.setIfInBounds 0 v0).setIfInBounds 1 v1).setIfInBounds 2 v2).setIfInBounds 3 v3 = #[v0, v1, v2, v3] := by
    obtain ⟨l⟩ := A
    match l, hA with
    | [_, _, _, _], _ => rfl
  rw [e2] at e1
  have o := fun (X : World) (i : Nat) (v : Value) => heap_setCell_other X ⟨a, i, none⟩ b v (fun e => hab e.symm)
  have e3 := heap_setCell_same _ b 0 _ _ u ((o _ 3 v3).trans ((o _ 2 v2).trans ((o _ 1 v1).trans ((o V 0 v0).trans kb))))
  have e4 : B.setIfInBounds 0 u = #[u] := by
    obtain ⟨l⟩ := B
    match l, hB with
    | [_], _ => rfl
  rw [e4] at e3
  exact ⟨(heap_setCell_other _ ⟨b, 0, none⟩ a u hab).trans e1, e3, ((((h.set (.inl rfl) _).set (.inl rfl) _).set (.inl rfl) _).set (.inl rfl) _).set (.inr rfl) _⟩
theorem catch_idle (p q : Addr) (w : World) :
    CallsD Try.prog 13 #[.pointer (some p), .pointer (some q)] .returning w fun e u' w' => e = .returned (.tuple #[]) ∧ u' = .returning ∧ w' = w := by
  refine callsD_of_wpS Try.func13 rfl fun c₀ cs hu => ?_
  apply wpS_seq
  apply wpS_region
  simp [wpOpsS, go_sem, recoverD, hu, Try.ntmps13, Exit.thenS]
  rw [show (#[Value.pointer (some p), Value.pointer (some q)] ++ (Array.replicate 13 undef).setIfInBounds 2 (Value.nilIface) : Array Value) = #[Value.pointer (some p), Value.pointer (some q), undef, undef, Value.nilIface, undef, undef, undef, undef, undef, undef, undef, undef, undef, undef] from rfl]
  have T1 : ∀ w, (Instr.typeAssert (Value.nilIface) 20 41 true).run Try.prog w = .ok (.tuple #[.agg #[], .bool false]) w := fun _ => by kernel_rfl
  have T2 : ∀ w, (Instr.typeAssert (Value.nilIface) 20 43 true).run Try.prog w = .ok (.tuple #[.agg #[.int .i64 0], .bool false]) w := fun _ => by kernel_rfl
  refine wpS_of_wp ?_
  go_wp2_with fail
  cases c₀
  simp_all [bodyPostS, results, Try.results13]
theorem catch_soon (a b : Nat) (T S K x : Int) (sl : Value) (older : List PanicEntry) (w : World) (ha : w.heap[a]? = some (.cells #[.int .i64 T, .int .i64 S, .int .u64 K, sl] 29 (0, 0))) (hb : w.heap[b]? = some (.cells #[.int .i64 x] 30 (0, 0))) (hab : a ≠ b) :
    CallsD Try.prog 13 #[.pointer (some ⟨a, 0, none⟩), .pointer (some ⟨b, 0, none⟩)] (.panicking ({ v := .iface 41 (.agg #[]), recovered := false } :: older)) w fun e u' w' =>
      e = .returned (.tuple #[]) ∧ u' = .panicking ({ v := .iface 41 (.agg #[]), recovered := true } :: older) ∧ w'.heap[a]? = some (.cells #[.int .i64 0, .int .i64 0, .int .u64 0, .slice none 0 0] 29 (0, 0)) ∧ w'.heap[b]? = some (.cells #[.int .i64 5] 30 (0, 0)) ∧ KX2 a b w w' := by
  have hla := (Array.getElem?_eq_some_iff.1 ha).1
  have hlb := (Array.getElem?_eq_some_iff.1 hb).1
  have hba : b ≠ a := fun e => hab e.symm
  have ne1 : w.heap.size ≠ a := by omega
  have ne2 : w.heap.size ≠ b := by omega
  refine callsD_of_wpS Try.func13 rfl fun c₀ cs hu => ?_
  apply wpS_seq
  apply wpS_region
  simp [wpOpsS, go_sem, recoverD, hu, Try.ntmps13, Exit.thenS]
  rw [show (#[Value.pointer (some ⟨a, 0, none⟩), Value.pointer (some ⟨b, 0, none⟩)] ++ (Array.replicate 13 undef).setIfInBounds 2 (Value.iface 41 (.agg #[])) : Array Value) = #[Value.pointer (some ⟨a, 0, none⟩), Value.pointer (some ⟨b, 0, none⟩), undef, undef, Value.iface 41 (.agg #[]), undef, undef, undef, undef, undef, undef, undef, undef, undef, undef] from rfl]
  have T1 : ∀ w, (Instr.typeAssert (Value.iface 41 (.agg #[])) 20 41 true).run Try.prog w = .ok (.tuple #[.agg #[], .bool true]) w := fun _ => by kernel_rfl
  have T2 : ∀ w, (Instr.typeAssert (Value.iface 41 (.agg #[])) 20 43 true).run Try.prog w = .ok (.tuple #[.agg #[.int .i64 0], .bool false]) w := fun _ => by kernel_rfl
  refine wpS_of_wp ?_
  go_upto_region 3 with fail
  generalize hV : World.alloc _ _ = V
  have ka : V.heap[a]? = some (.cells #[.int .i64 T, .int .i64 S, .int .u64 K, sl] 29 (0, 0)) := by rw [← hV]; exact (Below.heap_alloc _ _ _ hla).trans ha
  have kb : V.heap[b]? = some (.cells #[.int .i64 x] 30 (0, 0)) := by rw [← hV]; exact (Below.heap_alloc _ _ _ hlb).trans hb
  have hKV : KX2 a b w V := by rw [← hV]; exact (KX2.refl _ _ _).alloc _
  have a0 : V.cell? ⟨a, 0, none⟩ = some (.int .i64 T) := by rw [cell_of_row _ _ _ _ _ (0, 0) ka]; rfl
  have a1 : V.cell? ⟨a, 1, none⟩ = some (.int .i64 S) := by rw [cell_of_row _ _ _ _ _ (0, 0) ka]; rfl
  have a2 : V.cell? ⟨a, 2, none⟩ = some (.int .u64 K) := by rw [cell_of_row _ _ _ _ _ (0, 0) ka]; rfl
  have a3 : V.cell? ⟨a, 3, none⟩ = some sl := by rw [cell_of_row _ _ _ _ _ (0, 0) ka]; rfl
  have b0 : V.cell? ⟨b, 0, none⟩ = some (.int .i64 x) := by rw [cell_of_row _ _ _ _ _ (0, 0) kb]; rfl
  have fa : ∀ i, V.frozen? ⟨a, i, none⟩ = false := fun i => frozen_of_row _ _ _ _ _ ka
  have fb : ∀ i, V.frozen? ⟨b, i, none⟩ = false := fun i => frozen_of_row _ _ _ _ _ kb
  go_wp2_with fail
  cases c₀
  simp only at hu
  subst hu
  refine ⟨rfl, _, rfl, _, by simp [results, Try.results13, go_sem], rfl, rfl, ?_⟩
  exact fin2 ka kb hKV hab _ _ _ _ _ rfl rfl
set_option maxHeartbeats 4000000 in
theorem catch_wrong (a b : Nat) (T S K x y : Int) (sl : Value) (older : List PanicEntry) (w : World) (ha : w.heap[a]? = some (.cells #[.int .i64 T, .int .i64 S, .int .u64 K, sl] 29 (0, 0))) (hb : w.heap[b]? = some (.cells #[.int .i64 x] 30 (0, 0))) (hab : a ≠ b) :
    CallsD Try.prog 13 #[.pointer (some ⟨a, 0, none⟩), .pointer (some ⟨b, 0, none⟩)] (.panicking ({ v := .iface 43 (.agg #[.int .i64 y]), recovered := false } :: older)) w fun e u' w' =>
      e = .returned (.tuple #[]) ∧ u' = .panicking ({ v := .iface 43 (.agg #[.int .i64 y]), recovered := true } :: older) ∧ w'.heap[a]? = some (.cells #[.int .i64 0, .int .i64 0, .int .u64 0, .slice none 0 0] 29 (0, 0)) ∧ w'.heap[b]? = some (.cells #[.int .i64 y] 30 (0, 0)) ∧ KX2 a b w w' := by
  have hla := (Array.getElem?_eq_some_iff.1 ha).1
  have hlb := (Array.getElem?_eq_some_iff.1 hb).1
  have hba : b ≠ a := fun e => hab e.symm
  have ne1 : w.heap.size ≠ a := by omega
  have ne2 : w.heap.size ≠ b := by omega
  refine callsD_of_wpS Try.func13 rfl fun c₀ cs hu => ?_
  apply wpS_seq
  apply wpS_region
  simp [wpOpsS, go_sem, recoverD, hu, Try.ntmps13, Exit.thenS]
  rw [show (#[Value.pointer (some ⟨a, 0, none⟩), Value.pointer (some ⟨b, 0, none⟩)] ++ (Array.replicate 13 undef).setIfInBounds 2 (Value.iface 43 (.agg #[.int .i64 y])) : Array Value) = #[Value.pointer (some ⟨a, 0, none⟩), Value.pointer (some ⟨b, 0, none⟩), undef, undef, Value.iface 43 (.agg #[.int .i64 y]), undef, undef, undef, undef, undef, undef, undef, undef, undef, undef] from rfl]
  have T1 : ∀ w, (Instr.typeAssert (Value.iface 43 (.agg #[.int .i64 y])) 20 41 true).run Try.prog w = .ok (.tuple #[.agg #[], .bool false]) w := fun _ => by kernel_rfl
  have T2 : ∀ w, (Instr.typeAssert (Value.iface 43 (.agg #[.int .i64 y])) 20 43 true).run Try.prog w = .ok (.tuple #[.agg #[.int .i64 y], .bool true]) w := fun _ => by kernel_rfl
  refine wpS_of_wp ?_
  go_upto_region 6 with fail
  generalize hV : World.alloc _ _ = V
  have y0 : V.cell? ⟨w.heap.size, 0, none⟩ = some (.int .i64 y) := by rw [← hV, cell_of_row _ _ _ _ _ (0, 0) (heap_alloc_new w _)]; rfl
  have ka : V.heap[a]? = some (.cells #[.int .i64 T, .int .i64 S, .int .u64 K, sl] 29 (0, 0)) := by rw [← hV]; exact (Below.heap_alloc _ _ _ hla).trans ha
  have kb : V.heap[b]? = some (.cells #[.int .i64 x] 30 (0, 0)) := by rw [← hV]; exact (Below.heap_alloc _ _ _ hlb).trans hb
  have hKV : KX2 a b w V := by rw [← hV]; exact (KX2.refl _ _ _).alloc _
  have a0 : V.cell? ⟨a, 0, none⟩ = some (.int .i64 T) := by rw [cell_of_row _ _ _ _ _ (0, 0) ka]; rfl
  have a1 : V.cell? ⟨a, 1, none⟩ = some (.int .i64 S) := by rw [cell_of_row _ _ _ _ _ (0, 0) ka]; rfl
  have a2 : V.cell? ⟨a, 2, none⟩ = some (.int .u64 K) := by rw [cell_of_row _ _ _ _ _ (0, 0) ka]; rfl
  have a3 : V.cell? ⟨a, 3, none⟩ = some sl := by rw [cell_of_row _ _ _ _ _ (0, 0) ka]; rfl
  have b0 : V.cell? ⟨b, 0, none⟩ = some (.int .i64 x) := by rw [cell_of_row _ _ _ _ _ (0, 0) kb]; rfl
  have fa : ∀ i, V.frozen? ⟨a, i, none⟩ = false := fun i => frozen_of_row _ _ _ _ _ ka
  have fb : ∀ i, V.frozen? ⟨b, i, none⟩ = false := fun i => frozen_of_row _ _ _ _ _ kb
  go_region
  all_goals go_wp2_with fail
  cases c₀
  simp only at hu
  subst hu
  have F := fin2 ka kb hKV hab (.int .i64 0) (.int .i64 0) (.int .u64 0) (.slice none 0 0) (.int .i64 y) rfl rfl
  refine ⟨rfl, _, rfl, _, by simp [results, Try.results13, go_sem], rfl, rfl, F.1, F.2.1, F.2.2.drew⟩
end Go.Proofs.Ytnikggdnlijkkaa
