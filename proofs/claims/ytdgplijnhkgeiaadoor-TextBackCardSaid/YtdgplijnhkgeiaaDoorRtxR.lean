/- Layer 35, reading: what the deferred closures do. (By gen_rtxr.py.) -/
import Derived.Test.YtdgplijnhkgeiaaDoorRtxQ
import Derived.Recover
namespace Go.Proofs.YtdgplijnhkgeiaaDoor
open Go.RowKit
set_option linter.unusedVariables false
set_option linter.unusedSimpArgs false
set_option maxRecDepth 8000 in
theorem catchc_idle (p q : Addr) (w : World) :
    CallsD Tryd.prog 20 #[.pointer (some p), .pointer (some q)] .returning w fun e u' w' => e = .returned (.tuple #[]) ∧ u' = .returning ∧ Below w.heap.size w w' := by
  refine callsD_of_wpS Tryd.func20 rfl fun c₀ cs hu => ?_
  apply wpS_seq
  apply wpS_region
  have T1 : ∀ w, (Instr.typeAssert (Value.nilIface) 20 53 true).run Tryd.prog w = .ok (.tuple #[.agg #[.int .i64 0], .bool false]) w := fun _ => by kernel_rfl
  simp [wpOpsS, go_sem, recoverD, hu, T1, Result.andThen, Tryd.ntmps20, Exit.thenS]
  refine wpS_of_wp ?_
  go_wp2_with fail
  cases c₀
  simp only at hu
  subst hu
  refine ⟨rfl, _, rfl, _, by simp [results, Tryd.results20, go_sem], rfl, rfl, below_new (Below.refl _ _) _⟩
set_option maxRecDepth 8000 in
theorem catcha_idle (p q : Addr) (w : World) :
    CallsD Tryd.prog 25 #[.pointer (some p), .pointer (some q)] .returning w fun e u' w' => e = .returned (.tuple #[]) ∧ u' = .returning ∧ Below w.heap.size w w' := by
  refine callsD_of_wpS Tryd.func25 rfl fun c₀ cs hu => ?_
  apply wpS_seq
  apply wpS_region
  have T1 : ∀ w, (Instr.typeAssert (Value.nilIface) 20 53 true).run Tryd.prog w = .ok (.tuple #[.agg #[.int .i64 0], .bool false]) w := fun _ => by kernel_rfl
  simp [wpOpsS, go_sem, recoverD, hu, T1, Result.andThen, Tryd.ntmps25, Exit.thenS]
  refine wpS_of_wp ?_
  go_wp2_with fail
  cases c₀
  simp only at hu
  subst hu
  refine ⟨rfl, _, rfl, _, by simp [results, Tryd.results25, go_sem], rfl, rfl, below_new (Below.refl _ _) _⟩
end Go.Proofs.YtdgplijnhkgeiaaDoor
