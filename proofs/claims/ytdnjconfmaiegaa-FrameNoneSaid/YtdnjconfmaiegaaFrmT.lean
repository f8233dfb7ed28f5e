/- Layer 15: a frame built, made and stored whole. -/
import Derived.Test.YtdnjconfmaiegaaFrmS
import Derived.Laws.Tables
namespace Go.Proofs.Ytdnjconfmaiegaa
open Go.RowKit
set_option linter.unusedVariables false
set_option linter.unusedSimpArgs false
theorem builtF (x : Int) : (Try.prog).built 65 [(0, .int .i64 x)] = some ((List.range 26).map (frF ⟨x, 0, fun _ => 0⟩)).toArray := by kernel_rfl
theorem infoF_T : (Try.prog.info? 65).map (·.size) = some ((List.range 26).map (frF ⟨0, 0, fun _ => 0⟩)).toArray.size := by kernel_rfl
theorem frF_all (x : Int) : ((List.range 26).map (frF ⟨x, 0, fun _ => 0⟩)).toArray.all (·.oneCell') = true := by kernel_rfl
theorem wpList_buildF {ops : Array Oper} {rest : List Oper} {o : Oper} {a : Act} {w : World} {Q : Exit → Act → World → Prop} (hg : o.guard = none) (y : Operand) (ho : o.op = .build 65 #[(0, y)]) (x : Int) (hy : a.eval y = .int .i64 x)
    (h : wpList Try.prog ops Q rest (a.put o.dst (.agg ((List.range 26).map (frF ⟨x, 0, fun _ => 0⟩)).toArray)) w) : wpList Try.prog ops Q (o :: rest) a w :=
  wpList_plain hg fun _ hK => by
    unfold Oper.wp execOp
    have := run_build (P := Try.prog) w 65 #[(0, .int .i64 x)] _ (builtF x)
    simp only [ho, List.map_toArray, List.map_cons, List.map_nil, hy, Sem.run_bind, Sem.run_pure, this, Result.andThen_ok]
    exact hK _ _ h
theorem setrowE {w V : World} {old cs : Array Value} {T : TypeId} (h : (w.alloc (.cells old T (0, 0))).setRow w.heap.size cs = V) : V.heap[w.heap.size]? = some (.cells cs T (0, 0)) ∧ Below w.heap.size w V ∧ V.heap.size = w.heap.size + 1 := by
  subst h
  refine ⟨setRow_heap _ _ _ _ _ _ (heap_alloc_new w _), ⟨rfl, rfl, rfl, ?_, fun j hj => ?_⟩, ?_⟩
  · simp [World.setRow]
  · rw [setRow_other _ _ _ _ (by omega)]; exact (below_new (Below.refl w.heap.size w) _).block j hj
  · simp [World.setRow]
end Go.Proofs.Ytdnjconfmaiegaa
