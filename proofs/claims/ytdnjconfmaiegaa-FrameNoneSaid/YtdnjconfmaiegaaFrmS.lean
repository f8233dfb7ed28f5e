/- Layer 15: a load of a block and a comparison of two aggregates as steps of a region that draws. -/
import Derived.Test.YtdnjconfmaiegaaFrmK
import Derived.Test.YtdnjconfmaiegaaMix
import Derived.Great.BuildSlice
namespace Go.Proofs.Ytdnjconfmaiegaa
open Go.RowKit
set_option linter.unusedVariables false
set_option linter.unusedSimpArgs false
theorem quiet_load {P : Program} {o : Oper} {a : Act} {S : World → Prop} {next : Act → Prop} (ty : TypeId) (x : Operand) (ho : o.op = .load ty x) {pv v : Value} (hx : a.eval x = pv)
    (hr : ∀ w, S w → (Instr.loadAt ty pv).run P w = .ok v w) (h : next (a.put o.dst v)) : o.quiet P a S next :=
  ⟨v, fun w hw => by
    unfold Oper.quietAt execOp
    simp only [ho, hx, Sem.run_bind, Sem.run_pure, hr w hw, Result.andThen_ok]
    exact ⟨rfl, rfl⟩, h⟩
theorem quiet_eql {P : Program} {o : Oper} {a : Act} {S : World → Prop} {next : Act → Prop} (ty r : TypeId) (x y : Operand) (ho : o.op = .binOp .eql ty x y r) {u1 u2 v : Value} (hx : a.eval x = u1) (hy : a.eval y = u2)
    (hg : ∀ w, (eqGuard .eql ty x y u1 u2).run P w = .ok () w) (he : ∀ w, (binOp .eql ty u1 u2).run P w = .ok v w) (h : next (a.put o.dst v)) : o.quiet P a S next :=
  ⟨v, fun w hw => by
    unfold Oper.quietAt execOp
    simp only [ho, hx, hy, Sem.run_bind, Sem.run_pure, hg, he, Result.andThen_ok]
    exact ⟨rfl, rfl⟩, h⟩
theorem step_load {ops : Array Oper} {o : Oper} {a : Act} {w : World} {K : Act → World → Prop} {Q : Exit → Act → World → Prop} {E : Prop} (hgd : o.guard = none) (ty : TypeId) (x : Operand)
    (ho : o.op = .load ty x) {pv v : Value} (hx : a.eval x = pv) (hr : (Instr.loadAt ty pv).run Try.prog w = .ok v w) (h : K (a.put o.dst v) w) :
    if Region.wanted o (yielded ops a.tmps) = true then Oper.wp Try.prog o a w K Q else E := by
  have hw : Region.wanted o (yielded ops a.tmps) = true := by simp [Region.wanted, hgd]
  rw [if_pos hw]
  unfold Oper.wp execOp
  simp only [ho, hx, Sem.run_bind, Sem.run_pure, hr, Result.andThen_ok]
  exact h
/-- A slice literal of one element, the element's cells behind a variable. -/
theorem step_build {ops : Array Oper} {o : Oper} {a : Act} {w : World} {K : Act → World → Prop} {Q : Exit → Act → World → Prop} {E : Prop} (hgd : o.guard = none) (t e : TypeId) (x : Operand)
    (ho : o.op = .buildSlice t 1 #[(0, x)]) {v : Value} (hx : a.eval x = v) (cells : Array Value)
    (hr : ∀ w, (Instr.buildSlice t 1 #[(0, v)]).run Try.prog w = .ok (.slice (some ⟨w.heap.size, 0, none⟩) 1 1) (w.alloc (.cells cells e)))
    (h : K (a.put o.dst (.slice (some ⟨w.heap.size, 0, none⟩) 1 1)) (w.alloc (.cells cells e))) :
    if Region.wanted o (yielded ops a.tmps) = true then Oper.wp Try.prog o a w K Q else E := by
  have hw : Region.wanted o (yielded ops a.tmps) = true := by simp [Region.wanted, hgd]
  rw [if_pos hw]
  unfold Oper.wp execOp
  simp only [ho, List.map_toArray, List.map_cons, List.map_nil, hx, Sem.run_bind, Sem.run_pure, hr, Result.andThen_ok]
  exact h
end Go.Proofs.Ytdnjconfmaiegaa
