/- Layer 15: what FrameNone needs besides. -/
import Derived.Test.YtdnjconfmaiegaaFrmX
import Derived.Test.YtdnjconfmaiegaaFrmP
import Derived.Test.YtdnjconfmaiegaaHldB
namespace Go.Proofs.Ytdnjconfmaiegaa
open Go.RowKit
set_option linter.unusedVariables false
set_option linter.unusedSimpArgs false
theorem step_of {P : Program} {ops : Array Oper} {o : Oper} {a : Act} {w : World} {K : Act → World → Prop} {Q : Exit → Act → World → Prop} {E : Prop} (hgd : o.guard = none) (h : Oper.wp P o a w K Q) :
    if Region.wanted o (yielded ops a.tmps) = true then Oper.wp P o a w K Q else E := by
  rw [if_pos (by simp [Region.wanted, hgd])]; exact h
theorem quiet_neq {P : Program} {o : Oper} {a : Act} {S : World → Prop} {next : Act → Prop} (ty r : TypeId) (x y : Operand) (ho : o.op = .binOp .neq ty x y r) {u1 u2 v : Value} (hx : a.eval x = u1) (hy : a.eval y = u2)
    (hg : ∀ w, (eqGuard .neq ty x y u1 u2).run P w = .ok () w) (he : ∀ w, (binOp .neq ty u1 u2).run P w = .ok v w) (h : next (a.put o.dst v)) : o.quiet P a S next :=
  ⟨v, fun w hw => by
    unfold Oper.quietAt execOp
    simp only [ho, hx, hy, Sem.run_bind, Sem.run_pure, hg, he, Result.andThen_ok]
    exact ⟨rfl, rfl⟩, h⟩
/-- The session behind the thread's own store. -/
def ss7 : Nat → Value := fun i => if i < 3 then .bool false else if i < 6 then .int .u64 0 else if i = 10 then .int .i64 7 else .int .i64 0
theorem ss7_one : ∀ i, i < 12 → (ss7 i).oneCell' = true := by
  intro i _
  unfold ss7
  split
  · rfl
  · split
    · rfl
    · split <;> rfl
theorem th_ss7 (T : Td) (f r s : Value) (h : T.ss = ss0) (j : Nat) (hj : j < 27) : upF (thF T f r s) 22 (.int .i64 7) j = thF { T with ss := ss7 } f r s j := by
  unfold upF thF
  simp only []
  by_cases e : j = 22
  · subst e; rfl
  · rw [if_neg e]
    by_cases h1 : j < 12
    · rw [if_pos h1, if_pos h1]
    · rw [if_neg h1, if_neg h1]
      by_cases h2 : j < 24
      · rw [if_pos h2, if_pos h2, h]
        unfold ss0 ss7
        by_cases h3 : j - 12 < 3
        · rw [if_pos h3, if_pos h3]
        · rw [if_neg h3, if_neg h3]
          by_cases h4 : j - 12 < 6
          · rw [if_pos h4, if_pos h4]
          · rw [if_neg h4, if_neg h4, if_neg (by omega)]
      · rw [if_neg h2, if_neg h2]
theorem doT_ss (T : Td) (o : Op15) : (doT T o).ss = T.ss := by
  unfold doT
  split
  · rfl
  · split
    · rfl
    · split
      · rfl
      · split
        · rfl
        · split
          · split <;> rfl
          · split
            · rfl
            · split
              · split <;> rfl
              · rfl
theorem XR.ss7 {w : World} {T : Td} {fv rv sv : Value} (h : XR w T fv rv sv) : XR w { T with ss := ss7 } fv rv sv := ⟨h.f, h.r, h.s⟩
def sesV : Value := .agg ((List.range 12).map ss7).toArray
theorem sesV_eq : ∀ w : World, (binOp .neq 48 sesV sesV).run Try.prog w = .ok (.bool false) w := fun w => by kernel_rfl
theorem sesV_guard : ∀ (w : World) (x y : Operand), (eqGuard .neq 48 x y sesV sesV).run Try.prog w = .ok () w := fun w x y => by unfold sesV; exact run_eqGuard_agg w .neq 48 x y _ _ (by kernel_rfl)
theorem okN_op {w : World} {v : Value} (h : Fr.okN w opSh v) : ∃ (x : Op15) (lv : Value), v = opV x lv ∧ UR w lv x.n x.L := by
  obtain ⟨cs, rfl, h⟩ := h
  obtain ⟨x, lv, rfl, hu⟩ := op_cells15 h
  exact ⟨x, lv, rfl, hu⟩
theorem OpsR.below {w w' : World} {v : Value} {n : Nat} {O : Nat → Op15} {lf : Nat → Value} (h : OpsR w v n O lf) (k : Below w.heap.size w w') : OpsR w' v n O lf := by
  obtain ⟨a, c, e, h1, h2, h3⟩ := h
  exact ⟨a, c, e, h1, h2, fun i hi => by obtain ⟨g, off, e2, h4⟩ := h3 i hi; exact ⟨g, off, e2, h4.below k⟩⟩
/-- One call in a block of its own. -/
theorem ops_one {w : World} {b : Nat} {x : Op15} {lv : Value} (hb : w.heap[b]? = some (.cells #[.int .i64 x.kind, .int .i64 x.fn, lv, .int .i64 x.pk, .int .i64 x.pv] 39 (0, 0))) (hu : UR w lv x.n x.L) : OpsR w (.slice (some ⟨b, 0, none⟩) 1 1) 1 (fun _ => x) (fun _ => lv) :=
  ⟨_, 1, rfl, Nat.le_refl _, by decide, fun i hi => ⟨b, 0, rfl, by
    have : i = 0 := by omega
    subst this
    exact ⟨newcell hb 0 _ rfl, newcell hb 1 _ rfl, newcell hb 2 _ rfl, newcell hb 3 _ rfl, newcell hb 4 _ rfl, hu⟩⟩⟩
end Go.Proofs.Ytdnjconfmaiegaa
