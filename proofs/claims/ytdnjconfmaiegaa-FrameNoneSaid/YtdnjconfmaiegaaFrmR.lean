/- Layer 15: a frame is like itself. -/
import Derived.Test.YtdnjconfmaiegaaFrmQ
import Derived.Test.YtdnjconfmaiegaaFrmE
namespace Go.Proofs.Ytdnjconfmaiegaa
open Go.RowKit
set_option linter.unusedVariables false
set_option linter.unusedSimpArgs false
theorem fieldsF : (Try.prog.fieldsOf 65).toList.map (fun f => (f.type, f.offset)) = [(3, 0), (3, 1), (55, 2)] ∧ ((Try.prog.fieldsOf 65).toList.all fun f => f.name != "_") = true := ⟨by kernel_rfl, by kernel_rfl⟩
theorem intT : Try.prog.underlying 3 = some (.int .i64) := by kernel_rfl
theorem sF : Try.prog.underlying 65 = some (.struct (Try.prog.fieldsOf 65)) := by kernel_rfl
theorem siF : Try.prog.stoodInHeld 65 = false := by kernel_rfl
theorem info24 : (Try.prog.info? 55).map (·.size) = some 24 := by kernel_rfl
theorem part_fn (f : Fm) (w : World) : (part 3 ((List.range 26).map (frF f)).toArray 0).run Try.prog w = .ok (.int .i64 f.fn) w := by
  simp [part, isAgg, run_underlying intT, frF]
theorem part_pc (f : Fm) (w : World) : (part 3 ((List.range 26).map (frF f)).toArray 1).run Try.prog w = .ok (.int .i64 f.pc) w := by
  simp [part, isAgg, run_underlying intT, frF]
theorem part_r (f : Fm) (w : World) : (part 55 ((List.range 26).map (frF f)).toArray 2).run Try.prog w = .ok (.agg (ucells 24 f.r).toArray) w := by
  have e : ((List.range 26).map (frF f)).toArray.extract 2 26 = (ucells 24 f.r).toArray := by
    refine Array.ext (by simp [ucells]) fun i h1 h2 => ?_
    have hi : i < 24 := by simpa [ucells] using h2
    simp only [Array.getElem_extract, List.getElem_toArray, List.getElem_map, List.getElem_range, ucells]
    unfold frF
    rw [if_neg (by omega), if_neg (by omega), show 2 + i - 2 = i by omega]
  cases hq : Try.prog.info? 55 with
  | none => have := info24; rw [hq] at this; cases this
  | some i =>
    have hs : i.size = 24 := by have := info24; rw [hq] at this; simpa using this
    have e2 := congrArg Array.toList e
    simp only [Array.toList_extract] at e2
    simp [part, isAgg, run_underlying u24, sizeOf, typeInfo, hq, hs]
    simpa using e2
theorem eq_frame (f : Fm) (w : World) : (Op.equalIn 10000 65 (.agg ((List.range 26).map (frF f)).toArray) (.agg ((List.range 26).map (frF f)).toArray)).run Try.prog w = .ok true w := by
  have h := run_equalIn_struct (P := Try.prog) w 9999 65 ((List.range 26).map (frF f)).toArray ((List.range 26).map (frF f)).toArray sF siF
  refine h.trans ?_
  obtain ⟨h1, h2⟩ := fieldsF
  generalize (Try.prog.fieldsOf 65).toList = fs at h1 h2
  rcases fs with _ | ⟨a, _ | ⟨b, _ | ⟨c, _ | ⟨d, fs⟩⟩⟩⟩
  · simp at h1
  · simp at h1
  · simp at h1
  rotate_left
  · simp at h1
  · skip
    simp only [List.map_cons, List.map_nil, List.cons.injEq, Prod.mk.injEq, and_true] at h1
    obtain ⟨⟨a1, a2⟩, ⟨b1, b2⟩, c1, c2⟩ := h1
    simp only [List.all_cons, List.all_nil, Bool.and_true, Bool.and_eq_true, bne_iff_ne] at h2
    have e1 : ∀ x, (Op.equalIn 9999 3 (.int .i64 x) (.int .i64 x)).run Try.prog w = .ok true w := fun x => by
      have := run_equalIn_int w 9998 3 .i64 .i64 x x intT
      simpa using this
    have e2 : (Op.equalIn 9999 55 (.agg (ucells 24 f.r).toArray) (.agg (ucells 24 f.r).toArray)).run Try.prog w = .ok true w := eq_words 9997 24 _ u24 f.r w
    simp only [Op.eqFields, h2.1, h2.2.1, h2.2.2, ne_eq, not_false_eq_true, if_true, Sem.run_bind, a1, a2, b1, b2, c1, c2, part_fn, part_pc, part_r, e1, e2, Result.andThen_ok, Bool.not_true, Bool.false_eq_true, if_false, Sem.run_pure]
end Go.Proofs.Ytdnjconfmaiegaa
