/- Layer 42: how great a script's list may be: each slice that is handed over takes at most the form's own reach. -/
import Derived.Test.YtaammkmnhhipgaaShrP
import Derived.SizedLaws
import Derived.ChangeArms
import Derived.Deep.Slices
namespace Go.Proofs.Ytaammkmnhhipgaa
open Go.RowKit Go.Deep
set_option linter.unusedVariables false
theorem scriptFields : ∃ fs f1, Try.prog.underlying 27 = some (.struct fs) ∧ fs[1]? = some f1 ∧ f1.type = 25 ∧ f1.offset = 3 := by
  have h : (Try.prog.underlying 27).map (fun u => match u with | .struct fs => (fs[1]?).map (fun f => (f.type, f.offset)) | _ => none) = some (some (25, 3)) := by kernel_rfl
  cases h1 : Try.prog.underlying 27 with
  | none => rw [h1] at h; cases h
  | some u =>
    rw [h1] at h
    cases u <;> simp at h
    rename_i fs
    obtain ⟨f1, h2, h3, h4⟩ := h
    exact ⟨fs, f1, rfl, by simpa using h2, h3, h4⟩
theorem script_cap {H : Type} {enc : TypeId × Value → H} {w : World} {x0 x1 x2 : Value} {a : Addr} {len cap : Nat} {d : DataW H} {p : List MemPlace}
    (h : DataW.Trod enc Try.prog w 0 (fun _ => true) true 27 (.agg #[x0, x1, x2, .slice (some a) len cap]) d p) (hz : ∀ n ∈ d.weights Try.prog 27, n ≤ reachBytes) : cap * 56 ≤ reachBytes := by
  obtain ⟨fs, f1, hu, hf1, ht1, ho1⟩ := scriptFields
  obtain ⟨fuel, hf⟩ := h
  obtain ⟨xs, m, _, hx, _, hlen, hfd⟩ := DataW.trod_struct hu hf
  have h1 := hfd 1 f1 hf1
  have hd : d = .agg (xs.map (·.1)) := by injection hx
  rw [ht1, ho1, show Try.prog.cellsOf 25 = 1 by kernel_rfl] at h1
  have h2 : (((Value.agg #[x0, x1, x2, .slice (some a) len cap]).cells.toList.drop 3).take 1) = [.slice (some a) len cap] := rfl
  rw [h2] at h1
  cases hx1 : xs[1]? with
  | none =>
    have h3 : 1 < fs.size := (Array.getElem?_eq_some_iff.1 hf1).1
    rw [List.getElem?_eq_none_iff] at hx1
    omega
  | some y =>
    rw [hx1] at h1
    rcases open_slice uEL h1 with ⟨e, _⟩ | ⟨a', len', cap', mm, k, D, Pl, e, _, c1, c2, c3, hy, _⟩
    · cases e
    · simp only [List.cons.injEq, Value.slice.injEq, Option.some.injEq, and_true] at e
      obtain ⟨_, rfl, rfl⟩ := e
      simp only [if_true] at c3
      subst c3
      have hmem : (len + (mm - len)) * 56 ∈ d.weights Try.prog 27 := by
        rw [hd]
        unfold DataW.weights
        rw [hu]
        refine DataW.weights_mem_each (j := 1) (t := 25) (d := y.1) ?_ ?_ _ ?_
        · rw [List.getElem?_map, Array.getElem?_toList, hf1]; simp [ht1]
        · rw [List.getElem?_map, hx1]; rfl
        · rw [hy]
          unfold DataW.weights
          rw [uEL]
          simp only [List.length_map, List.length_range, List.mem_cons]
          exact .inl (by rw [show Try.prog.bytesOf 43 = 56 by kernel_rfl])
      have := hz _ hmem
      rwa [show len + (mm - len) = mm by omega] at this
end Go.Proofs.Ytaammkmnhhipgaa
