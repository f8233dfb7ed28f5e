/- Layer 35, reading: an own row of pairs grows by one. -/
import Derived.Test.YtdgplijnhkgeiaaDoorRtxN
namespace Go.Proofs.YtdgplijnhkgeiaaDoor
open Go.RowKit
open Go.Lib (cut itoa)
set_option linter.unusedVariables false
set_option linter.unusedSimpArgs false
theorem uPLr : Tryd.prog.underlying 31 = some (.slice 51) := by kernel_rfl
theorem infoPairr : (Tryd.prog.info? 51).map (fun i => (i.zero, i.size, i.bytes)) = some (some (.agg #[.int .i64 0, .int .i64 0]), 2, 16) := by kernel_rfl
abbrev OwnQ (w : World) (B : Nat) (v : Value) (l : PL) : Prop := w.ownsRow B 51 2 v l.length (pcells l)
theorem ownQ_PR {w : World} {B : Nat} {v : Value} {l : PL} (h : OwnQ w B v l) : PR w v l := by
  rcases h.2 with ⟨rfl, h0⟩ | ⟨g, cap, cur, hv, hg, hh, hc, hm, hs, ht⟩
  · have e : l = [] := List.eq_nil_of_length_eq_zero h0
    subst e; exact .nil
  · subst hv
    refine .row g 0 cap l hc hm fun i hi => ?_
    obtain ⟨g0, g1⟩ := pcells_get l i hi
    have hl := pcells_len l
    rw [← ht, List.getElem?_take_of_lt (by omega)] at g0 g1
    refine ⟨?_, ?_⟩
    · rw [cell_of_row _ g _ _ _ (0, 0) hh]; simpa using g0
    · rw [cell_of_row _ g _ _ _ (0, 0) hh]; simpa using g1
theorem ownQ_nil (w : World) (B : Nat) : OwnQ w B (.slice none 0 0) [] := ⟨rfl, .inl ⟨rfl, rfl⟩⟩
theorem ownQ_ge {w : World} {B : Nat} {v : Value} {l : PL} (h : OwnQ w B v l) : ∀ k, v.ownBlock = some k → B ≤ k := by
  intro k hk
  rcases h.2 with ⟨rfl, _⟩ | ⟨g, cap, cur, rfl, hg, _⟩
  · cases hk
  · simp only [Value.ownBlock, Option.some.injEq] at hk; omega
theorem ownQ_slice {w : World} {B : Nat} {v : Value} {l : PL} (h : OwnQ w B v l) : ∃ p c, v = .slice p l.length c := by
  rcases h.2 with ⟨rfl, h0⟩ | ⟨g, cap, cur, hv, _⟩
  · exact ⟨none, 0, by rw [h0]⟩
  · exact ⟨_, _, hv⟩
theorem wp_append_q1 {w : World} {o : Oper} {a : Act} {K : Act → World → Prop} {Q : Exit → Act → World → Prop} (s x : Operand)
    (ho : o.op = .call { callee := .builtin .append, args := #[s, x], argTypes := #[31, 31] })
    (B : Nat) (v : Value) (l : PL) (p : Int × Int) (g c : Nat) (hs : a.eval s = v) (hown : OwnQ w B v l) (hx : a.eval x = .slice (some ⟨g, 0, none⟩) 1 c) (hc0 : w.cell? ⟨g, 0, none⟩ = some (.int .i64 p.1)) (hc1 : w.cell? ⟨g, 1, none⟩ = some (.int .i64 p.2)) (hn : l.length ≤ 100000) (hB : B ≤ w.heap.size)
    (h : ∀ v' w', OwnQ w' B v' (l ++ [p]) → w.grownBy w' v.ownBlock → K (a.put o.dst v') w') : o.wp Tryd.prog a w K Q := by
  obtain ⟨i0, hi, hz0, hz1, hz2⟩ := info_parts infoPairr
  refine wp_append_own w s x 31 ho B 51 i0 _ 2 16 uPLr hi hz0 hz1 hz2 rfl (by decide) v l.length (pcells l) hs hown ⟨g, 0, none⟩ 1 c [.int .i64 p.1, .int .i64 p.2] hx rfl ?_ ?_ (by unfold maxLen; omega) (by omega) hB ?_
  · intro j u hu
    have hj := (List.getElem?_eq_some_iff.1 hu).1
    rcases (by simpa using hj : j < 2) |> fun h => (by omega : j = 0 ∨ j = 1) with rfl | rfl
    · simp at hu; subst hu; simpa [Addr.add] using hc0
    · simp at hu; subst hu; simpa [Addr.add] using hc1
  · intro u hu
    simp at hu
    rcases hu with rfl | rfl <;> rfl
  · intro v' w' h4 h5 _
    refine h v' w' ?_ h5
    unfold OwnQ
    rw [List.length_append, pcells_app]
    exact h4
theorem ownQ_mono {w : World} {B B' : Nat} {v : Value} {l : PL} (h : OwnQ w B v l) (k : B' ≤ B) : OwnQ w B' v l := by
  refine ⟨h.1, ?_⟩
  rcases h.2 with h1 | ⟨g, cap, cur, hv, hb, h2⟩
  · exact .inl h1
  · exact .inr ⟨g, cap, cur, hv, Nat.le_trans k hb, h2⟩
/-- An answer that is returned, with its pairs' row. -/
def AnsE (B : Nat) (r : Except Int An) (e : Ending) (w' : World) : Prop :=
  match r with
  | .ok a => ∃ v, e = .returned (.agg (ancells a v).toArray) ∧ OwnQ w' B v a.ps
  | .error y => e = wrP y
end Go.Proofs.YtdgplijnhkgeiaaDoor
