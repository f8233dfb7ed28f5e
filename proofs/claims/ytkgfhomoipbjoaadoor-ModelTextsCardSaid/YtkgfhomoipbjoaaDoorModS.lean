/- Layer 10: a state of the program's as the reference's. -/
import Derived.Test.YtkgfhomoipbjoaaDoorModR
import Derived.Deep.RegionLaw
import Derived.Deep.AppendLies
namespace Go.Proofs.YtkgfhomoipbjoaaDoor
open Go.RowKit
set_option linter.unusedVariables false
set_option linter.unusedSimpArgs false
/-- Sessions under way, in a row of their own. -/
def GrX (w : World) (B : Nat) (v : Value) (n : Nat) (L : Nat → Se) (fv : Nat → Value) : Prop :=
  w.ownsRow B 53 4 v n ((List.range (n * 4)).map (cell4 L fv))
theorem GrX.slice {w : World} {B : Nat} {v : Value} {n : Nat} {L : Nat → Se} {fv : Nat → Value} (h : GrX w B v n L fv) : ∃ p c, v = .slice p n c := by
  rcases h.2 with ⟨rfl, hn⟩ | ⟨g, cap, cur, rfl, _⟩
  · subst hn; exact ⟨_, _, rfl⟩
  · exact ⟨_, _, rfl⟩
theorem GrX.own {w : World} {B : Nat} {v : Value} {n : Nat} {L : Nat → Se} {fv : Nat → Value} (h : GrX w B v n L fv) (hp : ∀ i, i < n → PO w (fv i) (L i).fz) : OwnT 53 w B v n L fv := by
  rcases h.2 with ⟨rfl, hn⟩ | ⟨g, cap, cur, rfl, hg, hh, hc, hm, hs2, ht⟩
  · exact ⟨hp, .inl ⟨hn, .inl rfl⟩⟩
  · exact ⟨hp, .inr ⟨g, cap, rfl, hc, hm, hg, cur, hh, ht⟩⟩
theorem GrX.below {w w' : World} {B : Nat} {v : Value} {n : Nat} {L : Nat → Se} {fv : Nat → Value} (h : GrX w B v n L fv) (k : Below w.heap.size w w') : GrX w' B v n L fv := by
  rcases h.2 with hn | ⟨g, cap, cur, rfl, hg, hh, rest⟩
  · exact ⟨h.1, .inl hn⟩
  · exact ⟨h.1, .inr ⟨g, cap, cur, rfl, hg, (k.block _ (Array.getElem?_eq_some_iff.1 hh).1).trans hh, rest⟩⟩
theorem c4_succ (L : Nat → Se) (fv : Nat → Value) (i : Nat) (x : Value) : (List.range (i * 4)).map (cell4 L fv) ++ [.bool (L i).j, .bool (L i).o, x, .int .i64 (L i).pt] = (List.range ((i + 1) * 4)).map (cell4 L (updW fv i x)) := by
  have e : (i + 1) * 4 = i * 4 + 1 + 1 + 1 + 1 := by omega
  rw [e, List.range_succ, List.range_succ, List.range_succ, List.range_succ]
  simp only [List.map_append, List.map_cons, List.map_nil, List.append_assoc, List.cons_append, List.nil_append]
  congr 1
  · apply List.map_congr_left
    intro j hj
    rw [List.mem_range] at hj
    rw [← cell4_updW, if_neg (by omega)]
  · rw [cell4_0, cell4_1, cell4_2, cell4_3]
    unfold updW
    rw [if_pos rfl]
/-- A session more, at a step of a region that draws. -/
theorem step_append_x {ops : Array Oper} {o : Oper} {a : Act} {w : World} {K : Act → World → Prop} {Q : Exit → Act → World → Prop} {E : Prop} (hgd : o.guard = none) (s x : Operand)
    (ho : o.op = .call { callee := .builtin .append, args := #[s, x], argTypes := #[29, 29] })
    (B : Nat) (v : Value) (n : Nat) (L : Nat → Se) (fv : Nat → Value) (p : Option Addr) (m c2 : Nat) (hs : a.eval s = v) (hown : GrX w B v n L fv) (ad : Addr) (c : Nat) (hx : a.eval x = .slice (some ad) 1 c)
    (hc : ∀ j u, ([.bool (L n).j, .bool (L n).o, .slice p m c2, .int .i64 (L n).pt] : List Value)[j]? = some u → w.cell? (ad.add j) = some u) (hlen : n ≤ 1000) (hB : B ≤ w.heap.size)
    (R : Nat) (mv : Value) (hR : w.heap[R]? = some (.cells #[mv, v] 31 (0, 0))) (hRB : R < B)
    (h : ∀ g cap w', GrX w' B (.slice (some ⟨g, 0, none⟩) (n + 1) cap) (n + 1) L (updW fv n (.slice p m c2)) → w.grownBy w' v.ownBlock → w'.heap[R]? = some (.cells #[mv, v] 31 (0, 0)) → w'.cell? ⟨R, 0, none⟩ = some mv → w'.cell? ⟨R, 1, none⟩ = some v → (∀ i, w'.frozen? ⟨R, i, none⟩ = false) → K (a.put o.dst (.slice (some ⟨g, 0, none⟩) (n + 1) cap)) w') :
    if Region.wanted o (yielded ops a.tmps) = true then Oper.wp Tryd.prog o a w K Q else E := by
  obtain ⟨i0, hi, hz0, hz1, hz2⟩ := info_parts infoX
  refine step_append_lies w hgd s x 29 ho B 53 i0 _ 4 40 uXs hi hz0 hz1 hz2 rfl (by decide) v n _ hs hown ad 1 c [.bool (L n).j, .bool (L n).o, .slice p m c2, .int .i64 (L n).pt] hx rfl hc ?_ (by decide) (by unfold maxLen; omega) (by omega) hB _ rfl ?_
  · intro u hu
    simp only [List.mem_cons, List.not_mem_nil, or_false] at hu
    rcases hu with rfl | rfl | rfl | rfl <;> rfl
  · intro g cap w' h4 h5 _ _
    have hR' : w'.heap[R]? = some (.cells #[mv, v] 31 (0, 0)) := (h5.block R (Array.getElem?_eq_some_iff.1 hR).1 (fun e => by
      have := (World.ownsRow.lt hown) R e.symm
      omega)).trans hR
    refine h g cap w' ?_ h5 hR' (by rw [cell_of_row _ _ _ _ _ (0, 0) hR']; rfl) (by rw [cell_of_row _ _ _ _ _ (0, 0) hR']; rfl) (fun i => frozen_of_row _ _ _ _ _ hR')
    unfold GrX
    rw [← c4_succ]
    exact h4
theorem grx_next {U wr W w2 : World} {B R : Nat} {mv v v' : Value} {n m : Nat} {L : Nat → Se} {fv fv' : Nat → Value} (hown : GrX w2 B v' m L fv') (hRB : R < B) (hr2 : w2.heap[R]? = some (.cells #[mv, v] 31 (0, 0))) (hold : GrX wr B v n L fv) (_ : R < B) (hk : KX [R] U wr) (hW : Below wr.heap.size wr W) (hg : W.grownBy w2 v.ownBlock) (hB : B = U.heap.size) :
    GrX (w2.setCell ⟨R, 1, none⟩ v') B v' m L fv' ∧ (w2.setCell ⟨R, 1, none⟩ v').heap[R]? = some (.cells #[mv, v'] 31 (0, 0)) ∧ KX [R] U (w2.setCell ⟨R, 1, none⟩ v') := by
  refine ⟨?_, ?_, ?_⟩
  · rcases hown.2 with hn | ⟨g, cap, cur, rfl, hg, hh, rest⟩
    · exact ⟨hown.1, .inl hn⟩
    · exact ⟨hown.1, .inr ⟨g, cap, cur, rfl, hg, (Below.heap_setCell _ _ _ _ (by show g ≠ R; omega)).trans hh, rest⟩⟩
  · rw [heap_setCell_same _ R 1 _ _ _ hr2]; rfl
  · have hs : U.heap.size ≤ wr.heap.size := hk.size
    refine ⟨hg.os.trans (hW.os.trans hk.os), hg.tape.trans (hW.tape.trans hk.tape), hg.output.trans (hW.output.trans hk.output), ?_, fun k hk2 hx => ?_⟩
    · have := hW.size; have := hg.size; simp; omega
    · simp only [List.mem_singleton] at hx
      rw [Below.heap_setCell _ _ _ _ (by show k ≠ R; exact hx), hg.block k (by have := hW.size; omega) (fun e => by have := (World.ownsRow.lt hold) k e.symm; omega), hW.block k (by omega), hk.block k hk2 (by simpa using hx)]
theorem heap3 (w : World) (a b c : Obj) : let U := ((w.alloc a).alloc b).alloc c
    U.heap[w.heap.size]? = some a ∧ U.heap[w.heap.size + 1]? = some b ∧ U.heap[w.heap.size + 1 + 1]? = some c ∧ U.heap.size = w.heap.size + 3 := by
  intro U
  have s1 : (w.alloc a).heap.size = w.heap.size + 1 := by simp
  have s2 : ((w.alloc a).alloc b).heap.size = w.heap.size + 1 + 1 := by simp
  have n0 := heap_alloc_new w a
  have n1 := heap_alloc_new (w.alloc a) b
  have n2 := heap_alloc_new ((w.alloc a).alloc b) c
  rw [s1] at n1; rw [s2] at n2
  have k : ∀ (W : World) (o : Obj) (j : Nat), j < W.heap.size → (W.alloc o).heap[j]? = W.heap[j]? := fun W o j hj => Below.heap_alloc _ _ _ hj
  refine ⟨?_, ?_, n2, by simp [U]⟩
  · rw [k _ _ _ (by omega), k _ _ _ (by omega)]; exact n0
  · rw [k _ _ _ (by omega)]; exact n1
end Go.Proofs.YtkgfhomoipbjoaaDoor
