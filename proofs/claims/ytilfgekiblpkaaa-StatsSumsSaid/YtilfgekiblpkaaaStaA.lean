/- Layer 38: what is told of opers. -/
import Derived.Test.YtilfgekiblpkaaaHisQ
import Derived.Test.YtilfgekiblpkaaaHisR
import Derived.Test.YtilfgekiblpkaaaHisU
import Derived.Test.YtilfgekiblpkaaaHisN
import Derived.RangeFuncNested
import Derived.Deep.RegionLaw
import Derived.Deep.AppendLies
namespace Go.Proofs.Ytilfgekiblpkaaa
open Go.RowKit
set_option linter.unusedVariables false
set_option linter.unusedSimpArgs false
theorem stO_ps {L : Nat → Ev} {n B : Nat} (h : ∀ i, i < n → (L i).an.ps.length ≤ B) : ∀ i, i ≤ n → ∀ x ∈ (stO L i).1, x.an.ps.length ≤ B
  | 0, _, x, hx => by simp [stO] at hx
  | i + 1, hi, x, hx => by
    have ih := stO_ps h i (by omega)
    rw [stO] at hx
    split at hx
    · simp only at hx
      rcases List.mem_or_eq_of_mem_set hx with hx | rfl
      · exact ih x hx
      · exact h i (by omega)
    · simp only [List.mem_append, List.mem_singleton] at hx
      rcases hx with hx | rfl
      · exact ih x hx
      · exact Nat.zero_le _
theorem own_partsP {w w0 : World} {B : Nat} {v : Value} {l : List (Opr × Value)} {O : List Opr} (h : OwnO w B v l) (hp : ∀ x ∈ l, PR w0 x.2 x.1.an.ps) (hl : l.map (·.1) = O) :
    ∃ p c, v = .slice p O.length c ∧ O.length ≤ c ∧ c ≤ 9223372036854775807 ∧ Hid (0 < O.length → ∃ g, p = some ⟨g, 0, none⟩ ∧ ∀ (i : Nat) (x : Opr), O[i]? = some x → ∃ u, OpC w g (i * 13) x u ∧ PR w0 u x.an.ps) := by
  have hlen : O.length = l.length := by rw [← hl, List.length_map]
  rcases own_sliceO h with ⟨rfl, rfl⟩ | ⟨g, c, rfl, h1, h2, _⟩
  · refine ⟨none, 0, by rw [hlen]; rfl, by rw [hlen]; exact Nat.le_refl _, by decide, fun h0 => by rw [hlen] at h0; simp at h0⟩
  · refine ⟨_, c, by rw [hlen], by omega, h2, fun _ => ⟨g, rfl, fun i x hx => ?_⟩⟩
    rw [← hl, List.getElem?_map] at hx
    cases h3 : l[i]? with
    | none => rw [h3] at hx; cases hx
    | some y =>
      rw [h3] at hx
      simp only [Option.map_some, Option.some.injEq] at hx
      subst hx
      exact ⟨y.2, own_OpC h i y.1 y.2 h3, hp y (List.mem_of_getElem? h3)⟩
theorem allO_len (L : Nat → Ev) (n : Nat) : (allO L n).length ≤ n := by
  unfold allO; split
  · exact stO_len L n
  · simp
theorem allO_ps {L : Nat → Ev} {n B : Nat} (h : ∀ i, i < n → (L i).an.ps.length ≤ B) : ∀ x ∈ allO L n, x.an.ps.length ≤ B := by
  unfold allO; split
  · exact stO_ps h n (Nat.le_refl _)
  · simp
theorem R13.below {w w' : World} {q : Nat} {x : Opr} {v : Value} (h : R13 w q x v) (k : Below w.heap.size w w') : R13 w' q x v := (k.block _ (Array.getElem?_eq_some_iff.1 h).1).trans h
theorem R13.np {w : World} {q : Nat} {x : Opr} {v : Value} (h : R13 w q x v) (i1 i2 i3 i4 i5 : Nat) (v1 v2 v3 v4 v5 : Value) : NP w (((((w.setCell ⟨q, i1, none⟩ v1).setCell ⟨q, i2, none⟩ v2).setCell ⟨q, i3, none⟩ v3).setCell ⟨q, i4, none⟩ v4).setCell ⟨q, i5, none⟩ v5) :=
  ⟨by simp, fun k cur hk => by
    have hne : k ≠ q := by
      intro e
      subst e
      rw [show w.heap[k]? = _ from h] at hk
      simp only [Option.some.injEq, Obj.cells.injEq] at hk
      exact absurd hk.2.1 (by decide)
    rw [Below.heap_setCell _ _ _ _ hne, Below.heap_setCell _ _ _ _ hne, Below.heap_setCell _ _ _ _ hne, Below.heap_setCell _ _ _ _ hne, Below.heap_setCell _ _ _ _ hne]
    exact hk⟩
theorem ropersA (n : Nat) (L : Nat → Ev) (v : Value) (w : World) (h : VR w v n L) (hn : n ≤ 1000) : Calls Try.prog 9 #[v] w fun e w' => ∃ (v' : Value) (l : List (Opr × Value)), e = .returned v' ∧ l.map (·.1) = allO L n ∧ OwnO w' w.heap.size v' l ∧ (∀ x ∈ l, PR w x.2 x.1.an.ps) ∧ Below w.heap.size w w' := by
  cases hm : mayH L n with
  | true =>
    refine (ropers n L v w h hn hm).mono ?_
    rintro _ w' ⟨v', l, rfl, h1, h2⟩
    exact ⟨v', l, rfl, by unfold allO; rw [hm]; exact h1, h2⟩
  | false =>
    refine (ropers0 n L v w h hn hm).mono ?_
    rintro _ w' ⟨rfl, hb⟩
    exact ⟨_, [], rfl, by unfold allO; rw [hm]; rfl, ⟨rfl, .inl ⟨rfl, rfl⟩⟩, by simp, hb⟩
theorem qSeq (fid : FuncId) (caps : Array Value) : ∀ w : World, (binOp BinOp.eql 43 (.func (.func fid) #[] caps) .nilFunc).run Try.prog w = .ok (.bool false) w := fun _ => by kernel_rfl
/-- A boxed row of opers gets one more, at a step of a region that draws. -/
theorem step_append_ob {ops : Array Oper} {o : Oper} {a : Act} {w : World} {K : Act → World → Prop} {Q : Exit → Act → World → Prop} {E : Prop} (hgd : o.guard = none) (s x : Operand)
    (ho : o.op = .call { callee := .builtin .append, args := #[s, x], argTypes := #[33, 33] })
    (B : Nat) (v : Value) (l : List (Opr × Value)) (e : Opr × Value) (hs : a.eval s = v) (hown : OwnO w B v l) (ad : Addr) (c : Nat) (hx : a.eval x = .slice (some ad) 1 c) (hc : ∀ j u, (ocells e.1 e.2)[j]? = some u → w.cell? (ad.add j) = some u) (h1 : e.2.oneCell' = true) (hlen : l.length ≤ 1000000) (hB : B ≤ w.heap.size)
    (bx : Nat) (T : TypeId) (hbx : Boxed w bx T v) (hT : T ≠ 41)
    (h : ∀ g cap w', OwnO w' B (.slice (some ⟨g, 0, none⟩) (l.length + 1) cap) (l ++ [e]) → w.grownBy w' v.ownBlock → Boxed w' bx T v → w'.cell? ⟨bx, 0, none⟩ = some v → w'.frozen? ⟨bx, 0, none⟩ = false → K (a.put o.dst (.slice (some ⟨g, 0, none⟩) (l.length + 1) cap)) w') :
    if Region.wanted o (yielded ops a.tmps) = true then Oper.wp Try.prog o a w K Q else E := by
  obtain ⟨i0, z, hi, hz0, hzs, hz1, hz2⟩ := info_opr
  refine step_append_lies w hgd s x 33 ho B 41 i0 z 13 120 uOL hi hz0 hz1 hz2 hzs (by decide) v l.length (ocs l) hs hown ad 1 c (ocells e.1 e.2) hx rfl hc ?_ (by decide) (by unfold maxLen; omega) (by omega) hB _ rfl ?_
  · intro u hu
    simp only [ocells, cacells, ancells, List.mem_cons, List.mem_append, List.not_mem_nil, or_false] at hu
    rcases hu with rfl | ((rfl | rfl | rfl | rfl | rfl) | ((rfl | rfl | rfl | rfl | rfl) | (rfl | rfl))) <;> first | rfl | exact h1
  · intro g cap w' h4 h5 _ _
    have hb : Boxed w' bx T v := hbx.kept h5 (hbx.not_row hT hown)
    refine h g cap w' ?_ h5 hb hb.cell hb.frozen
    unfold OwnO
    rw [List.length_append, ocs_app]
    have e1 : ocs [e] = ocells e.1 e.2 := by simp [ocs]
    rw [e1]
    exact h4

def opO (op : Int) (O : List Opr) : List Opr := O.filter fun x => decide (x.ca.op = op)
theorem opO_succ (op : Int) (O : List Opr) (i : Nat) (x : Opr) (hx : O[i]? = some x) : opO op (O.take (i + 1)) = opO op (O.take i) ++ (if x.ca.op = op then [x] else []) := by
  rw [List.take_add_one, hx]
  unfold opO
  rw [List.filter_append]
  by_cases h : x.ca.op = op <;> simp [h]
theorem opO_take_len (op : Int) (O : List Opr) (i : Nat) : (opO op (O.take i)).length ≤ i := by
  unfold opO
  exact Nat.le_trans (List.length_filter_le _ _) (by rw [List.length_take]; omega)
theorem opO_len (op : Int) (O : List Opr) (i : Nat) : (opO op (O.take i)).length ≤ (opO op O).length := by
  have h : opO op O = opO op (O.take i) ++ opO op (O.drop i) := by
    unfold opO; rw [← List.filter_append, List.take_append_drop]
  rw [h, List.length_append]; omega
theorem opO_at (op : Int) (O : List Opr) (i : Nat) (x : Opr) (hx : O[i]? = some x) (h : x.ca.op = op) : (opO op O)[(opO op (O.take i)).length]? = some x := by
  obtain ⟨hlt, he⟩ := List.getElem?_eq_some_iff.1 hx
  have e : O = O.take i ++ (x :: O.drop (i + 1)) := by rw [← he, List.getElem_cons_drop, List.take_append_drop]
  have e2 : opO op O = opO op (O.take i) ++ (x :: opO op (O.drop (i + 1))) := by
    unfold opO
    conv => lhs; rw [e]
    rw [List.filter_append, List.filter_cons_of_pos (by simpa using h)]
  rw [e2, List.getElem?_append_right (Nat.le_refl _), Nat.sub_self]
  rfl
abbrev Told := Opr × Option Addr × Nat
def tv (x : Told) : Value := .agg #[.int .i64 x.1.th, .int .i64 x.1.ca.op, .int .i64 x.1.ca.key, .int .i64 x.1.ca.val, .int .i64 x.1.ca.hi, .int .i64 x.1.ca.lim, .int .i64 x.1.an.kind, .int .i64 x.1.an.key, .int .i64 x.1.an.val, .int .i64 x.1.an.n, .slice x.2.1 x.1.an.ps.length x.2.2, .int .i64 x.1.fr, .int .i64 x.1.to]
end Go.Proofs.Ytilfgekiblpkaaa
