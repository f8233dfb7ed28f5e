/- Layer 36: rows of turns of the reference, and rows of such rows. -/
import Derived.Test.YtminbfingjbbbaaXplG
namespace Go.Proofs.Ytminbfingjbbbaa
open Go.RowKit
set_option linter.unusedVariables false
set_option linter.unusedSimpArgs false
theorem uRL : Try.prog.underlying 32 = some (.slice 40) := by kernel_rfl
theorem infoR : (Try.prog.info? 40).map (fun i => (i.zero, i.size, i.bytes)) = some (some (.agg #[.int .i64 0, .int .i64 0]), 2, 16) := by kernel_rfl
abbrev OwnR (w : World) (B : Nat) (v : Value) (l : PL) : Prop := w.ownsRow B 40 2 v l.length (pcells l)
theorem ownR_PR {w : World} {B : Nat} {v : Value} {l : PL} (h : OwnR w B v l) : PR w v l := by
  rcases h.2 with ⟨rfl, h0⟩ | ⟨g, cap, cur, hv, hg, hh, hc, hm, hs, ht⟩
  · have e : l = [] := List.eq_nil_of_length_eq_zero h0
    subst e; exact .nil
  · subst hv
    refine .row g 0 cap l hc hm fun i hi => ?_
    obtain ⟨g0, g1⟩ := pcells_get l i hi
    have hl := pcells_len l
    rw [← ht, List.getElem?_take_of_lt (by omega)] at g0 g1
    refine ⟨?_, ?_⟩
    · rw [cell_of_row _ g _ _ _ (0, 0) hh]; simpa using g0
    · rw [cell_of_row _ g _ _ _ (0, 0) hh]; simpa using g1
theorem ownR_none (w : World) : OwnR (w.alloc (.cells #[] 40)) w.heap.size (.slice (some ⟨w.heap.size, 0, none⟩) 0 0) [] :=
  ⟨rfl, .inr ⟨_, 0, _, rfl, Nat.le_refl _, heap_alloc_new w _, Nat.le_refl _, by decide, rfl, rfl⟩⟩
theorem ownR_nil (w : World) (B : Nat) : OwnR w B (.slice none 0 0) [] := ⟨rfl, .inl ⟨rfl, rfl⟩⟩
theorem growR {W w0 w1 : World} {B : Nat} {v : Value} {l : PL} (hown : OwnR w0 B v l) (hbel : Below B W w0) (hB : B ≤ W.heap.size) (hg : w0.grownBy w1 v.ownBlock) : Below B W w1 :=
  hbel.grown hg (by have := hbel.size; omega) (own_ge hown)
theorem wpList_append_r {w : World} {ops : Array Oper} {rest : List Oper} {o : Oper} {a : Act} {Q : Exit → Act → World → Prop} (hgd : o.guard = none) (s x : Operand)
    (ho : o.op = .call { callee := .builtin .append, args := #[s, x], argTypes := #[32, 32] })
    (B : Nat) (v : Value) (l : PL) (hs : a.eval s = v) (hown : OwnR w B v l) (src : Value) (k : PL) (hx : a.eval x = src) (hp : PR w src k) (hlen : l.length + k.length ≤ 1000000) (hB : B ≤ w.heap.size)
    (h : ∀ v' w', OwnR w' B v' (l ++ k) → w.grownBy w' v.ownBlock → wpList Try.prog ops Q rest (a.put o.dst v') w') : wpList Try.prog ops Q (o :: rest) a w := by
  obtain ⟨i0, hi, hz0, hz1, hz2⟩ := info_parts infoR
  cases hp with
  | nil => exact wpList_append_own_none hgd s x 32 ho B 40 i0 2 uRL hi v l.length (pcells l) hs hown hx (h v w (by simpa [OwnR] using hown) ⟨rfl, rfl, rfl, Nat.le_refl _, fun _ _ _ => rfl⟩)
  | odd ad c hc0 =>
    refine wpList_append_own _ hgd s x 32 ho B 40 i0 _ 2 16 uRL hi hz0 hz1 hz2 rfl (by decide) v l.length (pcells l) hs hown ad 0 c [] hx rfl (by simp) (by simp) (by unfold maxLen; omega) (by omega) hB ?_
    intro v' w' h4 h5 _
    exact h v' w' (by simpa [OwnR] using h4) h5
  | row g of c _ h1 h2 h3 =>
    refine wpList_append_own _ hgd s x 32 ho B 40 i0 _ 2 16 uRL hi hz0 hz1 hz2 rfl (by decide) v l.length (pcells l) hs hown ⟨g, of, none⟩ k.length c (pcells k) hx (pcells_len k) (PR_news h3) (pcells_one' k) (by unfold maxLen; omega) (by omega) hB ?_
    intro v' w' h4 h5 _
    exact h v' w' (by unfold OwnR; rw [List.length_append, pcells_app]; exact h4) h5


theorem ownR_slice {w : World} {B : Nat} {v : Value} {l : PL} (h : OwnR w B v l) : ∃ p c, v = .slice p l.length c := by
  rcases h.2 with ⟨rfl, h0⟩ | ⟨g, cap, cur, hv, _⟩
  · exact ⟨none, 0, by rw [h0]⟩
  · exact ⟨_, _, hv⟩
/-- A row of rows. -/
theorem uOL : Try.prog.underlying 25 = some (.slice 32) := by kernel_rfl
theorem infoO : (Try.prog.info? 32).map (fun i => (i.zero, i.size, i.bytes)) = some (some (.slice none 0 0), 1, 24) := by kernel_rfl
structure OwnO (w : World) (B : Nat) (v : Value) (L : List (PL × Value)) : Prop where
  own : w.ownsRow B 32 1 v L.length (L.map Prod.snd)
  rows : ∀ p ∈ L, OwnR w B p.2 p.1
theorem ownO_nil (w : World) (B : Nat) : OwnO w B (.slice none 0 0) [] := ⟨⟨rfl, .inl ⟨rfl, rfl⟩⟩, fun p hp => by cases hp⟩
theorem ownO_ge {w : World} {B : Nat} {v : Value} {L : List (PL × Value)} (h : OwnO w B v L) : ∀ k, v.ownBlock = some k → B ≤ k := by
  intro k hk
  rcases h.own.2 with ⟨rfl, _⟩ | ⟨g, cap, cur, rfl, hg, _⟩
  · cases hk
  · simp only [Value.ownBlock, Option.some.injEq] at hk; omega
theorem ownRO_ne {w : World} {B B' : Nat} {v v' : Value} {l : PL} {L' : List (PL × Value)} (h : OwnR w B v l) (h' : OwnO w B' v' L') : v.ownBlock = none ∨ v.ownBlock ≠ v'.ownBlock := by
  rcases h.2 with ⟨rfl, _⟩ | ⟨g, cap, cur, rfl, _, hh, _⟩
  · exact .inl rfl
  · rcases h'.own.2 with ⟨rfl, _⟩ | ⟨g', cap', cur', rfl, _, hh', _⟩
    · exact .inr (fun e => by cases e)
    · refine .inr fun e => ?_
      have e : some g = some g' := e
      injection e with e
      subst e
      rw [hh'] at hh
      injection hh with hh
      injection hh with _ h2
      revert h2
      decide
theorem OwnO.on {w w' : World} {B : Nat} {v : Value} {L : List (PL × Value)} (h : OwnO w B v L) (k : Below w.heap.size w w') : OwnO w' B v L :=
  ⟨World.ownsRow.kept h.own (grown_of_below k) (by cases v.ownBlock <;> simp), fun p hp => World.ownsRow.kept (h.rows p hp) (grown_of_below k) (by cases p.2.ownBlock <;> simp)⟩
theorem OwnO.mono {w : World} {B B' : Nat} {v : Value} {L : List (PL × Value)} (h : OwnO w B v L) (k : B' ≤ B) : OwnO w B' v L := by
  have up : ∀ {T : TypeId} {z : Nat} {v : Value} {n : Nat} {xs : List Value}, w.ownsRow B T z v n xs → w.ownsRow B' T z v n xs := fun h => by
    refine ⟨h.1, ?_⟩
    rcases h.2 with h1 | ⟨g, cap, cur, hv, hb, h2⟩
    · exact .inl h1
    · exact .inr ⟨g, cap, cur, hv, Nat.le_trans k hb, h2⟩
  exact ⟨up h.own, fun p hp => up (h.rows p hp)⟩
theorem ownO_lt {w : World} {B : Nat} {v : Value} {L : List (PL × Value)} (h : OwnO w B v L) : ∀ k, v.ownBlock = some k → k < w.heap.size := by
  intro k hk
  rcases h.own.2 with ⟨rfl, _⟩ | ⟨g, cap, cur, rfl, hg, hh, _⟩
  · cases hk
  · simp only [Value.ownBlock, Option.some.injEq] at hk
    subst hk
    exact (Array.getElem?_eq_some_iff.1 hh).1
theorem ownO_slice {w : World} {B : Nat} {v : Value} {L : List (PL × Value)} (h : OwnO w B v L) : ∃ p c, v = .slice p L.length c := by
  rcases h.own.2 with ⟨rfl, h0⟩ | ⟨g, cap, cur, hv, _⟩
  · exact ⟨none, 0, by rw [h0]⟩
  · exact ⟨_, _, hv⟩
/-- A row of it. -/
theorem ownO_cell {w : World} {B m c : Nat} {q : Option Addr} {L : List (PL × Value)} (h : OwnO w B (.slice q m c) L) {j : Nat} {u : PL × Value} (hj : L[j]? = some u) : ∃ g, q = some ⟨g, 0, none⟩ ∧ w.cell? ⟨g, j, none⟩ = some u.2 := by
  have hi : j < L.length := (List.getElem?_eq_some_iff.1 hj).1
  rcases h.own.2 with ⟨h1, h2⟩ | ⟨g, cap, cur, hv, hb, hh, hc, hm, hs, ht⟩
  · omega
  · simp only [Value.slice.injEq] at hv
    refine ⟨g, hv.1, ?_⟩
    have g0 : (L.map Prod.snd)[j]? = some u.2 := by rw [List.getElem?_map, hj]; rfl
    rw [← ht, List.getElem?_take_of_lt (by omega)] at g0
    rw [cell_of_row _ g _ _ _ (0, 0) hh]
    simpa using g0
/-- Out stays where next grows. -/
theorem OwnO.apart {w w' : World} {B B2 : Nat} {v v2 : Value} {L L2 : List (PL × Value)} (h : OwnO w B v L) (h2 : OwnO w B2 v2 L2) (hlt : ∀ k, v.ownBlock = some k → k < B2) (hg : w.grownBy w' v2.ownBlock) : OwnO w' B v L := by
  refine ⟨World.ownsRow.kept h.own hg ?_, fun p hp => World.ownsRow.kept (h.rows p hp) hg (ownRO_ne (h.rows p hp) h2)⟩
  cases hv : v.ownBlock with
  | none => exact .inl rfl
  | some k =>
    refine .inr fun e => ?_
    have h3 := ownO_ge h2 k e.symm
    have h4 := hlt k hv
    omega
/-- A row more. -/
theorem wpList_append_o1 {w : World} {ops : Array Oper} {rest : List Oper} {o : Oper} {a : Act} {Q : Exit → Act → World → Prop} (hgd : o.guard = none) (s x : Operand)
    (ho : o.op = .call { callee := .builtin .append, args := #[s, x], argTypes := #[25, 25] })
    (B : Nat) (v : Value) (L : List (PL × Value)) (l : PL) (rp : Option Addr) (rn rc g c : Nat) (hs : a.eval s = v) (hown : OwnO w B v L) (hr : OwnR w B (.slice rp rn rc) l) (hx : a.eval x = .slice (some ⟨g, 0, none⟩) 1 c) (hc : w.cell? ⟨g, 0, none⟩ = some (.slice rp rn rc)) (hn : L.length ≤ 100000000) (hB : B ≤ w.heap.size)
    (h : ∀ v' w', OwnO w' B v' (L ++ [(l, .slice rp rn rc)]) → w.grownBy w' v.ownBlock → wpList Try.prog ops Q rest (a.put o.dst v') w') : wpList Try.prog ops Q (o :: rest) a w := by
  obtain ⟨i0, hi, hz0, hz1, hz2⟩ := info_parts infoO
  refine wpList_append_own _ hgd s x 25 ho B 32 i0 _ 1 24 uOL hi hz0 hz1 hz2 rfl (by decide) v L.length (L.map Prod.snd) hs hown.own ⟨g, 0, none⟩ 1 c [.slice rp rn rc] hx rfl ?_ ?_ (by unfold maxLen; omega) (by omega) hB ?_
  · intro j u hu
    have : j = 0 := by have := (List.getElem?_eq_some_iff.1 hu).1; simpa using this
    subst this
    simp at hu; subst hu
    simpa [Addr.add] using hc
  · intro u hu; simp at hu; subst hu; rfl
  · intro v' w' h5 h6 _
    refine h v' w' ⟨?_, fun p hp => ?_⟩ h6
    · rw [List.map_append, List.length_append]; exact h5
    · rcases List.mem_append.1 hp with hp | hp
      · exact World.ownsRow.kept (hown.rows p hp) h6 (ownRO_ne (hown.rows p hp) hown)
      · rw [List.mem_singleton.1 hp]
        exact World.ownsRow.kept hr h6 (ownRO_ne hr hown)
end Go.Proofs.Ytminbfingjbbbaa
