/- Layer 7: the reference's slots in a row of their own; a copy. -/
import Derived.Test.YtkkdehniheajeaaGrdG
import Derived.Laws.AppendOwn
import Derived.Laws.AppendOwnNone
import Derived.OwnWalk
namespace Go.Proofs.Ytkkdehniheajeaa.Gd
open Go.RowKit Go.Maps WordM EdgeM
set_option linter.unusedVariables false
set_option linter.unusedSimpArgs false
theorem uSS : Try.prog.underlying 47 = some (.slice 145) := by kernel_rfl
def cell2 (H : Nat → Bool) (G : Nat → Int) (j : Nat) : Value := if j % 2 = 0 then .bool (H (j / 2)) else .int .u64 (G (j / 2))
def cS2 (H : Nat → Bool) (G : Nat → Int) (n : Nat) : List Value := (List.range (n * 2)).map (cell2 H G)
theorem cS2_len (H : Nat → Bool) (G : Nat → Int) (n : Nat) : (cS2 H G n).length = n * 2 := by simp [cS2]
theorem cS2_get {H : Nat → Bool} {G : Nat → Int} {n j : Nat} (h : j < n * 2) : (cS2 H G n)[j]? = some (cell2 H G j) := by simp [cS2, List.getElem?_range h]
theorem cS2_set (H : Nat → Bool) (G : Nat → Int) {n i : Nat} (h : i < n) (b : Bool) : (cS2 H G n).set (i * 2) (.bool b) = cS2 (setB H i b) G n := by
  apply List.ext_getElem?
  intro j
  rw [List.getElem?_set]
  by_cases hj : j < n * 2
  · rw [cS2_get hj, cS2_get hj]
    by_cases e : i * 2 = j
    · rw [if_pos e, if_pos (by rw [cS2_len]; omega)]
      unfold cell2 setB
      rw [if_pos (by omega), if_pos (by omega)]
    · rw [if_neg e]
      unfold cell2
      split
      · unfold setB; rw [if_neg (by omega)]
      · rfl
  · have h5 : ∀ H G, (cS2 H G n)[j]? = none := fun H G => by rw [List.getElem?_eq_none (by rw [cS2_len]; omega)]
    rw [h5, h5, if_neg (by omega)]
theorem cS2_setG (H : Nat → Bool) (G : Nat → Int) {n i : Nat} (h : i < n) (v : Int) : (cS2 H G n).set (i * 2 + 1) (.int .u64 v) = cS2 H (updI G i v) n := by
  apply List.ext_getElem?
  intro j
  rw [List.getElem?_set]
  by_cases hj : j < n * 2
  · rw [cS2_get hj, cS2_get hj]
    by_cases e : i * 2 + 1 = j
    · rw [if_pos e, if_pos (by rw [cS2_len]; omega)]
      unfold cell2 updI
      rw [if_neg (by omega), if_pos (by omega)]
    · rw [if_neg e]
      unfold cell2
      split
      · rfl
      · unfold updI; rw [if_neg (by omega)]
  · have h5 : ∀ H G, (cS2 H G n)[j]? = none := fun H G => by rw [List.getElem?_eq_none (by rw [cS2_len]; omega)]
    rw [h5, h5, if_neg (by omega)]
/-- The slots lie in a block of their own. -/
def SB (w : World) (b n : Nat) (H : Nat → Bool) (G : Nat → Int) : Prop := ∃ cur, w.heap[b]? = some (.cells cur 145 (0, 0)) ∧ cur.toList.take (n * 2) = cS2 H G n
theorem SB.cellAt {w : World} {b n : Nat} {H : Nat → Bool} {G : Nat → Int} (h : SB w b n H G) {j : Nat} (hj : j < n * 2) : w.cell? ⟨b, j, none⟩ = some (cell2 H G j) := by
  obtain ⟨cur, h1, h2⟩ := h
  have h3 := cS2_get (H := H) (G := G) hj
  rw [← h2, List.getElem?_take_of_lt hj] at h3
  rw [cell_of_row _ _ _ _ _ (0, 0) h1]; simpa using h3
theorem SB.read {w : World} {b n : Nat} {H : Nat → Bool} {G : Nat → Int} (h : SB w b n H G) : SR w b n H G := fun i hi => by
  have h0 := h.cellAt (j := i * 2) (by omega)
  have h1 := h.cellAt (j := i * 2 + 1) (by omega)
  unfold cell2 at h0 h1
  rw [if_pos (by omega), show i * 2 / 2 = i by omega] at h0
  rw [if_neg (by omega), show (i * 2 + 1) / 2 = i by omega] at h1
  exact ⟨h0, h1⟩
theorem SB.free {w : World} {b n : Nat} {H : Nat → Bool} {G : Nat → Int} (h : SB w b n H G) (j : Nat) : w.frozen? ⟨b, j, none⟩ = false := by
  obtain ⟨cur, h1, h2⟩ := h
  exact frozen_of_row _ _ _ _ _ h1
theorem SB.lt {w : World} {b n : Nat} {H : Nat → Bool} {G : Nat → Int} (h : SB w b n H G) : b < w.heap.size := by
  obtain ⟨cur, h1, h2⟩ := h
  exact (Array.getElem?_eq_some_iff.1 h1).1
theorem SB.setH {w : World} {b n : Nat} {H : Nat → Bool} {G : Nat → Int} (h : SB w b n H G) {i : Nat} (hi : i < n) (x : Bool) : SB (w.setCell ⟨b, i * 2, none⟩ (.bool x)) b n (setB H i x) G := by
  obtain ⟨cur, h1, h2⟩ := h
  refine ⟨_, heap_setCell_same w b (i * 2) _ _ _ h1, ?_⟩
  rw [← cS2_set H G hi x, ← h2]
  simp [List.take_set]
theorem SB.setG {w : World} {b n : Nat} {H : Nat → Bool} {G : Nat → Int} (h : SB w b n H G) {i : Nat} (hi : i < n) (x : Int) : SB (w.setCell ⟨b, i * 2 + 1, none⟩ (.int .u64 x)) b n H (updI G i x) := by
  obtain ⟨cur, h1, h2⟩ := h
  refine ⟨_, heap_setCell_same w b (i * 2 + 1) _ _ _ h1, ?_⟩
  rw [← cS2_setG H G hi x, ← h2]
  simp [List.take_set]
theorem cS2_one (H : Nat → Bool) (G : Nat → Int) (n : Nat) : ∀ u ∈ cS2 H G n, u.oneCell' = true := by
  intro v hv
  simp only [cS2, List.mem_map] at hv
  obtain ⟨j, _, rfl⟩ := hv
  unfold cell2; split <;> rfl
theorem SR_news {w : World} {b n : Nat} {H : Nat → Bool} {G : Nat → Int} (h : SR w b n H G) (j : Nat) (u : Value) (hu : (cS2 H G n)[j]? = some u) : w.cell? ((⟨b, 0, none⟩ : Addr).add j) = some u := by
  have hj : j < n * 2 := by have := (List.getElem?_eq_some_iff.1 hu).1; rwa [cS2_len] at this
  rw [cS2_get hj] at hu
  cases hu
  rw [show ((⟨b, 0, none⟩ : Addr).add j) = ⟨b, j, none⟩ by simp only [Addr.add]; split <;> simp_all]
  obtain ⟨h0, h1⟩ := h (j / 2) (by omega)
  unfold cell2
  split
  · rw [show j = j / 2 * 2 by omega, h0, show j / 2 * 2 / 2 = j / 2 by omega]
  · rw [show j = j / 2 * 2 + 1 by omega, h1, show (j / 2 * 2 + 1) / 2 = j / 2 by omega]
theorem wpList_append_s {w : World} {ops : Array Oper} {rest : List Oper} {o : Oper} {a : Act} {Q : Exit → Act → World → Prop} (hgd : o.guard = none) (s x : Operand)
    (ho : o.op = .call { callee := .builtin .append, args := #[s, x], argTypes := #[47, 47] })
    (W : World) (hW : w = W.alloc (.cells #[] 145)) (hs : a.eval s = .slice (some ⟨W.heap.size, 0, none⟩) 0 0) (b n c : Nat) (H : Nat → Bool) (G : Nat → Int) (hx : a.eval x = .slice (some ⟨b, 0, none⟩) n c) (hp : SR w b n H G) (hn : n ≤ 250) (h0 : 0 < n)
    (h : ∀ b' c' w', SB w' b' n H G → n ≤ c' → c' ≤ 9223372036854775807 → W.heap.size ≤ b' → Below W.heap.size W w' → wpList Try.prog ops Q rest (a.put o.dst (.slice (some ⟨b', 0, none⟩) n c')) w') : wpList Try.prog ops Q (o :: rest) a w := by
  obtain ⟨i0, hi, hz0, hz1, hz2⟩ := info_parts infoSl
  subst hW
  have hown : (W.alloc (.cells #[] 145)).ownsRow W.heap.size 145 2 (.slice (some ⟨W.heap.size, 0, none⟩) 0 0) 0 [] := ⟨rfl, .inr ⟨_, 0, _, rfl, Nat.le_refl _, heap_alloc_new W _, Nat.le_refl _, by decide, rfl, rfl⟩⟩
  refine wpList_append_own _ hgd s x 47 ho W.heap.size 145 i0 _ 2 16 uSS hi hz0 hz1 hz2 rfl (by decide) _ 0 [] hs hown ⟨b, 0, none⟩ n c (cS2 H G n) hx (cS2_len H G n) (SR_news hp) (cS2_one H G n) (by unfold maxLen; omega) (by omega) (by simp) ?_
  intro v' w' h4 h5 _
  have hb : Below W.heap.size W w' := ((Below.refl _ _).alloc (Nat.le_refl _) _).grown h5 (by simp) (fun k e => by simp only [Value.ownBlock, Option.some.injEq] at e; omega)
  rcases h4.2 with ⟨rfl, h6⟩ | ⟨g, cap, cur, rfl, hg, hh, hc, hm, hs2, ht⟩
  · omega
  · simp only [Nat.zero_add, List.nil_append] at *
    exact h g cap w' ⟨cur, hh, ht⟩ hc hm hg hb
end Go.Proofs.Ytkkdehniheajeaa.Gd
