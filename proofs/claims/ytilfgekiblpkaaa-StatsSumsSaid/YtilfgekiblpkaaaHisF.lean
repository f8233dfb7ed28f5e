/- Layer 11: what the opers of a history are, as lists. -/
import Derived.Test.YtilfgekiblpkaaaHisD
namespace Go.Proofs.Ytilfgekiblpkaaa
open Go.RowKit
set_option linter.unusedVariables false
set_option linter.unusedSimpArgs false
structure OInv (L : Nat → Ev) (i : Nat) : Prop where
  a : ∀ (k : Nat) (x : Opr), (stO L i).1[k]? = some x → 0 ≤ x.fr ∧ x.fr < i ∧ (x.to = -1 ∨ (x.fr < x.to ∧ x.to < i))
  b : ∀ (k j : Nat) (x y : Opr), k < j → (stO L i).1[k]? = some x → (stO L i).1[j]? = some y → x.fr < y.fr
  c : ∀ (k j : Nat) (x y : Opr), k < j → (stO L i).1[k]? = some x → (stO L i).1[j]? = some y → x.th = y.th → 0 ≤ x.to ∧ x.to < y.fr
  d : ∀ t : Int, 0 ≤ t → inF L i t = true → ∃ x, (stO L i).1[(stO L i).2 t.toNat]? = some x ∧ x.th = t ∧ ∀ (j : Nat) (y : Opr), (stO L i).1[j]? = some y → y.th = t → j ≤ (stO L i).2 t.toNat
  e : ∀ t : Int, 0 ≤ t → inF L i t = false → ∀ (j : Nat) (y : Opr), (stO L i).1[j]? = some y → y.th = t → 0 ≤ y.to
theorem oinv {L : Nat → Ev} {n : Nat} (hm : mayH L n = true) : ∀ i, i ≤ n → OInv L i
  | 0, _ => by
    have h0 : ∀ (k : Nat) (x : Opr), (stO L 0).1[k]? = some x → False := fun k x h => by simp [stO] at h
    exact ⟨fun k x h => (h0 k x h).elim, fun k j x y _ h => (h0 k x h).elim, fun k j x y _ h => (h0 k x h).elim, fun t _ h => by simp [inF] at h, fun t _ _ j y h => (h0 j y h).elim⟩
  | i + 1, hi => by
    have I := oinv hm i (by omega)
    obtain ⟨h1, h2, h3⟩ := mayH_at hm (by omega : i < n)
    obtain ⟨Ia, Ib, Ic, Id, Ie⟩ := I
    have hin : ∀ t, inF L (i + 1) t = if t = (L i).th then !(L i).bk else inF L i t := fun t => rfl
    generalize hO : (stO L i).1 = O at *
    generalize hl : (stO L i).2 = last at *
    generalize hth : (L i).th = th at *
    cases hb : (L i).bk with
    | true =>
      rw [hb] at h3
      obtain ⟨x0, hx0, hx1, hx2⟩ := Id th h1 h3.symm
      have hs1 : (stO L (i + 1)).1 = O.set (last th.toNat) { x0 with an := (L i).an, to := (i : Int) } := by
        rw [stO, if_pos hb]
        simp only [hO, hl, hth]
        rw [List.getD_eq_getElem?_getD, hx0]; rfl
      have hs2 : (stO L (i + 1)).2 = last := by rw [stO, if_pos hb]; exact hl
      generalize last th.toNat = d at *
      have hget : ∀ (k : Nat) (x : Opr), (O.set d { x0 with an := (L i).an, to := (i : Int) })[k]? = some x → (k = d ∧ x = { x0 with an := (L i).an, to := (i : Int) }) ∨ (k ≠ d ∧ O[k]? = some x) := by
        intro k x h
        by_cases hk : d = k
        · subst hk
          rw [List.getElem?_set_self (List.getElem?_eq_some_iff.1 hx0).1] at h
          exact .inl ⟨rfl, (Option.some.inj h).symm⟩
        · rw [List.getElem?_set_ne hk] at h
          exact .inr ⟨fun e => hk e.symm, h⟩
      refine ⟨?_, ?_, ?_, ?_, ?_⟩
      · intro k x h
        rw [hs1] at h
        rcases hget k x h with ⟨rfl, rfl⟩ | ⟨_, h⟩
        · obtain ⟨q1, q2, q3⟩ := Ia _ _ hx0
          simp only; omega
        · obtain ⟨q1, q2, q3⟩ := Ia _ _ h; omega
      · intro k j x y hkj hx hy
        rw [hs1] at hx hy
        rcases hget k x hx with ⟨rfl, rfl⟩ | ⟨_, hx'⟩ <;> rcases hget j y hy with ⟨rfl, rfl⟩ | ⟨_, hy'⟩
        · omega
        · exact Ib _ _ x0 y hkj hx0 hy'
        · exact Ib _ _ x x0 hkj hx' hx0
        · exact Ib _ _ x y hkj hx' hy'
      · intro k j x y hkj hx hy ht
        rw [hs1] at hx hy
        rcases hget k x hx with ⟨rfl, rfl⟩ | ⟨_, hx'⟩ <;> rcases hget j y hy with ⟨rfl, rfl⟩ | ⟨_, hy'⟩
        · omega
        · have := hx2 j y hy' (ht.symm.trans hx1); omega
        · exact Ic _ _ x x0 hkj hx' hx0 ht
        · exact Ic _ _ x y hkj hx' hy' ht
      · intro t ht hit
        rw [hin] at hit
        split at hit
        · rw [hb] at hit; simp at hit
        · rename_i hne
          obtain ⟨x, hx, hxt, hxl⟩ := Id t ht hit
          have hdn : last t.toNat ≠ d := by
            intro e; rw [e, hx0] at hx
            have := Option.some.inj hx; subst this; exact hne (hxt.symm.trans hx1)
          rw [hs1, hs2]
          refine ⟨x, by rw [List.getElem?_set_ne (fun e => hdn e.symm)]; exact hx, hxt, ?_⟩
          intro j y hy hyt
          rcases hget j y hy with ⟨rfl, rfl⟩ | ⟨_, hy⟩
          · exact (hne (hyt.symm.trans hx1)).elim
          · exact hxl j y hy hyt
      · intro t ht hit j y hy hyt
        rw [hs1] at hy
        rcases hget j y hy with ⟨rfl, rfl⟩ | ⟨hjd, hy⟩
        · simp only; omega
        · rw [hin] at hit
          split at hit
          · rename_i he
            have hle := hx2 j y hy (hyt.trans he)
            exact (Ic j d y x0 (by omega) hy hx0 (by rw [hyt, he, hx1])).1
          · exact Ie t ht hit j y hy hyt
    | false =>
      rw [hb] at h3
      have hs1 : (stO L (i + 1)).1 = O ++ [⟨th, (L i).ca, an0, (i : Int), -1⟩] := by
        rw [stO, if_neg (by rw [hb]; simp)]
        simp only [hO, hth]
      have hs2 : (stO L (i + 1)).2 = fun t => if t = th.toNat then O.length else last t := by
        rw [stO, if_neg (by rw [hb]; simp)]
        simp only [hO, hl, hth]
      have hget : ∀ (k : Nat) (x : Opr), (O ++ [(⟨th, (L i).ca, an0, (i : Int), -1⟩ : Opr)])[k]? = some x → (k = O.length ∧ x = ⟨th, (L i).ca, an0, (i : Int), -1⟩) ∨ (k < O.length ∧ O[k]? = some x) := by
        intro k x h
        rcases (by omega : k < O.length ∨ k = O.length ∨ O.length < k) with hk | rfl | hk
        · rw [List.getElem?_append_left hk] at h; exact .inr ⟨hk, h⟩
        · simp at h; exact .inl ⟨rfl, h.symm⟩
        · rw [List.getElem?_eq_none (by simp; omega)] at h; cases h
      refine ⟨?_, ?_, ?_, ?_, ?_⟩
      · intro k x h
        rw [hs1] at h
        rcases hget k x h with ⟨rfl, rfl⟩ | ⟨_, h⟩
        · exact ⟨by simp only; omega, by simp only; omega, .inl rfl⟩
        · obtain ⟨q1, q2, q3⟩ := Ia _ _ h; omega
      · intro k j x y hkj hx hy
        rw [hs1] at hx hy
        rcases hget k x hx with ⟨rfl, rfl⟩ | ⟨hk, hx⟩ <;> rcases hget j y hy with ⟨rfl, rfl⟩ | ⟨hj, hy⟩
        · omega
        · omega
        · exact (Ia _ _ hx).2.1
        · exact Ib _ _ x y hkj hx hy
      · intro k j x y hkj hx hy ht
        rw [hs1] at hx hy
        rcases hget k x hx with ⟨rfl, rfl⟩ | ⟨hk, hx⟩ <;> rcases hget j y hy with ⟨rfl, rfl⟩ | ⟨hj, hy⟩
        · omega
        · omega
        · have h4 := Ie th h1 h3.symm k x hx ht
          obtain ⟨q1, q2, q3⟩ := Ia _ _ hx
          simp only; omega
        · exact Ic _ _ x y hkj hx hy ht
      · intro t ht hit
        rw [hs1, hs2]
        simp only
        by_cases he : t = th
        · subst he
          rw [if_pos rfl]
          refine ⟨⟨t, (L i).ca, an0, (i : Int), -1⟩, by simp, rfl, ?_⟩
          intro j y hy _
          rcases hget j y hy with ⟨rfl, _⟩ | ⟨hj, _⟩ <;> omega
        · rw [hin, if_neg he] at hit
          rw [if_neg (by omega)]
          obtain ⟨x, hx, hxt, hxl⟩ := Id t ht hit
          refine ⟨x, by rw [List.getElem?_append_left (List.getElem?_eq_some_iff.1 hx).1]; exact hx, hxt, ?_⟩
          intro j y hy hyt
          rcases hget j y hy with ⟨rfl, rfl⟩ | ⟨hj, hy⟩
          · exact (he hyt.symm).elim
          · exact hxl j y hy hyt
      · intro t ht hit j y hy hyt
        rw [hs1] at hy
        rw [hin] at hit
        split at hit
        · rw [hb] at hit; simp at hit
        · rename_i hne
          rcases hget j y hy with ⟨rfl, rfl⟩ | ⟨hj, hy⟩
          · exact (hne hyt.symm).elim
          · exact Ie t ht hit j y hy hyt
theorem stO_cnt (L : Nat → Ev) (i : Nat) : (stO L (i + 1)).1.length = if (L i).bk then (stO L i).1.length else (stO L i).1.length + 1 := by
  rw [stO]
  split
  · simp only [List.length_set]
  · simp only [List.length_append, List.length_cons, List.length_nil]
end Go.Proofs.Ytilfgekiblpkaaa
