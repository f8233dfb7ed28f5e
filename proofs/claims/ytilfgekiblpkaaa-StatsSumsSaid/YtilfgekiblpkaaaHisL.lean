/- Layer 11: which event answers a call, as the reference looks for it. -/
import Derived.Test.YtilfgekiblpkaaaHisF
namespace Go.Proofs.Ytilfgekiblpkaaa
open Go.RowKit
set_option linter.unusedVariables false
set_option linter.unusedSimpArgs false
theorem last_to {L : Nat → Ev} {n : Nat} (hm : mayH L n = true) : ∀ i, i ≤ n → ∀ t : Int, 0 ≤ t → inF L i t = true → ∀ x, (stO L i).1[(stO L i).2 t.toNat]? = some x → x.to = -1
  | 0, _, t, _, h => by simp [inF] at h
  | i + 1, hi, t, ht, h => by
    have ih := last_to hm i (by omega)
    obtain ⟨h1, h2, h3⟩ := mayH_at hm (by omega : i < n)
    have I := oinv hm i (by omega)
    intro x hx
    rw [inF] at h
    cases hb : (L i).bk with
    | true =>
      rw [hb] at h h3
      split at h
      · simp at h
      · rename_i hne
        rw [stO, if_pos hb] at hx
        simp only at hx
        obtain ⟨x1, hx1, hxt, _⟩ := I.d t ht h
        obtain ⟨x0, hx0, hx0t, _⟩ := I.d (L i).th h1 h3.symm
        have hne2 : (stO L i).2 (L i).th.toNat ≠ (stO L i).2 t.toNat := by
          intro e
          rw [e, hx1] at hx0
          have := Option.some.inj hx0
          subst this
          exact hne (hxt.symm.trans hx0t)
        rw [List.getElem?_set_ne hne2] at hx
        exact ih t ht h x hx
    | false =>
      rw [stO, if_neg (by rw [hb]; simp)] at hx
      simp only at hx
      by_cases he : t = (L i).th
      · subst he
        rw [if_pos rfl] at hx
        simp at hx
        rw [← hx]
      · rw [if_neg he] at h
        rw [if_neg (by omega)] at hx
        obtain ⟨x1, hx1, _⟩ := I.d t ht h
        rw [List.getElem?_append_left (List.getElem?_eq_some_iff.1 hx1).1] at hx
        exact ih t ht h x hx
/-- The least event behind k, ahead of m, that answers thread t. -/
def Fst (L : Nat → Ev) (t : Int) (k m : Nat) (an : An) (to : Int) : Prop :=
  (to = -1 ∧ an = an0 ∧ ∀ j, k < j → j < m → ¬ ((L j).th = t ∧ (L j).bk = true)) ∨
  ∃ K : Nat, to = K ∧ k < K ∧ K < m ∧ an = (L K).an ∧ ((L K).th = t ∧ (L K).bk = true) ∧ ∀ j, k < j → j < K → ¬ ((L j).th = t ∧ (L j).bk = true)
theorem Fst.uniq {L : Nat → Ev} {t : Int} {k m : Nat} {a b : An} {x y : Int} (h : Fst L t k m a x) (g : Fst L t k m b y) : a = b ∧ x = y := by
  rcases h with ⟨rfl, rfl, h⟩ | ⟨K, rfl, h1, h2, rfl, h3, h4⟩ <;> rcases g with ⟨rfl, rfl, g⟩ | ⟨J, rfl, g1, g2, rfl, g3, g4⟩
  · exact ⟨rfl, rfl⟩
  · exact (h J g1 g2 g3).elim
  · exact (g K h1 h2 h3).elim
  · rcases (by omega : K < J ∨ J < K ∨ K = J) with e | e | rfl
    · exact (g4 K h1 e h3).elim
    · exact (h4 J g1 e g3).elim
    · exact ⟨rfl, rfl⟩
theorem oref {L : Nat → Ev} {n : Nat} (hm : mayH L n = true) : ∀ m, m ≤ n → ∀ i, i < m → (L i).bk = false → ∃ x, (stO L m).1[(stO L i).1.length]? = some x ∧ x.fr = i ∧ x.th = (L i).th ∧ x.ca = (L i).ca ∧ Fst L (L i).th i m x.an x.to
  | 0, _, i, hi, _ => by omega
  | m + 1, hmn, i, hi, hb => by
    have ih := oref hm m (by omega)
    have I := oinv hm m (by omega)
    obtain ⟨h1, h2, h3⟩ := mayH_at hm (by omega : m < n)
    cases hbm : (L m).bk with
    | true =>
      rw [hbm] at h3
      obtain ⟨x0, hx0, hx0t, hx0l⟩ := I.d (L m).th h1 h3.symm
      have hto := last_to hm m (by omega) (L m).th h1 h3.symm x0 hx0
      have him : i < m := by
        rcases (by omega : i < m ∨ i = m) with h | rfl
        · exact h
        · rw [hb] at hbm; cases hbm
      obtain ⟨x, hx, hf, ht, hc, hF⟩ := ih i him hb
      have hs : (stO L (m + 1)).1 = (stO L m).1.set ((stO L m).2 (L m).th.toNat) { x0 with an := (L m).an, to := (m : Int) } := by
        rw [stO, if_pos hbm]
        simp only
        rw [List.getD_eq_getElem?_getD, hx0]; rfl
      rw [hs]
      by_cases hd : (stO L m).2 (L m).th.toNat = (stO L i).1.length
      · rw [hd] at hx0
        have e := Option.some.inj (hx0.symm.trans hx)
        subst e
        refine ⟨{ x0 with an := (L m).an, to := (m : Int) }, by rw [hd, List.getElem?_set_self (List.getElem?_eq_some_iff.1 hx0).1], hf, ht, hc, ?_⟩
        rcases hF with ⟨_, _, h⟩ | ⟨K, hK, _⟩
        · exact .inr ⟨m, rfl, him, by omega, rfl, ⟨by rw [← hx0t, ht], hbm⟩, h⟩
        · rw [hto] at hK; omega
      · refine ⟨x, by rw [List.getElem?_set_ne hd]; exact hx, hf, ht, hc, ?_⟩
        rcases hF with ⟨e1, e2, h⟩ | ⟨K, hK, k1, k2, k3⟩
        · refine .inl ⟨e1, e2, fun j hj1 hj2 => ?_⟩
          rcases (by omega : j < m ∨ j = m) with hj | rfl
          · exact h j hj1 hj
          · rintro ⟨he, _⟩
            have hle := hx0l _ x hx (by rw [ht, he])
            have := (I.c _ _ x x0 (by omega) hx hx0 (by rw [ht, hx0t, he])).1
            omega
        · exact .inr ⟨K, hK, k1, by omega, k3⟩
    | false =>
      have hs : (stO L (m + 1)).1 = (stO L m).1 ++ [⟨(L m).th, (L m).ca, an0, (m : Int), -1⟩] := by
        rw [stO, if_neg (by rw [hbm]; simp)]
      rw [hs]
      rcases (by omega : i < m ∨ i = m) with him | rfl
      · obtain ⟨x, hx, hf, ht, hc, hF⟩ := ih i him hb
        refine ⟨x, by rw [List.getElem?_append_left (List.getElem?_eq_some_iff.1 hx).1]; exact hx, hf, ht, hc, ?_⟩
        rcases hF with ⟨e1, e2, h⟩ | ⟨K, hK, k1, k2, k3⟩
        · refine .inl ⟨e1, e2, fun j hj1 hj2 => ?_⟩
          rcases (by omega : j < m ∨ j = m) with hj | rfl
          · exact h j hj1 hj
          · rintro ⟨_, he⟩; rw [hbm] at he; cases he
        · exact .inr ⟨K, hK, k1, by omega, k3⟩
      · exact ⟨⟨(L i).th, (L i).ca, an0, (i : Int), -1⟩, by simp, rfl, rfl, rfl, .inl ⟨rfl, rfl, fun j h1 h2 => by omega⟩⟩
/-- One step of the scan, from behind. -/
theorem Fst.start (L : Nat → Ev) (t : Int) (n : Nat) : Fst L t (n - 1) n an0 (-1) := .inl ⟨rfl, rfl, fun j h1 h2 => by omega⟩
theorem Fst.hit {L : Nat → Ev} {t : Int} {k n : Nat} {an : An} {to : Int} (h : Fst L t (k + 1) n an to) (hk : k + 1 < n) (hm : (L (k + 1)).th = t ∧ (L (k + 1)).bk = true) : Fst L t k n (L (k + 1)).an ((k + 1 : Nat) : Int) :=
  .inr ⟨k + 1, rfl, by omega, hk, rfl, hm, fun j h1 h2 => by omega⟩
theorem Fst.miss {L : Nat → Ev} {t : Int} {k n : Nat} {an : An} {to : Int} (h : Fst L t (k + 1) n an to) (hm : ¬ ((L (k + 1)).th = t ∧ (L (k + 1)).bk = true)) : Fst L t k n an to := by
  rcases h with ⟨e1, e2, h⟩ | ⟨K, hK, k1, k2, k3, k4, k5⟩
  · refine .inl ⟨e1, e2, fun j h1 h2 => ?_⟩
    rcases (by omega : j = k + 1 ∨ k + 1 < j) with rfl | hj
    · exact hm
    · exact h j hj h2
  · refine .inr ⟨K, hK, by omega, k2, k3, k4, fun j h1 h2 => ?_⟩
    rcases (by omega : j = k + 1 ∨ k + 1 < j) with rfl | hj
    · exact hm
    · exact k5 j hj h2
end Go.Proofs.Ytilfgekiblpkaaa
