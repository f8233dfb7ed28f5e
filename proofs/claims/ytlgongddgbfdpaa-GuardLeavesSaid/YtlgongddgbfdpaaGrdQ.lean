/- Layer 7: words of GuardLeaves. -/
import Derived.Test.YtlgongddgbfdpaaGrdM
namespace Go.Proofs.Ytlgongddgbfdpaa
open Go.RowKit Go.Maps WordM EdgeM
set_option linter.unusedVariables false
set_option linter.unusedSimpArgs false
theorem edge_val {j : Nat} {x : Int} (hj : j < 250) (hx : 0 ≤ x ∧ x < 1125899906842624) : makeI ((j : Int) + 1) x = ((j : Int) + 1) + 4096 * x := by
  unfold makeI; rw [slotI_of (by omega) (by omega)]; omega
theorem edgeN_at {n j : Nat} {G : Nat → Int} (hj : j < n) : edgeN n G ((j : Int) + 1) = makeI ((j : Int) + 1) (G j) := by
  unfold edgeN; rw [if_pos ⟨by omega, by omega⟩, show ((j : Int) + 1).toNat - 1 = j by omega]
theorem leads_at {n j : Nat} {H : Nat → Bool} {G : Nat → Int} {e : Int} (hj : j < n) (h : e % 4096 = (j : Int) + 1) : leadsB n H G e = (H j && (G j == e / 4096 % 1125899906842624)) := by
  unfold leadsB
  rw [h, decide_eq_true ⟨by omega, by omega⟩, show ((j : Int) + 1).toNat - 1 = j by omega]
  rfl
theorem can_at {n j : Nat} {H : Nat → Bool} (hj : j < n) : canT n H ((j : Int) + 1) = !H j := by
  unfold canT
  rw [decide_eq_true ⟨by omega, by omega⟩, show ((j : Int) + 1).toNat - 1 = j by omega]
  rfl
theorem take_at {n j : Nat} {H : Nat → Bool} (hj : j < n) (h : H j = false) : takeH n H ((j : Int) + 1) = setB H j true := by
  unfold takeH
  rw [can_at hj, h, show ((j : Int) + 1).toNat - 1 = j by omega]
  rfl
theorem take_no {n j : Nat} {H : Nat → Bool} (hj : j < n) (h : H j = true) : takeH n H ((j : Int) + 1) = H := by
  unfold takeH
  rw [can_at hj, h]
  rfl
theorem drop_at {n j : Nat} {H : Nat → Bool} {G : Nat → Int} {e : Int} (hj : j < n) (h : e % 4096 = (j : Int) + 1) (hl : leadsB n H G e = true) : dropH n H G e = setB H j false ∧ dropG n H G e = updI G j ((G j + 1) % 1125899906842624) := by
  unfold dropH dropG
  rw [hl, h, show ((j : Int) + 1).toNat - 1 = j by omega]
  exact ⟨rfl, rfl⟩
theorem drop_no {n : Nat} {H : Nat → Bool} {G : Nat → Int} {e : Int} (hl : leadsB n H G e = false) : dropH n H G e = H ∧ dropG n H G e = G := by
  unfold dropH dropG
  rw [hl]
  exact ⟨rfl, rfl⟩
theorem setB_at (H : Nat → Bool) (j : Nat) (b : Bool) : setB H j b j = b := by unfold setB; rw [if_pos rfl]
theorem updI_at (G : Nat → Int) (j : Nat) (b : Int) : updI G j b j = b := by unfold updI; rw [if_pos rfl]
/-- All that is asked of a slot that is free: E its edge. -/
structure Lv (n j : Nat) (H : Nat → Bool) (G : Nat → Int) (E : Int) (H2 H3 H4 : Nat → Bool) (G3 : Nat → Int) : Prop where
  e0 : 0 ≤ E
  e1 : E < 4611686018427387904
  l0 : leadsB n H G E = false
  t1 : canT n H ((j : Int) + 1) = true
  t1h : takeH n H ((j : Int) + 1) = H2
  l1 : leadsB n H2 G E = true
  l2 : leadsB n H2 G (flaggedI E) = true
  l3 : leadsB n H2 G (taggedI E) = true
  h2 : cntB H2 n = cntB H n + 1
  t2 : canT n H2 ((j : Int) + 1) = false
  t2h : takeH n H2 ((j : Int) + 1) = H2
  d3h : dropH n H2 G (taggedI E) = H3
  d3g : dropG n H2 G (taggedI E) = G3
  l4 : leadsB n H3 G3 E = false
  d4h : dropH n H3 G3 E = H3
  d4g : dropG n H3 G3 E = G3
  h3 : cntB H3 n = cntB H n
  t3 : canT n H3 ((j : Int) + 1) = true
  t3h : takeH n H3 ((j : Int) + 1) = H4
  l5 : leadsB n H4 G3 E = false
theorem Lv.mk' {n j : Nat} {H : Nat → Bool} {G : Nat → Int} (hj : j < n) (hn : n ≤ 250) (hf : H j = false) (hG : 0 ≤ G j ∧ G j < 1125899906842624) :
    ∃ E H2 H3 H4 G3, edgeN n G ((j : Int) + 1) = E ∧ Lv n j H G E H2 H3 H4 G3 := by
  have hE : edgeN n G ((j : Int) + 1) = ((j : Int) + 1) + 4096 * G j := by rw [edgeN_at hj, edge_val (by omega) hG]
  generalize hx : G j = x at hE hG
  obtain ⟨E, hE2⟩ : ∃ E, E = ((j : Int) + 1) + 4096 * x := ⟨_, rfl⟩
  rw [← hE2] at hE
  have m0 : E % 4096 = (j : Int) + 1 := by omega
  have g0 : E / 4096 % 1125899906842624 = x := by omega
  have mf : flaggedI E % 4096 = (j : Int) + 1 := by unfold flaggedI; rw [if_neg (by omega)]; omega
  have gf : flaggedI E / 4096 % 1125899906842624 = x := by unfold flaggedI; rw [if_neg (by omega)]; omega
  have mt : taggedI E % 4096 = (j : Int) + 1 := by unfold taggedI; omega
  have gt : taggedI E / 4096 % 1125899906842624 = x := by unfold taggedI; omega
  have l3 : leadsB n (setB H j true) G (taggedI E) = true := by rw [leads_at hj mt, setB_at, hx, gt]; simp
  have hd := drop_at hj mt l3
  rw [hx] at hd
  have l4 : leadsB n (setB (setB H j true) j false) (updI G j ((x + 1) % 1125899906842624)) E = false := by rw [leads_at hj m0, setB_at]; rfl
  have c2 : cntB (setB H j true) n = cntB H n + 1 := by have := cntB_set H j true n hj; rw [hf] at this; simpa using this
  have c3 : cntB (setB (setB H j true) j false) n = cntB H n := by have := cntB_set (setB H j true) j false n hj; rw [setB_at, c2] at this; simp at this; omega
  refine ⟨E, setB H j true, setB (setB H j true) j false, setB (setB (setB H j true) j false) j true, updI G j ((x + 1) % 1125899906842624), hE, ?_⟩
  exact {
    e0 := by omega
    e1 := by omega
    l0 := by rw [leads_at hj m0, hf]; rfl
    t1 := by rw [can_at hj, hf]; rfl
    t1h := take_at hj hf
    l1 := by rw [leads_at hj m0, setB_at, hx, g0]; simp
    l2 := by rw [leads_at hj mf, setB_at, hx, gf]; simp
    l3 := l3
    h2 := c2
    t2 := by rw [can_at hj, setB_at]; rfl
    t2h := take_no hj (setB_at _ _ _)
    d3h := hd.1
    d3g := hd.2
    l4 := l4
    d4h := (drop_no l4).1
    d4g := (drop_no l4).2
    h3 := c3
    t3 := by rw [can_at hj, setB_at]; rfl
    t3h := take_at hj (setB_at _ _ _)
    l5 := by rw [leads_at hj m0, setB_at, updI_at, g0]; simp; omega }
end Go.Proofs.Ytlgongddgbfdpaa
