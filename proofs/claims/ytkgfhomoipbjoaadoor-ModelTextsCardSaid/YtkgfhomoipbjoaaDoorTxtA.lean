/- Layers 10, 35: numbers and pairs as text; two states of one text are the same (no program in it). -/
import Derived.Test.YtkgfhomoipbjoaaDoorModA
import Derived.Lib.ItoaLen
namespace Go.Proofs.YtkgfhomoipbjoaaDoor
open Go.RowKit
open Go.Lib (itoa decDigits)
set_option linter.unusedVariables false
set_option linter.unusedSimpArgs false
def dval (l : List UInt8) : Nat := l.foldl (fun a c => 10 * a + (c.toNat - 48)) 0
theorem dchar (u : Nat) (h : u < 10) : (UInt8.ofNat (48 + u)).toNat = 48 + u := by
  rw [UInt8.toNat_ofNat']; omega
theorem dval_dec (u : Nat) : dval (decDigits u) = u := by
  induction u using Nat.strongRecOn with
  | _ u ih =>
    rw [decDigits]
    split
    · rename_i h
      unfold dval
      rw [List.foldl_cons, List.foldl_nil, dchar u h]; omega
    · rename_i h
      have := ih (u / 10) (by omega)
      unfold dval at this ⊢
      rw [List.foldl_append, this, List.foldl_cons, List.foldl_nil, dchar (u % 10) (by omega)]; omega
theorem dec_chars (u : Nat) : ∀ c ∈ decDigits u, 48 ≤ c.toNat ∧ c.toNat ≤ 57 := by
  induction u using Nat.strongRecOn with
  | _ u ih =>
    rw [decDigits]
    split
    · rename_i h
      intro c hc
      rw [List.mem_singleton.1 hc, dchar u h]; omega
    · rename_i h
      intro c hc
      rcases List.mem_append.1 hc with hc | hc
      · exact ih (u / 10) (by omega) c hc
      · rw [List.mem_singleton.1 hc, dchar (u % 10) (by omega)]; omega
theorem itoa_chars (n : Int) : ∀ c ∈ itoa n, c = 45 ∨ (48 ≤ c.toNat ∧ c.toNat ≤ 57) := by
  intro c hc
  unfold itoa at hc
  split at hc
  · rcases List.mem_cons.1 hc with hc | hc
    · exact .inl hc
    · exact .inr (dec_chars _ c hc)
  · exact .inr (dec_chars _ c hc)
theorem itoa_inj {a b : Int} (h : itoa a = itoa b) : a = b := by
  unfold itoa at h
  split at h <;> split at h
  · have := congrArg dval (List.cons.inj h).2
    rw [dval_dec, dval_dec] at this; omega
  · exfalso
    have := dec_chars b.toNat 45 (by rw [← h]; exact List.mem_cons_self)
    have h2 : (45 : UInt8).toNat = 45 := by decide
    omega
  · exfalso
    have := dec_chars a.toNat 45 (by rw [h]; exact List.mem_cons_self)
    have h2 : (45 : UInt8).toNat = 45 := by decide
    omega
  · have := congrArg dval h
    rw [dval_dec, dval_dec] at this; omega
theorem itoa_no {n : Int} {d : UInt8} (h1 : d ≠ 45) (h2 : d.toNat < 48 ∨ 57 < d.toNat) : ∀ c ∈ itoa n, (c != d) = true := fun c hc => by
  rw [bne_iff_ne]
  rintro rfl
  rcases itoa_chars n c hc with h | h
  · exact h1 h
  · omega
/-- Two texts whose first parts have none of what the second ones begin with. -/
theorem sp {p : UInt8 → Bool} : ∀ {A B R S : List UInt8}, (∀ x ∈ A, p x = true) → (∀ x ∈ B, p x = true) → (∀ x, R.head? = some x → p x = false) → (∀ x, S.head? = some x → p x = false) → A ++ R = B ++ S → A = B ∧ R = S
  | [], [], _, _, _, _, _, _, h => ⟨rfl, h⟩
  | a :: A, [], R, S, hA, _, _, hS, h => by
    have h1 := hS a (by have h2 : a :: (A ++ R) = S := h; rw [← h2]; rfl)
    rw [hA a List.mem_cons_self] at h1; cases h1
  | [], b :: B, R, S, _, hB, hR, _, h => by
    have h1 := hR b (by have h2 : R = b :: (B ++ S) := h; rw [h2]; rfl)
    rw [hB b List.mem_cons_self] at h1; cases h1
  | a :: A, b :: B, R, S, hA, hB, hR, hS, h => by
    have h2 : a :: (A ++ R) = b :: (B ++ S) := h
    obtain ⟨e1, e2⟩ := List.cons.inj h2
    obtain ⟨e3, e4⟩ := sp (fun x hx => hA x (List.mem_cons_of_mem _ hx)) (fun x hx => hB x (List.mem_cons_of_mem _ hx)) hR hS e2
    exact ⟨by rw [e1, e3], e4⟩
theorem spc {d : UInt8} {A B R S : List UInt8} (hA : ∀ x ∈ A, (x != d) = true) (hB : ∀ x ∈ B, (x != d) = true) (h : A ++ d :: R = B ++ d :: S) : A = B ∧ R = S := by
  obtain ⟨e1, e2⟩ := sp (p := fun x => x != d) hA hB (fun x hx => by cases hx; simp) (fun x hx => by cases hx; simp) h
  exact ⟨e1, (List.cons.inj e2).2⟩
def pT (p : Int × Int) : List UInt8 := itoa p.1 ++ 58 :: (itoa p.2 ++ [44])
def wL (l : PL) : List UInt8 := l.flatMap pT
def bT (b : Bool) : List UInt8 := if b then [116, 114, 117, 101] else [102, 97, 108, 115, 101]
def sT (s : Se) : List UInt8 := 59 :: (bT s.j ++ 32 :: (bT s.o ++ 32 :: (itoa s.pt ++ 32 :: wL s.fz)))
def ssL (l : List Se) : List UInt8 := l.flatMap sT
def tS (st : Sm) : List UInt8 := wL st.mp ++ ssL ((List.range st.n).map st.th)
theorem bT_no (b : Bool) : ∀ c ∈ bT b, (c != 32) = true := by cases b <;> decide
theorem bT_inj {a b : Bool} (h : bT a = bT b) : a = b := by
  cases a <;> cases b <;> first | rfl | (exact absurd h (by decide))
theorem wL_no (l : PL) : ∀ c ∈ wL l, (c != 59) = true := by
  intro c hc
  obtain ⟨p, _, hp⟩ := List.mem_flatMap.1 hc
  unfold pT at hp
  rcases List.mem_append.1 hp with hp | hp
  · exact itoa_no (by decide) (.inr (by decide)) c hp
  · rcases List.mem_cons.1 hp with rfl | hp
    · decide
    · rcases List.mem_append.1 hp with hp | hp
      · exact itoa_no (by decide) (.inr (by decide)) c hp
      · rw [List.mem_singleton.1 hp]; decide
theorem wL_inj : ∀ {l m : PL}, wL l = wL m → l = m
  | [], [], _ => rfl
  | [], q :: m, h => by
    exfalso
    have := congrArg List.length h
    simp only [wL, List.flatMap_nil, List.flatMap_cons, List.length_nil, List.length_append, pT, List.length_cons] at this
    omega
  | q :: m, [], h => by
    exfalso
    have := congrArg List.length h
    simp only [wL, List.flatMap_nil, List.flatMap_cons, List.length_nil, List.length_append, pT, List.length_cons] at this
    omega
  | p :: l, q :: m, h => by
    have h1 : itoa p.1 ++ 58 :: (itoa p.2 ++ 44 :: wL l) = itoa q.1 ++ 58 :: (itoa q.2 ++ 44 :: wL m) := by
      have h2 : pT p ++ wL l = pT q ++ wL m := h
      unfold pT at h2
      simpa using h2
    obtain ⟨e1, e2⟩ := spc (itoa_no (by decide) (.inr (by decide))) (itoa_no (by decide) (.inr (by decide))) h1
    obtain ⟨e3, e4⟩ := spc (itoa_no (by decide) (.inl (by decide))) (itoa_no (by decide) (.inl (by decide))) e2
    rw [wL_inj e4, Prod.ext (itoa_inj e1) (itoa_inj e3)]
theorem ssL_hd (l : List Se) : ∀ x, (ssL l).head? = some x → (x != 59) = false := by
  cases l with
  | nil => intro x hx; cases hx
  | cons s r => intro x hx; cases hx; rfl
theorem ssL_inj : ∀ {l m : List Se}, ssL l = ssL m → l = m
  | [], [], _ => rfl
  | [], q :: m, h => by exact absurd h (by simp [ssL, sT])
  | q :: m, [], h => by exact absurd h (by simp [ssL, sT])
  | s :: l, t :: m, h => by
    have h1 : 59 :: (bT s.j ++ 32 :: (bT s.o ++ 32 :: (itoa s.pt ++ 32 :: (wL s.fz ++ ssL l)))) = 59 :: (bT t.j ++ 32 :: (bT t.o ++ 32 :: (itoa t.pt ++ 32 :: (wL t.fz ++ ssL m)))) := by
      have h2 : sT s ++ ssL l = sT t ++ ssL m := h
      unfold sT at h2
      simpa using h2
    obtain ⟨e1, e2⟩ := spc (bT_no _) (bT_no _) (List.cons.inj h1).2
    obtain ⟨e3, e4⟩ := spc (bT_no _) (bT_no _) e2
    obtain ⟨e5, e6⟩ := spc (itoa_no (by decide) (.inl (by decide))) (itoa_no (by decide) (.inl (by decide))) e4
    obtain ⟨e7, e8⟩ := sp (wL_no _) (wL_no _) (ssL_hd l) (ssL_hd m) e6
    rw [ssL_inj e8]
    obtain ⟨a1, a2, a3, a4⟩ := s
    obtain ⟨b1, b2, b3, b4⟩ := t
    simp only at e1 e3 e5 e7
    rw [bT_inj e1, bT_inj e3, itoa_inj e5, wL_inj e7]
def eqSe (s t : Se) : Bool := (((s.j == t.j) && (s.o == t.o)) && (s.pt == t.pt)) && sameB s.fz t.fz
theorem eqSe_iff (s t : Se) : eqSe s t = true ↔ s = t := by
  obtain ⟨a1, a2, a3, a4⟩ := s
  obtain ⟨b1, b2, b3, b4⟩ := t
  unfold eqSe sameB
  simp only [Bool.and_eq_true, beq_iff_eq, decide_eq_true_eq, Se.mk.injEq]
  constructor
  · rintro ⟨⟨⟨h1, h2⟩, h3⟩, h4⟩; exact ⟨h1, h2, h4, h3⟩
  · rintro ⟨h1, h2, h3, h4⟩; exact ⟨⟨⟨h1, h2⟩, h4⟩, h3⟩
def eqS (a b : Sm) : Bool := sameB a.mp b.mp && (decide (a.n = b.n) && (List.range a.n).all fun i => eqSe (a.th i) (b.th i))
theorem eqS_text (a b : Sm) : decide (tS a = tS b) = eqS a b := by
  rw [Bool.eq_iff_iff, decide_eq_true_eq]
  unfold eqS sameB
  simp only [Bool.and_eq_true, decide_eq_true_eq, List.all_eq_true, List.mem_range]
  constructor
  · intro h
    unfold tS at h
    obtain ⟨e1, e2⟩ := sp (wL_no _) (wL_no _) (ssL_hd _) (ssL_hd _) h
    have e3 := ssL_inj e2
    have e4 := congrArg List.length e3
    simp only [List.length_map, List.length_range] at e4
    refine ⟨wL_inj e1, e4, fun i hi => ?_⟩
    rw [eqSe_iff]
    have e5 := congrArg (fun l => l[i]?) e3
    simp only [List.getElem?_map] at e5
    rw [List.getElem?_range hi, List.getElem?_range (by omega)] at e5
    simpa using e5
  · rintro ⟨h1, h2, h3⟩
    unfold tS
    rw [h1]
    congr 2
    rw [h2]
    refine List.map_congr_left fun i hi => ?_
    exact (eqSe_iff _ _).1 (h3 i (by have := List.mem_range.1 hi; omega))
theorem wL_len (l : PL) (h : ∀ p ∈ l, (-9223372036854775808 ≤ p.1 ∧ p.1 ≤ 9223372036854775807) ∧ (-9223372036854775808 ≤ p.2 ∧ p.2 ≤ 9223372036854775807)) : (wL l).length ≤ 44 * l.length := by
  induction l with
  | nil => simp [wL]
  | cons p r ih =>
    have h1 := ih fun q hq => h q (List.mem_cons_of_mem _ hq)
    obtain ⟨⟨a1, a2⟩, b1, b2⟩ := h p List.mem_cons_self
    have h2 := Lib.itoa_length_le p.1 a1 a2
    have h3 := Lib.itoa_length_le p.2 b1 b2
    have h4 : (wL (p :: r)).length = (itoa p.1).length + ((itoa p.2).length + 1 + 1) + (wL r).length := by
      unfold wL pT
      simp only [List.flatMap_cons, List.length_append, List.length_cons, List.length_nil]
    rw [h4, List.length_cons]; omega
end Go.Proofs.YtkgfhomoipbjoaaDoor
