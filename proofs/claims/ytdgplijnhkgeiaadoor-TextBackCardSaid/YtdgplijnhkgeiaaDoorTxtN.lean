/- Numbers and pairs as text (no program in it). -/
import Derived.Test.YtdgplijnhkgeiaaDoorPairM
import Derived.Lib.ItoaLen
namespace Go.Proofs.YtdgplijnhkgeiaaDoor
open Go.RowKit
open Go.Lib (itoa decDigits)
set_option linter.unusedVariables false
set_option linter.unusedSimpArgs false
def dval (l : List UInt8) : Nat := l.foldl (fun a c => 10 * a + (c.toNat - 48)) 0
theorem dchar (u : Nat) (h : u < 10) : (UInt8.ofNat (48 + u)).toNat = 48 + u := by
  rw [UInt8.toNat_ofNat']; omega
theorem dval_dec (u : Nat) : dval (decDigits u) = u := by
  induction u using Nat.strongRecOn with
  | _ u ih =>
    rw [decDigits]
    split
    · rename_i h
      unfold dval
      rw [List.foldl_cons, List.foldl_nil, dchar u h]; omega
    · rename_i h
      have := ih (u / 10) (by omega)
      unfold dval at this ⊢
      rw [List.foldl_append, this, List.foldl_cons, List.foldl_nil, dchar (u % 10) (by omega)]; omega
theorem dec_chars (u : Nat) : ∀ c ∈ decDigits u, 48 ≤ c.toNat ∧ c.toNat ≤ 57 := by
  induction u using Nat.strongRecOn with
  | _ u ih =>
    rw [decDigits]
    split
    · rename_i h
      intro c hc
      rw [List.mem_singleton.1 hc, dchar u h]; omega
    · rename_i h
      intro c hc
      rcases List.mem_append.1 hc with hc | hc
      · exact ih (u / 10) (by omega) c hc
      · rw [List.mem_singleton.1 hc, dchar (u % 10) (by omega)]; omega
theorem itoa_chars (n : Int) : ∀ c ∈ itoa n, c = 45 ∨ (48 ≤ c.toNat ∧ c.toNat ≤ 57) := by
  intro c hc
  unfold itoa at hc
  split at hc
  · rcases List.mem_cons.1 hc with hc | hc
    · exact .inl hc
    · exact .inr (dec_chars _ c hc)
  · exact .inr (dec_chars _ c hc)
theorem itoa_inj {a b : Int} (h : itoa a = itoa b) : a = b := by
  unfold itoa at h
  split at h <;> split at h
  · have := congrArg dval (List.cons.inj h).2
    rw [dval_dec, dval_dec] at this; omega
  · exfalso
    have := dec_chars b.toNat 45 (by rw [← h]; exact List.mem_cons_self)
    have h2 : (45 : UInt8).toNat = 45 := by decide
    omega
  · exfalso
    have := dec_chars a.toNat 45 (by rw [h]; exact List.mem_cons_self)
    have h2 : (45 : UInt8).toNat = 45 := by decide
    omega
  · have := congrArg dval h
    rw [dval_dec, dval_dec] at this; omega
theorem itoa_no {n : Int} {d : UInt8} (h1 : d ≠ 45) (h2 : d.toNat < 48 ∨ 57 < d.toNat) : ∀ c ∈ itoa n, (c != d) = true := fun c hc => by
  rw [bne_iff_ne]
  rintro rfl
  rcases itoa_chars n c hc with h | h
  · exact h1 h
  · omega
/-- Two texts whose first parts have none of what the second ones begin with. -/
theorem sp {p : UInt8 → Bool} : ∀ {A B R S : List UInt8}, (∀ x ∈ A, p x = true) → (∀ x ∈ B, p x = true) → (∀ x, R.head? = some x → p x = false) → (∀ x, S.head? = some x → p x = false) → A ++ R = B ++ S → A = B ∧ R = S
  | [], [], _, _, _, _, _, _, h => ⟨rfl, h⟩
  | a :: A, [], R, S, hA, _, _, hS, h => by
    have h1 := hS a (by have h2 : a :: (A ++ R) = S := h; rw [← h2]; rfl)
    rw [hA a List.mem_cons_self] at h1; cases h1
  | [], b :: B, R, S, _, hB, hR, _, h => by
    have h1 := hR b (by have h2 : R = b :: (B ++ S) := h; rw [h2]; rfl)
    rw [hB b List.mem_cons_self] at h1; cases h1
  | a :: A, b :: B, R, S, hA, hB, hR, hS, h => by
    have h2 : a :: (A ++ R) = b :: (B ++ S) := h
    obtain ⟨e1, e2⟩ := List.cons.inj h2
    obtain ⟨e3, e4⟩ := sp (fun x hx => hA x (List.mem_cons_of_mem _ hx)) (fun x hx => hB x (List.mem_cons_of_mem _ hx)) hR hS e2
    exact ⟨by rw [e1, e3], e4⟩
theorem spc {d : UInt8} {A B R S : List UInt8} (hA : ∀ x ∈ A, (x != d) = true) (hB : ∀ x ∈ B, (x != d) = true) (h : A ++ d :: R = B ++ d :: S) : A = B ∧ R = S := by
  obtain ⟨e1, e2⟩ := sp (p := fun x => x != d) hA hB (fun x hx => by cases hx; simp) (fun x hx => by cases hx; simp) h
  exact ⟨e1, (List.cons.inj e2).2⟩
def pT (p : Int × Int) : List UInt8 := itoa p.1 ++ 58 :: (itoa p.2 ++ [44])
def wL (l : PL) : List UInt8 := l.flatMap pT
def bT (b : Bool) : List UInt8 := if b then [116, 114, 117, 101] else [102, 97, 108, 115, 101]
theorem bT_no (b : Bool) : ∀ c ∈ bT b, (c != 32) = true := by cases b <;> decide
theorem bT_inj {a b : Bool} (h : bT a = bT b) : a = b := by
  cases a <;> cases b <;> first | rfl | (exact absurd h (by decide))
theorem wL_no (l : PL) : ∀ c ∈ wL l, (c != 59) = true := by
  intro c hc
  obtain ⟨p, _, hp⟩ := List.mem_flatMap.1 hc
  unfold pT at hp
  rcases List.mem_append.1 hp with hp | hp
  · exact itoa_no (by decide) (.inr (by decide)) c hp
  · rcases List.mem_cons.1 hp with rfl | hp
    · decide
    · rcases List.mem_append.1 hp with hp | hp
      · exact itoa_no (by decide) (.inr (by decide)) c hp
      · rw [List.mem_singleton.1 hp]; decide
theorem wL_inj : ∀ {l m : PL}, wL l = wL m → l = m
  | [], [], _ => rfl
  | [], q :: m, h => by
    exfalso
    have := congrArg List.length h
    simp only [wL, List.flatMap_nil, List.flatMap_cons, List.length_nil, List.length_append, pT, List.length_cons] at this
    omega
  | q :: m, [], h => by
    exfalso
    have := congrArg List.length h
    simp only [wL, List.flatMap_nil, List.flatMap_cons, List.length_nil, List.length_append, pT, List.length_cons] at this
    omega
  | p :: l, q :: m, h => by
    have h1 : itoa p.1 ++ 58 :: (itoa p.2 ++ 44 :: wL l) = itoa q.1 ++ 58 :: (itoa q.2 ++ 44 :: wL m) := by
      have h2 : pT p ++ wL l = pT q ++ wL m := h
      unfold pT at h2
      simpa using h2
    obtain ⟨e1, e2⟩ := spc (itoa_no (by decide) (.inr (by decide))) (itoa_no (by decide) (.inr (by decide))) h1
    obtain ⟨e3, e4⟩ := spc (itoa_no (by decide) (.inl (by decide))) (itoa_no (by decide) (.inl (by decide))) e2
    rw [wL_inj e4, Prod.ext (itoa_inj e1) (itoa_inj e3)]
theorem wL_len (l : PL) (h : ∀ p ∈ l, (-9223372036854775808 ≤ p.1 ∧ p.1 ≤ 9223372036854775807) ∧ (-9223372036854775808 ≤ p.2 ∧ p.2 ≤ 9223372036854775807)) : (wL l).length ≤ 44 * l.length := by
  induction l with
  | nil => simp [wL]
  | cons p r ih =>
    have h1 := ih fun q hq => h q (List.mem_cons_of_mem _ hq)
    obtain ⟨⟨a1, a2⟩, b1, b2⟩ := h p List.mem_cons_self
    have h2 := Lib.itoa_length_le p.1 a1 a2
    have h3 := Lib.itoa_length_le p.2 b1 b2
    have h4 : (wL (p :: r)).length = (itoa p.1).length + ((itoa p.2).length + 1 + 1) + (wL r).length := by
      unfold wL pT
      simp only [List.flatMap_cons, List.length_append, List.length_cons, List.length_nil]
    rw [h4, List.length_cons]; omega
def Ints (L : PL) : Prop := ∀ p ∈ L, (-9223372036854775808 ≤ p.1 ∧ p.1 ≤ 9223372036854775807) ∧ (-9223372036854775808 ≤ p.2 ∧ p.2 ≤ 9223372036854775807)
theorem Ints.ky {L : PL} (h : Ints L) {i : Nat} (hi : i < L.length) : (-9223372036854775808 ≤ ky L i ∧ ky L i ≤ 9223372036854775807) ∧ (-9223372036854775808 ≤ vl L i ∧ vl L i ≤ 9223372036854775807) := by
  have := h L[i] (List.getElem_mem hi)
  rw [ky_get hi] at this; exact this
theorem wL_take {L : PL} {i : Nat} (hi : i < L.length) : wL (L.take (i + 1)) = wL (L.take i) ++ pT (Go.Proofs.YtdgplijnhkgeiaaDoor.ky L i, vl L i) := by
  rw [take_one hi]; unfold wL; rw [List.flatMap_append]; simp
theorem wL_tlen {L : PL} (h : Ints L) (i : Nat) : (wL (L.take i)).length ≤ 44 * L.length := by
  have := wL_len (L.take i) fun p hp => h p (List.mem_of_mem_take hp)
  have h2 : (L.take i).length ≤ L.length := by simp; omega
  omega
end Go.Proofs.YtdgplijnhkgeiaaDoor
