/- GAU: several texts in one. -/
import Derived.Test.YtaaciolfgplnoaaGAT
/- Layer 17: what threads that take and give, step by step, leave free, hold, and stand in (no program in it). -/
namespace Go.Proofs.Ytaaciolfgplnoaa.Sl
open Go.RowKit WordM EdgeM
set_option linter.unusedVariables false
set_option linter.unusedSimpArgs false
def lim (T : Th.Td) : Prop := T.nf = 1 ∧ (T.fs 0).fn = 2 ∧ 1 ≤ (T.fs 0).pc
def ownF (T : Th.Td) (a : Nat) : Prop := T.nf = 1 ∧ (T.fs 0).r 0 % 4096 = a ∧ ((T.fs 0).fn = 2 ∨ ((T.fs 0).fn = 1 ∧ (T.fs 0).pc = 3))
/-- Where a frame stands. -/
def SFr (F : Th.Fm) (f : Nat → Int) (G : Nat → Int) (O : Nat → Nat) (t s k : Nat) : Prop :=
  (F.fn = 1 ∧ 0 ≤ F.r 0 ∧ F.r 0 < 18446744073709551616 ∧ (F.pc = 0 ∨ ∃ a : Nat, F.r 0 % 4096 = a ∧ 1 ≤ a ∧ a ≤ s ∧
    ((F.pc = 1 ∧ F.r 0 / 4096 ≤ f 2 / 4096) ∨ (F.pc = 2 ∧ F.r 0 / 4096 ≤ f 2 / 4096 ∧ 0 ≤ F.r 1 ∧ F.r 1 ≤ 4095 ∧ (F.r 0 = f 2 → F.r 1 = f (nd t a 0))) ∨ (F.pc = 3 ∧ O a = 2 * k + 3)))) ∨
  (F.fn = 2 ∧ 0 ≤ F.r 0 ∧ F.r 0 < 4611686018427387904 ∧ ∃ a : Nat, F.r 0 % 4096 = a ∧ 1 ≤ a ∧ a ≤ s ∧ O a = 2 * k + 3 ∧
    ((F.pc = 0 ∧ G (a - 1) = F.r 0 / 4096 % 1125899906842624) ∨ F.pc = 1 ∨ (F.pc = 2 ∧ 0 ≤ F.r 1 ∧ F.r 1 < 18446744073709551616 ∧ F.r 1 / 4096 ≤ f 2 / 4096) ∨ (F.pc = 3 ∧ 0 ≤ F.r 1 ∧ F.r 1 < 18446744073709551616 ∧ F.r 1 / 4096 ≤ f 2 / 4096 ∧ f (nd t a 0) = F.r 1 % 4096)))
/-- What is in a thread's hand. -/
def edOK (t s : Nat) (O : Nat → Nat) (G : Nat → Int) (k : Nat) (e : Int) : Prop := (0 ≤ e ∧ e < 4611686018427387904) ∧ ∃ a : Nat, e % 4096 = a ∧ 1 ≤ a ∧ a ≤ s ∧ O a = 2 * k + 2 ∧ G (a - 1) = e / 4096 % 1125899906842624
/-- How many steps it takes at most, alone. -/
def rkS (F : Th.Fm) (h : Int) : Nat :=
  if F.fn = 1 then (if F.pc = 0 then 4 else if F.pc = 1 then (if F.r 0 = h then 3 else 6) else if F.pc = 2 then (if F.r 0 = h then 2 else 5) else 1)
  else (if F.pc = 0 then 4 else if F.pc = 1 then 3 else if F.pc = 2 then (if F.r 1 = h then 2 else 5) else (if F.r 1 = h then 1 else 4))
theorem rkS_bd (F : Th.Fm) (h : Int) : 1 ≤ rkS F h ∧ rkS F h ≤ 6 := by
  unfold rkS
  repeat' split
  all_goals omega
structure CS (P : Pc) (σ : Sg) (L : List Nat) (O : Nat → Nat) (E : Nat → List Int) (n : Nat) : Prop where
  lk : Lk P.t P.s σ.f (σ.f 2 % 4096) L
  un : L.Nodup
  ol : ∀ a, 1 ≤ a → a ≤ P.s → (O a = 0 ↔ a ∈ L)
  hh : ∀ a, 1 ≤ a → a ≤ P.s → (σ.H (a - 1) = false ↔ (O a = 0 ∨ ∃ j, j < P.t ∧ O a = 2 * j + 3 ∧ lim (σ.Ts j)))
  gn : ∀ a, 1 ≤ a → a ≤ P.s → σ.f (nd P.t a 1) = σ.G (a - 1) ∧ 0 ≤ σ.G (a - 1) ∧ σ.G (a - 1) ≤ n
  lb : ∀ a, 1 ≤ a → a ≤ P.s → 0 ≤ σ.f (nd P.t a 0) ∧ σ.f (nd P.t a 0) ≤ 4095
  ct : 0 ≤ σ.f 2 ∧ σ.f 2 / 4096 ≤ n
  th : ∀ k, k < P.t → (σ.Ts k).nf = 0 ∨ ((σ.Ts k).nf = 1 ∧ SFr ((σ.Ts k).fs 0) σ.f σ.G O P.t P.s k)
  ow : ∀ a, 1 ≤ a → a ≤ P.s → ∀ j, O a = 2 * j + 3 → j < P.t ∧ ownF (σ.Ts j) a
  hd : ∀ k, k < P.t → ∀ e ∈ E k, edOK P.t P.s O σ.G k e
  hu : ∀ k, k < P.t → ((E k).map fun e => e % 4096).Nodup
  ac : 0 ≤ σ.acc ∧ σ.acc ≤ n ∧ 0 ≤ σ.steps ∧ σ.steps ≤ n
  ok : σ.flt = false ∧ σ.sl = 0 ∧ σ.odd = false
section
variable {P : Pc} {σ : Sg} {L : List Nat} {O : Nat → Nat} {E : Nat → List Int} {n k : Nat}
theorem CS.le (h : CS P σ L O E n) {m : Nat} (hm : n ≤ m) : CS P σ L O E m :=
  ⟨h.lk, h.un, h.ol, h.hh, fun a a1 a2 => by have := h.gn a a1 a2; omega, h.lb, by have := h.ct; omega, h.th, h.ow, h.hd, h.hu, by have := h.ac; omega, h.ok⟩
theorem CS.mem (h : CS P σ L O E n) {a : Nat} (ha : a ∈ L) : 1 ≤ a ∧ a ≤ P.s := by
  obtain ⟨j, hj, rfl⟩ := List.getElem_of_mem ha
  exact ⟨(h.lk.at_ j hj).1, (h.lk.at_ j hj).2.1⟩
theorem CS.ne (h : CS P σ L O E n) : ∀ i j (h1 : i < L.length) (h2 : j < L.length), j < i → L[i] ≠ L[j] := fun i j h1 h2 hij e => by
  exact (List.pairwise_iff_getElem.1 h.un) j i h2 h1 hij e.symm
theorem CS.no (h : CS P σ L O E n) : ∀ j (h : j < L.length), σ.H (L[j] - 1) = false := fun j hj =>
  (h.hh _ (h.lk.at_ j hj).1 (h.lk.at_ j hj).2.1).2 (.inl ((h.ol _ (h.lk.at_ j hj).1 (h.lk.at_ j hj).2.1).2 (List.getElem_mem hj)))
theorem nodup_len : ∀ (s : Nat) (L : List Nat), L.Nodup → (∀ a ∈ L, a ≤ s) → (∀ a ∈ L, 1 ≤ a) → L.length ≤ s
  | 0, L, _, h1, h2 => by
    cases L with
    | nil => simp
    | cons a r => have := h1 a (by simp); have := h2 a (by simp); omega
  | s + 1, L, hn, h1, h2 => by
    by_cases hm : s + 1 ∈ L
    · have h3 := nodup_len s (L.erase (s + 1)) (hn.erase _) (fun a ha => by
        have h4 := (hn.mem_erase_iff).1 ha
        have := h1 a h4.2; have := h4.1; omega) (fun a ha => h2 a (List.mem_of_mem_erase ha))
      rw [List.length_erase_of_mem hm] at h3
      omega
    · have h3 := nodup_len s L hn (fun a ha => by
        have := h1 a ha
        have h5 : a ≠ s + 1 := fun e => hm (e ▸ ha)
        omega) h2
      omega
theorem CS.len (h : CS P σ L O E n) : L.length ≤ P.s := nodup_len P.s L h.un (fun a ha => (h.mem ha).2) fun a ha => (h.mem ha).1
theorem cnt_free (H : Nat → Bool) : ∀ (s : Nat) (L : List Nat), L.Nodup → (∀ a ∈ L, 1 ≤ a ∧ a ≤ s) → (∀ a, 1 ≤ a → a ≤ s → (H (a - 1) = false ↔ a ∈ L)) → Gd.cntB H s + L.length = s
  | 0, L, _, h1, _ => by
    cases L with
    | nil => rfl
    | cons a r => have := h1 a (by simp); omega
  | s + 1, L, hn, h1, h2 => by
    rw [Gd.cntB]
    by_cases hm : s + 1 ∈ L
    · have e1 := (h2 (s + 1) (by omega) (Nat.le_refl _)).2 hm
      have e2 : H s = false := e1
      have h3 := cnt_free H s (L.erase (s + 1)) (hn.erase _) (fun a ha => by
        have h4 := (hn.mem_erase_iff).1 ha
        have := h1 a h4.2; have := h4.1; omega) (fun a a1 a2 => by
        rw [h2 a a1 (by omega), hn.mem_erase_iff]
        exact ⟨fun h => ⟨by omega, h⟩, fun h => h.2⟩)
      rw [List.length_erase_of_mem hm] at h3
      have hp : 0 < L.length := List.length_pos_of_mem hm
      rw [e2]; simp; omega
    · have e1 : H s = true := by
        cases e : H s with
        | true => rfl
        | false => exact absurd ((h2 (s + 1) (by omega) (Nat.le_refl _)).1 e) hm
      have h3 := cnt_free H s L hn (fun a ha => by
        have := h1 a ha
        have h5 : a ≠ s + 1 := fun e => hm (e ▸ ha)
        omega) (fun a a1 a2 => h2 a a1 (by omega))
      rw [e1]; simp; omega
/-- At rest each slot is held, or free. -/
theorem CS.rest (h : CS P σ L O E n) (hz : ∀ j, j < P.t → (σ.Ts j).nf = 0) : Gd.cntB σ.H P.s + L.length = P.s := by
  refine cnt_free σ.H P.s L h.un (fun a ha => h.mem ha) fun a a1 a2 => ?_
  rw [h.hh a a1 a2, h.ol a a1 a2]
  constructor
  · rintro (h1 | ⟨j, hj, _, h2, _⟩)
    · exact h1
    · have := hz j hj; omega
  · exact .inl
theorem ed_oth {t s : Nat} {O O' : Nat → Nat} {G G' : Nat → Int} {j : Nat} {e : Int} (h : edOK t s O G j e) (k : ∀ a, 1 ≤ a → a ≤ s → O a = 2 * j + 2 → O' a = O a ∧ G' (a - 1) = G (a - 1)) : edOK t s O' G' j e := by
  obtain ⟨h0, a, h1, h2, h3, h4, h5⟩ := h
  obtain ⟨e1, e2⟩ := k a h2 h3 h4
  exact ⟨h0, a, h1, h2, h3, by rw [e1]; exact h4, by rw [e2]; exact h5⟩
theorem CS.nx (h : CS P σ L O E n) (hk : k < P.t) {σ' : Sg} {L' : List Nat} {O' : Nat → Nat} {E' : Nat → List Int} (b : Nat)
    (hoth : ∀ i, i ≠ k → σ'.Ts i = σ.Ts i) (hb : O b = 0 ∨ O b = 2 * k + 3 ∨ b = 0)
    (hs : ∀ a, 1 ≤ a → a ≤ P.s → a ≠ b → O' a = O a ∧ σ'.G (a - 1) = σ.G (a - 1) ∧ σ'.H (a - 1) = σ.H (a - 1) ∧ σ'.f (nd P.t a 0) = σ.f (nd P.t a 0) ∧ σ'.f (nd P.t a 1) = σ.f (nd P.t a 1))
    (hq : ∀ a, 1 ≤ a → a ≤ P.s → a ≠ b → O a ≠ 2 * k + 3)
    (h2 : (σ'.f 2 = σ.f 2 ∧ (1 ≤ b → O b = 0 → σ'.f (nd P.t b 0) = σ.f (nd P.t b 0))) ∨ σ.f 2 / 4096 < σ'.f 2 / 4096)
    (hct : 0 ≤ σ'.f 2 ∧ σ'.f 2 / 4096 ≤ n + 1)
    (hlk : Lk P.t P.s σ'.f (σ'.f 2 % 4096) L') (hun : L'.Nodup) (hol : ∀ a, 1 ≤ a → a ≤ P.s → (O' a = 0 ↔ a ∈ L'))
    (hbo : 1 ≤ b → b ≤ P.s → O' b = 0 ∨ O' b = 2 * k + 2 ∨ O' b = 2 * k + 3)
    (hbh : 1 ≤ b → b ≤ P.s → (σ'.H (b - 1) = false ↔ (O' b = 0 ∨ (O' b = 2 * k + 3 ∧ lim (σ'.Ts k)))))
    (hbg : 1 ≤ b → b ≤ P.s → σ'.f (nd P.t b 1) = σ'.G (b - 1) ∧ 0 ≤ σ'.G (b - 1) ∧ σ'.G (b - 1) ≤ n + 1)
    (hbl : 1 ≤ b → b ≤ P.s → 0 ≤ σ'.f (nd P.t b 0) ∧ σ'.f (nd P.t b 0) ≤ 4095)
    (hw : (σ'.Ts k).nf = 0 ∨ ((σ'.Ts k).nf = 1 ∧ SFr ((σ'.Ts k).fs 0) σ'.f σ'.G O' P.t P.s k))
    (how : 1 ≤ b → b ≤ P.s → O' b = 2 * k + 3 → ownF (σ'.Ts k) b)
    (hE : ∀ j, j ≠ k → E' j = E j) (hEk : ∀ e ∈ E' k, edOK P.t P.s O' σ'.G k e) (hEu : ((E' k).map fun e => e % 4096).Nodup)
    (hac : σ'.acc = σ.acc + 1 ∧ σ'.steps = σ.steps + 1) (hok : σ'.flt = false ∧ σ'.sl = 0 ∧ σ'.odd = false) : CS P σ' L' O' E' (n + 1) := by
  have ac := h.ac
  refine ⟨hlk, hun, hol, fun a a1 a2 => ?_, fun a a1 a2 => ?_, fun a a1 a2 => ?_, hct, fun j hj => ?_, fun a a1 a2 j hj => ?_, fun j hj e he => ?_, fun j hj => ?_, by omega, hok⟩
  · by_cases e : a = b
    · subst e
      rw [hbh a1 a2]
      constructor
      · rintro (h1 | ⟨h1, h2⟩)
        · exact .inl h1
        · exact .inr ⟨k, hk, h1, h2⟩
      · rintro (h1 | ⟨j, hj, h1, h2⟩)
        · exact .inl h1
        · rcases hbo a1 a2 with h3 | h3 | h3
          · exact .inl h3
          · omega
          · have : j = k := by omega
            subst this; exact .inr ⟨h1, h2⟩
    · obtain ⟨e1, _, e3, _⟩ := hs a a1 a2 e
      rw [e1, e3, h.hh a a1 a2]
      constructor
      · rintro (h1 | ⟨j, hj, h1, h2⟩)
        · exact .inl h1
        · exact .inr ⟨j, hj, h1, by rw [hoth j (fun e9 => by rw [e9] at h1; exact hq a a1 a2 e h1)]; exact h2⟩
      · rintro (h1 | ⟨j, hj, h1, h2⟩)
        · exact .inl h1
        · refine .inr ⟨j, hj, h1, ?_⟩
          rw [hoth j (fun e9 => by rw [e9] at h1; exact hq a a1 a2 e h1)] at h2; exact h2
  · by_cases e : a = b
    · subst e; have := hbg a1 a2; exact ⟨this.1, this.2.1, by omega⟩
    · obtain ⟨_, e2, _, _, e5⟩ := hs a a1 a2 e
      rw [e2, e5]; have := h.gn a a1 a2; exact ⟨this.1, this.2.1, by omega⟩
  · by_cases e : a = b
    · subst e; exact hbl a1 a2
    · obtain ⟨_, _, _, e4, _⟩ := hs a a1 a2 e
      rw [e4]; exact h.lb a a1 a2
  · by_cases e : j = k
    · subst e; exact hw
    · rw [hoth j e]
      rcases h.th j hj with h0 | ⟨h0, hf⟩
      · exact .inl h0
      refine .inr ⟨h0, ?_⟩
      have hle : σ.f 2 / 4096 ≤ σ'.f 2 / 4096 := by
        rcases h2 with ⟨h2, _⟩ | h2
        · rw [h2]; exact Int.le_refl _
        · omega
      unfold SFr at hf ⊢
      rcases hf with ⟨f1, f2, f3, f4⟩ | ⟨f1, f2, f3, a, f4, f5, f6, f7, f8⟩
      · refine .inl ⟨f1, f2, f3, ?_⟩
        rcases f4 with f4 | ⟨a, f4, f5, f6, f7⟩
        · exact .inl f4
        · refine .inr ⟨a, f4, f5, f6, ?_⟩
          rcases f7 with ⟨f7, f8⟩ | ⟨f7, f8, f9, f10, f11⟩ | ⟨f7, f8⟩
          · exact .inl ⟨f7, by omega⟩
          · refine .inr (.inl ⟨f7, by omega, f9, f10, fun e9 => ?_⟩)
            rcases h2 with ⟨h2, h3⟩ | h2
            · have e10 := f11 (by rw [e9, h2])
              have ha : a ∈ L := by
                have h4 := h.lk.hd
                cases L with
                | nil => exfalso; rw [← h2, ← e9, f4] at h4; have : (a : Int) = 0 := h4; omega
                | cons x r => rw [← h2, ← e9, f4] at h4; have h5 : (a : Int) = (x : Int) := h4; have : a = x := by omega
                              rw [this]; exact List.mem_cons_self
              have h5 := (h.ol a f5 f6).2 ha
              rw [e10]
              by_cases e11 : a = b
              · subst e11; exact (h3 f5 h5).symm
              · exact (hs a f5 f6 e11).2.2.2.1.symm
            · exfalso; rw [e9] at f8; omega
          · refine .inr (.inr ⟨f7, ?_⟩)
            rw [(hs a f5 f6 (fun e9 => by subst e9; rcases hb with h3 | h3 | h3 <;> omega)).1]; exact f8
      · have hab : a ≠ b := fun e9 => by subst e9; rcases hb with h3 | h3 | h3 <;> omega
        obtain ⟨e1, e2, _, e4, _⟩ := hs a f5 f6 hab
        refine .inr ⟨f1, f2, f3, a, f4, f5, f6, by rw [e1]; exact f7, ?_⟩
        rcases f8 with ⟨f8, f9⟩ | f8 | ⟨f8, f9, f10, f11⟩ | ⟨f8, f9, f10, f11, f12⟩
        · exact .inl ⟨f8, by rw [e2]; exact f9⟩
        · exact .inr (.inl f8)
        · exact .inr (.inr (.inl ⟨f8, f9, f10, by omega⟩))
        · exact .inr (.inr (.inr ⟨f8, f9, f10, by omega, by rw [e4]; exact f12⟩))
  · by_cases e : a = b
    · subst e
      rcases hbo a1 a2 with h3 | h3 | h3
      · omega
      · omega
      · have : j = k := by omega
        subst this; exact ⟨hk, how a1 a2 hj⟩
    · rw [(hs a a1 a2 e).1] at hj
      have h3 : j ≠ k := fun e9 => by rw [e9] at hj; exact hq a a1 a2 e hj
      rw [hoth j h3]
      exact h.ow a a1 a2 j hj
  · by_cases e9 : j = k
    · subst e9; exact hEk e he
    · rw [hE j e9] at he
      refine ed_oth (h.hd j hj e he) fun a a1 a2 ho => ?_
      obtain ⟨e1, e2, _⟩ := hs a a1 a2 (fun e8 => by subst e8; rcases hb with h3 | h3 | h3 <;> omega)
      exact ⟨e1, e2⟩
  · by_cases e9 : j = k
    · subst e9; exact hEu
    · rw [hE j e9]; exact h.hu j hj
/-- What is in the hand of the one that steps stays. -/
theorem CS.keep (h : CS P σ L O E n) (hk : k < P.t) {O' : Nat → Nat} {G' : Nat → Int} (b : Nat) (hb : O b = 0 ∨ O b = 2 * k + 3 ∨ b = 0) (hs : ∀ a, 1 ≤ a → a ≤ P.s → a ≠ b → O' a = O a ∧ G' (a - 1) = σ.G (a - 1)) : ∀ e ∈ E k, edOK P.t P.s O' G' k e := fun e he =>
  ed_oth (h.hd k hk e he) fun a a1 a2 ho => hs a a1 a2 (fun e8 => by subst e8; rcases hb with h3 | h3 | h3 <;> omega)
end
end Go.Proofs.Ytaaciolfgplnoaa.Sl

/- Layer 17: a step of a thread that takes, or gives, among others (no program in it). -/
namespace Go.Proofs.Ytaaciolfgplnoaa.Sl
open Go.RowKit WordM EdgeM
set_option linter.unusedVariables false
set_option linter.unusedSimpArgs false
def nyS (σ : Sg) (k : Nat) (T : Th.Td) (f : Nat → Int) (H : Nat → Bool) (G : Nat → Int) (flt : Bool) (sl : Int) : Sg := { σ.stp.thr k T with acc := σ.acc + 1, f := f, H := H, G := G, flt := flt, sl := sl }
theorem nyS_at (σ : Sg) (k : Nat) (T : Th.Td) (f : Nat → Int) (H : Nat → Bool) (G : Nat → Int) (flt : Bool) (sl : Int) : (nyS σ k T f H G flt sl).Ts k = T := by unfold nyS Sg.thr; simp
theorem nyS_oth (σ : Sg) (k : Nat) (T : Th.Td) (f : Nat → Int) (H : Nat → Bool) (G : Nat → Int) (flt : Bool) (sl : Int) {i : Nat} (h : i ≠ k) : (nyS σ k T f H G flt sl).Ts i = σ.Ts i := by unfold nyS Sg.thr; simp only [if_neg h]; rfl
theorem upd_at (f : Nat → Int) (a : Nat) (v : Int) : Mm.upd f a v a = v := by unfold Mm.upd; rw [if_pos rfl]
theorem upd_ne (f : Nat → Int) {a i : Nat} (v : Int) (h : i ≠ a) : Mm.upd f a v i = f i := by unfold Mm.upd; rw [if_neg h]
theorem updr_at (f : Nat → Int) (a : Nat) (v : Int) : updr f a v a = v := by unfold updr; rw [if_pos rfl]
theorem updr_ne (f : Nat → Int) {a i : Nat} (v : Int) (h : i ≠ a) : updr f a v i = f i := by unfold updr; rw [if_neg h]
theorem setB_at (H : Nat → Bool) (i : Nat) (b : Bool) : Gd.setB H i b i = b := by unfold Gd.setB; rw [if_pos rfl]
theorem setB_ne (H : Nat → Bool) {i j : Nat} (b : Bool) (h : j ≠ i) : Gd.setB H i b j = H j := by unfold Gd.setB; rw [if_neg h]
theorem updI_at (G : Nat → Int) (i : Nat) (b : Int) : Gd.updI G i b i = b := by unfold Gd.updI; rw [if_pos rfl]
theorem updI_ne (G : Nat → Int) {i j : Nat} (b : Int) (h : j ≠ i) : Gd.updI G i b j = G j := by unfold Gd.updI; rw [if_neg h]
def updO (O : Nat → Nat) (a v : Nat) : Nat → Nat := fun i => if i = a then v else O i
theorem updO_at (O : Nat → Nat) (a v : Nat) : updO O a v a = v := by unfold updO; rw [if_pos rfl]
theorem updO_ne (O : Nat → Nat) {a i : Nat} (v : Nat) (h : i ≠ a) : updO O a v i = O i := by unfold updO; rw [if_neg h]
def updE (E : Nat → List Int) (k : Nat) (l : List Int) : Nat → List Int := fun i => if i = k then l else E i
theorem updE_at (E : Nat → List Int) (k : Nat) (l : List Int) : updE E k l k = l := by unfold updE; rw [if_pos rfl]
theorem updE_ne (E : Nat → List Int) {k i : Nat} (l : List Int) (h : i ≠ k) : updE E k l i = E i := by unfold updE; rw [if_neg h]
theorem chg_div {h x : Int} (h0 : 0 ≤ h) (h1 : h / 4096 ≤ 1000000) : chgI h x / 4096 = h / 4096 + 1 ∧ 0 ≤ chgI h x := by
  have hb := slotI_bd x
  unfold chgI headI
  have e : (h / 4096 + 1) % 4503599627370496 = h / 4096 + 1 := Int.emod_eq_of_lt (by omega) (by omega)
  rw [e]
  omega
theorem nd_ne {t a b i j : Nat} (a1 : 1 ≤ a) (b1 : 1 ≤ b) (hi : i < 7) (hj : j < 7) (e : a ≠ b ∨ i ≠ j) : nd t a i ≠ nd t b j := fun h => by
  have := nd_inj a1 b1 hi hj h; omega
section
variable {P : Pc} {σ : Sg} {L : List Nat} {O : Nat → Nat} {E : Nat → List Int} {n k : Nat}
/-- A step that reads, of one that has no slot. -/
theorem CS.rd0 (h : CS P σ L O E n) (hk : k < P.t) {T : Th.Td} (hno : ∀ a, 1 ≤ a → a ≤ P.s → O a ≠ 2 * k + 3) (hw : T.nf = 0 ∨ (T.nf = 1 ∧ SFr (T.fs 0) σ.f σ.G O P.t P.s k)) : CS P (nyS σ k T σ.f σ.H σ.G σ.flt σ.sl) L O E (n + 1) := by
  have hz : ¬ 1 ≤ 0 := by omega
  have hct := h.ct
  exact h.nx hk 0 (fun i hi => nyS_oth _ _ _ _ _ _ _ _ hi) (.inr (.inr rfl)) (fun a _ _ _ => ⟨rfl, rfl, rfl, rfl, rfl⟩) (fun a a1 a2 _ => hno a a1 a2) (.inl ⟨rfl, fun h => absurd h hz⟩) (show 0 ≤ σ.f 2 ∧ σ.f 2 / 4096 ≤ n + 1 by omega)
    h.lk h.un h.ol (fun h => absurd h hz) (fun h => absurd h hz) (fun h => absurd h hz) (fun h => absurd h hz) (by rw [nyS_at]; exact hw) (fun h => absurd h hz) (fun _ _ => rfl) (h.hd k hk) (h.hu k hk) ⟨rfl, rfl⟩ h.ok
/-- A step that reads, of one that has a slot. -/
theorem CS.rd1 (h : CS P σ L O E n) (hk : k < P.t) {T : Th.Td} {a : Nat} (a1 : 1 ≤ a) (a2 : a ≤ P.s) (ho : O a = 2 * k + 3) (hr : ((σ.Ts k).fs 0).r 0 % 4096 = a) (hl : lim T ↔ lim (σ.Ts k)) (hw : T.nf = 1 ∧ SFr (T.fs 0) σ.f σ.G O P.t P.s k) (how : ownF T a) : CS P (nyS σ k T σ.f σ.H σ.G σ.flt σ.sl) L O E (n + 1) := by
  have hct := h.ct
  have hgn := h.gn a a1 a2
  refine h.nx hk a (fun i hi => nyS_oth _ _ _ _ _ _ _ _ hi) (.inr (.inl ho)) (fun a _ _ _ => ⟨rfl, rfl, rfl, rfl, rfl⟩) (fun b b1 b2 hb e => ?_) (.inl ⟨rfl, fun _ e => by omega⟩) (show 0 ≤ σ.f 2 ∧ σ.f 2 / 4096 ≤ n + 1 by omega)
    h.lk h.un h.ol (fun _ _ => .inr (.inr ho)) (fun _ _ => ?_) (fun _ _ => ⟨hgn.1, hgn.2.1, by show σ.G (a - 1) ≤ _; omega⟩) (fun _ _ => h.lb a a1 a2) (by rw [nyS_at]; exact .inr hw) (fun _ _ _ => by rw [nyS_at]; exact how) (fun _ _ => rfl) (h.hd k hk) (h.hu k hk) ⟨rfl, rfl⟩ h.ok
  · have := (h.ow b b1 b2 k e).2.2.1; omega
  · rw [nyS_at, hl]
    show σ.H (a - 1) = false ↔ _
    rw [h.hh a a1 a2]
    constructor
    · rintro (e | ⟨j, _, e1, e2⟩)
      · exact .inl e
      · have : j = k := by omega
        subst this; exact .inr ⟨e1, e2⟩
    · rintro (e | ⟨e1, e2⟩)
      · exact .inl e
      · exact .inr ⟨k, hk, e1, e2⟩
/-- What a step comes to. -/
def SO (P : Pc) (σ σ' : Sg) (k : Nat) (L : List Nat) (O : Nat → Nat) (E : Nat → List Int) (n : Nat) (fn : Int) : Prop :=
  ((σ'.Ts k).nf = 1 ∧ rkS ((σ'.Ts k).fs 0) (σ'.f 2) < rkS ((σ.Ts k).fs 0) (σ.f 2) ∧ ∃ L' O', CS P σ' L' O' E (n + 1)) ∨
  ((σ'.Ts k).nf = 0 ∧ fn = 1 ∧ (σ'.Ts k).ret 0 = 0 ∧ L = [] ∧ CS P σ' L O E (n + 1)) ∨
  ((σ'.Ts k).nf = 0 ∧ fn = 1 ∧ ∃ (e : Int) (O' : Nat → Nat), (σ'.Ts k).ret 0 = e ∧ e ≠ 0 ∧ (0 ≤ e ∧ e < 4611686018427387904) ∧ Gd.leadsB P.s σ'.H σ'.G e = true ∧ (∀ j, j < P.t → ∀ x ∈ E j, x % 4096 ≠ e % 4096) ∧ CS P σ' L O' (updE E k (E k ++ [e])) (n + 1)) ∨
  ((σ'.Ts k).nf = 0 ∧ fn = 2 ∧ ∃ L' O', CS P σ' L' O' E (n + 1))
theorem CS.tno (h : CS P σ L O E n) (hk : k < P.t) (hfn : ((σ.Ts k).fs 0).fn = 1) (hpc : ((σ.Ts k).fs 0).pc ≠ 3) : ∀ a, 1 ≤ a → a ≤ P.s → O a ≠ 2 * k + 3 := fun a a1 a2 e => by
  obtain ⟨_, _, _, h1 | ⟨_, h1⟩⟩ := h.ow a a1 a2 k e <;> omega
theorem CS.q (h : CS P σ L O E n) {a : Nat} (hr : ((σ.Ts k).fs 0).r 0 % 4096 = a) : ∀ b, 1 ≤ b → b ≤ P.s → b ≠ a → O b ≠ 2 * k + 3 := fun b b1 b2 hb e => by
  have := (h.ow b b1 b2 k e).2.2.1; omega
/-- Take's first step. -/
theorem so_t0 (h : CS P σ L O E n) (hk : k < P.t) (hn : (σ.Ts k).nf = 1) (hfn : ((σ.Ts k).fs 0).fn = 1) (hpc : ((σ.Ts k).fs 0).pc = 0) (hf2 : σ.f 2 < 18446744073709551616) : SO P σ (rTake P k 0 σ.stp) k L O E n 1 := by
  have hno := h.tno hk hfn (by omega)
  have hct := h.ct
  by_cases hz : σ.f 2 % 4096 = 0
  · have er : rTake P k 0 σ.stp = nyS σ k (Th.backT (setF (σ.Ts k) 0 ⟨((σ.Ts k).fs 0).fn, 1, updr ((σ.Ts k).fs 0).r 0 (σ.f 2)⟩) 1 (fun _ => 0)) σ.f σ.H σ.G σ.flt σ.sl := by
      unfold rTake; rw [if_pos (show ((σ.stp.Ts k).fs 0).pc = 0 from hpc), if_pos (show σ.stp.f 2 % 4096 = 0 from hz)]; rfl
    rw [er]
    have hl : L = [] := by
      have h1 := h.lk.hd
      rw [hz] at h1
      cases L with
      | nil => rfl
      | cons a r => have h2 : (0 : Int) = (a : Int) := h1; have := (h.mem (List.mem_cons_self (a := a) (l := r))).1; omega
    have h0 : (Th.backT (setF (σ.Ts k) 0 ⟨((σ.Ts k).fs 0).fn, 1, updr ((σ.Ts k).fs 0).r 0 (σ.f 2)⟩) 1 (fun _ => 0)).nf = 0 := by show (σ.Ts k).nf - 1 = 0; omega
    exact .inr (.inl ⟨by rw [nyS_at]; exact h0, rfl, by rw [nyS_at]; rfl, hl, h.rd0 hk hno (.inl h0)⟩)
  · have er : rTake P k 0 σ.stp = nyS σ k (setF (σ.Ts k) 0 ⟨((σ.Ts k).fs 0).fn, 1, updr ((σ.Ts k).fs 0).r 0 (σ.f 2)⟩) σ.f σ.H σ.G σ.flt σ.sl := by
      unfold rTake; rw [if_pos (show ((σ.stp.Ts k).fs 0).pc = 0 from hpc), if_neg (show ¬ σ.stp.f 2 % 4096 = 0 from hz)]; rfl
    rw [er]
    have hl : ∃ a : Nat, σ.f 2 % 4096 = a ∧ 1 ≤ a ∧ a ≤ P.s := by
      have h1 := h.lk.hd
      cases L with
      | nil => exact absurd h1 hz
      | cons a r => exact ⟨a, h1, (h.mem List.mem_cons_self).1, (h.mem List.mem_cons_self).2⟩
    obtain ⟨a, b1, b2, b3⟩ := hl
    refine .inl ⟨by rw [nyS_at]; exact hn, ?_, L, O, h.rd0 hk hno (.inr ⟨hn, ?_⟩)⟩
    · rw [nyS_at, setF_fs]
      show rkS ⟨_, 1, updr ((σ.Ts k).fs 0).r 0 (σ.f 2)⟩ (σ.f 2) < _
      simp [rkS, hfn, hpc, updr]
    · rw [setF_fs]
      refine .inl ⟨hfn, ?_, ?_, .inr ⟨a, ?_, b2, b3, .inl ⟨rfl, ?_⟩⟩⟩
      · show 0 ≤ updr ((σ.Ts k).fs 0).r 0 (σ.f 2) 0; rw [updr_at]; exact hct.1
      · show updr ((σ.Ts k).fs 0).r 0 (σ.f 2) 0 < _; rw [updr_at]; exact hf2
      · show updr ((σ.Ts k).fs 0).r 0 (σ.f 2) 0 % 4096 = _; rw [updr_at]; exact b1
      · show updr ((σ.Ts k).fs 0).r 0 (σ.f 2) 0 / 4096 ≤ _; rw [updr_at]; exact Int.le_refl _
theorem so_t1 (h : CS P σ L O E n) (hk : k < P.t) (hn : (σ.Ts k).nf = 1) (hfn : ((σ.Ts k).fs 0).fn = 1) (hpc : ((σ.Ts k).fs 0).pc = 1) (hr : 0 ≤ ((σ.Ts k).fs 0).r 0 ∧ ((σ.Ts k).fs 0).r 0 < 18446744073709551616) {a : Nat} (ha : ((σ.Ts k).fs 0).r 0 % 4096 = a) (a1 : 1 ≤ a) (a2 : a ≤ P.s) (hc : ((σ.Ts k).fs 0).r 0 / 4096 ≤ σ.f 2 / 4096) : SO P σ (rTake P k 0 σ.stp) k L O E n 1 := by
  have hno := h.tno hk hfn (by omega)
  obtain ⟨e0, o0⟩ := ld_nd (P := P) (f := σ.f) (j := 0) a1 a2 (by omega)
  have e0' : P.ld σ.f a 0 = σ.f (nd P.t a 0) := e0
  have o0' : P.ok a 0 = true := o0
  have er : rTake P k 0 σ.stp = nyS σ k (setF (σ.Ts k) 0 ⟨((σ.Ts k).fs 0).fn, 2, updr ((σ.Ts k).fs 0).r 1 (σ.f (nd P.t a 0))⟩) σ.f σ.H σ.G σ.flt σ.sl := by
    have e1 : rTake P k 0 σ.stp = nyS σ k (setF (σ.Ts k) 0 ⟨((σ.Ts k).fs 0).fn, 2, updr ((σ.Ts k).fs 0).r 1 (P.ld σ.f (((σ.Ts k).fs 0).r 0 % 4096) 0)⟩) σ.f σ.H σ.G (σ.flt || !P.ok (((σ.Ts k).fs 0).r 0 % 4096) 0) σ.sl := by
      unfold rTake; rw [if_neg (show ¬ ((σ.stp.Ts k).fs 0).pc = 0 from by show ¬ ((σ.Ts k).fs 0).pc = 0; omega), if_pos (show ((σ.stp.Ts k).fs 0).pc = 1 from hpc)]; rfl
    rw [e1, ha, e0', o0']; simp
  rw [er]
  have hlb := h.lb a a1 a2
  refine .inl ⟨by rw [nyS_at]; exact hn, ?_, L, O, h.rd0 hk hno (.inr ⟨hn, ?_⟩)⟩
  · rw [nyS_at, setF_fs]
    show rkS ⟨_, 2, updr ((σ.Ts k).fs 0).r 1 (σ.f (nd P.t a 0))⟩ (σ.f 2) < _
    by_cases e : ((σ.Ts k).fs 0).r 0 = σ.f 2 <;> simp [rkS, hfn, hpc, updr, e]
  · rw [setF_fs]
    refine .inl ⟨hfn, ?_, ?_, .inr ⟨a, ?_, a1, a2, .inr (.inl ⟨rfl, ?_, ?_, ?_, ?_⟩)⟩⟩
    · show 0 ≤ updr ((σ.Ts k).fs 0).r 1 (σ.f (nd P.t a 0)) 0; rw [updr_ne _ _ (by decide)]; exact hr.1
    · show updr ((σ.Ts k).fs 0).r 1 (σ.f (nd P.t a 0)) 0 < _; rw [updr_ne _ _ (by decide)]; exact hr.2
    · show updr ((σ.Ts k).fs 0).r 1 (σ.f (nd P.t a 0)) 0 % 4096 = _; rw [updr_ne _ _ (by decide)]; exact ha
    · show updr ((σ.Ts k).fs 0).r 1 (σ.f (nd P.t a 0)) 0 / 4096 ≤ _; rw [updr_ne _ _ (by decide)]; exact hc
    · show 0 ≤ updr ((σ.Ts k).fs 0).r 1 (σ.f (nd P.t a 0)) 1; rw [updr_at]; exact hlb.1
    · show updr ((σ.Ts k).fs 0).r 1 (σ.f (nd P.t a 0)) 1 ≤ _; rw [updr_at]; exact hlb.2
    · intro _; show updr ((σ.Ts k).fs 0).r 1 (σ.f (nd P.t a 0)) 1 = _; rw [updr_at]
theorem so_t2n (h : CS P σ L O E n) (hk : k < P.t) (hn : (σ.Ts k).nf = 1) (hfn : ((σ.Ts k).fs 0).fn = 1) (hpc : ((σ.Ts k).fs 0).pc = 2) (hr : 0 ≤ ((σ.Ts k).fs 0).r 0 ∧ ((σ.Ts k).fs 0).r 0 < 18446744073709551616) (hz : (σ.f 2 == ((σ.Ts k).fs 0).r 0) = false) : SO P σ (rTake P k 0 σ.stp) k L O E n 1 := by
  have hno := h.tno hk hfn (by omega)
  have er : rTake P k 0 σ.stp = nyS σ k (setF (σ.Ts k) 0 ⟨((σ.Ts k).fs 0).fn, 0, ((σ.Ts k).fs 0).r⟩) σ.f σ.H σ.G σ.flt σ.sl := by
    unfold rTake; rw [if_neg (show ¬ ((σ.stp.Ts k).fs 0).pc = 0 from by show ¬ ((σ.Ts k).fs 0).pc = 0; omega), if_neg (show ¬ ((σ.stp.Ts k).fs 0).pc = 1 from by show ¬ ((σ.Ts k).fs 0).pc = 1; omega), if_pos (show ((σ.stp.Ts k).fs 0).pc = 2 from hpc), if_neg (show ¬ (σ.stp.f 2 == ((σ.stp.Ts k).fs 0).r 0) = true from by show ¬ (σ.f 2 == ((σ.Ts k).fs 0).r 0) = true; rw [hz]; decide)]; rfl
  rw [er]
  refine .inl ⟨by rw [nyS_at]; exact hn, ?_, L, O, h.rd0 hk hno (.inr ⟨hn, ?_⟩)⟩
  · rw [nyS_at, setF_fs]
    show rkS ⟨_, 0, ((σ.Ts k).fs 0).r⟩ (σ.f 2) < _
    have e : ¬ ((σ.Ts k).fs 0).r 0 = σ.f 2 := fun e => by rw [e] at hz; simp at hz
    simp [rkS, hfn, hpc, e]
  · rw [setF_fs]
    exact .inl ⟨hfn, hr.1, hr.2, .inl rfl⟩
theorem so_t2y (h : CS P σ L O E n) (hN : n ≤ 1000000) (s2 : P.s ≤ 250) (hk : k < P.t) (hn : (σ.Ts k).nf = 1) (hfn : ((σ.Ts k).fs 0).fn = 1) (hpc : ((σ.Ts k).fs 0).pc = 2) (hr : 0 ≤ ((σ.Ts k).fs 0).r 0 ∧ ((σ.Ts k).fs 0).r 0 < 18446744073709551616) {a : Nat} (ha : ((σ.Ts k).fs 0).r 0 % 4096 = a) (a1 : 1 ≤ a) (a2 : a ≤ P.s) (hz : (σ.f 2 == ((σ.Ts k).fs 0).r 0) = true) (hr1 : ((σ.Ts k).fs 0).r 0 = σ.f 2 → ((σ.Ts k).fs 0).r 1 = σ.f (nd P.t a 0)) : SO P σ (rTake P k 0 σ.stp) k L O E n 1 := by
  have hno := h.tno hk hfn (by omega)
  have hct := h.ct
  have hz' : σ.f 2 = ((σ.Ts k).fs 0).r 0 := by simpa using hz
  have hx := hr1 hz'.symm
  have hlk := h.lk; have hun := h.un; have hol := h.ol
  obtain ⟨r, rfl⟩ : ∃ r, L = a :: r := by
    have h1 := h.lk.hd
    cases L with
    | nil => rw [hz', ha] at h1; have h2 : (a : Int) = 0 := h1; omega
    | cons x r => rw [hz', ha] at h1; have h2 : (a : Int) = (x : Int) := h1; have h3 : a = x := by omega
                  exact ⟨r, by rw [h3]⟩
  have hrn : σ.f (nd P.t a 0) = hdN r := by have := (hlk.at_ 0 (by simp)).2.2; simpa using this
  have hle : hdN r ≤ P.s := by have := hd_le hlk 1; simpa using this
  have hge : (0 : Int) ≤ (hdN r : Int) := by omega
  have hO : O a = 0 := (hol a a1 a2).2 List.mem_cons_self
  have hH : σ.H (a - 1) = false := (h.hh a a1 a2).2 (.inl hO)
  have hcan : Gd.canT P.s σ.H a = true := by
    unfold Gd.canT
    rw [show ((a : Int).toNat - 1) = a - 1 by omega, hH]
    simp; omega
  have hT : Gd.takeH P.s σ.H a = Gd.setB σ.H (a - 1) true := by
    unfold Gd.takeH; rw [if_pos hcan, show ((a : Int).toNat - 1) = a - 1 by omega]
  have er : rTake P k 0 σ.stp = nyS σ k (setF (σ.Ts k) 0 ⟨((σ.Ts k).fs 0).fn, 3, ((σ.Ts k).fs 0).r⟩) (Mm.upd σ.f 2 (chgI (σ.f 2) (hdN r))) (Gd.setB σ.H (a - 1) true) σ.G σ.flt σ.sl := by
    have e1 : rTake P k 0 σ.stp = nyS σ k (setF (σ.Ts k) 0 ⟨((σ.Ts k).fs 0).fn, 3, ((σ.Ts k).fs 0).r⟩) (Mm.upd σ.f 2 (chgI (((σ.Ts k).fs 0).r 0) (((σ.Ts k).fs 0).r 1))) (Gd.takeH P.s σ.H (((σ.Ts k).fs 0).r 0 % 4096)) σ.G σ.flt (if Gd.canT P.s σ.H (((σ.Ts k).fs 0).r 0 % 4096) = true then σ.sl else σ.sl + 1) := by
      unfold rTake; rw [if_neg (show ¬ ((σ.stp.Ts k).fs 0).pc = 0 from by show ¬ ((σ.Ts k).fs 0).pc = 0; omega), if_neg (show ¬ ((σ.stp.Ts k).fs 0).pc = 1 from by show ¬ ((σ.Ts k).fs 0).pc = 1; omega), if_pos (show ((σ.stp.Ts k).fs 0).pc = 2 from hpc), if_pos (show (σ.stp.f 2 == ((σ.stp.Ts k).fs 0).r 0) = true from hz)]; rfl
    rw [e1, ha, hT, if_pos hcan, ← hz', hx, hrn]
  obtain ⟨hcd, hc0⟩ := chg_div (h := σ.f 2) (x := hdN r) hct.1 (by omega)
  have hu := List.nodup_cons.1 hun
  have eu : ∀ b j, Mm.upd σ.f 2 (chgI (σ.f 2) (hdN r)) (nd P.t b j) = σ.f (nd P.t b j) := fun b j => upd_ne _ _ nd_ne2
  have hgn := h.gn a a1 a2
  rw [er]
  refine .inl ⟨by rw [nyS_at]; exact hn, ?_, r, updO O a (2 * k + 3), h.nx hk a (fun i hi => nyS_oth _ _ _ _ _ _ _ _ hi) (.inl hO) (fun b b1 b2 hb => ⟨updO_ne _ _ hb, rfl, setB_ne _ _ (by omega), eu b 0, eu b 1⟩) (fun b b1 b2 _ => hno b b1 b2) (.inr ?_) ?_ ⟨?_, fun j hj => ?_⟩ hu.2 (fun b b1 b2 => ?_) (fun _ _ => .inr (.inr (updO_at _ _ _))) (fun _ _ => ?_) (fun _ _ => ?_) (fun _ _ => ?_) (.inr ?_) (fun _ _ _ => ?_) (fun _ _ => rfl) (h.keep hk a (.inl hO) fun b b1 b2 hb => ⟨updO_ne _ _ hb, rfl⟩) (h.hu k hk) ⟨rfl, rfl⟩ h.ok⟩
  · rw [nyS_at, setF_fs]
    show rkS ⟨_, 3, ((σ.Ts k).fs 0).r⟩ _ < _
    simp [rkS, hfn, hpc, hz']
  · show _ < Mm.upd σ.f 2 (chgI (σ.f 2) (hdN r)) 2 / 4096; rw [upd_at]; omega
  · show 0 ≤ Mm.upd σ.f 2 (chgI (σ.f 2) (hdN r)) 2 ∧ Mm.upd σ.f 2 (chgI (σ.f 2) (hdN r)) 2 / 4096 ≤ _; rw [upd_at]; omega
  · show Mm.upd σ.f 2 (chgI (σ.f 2) (hdN r)) 2 % 4096 = _; rw [upd_at, chg_mod hge (by omega)]
  · have := hlk.at_ (j + 1) (by simpa using hj)
    show _ ∧ _ ∧ Mm.upd σ.f 2 (chgI (σ.f 2) (hdN r)) _ = _
    rw [eu]
    simpa using this
  · by_cases e : b = a
    · subst e; rw [updO_at]; simp [hu.1]
    · rw [updO_ne _ _ e, hol b b1 b2, List.mem_cons]
      constructor
      · rintro (h1 | h1)
        · exact absurd h1 e
        · exact h1
      · exact .inr
  · show Gd.setB σ.H (a - 1) true (a - 1) = false ↔ _
    rw [setB_at, updO_at, nyS_at]
    constructor
    · intro h; cases h
    · rintro (h1 | ⟨_, h1⟩)
      · omega
      · have h2 : (setF (σ.Ts k) 0 (⟨((σ.Ts k).fs 0).fn, 3, ((σ.Ts k).fs 0).r⟩ : Th.Fm)).nf = 1 ∧ _ := h1
        have h3 := h2.2.1
        rw [setF_fs] at h3
        have h4 : ((σ.Ts k).fs 0).fn = 2 := h3
        omega
  · show Mm.upd σ.f 2 (chgI (σ.f 2) (hdN r)) (nd P.t a 1) = σ.G (a - 1) ∧ 0 ≤ σ.G (a - 1) ∧ σ.G (a - 1) ≤ _
    rw [eu]; omega
  · show 0 ≤ Mm.upd σ.f 2 (chgI (σ.f 2) (hdN r)) (nd P.t a 0) ∧ Mm.upd σ.f 2 (chgI (σ.f 2) (hdN r)) (nd P.t a 0) ≤ _
    rw [eu]; exact h.lb a a1 a2
  · rw [nyS_at]
    refine ⟨hn, ?_⟩
    rw [setF_fs]
    exact .inl ⟨hfn, hr.1, hr.2, .inr ⟨a, ha, a1, a2, .inr (.inr ⟨rfl, updO_at _ _ _⟩)⟩⟩
  · rw [nyS_at]
    refine ⟨hn, ?_⟩
    rw [setF_fs]
    exact ⟨ha, .inr ⟨hfn, rfl⟩⟩
end
end Go.Proofs.Ytaaciolfgplnoaa.Sl
