/- GBB: several texts in one. -/
import Derived.Test.YtaaciolfgplnoaaGBA
/- Layer 19: a step of one thread among others, whatever it does (no program in it). -/
namespace Go.Proofs.Ytaaciolfgplnoaa.Lb
open Go.RowKit WordM EdgeM Sl
set_option linter.unusedVariables false
set_option linter.unusedSimpArgs false
section
variable {P : Pc} {σ : Sg} {g : Gh} {n k : Nat}
theorem XS.le (h : XS P σ g n) {m : Nat} (hm : n ≤ m) : XS P σ g m :=
  ⟨h.lk, h.un, h.ol, h.hh, fun a a1 a2 => by have := h.gn a a1 a2; omega, h.lb, by have := h.ct; omega, by have := h.ep; omega, h.ai, h.th, h.ow, h.xt, h.one, h.xe, h.xu, h.xc, h.wh, h.ch, h.sta, by have := h.ac; omega, h.ok⟩
theorem XS.mem (h : XS P σ g n) {a : Nat} (ha : a ∈ g.L) : 1 ≤ a ∧ a ≤ P.s := by
  obtain ⟨j, hj, rfl⟩ := List.getElem_of_mem ha
  exact ⟨(h.lk.at_ j hj).1, (h.lk.at_ j hj).2.1⟩
theorem XS.held (h : XS P σ g n) {a : Nat} (a1 : 1 ≤ a) (a2 : a ≤ P.s) (h0 : g.O a ≠ 0) (h3 : ∀ j, g.O a ≠ 10 * j + 3) : σ.H (a - 1) = true := by
  cases e : σ.H (a - 1) with
  | true => rfl
  | false =>
    rcases (h.hh a a1 a2).1 e with h1 | ⟨j, _, h1, _⟩
    · exact absurd h1 h0
    · exact absurd h1 (h3 j)
theorem XS.nx (h : XS P σ g n) (hk : k < P.t) {σ' : Sg} {g' : Gh} (b : Nat)
    (hoth : ∀ i, i ≠ k → σ'.Ts i = σ.Ts i) (hb : b = 0 ∨ g.O b = 0 ∨ ofK k (g.O b))
    (hs : ∀ a, 1 ≤ a → a ≤ P.s → a ≠ b → g'.O a = g.O a ∧ g'.W a = g.W a ∧ σ'.G (a - 1) = σ.G (a - 1) ∧ σ'.H (a - 1) = σ.H (a - 1) ∧ σ'.f (nd P.t a 0) = σ.f (nd P.t a 0) ∧ σ'.f (nd P.t a 1) = σ.f (nd P.t a 1))
    (hbo : 1 ≤ b → b ≤ P.s → g'.O b = 0 ∨ ofK k (g'.O b))
    (hq : ∀ a, 1 ≤ a → a ≤ P.s → a ≠ b → g.O a = 10 * k + 3 → ownF (σ'.Ts k) a ∧ (lim (σ'.Ts k) ↔ lim (σ.Ts k)))
    (how : 1 ≤ b → b ≤ P.s → g'.O b = 10 * k + 3 → ownF (σ'.Ts k) b)
    (hep : σ.f 1 ≤ σ'.f 1 ∧ σ'.f 1 ≤ n + 4) (hai : ∀ j, j < P.t → σ'.f (aI j) = σ.f (aI j))
    (hst : ∀ i, i < P.t → i ≠ k → ∀ c, c < 3 → σ'.f (stI i c) = σ.f (stI i c) ∧ σ'.f (bgI i c) = σ.f (bgI i c))
    (h2 : (σ'.f 2 = σ.f 2 ∧ (1 ≤ b → g.O b = 0 → σ'.f (nd P.t b 0) = σ.f (nd P.t b 0))) ∨ σ.f 2 / 4096 < σ'.f 2 / 4096)
    (hct : 0 ≤ σ'.f 2 ∧ σ'.f 2 / 4096 ≤ n + 1)
    (hlk : Lk P.t P.s σ'.f (σ'.f 2 % 4096) g'.L) (hun : g'.L.Nodup) (hol : ∀ a, 1 ≤ a → a ≤ P.s → (g'.O a = 0 ↔ a ∈ g'.L))
    (hX : ∀ v, ¬ ofK k v → g'.X v = g.X v)
    (hxe : ∀ v, ofK k v → ∀ e ∈ g'.X v, edX P.s g'.O σ'.G v e) (hxu : ∀ v, ofK k v → ((g'.X v).map sl).Nodup)
    (hxc : ∀ a, 1 ≤ a → a ≤ P.s → ofK k (g'.O a) → g'.O a ≠ 10 * k + 3 → ∃ e ∈ g'.X (g'.O a), e % 4096 = a)
    (hwh : 1 ≤ b → b ≤ P.s → g'.O b = 10 * k + 2 → g'.W b < 0)
    (hch : ∀ c, c < 3 → Ch P.t σ'.f (rootOf (σ'.Ts k) σ'.f k c) (g'.X (10 * k + 4 + c)))
    (hsta : ∀ c, c < 3 → (0 ≤ σ'.f (stI k c) ∧ σ'.f (stI k c) ≤ σ'.f 1) ∧ (g'.X (10 * k + 4 + c) ≠ [] → σ'.f (stI k c) % 3 = c) ∧ ∀ e ∈ g'.X (10 * k + 4 + c), g'.W (sl e) ≤ σ'.f (stI k c))
    (hbh : 1 ≤ b → b ≤ P.s → (σ'.H (b - 1) = false ↔ (g'.O b = 0 ∨ (g'.O b = 10 * k + 3 ∧ lim (σ'.Ts k)))))
    (hbg : 1 ≤ b → b ≤ P.s → σ'.f (nd P.t b 1) = σ'.G (b - 1) ∧ 0 ≤ σ'.G (b - 1) ∧ σ'.G (b - 1) ≤ n + 1)
    (hbl : 1 ≤ b → b ≤ P.s → 0 ≤ σ'.f (nd P.t b 0) ∧ σ'.f (nd P.t b 0) < 4611686018427387904)
    (hw : TI P σ'.f σ'.G g' k (σ'.Ts k))
    (hac : (σ'.acc = σ.acc ∨ σ'.acc = σ.acc + 1) ∧ σ'.steps = σ.steps + 1) (hok : σ'.flt = false ∧ σ'.sl = 0 ∧ σ'.odd = false) : XS P σ' g' (n + 1) := by
  have ac := h.ac
  -- a slot of another thread is not b, and stays
  have hoa : ∀ i, i ≠ k → ∀ a, 1 ≤ a → a ≤ P.s → ofK i (g.O a) → a ≠ b := fun i hi a a1 a2 ho e => by
    subst e
    rcases hb with h3 | h3 | h3
    · omega
    · rw [h3] at ho; exact (ofK_pos ho).1 rfl
    · exact hi (ofK_inj ho h3)
  have hob : ∀ i, i ≠ k → ∀ a, 1 ≤ a → a ≤ P.s → ofK i (g'.O a) → a ≠ b := fun i hi a a1 a2 ho e => by
    subst e
    rcases hbo a1 a2 with h3 | h3
    · rw [h3] at ho; exact (ofK_pos ho).1 rfl
    · exact hi (ofK_inj ho h3)
  have hXi : ∀ i, i ≠ k → ∀ v, ofK i v → g'.X v = g.X v := fun i hi v hv => hX v fun h9 => hi (ofK_inj hv h9)
  have hsee : ∀ i, i < P.t → i ≠ k → Sees P σ.f σ'.f σ.G σ'.G g g' i := fun i hit hi => by
    refine ⟨hXi i hi, fun a a1 a2 ho => ?_, hst i hit hi, hep.1, ?_⟩
    · obtain ⟨e1, e2, e3, _, e5, _⟩ := hs a a1 a2 (hoa i hi a a1 a2 ho)
      exact ⟨e1, e2, e3, e5⟩
    · rcases h2 with ⟨h3, h4⟩ | h3
      · refine .inl ⟨h3, fun a a1 a2 h0 => ?_⟩
        by_cases e : a = b
        · subst e; exact h4 a1 h0
        · exact (hs a a1 a2 e).2.2.2.2.1
      · exact .inr h3
  refine ⟨hlk, hun, hol, fun a a1 a2 => ?_, fun a a1 a2 => ?_, fun a a1 a2 => ?_, hct, ?_, fun j hj => by rw [hai j hj]; exact h.ai j hj, fun j hj => ?_, fun a a1 a2 j hj => ?_, fun a a1 a2 => ?_, fun a a1 a2 => ?_, fun j hj v hv => ?_, fun j hj v hv => ?_, fun a a1 a2 j hj ho h3 => ?_, fun a a1 a2 j hj => ?_, fun j hj c hc => ?_, fun j hj c hc => ?_, by omega, hok⟩
  · by_cases e : a = b
    · subst e
      rw [hbh a1 a2]
      constructor
      · rintro (h1 | ⟨h1, h2⟩)
        · exact .inl h1
        · exact .inr ⟨k, hk, h1, h2⟩
      · rintro (h1 | ⟨j, hj, h1, h2⟩)
        · exact .inl h1
        · rcases hbo a1 a2 with h3 | h3
          · exact .inl h3
          · have : j = k := ofK_inj (v := g'.O a) (by rw [h1]; exact ofK_3 j) h3
            subst this; exact .inr ⟨h1, h2⟩
    · obtain ⟨e1, _, _, e3, _⟩ := hs a a1 a2 e
      rw [e1, e3, h.hh a a1 a2]
      constructor
      · rintro (h1 | ⟨j, hj, h1, h2⟩)
        · exact .inl h1
        · refine .inr ⟨j, hj, h1, ?_⟩
          by_cases e9 : j = k
          · subst e9; exact (hq a a1 a2 e h1).2.2 h2
          · rw [hoth j e9]; exact h2
      · rintro (h1 | ⟨j, hj, h1, h2⟩)
        · exact .inl h1
        · refine .inr ⟨j, hj, h1, ?_⟩
          by_cases e9 : j = k
          · subst e9; exact (hq a a1 a2 e h1).2.1 h2
          · rw [hoth j e9] at h2; exact h2
  · by_cases e : a = b
    · subst e; have := hbg a1 a2; exact ⟨this.1, this.2.1, by omega⟩
    · obtain ⟨_, _, e2, _, _, e5⟩ := hs a a1 a2 e
      rw [e2, e5]; have := h.gn a a1 a2; exact ⟨this.1, this.2.1, by omega⟩
  · by_cases e : a = b
    · subst e; exact hbl a1 a2
    · obtain ⟨_, _, _, _, e4, _⟩ := hs a a1 a2 e
      rw [e4]; exact h.lb a a1 a2
  · have := h.ep; omega
  · by_cases e : j = k
    · subst e; exact hw
    · rw [hoth j e]
      exact (h.th j hj).oth (hsee j hj e) h.lk h.ol (h.xe j hj)
  · by_cases e : a = b
    · subst e
      rcases hbo a1 a2 with h3 | h3
      · omega
      · have : j = k := ofK_inj (v := g'.O a) (by rw [hj]; exact ofK_3 j) h3
        subst this; exact ⟨hk, how a1 a2 hj⟩
    · rw [(hs a a1 a2 e).1] at hj
      by_cases e9 : j = k
      · subst e9; exact ⟨hk, (hq a a1 a2 e hj).1⟩
      · rw [hoth j e9]; exact h.ow a a1 a2 j hj
  · by_cases e : a = b
    · subst e
      rcases hbo a1 a2 with h3 | h3
      · exact .inl h3
      · exact .inr (.inr ⟨k, hk, h3⟩)
    · rw [(hs a a1 a2 e).1]; exact h.xt a a1 a2
  · by_cases e : a = b
    · subst e
      have h1 : g.O a ≠ 1 := by
        rcases hb with h3 | h3 | h3
        · omega
        · omega
        · exact (ofK_pos h3).2
      have h2 : g'.O a ≠ 1 := by
        rcases hbo a1 a2 with h3 | h3
        · omega
        · exact (ofK_pos h3).2
      have := h.one a a1 a2
      constructor
      · intro h9; exact absurd h9 h2
      · intro h9; exact absurd (this.2 h9) h1
    · rw [(hs a a1 a2 e).1]; exact h.one a a1 a2
  · by_cases e : j = k
    · subst e; exact hxe v hv
    · rw [hXi j e v hv]
      intro x hx
      refine (h.xe j hj v hv x hx).on fun a a1 a2 ho => ?_
      obtain ⟨e1, _, e3, _⟩ := hs a a1 a2 (hoa j e a a1 a2 (by rw [ho]; exact hv))
      exact ⟨e1, e3⟩
  · by_cases e : j = k
    · subst e; exact hxu v hv
    · rw [hXi j e v hv]; exact h.xu j hj v hv
  · by_cases e : j = k
    · subst e; exact hxc a a1 a2 ho h3
    · have e1 := (hs a a1 a2 (hob j e a a1 a2 ho)).1
      rw [e1] at ho h3 ⊢
      rw [hXi j e _ ho]
      exact h.xc a a1 a2 j hj ho h3
  · by_cases e : a = b
    · subst e
      rcases hbo a1 a2 with h3 | h3
      · omega
      · have : j = k := ofK_inj (v := g'.O a) (by rw [hj]; exact ofK_2 j) h3
        subst this; exact hwh a1 a2 hj
    · obtain ⟨e1, e2, _⟩ := hs a a1 a2 e
      rw [e1] at hj; rw [e2]; exact h.wh a a1 a2 j hj
  · by_cases e : j = k
    · subst e; exact hch c hc
    · have hv := ofK_b (k := j) hc
      rw [hoth j e, hXi j e _ hv]
      have h9 : rootOf (σ.Ts j) σ'.f j c = rootOf (σ.Ts j) σ.f j c := by unfold rootOf; rw [(hst j hj e c hc).2]
      rw [h9]
      refine (h.ch j hj c hc).on fun x hx => ?_
      have hx := (h.xe j hj _ hv x hx).slot
      exact (hs _ hx.1 hx.2.1 (hoa j e _ hx.1 hx.2.1 (by rw [hx.2.2.1]; exact hv))).2.2.2.2.1
  · by_cases e : j = k
    · subst e; exact hsta c hc
    · have hv := ofK_b (k := j) hc
      rw [hXi j e _ hv, (hst j hj e c hc).1]
      obtain ⟨⟨s0, s1⟩, s2, s3⟩ := h.sta j hj c hc
      refine ⟨⟨s0, Int.le_trans s1 hep.1⟩, s2, fun x hx => ?_⟩
      have hx2 := (h.xe j hj _ hv x hx).slot
      rw [(hs _ hx2.1 hx2.2.1 (hoa j e _ hx2.1 hx2.2.1 (by rw [hx2.2.2.1]; exact hv))).2.1]
      exact s3 x hx
end
end Go.Proofs.Ytaaciolfgplnoaa.Lb

/- Layer 19: what a step comes to; steps that read, and that write one word (no program in it). -/
namespace Go.Proofs.Ytaaciolfgplnoaa.Lb
open Go.RowKit WordM EdgeM Sl
set_option linter.unusedVariables false
set_option linter.unusedSimpArgs false
def nz (σ : Sg) (k : Nat) (T : Th.Td) (f : Nat → Int) (H : Nat → Bool) (G : Nat → Int) (acc : Int) : Sg := { σ.stp.thr k T with acc := acc, f := f, H := H, G := G }
theorem nz_at (σ : Sg) (k : Nat) (T : Th.Td) (f : Nat → Int) (H : Nat → Bool) (G : Nat → Int) (acc : Int) : (nz σ k T f H G acc).Ts k = T := by unfold nz Sg.thr; simp
theorem nz_oth (σ : Sg) (k : Nat) (T : Th.Td) (f : Nat → Int) (H : Nat → Bool) (G : Nat → Int) (acc : Int) {i : Nat} (h : i ≠ k) : (nz σ k T f H G acc).Ts i = σ.Ts i := by unfold nz Sg.thr; simp only [if_neg h]; rfl
def bn (g : Gh) (k : Nat) : Nat := (g.X (10 * k + 4)).length + (g.X (10 * k + 5)).length + (g.X (10 * k + 6)).length
/-- How many steps it takes at most, alone. -/
def rkB (F : Th.Fm) : Nat := if F.fn = 20 then 4 else 5 * (3 - (F.r 1).toNat) + 1
def rkA (t : Nat) (F : Th.Fm) : Nat := if F.pc = 0 then t + 2 else if F.pc = 1 then t + 1 - (F.r 1).toNat else 1
def rkR (B : Nat) (F : Th.Fm) : Nat := if F.pc = 0 then 7 * B + 12 else if F.pc = 1 then 7 * B + 11 else (6 - F.pc).toNat
def rkC (B : Nat) (F : Th.Fm) : Nat := if F.pc = 0 then 7 * B + 30 else 7 * B + 5 * (3 - (F.r 1).toNat) + 1
def rkD (F : Th.Fm) : Nat := if F.pc = 0 then 4 else if F.pc = 1 then 3 else 2
def rk (t : Nat) (T : Th.Td) (h : Int) (B : Nat) : Nat :=
  if T.nf = 0 then 0
  else if T.nf = 1 then (if (T.fs 0).fn = 1 then rkS (T.fs 0) h else if (T.fs 0).fn = 12 then rkA t (T.fs 0) else if (T.fs 0).fn = 20 then rkR B (T.fs 0) else rkC B (T.fs 0))
  else if T.nf = 2 then rkB (T.fs 0) + 7 * B + rkD (T.fs 1)
  else rkB (T.fs 0) + 7 * B + 2 + rkS (T.fs 2) h
theorem rk_1T {t : Nat} {T : Th.Td} {h : Int} {B : Nat} (hn : T.nf = 1) (hf : (T.fs 0).fn = 1) : rk t T h B = rkS (T.fs 0) h := by unfold rk; rw [if_neg (by omega), if_pos hn, if_pos hf]
theorem rk_1A {t : Nat} {T : Th.Td} {h : Int} {B : Nat} (hn : T.nf = 1) (hf : (T.fs 0).fn = 12) : rk t T h B = rkA t (T.fs 0) := by unfold rk; rw [if_neg (by omega), if_pos hn, if_neg (by omega), if_pos hf]
theorem rk_1R {t : Nat} {T : Th.Td} {h : Int} {B : Nat} (hn : T.nf = 1) (hf : (T.fs 0).fn = 20) : rk t T h B = rkR B (T.fs 0) := by unfold rk; rw [if_neg (by omega), if_pos hn, if_neg (by omega), if_neg (by omega), if_pos hf]
theorem rk_1C {t : Nat} {T : Th.Td} {h : Int} {B : Nat} (hn : T.nf = 1) (hf : (T.fs 0).fn = 22) : rk t T h B = rkC B (T.fs 0) := by unfold rk; rw [if_neg (by omega), if_pos hn, if_neg (by omega), if_neg (by omega), if_neg (by omega)]
theorem rk_2 {t : Nat} {T : Th.Td} {h : Int} {B : Nat} (hn : T.nf = 2) : rk t T h B = rkB (T.fs 0) + 7 * B + rkD (T.fs 1) := by unfold rk; rw [if_neg (by omega), if_neg (by omega), if_pos hn]
theorem rk_3 {t : Nat} {T : Th.Td} {h : Int} {B : Nat} (hn : T.nf = 3) : rk t T h B = rkB (T.fs 0) + 7 * B + 2 + rkS (T.fs 2) h := by unfold rk; rw [if_neg (by omega), if_neg (by omega), if_neg (by omega)]
def took (T : Th.Td) : Prop := T.nf = 1 ∧ (T.fs 0).fn = 1
/-- What a step comes to. -/
structure SO (P : Pc) (σ σ' : Sg) (k : Nat) (g g' : Gh) (n : Nat) : Prop where
  xs : XS P σ' g' (n + 1)
  eff : ∀ a, 1 ≤ a → a ≤ P.s → (σ'.G (a - 1) = σ.G (a - 1) ∧ σ'.H (a - 1) = σ.H (a - 1) ∧ g'.W a = g.W a) ∨ σ.H (a - 1) = false ∨ (g.W a + 3 ≤ σ.f 1 ∧ σ'.H (a - 1) = false)
  rk : (σ'.Ts k).nf = 0 ∨ rk P.t (σ'.Ts k) (σ'.f 2) (bn g' k) < rk P.t (σ.Ts k) (σ.f 2) (bn g k)
  E : ((∀ j, g'.X (10 * j + 2) = g.X (10 * j + 2)) ∧ (took (σ.Ts k) → (σ'.Ts k).nf = 0 → (σ'.Ts k).ret 0 = 0)) ∨
    (took (σ.Ts k) ∧ (σ'.Ts k).nf = 0 ∧ 0 < (σ'.Ts k).ret 0 ∧ (σ'.Ts k).ret 0 < 4611686018427387904 ∧ g'.X (10 * k + 2) = g.X (10 * k + 2) ++ [(σ'.Ts k).ret 0] ∧ ∀ j, j ≠ k → g'.X (10 * j + 2) = g.X (10 * j + 2))
section
variable {P : Pc} {σ : Sg} {g : Gh} {n k : Nat}
theorem st_ne {k i b c : Nat} (hi : i ≠ k) (hb : b < 3) (hc : c < 3) : stI i c ≠ stI k b ∧ stI i c ≠ bgI k b ∧ bgI i c ≠ stI k b ∧ bgI i c ≠ bgI k b := by unfold stI bgI; omega
theorem st_lo {t k b a j : Nat} (hk : k < t) (hb : b < 3) : stI k b ≠ nd t a j ∧ bgI k b ≠ nd t a j ∧ stI k b ≠ 1 ∧ stI k b ≠ 2 ∧ bgI k b ≠ 1 ∧ bgI k b ≠ 2 := by unfold stI bgI nd; omega
theorem st_bg {k b c : Nat} (hb : b < 3) (hc : c < 3) : stI k b ≠ bgI k c := by unfold stI bgI; omega
theorem ai_ne {k b j : Nat} (hb : b < 3) : aI j ≠ stI k b ∧ aI j ≠ bgI k b ∧ aI j ≠ 1 ∧ aI j ≠ 2 := by unfold aI stI bgI; omega
theorem ai_nd {t j a i : Nat} (hj : j < t) : aI j ≠ nd t a i := by unfold aI nd; omega
theorem nd_1 {t a i : Nat} : nd t a i ≠ 1 := by unfold nd; omega
theorem root_lt {T : Th.Td} {f : Nat → Int} {k c : Nat} (h : T.nf < 2) : rootOf T f k c = f (bgI k c) := by unfold rootOf; rw [if_neg (by omega)]
theorem root_pc {T : Th.Td} {f : Nat → Int} {k c : Nat} (h : (T.fs 1).pc ≠ 2) : rootOf T f k c = f (bgI k c) := by unfold rootOf; rw [if_neg (by rintro ⟨_, e, _⟩; exact h e)]
theorem root_at {T : Th.Td} {f : Nat → Int} {k c : Nat} (h : 2 ≤ T.nf) (h1 : (T.fs 1).pc = 2) (h2 : (T.fs 1).r 0 = c) : rootOf T f k c = (T.fs 1).r 1 := by unfold rootOf; rw [if_pos ⟨h, h1, h2⟩]
theorem root_ne {T : Th.Td} {f : Nat → Int} {k c : Nat} (h2 : (T.fs 1).r 0 ≠ c) : rootOf T f k c = f (bgI k c) := by unfold rootOf; rw [if_neg (by rintro ⟨_, _, e⟩; exact h2 e)]
/-- A step that writes, at most, a word that is no slot's generation and no list's head. -/
theorem XS.wr (h : XS P σ g n) (hk : k < P.t) {T : Th.Td} {f' : Nat → Int} {acc : Int} (b : Nat) (hb : b = 0 ∨ ofK k (g.O b)) (hac : acc = σ.acc ∨ acc = σ.acc + 1)
    (hf2 : f' 2 = σ.f 2) (hep : σ.f 1 ≤ f' 1 ∧ f' 1 ≤ n + 4) (hai : ∀ j, j < P.t → f' (aI j) = σ.f (aI j))
    (hst : ∀ i, i < P.t → i ≠ k → ∀ c, c < 3 → f' (stI i c) = σ.f (stI i c) ∧ f' (bgI i c) = σ.f (bgI i c))
    (hnd : ∀ a, 1 ≤ a → a ≤ P.s → (a ≠ b → f' (nd P.t a 0) = σ.f (nd P.t a 0)) ∧ f' (nd P.t a 1) = σ.f (nd P.t a 1))
    (hbl : 1 ≤ b → b ≤ P.s → 0 ≤ f' (nd P.t b 0) ∧ f' (nd P.t b 0) < 4611686018427387904)
    (how : ∀ a, 1 ≤ a → a ≤ P.s → g.O a = 10 * k + 3 → ownF T a ∧ (lim T ↔ lim (σ.Ts k)))
    (hch : ∀ c, c < 3 → Ch P.t f' (rootOf T f' k c) (g.X (10 * k + 4 + c)))
    (hsta : ∀ c, c < 3 → (0 ≤ f' (stI k c) ∧ f' (stI k c) ≤ f' 1) ∧ (g.X (10 * k + 4 + c) ≠ [] → f' (stI k c) % 3 = c) ∧ ∀ e ∈ g.X (10 * k + 4 + c), g.W (sl e) ≤ f' (stI k c))
    (hw : TI P f' σ.G g k T) : XS P (nz σ k T f' σ.H σ.G acc) g (n + 1) := by
  have hct := h.ct
  have hb0 : 1 ≤ b → g.O b ≠ 0 := fun b1 e => by
    rcases hb with h3 | h3
    · omega
    · exact (ofK_pos h3).1 e
  have hlk : ∀ a ∈ g.L, f' (nd P.t a 0) = σ.f (nd P.t a 0) := fun a ha => by
    obtain ⟨a1, a2⟩ := h.mem ha
    exact (hnd a a1 a2).1 fun e => by subst e; exact hb0 a1 ((h.ol a a1 a2).2 ha)
  refine h.nx hk b (fun i hi => nz_oth _ _ _ _ _ _ _ hi) (by rcases hb with h3 | h3; exact .inl h3; exact .inr (.inr h3)) (fun a a1 a2 e => ⟨rfl, rfl, rfl, rfl, (hnd a a1 a2).1 e, (hnd a a1 a2).2⟩) (fun b1 _ => .inr (by rcases hb with h3 | h3; omega; exact h3))
    (fun a a1 a2 _ ho => by rw [nz_at]; exact how a a1 a2 ho) (fun b1 b2 ho => by rw [nz_at]; exact (how b b1 b2 ho).1) hep hai hst (.inl ⟨hf2, fun b1 e => absurd e (hb0 b1)⟩) (by show 0 ≤ f' 2 ∧ f' 2 / 4096 ≤ _; rw [hf2]; omega)
    ⟨?_, fun j hj => ?_⟩ h.un h.ol (fun _ _ => rfl) (fun v hv => h.xe k hk v hv) (fun v hv => h.xu k hk v hv) (fun a a1 a2 ho h3 => h.xc a a1 a2 k hk ho h3) (fun b1 b2 ho => h.wh b b1 b2 k ho) (fun c hc => by rw [nz_at]; exact hch c hc) hsta
    (fun b1 b2 => ?_) (fun b1 b2 => ?_) hbl (by rw [nz_at]; exact hw) ⟨hac, rfl⟩ h.ok
  · show f' 2 % 4096 = _; rw [hf2]; exact h.lk.hd
  · have h9 := h.lk.at_ j hj
    refine ⟨h9.1, h9.2.1, ?_⟩
    show f' _ = _
    rw [hlk _ (List.getElem_mem hj)]; exact h9.2.2
  · show σ.H (b - 1) = false ↔ _
    rw [h.hh b b1 b2, nz_at]
    constructor
    · rintro (e | ⟨j, hj, e1, e3⟩)
      · exact .inl e
      · have : j = k := by
          rcases hb with h3 | h3
          · omega
          · exact ofK_inj (v := g.O b) (by rw [e1]; exact ofK_3 j) h3
        subst this
        exact .inr ⟨e1, (how b b1 b2 e1).2.2 e3⟩
    · rintro (e | ⟨e1, e3⟩)
      · exact .inl e
      · exact .inr ⟨k, hk, e1, (how b b1 b2 e1).2.1 e3⟩
  · have hg := h.gn b b1 b2
    show f' (nd P.t b 1) = σ.G (b - 1) ∧ _
    rw [(hnd b b1 b2).2]; exact ⟨hg.1, hg.2.1, by show σ.G (b - 1) ≤ _; omega⟩
/-- A step that reads. -/
theorem XS.rd (h : XS P σ g n) (hk : k < P.t) {T : Th.Td} {acc : Int} (hac : acc = σ.acc ∨ acc = σ.acc + 1)
    (hroot : ∀ c, c < 3 → rootOf T σ.f k c = rootOf (σ.Ts k) σ.f k c)
    (how : ∀ a, 1 ≤ a → a ≤ P.s → g.O a = 10 * k + 3 → ownF T a ∧ (lim T ↔ lim (σ.Ts k)))
    (hw : TI P σ.f σ.G g k T) : XS P (nz σ k T σ.f σ.H σ.G acc) g (n + 1) := by
  have hep := h.ep
  exact h.wr hk 0 (.inl rfl) hac rfl ⟨Int.le_refl _, by omega⟩ (fun _ _ => rfl) (fun _ _ _ _ _ => ⟨rfl, rfl⟩) (fun _ _ _ => ⟨fun _ => rfl, rfl⟩) (fun b1 _ => by omega) how (fun c hc => by rw [hroot c hc]; exact h.ch k hk c hc) (h.sta k hk) hw
/-- A thread whose top frame neither takes nor gives has no slot of the tag 3. -/
theorem XS.no3 (h : XS P σ g n) {m : Nat} (hm : (σ.Ts k).nf = m + 1) (h2 : ((σ.Ts k).fs m).fn ≠ 2) (h1 : ((σ.Ts k).fs m).fn = 1 → ((σ.Ts k).fs m).pc ≠ 3) : ∀ a, 1 ≤ a → a ≤ P.s → g.O a ≠ 10 * k + 3 := fun a a1 a2 e => by
  obtain ⟨_, m', e1, _, e2 | ⟨e2, e3⟩⟩ := h.ow a a1 a2 k e
  · have : m' = m := by omega
    subst this; exact h2 e2
  · have : m' = m := by omega
    subst this; exact h1 e2 e3
theorem eff0 {σ' : Sg} {g : Gh} (hG : σ'.G = σ.G) (hH : σ'.H = σ.H) : ∀ a, 1 ≤ a → a ≤ P.s → (σ'.G (a - 1) = σ.G (a - 1) ∧ σ'.H (a - 1) = σ.H (a - 1) ∧ g.W a = g.W a) ∨ σ.H (a - 1) = false ∨ (g.W a + 3 ≤ σ.f 1 ∧ σ'.H (a - 1) = false) := fun a _ _ => .inl ⟨by rw [hG], by rw [hH], rfl⟩
end
end Go.Proofs.Ytaaciolfgplnoaa.Lb

/- Layer 19: steps of Advance and Clean, and Retire's that read (no program in it). -/
namespace Go.Proofs.Ytaaciolfgplnoaa.Lb
open Go.RowKit WordM EdgeM Sl
set_option linter.unusedVariables false
set_option linter.unusedSimpArgs false
theorem setF_o (T : Th.Td) {m i : Nat} (F : Th.Fm) (h : i ≠ m) : (setF T m F).fs i = T.fs i := by unfold setF Th.upM; simp [h]
theorem callT_top (T : Th.Td) (fn : Int) (m : Nat) (L : Nat → Int) : (Th.callT T fn m L).fs T.nf = ⟨fn, 0, fun i => if i < m then L i else 0⟩ := by unfold Th.callT Th.upM; simp
theorem callT_o (T : Th.Td) (fn : Int) (m : Nat) (L : Nat → Int) {i : Nat} (h : i ≠ T.nf) : (Th.callT T fn m L).fs i = T.fs i := by unfold Th.callT Th.upM; simp [h]
section
variable {P : Pc} {σ : Sg} {g : Gh} {n k : Nat}
/-- A step that reads, of a thread within one frame. -/
theorem so_set1 (h : XS P σ g n) (hk : k < P.t) (hn : (σ.Ts k).nf = 1) {acc : Int} (hac : acc = σ.acc ∨ acc = σ.acc + 1) (h3 : ∀ a, 1 ≤ a → a ≤ P.s → g.O a ≠ 10 * k + 3) (F : Th.Fm) (hw : TI P σ.f σ.G g k (setF (σ.Ts k) 0 F))
    (hr : rk P.t (setF (σ.Ts k) 0 F) (σ.f 2) (bn g k) < rk P.t (σ.Ts k) (σ.f 2) (bn g k)) : SO P σ (nz σ k (setF (σ.Ts k) 0 F) σ.f σ.H σ.G acc) k g g n := by
  refine ⟨h.rd hk hac (fun c _ => ?_) (fun a a1 a2 ho => absurd ho (h3 a a1 a2)) hw, eff0 rfl rfl, .inr ?_, .inl ⟨fun _ => rfl, fun _ h0 => ?_⟩⟩
  · rw [root_lt (show (setF (σ.Ts k) 0 F).nf < 2 by show (σ.Ts k).nf < 2; omega), root_lt (by omega)]
  · rw [nz_at]; exact hr
  · rw [nz_at] at h0; have h1 : (σ.Ts k).nf = 0 := h0; omega
/-- A step that reads and goes back, of a thread within one frame. -/
theorem so_back1 (h : XS P σ g n) (hk : k < P.t) (hn : (σ.Ts k).nf = 1) {acc : Int} (hac : acc = σ.acc ∨ acc = σ.acc + 1) (h3 : ∀ a, 1 ≤ a → a ≤ P.s → g.O a ≠ 10 * k + 3) (h7 : g.X (10 * k + 7) = []) (T : Th.Td) (hT : T.nf = 0) (ht : took (σ.Ts k) → T.ret 0 = 0) : SO P σ (nz σ k T σ.f σ.H σ.G acc) k g g n := by
  refine ⟨h.rd hk hac (fun c _ => ?_) (fun a a1 a2 ho => absurd ho (h3 a a1 a2)) (.inl ⟨hT, h7⟩), eff0 rfl rfl, .inl (by rw [nz_at]; exact hT), .inl ⟨fun _ => rfl, fun h9 _ => by rw [nz_at]; exact ht h9⟩⟩
  rw [root_lt (by omega), root_lt (by omega)]
/-- A step that calls Drain, of a thread within one frame. -/
theorem so_call1 (h : XS P σ g n) (hk : k < P.t) (hn : (σ.Ts k).nf = 1) {acc : Int} (hac : acc = σ.acc ∨ acc = σ.acc + 1) (h3 : ∀ a, 1 ≤ a → a ≤ P.s → g.O a ≠ 10 * k + 3) (F : Th.Fm) (b : Nat) (hb : b < 3) (hbot : BotF σ.f g k F b)
    (hd : g.X (10 * k + 4 + b) = [] ∨ σ.f (stI k b) + 3 ≤ σ.f 1) (hr : rkB F + 7 * bn g k + 4 < rk P.t (σ.Ts k) (σ.f 2) (bn g k)) (hT : (σ.Ts k).fs 0 = (σ.Ts k).fs 0) : SO P σ (nz σ k (Th.callT (setF (σ.Ts k) 0 F) 21 1 (fun _ => (b : Int))) σ.f σ.H σ.G acc) k g g n := by
  have hn1 : (setF (σ.Ts k) 0 F).nf = 1 := hn
  have e1 : (Th.callT (setF (σ.Ts k) 0 F) 21 1 (fun _ => (b : Int))).fs 1 = ⟨21, 0, fun i => if i < 1 then (b : Int) else 0⟩ := by
    have := callT_top (setF (σ.Ts k) 0 F) 21 1 (fun _ => (b : Int)); rw [hn1] at this; exact this
  have e0 : (Th.callT (setF (σ.Ts k) 0 F) 21 1 (fun _ => (b : Int))).fs 0 = F := by rw [callT_o _ _ _ _ (by rw [hn1]; decide), setF_fs]
  have e2 : (Th.callT (setF (σ.Ts k) 0 F) 21 1 (fun _ => (b : Int))).nf = 2 := by show (setF (σ.Ts k) 0 F).nf + 1 = 2; omega
  refine ⟨h.rd hk hac (fun c _ => ?_) (fun a a1 a2 ho => absurd ho (h3 a a1 a2)) (.inr (.inr (.inl ⟨e2, b, ?_, ?_⟩))), eff0 rfl rfl, .inr ?_, .inl ⟨fun _ => rfl, fun _ h0 => ?_⟩⟩
  · rw [root_pc (by rw [e1]; exact (by decide : (0 : Int) ≠ 2)), root_lt (by omega)]
  · rw [e0]; exact hbot
  · rw [e1]
    exact ⟨rfl, rfl, hb, Int.le_refl _, by show (0 : Int) < _; decide, hd, .inl rfl⟩
  · rw [nz_at, rk_2 e2, e0, e1]; exact hr
  · rw [nz_at, e2] at h0; omega
/-! ### Advance -/
theorem so_adv (h : XS P σ g n) (hN : n ≤ 1000000) (ht : P.t ≤ 6) (hk : k < P.t) (hn : (σ.Ts k).nf = 1) (h7 : g.X (10 * k + 7) = []) (hF : AdvF P σ.f ((σ.Ts k).fs 0)) : ∃ σ' g', LS P k 0 σ.stp σ' ∧ SO P σ σ' k g g' n := by
  obtain ⟨hfn, hF⟩ := hF
  have hep := h.ep
  have h3 := h.no3 (m := 0) hn (by omega) (by omega)
  have hr0 : rk P.t (σ.Ts k) (σ.f 2) (bn g k) = rkA P.t ((σ.Ts k).fs 0) := rk_1A hn hfn
  have nt : took (σ.Ts k) → False := fun h9 => by have := h9.2; omega
  rcases hF with ⟨hpc, hr1⟩ | ⟨hpc, ha, hb, j, hj, hjt⟩ | ⟨hpc, ha, hb⟩
  · refine ⟨_, g, .adv0 (σ := σ.stp) hfn hpc, so_set1 h hk hn (.inr rfl) h3 ⟨((σ.Ts k).fs 0).fn, 1, updr ((σ.Ts k).fs 0).r 0 (σ.f 1)⟩ (.inr (.inl ⟨hn, .inl ⟨h7, .inr ?_⟩⟩)) ?_⟩
    · rw [setF_fs]
      refine ⟨hfn, .inr (.inl ⟨rfl, ?_, ?_, 0, ?_, by omega⟩)⟩
      · show 0 ≤ updr ((σ.Ts k).fs 0).r 0 (σ.f 1) 0; rw [updr_at]; omega
      · show updr ((σ.Ts k).fs 0).r 0 (σ.f 1) 0 ≤ _; rw [updr_at]; exact Int.le_refl _
      · show updr ((σ.Ts k).fs 0).r 0 (σ.f 1) 1 = _; rw [updr_ne _ _ (by decide)]; exact hr1
    · rw [hr0, rk_1A (show (setF (σ.Ts k) 0 _).nf = 1 from hn) (by rw [setF_fs]; exact hfn), setF_fs]
      unfold rkA
      rw [if_neg (show ¬ (1 : Int) = 0 by decide), if_pos rfl, if_pos hpc]
      show P.t + 1 - _ < _; omega
  · have hl : lagsB (σ.stp.f (aI j)) (((σ.stp.Ts k).fs 0).r 0) = false := by
      rw [show σ.stp.f (aI j) = 0 from h.ai j hjt]; rfl
    by_cases hz : j + 1 = P.t
    · refine ⟨_, g, .adv1e (σ := σ.stp) hfn hpc ⟨ha, by show ((σ.Ts k).fs 0).r 0 < _; omega⟩ ⟨hj, hjt⟩ hl hz, so_set1 h hk hn (.inr rfl) h3 ⟨((σ.Ts k).fs 0).fn, 2, updr ((σ.Ts k).fs 0).r 1 (((σ.Ts k).fs 0).r 1 + 1)⟩ (.inr (.inl ⟨hn, .inl ⟨h7, .inr ?_⟩⟩)) ?_⟩
      · rw [setF_fs]
        refine ⟨hfn, .inr (.inr ⟨rfl, ?_, ?_⟩)⟩
        · show 0 ≤ updr ((σ.Ts k).fs 0).r 1 (((σ.Ts k).fs 0).r 1 + 1) 0; rw [updr_ne _ _ (by decide)]; exact ha
        · show updr ((σ.Ts k).fs 0).r 1 (((σ.Ts k).fs 0).r 1 + 1) 0 ≤ _; rw [updr_ne _ _ (by decide)]; exact hb
      · rw [hr0, rk_1A (show (setF (σ.Ts k) 0 _).nf = 1 from hn) (by rw [setF_fs]; exact hfn), setF_fs]
        unfold rkA
        rw [if_neg (show ¬ (2 : Int) = 0 by decide), if_neg (show ¬ (2 : Int) = 1 by decide), if_neg (by omega), if_pos hpc, hj]
        omega
    · refine ⟨_, g, .adv1n (σ := σ.stp) hfn hpc ⟨ha, by show ((σ.Ts k).fs 0).r 0 < _; omega⟩ ⟨hj, hjt⟩ hl (by omega), so_set1 h hk hn (.inr rfl) h3 ⟨((σ.Ts k).fs 0).fn, ((σ.Ts k).fs 0).pc, updr ((σ.Ts k).fs 0).r 1 (((σ.Ts k).fs 0).r 1 + 1)⟩ (.inr (.inl ⟨hn, .inl ⟨h7, .inr ?_⟩⟩)) ?_⟩
      · rw [setF_fs]
        refine ⟨hfn, .inr (.inl ⟨hpc, ?_, ?_, j + 1, ?_, by omega⟩)⟩
        · show 0 ≤ updr ((σ.Ts k).fs 0).r 1 (((σ.Ts k).fs 0).r 1 + 1) 0; rw [updr_ne _ _ (by decide)]; exact ha
        · show updr ((σ.Ts k).fs 0).r 1 (((σ.Ts k).fs 0).r 1 + 1) 0 ≤ _; rw [updr_ne _ _ (by decide)]; exact hb
        · show updr ((σ.Ts k).fs 0).r 1 (((σ.Ts k).fs 0).r 1 + 1) 1 = _; rw [updr_at, hj]; rfl
      · rw [hr0, rk_1A (show (setF (σ.Ts k) 0 _).nf = 1 from hn) (by rw [setF_fs]; exact hfn), setF_fs]
        unfold rkA
        rw [if_neg (show ¬ ((σ.Ts k).fs 0).pc = 0 by omega), if_pos hpc, if_neg (by omega), if_pos hpc]
        show P.t + 1 - (updr ((σ.Ts k).fs 0).r 1 (((σ.Ts k).fs 0).r 1 + 1) 1).toNat < _
        rw [updr_at, hj]
        omega
  · cases hz : (σ.f 1 == ((σ.Ts k).fs 0).r 0) with
    | false => exact ⟨_, g, .adv2n (σ := σ.stp) hfn hpc ⟨ha, by show ((σ.Ts k).fs 0).r 0 < _; omega⟩ hz, so_back1 h hk hn (.inr rfl) h3 h7 (Th.backT (σ.Ts k) 1 (fun _ => 0)) (by show (σ.Ts k).nf - 1 = 0; omega) (fun h9 => absurd (nt h9) id)⟩
    | true =>
      have hz' : σ.f 1 = ((σ.Ts k).fs 0).r 0 := by simpa using hz
      have e1 : ∀ i, i ≠ 1 → Mm.upd σ.f 1 (((σ.Ts k).fs 0).r 0 + 1) i = σ.f i := fun i hi => upd_ne _ _ hi
      have hT : (Th.backT (σ.Ts k) 1 (fun _ => 1)).nf = 0 := by show (σ.Ts k).nf - 1 = 0; omega
      refine ⟨_, g, .adv2y (σ := σ.stp) hfn hpc ⟨ha, by show ((σ.Ts k).fs 0).r 0 < _; omega⟩ hz, ?_⟩
      refine ⟨h.wr hk (T := Th.backT (σ.Ts k) 1 (fun _ => 1)) (f' := Mm.upd σ.f 1 (((σ.Ts k).fs 0).r 0 + 1)) (acc := σ.acc + 1) 0 (.inl rfl) (.inr rfl) (e1 _ (by decide)) ?_ (fun j hj => e1 _ (ai_ne (k := 0) (b := 0) (by omega)).2.2.1) (fun i hi _ c hc => ⟨e1 _ (st_lo (a := 0) (j := 0) hi hc).2.2.1, e1 _ (st_lo (a := 0) (j := 0) hi hc).2.2.2.2.1⟩)
        (fun a _ _ => ⟨fun _ => e1 _ nd_1, e1 _ nd_1⟩) (fun b1 _ => by omega) (fun a a1 a2 ho => absurd ho (h3 a a1 a2)) (fun c hc => ?_) (fun c hc => ?_) (.inl ⟨hT, h7⟩), eff0 rfl rfl, .inl (by rw [show (adv2yS k 0 σ.stp) = nz σ k (Th.backT (σ.Ts k) 1 (fun _ => 1)) (Mm.upd σ.f 1 (((σ.Ts k).fs 0).r 0 + 1)) σ.H σ.G (σ.acc + 1) from rfl, nz_at]; exact hT), .inl ⟨fun _ => rfl, fun h9 _ => absurd (nt h9) id⟩⟩
      · rw [upd_at]; omega
      · rw [root_lt (by omega), e1 _ (st_lo (a := 0) (j := 0) hk hc).2.2.2.2.1]
        have := h.ch k hk c hc
        rw [root_lt (by omega)] at this
        exact this.on fun e _ => e1 _ nd_1
      · rw [e1 _ (st_lo (a := 0) (j := 0) hk hc).2.2.1, upd_at]
        obtain ⟨⟨s0, s1⟩, s2, s3⟩ := h.sta k hk c hc
        exact ⟨⟨s0, by omega⟩, s2, s3⟩
end
end Go.Proofs.Ytaaciolfgplnoaa.Lb
