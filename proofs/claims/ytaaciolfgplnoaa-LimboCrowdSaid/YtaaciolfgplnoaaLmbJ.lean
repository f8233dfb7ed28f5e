/- Layer 19: a routine begins; the epoch is read; at first; ranks (no program in it); a step of the machine. -/
import Derived.Test.YtaaciolfgplnoaaLmbI
namespace Go.Proofs.Ytaaciolfgplnoaa.Lb
open Go.RowKit WordM EdgeM Sl
set_option linter.unusedVariables false
set_option linter.unusedSimpArgs false
section
variable {P : Pc} {σ : Sg} {g : Gh} {n k : Nat}
theorem XS.load (h : XS P σ g n) : XS P { σ with acc := σ.acc + 1 } g (n + 1) := by
  have h1 := h.le (Nat.le_succ n)
  have ac := h.ac
  exact ⟨h1.lk, h1.un, h1.ol, h1.hh, h1.gn, h1.lb, h1.ct, h1.ep, h1.ai, h1.th, h1.ow, h1.xt, h1.one, h1.xe, h1.xu, h1.xc, h1.wh, h1.ch, h1.sta, by show 0 ≤ σ.acc + 1 ∧ σ.acc + 1 ≤ _ ∧ 0 ≤ σ.steps ∧ σ.steps ≤ _; omega, h1.ok⟩
theorem XS.no30 (h : XS P σ g n) (hn : (σ.Ts k).nf = 0) : ∀ a, 1 ≤ a → a ≤ P.s → g.O a ≠ 10 * k + 3 := fun a a1 a2 e => by
  obtain ⟨_, m, m1, _⟩ := h.ow a a1 a2 k e
  omega
/-- A thread that is within nothing begins something. -/
theorem XS.call (h : XS P σ g n) (hk : k < P.t) (hn : (σ.Ts k).nf = 0) {T : Th.Td} (h1 : T.nf = 1) (hw : TI P σ.f σ.G g k T) : XS P (σ.thr k T) g n := by
  have h3 := h.no30 hn
  refine ⟨h.lk, h.un, h.ol, fun a a1 a2 => ?_, h.gn, h.lb, h.ct, h.ep, h.ai, fun j hj => ?_, fun a a1 a2 j hj => ?_, h.xt, h.one, h.xe, h.xu, h.xc, h.wh, fun j hj c hc => ?_, h.sta, h.ac, h.ok⟩
  · show σ.H (a - 1) = false ↔ _
    rw [h.hh a a1 a2]
    constructor
    · rintro (e | ⟨j, hj, e1, e2⟩)
      · exact .inl e
      · refine .inr ⟨j, hj, e1, ?_⟩
        rw [thr_o _ _ (fun e => by subst e; exact h3 a a1 a2 e1)]; exact e2
    · rintro (e | ⟨j, hj, e1, e2⟩)
      · exact .inl e
      · refine .inr ⟨j, hj, e1, ?_⟩
        rw [thr_o _ _ (fun e => by subst e; exact h3 a a1 a2 e1)] at e2; exact e2
  · by_cases e : j = k
    · subst e; rw [thr_k]; exact hw
    · rw [thr_o _ _ e]; exact h.th j hj
  · rw [thr_o _ _ (fun e => by subst e; exact h3 a a1 a2 hj)]; exact h.ow a a1 a2 j hj
  · have h9 := h.ch j hj c hc
    by_cases e : j = k
    · subst e
      rw [root_lt (by omega)] at h9
      rw [thr_k]
      show Ch P.t σ.f (rootOf T σ.f j c) _
      rw [root_lt (by omega)]; exact h9
    · rw [thr_o _ _ e]; exact h9
theorem XS.seven (h : XS P σ g n) (hk : k < P.t) (hn : (σ.Ts k).nf = 0) : g.X (10 * k + 7) = [] := by
  rcases h.th k hk with ⟨_, h2⟩ | ⟨h1, _⟩ | ⟨h1, _⟩ | ⟨h1, _⟩
  · exact h2
  all_goals omega
theorem XS.callT (h : XS P σ g n) (hk : k < P.t) (hn : (σ.Ts k).nf = 0) (L : Nat → Int) : XS P (σ.thr k (Th.callT (σ.Ts k) 1 0 L)) g n := by
  obtain ⟨c1, c2⟩ := call_fs hn 1 0 L
  refine h.call hk hn c1 (.inr (.inl ⟨c1, .inl ⟨h.seven hk hn, .inl ?_⟩⟩))
  rw [c2]
  exact ⟨rfl, Int.le_refl _, by show (0 : Int) < _; decide, .inl rfl⟩
theorem XS.callC (h : XS P σ g n) (hk : k < P.t) (hn : (σ.Ts k).nf = 0) (L : Nat → Int) : XS P (σ.thr k (Th.callT (σ.Ts k) 22 0 L)) g n := by
  obtain ⟨c1, c2⟩ := call_fs hn 22 0 L
  refine h.call hk hn c1 (.inr (.inl ⟨c1, .inr (.inl ?_)⟩))
  rw [c2]
  exact ⟨rfl, h.seven hk hn, .inl ⟨rfl, rfl⟩⟩
theorem XS.callA (h : XS P σ g n) (hk : k < P.t) (hn : (σ.Ts k).nf = 0) (L : Nat → Int) : XS P (σ.thr k (Th.callT (σ.Ts k) 12 0 L)) g n := by
  obtain ⟨c1, c2⟩ := call_fs hn 12 0 L
  refine h.call hk hn c1 (.inr (.inl ⟨c1, .inl ⟨h.seven hk hn, .inr ?_⟩⟩))
  rw [c2]
  exact ⟨rfl, .inl ⟨rfl, rfl⟩⟩
/-- The ghost behind the beginning of Retire. -/
def rg (g : Gh) (k : Nat) (e : Int) (B : List Int) (now : Int) : Gh := { g with O := updO g.O (sl e) (10 * k + 7), W := updW g.W (sl e) now, X := updX (updX g.X (10 * k + 2) B) (10 * k + 7) [e] }
theorem XS.hand (h : XS P σ g n) (hk : k < P.t) {e : Int} (he : e ∈ g.X (10 * k + 2)) : (0 < e ∧ e < 4611686018427387904) ∧ 1 ≤ sl e ∧ sl e ≤ P.s ∧ g.O (sl e) = 10 * k + 2 ∧ g.W (sl e) < 0 ∧ e % 4096 = sl e ∧ σ.H (sl e - 1) = true ∧ σ.G (sl e - 1) = e / 4096 % 1125899906842624 := by
  have h1 := h.xe k hk _ (ofK_2 k) e he
  have h2 := h1.slot
  obtain ⟨p0, a, p1, p2, p3, p4, p5⟩ := h1
  have := sl_of p1
  refine ⟨p0, h2.1, h2.2.1, h2.2.2.1, h.wh _ h2.1 h2.2.1 k h2.2.2.1, h2.2.2.2, h.held h2.1 h2.2.1 (by omega) (fun j => by omega), by rw [this]; exact p5⟩
theorem XS.callR (h : XS P σ g n) (hk : k < P.t) (hn : (σ.Ts k).nf = 0) {e : Int} {B : List Int} (he : g.X (10 * k + 2) = e :: B) (L : Nat → Int) (hL : L 0 = e) : XS P (σ.thr k (Th.callT (σ.Ts k) 20 1 L)) (rg g k e B (σ.f 1)) n := by
  obtain ⟨c1, c2⟩ := call_fs hn 20 1 L
  obtain ⟨x0, a1, a2, ho, hw, hem, hH, hG⟩ := h.hand hk (e := e) (by rw [he]; exact List.mem_cons_self)
  obtain ⟨a, ha⟩ : ∃ a, a = sl e := ⟨_, rfl⟩
  rw [← ha] at a1 a2 ho hw hem hH hG
  have h3 := h.no30 hn
  have hep := h.ep
  have hun := h.xu k hk _ (ofK_2 k)
  rw [he, List.map_cons, List.nodup_cons, ← ha] at hun
  have h7 := h.seven hk hn
  obtain ⟨X', hX'⟩ : ∃ X', X' = updX (updX g.X (10 * k + 2) B) (10 * k + 7) [e] := ⟨_, rfl⟩
  have x7 : X' (10 * k + 7) = [e] := by rw [hX', updX_at]
  have x2 : X' (10 * k + 2) = B := by rw [hX', updX_ne _ _ (by omega), updX_at]
  have x3 : ∀ v, v ≠ 10 * k + 2 → v ≠ 10 * k + 7 → X' v = g.X v := fun v v1 v2 => by rw [hX', updX_ne _ _ v2, updX_ne _ _ v1]
  have er : rg g k e B (σ.f 1) = { g with O := updO g.O a (10 * k + 7), W := updW g.W a (σ.f 1), X := X' } := by unfold rg; rw [← hX', ← ha]
  rw [er]
  have hnb : ∀ j, j ≠ k → ∀ v, ofK j v → v ≠ 10 * k + 2 ∧ v ≠ 10 * k + 7 := fun j hj v hv => ⟨fun e9 => hj (ofK_inj hv (by rw [e9]; exact ofK_2 k)), fun e9 => hj (ofK_inj hv (by rw [e9]; exact ofK_7 k))⟩
  have hna : ∀ j, j < P.t → ∀ v, ofK j v → v ≠ 10 * k + 2 → ∀ x ∈ g.X v, sl x ≠ a := fun j hj v hv v2 x hx e9 => by
    have := (h.xe j hj v hv x hx).slot
    rw [e9, ho] at this; omega
  have hsee : ∀ j, j < P.t → j ≠ k → Sees P σ.f σ.f σ.G σ.G g { g with O := updO g.O a (10 * k + 7), W := updW g.W a (σ.f 1), X := X' } j := fun j hj hjk => by
    refine ⟨fun v hv => x3 v (hnb j hjk v hv).1 (hnb j hjk v hv).2, fun c c1 c2 hc => ?_, fun c _ => ⟨rfl, rfl⟩, Int.le_refl _, .inl ⟨rfl, fun _ _ _ _ => rfl⟩⟩
    have hca : c ≠ a := fun e9 => by rw [e9, ho] at hc; exact hjk (ofK_inj hc (ofK_2 k))
    exact ⟨updO_ne _ _ hca, updW_ne _ _ hca, rfl, rfl⟩
  refine ⟨h.lk, h.un, fun c c1' c2' => ?_, fun c c1' c2' => ?_, h.gn, h.lb, h.ct, h.ep, h.ai, fun j hj => ?_, fun c c1' c2' j hj => ?_, fun c c1' c2' => ?_, fun c c1' c2' => ?_, fun j hj v hv x hx => ?_, fun j hj v hv => ?_, fun c c1' c2' j hj h9 h8 => ?_, fun c c1' c2' j hj => ?_, fun j hj c hc => ?_, fun j hj c hc => ?_, h.ac, h.ok⟩
  · show updO g.O a _ c = 0 ↔ _
    by_cases e9 : c = a
    · subst e9
      rw [updO_at]
      constructor
      · intro h9; omega
      · intro h9; have := (h.ol c c1' c2').2 h9; omega
    · rw [updO_ne _ _ e9]; exact h.ol c c1' c2'
  · show σ.H (c - 1) = false ↔ (updO g.O a _ c = 0 ∨ ∃ j, j < P.t ∧ updO g.O a _ c = 10 * j + 3 ∧ _)
    by_cases e9 : c = a
    · subst e9
      rw [hH, updO_at]
      constructor
      · intro h9; cases h9
      · rintro (h9 | ⟨j, _, h9, _⟩) <;> omega
    · rw [updO_ne _ _ e9, h.hh c c1' c2']
      constructor
      · rintro (e | ⟨j, hj, e1, e2⟩)
        · exact .inl e
        · refine .inr ⟨j, hj, e1, ?_⟩
          rw [thr_o _ _ (fun e => by subst e; exact h3 c c1' c2' e1)]; exact e2
      · rintro (e | ⟨j, hj, e1, e2⟩)
        · exact .inl e
        · refine .inr ⟨j, hj, e1, ?_⟩
          rw [thr_o _ _ (fun e => by subst e; exact h3 c c1' c2' e1)] at e2; exact e2
  · by_cases e9 : j = k
    · subst e9
      rw [thr_k]
      refine .inr (.inl ⟨c1, .inr (.inr (.inl ?_))⟩)
      rw [c2]
      refine ⟨rfl, ?_, rfl, rfl, ?_⟩
      · show X' (10 * j + 7) = [L 0]; rw [x7, hL]
      · show updW g.W a (σ.f 1) (sl (L 0)) ≤ σ.f 1
        rw [hL, ← ha, updW_at]; exact Int.le_refl _
    · rw [thr_o _ _ e9]
      exact (h.th j hj).oth (hsee j hj e9) h.lk h.ol (h.xe j hj)
  · have hj' : updO g.O a (10 * k + 7) c = 10 * j + 3 := hj
    by_cases e9 : c = a
    · subst e9; rw [updO_at] at hj'; omega
    · rw [updO_ne _ _ e9] at hj'
      rw [thr_o _ _ (fun e => by subst e; exact h3 c c1' c2' hj')]; exact h.ow c c1' c2' j hj'
  · show updO g.O a _ c = 0 ∨ updO g.O a _ c = 1 ∨ ∃ j, j < P.t ∧ ofK j (updO g.O a _ c)
    by_cases e9 : c = a
    · subst e9; rw [updO_at]; exact .inr (.inr ⟨k, hk, ofK_7 k⟩)
    · rw [updO_ne _ _ e9]; exact h.xt c c1' c2'
  · show updO g.O a _ c = 1 ↔ _
    by_cases e9 : c = a
    · subst e9
      rw [updO_at]
      have := h.one c c1' c2'
      constructor
      · intro h9; omega
      · intro h9; have := this.2 h9; omega
    · rw [updO_ne _ _ e9]; exact h.one c c1' c2'
  · show edX P.s (updO g.O a (10 * k + 7)) σ.G v x
    have hx' : x ∈ X' v := hx
    by_cases v7 : v = 10 * k + 7
    · subst v7
      rw [x7] at hx'
      simp only [List.mem_singleton] at hx'
      subst hx'
      exact ⟨x0, a, hem, a1, a2, updO_at _ _ _, hG⟩
    · have hold : x ∈ g.X v ∧ sl x ≠ a := by
        by_cases v2 : v = 10 * k + 2
        · subst v2
          rw [x2] at hx'
          exact ⟨by rw [he]; exact List.mem_cons_of_mem _ hx', fun e9 => hun.1 (List.mem_map.2 ⟨x, hx', e9⟩)⟩
        · rw [x3 v v2 v7] at hx'
          exact ⟨hx', hna j hj v hv v2 x hx'⟩
      obtain ⟨p0, b, p1, p2, p3, p4, p5⟩ := h.xe j hj v hv x hold.1
      exact ⟨p0, b, p1, p2, p3, by rw [updO_ne _ _ (fun e9 => hold.2 (by rw [sl_of p1, e9]))]; exact p4, p5⟩
  · show ((X' v).map sl).Nodup
    by_cases v7 : v = 10 * k + 7
    · subst v7; rw [x7]; simp
    · by_cases v2 : v = 10 * k + 2
      · subst v2; rw [x2]; exact hun.2
      · rw [x3 v v2 v7]; exact h.xu j hj v hv
  · show ∃ x ∈ X' (updO g.O a (10 * k + 7) c), x % 4096 = c
    have h9' : ofK j (updO g.O a (10 * k + 7) c) := h9
    have h8' : updO g.O a (10 * k + 7) c ≠ 10 * j + 3 := h8
    by_cases e9 : c = a
    · subst e9; rw [updO_at, x7]; exact ⟨e, List.mem_cons_self, hem⟩
    · rw [updO_ne _ _ e9] at h9' h8' ⊢
      obtain ⟨x, hx, hxa⟩ := h.xc c c1' c2' j hj h9' h8'
      by_cases v2 : g.O c = 10 * k + 2
      · rw [v2, he] at hx
        rw [v2, x2]
        rcases List.mem_cons.1 hx with h6 | h6
        · subst h6; exfalso; omega
        · exact ⟨x, h6, hxa⟩
      · by_cases v7 : g.O c = 10 * k + 7
        · rw [v7, h7] at hx; exact absurd hx List.not_mem_nil
        · rw [x3 _ v2 v7]; exact ⟨x, hx, hxa⟩
  · have hj' : updO g.O a (10 * k + 7) c = 10 * j + 2 := hj
    show updW g.W a (σ.f 1) c < 0
    by_cases e9 : c = a
    · subst e9; rw [updO_at] at hj'; omega
    · rw [updO_ne _ _ e9] at hj'; rw [updW_ne _ _ e9]; exact h.wh c c1' c2' j hj'
  · show Ch P.t σ.f (rootOf ((σ.thr k (Th.callT (σ.Ts k) 20 1 L)).Ts j) σ.f j c) (X' (10 * j + 4 + c))
    rw [x3 _ (by omega) (by omega)]
    have h9 := h.ch j hj c hc
    by_cases e9 : j = k
    · subst e9
      rw [root_lt (by omega)] at h9
      rw [thr_k, root_lt (by omega)]; exact h9
    · rw [thr_o _ _ e9]; exact h9
  · show (0 ≤ σ.f (stI j c) ∧ σ.f (stI j c) ≤ σ.f 1) ∧ (X' (10 * j + 4 + c) ≠ [] → σ.f (stI j c) % 3 = c) ∧ ∀ y ∈ X' (10 * j + 4 + c), updW g.W a (σ.f 1) (sl y) ≤ σ.f (stI j c)
    rw [x3 _ (by omega) (by omega)]
    obtain ⟨s0, s2, s3⟩ := h.sta j hj c hc
    exact ⟨s0, s2, fun y hy => by rw [updW_ne _ _ (hna j hj _ (ofK_b hc) (by omega) y hy)]; exact s3 y hy⟩
/-- At first. -/
theorem XS.init {t s : Nat} (P : Pc) (ht : P.t = t) (hs : P.s = s) (s1 : 7 ≤ s) (s2 : s ≤ 250) : XS P (sgInit t s) ⟨fun a => if a ≤ 5 then 1 else 0, fun _ => -1, fun _ => [], frees s⟩ 0 := by
  have hi := CS.init P ht hs s1 s2
  have hl : ∀ i, i < 3 + 8 * t → 2 < i → partF t 3 s i = 0 := fun i h1 h2 => by unfold partF; rw [if_neg (by omega), if_neg (by omega), if_neg (by omega), if_pos h1]
  refine ⟨hi.lk, hi.un, hi.ol, fun a a1 a2 => ?_, hi.gn, fun a a1 a2 => by have := hi.lb a a1 a2; omega, hi.ct, ?_, fun j hj => ?_, fun k _ => .inl ⟨rfl, rfl⟩, fun a a1 a2 j hj => ?_, fun a a1 a2 => ?_, fun a a1 a2 => ?_, fun _ _ _ _ e he => absurd he List.not_mem_nil, fun _ _ _ _ => by simp, fun a a1 a2 j hj h9 _ => ?_, fun a a1 a2 j hj => ?_, fun k hk c hc => ?_, fun k hk c hc => ?_, hi.ac, hi.ok⟩
  · rw [hi.hh a a1 a2]
    constructor
    · rintro (h | ⟨j, _, h, _⟩)
      · exact .inl h
      · have h' : (if a ≤ 5 then 1 else 0) = 2 * j + 3 := h
        split at h' <;> omega
    · rintro (h | ⟨j, _, h, _⟩)
      · exact .inl h
      · have h' : (if a ≤ 5 then 1 else 0) = 10 * j + 3 := h
        split at h' <;> omega
  · show 3 ≤ partF t 3 s 1 ∧ partF t 3 s 1 ≤ _
    have : partF t 3 s 1 = 3 := by unfold partF; simp
    rw [this]; omega
  · show partF t 3 s (aI j) = 0
    exact hl _ (by unfold aI; omega) (by unfold aI; omega)
  · have h' : (if a ≤ 5 then 1 else 0) = 10 * j + 3 := hj
    split at h' <;> omega
  · show (if a ≤ 5 then 1 else 0) = 0 ∨ (if a ≤ 5 then 1 else 0) = 1 ∨ _
    split
    · exact .inr (.inl rfl)
    · exact .inl rfl
  · show (if a ≤ 5 then 1 else 0) = 1 ↔ _
    split
    · exact ⟨fun _ => by assumption, fun _ => rfl⟩
    · exact ⟨fun h => by omega, fun h => by omega⟩
  · have h' : ofK j (if a ≤ 5 then 1 else 0) := h9
    unfold ofK at h'
    split at h' <;> omega
  · exact (by decide : (-1 : Int) < 0)
  · show Ch P.t (partF t 3 s) (rootOf _ (partF t 3 s) k c) []
    rw [root_lt (show ((sgInit t s).Ts k).nf < 2 from (by decide : 0 < 2))]
    exact hl _ (by unfold bgI; omega) (by unfold bgI; omega)
  · show (0 ≤ partF t 3 s (stI k c) ∧ partF t 3 s (stI k c) ≤ partF t 3 s 1) ∧ _
    rw [hl _ (by unfold stI; omega) (by unfold stI; omega)]
    have : partF t 3 s 1 = 3 := by unfold partF; simp
    rw [this]
    exact ⟨by omega, fun h => absurd rfl h, fun y hy => absurd hy List.not_mem_nil⟩
/-! ### Ranks -/
theorem sl_len (h : XS P σ g n) (hk : k < P.t) : bn g k ≤ P.s := by
  have e : bn g k = ((g.X (10 * k + 4)).map sl ++ ((g.X (10 * k + 5)).map sl ++ (g.X (10 * k + 6)).map sl)).length := by
    unfold bn; simp; omega
  rw [e]
  have ho : ∀ c, c < 3 → ∀ a ∈ (g.X (10 * k + 4 + c)).map sl, 1 ≤ a ∧ a ≤ P.s ∧ g.O a = 10 * k + 4 + c := fun c hc a ha => by
    obtain ⟨x, hx, rfl⟩ := List.mem_map.1 ha
    have := (h.xe k hk _ (ofK_b hc) x hx).slot
    exact ⟨this.1, this.2.1, this.2.2.1⟩
  have o4 := ho 0 (by omega); have o5 := ho 1 (by omega); have o6 := ho 2 (by omega)
  simp only [Nat.add_zero] at o4
  rw [show 10 * k + 4 + 1 = 10 * k + 5 from rfl] at o5
  rw [show 10 * k + 4 + 2 = 10 * k + 6 from rfl] at o6
  refine nodup_len P.s _ ?_ (fun a ha => ?_) (fun a ha => ?_)
  · refine List.nodup_append.2 ⟨h.xu k hk _ (ofK_b (c := 0) (by omega)), List.nodup_append.2 ⟨h.xu k hk _ (ofK_b (c := 1) (by omega)), h.xu k hk _ (ofK_b (c := 2) (by omega)), fun a ha b hb e9 => ?_⟩, fun a ha b hb e9 => ?_⟩
    · have := (o5 a ha).2.2; have := (o6 b hb).2.2; rw [← e9] at this; omega
    · have h4 := (o4 a ha).2.2
      rcases List.mem_append.1 hb with hb | hb
      · have := (o5 b hb).2.2; rw [← e9] at this; omega
      · have := (o6 b hb).2.2; rw [← e9] at this; omega
  · rcases List.mem_append.1 ha with ha | ha
    · exact (o4 a ha).2.1
    · rcases List.mem_append.1 ha with ha | ha
      · exact (o5 a ha).2.1
      · exact (o6 a ha).2.1
  · rcases List.mem_append.1 ha with ha | ha
    · exact (o4 a ha).1
    · rcases List.mem_append.1 ha with ha | ha
      · exact (o5 a ha).1
      · exact (o6 a ha).1
theorem rk_ok (h : XS P σ g n) (hk : k < P.t) (ht : P.t ≤ 6) (s2 : P.s ≤ 250) : (0 < (σ.Ts k).nf → 1 ≤ rk P.t (σ.Ts k) (σ.f 2) (bn g k)) ∧ rk P.t (σ.Ts k) (σ.f 2) (bn g k) ≤ 2000 := by
  have hB := sl_len h hk
  have h1 := rkS_bd ((σ.Ts k).fs 0) (σ.f 2)
  have h2 := rkS_bd ((σ.Ts k).fs 2) (σ.f 2)
  have hb : rkB ((σ.Ts k).fs 0) ≤ 16 := by unfold rkB; split <;> omega
  have hd : 1 ≤ rkD ((σ.Ts k).fs 1) ∧ rkD ((σ.Ts k).fs 1) ≤ 4 := by
    unfold rkD; repeat' split
    all_goals omega
  rcases h.th k hk with ⟨h0, _⟩ | ⟨h0, h9⟩ | ⟨h0, _⟩ | ⟨h0, _⟩
  · have : rk P.t (σ.Ts k) (σ.f 2) (bn g k) = 0 := by unfold rk; rw [if_pos h0]
    omega
  · rcases h9 with ⟨_, h9 | h9⟩ | h9 | h9
    · rw [rk_1T h0 h9.1]; omega
    · obtain ⟨f1, h9⟩ := h9
      rw [rk_1A h0 f1]; unfold rkA
      rcases h9 with ⟨p, _⟩ | ⟨p, _, _, j, hj, hjt⟩ | ⟨p, _⟩
      · rw [if_pos p]; omega
      · rw [if_neg (by omega), if_pos p, hj]; omega
      · rw [if_neg (by omega), if_neg (by omega)]; omega
    · rw [rk_1C h0 h9.1]; unfold rkC; split <;> omega
    · rcases h9 with ⟨q1, _, q3, _⟩ | ⟨c, _, hB', q⟩
      · rw [rk_1R h0 q1]; unfold rkR; rw [if_pos q3]; omega
      · rw [rk_1R h0 hB'.1]; unfold rkR
        have hp : 1 ≤ ((σ.Ts k).fs 0).pc ∧ ((σ.Ts k).fs 0).pc ≤ 5 := by
          rcases q with ⟨p, _⟩ | ⟨p, _⟩ | ⟨p, _⟩ | ⟨p, _⟩ | ⟨p, _⟩ <;> omega
        rw [if_neg (by omega)]
        split
        · omega
        · omega
  · rw [rk_2 h0]; omega
  · rw [rk_3 h0]; omega
/-- What a thread is within. -/
theorem took_iff (h : XS P σ g n) (hk : k < P.t) (hn : 0 < (σ.Ts k).nf) : took (σ.Ts k) ↔ ((σ.Ts k).fs 0).fn = 1 := by
  constructor
  · exact fun h9 => h9.2
  · intro h9
    rcases h.th k hk with ⟨h0, _⟩ | ⟨h0, _⟩ | ⟨h0, b, hb, _⟩ | ⟨h0, b, hb, _⟩
    · omega
    · exact ⟨h0, h9⟩
    all_goals
      rcases hb with ⟨_, hb⟩ | ⟨_, hb⟩
      · have := hb.1; omega
      · have := hb.1; omega
end
theorem ls_fn0 {P : Pc} {k m : Nat} {σ σ' : Sg} (h : LS P k m σ σ') (hm : (σ.Ts k).nf = m + 1) (hn : 0 < (σ'.Ts k).nf) : ((σ'.Ts k).fs 0).fn = ((σ.Ts k).fs 0).fn := by
  have key : ∀ (T : Th.Td) (F : Th.Fm), F.fn = (T.fs m).fn → ((setF T m F).fs 0).fn = (T.fs 0).fn := fun T F hF => by
    by_cases e : 0 = m
    · subst e; rw [setF_fs]; exact hF
    · rw [setF_o _ _ e]
  have keyc : ∀ (T : Th.Td) (fn : Int) (i : Nat) (L : Nat → Int), 0 < T.nf → ((Th.callT T fn i L).fs 0).fn = (T.fs 0).fn := fun T fn i L hT => by rw [callT_o _ _ _ _ (by omega)]
  have at_ : ∀ (X : Th.Td) (a : Int) (f : Nat → Int), (({ σ.thr k X with acc := a, f := f } : Sg).Ts k) = X := fun X a f => Sg.thr_at _ _ _
  cases h
  all_goals first
    | (simp only [adv1eS, adv1nS, adv2yS, backAS, cl0S, cl1dS, cl1nS, dr0S, dr0zS, dr1S, dr2nS, dr2zS, enter0S, rt0S, rt1S, rt1dS, rt2S, rt3S, rt4S, rt5S, Sg.thr, ↓reduceIte]
       first
         | exact key _ _ rfl
         | (rw [keyc _ _ _ _ (by show 0 < (σ.Ts k).nf; omega)]; exact key _ _ rfl)
         | rfl
         | exact key _ _ rfl)
    | ((first | unfold rTake | unfold rGive); repeat' split) <;> (simp only [Sg.thr, ↓reduceIte]; first | exact key _ _ rfl | rfl)
/-- The machine's Step, against the invariant. -/
theorem zstep {w : World} {P : Pc} {σ : Sg} {g : Gh} {n k : Nat} (h : MM w P σ) (hi : XS P σ g n) (hN : n ≤ 800000) (hk : k < P.t) (hn : 0 < (σ.Ts k).nf) :
    Calls Try.prog 13 #[.pointer (some ⟨P.q, 0, none⟩), .int .i64 k, .func (.func 14) #[] #[]] w fun x w' => ∃ σ' g', x = .returned (.bool (decide (0 < (σ'.Ts k).nf))) ∧ MM w' P σ' ∧ KA P.B P.N w w' ∧ SO P σ σ' k g g' n ∧ (∀ i, i ≠ k → σ'.Ts i = σ.Ts i) ∧ (0 < (σ'.Ts k).nf → (took (σ'.Ts k) ↔ took (σ.Ts k))) := by
  obtain ⟨m, σ', g', hm, hm2, hls, hso⟩ := xstep hi (by omega) h.bd.1.2 h.bd.2.2 hk hn
  have hac := hi.ac
  have hok := hi.ok
  refine (lstep h hk hm (by omega) hac.1 (by omega) (by omega) (by omega) (by omega) hls).mono ?_
  rintro _ w' ⟨rfl, hm', hk', ho⟩
  refine ⟨σ', g', rfl, hm', hk', hso, ho, fun h0 => ?_⟩
  rw [took_iff hso.xs hk h0, took_iff hi hk hn, ls_fn0 hls hm h0]
  exact Iff.rfl
end Go.Proofs.Ytaaciolfgplnoaa.Lb
