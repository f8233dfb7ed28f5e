/- Layer 19: steps of Give, above Drain; any step (no program in it). -/
import Derived.Test.YtaaciolfgplnoaaGBD
namespace Go.Proofs.Ytaaciolfgplnoaa.Lb
open Go.RowKit WordM EdgeM Sl
set_option linter.unusedVariables false
set_option linter.unusedSimpArgs false
section
variable {P : Pc} {σ : Sg} {g : Gh} {n k : Nat}
theorem root_set2 (T : Th.Td) (F : Th.Fm) (f : Nat → Int) (k c : Nat) : rootOf (setF T 2 F) f k c = rootOf T f k c := by
  unfold rootOf
  rw [setF_o (m := 2) (i := 1) T F (by decide)]; rfl
theorem ti_set2 {f G : Nat → Int} {g : Gh} {T : Th.Td} {F : Th.Fm} {b : Nat} (hn : T.nf = 3) (hbot : BotF f g k (T.fs 0) b) (hD : DrainF f g k (T.fs 1) b) (h1 : (T.fs 1).pc = 2) (hF : GiveF P f G g k F) : TI P f G g k (setF T 2 F) := by
  refine .inr (.inr (.inr ⟨hn, b, ?_, ?_, ?_, ?_⟩))
  · rw [setF_o (m := 2) (i := 0) T F (by decide)]; exact hbot
  · rw [setF_o (m := 2) (i := 1) T F (by decide)]; exact hD
  · rw [setF_o (m := 2) (i := 1) T F (by decide)]; exact h1
  · rw [setF_fs]; exact hF
theorem rk_set2 {t : Nat} {T : Th.Td} {F : Th.Fm} (hn : T.nf = 3) (h : Int) (B : Nat) : rk t (setF T 2 F) h B = rkB (T.fs 0) + 7 * B + 2 + rkS F h := by
  rw [rk_3 (show (setF T 2 F).nf = 3 from hn), setF_fs, setF_o (m := 2) (i := 0) T F (by decide)]
theorem lim_set2 {T : Th.Td} {F : Th.Fm} (hn : T.nf = 3) : lim (setF T 2 F) ↔ (F.fn = 2 ∧ 1 ≤ F.pc) := by
  constructor
  · rintro ⟨m, m1, m2, m3⟩
    have m1' : T.nf = m + 1 := m1
    have : m = 2 := by omega
    subst this
    rw [setF_fs] at m2 m3; exact ⟨m2, m3⟩
  · rintro ⟨h1, h2⟩
    exact ⟨2, hn, by rw [setF_fs]; exact h1, by rw [setF_fs]; exact h2⟩
theorem own_set2 {T : Th.Td} {F : Th.Fm} {a : Nat} (hn : T.nf = 3) (h1 : F.fn = 2) (h2 : F.r 0 % 4096 = a) : ownF (setF T 2 F) a := ⟨2, hn, by rw [setF_fs]; exact h2, .inl (by rw [setF_fs]; exact h1)⟩
theorem lim_2 {T : Th.Td} (hn : T.nf = 3) (h1 : (T.fs 2).fn = 2) (h2 : 1 ≤ (T.fs 2).pc) : lim T := ⟨2, hn, h1, h2⟩
theorem XS.only (h : XS P σ g n) {a : Nat} (hn : (σ.Ts k).nf = 3) (hr : ((σ.Ts k).fs 2).r 0 % 4096 = a) : ∀ c, 1 ≤ c → c ≤ P.s → g.O c = 10 * k + 3 → c = a := fun c c1 c2 e9 => by
  obtain ⟨_, m, m1, m2, _⟩ := h.ow c c1 c2 k e9
  have : m = 2 := by omega
  subst this; omega
theorem bot_same {f f' : Nat → Int} {g g' : Gh} {F : Th.Fm} {b : Nat} (h : BotF f g k F b) (h1 : f' 1 = f 1) (h2 : g'.X (10 * k + 7) = g.X (10 * k + 7)) (h3 : g'.W = g.W) : BotF f' g' k F b := by
  unfold BotF RetB CleanF at *; rw [h1, h2, h3]; exact h
theorem drain_same {f f' : Nat → Int} {g g' : Gh} {F : Th.Fm} {b : Nat} (h : DrainF f g k F b) (h1 : f' 1 = f 1) (h2 : g'.X (10 * k + 4 + b) = g.X (10 * k + 4 + b)) (h3 : f' (stI k b) = f (stI k b)) (h4 : f' (bgI k b) = f (bgI k b)) : DrainF f' g' k F b := by
  unfold DrainF at *; rw [h1, h2, h3, h4]; exact h
theorem so_g0 (h : XS P σ g n) (hN : n ≤ 1000000) (s2 : P.s ≤ 250) (hk : k < P.t) (hn : (σ.Ts k).nf = 3) {b : Nat} (hb : b < 3) (hbot : BotF σ.f g k ((σ.Ts k).fs 0) b) (hD : DrainF σ.f g k ((σ.Ts k).fs 1) b) (hd2 : ((σ.Ts k).fs 1).pc = 2) (hfn : ((σ.Ts k).fs 2).fn = 2) (hpc : ((σ.Ts k).fs 2).pc = 0) (hr : 0 ≤ ((σ.Ts k).fs 2).r 0 ∧ ((σ.Ts k).fs 2).r 0 < 4611686018427387904) {a : Nat} (ha : ((σ.Ts k).fs 2).r 0 % 4096 = a) (a1 : 1 ≤ a) (a2 : a ≤ P.s) (ho : g.O a = 10 * k + 3) (hg : σ.G (a - 1) = ((σ.Ts k).fs 2).r 0 / 4096 % 1125899906842624) (hw : g.W a + 3 ≤ σ.f 1) : ∃ σ' g', LS P k 2 σ.stp σ' ∧ SO P σ σ' k g g' n := by
  have hct := h.ct
  have hep := h.ep
  have hgn := h.gn a a1 a2
  have hon := h.only hn ha
  have hH : σ.H (a - 1) = true := by
    cases e9 : σ.H (a - 1) with
    | true => rfl
    | false =>
      rcases (h.hh a a1 a2).1 e9 with h1 | ⟨j, _, h1, m, m1, m2, m3⟩
      · omega
      · have : j = k := by omega
        subst this
        have : m = 2 := by omega
        subst this
        omega
  have hld := leads_of (s := P.s) (H := σ.H) (G := σ.G) ha a1 a2 hH hg
  have hv : (((σ.Ts k).fs 2).r 0 / 4096 % 1125899906842624 + 1) % 1125899906842624 = σ.G (a - 1) + 1 := by rw [← hg]; omega
  have hv2 : (σ.G (a - 1) + 1) % 1125899906842624 = σ.G (a - 1) + 1 := by omega
  have o0 : P.ok a 1 = true := (ld_nd (P := P) (f := σ.f) (j := 1) a1 a2 (by omega)).2
  have hst : P.st σ.f a 1 (σ.G (a - 1) + 1) = Mm.upd σ.f (nd P.t a 1) (σ.G (a - 1) + 1) := st_nd (j := 1) a1 a2 (by omega)
  have hDH : Gd.dropH P.s σ.H σ.G (((σ.Ts k).fs 2).r 0) = Gd.setB σ.H (a - 1) false := by unfold Gd.dropH; rw [if_pos hld, ha, show (a : Int).toNat - 1 = a - 1 by omega]
  have hG : Gd.dropG P.s σ.H σ.G (((σ.Ts k).fs 2).r 0) = Gd.updI σ.G (a - 1) (σ.G (a - 1) + 1) := by
    unfold Gd.dropG; rw [if_pos hld, ha, show (a : Int).toNat - 1 = a - 1 by omega, hv2]
  have er : rGive P k 2 σ.stp = nz σ k (setF (σ.Ts k) 2 ⟨((σ.Ts k).fs 2).fn, 1, ((σ.Ts k).fs 2).r⟩) (Mm.upd σ.f (nd P.t a 1) (σ.G (a - 1) + 1)) (Gd.setB σ.H (a - 1) false) (Gd.updI σ.G (a - 1) (σ.G (a - 1) + 1)) (σ.acc + 1) := by
    have e1 : rGive P k 2 σ.stp = nyS σ k (setF (σ.Ts k) 2 ⟨((σ.Ts k).fs 2).fn, 1, ((σ.Ts k).fs 2).r⟩) (P.st σ.f (((σ.Ts k).fs 2).r 0 % 4096) 1 ((((σ.Ts k).fs 2).r 0 / 4096 % 1125899906842624 + 1) % 1125899906842624)) (Gd.dropH P.s σ.H σ.G (((σ.Ts k).fs 2).r 0)) (Gd.dropG P.s σ.H σ.G (((σ.Ts k).fs 2).r 0)) (σ.flt || !P.ok (((σ.Ts k).fs 2).r 0 % 4096) 1) σ.sl := by
      unfold rGive; rw [if_pos (show ((σ.stp.Ts k).fs 2).pc = 0 from hpc)]; rfl
    rw [e1, hv, hDH, hG, ha, hst, o0, show (σ.flt || !true) = σ.flt by simp]; rfl
  have hls : LS P k 2 σ.stp (rGive P k 2 σ.stp) := .give hfn (by show 0 ≤ ((σ.Ts k).fs 2).pc ∧ ((σ.Ts k).fs 2).pc ≤ 3; omega) ⟨hr.1, by show ((σ.Ts k).fs 2).r 0 < _; omega⟩ (fun h9 => by have : 2 ≤ ((σ.Ts k).fs 2).pc := h9; omega) (fun _ => hld)
  have e1 : ∀ i, i ≠ nd P.t a 1 → Mm.upd σ.f (nd P.t a 1) (σ.G (a - 1) + 1) i = σ.f i := fun i hi => upd_ne _ _ hi
  have eb : ∀ b j, 1 ≤ b → j < 7 → (b ≠ a ∨ j ≠ 1) → Mm.upd σ.f (nd P.t a 1) (σ.G (a - 1) + 1) (nd P.t b j) = σ.f (nd P.t b j) := fun b j b1 hj hne => e1 _ (nd_ne b1 a1 hj (by omega) hne)
  have e2 : Mm.upd σ.f (nd P.t a 1) (σ.G (a - 1) + 1) 2 = σ.f 2 := e1 _ (Ne.symm nd_ne2)
  have ep1 : Mm.upd σ.f (nd P.t a 1) (σ.G (a - 1) + 1) 1 = σ.f 1 := e1 _ (Ne.symm nd_1)
  have est : ∀ i c', i < P.t → c' < 3 → Mm.upd σ.f (nd P.t a 1) (σ.G (a - 1) + 1) (stI i c') = σ.f (stI i c') := fun i c' hi hc' => e1 _ (st_lo hi hc').1
  have ebg : ∀ i c', i < P.t → c' < 3 → Mm.upd σ.f (nd P.t a 1) (σ.G (a - 1) + 1) (bgI i c') = σ.f (bgI i c') := fun i c' hi hc' => e1 _ (st_lo hi hc').2.1
  obtain ⟨F, hF⟩ : ∃ F : Th.Fm, F = ⟨((σ.Ts k).fs 2).fn, 1, ((σ.Ts k).fs 2).r⟩ := ⟨_, rfl⟩
  have hna : ∀ v, ofK k v → v ≠ 10 * k + 3 → ∀ x ∈ g.X v, sl x ≠ a := fun v hv v3 x hx e9 => by
    have := (h.xe k hk v hv x hx).slot
    rw [e9, ho] at this; omega
  refine ⟨_, { g with X := updX g.X (10 * k + 3) [] }, hls, ?_⟩
  rw [er, ← hF]
  have xx : ∀ v, v ≠ 10 * k + 3 → updX g.X (10 * k + 3) [] v = g.X v := fun v hv => updX_ne _ _ hv
  refine ⟨h.nx hk a (fun i hi => nz_oth _ _ _ _ _ _ _ hi) (.inr (.inr (by rw [ho]; exact ofK_3 k))) (fun b b1 b2 hb => ⟨rfl, rfl, updI_ne _ _ (by omega), setB_ne _ _ (by omega), eb b 0 b1 (by omega) (.inl hb), eb b 1 b1 (by omega) (.inl hb)⟩) (fun _ _ => .inr (by rw [ho]; exact ofK_3 k))
    (fun c c1 c2 hc h9 => absurd (hon c c1 c2 h9) hc) (fun _ _ _ => by rw [nz_at]; exact own_set2 hn (by rw [hF]; exact hfn) (by rw [hF]; exact ha)) (by show σ.f 1 ≤ Mm.upd σ.f (nd P.t a 1) (σ.G (a - 1) + 1) 1 ∧ Mm.upd σ.f (nd P.t a 1) (σ.G (a - 1) + 1) 1 ≤ _; rw [ep1]; omega) (fun j hj => e1 _ (ai_nd hj)) (fun i hi _ c' hc' => ⟨est i c' hi hc', ebg i c' hi hc'⟩)
    (.inl ⟨e2, fun _ h9 => by omega⟩) (by show 0 ≤ Mm.upd σ.f (nd P.t a 1) (σ.G (a - 1) + 1) 2 ∧ Mm.upd σ.f (nd P.t a 1) (σ.G (a - 1) + 1) 2 / 4096 ≤ _; rw [e2]; omega) ⟨?_, fun j hj => ?_⟩ h.un h.ol (fun v hv => xx v (fun e9 => hv (by rw [e9]; exact ofK_3 k)))
    (fun v hv x hx => ?_) (fun v hv => ?_) (fun c c1 c2 h9 h8 => ?_) (fun _ _ h9 => by rw [ho] at h9; omega) (fun c' hc' => ?_) (fun c' hc' => ?_) (fun _ _ => ?_) (fun _ _ => ?_) (fun _ _ => ?_) ?_ ⟨.inr rfl, rfl⟩ h.ok, fun c c1 c2 => ?_, .inr ?_, .inl ⟨fun j => xx _ (by omega), fun h9 _ => by have := h9.1; omega⟩⟩
  · show Mm.upd σ.f (nd P.t a 1) (σ.G (a - 1) + 1) 2 % 4096 = _; rw [e2]; exact h.lk.hd
  · have h9 := h.lk.at_ j hj
    refine ⟨h9.1, h9.2.1, ?_⟩
    show Mm.upd σ.f (nd P.t a 1) (σ.G (a - 1) + 1) _ = _
    rw [eb _ 0 h9.1 (by omega) (.inr (by omega))]; exact h9.2.2
  · have hx' : x ∈ updX g.X (10 * k + 3) [] v := hx
    by_cases v3 : v = 10 * k + 3
    · subst v3; rw [updX_at] at hx'; exact absurd hx' List.not_mem_nil
    · rw [xx v v3] at hx'
      refine (h.xe k hk v hv x hx').on fun c c1 c2 hc => ⟨rfl, updI_ne _ _ fun e9 => ?_⟩
      have : c = a := by omega
      rw [this, ho] at hc; exact v3 hc.symm
  · show ((updX g.X (10 * k + 3) [] v).map sl).Nodup
    by_cases v3 : v = 10 * k + 3
    · subst v3; rw [updX_at]; simp
    · rw [xx v v3]; exact h.xu k hk v hv
  · show ∃ x ∈ updX g.X (10 * k + 3) [] (g.O c), x % 4096 = c
    rw [xx _ h8]; exact h.xc c c1 c2 k hk h9 h8
  · rw [nz_at]
    show Ch P.t (Mm.upd σ.f (nd P.t a 1) (σ.G (a - 1) + 1)) (rootOf (setF (σ.Ts k) 2 F) (Mm.upd σ.f (nd P.t a 1) (σ.G (a - 1) + 1)) k c') (updX g.X (10 * k + 3) [] (10 * k + 4 + c'))
    rw [root_set2, xx _ (by omega)]
    have h9 : rootOf (σ.Ts k) (Mm.upd σ.f (nd P.t a 1) (σ.G (a - 1) + 1)) k c' = rootOf (σ.Ts k) σ.f k c' := by unfold rootOf; rw [ebg k c' hk hc']
    rw [h9]
    refine (h.ch k hk c' hc').on fun y hy => ?_
    have hs := (h.xe k hk _ (ofK_b hc') y hy).slot
    exact eb _ 0 hs.1 (by omega) (.inr (by omega))
  · show (0 ≤ Mm.upd σ.f (nd P.t a 1) (σ.G (a - 1) + 1) (stI k c') ∧ Mm.upd σ.f (nd P.t a 1) (σ.G (a - 1) + 1) (stI k c') ≤ Mm.upd σ.f (nd P.t a 1) (σ.G (a - 1) + 1) 1) ∧ (updX g.X (10 * k + 3) [] (10 * k + 4 + c') ≠ [] → Mm.upd σ.f (nd P.t a 1) (σ.G (a - 1) + 1) (stI k c') % 3 = c') ∧ ∀ y ∈ updX g.X (10 * k + 3) [] (10 * k + 4 + c'), g.W (sl y) ≤ Mm.upd σ.f (nd P.t a 1) (σ.G (a - 1) + 1) (stI k c')
    rw [est k c' hk hc', ep1, xx _ (by omega)]; exact h.sta k hk c' hc'
  · show Gd.setB σ.H (a - 1) false (a - 1) = false ↔ (g.O a = 0 ∨ (g.O a = _ ∧ lim ((nz σ k (setF (σ.Ts k) 2 F) _ _ _ _).Ts k)))
    rw [setB_at, nz_at]
    exact ⟨fun _ => .inr ⟨ho, (lim_set2 hn).2 ⟨by rw [hF]; exact hfn, by rw [hF]; exact Int.le_refl _⟩⟩, fun _ => rfl⟩
  · show Mm.upd σ.f (nd P.t a 1) (σ.G (a - 1) + 1) (nd P.t a 1) = Gd.updI σ.G (a - 1) (σ.G (a - 1) + 1) (a - 1) ∧ 0 ≤ Gd.updI σ.G (a - 1) (σ.G (a - 1) + 1) (a - 1) ∧ Gd.updI σ.G (a - 1) (σ.G (a - 1) + 1) (a - 1) ≤ _
    rw [upd_at, updI_at]; omega
  · show 0 ≤ Mm.upd σ.f (nd P.t a 1) (σ.G (a - 1) + 1) (nd P.t a 0) ∧ Mm.upd σ.f (nd P.t a 1) (σ.G (a - 1) + 1) (nd P.t a 0) < _
    rw [eb a 0 a1 (by omega) (.inr (by omega))]; exact h.lb a a1 a2
  · rw [nz_at]
    refine ti_set2 hn (bot_same hbot ep1 (xx _ (by omega)) rfl) (drain_same hD ep1 (xx _ (by omega)) (est k b hk hb) (ebg k b hk hb)) hd2 ?_
    rw [hF]
    exact ⟨hfn, hr.1, hr.2, a, ha, a1, a2, ho, .inr (.inl rfl)⟩
  · by_cases e9 : c = a
    · subst e9; exact .inr (.inr ⟨hw, setB_at _ _ _⟩)
    · exact .inl ⟨updI_ne _ _ (by omega), setB_ne _ _ (by omega), rfl⟩
  · rw [nz_at]
    show rk P.t (setF (σ.Ts k) 2 F) (Mm.upd σ.f (nd P.t a 1) (σ.G (a - 1) + 1) 2) (bn { g with X := updX g.X (10 * k + 3) [] } k) < _
    have hbn : bn { g with X := updX g.X (10 * k + 3) [] } k = bn g k := by
      show (updX g.X (10 * k + 3) [] (10 * k + 4)).length + (updX g.X (10 * k + 3) [] (10 * k + 5)).length + (updX g.X (10 * k + 3) [] (10 * k + 6)).length = _
      rw [xx _ (by omega), xx _ (by omega), xx _ (by omega)]; rfl
    rw [e2, hbn, rk_set2 hn, rk_3 hn, hF]
    simp [rkS, hfn, hpc]
theorem so_g1 (h : XS P σ g n) (hN : n ≤ 1000000) (hk : k < P.t) (hn : (σ.Ts k).nf = 3) {b : Nat} (hbot : BotF σ.f g k ((σ.Ts k).fs 0) b) (hD : DrainF σ.f g k ((σ.Ts k).fs 1) b) (hd2 : ((σ.Ts k).fs 1).pc = 2) (hfn : ((σ.Ts k).fs 2).fn = 2) (hpc : ((σ.Ts k).fs 2).pc = 1) (hr : 0 ≤ ((σ.Ts k).fs 2).r 0 ∧ ((σ.Ts k).fs 2).r 0 < 4611686018427387904) {a : Nat} (ha : ((σ.Ts k).fs 2).r 0 % 4096 = a) (a1 : 1 ≤ a) (a2 : a ≤ P.s) (ho : g.O a = 10 * k + 3) : ∃ σ' g', LS P k 2 σ.stp σ' ∧ SO P σ σ' k g g' n := by
  have hct := h.ct
  have hon := h.only hn ha
  have er : rGive P k 2 σ.stp = nz σ k (setF (σ.Ts k) 2 ⟨((σ.Ts k).fs 2).fn, 2, updr ((σ.Ts k).fs 2).r 1 (σ.f 2)⟩) σ.f σ.H σ.G (σ.acc + 1) := by
    unfold rGive; rw [if_neg (show ¬ ((σ.stp.Ts k).fs 2).pc = 0 from by show ¬ ((σ.Ts k).fs 2).pc = 0; omega), if_pos (show ((σ.stp.Ts k).fs 2).pc = 1 from hpc)]; rfl
  have hls : LS P k 2 σ.stp (rGive P k 2 σ.stp) := .give hfn (by show 0 ≤ ((σ.Ts k).fs 2).pc ∧ ((σ.Ts k).fs 2).pc ≤ 3; omega) ⟨hr.1, by show ((σ.Ts k).fs 2).r 0 < _; omega⟩ (fun h9 => by have : 2 ≤ ((σ.Ts k).fs 2).pc := h9; omega) (fun h9 => by have : ((σ.Ts k).fs 2).pc = 0 := h9; omega)
  have hr0 : updr ((σ.Ts k).fs 2).r 1 (σ.f 2) 0 = ((σ.Ts k).fs 2).r 0 := updr_ne _ _ (by decide)
  obtain ⟨F, hF⟩ : ∃ F : Th.Fm, F = ⟨((σ.Ts k).fs 2).fn, 2, updr ((σ.Ts k).fs 2).r 1 (σ.f 2)⟩ := ⟨_, rfl⟩
  refine ⟨_, g, hls, ?_⟩
  rw [er, ← hF]
  refine ⟨h.rd hk (.inr rfl) (fun c _ => root_set2 _ _ _ _ _) (fun c c1 c2 h9 => ?_) (ti_set2 hn hbot hD hd2 ?_), eff0 rfl rfl, .inr ?_, .inl ⟨fun _ => rfl, fun h9 _ => by have := h9.1; omega⟩⟩
  · have := hon c c1 c2 h9
    subst this
    refine ⟨own_set2 hn (by rw [hF]; exact hfn) (by rw [hF]; show updr ((σ.Ts k).fs 2).r 1 (σ.f 2) 0 % 4096 = _; rw [hr0]; exact ha), ?_⟩
    exact ⟨fun _ => lim_2 hn hfn (by omega), fun _ => (lim_set2 hn).2 ⟨by rw [hF]; exact hfn, by rw [hF]; exact (by decide : (1 : Int) ≤ 2)⟩⟩
  · rw [hF]
    refine ⟨hfn, ?_, ?_, a, ?_, a1, a2, ho, .inr (.inr (.inl ⟨rfl, ?_, ?_, ?_⟩))⟩
    · show 0 ≤ updr ((σ.Ts k).fs 2).r 1 (σ.f 2) 0; rw [hr0]; exact hr.1
    · show updr ((σ.Ts k).fs 2).r 1 (σ.f 2) 0 < _; rw [hr0]; exact hr.2
    · show updr ((σ.Ts k).fs 2).r 1 (σ.f 2) 0 % 4096 = _; rw [hr0]; exact ha
    · show 0 ≤ updr ((σ.Ts k).fs 2).r 1 (σ.f 2) 1; rw [updr_at]; exact hct.1
    · show updr ((σ.Ts k).fs 2).r 1 (σ.f 2) 1 < _; rw [updr_at]; omega
    · show updr ((σ.Ts k).fs 2).r 1 (σ.f 2) 1 / 4096 ≤ _; rw [updr_at]; exact Int.le_refl _
  · rw [nz_at]
    show rk P.t (setF (σ.Ts k) 2 F) (σ.f 2) (bn g k) < _
    rw [rk_set2 hn, rk_3 hn, hF]
    simp [rkS, hfn, hpc, updr]
theorem so_g2 (h : XS P σ g n) (hN : n ≤ 1000000) (hk : k < P.t) (hn : (σ.Ts k).nf = 3) {b : Nat} (hb : b < 3) (hbot : BotF σ.f g k ((σ.Ts k).fs 0) b) (hD : DrainF σ.f g k ((σ.Ts k).fs 1) b) (hd2 : ((σ.Ts k).fs 1).pc = 2) (hfn : ((σ.Ts k).fs 2).fn = 2) (hpc : ((σ.Ts k).fs 2).pc = 2) (hr : 0 ≤ ((σ.Ts k).fs 2).r 0 ∧ ((σ.Ts k).fs 2).r 0 < 4611686018427387904) {a : Nat} (ha : ((σ.Ts k).fs 2).r 0 % 4096 = a) (a1 : 1 ≤ a) (a2 : a ≤ P.s) (ho : g.O a = 10 * k + 3) (hr1 : 0 ≤ ((σ.Ts k).fs 2).r 1 ∧ ((σ.Ts k).fs 2).r 1 < 18446744073709551616) (hc : ((σ.Ts k).fs 2).r 1 / 4096 ≤ σ.f 2 / 4096) : ∃ σ' g', LS P k 2 σ.stp σ' ∧ SO P σ σ' k g g' n := by
  have hct := h.ct
  have hep := h.ep
  have hon := h.only hn ha
  obtain ⟨x, hx⟩ : ∃ x : Int, x = ((σ.Ts k).fs 2).r 1 % 4096 := ⟨_, rfl⟩
  have o0 : P.ok a 0 = true := (ld_nd (P := P) (f := σ.f) (j := 0) a1 a2 (by omega)).2
  have hst : P.st σ.f a 0 x = Mm.upd σ.f (nd P.t a 0) x := st_nd (j := 0) a1 a2 (by omega)
  have er : rGive P k 2 σ.stp = nz σ k (setF (σ.Ts k) 2 ⟨((σ.Ts k).fs 2).fn, 3, ((σ.Ts k).fs 2).r⟩) (Mm.upd σ.f (nd P.t a 0) x) σ.H σ.G (σ.acc + 1) := by
    have e1 : rGive P k 2 σ.stp = nyS σ k (setF (σ.Ts k) 2 ⟨((σ.Ts k).fs 2).fn, 3, ((σ.Ts k).fs 2).r⟩) (P.st σ.f (((σ.Ts k).fs 2).r 0 % 4096) 0 (((σ.Ts k).fs 2).r 1 % 4096)) σ.H σ.G (σ.flt || !P.ok (((σ.Ts k).fs 2).r 0 % 4096) 0) σ.sl := by
      unfold rGive; rw [if_neg (show ¬ ((σ.stp.Ts k).fs 2).pc = 0 from by show ¬ ((σ.Ts k).fs 2).pc = 0; omega), if_neg (show ¬ ((σ.stp.Ts k).fs 2).pc = 1 from by show ¬ ((σ.Ts k).fs 2).pc = 1; omega), if_pos (show ((σ.stp.Ts k).fs 2).pc = 2 from hpc)]; rfl
    rw [e1, ha, ← hx, hst, o0, show (σ.flt || !true) = σ.flt by simp]; rfl
  have hls : LS P k 2 σ.stp (rGive P k 2 σ.stp) := .give hfn (by show 0 ≤ ((σ.Ts k).fs 2).pc ∧ ((σ.Ts k).fs 2).pc ≤ 3; omega) ⟨hr.1, by show ((σ.Ts k).fs 2).r 0 < _; omega⟩ (fun _ => hr1) (fun h9 => by have : ((σ.Ts k).fs 2).pc = 0 := h9; omega)
  have e1 : ∀ i, i ≠ nd P.t a 0 → Mm.upd σ.f (nd P.t a 0) x i = σ.f i := fun i hi => upd_ne _ _ hi
  have eb : ∀ b j, 1 ≤ b → j < 7 → (b ≠ a ∨ j ≠ 0) → Mm.upd σ.f (nd P.t a 0) x (nd P.t b j) = σ.f (nd P.t b j) := fun b j b1 hj hne => e1 _ (nd_ne b1 a1 hj (by omega) hne)
  have e2 : Mm.upd σ.f (nd P.t a 0) x 2 = σ.f 2 := e1 _ (Ne.symm nd_ne2)
  have ep1 : Mm.upd σ.f (nd P.t a 0) x 1 = σ.f 1 := e1 _ (Ne.symm nd_1)
  have est : ∀ i c', i < P.t → c' < 3 → Mm.upd σ.f (nd P.t a 0) x (stI i c') = σ.f (stI i c') := fun i c' hi hc' => e1 _ (st_lo hi hc').1
  have ebg : ∀ i c', i < P.t → c' < 3 → Mm.upd σ.f (nd P.t a 0) x (bgI i c') = σ.f (bgI i c') := fun i c' hi hc' => e1 _ (st_lo hi hc').2.1
  obtain ⟨F, hF⟩ : ∃ F : Th.Fm, F = ⟨((σ.Ts k).fs 2).fn, 3, ((σ.Ts k).fs 2).r⟩ := ⟨_, rfl⟩
  refine ⟨_, g, hls, ?_⟩
  rw [er, ← hF]
  refine ⟨h.wr hk a (.inr (by rw [ho]; exact ofK_3 k)) (.inr rfl) e2 (by rw [ep1]; omega) (fun j hj => e1 _ (ai_nd hj)) (fun i hi _ c' hc' => ⟨est i c' hi hc', ebg i c' hi hc'⟩) (fun b b1 _ => ⟨fun hb => eb b 0 b1 (by omega) (.inl hb), eb b 1 b1 (by omega) (.inr (by omega))⟩) (fun _ _ => by rw [upd_at]; omega) (fun c c1 c2 h9 => ?_) (fun c' hc' => ?_) (fun c' hc' => by rw [ep1, est k c' hk hc']; exact h.sta k hk c' hc') (ti_set2 hn (bot_same hbot ep1 rfl rfl) (drain_same hD ep1 rfl (est k b hk hb) (ebg k b hk hb)) hd2 ?_), eff0 rfl rfl, .inr ?_, .inl ⟨fun _ => rfl, fun h9 _ => by have := h9.1; omega⟩⟩
  · have := hon c c1 c2 h9
    subst this
    refine ⟨own_set2 hn (by rw [hF]; exact hfn) (by rw [hF]; exact ha), ?_⟩
    exact ⟨fun _ => lim_2 hn hfn (by omega), fun _ => (lim_set2 hn).2 ⟨by rw [hF]; exact hfn, by rw [hF]; exact (by decide : (1 : Int) ≤ 3)⟩⟩
  · rw [root_set2]
    have h9 : rootOf (σ.Ts k) (Mm.upd σ.f (nd P.t a 0) x) k c' = rootOf (σ.Ts k) σ.f k c' := by unfold rootOf; rw [ebg k c' hk hc']
    rw [h9]
    refine (h.ch k hk c' hc').on fun y hy => ?_
    have hs := (h.xe k hk _ (ofK_b hc') y hy).slot
    exact eb _ 0 hs.1 (by omega) (.inl fun e9 => by rw [e9, ho] at hs; omega)
  · rw [hF]
    refine ⟨hfn, hr.1, hr.2, a, ha, a1, a2, ho, .inr (.inr (.inr ⟨rfl, hr1.1, hr1.2, ?_, ?_⟩))⟩
    · show _ ≤ Mm.upd σ.f (nd P.t a 0) x 2 / 4096; rw [e2]; exact hc
    · show Mm.upd σ.f (nd P.t a 0) x (nd P.t a 0) = _; rw [upd_at]; exact hx
  · rw [nz_at]
    show rk P.t (setF (σ.Ts k) 2 F) (Mm.upd σ.f (nd P.t a 0) x 2) (bn g k) < _
    rw [e2, rk_set2 hn, rk_3 hn, hF]
    by_cases e : ((σ.Ts k).fs 2).r 1 = σ.f 2 <;> simp [rkS, hfn, hpc, e]
theorem so_g3n (h : XS P σ g n) (hN : n ≤ 1000000) (hk : k < P.t) (hn : (σ.Ts k).nf = 3) {b : Nat} (hbot : BotF σ.f g k ((σ.Ts k).fs 0) b) (hD : DrainF σ.f g k ((σ.Ts k).fs 1) b) (hd2 : ((σ.Ts k).fs 1).pc = 2) (hfn : ((σ.Ts k).fs 2).fn = 2) (hpc : ((σ.Ts k).fs 2).pc = 3) (hr : 0 ≤ ((σ.Ts k).fs 2).r 0 ∧ ((σ.Ts k).fs 2).r 0 < 4611686018427387904) {a : Nat} (ha : ((σ.Ts k).fs 2).r 0 % 4096 = a) (a1 : 1 ≤ a) (a2 : a ≤ P.s) (ho : g.O a = 10 * k + 3) (hr1 : 0 ≤ ((σ.Ts k).fs 2).r 1 ∧ ((σ.Ts k).fs 2).r 1 < 18446744073709551616) (hz : (σ.f 2 == ((σ.Ts k).fs 2).r 1) = false) : ∃ σ' g', LS P k 2 σ.stp σ' ∧ SO P σ σ' k g g' n := by
  have hon := h.only hn ha
  have er : rGive P k 2 σ.stp = nz σ k (setF (σ.Ts k) 2 ⟨((σ.Ts k).fs 2).fn, 1, ((σ.Ts k).fs 2).r⟩) σ.f σ.H σ.G (σ.acc + 1) := by
    unfold rGive; rw [if_neg (show ¬ ((σ.stp.Ts k).fs 2).pc = 0 from by show ¬ ((σ.Ts k).fs 2).pc = 0; omega), if_neg (show ¬ ((σ.stp.Ts k).fs 2).pc = 1 from by show ¬ ((σ.Ts k).fs 2).pc = 1; omega), if_neg (show ¬ ((σ.stp.Ts k).fs 2).pc = 2 from by show ¬ ((σ.Ts k).fs 2).pc = 2; omega), if_neg (show ¬ (σ.stp.f 2 == ((σ.stp.Ts k).fs 2).r 1) = true from by show ¬ (σ.f 2 == ((σ.Ts k).fs 2).r 1) = true; rw [hz]; decide)]; rfl
  have hls : LS P k 2 σ.stp (rGive P k 2 σ.stp) := .give hfn (by show 0 ≤ ((σ.Ts k).fs 2).pc ∧ ((σ.Ts k).fs 2).pc ≤ 3; omega) ⟨hr.1, by show ((σ.Ts k).fs 2).r 0 < _; omega⟩ (fun _ => hr1) (fun h9 => by have : ((σ.Ts k).fs 2).pc = 0 := h9; omega)
  obtain ⟨F, hF⟩ : ∃ F : Th.Fm, F = ⟨((σ.Ts k).fs 2).fn, 1, ((σ.Ts k).fs 2).r⟩ := ⟨_, rfl⟩
  refine ⟨_, g, hls, ?_⟩
  rw [er, ← hF]
  refine ⟨h.rd hk (.inr rfl) (fun c _ => root_set2 _ _ _ _ _) (fun c c1 c2 h9 => ?_) (ti_set2 hn hbot hD hd2 ?_), eff0 rfl rfl, .inr ?_, .inl ⟨fun _ => rfl, fun h9 _ => by have := h9.1; omega⟩⟩
  · have := hon c c1 c2 h9
    subst this
    refine ⟨own_set2 hn (by rw [hF]; exact hfn) (by rw [hF]; exact ha), ?_⟩
    exact ⟨fun _ => lim_2 hn hfn (by omega), fun _ => (lim_set2 hn).2 ⟨by rw [hF]; exact hfn, by rw [hF]; exact (by decide : (1 : Int) ≤ 1)⟩⟩
  · rw [hF]
    exact ⟨hfn, hr.1, hr.2, a, ha, a1, a2, ho, .inr (.inl rfl)⟩
  · rw [nz_at]
    show rk P.t (setF (σ.Ts k) 2 F) (σ.f 2) (bn g k) < _
    rw [rk_set2 hn, rk_3 hn, hF]
    have e : ¬ ((σ.Ts k).fs 2).r 1 = σ.f 2 := fun e => by rw [e] at hz; simp at hz
    simp [rkS, hfn, hpc, e]
/-- The slot is free again. -/
theorem so_g3y (h : XS P σ g n) (hN : n ≤ 1000000) (s2 : P.s ≤ 250) (hk : k < P.t) (hn : (σ.Ts k).nf = 3) {b : Nat} (hb : b < 3) (hbot : BotF σ.f g k ((σ.Ts k).fs 0) b) (hD : DrainF σ.f g k ((σ.Ts k).fs 1) b) (hd2 : ((σ.Ts k).fs 1).pc = 2) (hfn : ((σ.Ts k).fs 2).fn = 2) (hpc : ((σ.Ts k).fs 2).pc = 3) (hr : 0 ≤ ((σ.Ts k).fs 2).r 0 ∧ ((σ.Ts k).fs 2).r 0 < 4611686018427387904) {a : Nat} (ha : ((σ.Ts k).fs 2).r 0 % 4096 = a) (a1 : 1 ≤ a) (a2 : a ≤ P.s) (ho : g.O a = 10 * k + 3) (hr1 : 0 ≤ ((σ.Ts k).fs 2).r 1 ∧ ((σ.Ts k).fs 2).r 1 < 18446744073709551616) (hz : (σ.f 2 == ((σ.Ts k).fs 2).r 1) = true) (hlnk : σ.f (nd P.t a 0) = ((σ.Ts k).fs 2).r 1 % 4096) : ∃ σ' g', LS P k 2 σ.stp σ' ∧ SO P σ σ' k g g' n := by
  have hct := h.ct
  have hep := h.ep
  have hgn := h.gn a a1 a2
  have hon := h.only hn ha
  have hz' : σ.f 2 = ((σ.Ts k).fs 2).r 1 := by simpa using hz
  have er : rGive P k 2 σ.stp = nz σ k (Th.backT (σ.Ts k) 0 (fun _ => 0)) (Mm.upd σ.f 2 (chgI (σ.f 2) a)) σ.H σ.G (σ.acc + 1) := by
    have e1 : rGive P k 2 σ.stp = nyS σ k (Th.backT (σ.Ts k) 0 (fun _ => 0)) (Mm.upd σ.f 2 (chgI (((σ.Ts k).fs 2).r 1) (((σ.Ts k).fs 2).r 0 % 4096))) σ.H σ.G σ.flt σ.sl := by
      unfold rGive; rw [if_neg (show ¬ ((σ.stp.Ts k).fs 2).pc = 0 from by show ¬ ((σ.Ts k).fs 2).pc = 0; omega), if_neg (show ¬ ((σ.stp.Ts k).fs 2).pc = 1 from by show ¬ ((σ.Ts k).fs 2).pc = 1; omega), if_neg (show ¬ ((σ.stp.Ts k).fs 2).pc = 2 from by show ¬ ((σ.Ts k).fs 2).pc = 2; omega), if_pos (show (σ.stp.f 2 == ((σ.stp.Ts k).fs 2).r 1) = true from hz)]; rfl
    rw [e1, ha, ← hz']; rfl
  have hls : LS P k 2 σ.stp (rGive P k 2 σ.stp) := .give hfn (by show 0 ≤ ((σ.Ts k).fs 2).pc ∧ ((σ.Ts k).fs 2).pc ≤ 3; omega) ⟨hr.1, by show ((σ.Ts k).fs 2).r 0 < _; omega⟩ (fun _ => hr1) (fun h9 => by have : ((σ.Ts k).fs 2).pc = 0 := h9; omega)
  obtain ⟨hcd, hc0⟩ := chg_div (h := σ.f 2) (x := (a : Int)) hct.1 (by omega)
  have e1 : ∀ i, i ≠ 2 → Mm.upd σ.f 2 (chgI (σ.f 2) a) i = σ.f i := fun i hi => upd_ne _ _ hi
  have eu : ∀ b j, Mm.upd σ.f 2 (chgI (σ.f 2) a) (nd P.t b j) = σ.f (nd P.t b j) := fun b j => e1 _ nd_ne2
  have ep1 : Mm.upd σ.f 2 (chgI (σ.f 2) a) 1 = σ.f 1 := e1 _ (by decide)
  have est : ∀ i c', i < P.t → c' < 3 → Mm.upd σ.f 2 (chgI (σ.f 2) a) (stI i c') = σ.f (stI i c') := fun i c' hi hc' => e1 _ (st_lo (a := 0) (j := 0) hi hc').2.2.2.1
  have ebg : ∀ i c', i < P.t → c' < 3 → Mm.upd σ.f 2 (chgI (σ.f 2) a) (bgI i c') = σ.f (bgI i c') := fun i c' hi hc' => e1 _ (st_lo (a := 0) (j := 0) hi hc').2.2.2.2.2
  have hnl : a ∉ g.L := fun hm => by have := (h.ol a a1 a2).2 hm; omega
  have hlm : lim (σ.Ts k) := ⟨2, hn, hfn, by omega⟩
  have hH : σ.H (a - 1) = false := (h.hh a a1 a2).2 (.inr ⟨k, hk, ho, hlm⟩)
  obtain ⟨T, hT⟩ : ∃ T, T = Th.backT (σ.Ts k) 0 (fun _ => 0) := ⟨_, rfl⟩
  have t1 : T.nf = 2 := by rw [hT]; show (σ.Ts k).nf - 1 = 2; omega
  have tf : T.fs = (σ.Ts k).fs := by rw [hT]; rfl
  have xx : ∀ v, v ≠ 10 * k + 3 → updX g.X (10 * k + 3) [] v = g.X v := fun v hv => updX_ne _ _ hv
  have hbn : bn { g with O := updO g.O a 0, X := updX g.X (10 * k + 3) [], L := a :: g.L } k = bn g k := by
    show (updX g.X (10 * k + 3) [] (10 * k + 4)).length + (updX g.X (10 * k + 3) [] (10 * k + 5)).length + (updX g.X (10 * k + 3) [] (10 * k + 6)).length = _
    rw [xx _ (by omega), xx _ (by omega), xx _ (by omega)]; rfl
  refine ⟨_, { g with O := updO g.O a 0, X := updX g.X (10 * k + 3) [], L := a :: g.L }, hls, ?_⟩
  rw [er, ← hT]
  refine ⟨h.nx hk a (fun i hi => nz_oth _ _ _ _ _ _ _ hi) (.inr (.inr (by rw [ho]; exact ofK_3 k))) (fun b b1 b2 hb => ⟨updO_ne _ _ hb, rfl, rfl, rfl, eu b 0, eu b 1⟩) (fun _ _ => .inl (updO_at _ _ _))
    (fun c c1 c2 hc h9 => absurd (hon c c1 c2 h9) hc) (fun _ _ h9 => by have h8 : updO g.O a 0 a = _ := h9; rw [updO_at] at h8; omega) (by show σ.f 1 ≤ Mm.upd σ.f 2 (chgI (σ.f 2) a) 1 ∧ Mm.upd σ.f 2 (chgI (σ.f 2) a) 1 ≤ _; rw [ep1]; omega) (fun j _ => e1 _ (ai_ne (k := 0) (b := 0) (by omega)).2.2.2) (fun i hi _ c' hc' => ⟨est i c' hi hc', ebg i c' hi hc'⟩)
    (.inr ?_) ?_ ⟨?_, fun j hj => ?_⟩ (List.nodup_cons.2 ⟨hnl, h.un⟩) (fun b b1 b2 => ?_) (fun v hv => xx v (fun e9 => hv (by rw [e9]; exact ofK_3 k)))
    (fun v hv x hx => ?_) (fun v hv => ?_) (fun c c1 c2 h9 h8 => ?_) (fun _ _ h9 => by have h8 : updO g.O a 0 a = _ := h9; rw [updO_at] at h8; omega) (fun c' hc' => ?_) (fun c' hc' => ?_) (fun _ _ => ?_) (fun _ _ => ?_) (fun _ _ => ?_) ?_ ⟨.inr rfl, rfl⟩ h.ok, eff0 rfl rfl, .inr ?_, .inl ⟨fun j => xx _ (by omega), fun h9 _ => by have := h9.1; omega⟩⟩
  · show _ < Mm.upd σ.f 2 (chgI (σ.f 2) a) 2 / 4096; rw [upd_at]; omega
  · show 0 ≤ Mm.upd σ.f 2 (chgI (σ.f 2) a) 2 ∧ Mm.upd σ.f 2 (chgI (σ.f 2) a) 2 / 4096 ≤ _; rw [upd_at]; omega
  · show Mm.upd σ.f 2 (chgI (σ.f 2) a) 2 % 4096 = _; rw [upd_at, chg_mod (by omega) (by omega)]; rfl
  · cases j with
    | zero =>
      refine ⟨a1, a2, ?_⟩
      show Mm.upd σ.f 2 (chgI (σ.f 2) a) (nd P.t a 0) = hdN g.L
      rw [eu, hlnk, ← hz']; exact h.lk.hd
    | succ j =>
      have hj' : j < g.L.length := by simpa using hj
      have h9 := h.lk.at_ j hj'
      show _ ∧ _ ∧ Mm.upd σ.f 2 (chgI (σ.f 2) a) _ = _
      rw [eu]
      exact h9
  · show updO g.O a 0 b = 0 ↔ b ∈ a :: g.L
    by_cases e : b = a
    · subst e; rw [updO_at]; simp
    · rw [updO_ne _ _ e, h.ol b b1 b2, List.mem_cons]
      constructor
      · exact .inr
      · rintro (h1 | h1)
        · exact absurd h1 e
        · exact h1
  · show edX P.s (updO g.O a 0) σ.G v x
    have hx' : x ∈ updX g.X (10 * k + 3) [] v := hx
    by_cases v3 : v = 10 * k + 3
    · subst v3; rw [updX_at] at hx'; exact absurd hx' List.not_mem_nil
    · rw [xx v v3] at hx'
      exact (h.xe k hk v hv x hx').on fun c c1 c2 hc => ⟨updO_ne _ _ (fun e9 => by rw [e9, ho] at hc; exact v3 hc.symm), rfl⟩
  · show ((updX g.X (10 * k + 3) [] v).map sl).Nodup
    by_cases v3 : v = 10 * k + 3
    · subst v3; rw [updX_at]; simp
    · rw [xx v v3]; exact h.xu k hk v hv
  · show ∃ x ∈ updX g.X (10 * k + 3) [] (updO g.O a 0 c), x % 4096 = c
    have h9' : ofK k (updO g.O a 0 c) := h9
    have h8' : updO g.O a 0 c ≠ 10 * k + 3 := h8
    by_cases e9 : c = a
    · subst e9; rw [updO_at] at h9'; exact absurd rfl (ofK_pos h9').1
    · rw [updO_ne _ _ e9] at h9' h8' ⊢
      rw [xx _ h8']; exact h.xc c c1 c2 k hk h9' h8'
  · rw [nz_at]
    show Ch P.t (Mm.upd σ.f 2 (chgI (σ.f 2) a)) (rootOf T (Mm.upd σ.f 2 (chgI (σ.f 2) a)) k c') (updX g.X (10 * k + 3) [] (10 * k + 4 + c'))
    rw [xx _ (by omega)]
    have h9 : rootOf T (Mm.upd σ.f 2 (chgI (σ.f 2) a)) k c' = rootOf (σ.Ts k) σ.f k c' := by unfold rootOf; rw [tf, t1, hn, ebg k c' hk hc']; simp
    rw [h9]
    exact (h.ch k hk c' hc').on fun y _ => eu _ 0
  · show (0 ≤ Mm.upd σ.f 2 (chgI (σ.f 2) a) (stI k c') ∧ Mm.upd σ.f 2 (chgI (σ.f 2) a) (stI k c') ≤ Mm.upd σ.f 2 (chgI (σ.f 2) a) 1) ∧ (updX g.X (10 * k + 3) [] (10 * k + 4 + c') ≠ [] → Mm.upd σ.f 2 (chgI (σ.f 2) a) (stI k c') % 3 = c') ∧ ∀ y ∈ updX g.X (10 * k + 3) [] (10 * k + 4 + c'), g.W (sl y) ≤ Mm.upd σ.f 2 (chgI (σ.f 2) a) (stI k c')
    rw [est k c' hk hc', ep1, xx _ (by omega)]; exact h.sta k hk c' hc'
  · show σ.H (a - 1) = false ↔ (updO g.O a 0 a = 0 ∨ _)
    rw [hH, updO_at]
    exact ⟨fun _ => .inl rfl, fun _ => rfl⟩
  · show Mm.upd σ.f 2 (chgI (σ.f 2) a) (nd P.t a 1) = σ.G (a - 1) ∧ 0 ≤ σ.G (a - 1) ∧ σ.G (a - 1) ≤ _
    rw [eu]; omega
  · show 0 ≤ Mm.upd σ.f 2 (chgI (σ.f 2) a) (nd P.t a 0) ∧ Mm.upd σ.f 2 (chgI (σ.f 2) a) (nd P.t a 0) < _
    rw [eu]; exact h.lb a a1 a2
  · rw [nz_at]
    refine .inr (.inr (.inl ⟨t1, b, ?_, ?_⟩))
    · rw [tf]; exact bot_same hbot ep1 (xx _ (by omega)) rfl
    · rw [tf]; exact drain_same hD ep1 (xx _ (by omega)) (est k b hk hb) (ebg k b hk hb)
  · rw [nz_at, hbn]
    show rk P.t T (Mm.upd σ.f 2 (chgI (σ.f 2) a) 2) (bn g k) < _
    rw [rk_2 t1, rk_3 hn, tf]
    unfold rkD
    rw [if_neg (by omega), if_neg (by omega)]
    have := (rkS_bd ((σ.Ts k).fs 2) (σ.f 2)).1
    omega
/-- Any step. -/
theorem xstep (h : XS P σ g n) (hN : n ≤ 1000000) (ht : P.t ≤ 6) (s2 : P.s ≤ 250) (hk : k < P.t) (hn : 0 < (σ.Ts k).nf) : ∃ m σ' g', (σ.Ts k).nf = m + 1 ∧ m ≤ 2 ∧ LS P k m σ.stp σ' ∧ SO P σ σ' k g g' n := by
  rcases h.th k hk with ⟨h1, _⟩ | ⟨h1, h2⟩ | ⟨h1, b, h2, h3⟩ | ⟨h1, b, h2, h3, h4, h5⟩
  · omega
  · have hx : ∃ σ' g', LS P k 0 σ.stp σ' ∧ SO P σ σ' k g g' n := by
      rcases h2 with ⟨h7, h2 | h2⟩ | h2 | h2
      · exact so_take h hN s2 hk h1 h7 h2
      · exact so_adv h hN ht hk h1 h7 h2
      · exact so_clean h hN hk h1 h2
      · rcases h2 with ⟨q1, q2, q3, q4, q5⟩ | ⟨c, hc, hB, q⟩
        · exact so_ret0 h hN hk h1 q1 q2 q3 q4 q5
        · rcases q with ⟨p, q⟩ | ⟨p, q⟩ | ⟨p, q⟩ | ⟨p, q, q2⟩ | ⟨p, q, q2⟩
          · exact so_ret1 h hN hk h1 hc hB p q
          · exact so_ret2 h hN hk h1 hc hB p q
          · exact so_ret3 h hN hk h1 hc hB p q
          · exact so_ret4 h hN hk h1 hc hB p q q2
          · exact so_ret5 h hN hk h1 hc hB p q q2
    obtain ⟨σ', g', q1, q2⟩ := hx
    exact ⟨0, σ', g', h1, by omega, q1, q2⟩
  · have hx : ∃ σ' g', LS P k 1 σ.stp σ' ∧ SO P σ σ' k g g' n := by
      rcases h3.2.2.2.2.2.2 with p | ⟨p, _⟩ | ⟨p, _⟩
      · exact so_dr0 h hN hk h1 h2 h3 p
      · exact so_dr1 h hN hk h1 h2 h3 p
      · by_cases hz : ((σ.Ts k).fs 1).r 1 = 0
        · exact so_dr2z h hN hk h1 h2 h3 p hz
        · exact so_dr2n h hN hk h1 h2 h3 p hz
    obtain ⟨σ', g', q1, q2⟩ := hx
    exact ⟨1, σ', g', h1, by omega, q1, q2⟩
  · have hb := h3.2.2.1
    obtain ⟨f1, f2, f3, a, f4, f5, f6, f7, f8⟩ := h5
    have hx : ∃ σ' g', LS P k 2 σ.stp σ' ∧ SO P σ σ' k g g' n := by
      rcases f8 with ⟨f8, f9, f10⟩ | f8 | ⟨f8, f9, f10, f11⟩ | ⟨f8, f9, f10, f11, f12⟩
      · exact so_g0 h hN s2 hk h1 hb h2 h3 h4 f1 f8 ⟨f2, f3⟩ f4 f5 f6 f7 f9 f10
      · exact so_g1 h hN hk h1 h2 h3 h4 f1 f8 ⟨f2, f3⟩ f4 f5 f6 f7
      · exact so_g2 h hN hk h1 hb h2 h3 h4 f1 f8 ⟨f2, f3⟩ f4 f5 f6 f7 ⟨f9, f10⟩ f11
      · cases hz : σ.f 2 == ((σ.Ts k).fs 2).r 1 with
        | true => exact so_g3y h hN s2 hk h1 hb h2 h3 h4 f1 f8 ⟨f2, f3⟩ f4 f5 f6 f7 ⟨f9, f10⟩ hz f12
        | false => exact so_g3n h hN hk h1 h2 h3 h4 f1 f8 ⟨f2, f3⟩ f4 f5 f6 f7 ⟨f9, f10⟩ hz
    obtain ⟨σ', g', q1, q2⟩ := hx
    exact ⟨2, σ', g', h1, by omega, q1, q2⟩
end
end Go.Proofs.Ytaaciolfgplnoaa.Lb
