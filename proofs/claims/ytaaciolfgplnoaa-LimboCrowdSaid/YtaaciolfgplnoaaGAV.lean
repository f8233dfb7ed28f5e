/- GAV: several texts in one. -/
import Derived.Test.YtaaciolfgplnoaaGAU
import Derived.Test.YtaaciolfgplnoaaGAS
/- Layer 17: the other steps of a thread that takes, or gives, among others; a step of the machine. -/
namespace Go.Proofs.Ytaaciolfgplnoaa.Sl
open Go.RowKit WordM EdgeM
set_option linter.unusedVariables false
set_option linter.unusedSimpArgs false
section
variable {P : Pc} {σ : Sg} {L : List Nat} {O : Nat → Nat} {E : Nat → List Int} {n k : Nat}
/-- Take tells what it took. -/
theorem so_t3 (h : CS P σ L O E n) (hN : n ≤ 1000000) (s2 : P.s ≤ 250) (hk : k < P.t) (hn : (σ.Ts k).nf = 1) (hfn : ((σ.Ts k).fs 0).fn = 1) (hpc : ((σ.Ts k).fs 0).pc = 3) {a : Nat} (ha : ((σ.Ts k).fs 0).r 0 % 4096 = a) (a1 : 1 ≤ a) (a2 : a ≤ P.s) (ho : O a = 2 * k + 3) : SO P σ (rTake P k 0 σ.stp) k L O E n 1 := by
  have hct := h.ct
  have hgn := h.gn a a1 a2
  obtain ⟨e0, o0⟩ := ld_nd (P := P) (f := σ.f) (j := 1) a1 a2 (by omega)
  have e0' : P.ld σ.f a 1 = σ.f (nd P.t a 1) := e0
  have o0' : P.ok a 1 = true := o0
  obtain ⟨e, he⟩ : ∃ e : Int, e = a + 4096 * σ.G (a - 1) := ⟨_, rfl⟩
  have hmk : makeI a (σ.G (a - 1)) = e := by rw [he]; unfold makeI; rw [slotI_of (by omega) (by omega)]; omega
  have er : rTake P k 0 σ.stp = nyS σ k (Th.backT (σ.Ts k) 1 (fun _ => e)) σ.f σ.H σ.G σ.flt σ.sl := by
    have e1 : rTake P k 0 σ.stp = nyS σ k (Th.backT (σ.Ts k) 1 (fun _ => makeI (((σ.Ts k).fs 0).r 0 % 4096) (P.ld σ.f (((σ.Ts k).fs 0).r 0 % 4096) 1))) σ.f σ.H σ.G (σ.flt || !P.ok (((σ.Ts k).fs 0).r 0 % 4096) 1) σ.sl := by
      unfold rTake; rw [if_neg (show ¬ ((σ.stp.Ts k).fs 0).pc = 0 from by show ¬ ((σ.Ts k).fs 0).pc = 0; omega), if_neg (show ¬ ((σ.stp.Ts k).fs 0).pc = 1 from by show ¬ ((σ.Ts k).fs 0).pc = 1; omega), if_neg (show ¬ ((σ.stp.Ts k).fs 0).pc = 2 from by show ¬ ((σ.Ts k).fs 0).pc = 2; omega)]; rfl
    rw [e1, ha, e0', o0', hgn.1, hmk]; simp
  rw [er]
  have hem : e % 4096 = a := by omega
  have hed : e / 4096 % 1125899906842624 = σ.G (a - 1) := by omega
  have hH : σ.H (a - 1) = true := by
    cases e9 : σ.H (a - 1) with
    | true => rfl
    | false =>
      rcases (h.hh a a1 a2).1 e9 with h1 | ⟨j, _, h1, h2⟩
      · omega
      · have : j = k := by omega
        subst this
        have h3 : ((σ.Ts j).fs 0).fn = 2 := h2.2.1
        omega
  have h0 : (Th.backT (σ.Ts k) 1 (fun _ => e)).nf = 0 := by show (σ.Ts k).nf - 1 = 0; omega
  refine .inr (.inr (.inl ⟨by rw [nyS_at]; exact h0, rfl, e, updO O a (2 * k + 2), by rw [nyS_at]; rfl, by omega, by omega, ?_, fun j hj x hx => ?_, h.nx hk a (fun i hi => nyS_oth _ _ _ _ _ _ _ _ hi) (.inr (.inl ho)) (fun b b1 b2 hb => ⟨updO_ne _ _ hb, rfl, rfl, rfl, rfl⟩) (h.q ha) (.inl ⟨rfl, fun _ e9 => by omega⟩) (show 0 ≤ σ.f 2 ∧ σ.f 2 / 4096 ≤ n + 1 by omega)
    h.lk h.un (fun b b1 b2 => ?_) (fun _ _ => .inr (.inl (updO_at _ _ _))) (fun _ _ => ?_) (fun _ _ => ⟨hgn.1, hgn.2.1, by show σ.G (a - 1) ≤ _; omega⟩) (fun _ _ => h.lb a a1 a2) (by rw [nyS_at]; exact .inl h0) (fun _ _ e9 => by rw [updO_at] at e9; omega) (fun j hj => updE_ne _ _ hj) ?_ ?_ ⟨rfl, rfl⟩ h.ok⟩))
  · exact leads_of hem a1 a2 hH hed.symm
  · obtain ⟨_, b, f1, f2, f3, f4, _⟩ := h.hd j hj x hx
    intro e9
    have : b = a := by omega
    subst this
    omega
  · by_cases e9 : b = a
    · subst e9
      rw [updO_at]
      constructor
      · intro e; omega
      · intro hm; have := (h.ol b b1 b2).2 hm; omega
    · rw [updO_ne _ _ e9]; exact h.ol b b1 b2
  · show σ.H (a - 1) = false ↔ _
    rw [hH, updO_at]
    constructor
    · intro e; cases e
    · rintro (e9 | ⟨e9, _⟩) <;> omega
  · rw [updE_at]
    intro x hx
    rcases List.mem_append.1 hx with hx | hx
    · exact h.keep hk a (.inr (.inl ho)) (fun b b1 b2 hb => ⟨updO_ne _ _ hb, rfl⟩) x hx
    · simp only [List.mem_singleton] at hx
      subst hx
      exact ⟨by omega, a, hem, a1, a2, updO_at _ _ _, hed.symm⟩
  · rw [updE_at, List.map_append, List.nodup_append]
    refine ⟨h.hu k hk, by simp, ?_⟩
    intro x hx y hy
    simp only [List.mem_map] at hx
    obtain ⟨x', hm, rfl⟩ := hx
    simp only [List.map_cons, List.map_nil, List.mem_singleton] at hy
    obtain ⟨_, b, f1, f2, f3, f4, _⟩ := h.hd k hk x' hm
    intro e9
    have : b = a := by omega
    subst this
    omega
/-- Give's first step: the generation goes on, and the slot isn't held. -/
theorem so_g0 (h : CS P σ L O E n) (hN : n ≤ 1000000) (s2 : P.s ≤ 250) (hk : k < P.t) (hn : (σ.Ts k).nf = 1) (hfn : ((σ.Ts k).fs 0).fn = 2) (hpc : ((σ.Ts k).fs 0).pc = 0) (hr : 0 ≤ ((σ.Ts k).fs 0).r 0 ∧ ((σ.Ts k).fs 0).r 0 < 4611686018427387904) {a : Nat} (ha : ((σ.Ts k).fs 0).r 0 % 4096 = a) (a1 : 1 ≤ a) (a2 : a ≤ P.s) (ho : O a = 2 * k + 3) (hg : σ.G (a - 1) = ((σ.Ts k).fs 0).r 0 / 4096 % 1125899906842624) : Gd.leadsB P.s σ.H σ.G (((σ.Ts k).fs 0).r 0) = true ∧ SO P σ (rGive P k 0 σ.stp) k L O E n 2 := by
  have hct := h.ct
  have hgn := h.gn a a1 a2
  have hH : σ.H (a - 1) = true := by
    cases e9 : σ.H (a - 1) with
    | true => rfl
    | false =>
      rcases (h.hh a a1 a2).1 e9 with h1 | ⟨j, _, h1, h2⟩
      · omega
      · have : j = k := by omega
        subst this
        have h3 : 1 ≤ ((σ.Ts j).fs 0).pc := h2.2.2
        omega
  have hld := leads_of (s := P.s) (H := σ.H) (G := σ.G) ha a1 a2 hH hg
  refine ⟨hld, ?_⟩
  have hv : (((σ.Ts k).fs 0).r 0 / 4096 % 1125899906842624 + 1) % 1125899906842624 = σ.G (a - 1) + 1 := by rw [← hg]; omega
  have hv2 : (σ.G (a - 1) + 1) % 1125899906842624 = σ.G (a - 1) + 1 := by omega
  have o0 : P.ok a 1 = true := (ld_nd (P := P) (f := σ.f) (j := 1) a1 a2 (by omega)).2
  have hst : P.st σ.f a 1 (σ.G (a - 1) + 1) = Mm.upd σ.f (nd P.t a 1) (σ.G (a - 1) + 1) := st_nd (j := 1) a1 a2 (by omega)
  have hD : Gd.dropH P.s σ.H σ.G (((σ.Ts k).fs 0).r 0) = Gd.setB σ.H (a - 1) false := by unfold Gd.dropH; rw [if_pos hld, ha, show (a : Int).toNat - 1 = a - 1 by omega]
  have hG : Gd.dropG P.s σ.H σ.G (((σ.Ts k).fs 0).r 0) = Gd.updI σ.G (a - 1) (σ.G (a - 1) + 1) := by
    unfold Gd.dropG; rw [if_pos hld, ha, show (a : Int).toNat - 1 = a - 1 by omega, hv2]
  have er : rGive P k 0 σ.stp = nyS σ k (setF (σ.Ts k) 0 ⟨((σ.Ts k).fs 0).fn, 1, ((σ.Ts k).fs 0).r⟩) (Mm.upd σ.f (nd P.t a 1) (σ.G (a - 1) + 1)) (Gd.setB σ.H (a - 1) false) (Gd.updI σ.G (a - 1) (σ.G (a - 1) + 1)) σ.flt σ.sl := by
    have e1 : rGive P k 0 σ.stp = nyS σ k (setF (σ.Ts k) 0 ⟨((σ.Ts k).fs 0).fn, 1, ((σ.Ts k).fs 0).r⟩) (P.st σ.f (((σ.Ts k).fs 0).r 0 % 4096) 1 ((((σ.Ts k).fs 0).r 0 / 4096 % 1125899906842624 + 1) % 1125899906842624)) (Gd.dropH P.s σ.H σ.G (((σ.Ts k).fs 0).r 0)) (Gd.dropG P.s σ.H σ.G (((σ.Ts k).fs 0).r 0)) (σ.flt || !P.ok (((σ.Ts k).fs 0).r 0 % 4096) 1) σ.sl := by
      unfold rGive; rw [if_pos (show ((σ.stp.Ts k).fs 0).pc = 0 from hpc)]; rfl
    rw [e1, hv, hD, hG, ha, hst, o0]; simp
  rw [er]
  have eb : ∀ b j, 1 ≤ b → j < 7 → (b ≠ a ∨ j ≠ 1) → Mm.upd σ.f (nd P.t a 1) (σ.G (a - 1) + 1) (nd P.t b j) = σ.f (nd P.t b j) := fun b j b1 hj hne => upd_ne _ _ (nd_ne b1 a1 hj (by omega) hne)
  have e2 : Mm.upd σ.f (nd P.t a 1) (σ.G (a - 1) + 1) 2 = σ.f 2 := upd_ne _ _ (Ne.symm nd_ne2)
  refine .inl ⟨by rw [nyS_at]; exact hn, ?_, L, O, h.nx hk a (fun i hi => nyS_oth _ _ _ _ _ _ _ _ hi) (.inr (.inl ho)) (fun b b1 b2 hb => ⟨rfl, updI_ne _ _ (by omega), setB_ne _ _ (by omega), eb b 0 b1 (by omega) (.inl hb), eb b 1 b1 (by omega) (.inl hb)⟩) (h.q ha) (.inl ⟨e2, fun _ e9 => by omega⟩) ?_ ⟨?_, fun j hj => ?_⟩ h.un h.ol (fun _ _ => .inr (.inr ho)) (fun _ _ => ?_) (fun _ _ => ?_) (fun _ _ => ?_) (.inr ?_) (fun _ _ _ => ?_) (fun _ _ => rfl) (h.keep hk a (.inr (.inl ho)) fun b b1 b2 hb => ⟨rfl, updI_ne _ _ (by omega)⟩) (h.hu k hk) ⟨rfl, rfl⟩ h.ok⟩
  · rw [nyS_at, setF_fs]
    show rkS ⟨_, 1, ((σ.Ts k).fs 0).r⟩ _ < _
    simp [rkS, hfn, hpc]
  · show 0 ≤ Mm.upd σ.f (nd P.t a 1) (σ.G (a - 1) + 1) 2 ∧ Mm.upd σ.f (nd P.t a 1) (σ.G (a - 1) + 1) 2 / 4096 ≤ _
    rw [e2]; omega
  · show Mm.upd σ.f (nd P.t a 1) (σ.G (a - 1) + 1) 2 % 4096 = _; rw [e2]; exact h.lk.hd
  · have h9 := h.lk.at_ j hj
    refine ⟨h9.1, h9.2.1, ?_⟩
    show Mm.upd σ.f (nd P.t a 1) (σ.G (a - 1) + 1) _ = _
    rw [eb _ 0 h9.1 (by omega) (.inr (by omega))]; exact h9.2.2
  · show Gd.setB σ.H (a - 1) false (a - 1) = false ↔ _
    rw [setB_at, nyS_at]
    refine ⟨fun _ => .inr ⟨ho, hn, ?_, ?_⟩, fun _ => rfl⟩
    · rw [setF_fs]; exact hfn
    · rw [setF_fs]; exact Int.le_refl _
  · show Mm.upd σ.f (nd P.t a 1) (σ.G (a - 1) + 1) (nd P.t a 1) = Gd.updI σ.G (a - 1) (σ.G (a - 1) + 1) (a - 1) ∧ 0 ≤ Gd.updI σ.G (a - 1) (σ.G (a - 1) + 1) (a - 1) ∧ Gd.updI σ.G (a - 1) (σ.G (a - 1) + 1) (a - 1) ≤ _
    rw [upd_at, updI_at]; omega
  · show 0 ≤ Mm.upd σ.f (nd P.t a 1) (σ.G (a - 1) + 1) (nd P.t a 0) ∧ Mm.upd σ.f (nd P.t a 1) (σ.G (a - 1) + 1) (nd P.t a 0) ≤ _
    rw [eb a 0 a1 (by omega) (.inr (by omega))]; exact h.lb a a1 a2
  · rw [nyS_at]
    refine ⟨hn, ?_⟩
    rw [setF_fs]
    exact .inr ⟨hfn, hr.1, hr.2, a, ha, a1, a2, ho, .inr (.inl rfl)⟩
  · rw [nyS_at]
    refine ⟨hn, ?_⟩
    rw [setF_fs]
    exact ⟨ha, .inl hfn⟩
theorem so_g1 (h : CS P σ L O E n) (hk : k < P.t) (hn : (σ.Ts k).nf = 1) (hfn : ((σ.Ts k).fs 0).fn = 2) (hpc : ((σ.Ts k).fs 0).pc = 1) (hr : 0 ≤ ((σ.Ts k).fs 0).r 0 ∧ ((σ.Ts k).fs 0).r 0 < 4611686018427387904) {a : Nat} (ha : ((σ.Ts k).fs 0).r 0 % 4096 = a) (a1 : 1 ≤ a) (a2 : a ≤ P.s) (ho : O a = 2 * k + 3) (hf2 : σ.f 2 < 18446744073709551616) : SO P σ (rGive P k 0 σ.stp) k L O E n 2 := by
  have hct := h.ct
  have er : rGive P k 0 σ.stp = nyS σ k (setF (σ.Ts k) 0 ⟨((σ.Ts k).fs 0).fn, 2, updr ((σ.Ts k).fs 0).r 1 (σ.f 2)⟩) σ.f σ.H σ.G σ.flt σ.sl := by
    unfold rGive; rw [if_neg (show ¬ ((σ.stp.Ts k).fs 0).pc = 0 from by show ¬ ((σ.Ts k).fs 0).pc = 0; omega), if_pos (show ((σ.stp.Ts k).fs 0).pc = 1 from hpc)]; rfl
  rw [er]
  have hr0 : updr ((σ.Ts k).fs 0).r 1 (σ.f 2) 0 = ((σ.Ts k).fs 0).r 0 := updr_ne _ _ (by decide)
  refine .inl ⟨by rw [nyS_at]; exact hn, ?_, L, O, h.rd1 hk a1 a2 ho ha ?_ ⟨hn, ?_⟩ ⟨hn, ?_⟩⟩
  · rw [nyS_at, setF_fs]
    show rkS ⟨_, 2, updr ((σ.Ts k).fs 0).r 1 (σ.f 2)⟩ (σ.f 2) < _
    simp [rkS, hfn, hpc, updr]
  · unfold lim; rw [setF_fs]
    show ((σ.Ts k).nf = 1 ∧ ((σ.Ts k).fs 0).fn = 2 ∧ (1 : Int) ≤ 2) ↔ _
    constructor
    · rintro ⟨x, y, _⟩; exact ⟨x, y, by omega⟩
    · rintro ⟨x, y, _⟩; exact ⟨x, y, by omega⟩
  · rw [setF_fs]
    refine .inr ⟨hfn, ?_, ?_, a, ?_, a1, a2, ho, .inr (.inr (.inl ⟨rfl, ?_, ?_, ?_⟩))⟩
    · show 0 ≤ updr ((σ.Ts k).fs 0).r 1 (σ.f 2) 0; rw [hr0]; exact hr.1
    · show updr ((σ.Ts k).fs 0).r 1 (σ.f 2) 0 < _; rw [hr0]; exact hr.2
    · show updr ((σ.Ts k).fs 0).r 1 (σ.f 2) 0 % 4096 = _; rw [hr0]; exact ha
    · show 0 ≤ updr ((σ.Ts k).fs 0).r 1 (σ.f 2) 1; rw [updr_at]; exact hct.1
    · show updr ((σ.Ts k).fs 0).r 1 (σ.f 2) 1 < _; rw [updr_at]; exact hf2
    · show updr ((σ.Ts k).fs 0).r 1 (σ.f 2) 1 / 4096 ≤ _; rw [updr_at]; exact Int.le_refl _
  · rw [setF_fs]
    exact ⟨by show updr ((σ.Ts k).fs 0).r 1 (σ.f 2) 0 % 4096 = _; rw [hr0]; exact ha, .inl hfn⟩
theorem so_g2 (h : CS P σ L O E n) (hk : k < P.t) (hn : (σ.Ts k).nf = 1) (hfn : ((σ.Ts k).fs 0).fn = 2) (hpc : ((σ.Ts k).fs 0).pc = 2) (hr : 0 ≤ ((σ.Ts k).fs 0).r 0 ∧ ((σ.Ts k).fs 0).r 0 < 4611686018427387904) {a : Nat} (ha : ((σ.Ts k).fs 0).r 0 % 4096 = a) (a1 : 1 ≤ a) (a2 : a ≤ P.s) (ho : O a = 2 * k + 3) (hr1 : 0 ≤ ((σ.Ts k).fs 0).r 1 ∧ ((σ.Ts k).fs 0).r 1 < 18446744073709551616) (hc : ((σ.Ts k).fs 0).r 1 / 4096 ≤ σ.f 2 / 4096) : SO P σ (rGive P k 0 σ.stp) k L O E n 2 := by
  have hct := h.ct
  have hgn := h.gn a a1 a2
  obtain ⟨x, hx⟩ : ∃ x : Int, x = ((σ.Ts k).fs 0).r 1 % 4096 := ⟨_, rfl⟩
  have o0 : P.ok a 0 = true := (ld_nd (P := P) (f := σ.f) (j := 0) a1 a2 (by omega)).2
  have hst : P.st σ.f a 0 x = Mm.upd σ.f (nd P.t a 0) x := st_nd (j := 0) a1 a2 (by omega)
  have er : rGive P k 0 σ.stp = nyS σ k (setF (σ.Ts k) 0 ⟨((σ.Ts k).fs 0).fn, 3, ((σ.Ts k).fs 0).r⟩) (Mm.upd σ.f (nd P.t a 0) x) σ.H σ.G σ.flt σ.sl := by
    have e1 : rGive P k 0 σ.stp = nyS σ k (setF (σ.Ts k) 0 ⟨((σ.Ts k).fs 0).fn, 3, ((σ.Ts k).fs 0).r⟩) (P.st σ.f (((σ.Ts k).fs 0).r 0 % 4096) 0 (((σ.Ts k).fs 0).r 1 % 4096)) σ.H σ.G (σ.flt || !P.ok (((σ.Ts k).fs 0).r 0 % 4096) 0) σ.sl := by
      unfold rGive; rw [if_neg (show ¬ ((σ.stp.Ts k).fs 0).pc = 0 from by show ¬ ((σ.Ts k).fs 0).pc = 0; omega), if_neg (show ¬ ((σ.stp.Ts k).fs 0).pc = 1 from by show ¬ ((σ.Ts k).fs 0).pc = 1; omega), if_pos (show ((σ.stp.Ts k).fs 0).pc = 2 from hpc)]; rfl
    rw [e1, ha, ← hx, hst, o0]; simp
  rw [er]
  have eb : ∀ b j, 1 ≤ b → j < 7 → (b ≠ a ∨ j ≠ 0) → Mm.upd σ.f (nd P.t a 0) x (nd P.t b j) = σ.f (nd P.t b j) := fun b j b1 hj hne => upd_ne _ _ (nd_ne b1 a1 hj (by omega) hne)
  have e2 : Mm.upd σ.f (nd P.t a 0) x 2 = σ.f 2 := upd_ne _ _ (Ne.symm nd_ne2)
  have hnl : a ∉ L := fun hm => by have := (h.ol a a1 a2).2 hm; omega
  refine .inl ⟨by rw [nyS_at]; exact hn, ?_, L, O, h.nx hk a (fun i hi => nyS_oth _ _ _ _ _ _ _ _ hi) (.inr (.inl ho)) (fun b b1 b2 hb => ⟨rfl, rfl, rfl, eb b 0 b1 (by omega) (.inl hb), eb b 1 b1 (by omega) (.inl hb)⟩) (h.q ha) (.inl ⟨e2, fun _ e9 => by omega⟩) ?_ ⟨?_, fun j hj => ?_⟩ h.un h.ol (fun _ _ => .inr (.inr ho)) (fun _ _ => ?_) (fun _ _ => ?_) (fun _ _ => ?_) (.inr ?_) (fun _ _ _ => ?_) (fun _ _ => rfl) (h.hd k hk) (h.hu k hk) ⟨rfl, rfl⟩ h.ok⟩
  · rw [nyS_at, setF_fs]
    show rkS ⟨_, 3, ((σ.Ts k).fs 0).r⟩ (Mm.upd σ.f (nd P.t a 0) x 2) < _
    rw [e2]
    by_cases e : ((σ.Ts k).fs 0).r 1 = σ.f 2 <;> simp [rkS, hfn, hpc, e]
  · show 0 ≤ Mm.upd σ.f (nd P.t a 0) x 2 ∧ Mm.upd σ.f (nd P.t a 0) x 2 / 4096 ≤ _
    rw [e2]; omega
  · show Mm.upd σ.f (nd P.t a 0) x 2 % 4096 = _; rw [e2]; exact h.lk.hd
  · have h9 := h.lk.at_ j hj
    refine ⟨h9.1, h9.2.1, ?_⟩
    show Mm.upd σ.f (nd P.t a 0) x _ = _
    rw [eb _ 0 h9.1 (by omega) (.inl fun e => hnl (e ▸ List.getElem_mem hj))]; exact h9.2.2
  · show σ.H (a - 1) = false ↔ _
    rw [h.hh a a1 a2, nyS_at]
    constructor
    · rintro (e | ⟨j, _, e1, e3⟩)
      · exact .inl e
      · have : j = k := by omega
        subst this
        exact .inr ⟨ho, hn, by rw [setF_fs]; exact hfn, by rw [setF_fs]; show (1 : Int) ≤ 3; omega⟩
    · rintro (e | ⟨e1, _⟩)
      · exact .inl e
      · exact .inr ⟨k, hk, ho, hn, hfn, by omega⟩
  · show Mm.upd σ.f (nd P.t a 0) x (nd P.t a 1) = σ.G (a - 1) ∧ 0 ≤ σ.G (a - 1) ∧ σ.G (a - 1) ≤ _
    rw [eb a 1 a1 (by omega) (.inr (by omega))]; omega
  · show 0 ≤ Mm.upd σ.f (nd P.t a 0) x (nd P.t a 0) ∧ Mm.upd σ.f (nd P.t a 0) x (nd P.t a 0) ≤ _
    rw [upd_at]; omega
  · rw [nyS_at]
    refine ⟨hn, ?_⟩
    rw [setF_fs]
    refine .inr ⟨hfn, hr.1, hr.2, a, ha, a1, a2, ho, .inr (.inr (.inr ⟨rfl, hr1.1, hr1.2, ?_, ?_⟩))⟩
    · show _ ≤ Mm.upd σ.f (nd P.t a 0) x 2 / 4096; rw [e2]; exact hc
    · show Mm.upd σ.f (nd P.t a 0) x (nd P.t a 0) = _; rw [upd_at]; exact hx
  · rw [nyS_at]
    refine ⟨hn, ?_⟩
    rw [setF_fs]
    exact ⟨ha, .inl hfn⟩
theorem so_g3n (h : CS P σ L O E n) (hk : k < P.t) (hn : (σ.Ts k).nf = 1) (hfn : ((σ.Ts k).fs 0).fn = 2) (hpc : ((σ.Ts k).fs 0).pc = 3) (hr : 0 ≤ ((σ.Ts k).fs 0).r 0 ∧ ((σ.Ts k).fs 0).r 0 < 4611686018427387904) {a : Nat} (ha : ((σ.Ts k).fs 0).r 0 % 4096 = a) (a1 : 1 ≤ a) (a2 : a ≤ P.s) (ho : O a = 2 * k + 3) (hz : (σ.f 2 == ((σ.Ts k).fs 0).r 1) = false) : SO P σ (rGive P k 0 σ.stp) k L O E n 2 := by
  have er : rGive P k 0 σ.stp = nyS σ k (setF (σ.Ts k) 0 ⟨((σ.Ts k).fs 0).fn, 1, ((σ.Ts k).fs 0).r⟩) σ.f σ.H σ.G σ.flt σ.sl := by
    unfold rGive; rw [if_neg (show ¬ ((σ.stp.Ts k).fs 0).pc = 0 from by show ¬ ((σ.Ts k).fs 0).pc = 0; omega), if_neg (show ¬ ((σ.stp.Ts k).fs 0).pc = 1 from by show ¬ ((σ.Ts k).fs 0).pc = 1; omega), if_neg (show ¬ ((σ.stp.Ts k).fs 0).pc = 2 from by show ¬ ((σ.Ts k).fs 0).pc = 2; omega), if_neg (show ¬ (σ.stp.f 2 == ((σ.stp.Ts k).fs 0).r 1) = true from by show ¬ (σ.f 2 == ((σ.Ts k).fs 0).r 1) = true; rw [hz]; decide)]; rfl
  rw [er]
  refine .inl ⟨by rw [nyS_at]; exact hn, ?_, L, O, h.rd1 hk a1 a2 ho ha ?_ ⟨hn, ?_⟩ ⟨hn, ?_⟩⟩
  · rw [nyS_at, setF_fs]
    show rkS ⟨_, 1, ((σ.Ts k).fs 0).r⟩ (σ.f 2) < _
    have e : ¬ ((σ.Ts k).fs 0).r 1 = σ.f 2 := fun e => by rw [e] at hz; simp at hz
    simp [rkS, hfn, hpc, e]
  · unfold lim; rw [setF_fs]
    show ((σ.Ts k).nf = 1 ∧ ((σ.Ts k).fs 0).fn = 2 ∧ (1 : Int) ≤ 1) ↔ _
    constructor
    · rintro ⟨x, y, _⟩; exact ⟨x, y, by omega⟩
    · rintro ⟨x, y, _⟩; exact ⟨x, y, by omega⟩
  · rw [setF_fs]
    exact .inr ⟨hfn, hr.1, hr.2, a, ha, a1, a2, ho, .inr (.inl rfl)⟩
  · rw [setF_fs]
    exact ⟨ha, .inl hfn⟩
theorem so_g3y (h : CS P σ L O E n) (hN : n ≤ 1000000) (s2 : P.s ≤ 250) (hk : k < P.t) (hn : (σ.Ts k).nf = 1) (hfn : ((σ.Ts k).fs 0).fn = 2) (hpc : ((σ.Ts k).fs 0).pc = 3) {a : Nat} (ha : ((σ.Ts k).fs 0).r 0 % 4096 = a) (a1 : 1 ≤ a) (a2 : a ≤ P.s) (ho : O a = 2 * k + 3) (hz : (σ.f 2 == ((σ.Ts k).fs 0).r 1) = true) (hlnk : σ.f (nd P.t a 0) = ((σ.Ts k).fs 0).r 1 % 4096) : SO P σ (rGive P k 0 σ.stp) k L O E n 2 := by
  have hct := h.ct
  have hgn := h.gn a a1 a2
  have hz' : σ.f 2 = ((σ.Ts k).fs 0).r 1 := by simpa using hz
  have er : rGive P k 0 σ.stp = nyS σ k (Th.backT (σ.Ts k) 0 (fun _ => 0)) (Mm.upd σ.f 2 (chgI (σ.f 2) a)) σ.H σ.G σ.flt σ.sl := by
    have e1 : rGive P k 0 σ.stp = nyS σ k (Th.backT (σ.Ts k) 0 (fun _ => 0)) (Mm.upd σ.f 2 (chgI (((σ.Ts k).fs 0).r 1) (((σ.Ts k).fs 0).r 0 % 4096))) σ.H σ.G σ.flt σ.sl := by
      unfold rGive; rw [if_neg (show ¬ ((σ.stp.Ts k).fs 0).pc = 0 from by show ¬ ((σ.Ts k).fs 0).pc = 0; omega), if_neg (show ¬ ((σ.stp.Ts k).fs 0).pc = 1 from by show ¬ ((σ.Ts k).fs 0).pc = 1; omega), if_neg (show ¬ ((σ.stp.Ts k).fs 0).pc = 2 from by show ¬ ((σ.Ts k).fs 0).pc = 2; omega), if_pos (show (σ.stp.f 2 == ((σ.stp.Ts k).fs 0).r 1) = true from hz)]; rfl
    rw [e1, ha, ← hz']
  obtain ⟨hcd, hc0⟩ := chg_div (h := σ.f 2) (x := (a : Int)) hct.1 (by omega)
  have eu : ∀ b j, Mm.upd σ.f 2 (chgI (σ.f 2) a) (nd P.t b j) = σ.f (nd P.t b j) := fun b j => upd_ne _ _ nd_ne2
  have hnl : a ∉ L := fun hm => by have := (h.ol a a1 a2).2 hm; omega
  have h0 : (Th.backT (σ.Ts k) 0 (fun _ => 0)).nf = 0 := by show (σ.Ts k).nf - 1 = 0; omega
  have hlm : lim (σ.Ts k) := ⟨hn, hfn, by omega⟩
  have hH : σ.H (a - 1) = false := (h.hh a a1 a2).2 (.inr ⟨k, hk, ho, hlm⟩)
  rw [er]
  refine .inr (.inr (.inr ⟨by rw [nyS_at]; exact h0, rfl, a :: L, updO O a 0, h.nx hk a (fun i hi => nyS_oth _ _ _ _ _ _ _ _ hi) (.inr (.inl ho)) (fun b b1 b2 hb => ⟨updO_ne _ _ hb, rfl, rfl, eu b 0, eu b 1⟩) (h.q ha) (.inr ?_) ?_ ⟨?_, fun j hj => ?_⟩ (List.nodup_cons.2 ⟨hnl, h.un⟩) (fun b b1 b2 => ?_) (fun _ _ => .inl (updO_at _ _ _)) (fun _ _ => ?_) (fun _ _ => ?_) (fun _ _ => ?_) (by rw [nyS_at]; exact .inl h0) (fun _ _ e9 => by rw [updO_at] at e9; omega) (fun _ _ => rfl) (h.keep hk a (.inr (.inl ho)) fun b b1 b2 hb => ⟨updO_ne _ _ hb, rfl⟩) (h.hu k hk) ⟨rfl, rfl⟩ h.ok⟩))
  · show _ < Mm.upd σ.f 2 (chgI (σ.f 2) a) 2 / 4096; rw [upd_at]; omega
  · show 0 ≤ Mm.upd σ.f 2 (chgI (σ.f 2) a) 2 ∧ Mm.upd σ.f 2 (chgI (σ.f 2) a) 2 / 4096 ≤ _; rw [upd_at]; omega
  · show Mm.upd σ.f 2 (chgI (σ.f 2) a) 2 % 4096 = _; rw [upd_at, chg_mod (by omega) (by omega)]; rfl
  · cases j with
    | zero =>
      refine ⟨a1, a2, ?_⟩
      show Mm.upd σ.f 2 (chgI (σ.f 2) a) (nd P.t a 0) = hdN L
      rw [eu, hlnk, ← hz']; exact h.lk.hd
    | succ j =>
      have hj' : j < L.length := by simpa using hj
      have h9 := h.lk.at_ j hj'
      show _ ∧ _ ∧ Mm.upd σ.f 2 (chgI (σ.f 2) a) _ = _
      rw [eu]
      exact h9
  · by_cases e : b = a
    · subst e; rw [updO_at]; simp
    · rw [updO_ne _ _ e, h.ol b b1 b2, List.mem_cons]
      constructor
      · exact .inr
      · rintro (h1 | h1)
        · exact absurd h1 e
        · exact h1
  · show σ.H (a - 1) = false ↔ _
    rw [hH, updO_at]
    exact ⟨fun _ => .inl rfl, fun _ => rfl⟩
  · show Mm.upd σ.f 2 (chgI (σ.f 2) a) (nd P.t a 1) = σ.G (a - 1) ∧ 0 ≤ σ.G (a - 1) ∧ σ.G (a - 1) ≤ _
    rw [eu]; omega
  · show 0 ≤ Mm.upd σ.f 2 (chgI (σ.f 2) a) (nd P.t a 0) ∧ Mm.upd σ.f 2 (chgI (σ.f 2) a) (nd P.t a 0) ≤ _
    rw [eu]; exact h.lb a a1 a2
theorem SO.nf {σ' : Sg} {fn : Int} (h : SO P σ σ' k L O E n fn) : (σ'.Ts k).nf ≤ 1 := by
  rcases h with ⟨h, _⟩ | ⟨h, _⟩ | ⟨h, _⟩ | ⟨h, _⟩ <;> omega
end
end Go.Proofs.Ytaaciolfgplnoaa.Sl

/- Layer 17: a step of the machine, among others; a routine begins; at first. -/
namespace Go.Proofs.Ytaaciolfgplnoaa.Sl
open Go.RowKit WordM EdgeM
set_option linter.unusedVariables false
set_option linter.unusedSimpArgs false
section
variable {P : Pc} {σ : Sg} {L : List Nat} {O : Nat → Nat} {E : Nat → List Int} {n k : Nat}
theorem thr_k (σ : Sg) (k : Nat) (T : Th.Td) : (σ.thr k T).Ts k = T := by unfold Sg.thr; simp
theorem thr_o (σ : Sg) {k i : Nat} (T : Th.Td) (h : i ≠ k) : (σ.thr k T).Ts i = σ.Ts i := by unfold Sg.thr; simp only [if_neg h]
theorem CS.own0 (h : CS P σ L O E n) (hn : (σ.Ts k).nf = 0) : ∀ a, 1 ≤ a → a ≤ P.s → O a ≠ 2 * k + 3 := fun a a1 a2 e => by
  have := (h.ow a a1 a2 k e).2.1; omega
theorem call_fs {T : Th.Td} (hn : T.nf = 0) (fn : Int) (m : Nat) (R : Nat → Int) : (Th.callT T fn m R).nf = 1 ∧ (Th.callT T fn m R).fs 0 = ⟨fn, 0, fun i => if i < m then R i else 0⟩ := by
  refine ⟨?_, ?_⟩
  · unfold Th.callT; simp only []; omega
  · unfold Th.callT Th.upM; simp [hn]
/-- Take begins. -/
theorem CS.callT (h : CS P σ L O E n) (hk : k < P.t) (hn : (σ.Ts k).nf = 0) : CS P (σ.thr k (Th.callT (σ.Ts k) 1 0 fun _ => 0)) L O E n ∧ ((σ.thr k (Th.callT (σ.Ts k) 1 0 fun _ => 0)).Ts k).nf = 1 ∧ (((σ.thr k (Th.callT (σ.Ts k) 1 0 fun _ => 0)).Ts k).fs 0).fn = 1 := by
  obtain ⟨c1, c2⟩ := call_fs hn 1 0 (fun _ => 0)
  refine ⟨⟨h.lk, h.un, h.ol, fun a a1 a2 => ?_, h.gn, h.lb, h.ct, fun j hj => ?_, fun a a1 a2 j hj => ?_, h.hd, h.hu, h.ac, h.ok⟩, by rw [thr_k]; exact c1, by rw [thr_k, c2]⟩
  · show σ.H (a - 1) = false ↔ _
    rw [h.hh a a1 a2]
    constructor
    · rintro (e | ⟨j, hj, e1, e2⟩)
      · exact .inl e
      · refine .inr ⟨j, hj, e1, ?_⟩
        rw [thr_o _ _ (fun e => by subst e; exact h.own0 hn a a1 a2 e1)]; exact e2
    · rintro (e | ⟨j, hj, e1, e2⟩)
      · exact .inl e
      · refine .inr ⟨j, hj, e1, ?_⟩
        rw [thr_o _ _ (fun e => by subst e; exact h.own0 hn a a1 a2 e1)] at e2; exact e2
  · by_cases e : j = k
    · subst e
      rw [thr_k]
      refine .inr ⟨c1, ?_⟩
      rw [c2]
      exact .inl ⟨rfl, Int.le_refl _, by show (0 : Int) < _; decide, .inl rfl⟩
    · rw [thr_o _ _ e]; exact h.th j hj
  · rw [thr_o _ _ (fun e => by subst e; exact h.own0 hn a a1 a2 hj)]; exact h.ow a a1 a2 j hj
end
/-- At first. -/
theorem CS.init {t s : Nat} (P : Pc) (ht : P.t = t) (hs : P.s = s) (s1 : 7 ≤ s) (s2 : s ≤ 250) : CS P (sgInit t s) (frees s) (fun a => if a ≤ 5 then 1 else 0) (fun _ => []) 0 := by
  have hi := SI.init (t := t) s1 s2
  have hm : ∀ a, a ∈ frees s ↔ 6 ≤ a ∧ a ≤ s := fun a => by
    simp only [frees, List.mem_map, List.mem_range]
    constructor
    · rintro ⟨j, h1, rfl⟩; omega
    · intro h; exact ⟨a - 6, by omega, by omega⟩
  have hp : ∀ a j, 1 ≤ a → j < 7 → partF t 3 s (nd t a j) = nodeF 3 s (a - 1) j := fun a j a1 hj => partF_node t 3 s (a - 1) j hj
  have h2 : partF t 3 s 2 = 6 := by unfold partF; simp
  refine ⟨by rw [ht, hs]; exact hi.lk, hi.un, fun a a1 a2 => ?_, fun a a1 a2 => ?_, fun a a1 a2 => ?_, fun a a1 a2 => ?_, ?_, fun k _ => .inl rfl, fun a a1 a2 j hj => ?_, fun k _ e he => absurd he (List.not_mem_nil), fun k _ => by simp, ?_, rfl, rfl, rfl⟩
  · rw [hm]
    by_cases e : a ≤ 5
    · rw [if_pos e]; omega
    · rw [if_neg e]; omega
  · show decide (a - 1 < 5) = false ↔ _
    rw [decide_eq_false_iff_not]
    by_cases e : a ≤ 5
    · rw [if_pos e]
      constructor
      · intro h; omega
      · rintro (h | ⟨j, _, h, _⟩) <;> omega
    · rw [if_neg e]
      exact ⟨fun _ => .inl rfl, fun _ => by omega⟩
  · show partF t 3 s (nd P.t a 1) = 0 ∧ (0 : Int) ≤ 0 ∧ (0 : Int) ≤ _
    rw [ht, hp a 1 a1 (by omega)]
    refine ⟨?_, by omega, by omega⟩
    unfold nodeF
    rw [if_neg (by omega), if_neg (by omega), if_neg (by omega), if_neg (by omega)]
  · show 0 ≤ partF t 3 s (nd P.t a 0) ∧ partF t 3 s (nd P.t a 0) ≤ 4095
    rw [ht, hp a 0 a1 (by omega)]
    unfold nodeF
    rw [if_pos rfl]
    split <;> omega
  · show 0 ≤ partF t 3 s 2 ∧ partF t 3 s 2 / 4096 ≤ 0
    rw [h2]; omega
  · split at hj <;> omega
  · show (0 : Int) ≤ 0 ∧ (0 : Int) ≤ _ ∧ (0 : Int) ≤ 0 ∧ (0 : Int) ≤ _
    omega
/-! ### Ends -/
def JS (P : Pc) (σ : Sg) (n : Nat) : Prop := ∃ L O E, CS P σ L O E n
def rkC (P : Pc) (σ : Sg) (k : Nat) : Nat := if (σ.Ts k).nf = 0 then 0 else rkS ((σ.Ts k).fs 0) (σ.f 2)
theorem JS.rk {P : Pc} {σ : Sg} (k : Nat) : (0 < (σ.Ts k).nf → 1 ≤ rkC P σ k) ∧ rkC P σ k ≤ 10 := by
  have := rkS_bd ((σ.Ts k).fs 0) (σ.f 2)
  unfold rkC
  split <;> omega
end Go.Proofs.Ytaaciolfgplnoaa.Sl

/- Layer 19: a node's field is read; loads and stores, with the threads' places. -/
namespace Go.Proofs.Ytaaciolfgplnoaa
open Go.RowKit WordM EdgeM
set_option linter.unusedVariables false
set_option linter.unusedSimpArgs false
set_option maxRecDepth 8000 in
set_option maxHeartbeats 1000000 in
theorem mrclos {w : World} {B q pl mb mg C gq gg gm : Nat} {fv : Value} {tq : Nat → Nat} {t s : Nat} {Kc : Int} {f : Nat → Int} {acc : Int} {flt : Bool} {H : Nat → Bool} {G : Nat → Int} {sl steps : Int} {odd : Bool} (h : MC w B q pl mb mg C gq gg gm fv tq t s Kc f acc flt H G sl steps odd)
    {bx rx : Nat} {T : TypeId} (hb : w.cell? ⟨bx, 0, none⟩ = some (.pointer (some ⟨q, 0, none⟩))) (hr : w.heap[rx]? = some (.cells #[.int .u64 0] T (0, 0))) (n1 : rx ≠ mb) (n2 : rx ≠ mg) (a0 : 0 ≤ acc) (a1 : acc < 1000000) (p : Int) :
    Calls Try.prog 82 #[.int .i64 p, .pointer (some ⟨bx, 0, none⟩), .pointer (some ⟨rx, 0, none⟩)] w fun e w' => e = .returned (.tuple #[]) ∧ Mm.MemAt w' mb mg (3 + 8 * t + 7 * s) C f (acc + 1) (flt || !Mm.okA (3 + 8 * t + 7 * s) p) ∧ w'.cell? ⟨rx, 0, none⟩ = some (.int .u64 (Mm.ldI (3 + 8 * t + 7 * s) f p)) ∧ Th.KS (fun j => j = mb ∨ j = mg ∨ j = rx) w w' := by
  refine Calls.veil fun Q HQ => ?_
  have HL := Lib.hid (Mm.mload _ _ _ _ _ _ p _ _ h.mem a0 (by omega))
  have c1 := h.c1
  have HR := Lib.hid hr
  clear h hr
  go_enter Try.func82, Try.ntmps82
  go_wp2_with fail
  refine HL.out.mono ?_; rintro _ w1 ⟨rfl, hm, ho⟩
  have hr1 : w1.heap[rx]? = some (.cells #[.int .u64 0] T (0, 0)) := (ho.block rx (Th.blk_lt HR.out) n1 n2).trans HR.out
  have r0 := Th.newcell hr1 0 _ rfl
  have rf : ∀ i, w1.frozen? ⟨rx, i, none⟩ = false := fun i => frozen_of_row _ _ _ _ _ hr1
  have HM := Lib.hid hm; have HO := Lib.hid ho; have HR1 := Lib.hid hr1
  clear hm ho hr1 hb c1
  go_wp2_with fail
  refine bodyPost_end (v := .tuple #[]) (by simp [results, Try.results82, go_sem]) rfl ?_
  rw [HQ.out]
  have k := Th.KS.set w1 rx 0 (.int .u64 (Mm.ldI (3 + 8 * t + 7 * s) f p))
  refine ⟨rfl, HM.out.keep k.size (k.block mb HM.out.bl (Ne.symm n1)) (k.block mg HM.out.gl (Ne.symm n2)), Mm.scS r0, (⟨HO.out.os, HO.out.tape, HO.out.output, HO.out.size, fun j hj hx => HO.out.block j hj (fun e => hx (.inl e)) (fun e => hx (.inr (.inl e)))⟩ : Th.KS (fun j => j = mb ∨ j = mg ∨ j = rx) w w1).trans (k.mono fun j e => .inr (.inr e))⟩
set_option maxRecDepth 8000 in
set_option maxHeartbeats 1000000 in
theorem mcreach {w : World} {B q pl mb mg C gq gg gm : Nat} {fv : Value} {tq : Nat → Nat} {t s : Nat} {Kc : Int} {f : Nat → Int} {acc : Int} {flt : Bool} {H : Nat → Bool} {G : Nat → Int} {sl steps : Int} {odd : Bool} (h : MC w B q pl mb mg C gq gg gm fv tq t s Kc f acc flt H G sl steps odd) (e fi : Int) (e0 : 0 ≤ e) (e1 : e < 18446744073709551616) (hl : Gd.leadsB s H G e = true) (a0 : 0 ≤ acc) (a1 : acc < 1000000)
    {bx rx : Nat} {T : TypeId} (hb : w.cell? ⟨bx, 0, none⟩ = some (.pointer (some ⟨q, 0, none⟩))) (hr : w.heap[rx]? = some (.cells #[.int .u64 0] T (0, 0))) (n1 : rx ≠ mb) (n2 : rx ≠ mg) (n3 : rx ≠ q) (n4 : rx ≠ pl) :
    Calls Try.prog 80 #[.pointer (some ⟨q, 0, none⟩), .int .u64 e, .int .i64 fi, .func (Fn.func 82) #[] #[.pointer (some ⟨bx, 0, none⟩), .pointer (some ⟨rx, 0, none⟩)]] w fun x w' => x = .returned (.tuple #[]) ∧ Mm.MemAt w' mb mg (3 + 8 * t + 7 * s) C f (acc + 1) (flt || !Mm.okA (3 + 8 * t + 7 * s) (nodeI t s (e % 4096) fi)) ∧ w'.cell? ⟨rx, 0, none⟩ = some (.int .u64 (Mm.ldI (3 + 8 * t + 7 * s) f (nodeI t s (e % 4096) fi))) ∧ Th.KS (fun j => j = mb ∨ j = mg ∨ j = rx) w w' := by
  refine Calls.veil fun Q HQ => ?_
  have HH := Lib.hid h; have HB := Lib.hid hb; have HR := Lib.hid hr; have HL := Lib.hid hl
  have c2 := h.c2
  have o2 := h.o2; have o3 := h.o3; have o4 := h.o4; have o5 := h.o5
  have HO := Lib.hid (And.intro o2 (And.intro o3 (And.intro o4 o5)))
  clear h hb hr hl o2 o3 o4 o5
  go_enter Try.func80, Try.ntmps80
  go_wp2_with fail
  refine (Gd.gleads HH.out.grd e e0 e1).mono ?_; rintro _ w1 ⟨rfl, hb1⟩
  rw [HL.out]
  have HH1 := Lib.hid (HH.out.below hb1); have HB1 := Lib.hid hb1
  clear hb1 c2
  go_upto_region 3 with fail
  have HLP := Lib.hid (show ∀ y : Ext w1, (Instr.loadAt 75 (.pointer (some ⟨q, 0, none⟩))).run Try.prog y.w = .ok (.pointer (some ⟨pl, 0, none⟩)) y.w from fun y => by have hc := (HH1.out.below y.h).c0; go_simp)
  refine Th.wp_region_K (fun w' => ∃ y : Ext w1, w' = y.w) 9 (by decide +kernel) ?_
  generalize hwd : World.drew w1 = wd
  have hbd : Below w1.heap.size w1 wd := by rw [← hwd]; exact (Below.refl _ _).drew
  clear hwd
  (refine Th.wpAnyK_takeY (i := 0) (v := ?_) rfl (by decide +kernel) (by decide +kernel) (by decide +kernel) (by decide) (fun _ _ _ h => h) (Or.inl ⟨by rfl, ?_⟩) (.inr ⟨⟨wd, hbd⟩, rfl⟩) ?_; rotate_left; (intro w; go_simp); (try with_reducible rfl))
  (try simp only [List.getElem_toArray, List.getElem_cons_succ, List.getElem_cons_zero, Act.put, List.setIfInBounds_toArray, List.set_cons_succ, List.set_cons_zero])
  (refine Th.wpAnyK_takeY (i := 1) (v := ?_) rfl (by decide +kernel) (by decide +kernel) (by decide +kernel) (by decide) (fun _ _ _ h => h) (Or.inl ⟨by rfl, ?_⟩) (.inr ⟨⟨wd, hbd⟩, rfl⟩) ?_; rotate_left; (intro w; go_simp); (try with_reducible rfl))
  (try simp only [List.getElem_toArray, List.getElem_cons_succ, List.getElem_cons_zero, Act.put, List.setIfInBounds_toArray, List.set_cons_succ, List.set_cons_zero])
  (refine Th.wpAnyK_takeY (i := 2) (v := ?_) rfl (by decide +kernel) (by decide +kernel) (by decide +kernel) (by decide) (fun _ _ _ h => h) (Or.inl ⟨by rfl, ?_⟩) (.inr ⟨⟨wd, hbd⟩, rfl⟩) ?_; rotate_left; (intro w; go_simp); (try with_reducible rfl))
  (try simp only [List.getElem_toArray, List.getElem_cons_succ, List.getElem_cons_zero, Act.put, List.setIfInBounds_toArray, List.set_cons_succ, List.set_cons_zero])
  (refine Th.wpAnyK_takeY (i := 3) (v := ?_) rfl (by decide +kernel) (by decide +kernel) (by decide +kernel) (by decide) (fun _ _ _ h => h) (Or.inl ⟨by rfl, ?_⟩) (.inr ⟨⟨wd, hbd⟩, rfl⟩) ?_; rotate_left; (intro w; go_simp); (try with_reducible rfl))
  (try simp only [List.getElem_toArray, List.getElem_cons_succ, List.getElem_cons_zero, Act.put, List.setIfInBounds_toArray, List.set_cons_succ, List.set_cons_zero])
  (refine Th.wpAnyK_take (i := 4) (v := .pointer (some ⟨pl, 0, none⟩)) [8, 9] rfl (by decide +kernel) (by decide +kernel) (by decide +kernel) (by decide +kernel) (fun _ _ _ h => h) (Th.yields_loadK rfl 75 (.tmp 23) rfl rfl (by rintro _ ⟨y, rfl⟩; exact HLP.out y)) ⟨⟨wd, hbd⟩, rfl⟩ ?_)
  (try simp only [List.getElem_toArray, List.getElem_cons_succ, List.getElem_cons_zero, Act.put, List.setIfInBounds_toArray, List.set_cons_succ, List.set_cons_zero])
  (refine Th.wpAnyK_takeY (i := 5) (v := ?_) rfl (by decide +kernel) (by decide +kernel) (by decide +kernel) (by decide) (fun _ _ _ h => h) (Or.inl ⟨by rfl, ?_⟩) (.inr ⟨⟨wd, hbd⟩, rfl⟩) ?_; rotate_left; (intro w; go_simp); (try with_reducible rfl))
  (try simp only [List.getElem_toArray, List.getElem_cons_succ, List.getElem_cons_zero, Act.put, List.setIfInBounds_toArray, List.set_cons_succ, List.set_cons_zero])
  (refine Th.wpAnyK_takeY (i := 7) (v := ?_) rfl (by decide +kernel) (by decide +kernel) (by decide +kernel) (by decide) (fun _ _ _ h => h) (Or.inl ⟨by rfl, ?_⟩) (.inr ⟨⟨wd, hbd⟩, rfl⟩) ?_; rotate_left; (intro w; go_simp); (try with_reducible rfl))
  (try simp only [List.getElem_toArray, List.getElem_cons_succ, List.getElem_cons_zero, Act.put, List.setIfInBounds_toArray, List.set_cons_succ, List.set_cons_zero])
  (refine Th.wpAnyK_ready (rs := [6]) (by decide +kernel) (by simp) ?_; refine (Th.AllReadyK.cons rfl (fun K hK => ?_) Th.AllReadyK.nil))
  refine step_of rfl ?_
  go_step
  refine (eslot_calls e _ e0 e1).mono ?_; rintro _ w6 ⟨rfl, hw6⟩
  rw [← hw6]
  refine hK _ _ (.inr ⟨⟨wd, hbd⟩, rfl⟩) ?_
  clear hK K hw6
  (try simp only [List.getElem_toArray, List.getElem_cons_succ, List.getElem_cons_zero, Act.put, List.setIfInBounds_toArray, List.set_cons_succ, List.set_cons_zero])
  (refine Th.wpAnyK_ready (rs := [8]) (by decide +kernel) (by simp) ?_; refine (Th.AllReadyK.cons rfl (fun K hK => ?_) Th.AllReadyK.nil))
  refine step_of rfl ?_
  go_step
  have hbb := HH.out.bd
  refine (pnode_calls t s pl (e % 4096) fi _ (HH1.out.below hbd).p0 (HH1.out.below hbd).p1 (by omega) (by omega) (by omega) (by omega)).mono ?_; rintro _ w2 ⟨rfl, hb2⟩
  have hb2 := below_on hbd hb2
  refine hK _ _ (.inr ⟨⟨w2, hb2⟩, rfl⟩) ?_
  clear hK K hbb
  (try simp only [List.getElem_toArray, List.getElem_cons_succ, List.getElem_cons_zero, Act.put, List.setIfInBounds_toArray, List.set_cons_succ, List.set_cons_zero])
  (refine Th.wpAnyK_ready (rs := [9]) (by decide +kernel) (by simp) ?_; refine (Th.AllReadyK.cons rfl (fun K hK => ?_) Th.AllReadyK.nil))
  refine step_of rfl ?_
  have hb3 := below_on HB1.out hb2
  go_step
  refine (mrclos (HH.out.below hb3) (Ext.use (Ext.cells HB.out) hb3) (Th.up hb3 HR.out) n1 n2 a0 a1 (nodeI t s (e % 4096) fi)).mono ?_; rintro _ w3 ⟨rfl, hm, hc, hk⟩
  have HF := Lib.hid (And.intro hm (And.intro hc ((Th.KS.of_below hb3).trans hk)))
  refine hK _ _ (.inl rfl) ?_
  clear hK K hm hc hk
  refine Th.wpAnyK_done (by decide +kernel) ?_ _
  go_wp2_with fail
  refine bodyPost_end (v := .tuple #[]) (by simp [results, Try.results80, go_sem]) rfl ?_
  rw [HQ.out]
  exact ⟨rfl, HF.out⟩
set_option maxRecDepth 8000 in
set_option maxHeartbeats 1000000 in
theorem mrread {w : World} {B q pl mb mg C gq gg gm : Nat} {fv : Value} {tq : Nat → Nat} {t s : Nat} {Kc : Int} {f : Nat → Int} {acc : Int} {flt : Bool} {H : Nat → Bool} {G : Nat → Int} {sl steps : Int} {odd : Bool} (h : MC w B q pl mb mg C gq gg gm fv tq t s Kc f acc flt H G sl steps odd) (e fi : Int) (e0 : 0 ≤ e) (e1 : e < 18446744073709551616) (hl : Gd.leadsB s H G e = true) (a0 : 0 ≤ acc) (a1 : acc < 1000000) :
    Calls Try.prog 63 #[.pointer (some ⟨q, 0, none⟩), .int .u64 e, .int .i64 fi] w fun x w' => x = .returned (.int .u64 (Mm.ldI (3 + 8 * t + 7 * s) f (nodeI t s (e % 4096) fi))) ∧ MC w' B q pl mb mg C gq gg gm fv tq t s Kc f (acc + 1) (flt || !Mm.okA (3 + 8 * t + 7 * s) (nodeI t s (e % 4096) fi)) H G sl steps odd ∧ Mm.Only mb mg w w' := by
  refine Calls.veil fun Q HQ => ?_
  have HH := Lib.hid h; have HL := Lib.hid hl
  clear h hl
  go_enter Try.func63, Try.ntmps63
  go_upto_region 2 with fail
  generalize hV : World.alloc _ _ = U
  obtain ⟨u0, u1, hbu⟩ := heap2c hV
  obtain ⟨rx, hrx⟩ : ∃ rx, rx = w.heap.size + 1 := ⟨_, rfl⟩
  obtain ⟨bx, hbx⟩ : ∃ bx, bx = w.heap.size := ⟨_, rfl⟩
  rw [← hrx] at u1 ⊢
  rw [← hbx] at u0 ⊢
  have b0 := Th.newcell u0 0 _ rfl
  have HU := Lib.hid (HH.out.below hbu); have HBU := Lib.hid hbu; have HR := Lib.hid u1; have HB0 := Lib.hid b0
  have HN := Lib.hid (show rx ≠ mb ∧ rx ≠ mg ∧ rx ≠ q ∧ rx ≠ pl from by have h1 := HH.out.mem.bl; have h2 := HH.out.mem.gl; have h3 := Th.blk_lt HH.out.blk; have h4 := Th.blk_lt HH.out.pln; omega)
  have HRX := Lib.hid (show w.heap.size ≤ rx from by omega)
  clear hV u0 u1 hbu hrx hbx
  go_wp2_with fail
  refine (mcreach HU.out e fi e0 e1 HL.out a0 a1 HB0.out HR.out HN.out.1 HN.out.2.1 HN.out.2.2.1 HN.out.2.2.2).mono ?_; rintro _ w2 ⟨rfl, hm, hc, hk⟩
  have HM := Lib.hid hm; have HC := Lib.hid hc; have HK2 := Lib.hid hk
  have r0 := hc
  clear hm hk b0 hc
  go_wp2_with fail
  (try go_ret)
  rw [HQ.out]
  have ho : Mm.Only mb mg w w2 := ⟨HK2.out.os.trans HBU.out.os, HK2.out.tape.trans HBU.out.tape, HK2.out.output.trans HBU.out.output, Nat.le_trans HBU.out.size HK2.out.size, fun k hk h1 h2 => (HK2.out.block k (Nat.lt_of_lt_of_le hk HBU.out.size) (by rintro (e | e | e); exact h1 e; exact h2 e; have := HRX.out; omega)).trans (HBU.out.block k hk)⟩
  exact ⟨rfl, HH.out.only ho HM.out, ho⟩
/-- Where a stamp, and a bag's head, stand. -/
def stI (k b : Nat) : Nat := 3 + k * 8 + 2 + b
def bgI (k b : Nat) : Nat := 3 + k * 8 + 5 + b
theorem of_st {t k b : Nat} (hk : k < t) (hb : b < 3) : ofBagI t k 2 b = ((stI k b : Nat) : Int) := by
  unfold ofBagI threadI stI; rw [if_pos (by omega), if_pos (by omega)]; omega
theorem of_bg {t k b : Nat} (hk : k < t) (hb : b < 3) : ofBagI t k 5 b = ((bgI k b : Nat) : Int) := by
  unfold ofBagI threadI bgI; rw [if_pos (by omega), if_pos (by omega)]; omega
theorem ok_nat {n a : Nat} (h : a < n) : Mm.okA n (a : Int) = true := by unfold Mm.okA; simp; omega
theorem MP.load {w : World} {P : Pc} {σ : Sg} {ps : Nat → Nat → Nat} {fvs : Nat → Value} (h : MP w P σ ps fvs) (a : Nat) (ha : a < 3 + 8 * P.t + 7 * P.s) (a0 : 0 ≤ σ.acc) (a1 : σ.acc < 1000000) :
    Calls Try.prog 9 #[.pointer (some ⟨P.mb, 0, none⟩), .int .i64 a] w fun e w' => e = .returned (.int .u64 (σ.f a)) ∧ MP w' P { σ with acc := σ.acc + 1 } ps fvs ∧ KA P.B P.N w w' := by
  have hok := ok_nat ha
  refine (Mm.mload _ _ _ _ _ _ (a : Int) _ _ h.c.mem a0 (by omega)).mono ?_; rintro _ w3 ⟨rfl, hm3, ho⟩
  rw [hok] at hm3
  have hli : Mm.ldI (3 + 8 * P.t + 7 * P.s) σ.f a = σ.f a := by unfold Mm.ldI; rw [hok]; simp
  rw [hli]
  obtain ⟨hp3, hk3⟩ := h.only ho (show Mm.MemAt w3 P.mb P.mg (3 + 8 * P.t + 7 * P.s) P.C σ.f (σ.acc + 1) σ.flt by simpa using hm3)
  exact ⟨rfl, hp3, hk3⟩
theorem MP.store {w : World} {P : Pc} {σ : Sg} {ps : Nat → Nat → Nat} {fvs : Nat → Value} (h : MP w P σ ps fvs) (a : Nat) (ha : a < 3 + 8 * P.t + 7 * P.s) (v : Int) (v0 : 0 ≤ v) (v1 : v < 18446744073709551616) (a0 : 0 ≤ σ.acc) (a1 : σ.acc < 1000000) :
    Calls Try.prog 59 #[.pointer (some ⟨P.mb, 0, none⟩), .int .i64 a, .int .u64 v] w fun e w' => e = .returned (.tuple #[]) ∧ MP w' P { σ with acc := σ.acc + 1, f := Mm.upd σ.f a v } ps fvs ∧ KA P.B P.N w w' := by
  have hok := ok_nat ha
  refine (Mm.mstore _ _ _ _ _ _ (a : Int) v _ _ h.c.mem a0 (by omega) v0 v1).mono ?_; rintro _ w3 ⟨rfl, hm3, ho⟩
  rw [hok] at hm3
  obtain ⟨hp3, hk3⟩ := h.only ho (show Mm.MemAt w3 P.mb P.mg (3 + 8 * P.t + 7 * P.s) P.C (Mm.upd σ.f a v) (σ.acc + 1) σ.flt by simpa using hm3)
  exact ⟨rfl, hp3, hk3⟩
/-- A node's field is read by an edge that leads there. -/
theorem MP.read {w : World} {P : Pc} {σ : Sg} {ps : Nat → Nat → Nat} {fvs : Nat → Value} (h : MP w P σ ps fvs) {e : Int} {a j : Nat} (e0 : 0 ≤ e) (e1 : e < 18446744073709551616) (hl : Gd.leadsB P.s σ.H σ.G e = true) (ha : e % 4096 = a) (a1 : 1 ≤ a) (a2 : a ≤ P.s) (hj : j < 7) (c0 : 0 ≤ σ.acc) (c1 : σ.acc < 1000000) :
    Calls Try.prog 63 #[.pointer (some ⟨P.q, 0, none⟩), .int .u64 e, .int .i64 j] w fun x w' => x = .returned (.int .u64 (σ.f (Sl.nd P.t a j))) ∧ MP w' P { σ with acc := σ.acc + 1 } ps fvs ∧ KA P.B P.N w w' := by
  obtain ⟨q1, q2⟩ := Sl.ld_nd (P := P) (f := σ.f) (j := j) a1 a2 hj
  have q1' : Mm.ldI (3 + 8 * P.t + 7 * P.s) σ.f (nodeI P.t P.s a j) = σ.f (Sl.nd P.t a j) := q1
  have q2' : Mm.okA (3 + 8 * P.t + 7 * P.s) (nodeI P.t P.s a j) = true := q2
  refine (mrread h.c e j e0 e1 hl c0 c1).mono ?_
  rintro _ w' ⟨rfl, hm, ho⟩
  rw [ha, q2'] at hm
  rw [ha, q1']
  obtain ⟨hp3, hk3⟩ := h.only ho (show Mm.MemAt w' P.mb P.mg (3 + 8 * P.t + 7 * P.s) P.C σ.f (σ.acc + 1) σ.flt by simpa using hm.mem)
  exact ⟨rfl, hp3, hk3⟩
/-- A node's field is written by an edge that leads there. -/
theorem MP.write {w : World} {P : Pc} {σ : Sg} {ps : Nat → Nat → Nat} {fvs : Nat → Value} (h : MP w P σ ps fvs) {e : Int} {a j : Nat} (e0 : 0 ≤ e) (e1 : e < 18446744073709551616) (hl : Gd.leadsB P.s σ.H σ.G e = true) (ha : e % 4096 = a) (a1 : 1 ≤ a) (a2 : a ≤ P.s) (hj : j < 7) (v : Int) (v0 : 0 ≤ v) (v1 : v < 18446744073709551616) (c0 : 0 ≤ σ.acc) (c1 : σ.acc < 1000000) :
    Calls Try.prog 61 #[.pointer (some ⟨P.q, 0, none⟩), .int .u64 e, .int .i64 j, .int .u64 v] w fun x w' => x = .returned (.tuple #[]) ∧ MP w' P { σ with acc := σ.acc + 1, f := Mm.upd σ.f (Sl.nd P.t a j) v } ps fvs ∧ KA P.B P.N w w' := by
  obtain ⟨q1, q2⟩ := Sl.ld_nd (P := P) (f := σ.f) (j := j) a1 a2 hj
  have q2' : Mm.okA (3 + 8 * P.t + 7 * P.s) (nodeI P.t P.s a j) = true := q2
  refine (cwacc h.c e j e0 e1 hl c0 c1 v0 v1).mono ?_
  rintro _ w' ⟨rfl, hm, ho⟩
  rw [ha, if_pos q2', q2', Sl.nd_node a1 a2 hj] at hm
  obtain ⟨hp3, hk3⟩ := h.only ho (show Mm.MemAt w' P.mb P.mg (3 + 8 * P.t + 7 * P.s) P.C (Mm.upd σ.f (Sl.nd P.t a j) v) (σ.acc + 1) σ.flt by simpa using hm.mem)
  exact ⟨rfl, hp3, hk3⟩
end Go.Proofs.Ytaaciolfgplnoaa
