/- GBC: several texts in one. -/
import Derived.Test.YtaaciolfgplnoaaGBB
/- Layer 19: steps of Clean and Retire (no program in it). -/
namespace Go.Proofs.Ytaaciolfgplnoaa.Lb
open Go.RowKit WordM EdgeM Sl
set_option linter.unusedVariables false
set_option linter.unusedSimpArgs false
section
variable {P : Pc} {σ : Sg} {g : Gh} {n k : Nat}
theorem so_clean (h : XS P σ g n) (hN : n ≤ 1000000) (hk : k < P.t) (hn : (σ.Ts k).nf = 1) (hF : CleanF σ.f g k ((σ.Ts k).fs 0)) : ∃ σ' g', LS P k 0 σ.stp σ' ∧ SO P σ σ' k g g' n := by
  obtain ⟨hfn, h7, hF⟩ := hF
  have hep := h.ep
  have h3 := h.no3 (m := 0) hn (by omega) (by omega)
  have hr0 : rk P.t (σ.Ts k) (σ.f 2) (bn g k) = rkC (bn g k) ((σ.Ts k).fs 0) := rk_1C hn hfn
  have nt : took (σ.Ts k) → False := fun h9 => by have := h9.2; omega
  rcases hF with ⟨hpc, hr1⟩ | ⟨hpc, ha, hb, c, hc, hc3⟩
  · refine ⟨_, g, .cl0 (σ := σ.stp) hfn hpc, so_set1 h hk hn (.inr rfl) h3 ⟨((σ.Ts k).fs 0).fn, 1, updr ((σ.Ts k).fs 0).r 0 (σ.f 1)⟩ (.inr (.inl ⟨hn, .inr (.inl ?_)⟩)) ?_⟩
    · rw [setF_fs]
      refine ⟨hfn, h7, .inr ⟨rfl, ?_, ?_, 0, ?_, by omega⟩⟩
      · show 0 ≤ updr ((σ.Ts k).fs 0).r 0 (σ.f 1) 0; rw [updr_at]; omega
      · show updr ((σ.Ts k).fs 0).r 0 (σ.f 1) 0 ≤ _; rw [updr_at]; exact Int.le_refl _
      · show updr ((σ.Ts k).fs 0).r 0 (σ.f 1) 1 = _; rw [updr_ne _ _ (by decide)]; exact hr1
    · rw [hr0, rk_1C (show (setF (σ.Ts k) 0 _).nf = 1 from hn) (by rw [setF_fs]; exact hfn), setF_fs]
      unfold rkC
      rw [if_neg (show ¬ (1 : Int) = 0 by decide), if_pos hpc]
      omega
  · by_cases hz : c = 3
    · subst hz
      exact ⟨_, g, .cl1z (σ := σ.stp) hfn hpc hc, so_back1 h hk hn (.inl rfl) h3 h7 (Th.backT (σ.Ts k) 0 (fun _ => 0)) (by show (σ.Ts k).nf - 1 = 0; omega) (fun h9 => absurd (nt h9) id)⟩
    · have hcl : c < 3 := by omega
      have hC : CleanF σ.f g k ⟨((σ.Ts k).fs 0).fn, ((σ.Ts k).fs 0).pc, updr ((σ.Ts k).fs 0).r 1 (((σ.Ts k).fs 0).r 1 + 1)⟩ := by
        refine ⟨hfn, h7, .inr ⟨hpc, ?_, ?_, c + 1, ?_, by omega⟩⟩
        · show 0 ≤ updr ((σ.Ts k).fs 0).r 1 (((σ.Ts k).fs 0).r 1 + 1) 0; rw [updr_ne _ _ (by decide)]; exact ha
        · show updr ((σ.Ts k).fs 0).r 1 (((σ.Ts k).fs 0).r 1 + 1) 0 ≤ _; rw [updr_ne _ _ (by decide)]; exact hb
        · show updr ((σ.Ts k).fs 0).r 1 (((σ.Ts k).fs 0).r 1 + 1) 1 = _; rw [updr_at, hc]; rfl
      have hr1 : updr ((σ.Ts k).fs 0).r 1 (((σ.Ts k).fs 0).r 1 + 1) 1 = ((c + 1 : Nat) : Int) := by rw [updr_at, hc]; rfl
      cases hq : oldB (σ.f (stI k c)) (((σ.Ts k).fs 0).r 0) with
      | false =>
        refine ⟨_, g, .cl1n (σ := σ.stp) hfn hpc ⟨ha, by show ((σ.Ts k).fs 0).r 0 < _; omega⟩ hc hcl hq, so_set1 h hk hn (.inr rfl) h3 ⟨((σ.Ts k).fs 0).fn, ((σ.Ts k).fs 0).pc, updr ((σ.Ts k).fs 0).r 1 (((σ.Ts k).fs 0).r 1 + 1)⟩ (.inr (.inl ⟨hn, .inr (.inl (by rw [setF_fs]; exact hC))⟩)) ?_⟩
        rw [hr0, rk_1C (show (setF (σ.Ts k) 0 _).nf = 1 from hn) (by rw [setF_fs]; exact hfn), setF_fs]
        unfold rkC
        rw [if_neg (show ¬ ((σ.Ts k).fs 0).pc = 0 by omega), if_neg (by omega)]
        show 7 * bn g k + 5 * (3 - (updr ((σ.Ts k).fs 0).r 1 (((σ.Ts k).fs 0).r 1 + 1) 1).toNat) + 1 < _
        rw [hr1, hc]; omega
      | true =>
        have hq' : σ.f (stI k c) + 3 ≤ ((σ.Ts k).fs 0).r 0 := by
          unfold oldB at hq
          exact (of_decide_eq_true hq).2
        refine ⟨_, g, .cl1d (σ := σ.stp) hfn hpc ⟨ha, by show ((σ.Ts k).fs 0).r 0 < _; omega⟩ hc hcl hq, so_call1 h hk hn (.inr rfl) h3 ⟨((σ.Ts k).fs 0).fn, ((σ.Ts k).fs 0).pc, updr ((σ.Ts k).fs 0).r 1 (((σ.Ts k).fs 0).r 1 + 1)⟩ c hcl (.inr ⟨hpc, hC⟩) (.inr (by omega)) ?_ rfl⟩
        rw [hr0]
        unfold rkC rkB
        rw [if_neg (show ¬ ((σ.Ts k).fs 0).pc = 0 by omega), if_neg (show ¬ ((σ.Ts k).fs 0).fn = 20 by omega)]
        show 5 * (3 - (updr ((σ.Ts k).fs 0).r 1 (((σ.Ts k).fs 0).r 1 + 1) 1).toNat) + 1 + _ + 4 < _
        rw [hr1, hc]; omega
/-! ### Retire -/
theorem rk_setR {F : Th.Fm} (hn : (σ.Ts k).nf = 1) (hF : F.fn = 20) : rk P.t (setF (σ.Ts k) 0 F) (σ.f 2) (bn g k) = rkR (bn g k) F := by
  rw [rk_1R (show (setF (σ.Ts k) 0 F).nf = 1 from hn) (by rw [setF_fs]; exact hF), setF_fs]
theorem root_edge (h : XS P σ g n) (hk : k < P.t) {c : Nat} (hc : c < 3) (hn : (σ.Ts k).nf < 2) : 0 ≤ σ.f (bgI k c) ∧ σ.f (bgI k c) < 4611686018427387904 := by
  have h1 := h.ch k hk c hc
  rw [root_lt hn] at h1
  have h2 := h.xe k hk _ (ofK_b hc)
  generalize g.X (10 * k + 4 + c) = l at h1 h2
  cases l with
  | nil => rw [show σ.f (bgI k c) = 0 from h1]; omega
  | cons e r => rw [show σ.f (bgI k c) = e from h1.1]; have := (h2 e List.mem_cons_self).1; omega
theorem so_ret0 (h : XS P σ g n) (hN : n ≤ 1000000) (hk : k < P.t) (hn : (σ.Ts k).nf = 1) (hfn : ((σ.Ts k).fs 0).fn = 20) (h7 : g.X (10 * k + 7) = [((σ.Ts k).fs 0).r 0]) (hpc : ((σ.Ts k).fs 0).pc = 0) (hr1 : ((σ.Ts k).fs 0).r 1 = 0) (hW : g.W (sl (((σ.Ts k).fs 0).r 0)) ≤ σ.f 1) : ∃ σ' g', LS P k 0 σ.stp σ' ∧ SO P σ σ' k g g' n := by
  have hep := h.ep
  have h3 := h.no3 (m := 0) hn (by omega) (by omega)
  have hx := (h.xe k hk _ (ofK_7 k) _ (by rw [h7]; exact List.mem_cons_self)).1
  refine ⟨_, g, .ret0 (σ := σ.stp) (b := 0) hfn hpc ⟨by show 0 ≤ ((σ.Ts k).fs 0).r 0; omega, by show ((σ.Ts k).fs 0).r 0 < _; omega⟩ ⟨by show 0 ≤ ((σ.Ts k).fs 0).r 1; omega, by show ((σ.Ts k).fs 0).r 1 < _; omega⟩ (by show ((σ.Ts k).fs 0).r 1 % 3 = _; omega), so_set1 h hk hn (.inr rfl) h3 ⟨((σ.Ts k).fs 0).fn, 1, updr ((σ.Ts k).fs 0).r 1 (σ.f 1)⟩ (.inr (.inl ⟨hn, .inr (.inr ?_)⟩)) ?_⟩
  · rw [setF_fs]
    have e0 : updr ((σ.Ts k).fs 0).r 1 (σ.f 1) 0 = ((σ.Ts k).fs 0).r 0 := updr_ne _ _ (by decide)
    have e1 : updr ((σ.Ts k).fs 0).r 1 (σ.f 1) 1 = σ.f 1 := updr_at _ _ _
    obtain ⟨c, hc⟩ : ∃ c : Nat, σ.f 1 % 3 = c := ⟨(σ.f 1 % 3).toNat, by omega⟩
    refine .inr ⟨c, by omega, ⟨hfn, ?_, ?_, ?_, ?_, ?_⟩, .inl ⟨rfl, ?_⟩⟩
    · show _ = [updr ((σ.Ts k).fs 0).r 1 (σ.f 1) 0]; rw [e0]; exact h7
    · show g.W (sl (updr ((σ.Ts k).fs 0).r 1 (σ.f 1) 0)) ≤ updr ((σ.Ts k).fs 0).r 1 (σ.f 1) 1; rw [e0, e1]; exact hW
    · show 0 ≤ updr ((σ.Ts k).fs 0).r 1 (σ.f 1) 1; rw [e1]; omega
    · show updr ((σ.Ts k).fs 0).r 1 (σ.f 1) 1 ≤ _; rw [e1]; exact Int.le_refl _
    · show updr ((σ.Ts k).fs 0).r 1 (σ.f 1) 1 % 3 = _; rw [e1]; exact hc
    · show _ ≤ updr ((σ.Ts k).fs 0).r 1 (σ.f 1) 1; rw [e1]; exact (h.sta k hk c (by omega)).1.2
  · rw [rk_setR hn (by exact hfn), rk_1R hn hfn]
    unfold rkR
    rw [if_neg (show ¬ (1 : Int) = 0 by decide), if_pos rfl, if_pos hpc]; omega
theorem so_ret1 (h : XS P σ g n) (hN : n ≤ 1000000) (hk : k < P.t) (hn : (σ.Ts k).nf = 1) {c : Nat} (hc : c < 3) (hB : RetB σ.f g k ((σ.Ts k).fs 0) c) (hpc : ((σ.Ts k).fs 0).pc = 1) (hst : σ.f (stI k c) ≤ ((σ.Ts k).fs 0).r 1) : ∃ σ' g', LS P k 0 σ.stp σ' ∧ SO P σ σ' k g g' n := by
  obtain ⟨hfn, h7, hW, b0, b1, b2⟩ := id hB
  have hep := h.ep
  have h3 := h.no3 (m := 0) hn (by omega) (by omega)
  have hx := (h.xe k hk _ (ofK_7 k) _ (by rw [h7]; exact List.mem_cons_self)).1
  have g0 : 0 ≤ ((σ.Ts k).fs 0).r 0 ∧ ((σ.Ts k).fs 0).r 0 < 18446744073709551616 := by omega
  have g1 : 0 ≤ ((σ.Ts k).fs 0).r 1 ∧ ((σ.Ts k).fs 0).r 1 < 18446744073709551616 := by omega
  have hr0 : rk P.t (σ.Ts k) (σ.f 2) (bn g k) = 7 * bn g k + 11 := by
    rw [rk_1R hn hfn]; unfold rkR; rw [if_neg (by omega), if_pos hpc]
  cases hq : (σ.f (stI k c) != ((σ.Ts k).fs 0).r 1) with
  | false =>
    have hq' : σ.f (stI k c) = ((σ.Ts k).fs 0).r 1 := by simpa using hq
    refine ⟨_, g, .ret1 (σ := σ.stp) hfn hpc g0 g1 b2 hq, so_set1 h hk hn (.inr rfl) h3 ⟨((σ.Ts k).fs 0).fn, 3, ((σ.Ts k).fs 0).r⟩ (.inr (.inl ⟨hn, .inr (.inr ?_)⟩)) ?_⟩
    · rw [setF_fs]
      exact .inr ⟨c, hc, hB, .inr (.inr (.inl ⟨rfl, hq'⟩))⟩
    · rw [rk_setR hn (by exact hfn), hr0]
      unfold rkR
      rw [if_neg (show ¬ (3 : Int) = 0 by decide), if_neg (show ¬ (3 : Int) = 1 by decide)]
      show (6 - (3 : Int)).toNat < _; omega
  | true =>
    have hq' : σ.f (stI k c) ≠ ((σ.Ts k).fs 0).r 1 := by simpa using hq
    refine ⟨_, g, .ret1d (σ := σ.stp) hfn hpc g0 g1 b2 hq, so_call1 h hk hn (.inr rfl) h3 ⟨((σ.Ts k).fs 0).fn, 2, ((σ.Ts k).fs 0).r⟩ c hc (.inl ⟨rfl, hB⟩) ?_ ?_ rfl⟩
    · by_cases e : g.X (10 * k + 4 + c) = []
      · exact .inl e
      · right
        have := (h.sta k hk c hc).2.1 e
        omega
    · rw [hr0]; unfold rkB; rw [if_pos (show ((σ.Ts k).fs 0).fn = 20 from hfn)]; omega
theorem so_ret3 (h : XS P σ g n) (hN : n ≤ 1000000) (hk : k < P.t) (hn : (σ.Ts k).nf = 1) {c : Nat} (hc : c < 3) (hB : RetB σ.f g k ((σ.Ts k).fs 0) c) (hpc : ((σ.Ts k).fs 0).pc = 3) (hst : σ.f (stI k c) = ((σ.Ts k).fs 0).r 1) : ∃ σ' g', LS P k 0 σ.stp σ' ∧ SO P σ σ' k g g' n := by
  obtain ⟨hfn, h7, hW, b0, b1, b2⟩ := id hB
  have hep := h.ep
  have h3 := h.no3 (m := 0) hn (by omega) (by omega)
  have hx := (h.xe k hk _ (ofK_7 k) _ (by rw [h7]; exact List.mem_cons_self)).1
  refine ⟨_, g, .ret3 (σ := σ.stp) hfn hpc ⟨by show 0 ≤ ((σ.Ts k).fs 0).r 0; omega, by show ((σ.Ts k).fs 0).r 0 < _; omega⟩ ⟨b0, by show ((σ.Ts k).fs 0).r 1 < _; omega⟩ b2, so_set1 h hk hn (.inr rfl) h3 ⟨((σ.Ts k).fs 0).fn, 4, updr ((σ.Ts k).fs 0).r 2 (σ.f (bgI k c))⟩ (.inr (.inl ⟨hn, .inr (.inr ?_)⟩)) ?_⟩
  · rw [setF_fs]
    have e0 : updr ((σ.Ts k).fs 0).r 2 (σ.f (bgI k c)) 0 = ((σ.Ts k).fs 0).r 0 := updr_ne _ _ (by decide)
    have e1 : updr ((σ.Ts k).fs 0).r 2 (σ.f (bgI k c)) 1 = ((σ.Ts k).fs 0).r 1 := updr_ne _ _ (by decide)
    have e2 : updr ((σ.Ts k).fs 0).r 2 (σ.f (bgI k c)) 2 = σ.f (bgI k c) := updr_at _ _ _
    refine .inr ⟨c, hc, ⟨hfn, ?_, ?_, ?_, ?_, ?_⟩, .inr (.inr (.inr (.inl ⟨rfl, ?_, ?_⟩)))⟩
    · show _ = [updr ((σ.Ts k).fs 0).r 2 (σ.f (bgI k c)) 0]; rw [e0]; exact h7
    · show g.W (sl (updr ((σ.Ts k).fs 0).r 2 (σ.f (bgI k c)) 0)) ≤ updr ((σ.Ts k).fs 0).r 2 (σ.f (bgI k c)) 1; rw [e0, e1]; exact hW
    · show 0 ≤ updr ((σ.Ts k).fs 0).r 2 (σ.f (bgI k c)) 1; rw [e1]; exact b0
    · show updr ((σ.Ts k).fs 0).r 2 (σ.f (bgI k c)) 1 ≤ _; rw [e1]; exact b1
    · show updr ((σ.Ts k).fs 0).r 2 (σ.f (bgI k c)) 1 % 3 = _; rw [e1]; exact b2
    · show _ = updr ((σ.Ts k).fs 0).r 2 (σ.f (bgI k c)) 1; rw [e1]; exact hst
    · show updr ((σ.Ts k).fs 0).r 2 (σ.f (bgI k c)) 2 = _; rw [e2]
  · rw [rk_setR hn (by exact hfn), rk_1R hn hfn]
    unfold rkR
    rw [if_neg (show ¬ (4 : Int) = 0 by decide), if_neg (show ¬ (4 : Int) = 1 by decide), if_neg (by omega), if_neg (by omega), hpc]
    show (6 - (4 : Int)).toNat < (6 - (3 : Int)).toNat; omega
theorem so_ret2 (h : XS P σ g n) (hN : n ≤ 1000000) (hk : k < P.t) (hn : (σ.Ts k).nf = 1) {c : Nat} (hc : c < 3) (hB : RetB σ.f g k ((σ.Ts k).fs 0) c) (hpc : ((σ.Ts k).fs 0).pc = 2) (hX : g.X (10 * k + 4 + c) = []) : ∃ σ' g', LS P k 0 σ.stp σ' ∧ SO P σ σ' k g g' n := by
  obtain ⟨hfn, h7, hW, b0, b1, b2⟩ := id hB
  have hep := h.ep
  have h3 := h.no3 (m := 0) hn (by omega) (by omega)
  have hx := (h.xe k hk _ (ofK_7 k) _ (by rw [h7]; exact List.mem_cons_self)).1
  have e1 : ∀ i, i ≠ stI k c → Mm.upd σ.f (stI k c) (((σ.Ts k).fs 0).r 1) i = σ.f i := fun i hi => upd_ne _ _ hi
  have l1 := st_lo (a := 0) (j := 0) hk hc
  have hep1 : Mm.upd σ.f (stI k c) (((σ.Ts k).fs 0).r 1) 1 = σ.f 1 := e1 _ (Ne.symm l1.2.2.1)
  have ebg : ∀ c', c' < 3 → Mm.upd σ.f (stI k c) (((σ.Ts k).fs 0).r 1) (bgI k c') = σ.f (bgI k c') := fun c' hc' => e1 _ (Ne.symm (st_bg hc hc'))
  have end_ : ∀ a j, Mm.upd σ.f (stI k c) (((σ.Ts k).fs 0).r 1) (nd P.t a j) = σ.f (nd P.t a j) := fun a j => e1 _ (Ne.symm (st_lo hk hc).1)
  refine ⟨_, g, .ret2 (σ := σ.stp) hfn hpc ⟨by show 0 ≤ ((σ.Ts k).fs 0).r 0; omega, by show ((σ.Ts k).fs 0).r 0 < _; omega⟩ ⟨b0, by show ((σ.Ts k).fs 0).r 1 < _; omega⟩ b2, ?_⟩
  show SO P σ (nz σ k (setF (σ.Ts k) 0 ⟨((σ.Ts k).fs 0).fn, 3, ((σ.Ts k).fs 0).r⟩) (Mm.upd σ.f (stI k c) (((σ.Ts k).fs 0).r 1)) σ.H σ.G (σ.acc + 1)) k g g n
  refine ⟨h.wr hk 0 (.inl rfl) (.inr rfl) (e1 _ (Ne.symm l1.2.2.2.1)) (by rw [hep1]; omega) (fun j _ => e1 _ (ai_ne hc).1) (fun i hi hik c' hc' => ⟨e1 _ (st_ne hik hc hc').1, e1 _ (st_ne hik hc hc').2.2.1⟩) (fun a _ _ => ⟨fun _ => end_ a 0, end_ a 1⟩) (fun b1 _ => by omega) (fun a a1 a2 ho => absurd ho (h3 a a1 a2)) (fun c' hc' => ?_) (fun c' hc' => ?_) (.inr (.inl ⟨hn, .inr (.inr ?_)⟩)), eff0 rfl rfl, .inr ?_, .inl ⟨fun _ => rfl, fun h9 _ => by have := h9.2; omega⟩⟩
  · rw [root_lt (show (setF (σ.Ts k) 0 _).nf < 2 by show (σ.Ts k).nf < 2; omega), ebg c' hc']
    have := h.ch k hk c' hc'
    rw [root_lt (by omega)] at this
    exact this.on fun e _ => end_ _ 0
  · rw [hep1]
    by_cases e : c' = c
    · subst e
      rw [upd_at, hX]
      exact ⟨⟨b0, b1⟩, fun h => absurd rfl h, fun e he => absurd he List.not_mem_nil⟩
    · rw [e1 _ (by unfold stI; omega)]; exact h.sta k hk c' hc'
  · rw [setF_fs]
    refine .inr ⟨c, hc, ⟨hfn, h7, hW, b0, by rw [hep1]; exact b1, b2⟩, .inr (.inr (.inl ⟨rfl, ?_⟩))⟩
    rw [upd_at]
  · rw [nz_at]
    show rk P.t (setF (σ.Ts k) 0 _) (Mm.upd σ.f (stI k c) (((σ.Ts k).fs 0).r 1) 2) _ < _
    rw [e1 _ (Ne.symm l1.2.2.2.1), rk_setR hn (by exact hfn), rk_1R hn hfn]
    unfold rkR
    rw [if_neg (show ¬ (3 : Int) = 0 by decide), if_neg (show ¬ (3 : Int) = 1 by decide), if_neg (by omega), if_neg (by omega), hpc]
    show (6 - (3 : Int)).toNat < (6 - (2 : Int)).toNat; omega
theorem so_ret4 (h : XS P σ g n) (hN : n ≤ 1000000) (hk : k < P.t) (hn : (σ.Ts k).nf = 1) {c : Nat} (hc : c < 3) (hB : RetB σ.f g k ((σ.Ts k).fs 0) c) (hpc : ((σ.Ts k).fs 0).pc = 4) (hst : σ.f (stI k c) = ((σ.Ts k).fs 0).r 1) (hr2 : ((σ.Ts k).fs 0).r 2 = σ.f (bgI k c)) : ∃ σ' g', LS P k 0 σ.stp σ' ∧ SO P σ σ' k g g' n := by
  obtain ⟨hfn, h7, hW, b0, b1, b2⟩ := id hB
  have hep := h.ep
  have h3 := h.no3 (m := 0) hn (by omega) (by omega)
  have hxe := h.xe k hk _ (ofK_7 k) _ (by rw [h7]; exact List.mem_cons_self)
  have hx := hxe.1
  obtain ⟨_, a, ha, a1, a2, ho, hg⟩ := hxe
  have hsl : sl (((σ.Ts k).fs 0).r 0) = a := sl_of ha
  have hrt := root_edge h hk hc (by omega)
  have hmod : ((σ.Ts k).fs 0).r 0 % 4611686018427387904 = ((σ.Ts k).fs 0).r 0 := Int.emod_eq_of_lt (by omega) (by omega)
  have hH : σ.H (a - 1) = true := h.held a1 a2 (by omega) (fun j => by omega)
  have e1 : ∀ i, i ≠ nd P.t a 0 → Mm.upd σ.f (nd P.t a 0) (((σ.Ts k).fs 0).r 2) i = σ.f i := fun i hi => upd_ne _ _ hi
  have hep1 : Mm.upd σ.f (nd P.t a 0) (((σ.Ts k).fs 0).r 2) 1 = σ.f 1 := e1 _ (Ne.symm nd_1)
  have h22 : Mm.upd σ.f (nd P.t a 0) (((σ.Ts k).fs 0).r 2) 2 = σ.f 2 := e1 _ (Ne.symm nd_ne2)
  have est : ∀ i c', i < P.t → c' < 3 → Mm.upd σ.f (nd P.t a 0) (((σ.Ts k).fs 0).r 2) (stI i c') = σ.f (stI i c') := fun i c' hi hc' => e1 _ (st_lo hi hc').1
  have ebg : ∀ i c', i < P.t → c' < 3 → Mm.upd σ.f (nd P.t a 0) (((σ.Ts k).fs 0).r 2) (bgI i c') = σ.f (bgI i c') := fun i c' hi hc' => e1 _ (st_lo hi hc').2.1
  have end_ : ∀ b j, 1 ≤ b → j < 7 → (b ≠ a ∨ j ≠ 0) → Mm.upd σ.f (nd P.t a 0) (((σ.Ts k).fs 0).r 2) (nd P.t b j) = σ.f (nd P.t b j) := fun b j b1 hj hne => e1 _ (nd_ne b1 a1 hj (by omega) hne)
  refine ⟨_, g, .ret4 (σ := σ.stp) (nx := a) hfn hpc ⟨by show 0 ≤ ((σ.Ts k).fs 0).r 0; omega, by show ((σ.Ts k).fs 0).r 0 < _; omega⟩ ⟨b0, by show ((σ.Ts k).fs 0).r 1 < _; omega⟩ ⟨by show 0 ≤ ((σ.Ts k).fs 0).r 2; omega, by show ((σ.Ts k).fs 0).r 2 < _; omega⟩ b2 ?_ (by show ((σ.Ts k).fs 0).r 0 % 4611686018427387904 % 4096 = _; rw [hmod]; exact ha) a1 a2, ?_⟩
  · show Gd.leadsB P.s σ.H σ.G (((σ.Ts k).fs 0).r 0 % 4611686018427387904) = true
    rw [hmod]; exact leads_of ha a1 a2 hH hg
  show SO P σ (nz σ k (setF (σ.Ts k) 0 ⟨((σ.Ts k).fs 0).fn, 5, ((σ.Ts k).fs 0).r⟩) (Mm.upd σ.f (nd P.t a 0) (((σ.Ts k).fs 0).r 2)) σ.H σ.G (σ.acc + 1)) k g g n
  refine ⟨h.wr hk a (.inr (by rw [ho]; exact ofK_7 k)) (.inr rfl) h22 (by rw [hep1]; omega) (fun j hj => e1 _ (ai_nd hj)) (fun i hi hik c' hc' => ⟨est i c' hi hc', ebg i c' hi hc'⟩) (fun b b1 _ => ⟨fun hb => end_ b 0 b1 (by omega) (.inl hb), end_ b 1 b1 (by omega) (.inr (by omega))⟩) (fun _ _ => by rw [upd_at]; omega) (fun a a1 a2 ho => absurd ho (h3 a a1 a2)) (fun c' hc' => ?_) (fun c' hc' => ?_) (.inr (.inl ⟨hn, .inr (.inr ?_)⟩)), eff0 rfl rfl, .inr ?_, .inl ⟨fun _ => rfl, fun h9 _ => by have := h9.2; omega⟩⟩
  · rw [root_lt (show (setF (σ.Ts k) 0 _).nf < 2 by show (σ.Ts k).nf < 2; omega), ebg k c' hk hc']
    have := h.ch k hk c' hc'
    rw [root_lt (by omega)] at this
    refine this.on fun e he => ?_
    have hs := (h.xe k hk _ (ofK_b hc') e he).slot
    exact end_ _ 0 hs.1 (by omega) (.inl fun e9 => by rw [e9, ho] at hs; omega)
  · rw [hep1, est k c' hk hc']; exact h.sta k hk c' hc'
  · rw [setF_fs]
    refine .inr ⟨c, hc, ⟨hfn, h7, hW, b0, by rw [hep1]; exact b1, b2⟩, .inr (.inr (.inr (.inr ⟨rfl, ?_, ?_⟩)))⟩
    · rw [est k c hk hc]; exact hst
    · show Mm.upd σ.f (nd P.t a 0) (((σ.Ts k).fs 0).r 2) (nd P.t (sl (((σ.Ts k).fs 0).r 0)) 0) = _
      rw [hsl, upd_at, ebg k c hk hc]; exact hr2
  · rw [nz_at]
    show rk P.t (setF (σ.Ts k) 0 _) (Mm.upd σ.f (nd P.t a 0) (((σ.Ts k).fs 0).r 2) 2) _ < _
    rw [h22, rk_setR hn (by exact hfn), rk_1R hn hfn]
    unfold rkR
    rw [if_neg (show ¬ (5 : Int) = 0 by decide), if_neg (show ¬ (5 : Int) = 1 by decide), if_neg (by omega), if_neg (by omega), hpc]
    show (6 - (5 : Int)).toNat < (6 - (4 : Int)).toNat; omega
end
end Go.Proofs.Ytaaciolfgplnoaa.Lb

/- Layer 19: Retire's last step; steps of Drain (no program in it). -/
namespace Go.Proofs.Ytaaciolfgplnoaa.Lb
open Go.RowKit WordM EdgeM Sl
set_option linter.unusedVariables false
set_option linter.unusedSimpArgs false
def updX (X : Nat → List Int) (v : Nat) (l : List Int) : Nat → List Int := fun u => if u = v then l else X u
theorem updX_at (X : Nat → List Int) (v : Nat) (l : List Int) : updX X v l v = l := by unfold updX; rw [if_pos rfl]
theorem updX_ne (X : Nat → List Int) {v u : Nat} (l : List Int) (h : u ≠ v) : updX X v l u = X u := by unfold updX; rw [if_neg h]
section
variable {P : Pc} {σ : Sg} {g : Gh} {n k : Nat}
/-- The node is in the bag. -/
theorem so_ret5 (h : XS P σ g n) (hN : n ≤ 1000000) (hk : k < P.t) (hn : (σ.Ts k).nf = 1) {c : Nat} (hc : c < 3) (hB : RetB σ.f g k ((σ.Ts k).fs 0) c) (hpc : ((σ.Ts k).fs 0).pc = 5) (hst : σ.f (stI k c) = ((σ.Ts k).fs 0).r 1) (hlnk : σ.f (nd P.t (sl (((σ.Ts k).fs 0).r 0)) 0) = σ.f (bgI k c)) : ∃ σ' g', LS P k 0 σ.stp σ' ∧ SO P σ σ' k g g' n := by
  obtain ⟨hfn, h7, hW, b0, b1, b2⟩ := id hB
  have hep := h.ep
  have hct := h.ct
  have h3 := h.no3 (m := 0) hn (by omega) (by omega)
  have hxe := h.xe k hk _ (ofK_7 k) _ (by rw [h7]; exact List.mem_cons_self)
  have hx := hxe.1
  obtain ⟨_, a, ha, a1, a2, ho, hg⟩ := hxe
  have hsl : sl (((σ.Ts k).fs 0).r 0) = a := sl_of ha
  rw [hsl] at hlnk hW
  obtain ⟨e, he⟩ : ∃ e, e = ((σ.Ts k).fs 0).r 0 := ⟨_, rfl⟩
  have hmod : ((σ.Ts k).fs 0).r 0 % 4611686018427387904 = e := by rw [he]; exact Int.emod_eq_of_lt (by omega) (by omega)
  rw [← he] at h7 hx ha hg hsl
  have hH : σ.H (a - 1) = true := h.held a1 a2 (by omega) (fun j => by omega)
  have e1 : ∀ i, i ≠ bgI k c → Mm.upd σ.f (bgI k c) e i = σ.f i := fun i hi => upd_ne _ _ hi
  have l1 := st_lo (a := 0) (j := 0) hk hc
  have hep1 : Mm.upd σ.f (bgI k c) e 1 = σ.f 1 := e1 _ (Ne.symm l1.2.2.2.2.1)
  have h22 : Mm.upd σ.f (bgI k c) e 2 = σ.f 2 := e1 _ (Ne.symm l1.2.2.2.2.2)
  have end_ : ∀ b j, Mm.upd σ.f (bgI k c) e (nd P.t b j) = σ.f (nd P.t b j) := fun b j => e1 _ (Ne.symm (st_lo hk hc).2.1)
  have hT : (Th.backT (σ.Ts k) 0 (fun _ => 0)).nf = 0 := by show (σ.Ts k).nf - 1 = 0; omega
  have hcv : 10 * k + 4 + c ≠ 10 * k + 7 := by omega
  obtain ⟨X', hX'⟩ : ∃ X', X' = updX (updX g.X (10 * k + 7) []) (10 * k + 4 + c) (e :: g.X (10 * k + 4 + c)) := ⟨_, rfl⟩
  have x1 : X' (10 * k + 4 + c) = e :: g.X (10 * k + 4 + c) := by rw [hX', updX_at]
  have x2 : X' (10 * k + 7) = [] := by rw [hX', updX_ne _ _ (Ne.symm hcv), updX_at]
  have x3 : ∀ v, v ≠ 10 * k + 4 + c → v ≠ 10 * k + 7 → X' v = g.X v := fun v v1 v2 => by rw [hX', updX_ne _ _ v1, updX_ne _ _ v2]
  have hon : ∀ v, v ≠ 10 * k + 7 → ofK k v → ∀ x ∈ g.X v, edX P.s (updO g.O a (10 * k + 4 + c)) σ.G v x := fun v v1 hv x hx => (h.xe k hk v hv x hx).on fun b b1 b2 hb => ⟨updO_ne _ _ (fun e9 => by rw [e9, ho] at hb; omega), rfl⟩
  refine ⟨_, { g with O := updO g.O a (10 * k + 4 + c), X := X' }, .ret5 (σ := σ.stp) hfn hpc ⟨by show 0 ≤ ((σ.Ts k).fs 0).r 0; omega, by show ((σ.Ts k).fs 0).r 0 < _; omega⟩ ⟨b0, by show ((σ.Ts k).fs 0).r 1 < _; omega⟩ b2, ?_⟩
  have er : rt5S k 0 c σ.stp = nz σ k (Th.backT (σ.Ts k) 0 (fun _ => 0)) (Mm.upd σ.f (bgI k c) e) σ.H σ.G (σ.acc + 1) := by
    have e9 : rt5S k 0 c σ.stp = nz σ k (Th.backT (σ.Ts k) 0 (fun _ => 0)) (Mm.upd σ.f (bgI k c) (((σ.Ts k).fs 0).r 0 % 4611686018427387904)) σ.H σ.G (σ.acc + 1) := rfl
    rw [e9, hmod]
  rw [er]
  refine ⟨h.nx hk a (fun i hi => nz_oth _ _ _ _ _ _ _ hi) (.inr (.inr (by rw [ho]; exact ofK_7 k))) (fun b b1 b2 hb => ⟨updO_ne _ _ hb, rfl, rfl, rfl, end_ b 0, end_ b 1⟩) (fun _ _ => .inr (by show ofK k (updO g.O a _ a); rw [updO_at]; exact ofK_b hc))
    (fun b b1 b2 _ h9 => absurd h9 (h3 b b1 b2)) (fun _ _ h9 => by have h8 : updO g.O a (10 * k + 4 + c) a = _ := h9; rw [updO_at] at h8; omega) (by show σ.f 1 ≤ Mm.upd σ.f (bgI k c) e 1 ∧ Mm.upd σ.f (bgI k c) e 1 ≤ _; rw [hep1]; omega) (fun j _ => e1 _ (ai_ne hc).2.1) (fun i hi hik c' hc' => ⟨e1 _ (st_ne hik hc hc').2.1, e1 _ (st_ne hik hc hc').2.2.2⟩)
    (.inl ⟨h22, fun _ h9 => by omega⟩) (by show 0 ≤ Mm.upd σ.f (bgI k c) e 2 ∧ Mm.upd σ.f (bgI k c) e 2 / 4096 ≤ _; rw [h22]; omega) ⟨?_, fun j hj => ?_⟩ h.un (fun b b1 b2 => ?_) (fun v hv => x3 v (fun e9 => hv (by rw [e9]; exact ofK_b hc)) (fun e9 => hv (by rw [e9]; exact ofK_7 k)))
    (fun v hv x hx => ?_) (fun v hv => ?_) (fun b b1 b2 h9 h8 => ?_) (fun _ _ h9 => by have h8 : updO g.O a (10 * k + 4 + c) a = _ := h9; rw [updO_at] at h8; omega) (fun c' hc' => ?_) (fun c' hc' => ?_) (fun _ _ => ?_) (fun _ _ => ?_) (fun _ _ => ?_) (by rw [nz_at]; exact .inl ⟨hT, x2⟩) ⟨.inr rfl, rfl⟩ h.ok, eff0 rfl rfl, .inl (by rw [nz_at]; exact hT), .inl ⟨fun j => x3 _ (by omega) (by omega), fun h9 _ => by have := h9.2; omega⟩⟩
  · show Mm.upd σ.f (bgI k c) e 2 % 4096 = _; rw [h22]; exact h.lk.hd
  · have h9 := h.lk.at_ j hj
    refine ⟨h9.1, h9.2.1, ?_⟩
    show Mm.upd σ.f (bgI k c) e _ = _
    rw [end_]; exact h9.2.2
  · show updO g.O a _ b = 0 ↔ _
    by_cases e9 : b = a
    · subst e9
      rw [updO_at]
      constructor
      · intro h9; omega
      · intro h9; have := (h.ol b b1 b2).2 h9; omega
    · rw [updO_ne _ _ e9]; exact h.ol b b1 b2
  · show edX P.s (updO g.O a (10 * k + 4 + c)) σ.G v x
    by_cases v1 : v = 10 * k + 4 + c
    · subst v1
      have hx' : x ∈ e :: g.X (10 * k + 4 + c) := by rw [← x1]; exact hx
      rcases List.mem_cons.1 hx' with h9 | h9
      · subst h9; exact ⟨by assumption, a, ha, a1, a2, updO_at _ _ _, hg⟩
      · exact hon _ hcv hv x h9
    · by_cases v2 : v = 10 * k + 7
      · subst v2
        have hx' : x ∈ X' (10 * k + 7) := hx
        rw [x2] at hx'; exact absurd hx' List.not_mem_nil
      · have hx' : x ∈ X' v := hx
        rw [x3 v v1 v2] at hx'; exact hon v v2 hv x hx'
  · show ((X' v).map sl).Nodup
    by_cases v1 : v = 10 * k + 4 + c
    · subst v1
      rw [x1, List.map_cons, List.nodup_cons]
      refine ⟨fun hm => ?_, h.xu k hk _ hv⟩
      obtain ⟨y, hy, e9⟩ := List.mem_map.1 hm
      have := (h.xe k hk _ hv y hy).slot
      rw [e9, hsl, ho] at this; omega
    · by_cases v2 : v = 10 * k + 7
      · subst v2; rw [x2]; simp
      · rw [x3 v v1 v2]; exact h.xu k hk v hv
  · show ∃ x ∈ X' (updO g.O a (10 * k + 4 + c) b), x % 4096 = b
    by_cases e9 : b = a
    · subst e9; rw [updO_at, x1]; exact ⟨e, List.mem_cons_self, ha⟩
    · have h9' : ofK k (updO g.O a (10 * k + 4 + c) b) := h9
      have h8' : updO g.O a (10 * k + 4 + c) b ≠ 10 * k + 3 := h8
      rw [updO_ne _ _ e9] at h9' h8' ⊢
      obtain ⟨x, hx, hxa⟩ := h.xc b b1 b2 k hk h9' h8'
      by_cases v2 : g.O b = 10 * k + 7
      · rw [v2, h7] at hx
        simp only [List.mem_singleton] at hx
        subst hx; exfalso; omega
      · by_cases v1 : g.O b = 10 * k + 4 + c
        · rw [v1] at hx ⊢; rw [x1]; exact ⟨x, List.mem_cons_of_mem _ hx, hxa⟩
        · rw [x3 _ v1 v2]; exact ⟨x, hx, hxa⟩
  · rw [nz_at]
    show Ch P.t (Mm.upd σ.f (bgI k c) e) (rootOf _ (Mm.upd σ.f (bgI k c) e) k c') (X' (10 * k + 4 + c'))
    rw [root_lt (by omega)]
    have h9 := h.ch k hk c' hc'
    rw [root_lt (by omega)] at h9
    have h8 : Ch P.t (Mm.upd σ.f (bgI k c) e) (σ.f (bgI k c')) (g.X (10 * k + 4 + c')) := h9.on fun y _ => end_ _ 0
    by_cases e9 : c' = c
    · subst e9
      rw [upd_at, x1]
      refine ⟨rfl, ?_⟩
      rw [hsl, end_, hlnk]; exact h8
    · rw [x3 _ (by omega) (by omega), e1 _ (by unfold bgI; omega)]; exact h8
  · show (0 ≤ Mm.upd σ.f (bgI k c) e (stI k c') ∧ Mm.upd σ.f (bgI k c) e (stI k c') ≤ Mm.upd σ.f (bgI k c) e 1) ∧ (X' (10 * k + 4 + c') ≠ [] → Mm.upd σ.f (bgI k c) e (stI k c') % 3 = c') ∧ ∀ y ∈ X' (10 * k + 4 + c'), g.W (sl y) ≤ Mm.upd σ.f (bgI k c) e (stI k c')
    rw [hep1, e1 _ (st_bg hc' hc)]
    obtain ⟨s0, s2, s3⟩ := h.sta k hk c' hc'
    by_cases e9 : c' = c
    · subst e9
      refine ⟨s0, fun _ => by rw [hst]; exact b2, fun y hy => ?_⟩
      rw [x1] at hy
      rcases List.mem_cons.1 hy with h9 | h9
      · subst h9; rw [hsl, hst]; exact hW
      · exact s3 y h9
    · rw [x3 _ (by omega) (by omega)]; exact ⟨s0, s2, s3⟩
  · show σ.H (a - 1) = false ↔ (updO g.O a _ a = 0 ∨ (updO g.O a _ a = _ ∧ _))
    rw [hH, updO_at]
    constructor
    · intro h9; cases h9
    · rintro (h9 | ⟨h9, _⟩) <;> omega
  · have hgn := h.gn a a1 a2
    show Mm.upd σ.f (bgI k c) e (nd P.t a 1) = σ.G (a - 1) ∧ 0 ≤ σ.G (a - 1) ∧ σ.G (a - 1) ≤ _
    rw [end_]; omega
  · show 0 ≤ Mm.upd σ.f (bgI k c) e (nd P.t a 0) ∧ Mm.upd σ.f (bgI k c) e (nd P.t a 0) < _
    rw [end_]; exact h.lb a a1 a2
/-! ### Drain -/
/-- What stands when Drain has ended. -/
theorem bot_back {F : Th.Fm} {b : Nat} {T : Th.Td} (hb : b < 3) (hbot : BotF σ.f g k F b) (hX : g.X (10 * k + 4 + b) = []) (hT : T.nf = 1) (h0 : T.fs 0 = F) : TI P σ.f σ.G g k T := by
  refine .inr (.inl ⟨hT, ?_⟩)
  rw [h0]
  rcases hbot with ⟨h1, h2⟩ | ⟨_, h2⟩
  · exact .inr (.inr (.inr ⟨b, hb, h2, .inr (.inl ⟨h1, hX⟩)⟩))
  · exact .inr (.inl h2)
theorem rk_back {F : Th.Fm} {b : Nat} {T : Th.Td} (hbot : BotF σ.f g k F b) (hT : T.nf = 1) (h0 : T.fs 0 = F) : rk P.t T (σ.f 2) (bn g k) ≤ rkB F + 7 * bn g k := by
  rcases hbot with ⟨h1, h2⟩ | ⟨h1, h2⟩
  · have hf := h2.1
    rw [rk_1R hT (by rw [h0]; exact hf), h0]; unfold rkR rkB
    rw [if_neg (by omega), if_neg (by omega), h1, if_pos hf]
    show (6 - (2 : Int)).toNat ≤ _; omega
  · have hf := h2.1
    rw [rk_1C hT (by rw [h0]; exact hf), h0]; unfold rkC rkB
    rw [if_neg (by omega), if_neg (by omega)]; omega
theorem bot_oth {f : Nat → Int} {F : Th.Fm} {b : Nat} (h : BotF σ.f g k F b) (h1 : f 1 = σ.f 1) : BotF f g k F b := by
  unfold BotF RetB CleanF at *; rw [h1]; exact h
theorem so_dr0 (h : XS P σ g n) (hN : n ≤ 1000000) (hk : k < P.t) (hn : (σ.Ts k).nf = 2) {b : Nat} (hbot : BotF σ.f g k ((σ.Ts k).fs 0) b) (hF : DrainF σ.f g k ((σ.Ts k).fs 1) b) (hpc : ((σ.Ts k).fs 1).pc = 0) : ∃ σ' g', LS P k 1 σ.stp σ' ∧ SO P σ σ' k g g' n := by
  obtain ⟨hfn, hr0, hb, q0, q1, hst, _⟩ := hF
  have h3 := h.no3 (m := 1) hn (by omega) (by omega)
  have hch := h.ch k hk b hb
  rw [root_pc (by omega)] at hch
  have hrk : rk P.t (σ.Ts k) (σ.f 2) (bn g k) = rkB ((σ.Ts k).fs 0) + 7 * bn g k + 4 := by rw [rk_2 hn]; unfold rkD; rw [if_pos hpc]
  have hbgb : 0 ≤ σ.f (bgI k b) ∧ σ.f (bgI k b) < 18446744073709551616 := by
    have h2 := h.xe k hk _ (ofK_b hb)
    generalize g.X (10 * k + 4 + b) = l at hch h2
    cases l with
    | nil => rw [show σ.f (bgI k b) = 0 from hch]; omega
    | cons e r => rw [show σ.f (bgI k b) = e from hch.1]; have := (h2 e List.mem_cons_self).1; omega
  cases hz : (σ.f (bgI k b) == 0) with
  | true =>
    have hz' : σ.f (bgI k b) = 0 := by simpa using hz
    have hX : g.X (10 * k + 4 + b) = [] := by
      rw [hz'] at hch
      exact hch.nil fun e he => (h.xe k hk _ (ofK_b hb) e he).1.1
    obtain ⟨T, hT⟩ : ∃ T, T = Th.backT (setF (σ.Ts k) 1 ⟨((σ.Ts k).fs 1).fn, 1, updr ((σ.Ts k).fs 1).r 1 (σ.f (bgI k b))⟩) 0 (fun _ => 0) := ⟨_, rfl⟩
    have t1 : T.nf = 1 := by rw [hT]; show (σ.Ts k).nf - 1 = 1; omega
    have t0 : T.fs 0 = (σ.Ts k).fs 0 := by rw [hT]; rfl
    refine ⟨_, g, .dr0z (σ := σ.stp) hfn hpc hr0 hb ⟨q0, q1⟩ hz, ?_⟩
    show SO P σ (nz σ k (Th.backT (setF (σ.Ts k) 1 ⟨((σ.Ts k).fs 1).fn, 1, updr ((σ.Ts k).fs 1).r 1 (σ.f (bgI k b))⟩) 0 (fun _ => 0)) σ.f σ.H σ.G (σ.acc + 1)) k g g n
    rw [← hT]
    refine ⟨h.rd hk (.inr rfl) (fun c _ => by rw [root_lt (by omega), root_pc (by omega)]) (fun a a1 a2 ho => absurd ho (h3 a a1 a2)) (bot_back hb hbot hX t1 t0), eff0 rfl rfl, .inr ?_, .inl ⟨fun _ => rfl, fun h9 _ => by have := h9.1; omega⟩⟩
    rw [nz_at, hrk]
    exact Nat.lt_of_le_of_lt (rk_back hbot t1 t0) (by omega)
  | false =>
    obtain ⟨T, hT⟩ : ∃ T, T = setF (σ.Ts k) 1 ⟨((σ.Ts k).fs 1).fn, 1, updr ((σ.Ts k).fs 1).r 1 (σ.f (bgI k b))⟩ := ⟨_, rfl⟩
    have t1 : T.nf = 2 := by rw [hT]; exact hn
    have t0 : T.fs 0 = (σ.Ts k).fs 0 := by rw [hT]; rfl
    have t2 : T.fs 1 = ⟨((σ.Ts k).fs 1).fn, 1, updr ((σ.Ts k).fs 1).r 1 (σ.f (bgI k b))⟩ := by rw [hT, setF_fs]
    refine ⟨_, g, .dr0 (σ := σ.stp) hfn hpc hr0 hb ⟨q0, q1⟩ hz, ?_⟩
    show SO P σ (nz σ k (setF (σ.Ts k) 1 ⟨((σ.Ts k).fs 1).fn, 1, updr ((σ.Ts k).fs 1).r 1 (σ.f (bgI k b))⟩) σ.f σ.H σ.G (σ.acc + 1)) k g g n
    rw [← hT]
    refine ⟨h.rd hk (.inr rfl) (fun c _ => by rw [root_pc (by rw [t2]; exact (by decide : (1 : Int) ≠ 2)), root_pc (by omega)]) (fun a a1 a2 ho => absurd ho (h3 a a1 a2)) (.inr (.inr (.inl ⟨t1, b, by rw [t0]; exact hbot, ?_⟩))), eff0 rfl rfl, .inr ?_, .inl ⟨fun _ => rfl, fun h9 _ => by have := h9.1; omega⟩⟩
    · rw [t2]
      refine ⟨hfn, ?_, hb, ?_, ?_, hst, .inr (.inl ⟨rfl, ?_⟩)⟩
      · show updr ((σ.Ts k).fs 1).r 1 (σ.f (bgI k b)) 0 = _; rw [updr_ne _ _ (by decide)]; exact hr0
      · show 0 ≤ updr ((σ.Ts k).fs 1).r 1 (σ.f (bgI k b)) 1; rw [updr_at]; exact hbgb.1
      · show updr ((σ.Ts k).fs 1).r 1 (σ.f (bgI k b)) 1 < _; rw [updr_at]; exact hbgb.2
      · show updr ((σ.Ts k).fs 1).r 1 (σ.f (bgI k b)) 1 = _; rw [updr_at]
    · rw [nz_at, hrk, rk_2 t1, t0, t2]
      unfold rkD
      rw [if_neg (show ¬ (1 : Int) = 0 by decide), if_pos rfl]
      show _ + 7 * bn g k + 3 < _; omega
theorem so_dr1 (h : XS P σ g n) (hN : n ≤ 1000000) (hk : k < P.t) (hn : (σ.Ts k).nf = 2) {b : Nat} (hbot : BotF σ.f g k ((σ.Ts k).fs 0) b) (hF : DrainF σ.f g k ((σ.Ts k).fs 1) b) (hpc : ((σ.Ts k).fs 1).pc = 1) : ∃ σ' g', LS P k 1 σ.stp σ' ∧ SO P σ σ' k g g' n := by
  obtain ⟨hfn, hr0, hb, q0, q1, hst, hr1⟩ := hF
  have hr1 : ((σ.Ts k).fs 1).r 1 = σ.f (bgI k b) := by
    rcases hr1 with h9 | ⟨_, h9⟩ | ⟨h9, _⟩
    · omega
    · exact h9
    · omega
  have hep := h.ep
  have h3 := h.no3 (m := 1) hn (by omega) (by omega)
  have e1 : ∀ i, i ≠ bgI k b → Mm.upd σ.f (bgI k b) 0 i = σ.f i := fun i hi => upd_ne _ _ hi
  have l1 := st_lo (a := 0) (j := 0) hk hb
  have hep1 : Mm.upd σ.f (bgI k b) 0 1 = σ.f 1 := e1 _ (Ne.symm l1.2.2.2.2.1)
  have h22 : Mm.upd σ.f (bgI k b) 0 2 = σ.f 2 := e1 _ (Ne.symm l1.2.2.2.2.2)
  have end_ : ∀ a j, Mm.upd σ.f (bgI k b) 0 (nd P.t a j) = σ.f (nd P.t a j) := fun a j => e1 _ (Ne.symm (st_lo hk hb).2.1)
  have est : ∀ c, c < 3 → Mm.upd σ.f (bgI k b) 0 (stI k c) = σ.f (stI k c) := fun c hc => e1 _ (st_bg hc hb)
  obtain ⟨T, hT⟩ : ∃ T, T = setF (σ.Ts k) 1 ⟨((σ.Ts k).fs 1).fn, 2, ((σ.Ts k).fs 1).r⟩ := ⟨_, rfl⟩
  have t1 : T.nf = 2 := by rw [hT]; exact hn
  have t0 : T.fs 0 = (σ.Ts k).fs 0 := by rw [hT]; rfl
  have t2 : T.fs 1 = ⟨((σ.Ts k).fs 1).fn, 2, ((σ.Ts k).fs 1).r⟩ := by rw [hT, setF_fs]
  refine ⟨_, g, .dr1 (σ := σ.stp) hfn hpc hr0 hb ⟨q0, q1⟩, ?_⟩
  show SO P σ (nz σ k (setF (σ.Ts k) 1 ⟨((σ.Ts k).fs 1).fn, 2, ((σ.Ts k).fs 1).r⟩) (Mm.upd σ.f (bgI k b) 0) σ.H σ.G (σ.acc + 1)) k g g n
  rw [← hT]
  refine ⟨h.wr hk 0 (.inl rfl) (.inr rfl) h22 (by rw [hep1]; omega) (fun j _ => e1 _ (ai_ne hb).2.1) (fun i hi hik c' hc' => ⟨e1 _ (st_ne hik hb hc').2.1, e1 _ (st_ne hik hb hc').2.2.2⟩) (fun a _ _ => ⟨fun _ => end_ a 0, end_ a 1⟩) (fun b1 _ => by omega) (fun a a1 a2 ho => absurd ho (h3 a a1 a2)) (fun c hc => ?_) (fun c hc => by rw [hep1, est c hc]; exact h.sta k hk c hc) (.inr (.inr (.inl ⟨t1, b, by rw [t0]; exact bot_oth hbot hep1, ?_⟩))), eff0 rfl rfl, .inr ?_, .inl ⟨fun _ => rfl, fun h9 _ => by have := h9.1; omega⟩⟩
  · have h9 := h.ch k hk c hc
    rw [root_pc (by omega)] at h9
    refine Ch.on (f := σ.f) ?_ fun y _ => end_ _ 0
    by_cases e : c = b
    · subst e
      rw [root_at (by omega) (by rw [t2]) (by rw [t2]; exact hr0), t2]
      show Ch P.t σ.f (((σ.Ts k).fs 1).r 1) _
      rw [hr1]; exact h9
    · rw [root_ne (by rw [t2]; show ((σ.Ts k).fs 1).r 0 ≠ _; rw [hr0]; omega), e1 _ (by unfold bgI; omega)]; exact h9
  · rw [t2]
    exact ⟨hfn, hr0, hb, q0, q1, by rw [est b hb, hep1]; exact hst, .inr (.inr ⟨rfl, upd_at _ _ _⟩)⟩
  · rw [nz_at]
    show rk P.t T (Mm.upd σ.f (bgI k b) 0 2) (bn g k) < _
    rw [h22, rk_2 t1, rk_2 hn, t0, t2]
    unfold rkD
    rw [if_neg (show ¬ (2 : Int) = 0 by decide), if_neg (show ¬ (2 : Int) = 1 by decide), if_neg (by omega), if_pos hpc]
    omega
end
end Go.Proofs.Ytaaciolfgplnoaa.Lb
