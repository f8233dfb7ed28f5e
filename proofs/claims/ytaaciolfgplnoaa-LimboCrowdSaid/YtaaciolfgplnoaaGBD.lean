/- GBD: several texts in one. -/
import Derived.Test.YtaaciolfgplnoaaGBC
/- Layer 19: Drain, node by node (no program in it). -/
namespace Go.Proofs.Ytaaciolfgplnoaa.Lb
open Go.RowKit WordM EdgeM Sl
set_option linter.unusedVariables false
set_option linter.unusedSimpArgs false
section
variable {P : Pc} {σ : Sg} {g : Gh} {n k : Nat}
theorem so_dr2z (h : XS P σ g n) (hN : n ≤ 1000000) (hk : k < P.t) (hn : (σ.Ts k).nf = 2) {b : Nat} (hbot : BotF σ.f g k ((σ.Ts k).fs 0) b) (hF : DrainF σ.f g k ((σ.Ts k).fs 1) b) (hpc : ((σ.Ts k).fs 1).pc = 2) (hz : ((σ.Ts k).fs 1).r 1 = 0) : ∃ σ' g', LS P k 1 σ.stp σ' ∧ SO P σ σ' k g g' n := by
  obtain ⟨hfn, hr0, hb, q0, q1, hst, hbg⟩ := hF
  have hbg : σ.f (bgI k b) = 0 := by
    rcases hbg with h9 | ⟨h9, _⟩ | ⟨_, h9⟩
    · omega
    · omega
    · exact h9
  have h3 := h.no3 (m := 1) hn (by omega) (by omega)
  have hX : g.X (10 * k + 4 + b) = [] := by
    have hch := h.ch k hk b hb
    rw [root_at (by omega) hpc hr0, hz] at hch
    exact hch.nil fun e he => (h.xe k hk _ (ofK_b hb) e he).1.1
  obtain ⟨T, hT⟩ : ∃ T, T = Th.backT (σ.Ts k) 0 (fun _ => 0) := ⟨_, rfl⟩
  have t1 : T.nf = 1 := by rw [hT]; show (σ.Ts k).nf - 1 = 1; omega
  have t0 : T.fs 0 = (σ.Ts k).fs 0 := by rw [hT]; rfl
  refine ⟨_, g, .dr2z (σ := σ.stp) hfn hpc hr0 hb ⟨q0, q1⟩ hz, ?_⟩
  show SO P σ (nz σ k (Th.backT (σ.Ts k) 0 (fun _ => 0)) σ.f σ.H σ.G σ.acc) k g g n
  rw [← hT]
  refine ⟨h.rd hk (.inl rfl) (fun c _ => ?_) (fun a a1 a2 ho => absurd ho (h3 a a1 a2)) (bot_back hb hbot hX t1 t0), eff0 rfl rfl, .inr ?_, .inl ⟨fun _ => rfl, fun h9 _ => by have := h9.1; omega⟩⟩
  · rw [root_lt (by omega)]
    by_cases e : c = b
    · subst e; rw [root_at (by omega) hpc hr0, hz, hbg]
    · rw [root_ne (by rw [hr0]; omega)]
  · rw [nz_at, rk_2 hn]
    unfold rkD
    rw [if_neg (by omega), if_neg (by omega)]
    exact Nat.lt_of_le_of_lt (rk_back hbot t1 t0) (by omega)
/-- Drain gives the next node back. -/
theorem so_dr2n (h : XS P σ g n) (hN : n ≤ 1000000) (hk : k < P.t) (hn : (σ.Ts k).nf = 2) {b : Nat} (hbot : BotF σ.f g k ((σ.Ts k).fs 0) b) (hF : DrainF σ.f g k ((σ.Ts k).fs 1) b) (hpc : ((σ.Ts k).fs 1).pc = 2) (hz : ((σ.Ts k).fs 1).r 1 ≠ 0) : ∃ σ' g', LS P k 1 σ.stp σ' ∧ SO P σ σ' k g g' n := by
  obtain ⟨hfn, hr0, hb, q0, q1, hst, hbg⟩ := hF
  have hbg : σ.f (bgI k b) = 0 := by
    rcases hbg with h9 | ⟨h9, _⟩ | ⟨_, h9⟩
    · omega
    · omega
    · exact h9
  have hep := h.ep
  have hct := h.ct
  have h3 := h.no3 (m := 1) hn (by omega) (by omega)
  obtain ⟨e, he⟩ : ∃ e, e = ((σ.Ts k).fs 1).r 1 := ⟨_, rfl⟩
  have hch := h.ch k hk b hb
  rw [root_at (by omega) hpc hr0] at hch
  obtain ⟨R, hR, hcR⟩ := hch.cons hz
  rw [← he] at hR hcR
  have hst : σ.f (stI k b) + 3 ≤ σ.f 1 := by
    rcases hst with h9 | h9
    · rw [hR] at h9; cases h9
    · exact h9
  have hxe := h.xe k hk _ (ofK_b hb) e (by rw [hR]; exact List.mem_cons_self)
  have hx := hxe.1
  obtain ⟨_, a, ha, a1, a2, ho, hg⟩ := hxe
  have hsl : sl e = a := sl_of ha
  rw [hsl] at hcR
  have hW : g.W a ≤ σ.f (stI k b) := by
    have := (h.sta k hk b hb).2.2 e (by rw [hR]; exact List.mem_cons_self)
    rw [hsl] at this; exact this
  have hH : σ.H (a - 1) = true := h.held a1 a2 (by omega) (fun j => by omega)
  have hlb := h.lb a a1 a2
  have hun := h.xu k hk _ (ofK_b hb)
  rw [hR, List.map_cons, List.nodup_cons, hsl] at hun
  obtain ⟨X', hX'⟩ : ∃ X', X' = updX g.X (10 * k + 4 + b) R := ⟨_, rfl⟩
  have x1 : X' (10 * k + 4 + b) = R := by rw [hX', updX_at]
  have x3 : ∀ v, v ≠ 10 * k + 4 + b → X' v = g.X v := fun v v1 => by rw [hX', updX_ne _ _ v1]
  have hon : ∀ v, ofK k v → ∀ x ∈ g.X v, sl x ≠ a → edX P.s (updO g.O a (10 * k + 3)) σ.G v x := fun v hv x hx hxa => by
    obtain ⟨p0, a', p1, p2, p3, p4, p5⟩ := h.xe k hk v hv x hx
    have : a' ≠ a := fun e9 => hxa (by rw [sl_of p1, e9])
    exact ⟨p0, a', p1, p2, p3, by rw [updO_ne _ _ this]; exact p4, p5⟩
  obtain ⟨U, hU⟩ : ∃ U, U = setF (σ.Ts k) 1 ⟨((σ.Ts k).fs 1).fn, ((σ.Ts k).fs 1).pc, updr ((σ.Ts k).fs 1).r 1 (σ.f (nd P.t a 0))⟩ := ⟨_, rfl⟩
  have u1 : U.nf = 2 := by rw [hU]; exact hn
  obtain ⟨T, hT⟩ : ∃ T, T = Th.callT U 2 1 (fun _ => e) := ⟨_, rfl⟩
  have t1 : T.nf = 3 := by rw [hT]; show U.nf + 1 = 3; omega
  have t2 : T.fs 2 = ⟨2, 0, fun i => if i < 1 then e else 0⟩ := by
    have := callT_top U 2 1 (fun _ => e); rw [u1] at this; rw [hT]; exact this
  have t0 : T.fs 0 = (σ.Ts k).fs 0 := by rw [hT, callT_o _ _ _ _ (by rw [u1]; decide), hU]; exact setF_o (m := 1) (i := 0) _ _ (by decide)
  have tt : T.fs 1 = ⟨((σ.Ts k).fs 1).fn, 2, updr ((σ.Ts k).fs 1).r 1 (σ.f (nd P.t a 0))⟩ := by rw [hT, callT_o _ _ _ _ (by rw [u1]; decide), hU, setF_fs, hpc]
  have hr1' : updr ((σ.Ts k).fs 1).r 1 (σ.f (nd P.t a 0)) 1 = σ.f (nd P.t a 0) := updr_at _ _ _
  have hr0' : updr ((σ.Ts k).fs 1).r 1 (σ.f (nd P.t a 0)) 0 = b := by rw [updr_ne _ _ (by decide)]; exact hr0
  have hlim : ¬ lim T := by
    rintro ⟨m, m1, _, m3⟩
    have : m = 2 := by omega
    subst this
    rw [t2] at m3
    have : (1 : Int) ≤ 0 := m3
    omega
  have hbn : bn { g with O := updO g.O a (10 * k + 3), X := X' } k + 1 = bn g k := by
    show (X' (10 * k + 4)).length + (X' (10 * k + 5)).length + (X' (10 * k + 6)).length + 1 = (g.X (10 * k + 4)).length + (g.X (10 * k + 5)).length + (g.X (10 * k + 6)).length
    have hl : (g.X (10 * k + 4 + b)).length = (X' (10 * k + 4 + b)).length + 1 := by rw [hR, x1]; rfl
    rcases (by omega : b = 0 ∨ b = 1 ∨ b = 2) with h9 | h9 | h9
    · subst h9; rw [x3 (10 * k + 5) (by omega), x3 (10 * k + 6) (by omega)]; simp only [Nat.add_zero] at hl; omega
    · subst h9; rw [x3 (10 * k + 4) (by omega), x3 (10 * k + 6) (by omega)]; simp only [show 10 * k + 4 + 1 = 10 * k + 5 from rfl] at hl; omega
    · subst h9; rw [x3 (10 * k + 4) (by omega), x3 (10 * k + 5) (by omega)]; simp only [show 10 * k + 4 + 2 = 10 * k + 6 from rfl] at hl; omega
  refine ⟨_, { g with O := updO g.O a (10 * k + 3), X := X' }, .dr2n (σ := σ.stp) (nx := a) hfn hpc hr0 hb ⟨q0, q1⟩ (show (((σ.Ts k).fs 1).r 1 == 0) = false by simpa using hz) ?_ ?_ a1 a2, ?_⟩
  · show Gd.leadsB P.s σ.H σ.G (((σ.Ts k).fs 1).r 1) = true
    rw [← he]; exact leads_of ha a1 a2 hH hg
  · show ((σ.Ts k).fs 1).r 1 % 4096 = _; rw [← he]; exact ha
  have er : dr2nS P k 1 a σ.stp = nz σ k T σ.f σ.H σ.G (σ.acc + 1) := by rw [hT, hU, he]; rfl
  rw [er]
  refine ⟨h.nx hk a (fun i hi => nz_oth _ _ _ _ _ _ _ hi) (.inr (.inr (by rw [ho]; exact ofK_b hb))) (fun c b1 b2 hb => ⟨updO_ne _ _ hb, rfl, rfl, rfl, rfl, rfl⟩) (fun _ _ => .inr (by show ofK k (updO g.O a _ a); rw [updO_at]; exact ofK_3 k))
    (fun c c1 c2 _ h9 => absurd h9 (h3 c c1 c2)) (fun _ _ h9 => by rw [nz_at]; exact ⟨2, t1, by rw [t2]; exact ha, .inl (by rw [t2])⟩) (by show σ.f 1 ≤ σ.f 1 ∧ σ.f 1 ≤ _; omega) (fun j _ => rfl) (fun i hi hik c' hc' => ⟨rfl, rfl⟩)
    (.inl ⟨rfl, fun _ h9 => rfl⟩) (by show 0 ≤ σ.f 2 ∧ σ.f 2 / 4096 ≤ _; omega) h.lk h.un (fun c c1 c2 => ?_) (fun v hv => x3 v (fun e9 => hv (by rw [e9]; exact ofK_b hb)))
    (fun v hv x hx => ?_) (fun v hv => ?_) (fun c c1 c2 h9 h8 => ?_) (fun _ _ h9 => by have h8 : updO g.O a (10 * k + 3) a = _ := h9; rw [updO_at] at h8; omega) (fun c' hc' => ?_) (fun c' hc' => ?_) (fun _ _ => ?_) (fun _ _ => ?_) (fun _ _ => hlb) ?_ ⟨.inr rfl, rfl⟩ h.ok, eff0 rfl rfl, .inr ?_, .inl ⟨fun j => x3 _ (by omega), fun h9 _ => by have := h9.1; omega⟩⟩
  · show updO g.O a _ c = 0 ↔ _
    by_cases e9 : c = a
    · subst e9
      rw [updO_at]
      constructor
      · intro h9; omega
      · intro h9; have := (h.ol c c1 c2).2 h9; omega
    · rw [updO_ne _ _ e9]; exact h.ol c c1 c2
  · show edX P.s (updO g.O a (10 * k + 3)) σ.G v x
    have hx' : x ∈ X' v := hx
    by_cases v1 : v = 10 * k + 4 + b
    · subst v1
      rw [x1] at hx'
      exact hon _ hv x (by rw [hR]; exact List.mem_cons_of_mem _ hx') fun e9 => hun.1 (List.mem_map.2 ⟨x, hx', e9⟩)
    · rw [x3 v v1] at hx'
      refine hon v hv x hx' fun e9 => ?_
      have := (h.xe k hk v hv x hx').slot
      rw [e9, ho] at this; omega
  · show ((X' v).map sl).Nodup
    by_cases v1 : v = 10 * k + 4 + b
    · subst v1; rw [x1]; exact hun.2
    · rw [x3 v v1]; exact h.xu k hk v hv
  · show ∃ x ∈ X' (updO g.O a (10 * k + 3) c), x % 4096 = c
    have h9' : ofK k (updO g.O a (10 * k + 3) c) := h9
    have h8' : updO g.O a (10 * k + 3) c ≠ 10 * k + 3 := h8
    by_cases e9 : c = a
    · subst e9; rw [updO_at] at h8'; exact absurd rfl h8'
    · rw [updO_ne _ _ e9] at h9' h8' ⊢
      obtain ⟨x, hx, hxa⟩ := h.xc c c1 c2 k hk h9' h8'
      by_cases v1 : g.O c = 10 * k + 4 + b
      · rw [v1] at hx ⊢
        rw [hR] at hx
        rcases List.mem_cons.1 hx with h7 | h7
        · subst h7; exfalso; omega
        · rw [x1]; exact ⟨x, h7, hxa⟩
      · rw [x3 _ v1]; exact ⟨x, hx, hxa⟩
  · rw [nz_at]
    show Ch P.t σ.f (rootOf T σ.f k c') (X' (10 * k + 4 + c'))
    by_cases e9 : c' = b
    · subst e9
      rw [root_at (by omega) (by rw [tt]) (by rw [tt]; exact hr0'), tt, x1]
      show Ch P.t σ.f (updr ((σ.Ts k).fs 1).r 1 (σ.f (nd P.t a 0)) 1) R
      rw [hr1']; exact hcR
    · have h9 := h.ch k hk c' hc'
      rw [root_ne (by rw [hr0]; omega)] at h9
      rw [x3 _ (by omega), root_ne (by rw [tt]; show updr ((σ.Ts k).fs 1).r 1 (σ.f (nd P.t a 0)) 0 ≠ _; rw [hr0']; omega)]; exact h9
  · show (0 ≤ σ.f (stI k c') ∧ σ.f (stI k c') ≤ σ.f 1) ∧ (X' (10 * k + 4 + c') ≠ [] → σ.f (stI k c') % 3 = c') ∧ ∀ y ∈ X' (10 * k + 4 + c'), g.W (sl y) ≤ σ.f (stI k c')
    obtain ⟨s0, s2, s3⟩ := h.sta k hk c' hc'
    by_cases e9 : c' = b
    · subst e9
      exact ⟨s0, fun _ => s2 (by rw [hR]; simp), fun y hy => s3 y (by rw [hR]; rw [x1] at hy; exact List.mem_cons_of_mem _ hy)⟩
    · rw [x3 _ (by omega)]; exact ⟨s0, s2, s3⟩
  · show σ.H (a - 1) = false ↔ (updO g.O a _ a = 0 ∨ (updO g.O a _ a = _ ∧ lim ((nz σ k T σ.f σ.H σ.G (σ.acc + 1)).Ts k)))
    rw [hH, updO_at, nz_at]
    constructor
    · intro h9; cases h9
    · rintro (h9 | ⟨_, h9⟩)
      · omega
      · exact absurd h9 hlim
  · have hgn := h.gn a a1 a2
    exact ⟨hgn.1, hgn.2.1, by show σ.G (a - 1) ≤ _; omega⟩
  · rw [nz_at]
    have hv7 : X' (10 * k + 7) = g.X (10 * k + 7) := x3 _ (by omega)
    refine .inr (.inr (.inr ⟨t1, b, ?_, ?_, by rw [tt], ?_⟩))
    · rw [t0]
      unfold BotF RetB CleanF at hbot ⊢
      show (_ ∧ _ ∧ X' (10 * k + 7) = _ ∧ _) ∨ (_ ∧ _ ∧ X' (10 * k + 7) = _ ∧ _)
      rw [hv7]; exact hbot
    · rw [tt]
      refine ⟨hfn, hr0', hb, ?_, ?_, .inr hst, .inr (.inr ⟨rfl, hbg⟩)⟩
      · show 0 ≤ updr ((σ.Ts k).fs 1).r 1 (σ.f (nd P.t a 0)) 1; rw [hr1']; exact hlb.1
      · show updr ((σ.Ts k).fs 1).r 1 (σ.f (nd P.t a 0)) 1 < _; rw [hr1']; omega
    · rw [t2]
      exact ⟨rfl, by show 0 ≤ e; omega, by show e < _; omega, a, ha, a1, a2, updO_at _ _ _, .inl ⟨rfl, hg, by show g.W a + 3 ≤ σ.f 1; omega⟩⟩
  · rw [nz_at]
    show rk P.t T (σ.f 2) _ < _
    rw [rk_3 t1, rk_2 hn, t0, t2]
    unfold rkD rkS
    rw [if_neg (show ¬ (2 : Int) = 1 by decide), if_pos rfl, if_neg (by omega), if_neg (by omega)]
    omega
end
end Go.Proofs.Ytaaciolfgplnoaa.Lb

/- Layer 19: steps of Take (no program in it). -/
namespace Go.Proofs.Ytaaciolfgplnoaa.Lb
open Go.RowKit WordM EdgeM Sl
set_option linter.unusedVariables false
set_option linter.unusedSimpArgs false
section
variable {P : Pc} {σ : Sg} {g : Gh} {n k : Nat}
theorem rk_setT {F : Th.Fm} (hn : (σ.Ts k).nf = 1) (hF : F.fn = 1) (h : Int) : rk P.t (setF (σ.Ts k) 0 F) h (bn g k) = rkS F h := by
  rw [rk_1T (show (setF (σ.Ts k) 0 F).nf = 1 from hn) (by rw [setF_fs]; exact hF), setF_fs]
theorem so_t0 (h : XS P σ g n) (hN : n ≤ 1000000) (hk : k < P.t) (hn : (σ.Ts k).nf = 1) (h7 : g.X (10 * k + 7) = []) (hfn : ((σ.Ts k).fs 0).fn = 1) (hpc : ((σ.Ts k).fs 0).pc = 0) (hr : 0 ≤ ((σ.Ts k).fs 0).r 0 ∧ ((σ.Ts k).fs 0).r 0 < 18446744073709551616) : ∃ σ' g', LS P k 0 σ.stp σ' ∧ SO P σ σ' k g g' n := by
  have hct := h.ct
  have h3 := h.no3 (m := 0) hn (by omega) (by omega)
  have hls : LS P k 0 σ.stp (rTake P k 0 σ.stp) := .take hfn (by show 0 ≤ ((σ.Ts k).fs 0).pc ∧ ((σ.Ts k).fs 0).pc ≤ 3; omega) hr (fun h9 => by have : ((σ.Ts k).fs 0).pc = 2 := h9; omega)
  refine ⟨_, g, hls, ?_⟩
  by_cases hz : σ.f 2 % 4096 = 0
  · have er : rTake P k 0 σ.stp = nz σ k (Th.backT (setF (σ.Ts k) 0 ⟨((σ.Ts k).fs 0).fn, 1, updr ((σ.Ts k).fs 0).r 0 (σ.f 2)⟩) 1 (fun _ => 0)) σ.f σ.H σ.G (σ.acc + 1) := by
      unfold rTake; rw [if_pos (show ((σ.stp.Ts k).fs 0).pc = 0 from hpc), if_pos (show σ.stp.f 2 % 4096 = 0 from hz)]; rfl
    rw [er]
    exact so_back1 h hk hn (.inr rfl) h3 h7 _ (by show (σ.Ts k).nf - 1 = 0; omega) (fun _ => rfl)
  · have er : rTake P k 0 σ.stp = nz σ k (setF (σ.Ts k) 0 ⟨((σ.Ts k).fs 0).fn, 1, updr ((σ.Ts k).fs 0).r 0 (σ.f 2)⟩) σ.f σ.H σ.G (σ.acc + 1) := by
      unfold rTake; rw [if_pos (show ((σ.stp.Ts k).fs 0).pc = 0 from hpc), if_neg (show ¬ σ.stp.f 2 % 4096 = 0 from hz)]; rfl
    rw [er]
    have hl : ∃ a : Nat, σ.f 2 % 4096 = a ∧ 1 ≤ a ∧ a ≤ P.s := by
      have h1 := h.lk.hd
      have hm := fun a => h.mem (a := a)
      generalize g.L = L at h1 hm
      cases L with
      | nil => exact absurd h1 hz
      | cons a r => exact ⟨a, h1, (hm a List.mem_cons_self).1, (hm a List.mem_cons_self).2⟩
    obtain ⟨a, b1, b2, b3⟩ := hl
    refine so_set1 h hk hn (.inr rfl) h3 _ (.inr (.inl ⟨hn, .inl ⟨h7, .inl ?_⟩⟩)) ?_
    · rw [setF_fs]
      refine ⟨hfn, ?_, ?_, .inr ⟨a, ?_, b2, b3, .inl ⟨rfl, ?_⟩⟩⟩
      · show 0 ≤ updr ((σ.Ts k).fs 0).r 0 (σ.f 2) 0; rw [updr_at]; exact hct.1
      · show updr ((σ.Ts k).fs 0).r 0 (σ.f 2) 0 < _; rw [updr_at]; omega
      · show updr ((σ.Ts k).fs 0).r 0 (σ.f 2) 0 % 4096 = _; rw [updr_at]; exact b1
      · show updr ((σ.Ts k).fs 0).r 0 (σ.f 2) 0 / 4096 ≤ _; rw [updr_at]; exact Int.le_refl _
    · rw [rk_setT hn (by exact hfn), rk_1T hn hfn]
      simp [rkS, hfn, hpc, updr]
theorem so_t1 (h : XS P σ g n) (hk : k < P.t) (hn : (σ.Ts k).nf = 1) (h7 : g.X (10 * k + 7) = []) (hfn : ((σ.Ts k).fs 0).fn = 1) (hpc : ((σ.Ts k).fs 0).pc = 1) (hr : 0 ≤ ((σ.Ts k).fs 0).r 0 ∧ ((σ.Ts k).fs 0).r 0 < 18446744073709551616) {a : Nat} (ha : ((σ.Ts k).fs 0).r 0 % 4096 = a) (a1 : 1 ≤ a) (a2 : a ≤ P.s) (hc : ((σ.Ts k).fs 0).r 0 / 4096 ≤ σ.f 2 / 4096) : ∃ σ' g', LS P k 0 σ.stp σ' ∧ SO P σ σ' k g g' n := by
  have h3 := h.no3 (m := 0) hn (by omega) (by omega)
  obtain ⟨e0, o0⟩ := ld_nd (P := P) (f := σ.f) (j := 0) a1 a2 (by omega)
  have e0' : P.ld σ.f a 0 = σ.f (nd P.t a 0) := e0
  have o0' : P.ok a 0 = true := o0
  have er : rTake P k 0 σ.stp = nz σ k (setF (σ.Ts k) 0 ⟨((σ.Ts k).fs 0).fn, 2, updr ((σ.Ts k).fs 0).r 1 (σ.f (nd P.t a 0))⟩) σ.f σ.H σ.G (σ.acc + 1) := by
    have e1 : rTake P k 0 σ.stp = nyS σ k (setF (σ.Ts k) 0 ⟨((σ.Ts k).fs 0).fn, 2, updr ((σ.Ts k).fs 0).r 1 (P.ld σ.f (((σ.Ts k).fs 0).r 0 % 4096) 0)⟩) σ.f σ.H σ.G (σ.flt || !P.ok (((σ.Ts k).fs 0).r 0 % 4096) 0) σ.sl := by
      unfold rTake; rw [if_neg (show ¬ ((σ.stp.Ts k).fs 0).pc = 0 from by show ¬ ((σ.Ts k).fs 0).pc = 0; omega), if_pos (show ((σ.stp.Ts k).fs 0).pc = 1 from hpc)]; rfl
    rw [e1, ha, e0', o0', show (σ.flt || !true) = σ.flt by simp]; rfl
  have hls : LS P k 0 σ.stp (rTake P k 0 σ.stp) := .take hfn (by show 0 ≤ ((σ.Ts k).fs 0).pc ∧ ((σ.Ts k).fs 0).pc ≤ 3; omega) hr (fun h9 => by have : ((σ.Ts k).fs 0).pc = 2 := h9; omega)
  refine ⟨_, g, hls, ?_⟩
  rw [er]
  have hlb := h.lb a a1 a2
  refine so_set1 h hk hn (.inr rfl) h3 _ (.inr (.inl ⟨hn, .inl ⟨h7, .inl ?_⟩⟩)) ?_
  · rw [setF_fs]
    refine ⟨hfn, ?_, ?_, .inr ⟨a, ?_, a1, a2, .inr (.inl ⟨rfl, ?_, ?_, ?_, ?_⟩)⟩⟩
    · show 0 ≤ updr ((σ.Ts k).fs 0).r 1 (σ.f (nd P.t a 0)) 0; rw [updr_ne _ _ (by decide)]; exact hr.1
    · show updr ((σ.Ts k).fs 0).r 1 (σ.f (nd P.t a 0)) 0 < _; rw [updr_ne _ _ (by decide)]; exact hr.2
    · show updr ((σ.Ts k).fs 0).r 1 (σ.f (nd P.t a 0)) 0 % 4096 = _; rw [updr_ne _ _ (by decide)]; exact ha
    · show updr ((σ.Ts k).fs 0).r 1 (σ.f (nd P.t a 0)) 0 / 4096 ≤ _; rw [updr_ne _ _ (by decide)]; exact hc
    · show 0 ≤ updr ((σ.Ts k).fs 0).r 1 (σ.f (nd P.t a 0)) 1; rw [updr_at]; exact hlb.1
    · show updr ((σ.Ts k).fs 0).r 1 (σ.f (nd P.t a 0)) 1 < _; rw [updr_at]; exact hlb.2
    · intro _; show updr ((σ.Ts k).fs 0).r 1 (σ.f (nd P.t a 0)) 1 = _; rw [updr_at]
  · rw [rk_setT hn (by exact hfn), rk_1T hn hfn]
    by_cases e : ((σ.Ts k).fs 0).r 0 = σ.f 2 <;> simp [rkS, hfn, hpc, updr, e]
theorem so_t2n (h : XS P σ g n) (hk : k < P.t) (hn : (σ.Ts k).nf = 1) (h7 : g.X (10 * k + 7) = []) (hfn : ((σ.Ts k).fs 0).fn = 1) (hpc : ((σ.Ts k).fs 0).pc = 2) (hr : 0 ≤ ((σ.Ts k).fs 0).r 0 ∧ ((σ.Ts k).fs 0).r 0 < 18446744073709551616) (hr1 : 0 ≤ ((σ.Ts k).fs 0).r 1 ∧ ((σ.Ts k).fs 0).r 1 < 4611686018427387904) (hz : (σ.f 2 == ((σ.Ts k).fs 0).r 0) = false) : ∃ σ' g', LS P k 0 σ.stp σ' ∧ SO P σ σ' k g g' n := by
  have h3 := h.no3 (m := 0) hn (by omega) (by omega)
  have er : rTake P k 0 σ.stp = nz σ k (setF (σ.Ts k) 0 ⟨((σ.Ts k).fs 0).fn, 0, ((σ.Ts k).fs 0).r⟩) σ.f σ.H σ.G (σ.acc + 1) := by
    unfold rTake; rw [if_neg (show ¬ ((σ.stp.Ts k).fs 0).pc = 0 from by show ¬ ((σ.Ts k).fs 0).pc = 0; omega), if_neg (show ¬ ((σ.stp.Ts k).fs 0).pc = 1 from by show ¬ ((σ.Ts k).fs 0).pc = 1; omega), if_pos (show ((σ.stp.Ts k).fs 0).pc = 2 from hpc), if_neg (show ¬ (σ.stp.f 2 == ((σ.stp.Ts k).fs 0).r 0) = true from by show ¬ (σ.f 2 == ((σ.Ts k).fs 0).r 0) = true; rw [hz]; decide)]; rfl
  have hls : LS P k 0 σ.stp (rTake P k 0 σ.stp) := .take hfn (by show 0 ≤ ((σ.Ts k).fs 0).pc ∧ ((σ.Ts k).fs 0).pc ≤ 3; omega) hr (fun _ => ⟨hr1.1, by show ((σ.Ts k).fs 0).r 1 < _; omega⟩)
  refine ⟨_, g, hls, ?_⟩
  rw [er]
  refine so_set1 h hk hn (.inr rfl) h3 _ (.inr (.inl ⟨hn, .inl ⟨h7, .inl ?_⟩⟩)) ?_
  · rw [setF_fs]
    exact ⟨hfn, hr.1, hr.2, .inl rfl⟩
  · rw [rk_setT hn (by exact hfn), rk_1T hn hfn]
    have e : ¬ ((σ.Ts k).fs 0).r 0 = σ.f 2 := fun e => by rw [e] at hz; simp at hz
    simp [rkS, hfn, hpc, e]
def updW (W : Nat → Int) (a : Nat) (v : Int) : Nat → Int := fun i => if i = a then v else W i
theorem updW_at (W : Nat → Int) (a : Nat) (v : Int) : updW W a v a = v := by unfold updW; rw [if_pos rfl]
theorem updW_ne (W : Nat → Int) {a i : Nat} (v : Int) (h : i ≠ a) : updW W a v i = W i := by unfold updW; rw [if_neg h]
theorem so_t2y (h : XS P σ g n) (hN : n ≤ 1000000) (s2 : P.s ≤ 250) (hk : k < P.t) (hn : (σ.Ts k).nf = 1) (h7 : g.X (10 * k + 7) = []) (hfn : ((σ.Ts k).fs 0).fn = 1) (hpc : ((σ.Ts k).fs 0).pc = 2) (hr : 0 ≤ ((σ.Ts k).fs 0).r 0 ∧ ((σ.Ts k).fs 0).r 0 < 18446744073709551616) (hr1b : 0 ≤ ((σ.Ts k).fs 0).r 1 ∧ ((σ.Ts k).fs 0).r 1 < 4611686018427387904) {a : Nat} (ha : ((σ.Ts k).fs 0).r 0 % 4096 = a) (a1 : 1 ≤ a) (a2 : a ≤ P.s) (hz : (σ.f 2 == ((σ.Ts k).fs 0).r 0) = true) (hr1 : ((σ.Ts k).fs 0).r 0 = σ.f 2 → ((σ.Ts k).fs 0).r 1 = σ.f (nd P.t a 0)) : ∃ σ' g', LS P k 0 σ.stp σ' ∧ SO P σ σ' k g g' n := by
  have h3 := h.no3 (m := 0) hn (by omega) (by omega)
  have hct := h.ct
  have hep := h.ep
  have hz' : σ.f 2 = ((σ.Ts k).fs 0).r 0 := by simpa using hz
  have hx := hr1 hz'.symm
  have hlk := h.lk; have hun := h.un; have hol := h.ol
  obtain ⟨r, hLr⟩ : ∃ r, g.L = a :: r := by
    have h1 := h.lk.hd
    generalize g.L = L at h1 ⊢
    cases L with
    | nil => rw [hz', ha] at h1; have h2 : (a : Int) = 0 := h1; omega
    | cons x r => rw [hz', ha] at h1; have h2 : (a : Int) = (x : Int) := h1; have h3 : a = x := by omega
                  exact ⟨r, by rw [h3]⟩
  rw [hLr] at hlk hun hol
  have hrn : σ.f (nd P.t a 0) = hdN r := by have := (hlk.at_ 0 (by simp)).2.2; simpa using this
  have hle : hdN r ≤ P.s := by have := hd_le hlk 1; simpa using this
  have hge : (0 : Int) ≤ (hdN r : Int) := by omega
  have hO : g.O a = 0 := (hol a a1 a2).2 List.mem_cons_self
  have hH : σ.H (a - 1) = false := (h.hh a a1 a2).2 (.inl hO)
  have hcan : Gd.canT P.s σ.H a = true := by
    unfold Gd.canT
    rw [show ((a : Int).toNat - 1) = a - 1 by omega, hH]
    simp; omega
  have hT : Gd.takeH P.s σ.H a = Gd.setB σ.H (a - 1) true := by
    unfold Gd.takeH; rw [if_pos hcan, show ((a : Int).toNat - 1) = a - 1 by omega]
  have er : rTake P k 0 σ.stp = nz σ k (setF (σ.Ts k) 0 ⟨((σ.Ts k).fs 0).fn, 3, ((σ.Ts k).fs 0).r⟩) (Mm.upd σ.f 2 (chgI (σ.f 2) (hdN r))) (Gd.setB σ.H (a - 1) true) σ.G (σ.acc + 1) := by
    have e1 : rTake P k 0 σ.stp = nyS σ k (setF (σ.Ts k) 0 ⟨((σ.Ts k).fs 0).fn, 3, ((σ.Ts k).fs 0).r⟩) (Mm.upd σ.f 2 (chgI (((σ.Ts k).fs 0).r 0) (((σ.Ts k).fs 0).r 1))) (Gd.takeH P.s σ.H (((σ.Ts k).fs 0).r 0 % 4096)) σ.G σ.flt (if Gd.canT P.s σ.H (((σ.Ts k).fs 0).r 0 % 4096) = true then σ.sl else σ.sl + 1) := by
      unfold rTake; rw [if_neg (show ¬ ((σ.stp.Ts k).fs 0).pc = 0 from by show ¬ ((σ.Ts k).fs 0).pc = 0; omega), if_neg (show ¬ ((σ.stp.Ts k).fs 0).pc = 1 from by show ¬ ((σ.Ts k).fs 0).pc = 1; omega), if_pos (show ((σ.stp.Ts k).fs 0).pc = 2 from hpc), if_pos (show (σ.stp.f 2 == ((σ.stp.Ts k).fs 0).r 0) = true from hz)]; rfl
    rw [e1, ha, hT, if_pos hcan, ← hz', hx, hrn]; rfl
  have hls : LS P k 0 σ.stp (rTake P k 0 σ.stp) := .take hfn (by show 0 ≤ ((σ.Ts k).fs 0).pc ∧ ((σ.Ts k).fs 0).pc ≤ 3; omega) hr (fun _ => ⟨hr1b.1, by show ((σ.Ts k).fs 0).r 1 < _; omega⟩)
  obtain ⟨hcd, hc0⟩ := chg_div (h := σ.f 2) (x := hdN r) hct.1 (by omega)
  have hu := List.nodup_cons.1 hun
  have e1 : ∀ i, i ≠ 2 → Mm.upd σ.f 2 (chgI (σ.f 2) (hdN r)) i = σ.f i := fun i hi => upd_ne _ _ hi
  have eu : ∀ b j, Mm.upd σ.f 2 (chgI (σ.f 2) (hdN r)) (nd P.t b j) = σ.f (nd P.t b j) := fun b j => e1 _ nd_ne2
  have hgn := h.gn a a1 a2
  obtain ⟨T, hTT⟩ : ∃ T, T = setF (σ.Ts k) 0 ⟨((σ.Ts k).fs 0).fn, 3, ((σ.Ts k).fs 0).r⟩ := ⟨_, rfl⟩
  have t1 : T.nf = 1 := by rw [hTT]; exact hn
  have t0 : T.fs 0 = ⟨((σ.Ts k).fs 0).fn, 3, ((σ.Ts k).fs 0).r⟩ := by rw [hTT, setF_fs]
  have hlim : ¬ lim T := by
    rintro ⟨m, m1, m2, _⟩
    have : m = 0 := by omega
    subst this
    rw [t0] at m2
    have : ((σ.Ts k).fs 0).fn = 2 := m2
    omega
  have hna : ∀ v, ofK k v → ∀ x ∈ g.X v, sl x ≠ a := fun v hv x hx e9 => by
    have := (h.xe k hk v hv x hx).slot
    rw [e9, hO] at this; exact (ofK_pos hv).1 this.2.2.1.symm
  refine ⟨_, { g with O := updO g.O a (10 * k + 3), W := updW g.W a (-1), L := r }, hls, ?_⟩
  rw [er, ← hTT]
  refine ⟨h.nx hk a (fun i hi => nz_oth _ _ _ _ _ _ _ hi) (.inr (.inl hO)) (fun b b1 b2 hb => ⟨updO_ne _ _ hb, updW_ne _ _ hb, rfl, setB_ne _ _ (by omega), eu b 0, eu b 1⟩) (fun _ _ => .inr (by show ofK k (updO g.O a _ a); rw [updO_at]; exact ofK_3 k))
    (fun c c1 c2 _ h9 => absurd h9 (h3 c c1 c2)) (fun _ _ _ => by rw [nz_at]; exact ⟨0, t1, by rw [t0]; exact ha, .inr ⟨by rw [t0]; exact hfn, by rw [t0]⟩⟩) (by show σ.f 1 ≤ Mm.upd σ.f 2 (chgI (σ.f 2) (hdN r)) 1 ∧ Mm.upd σ.f 2 (chgI (σ.f 2) (hdN r)) 1 ≤ _; rw [e1 1 (by decide)]; omega) (fun j _ => e1 _ (ai_ne (k := 0) (b := 0) (by omega)).2.2.2) (fun i hi hik c' hc' => ⟨e1 _ (st_lo (a := 0) (j := 0) hi hc').2.2.2.1, e1 _ (st_lo (a := 0) (j := 0) hi hc').2.2.2.2.2⟩)
    (.inr ?_) ?_ ⟨?_, fun j hj => ?_⟩ hu.2 (fun b b1 b2 => ?_) (fun _ _ => rfl)
    (fun v hv x hx => (h.xe k hk v hv x hx).on fun b b1 b2 hb => ⟨updO_ne _ _ (fun e9 => by rw [e9, hO] at hb; exact (ofK_pos hv).1 hb.symm), rfl⟩) (fun v hv => h.xu k hk v hv) (fun c c1 c2 h9 h8 => ?_) (fun _ _ h9 => by have h8 : updO g.O a (10 * k + 3) a = _ := h9; rw [updO_at] at h8; omega) (fun c' hc' => ?_) (fun c' hc' => ?_) (fun _ _ => ?_) (fun _ _ => ?_) (fun _ _ => ?_) ?_ ⟨.inr rfl, rfl⟩ h.ok, fun c c1 c2 => ?_, .inr ?_, .inl ⟨fun j => rfl, fun _ h9 => by rw [nz_at] at h9; omega⟩⟩
  · show _ < Mm.upd σ.f 2 (chgI (σ.f 2) (hdN r)) 2 / 4096; rw [upd_at]; omega
  · show 0 ≤ Mm.upd σ.f 2 (chgI (σ.f 2) (hdN r)) 2 ∧ Mm.upd σ.f 2 (chgI (σ.f 2) (hdN r)) 2 / 4096 ≤ _; rw [upd_at]; omega
  · show Mm.upd σ.f 2 (chgI (σ.f 2) (hdN r)) 2 % 4096 = _; rw [upd_at, chg_mod hge (by omega)]
  · have := hlk.at_ (j + 1) (by simpa using hj)
    show _ ∧ _ ∧ Mm.upd σ.f 2 (chgI (σ.f 2) (hdN r)) _ = _
    rw [eu]
    simpa using this
  · show updO g.O a _ b = 0 ↔ b ∈ r
    by_cases e : b = a
    · subst e; rw [updO_at]; simp [hu.1]
    · rw [updO_ne _ _ e, hol b b1 b2, List.mem_cons]
      constructor
      · rintro (h1 | h1)
        · exact absurd h1 e
        · exact h1
      · exact .inr
  · show ∃ x ∈ g.X (updO g.O a (10 * k + 3) c), x % 4096 = c
    have h9' : ofK k (updO g.O a (10 * k + 3) c) := h9
    have h8' : updO g.O a (10 * k + 3) c ≠ 10 * k + 3 := h8
    by_cases e9 : c = a
    · subst e9; rw [updO_at] at h8'; exact absurd rfl h8'
    · rw [updO_ne _ _ e9] at h9' h8' ⊢
      exact h.xc c c1 c2 k hk h9' h8'
  · rw [nz_at]
    show Ch P.t (Mm.upd σ.f 2 (chgI (σ.f 2) (hdN r))) (rootOf T (Mm.upd σ.f 2 (chgI (σ.f 2) (hdN r))) k c') (g.X (10 * k + 4 + c'))
    have h9 := h.ch k hk c' hc'
    rw [root_lt (by omega)] at h9
    rw [root_lt (by omega), e1 _ (st_lo (a := 0) (j := 0) hk hc').2.2.2.2.2]
    exact h9.on fun y _ => eu _ 0
  · show (0 ≤ Mm.upd σ.f 2 (chgI (σ.f 2) (hdN r)) (stI k c') ∧ Mm.upd σ.f 2 (chgI (σ.f 2) (hdN r)) (stI k c') ≤ Mm.upd σ.f 2 (chgI (σ.f 2) (hdN r)) 1) ∧ (g.X (10 * k + 4 + c') ≠ [] → Mm.upd σ.f 2 (chgI (σ.f 2) (hdN r)) (stI k c') % 3 = c') ∧ ∀ y ∈ g.X (10 * k + 4 + c'), updW g.W a (-1) (sl y) ≤ Mm.upd σ.f 2 (chgI (σ.f 2) (hdN r)) (stI k c')
    obtain ⟨s0, s3, s4⟩ := h.sta k hk c' hc'
    rw [e1 _ (st_lo (a := 0) (j := 0) hk hc').2.2.2.1, e1 1 (by decide)]
    exact ⟨s0, s3, fun y hy => by rw [updW_ne _ _ (hna _ (ofK_b hc') y hy)]; exact s4 y hy⟩
  · show Gd.setB σ.H (a - 1) true (a - 1) = false ↔ (updO g.O a _ a = 0 ∨ (updO g.O a _ a = _ ∧ lim ((nz σ k T _ _ _ _).Ts k)))
    rw [setB_at, updO_at, nz_at]
    constructor
    · intro h; cases h
    · rintro (h1 | ⟨_, h1⟩)
      · omega
      · exact absurd h1 hlim
  · show Mm.upd σ.f 2 (chgI (σ.f 2) (hdN r)) (nd P.t a 1) = σ.G (a - 1) ∧ 0 ≤ σ.G (a - 1) ∧ σ.G (a - 1) ≤ _
    rw [eu]; omega
  · show 0 ≤ Mm.upd σ.f 2 (chgI (σ.f 2) (hdN r)) (nd P.t a 0) ∧ Mm.upd σ.f 2 (chgI (σ.f 2) (hdN r)) (nd P.t a 0) < _
    rw [eu]; exact h.lb a a1 a2
  · rw [nz_at]
    refine .inr (.inl ⟨t1, .inl ⟨h7, .inl ?_⟩⟩)
    rw [t0]
    exact ⟨hfn, hr.1, hr.2, .inr ⟨a, ha, a1, a2, .inr (.inr ⟨rfl, updO_at _ _ _, by show updW g.W a (-1) a < 0; rw [updW_at]; decide⟩)⟩⟩
  · by_cases e9 : c = a
    · subst e9; exact .inr (.inl hH)
    · exact .inl ⟨rfl, setB_ne _ _ (by omega), updW_ne _ _ e9⟩
  · rw [nz_at]
    show rk P.t T (Mm.upd σ.f 2 (chgI (σ.f 2) (hdN r)) 2) (bn g k) < _
    rw [hTT, rk_setT hn (by exact hfn), rk_1T hn hfn]
    simp [rkS, hfn, hpc, hz']
/-- Take tells what it took. -/
theorem so_t3 (h : XS P σ g n) (hN : n ≤ 1000000) (s2 : P.s ≤ 250) (hk : k < P.t) (hn : (σ.Ts k).nf = 1) (h7 : g.X (10 * k + 7) = []) (hfn : ((σ.Ts k).fs 0).fn = 1) (hpc : ((σ.Ts k).fs 0).pc = 3) (hr : 0 ≤ ((σ.Ts k).fs 0).r 0 ∧ ((σ.Ts k).fs 0).r 0 < 18446744073709551616) {a : Nat} (ha : ((σ.Ts k).fs 0).r 0 % 4096 = a) (a1 : 1 ≤ a) (a2 : a ≤ P.s) (ho : g.O a = 10 * k + 3) (hw : g.W a < 0) : ∃ σ' g', LS P k 0 σ.stp σ' ∧ SO P σ σ' k g g' n := by
  have hct := h.ct
  have hep := h.ep
  have hgn := h.gn a a1 a2
  obtain ⟨e0, o0⟩ := ld_nd (P := P) (f := σ.f) (j := 1) a1 a2 (by omega)
  have e0' : P.ld σ.f a 1 = σ.f (nd P.t a 1) := e0
  have o0' : P.ok a 1 = true := o0
  obtain ⟨e, he⟩ : ∃ e : Int, e = a + 4096 * σ.G (a - 1) := ⟨_, rfl⟩
  have hmk : makeI a (σ.G (a - 1)) = e := by rw [he]; unfold makeI; rw [slotI_of (by omega) (by omega)]; omega
  have er : rTake P k 0 σ.stp = nz σ k (Th.backT (σ.Ts k) 1 (fun _ => e)) σ.f σ.H σ.G (σ.acc + 1) := by
    have e1 : rTake P k 0 σ.stp = nyS σ k (Th.backT (σ.Ts k) 1 (fun _ => makeI (((σ.Ts k).fs 0).r 0 % 4096) (P.ld σ.f (((σ.Ts k).fs 0).r 0 % 4096) 1))) σ.f σ.H σ.G (σ.flt || !P.ok (((σ.Ts k).fs 0).r 0 % 4096) 1) σ.sl := by
      unfold rTake; rw [if_neg (show ¬ ((σ.stp.Ts k).fs 0).pc = 0 from by show ¬ ((σ.Ts k).fs 0).pc = 0; omega), if_neg (show ¬ ((σ.stp.Ts k).fs 0).pc = 1 from by show ¬ ((σ.Ts k).fs 0).pc = 1; omega), if_neg (show ¬ ((σ.stp.Ts k).fs 0).pc = 2 from by show ¬ ((σ.Ts k).fs 0).pc = 2; omega)]; rfl
    rw [e1, ha, e0', o0', hgn.1, hmk, show (σ.flt || !true) = σ.flt by simp]; rfl
  have hls : LS P k 0 σ.stp (rTake P k 0 σ.stp) := .take hfn (by show 0 ≤ ((σ.Ts k).fs 0).pc ∧ ((σ.Ts k).fs 0).pc ≤ 3; omega) hr (fun h9 => by have : ((σ.Ts k).fs 0).pc = 2 := h9; omega)
  have hem : e % 4096 = a := by omega
  have hsl : sl e = a := sl_of hem
  have hed : e / 4096 % 1125899906842624 = σ.G (a - 1) := by omega
  have hl0 : ¬ lim (σ.Ts k) := by
    rintro ⟨m, m1, m2, _⟩
    have : m = 0 := by omega
    subst this; omega
  have hH : σ.H (a - 1) = true := by
    cases e9 : σ.H (a - 1) with
    | true => rfl
    | false =>
      rcases (h.hh a a1 a2).1 e9 with h1 | ⟨j, _, h1, h2⟩
      · omega
      · have : j = k := by omega
        subst this
        exact absurd h2 hl0
  have hq : ∀ c, 1 ≤ c → c ≤ P.s → c ≠ a → g.O c ≠ 10 * k + 3 := fun c c1 c2 hc e9 => by
    obtain ⟨_, m, m1, m2, _⟩ := h.ow c c1 c2 k e9
    have : m = 0 := by omega
    subst this; omega
  obtain ⟨T, hT⟩ : ∃ T, T = Th.backT (σ.Ts k) 1 (fun _ => e) := ⟨_, rfl⟩
  have t1 : T.nf = 0 := by rw [hT]; show (σ.Ts k).nf - 1 = 0; omega
  have t2 : T.ret 0 = e := by rw [hT]; rfl
  obtain ⟨X', hX'⟩ : ∃ X', X' = updX (updX g.X (10 * k + 3) []) (10 * k + 2) (g.X (10 * k + 2) ++ [e]) := ⟨_, rfl⟩
  have x1 : X' (10 * k + 2) = g.X (10 * k + 2) ++ [e] := by rw [hX', updX_at]
  have x2 : X' (10 * k + 3) = [] := by rw [hX', updX_ne _ _ (by omega), updX_at]
  have x3 : ∀ v, v ≠ 10 * k + 2 → v ≠ 10 * k + 3 → X' v = g.X v := fun v v1 v2 => by rw [hX', updX_ne _ _ v1, updX_ne _ _ v2]
  have hon : ∀ v, ofK k v → v ≠ 10 * k + 3 → ∀ x ∈ g.X v, edX P.s (updO g.O a (10 * k + 2)) σ.G v x := fun v hv v3 x hx => (h.xe k hk v hv x hx).on fun b b1 b2 hb => ⟨updO_ne _ _ (fun e9 => by rw [e9, ho] at hb; omega), rfl⟩
  refine ⟨_, { g with O := updO g.O a (10 * k + 2), X := X' }, hls, ?_⟩
  rw [er, ← hT]
  refine ⟨h.nx hk a (fun i hi => nz_oth _ _ _ _ _ _ _ hi) (.inr (.inr (by rw [ho]; exact ofK_3 k))) (fun b b1 b2 hb => ⟨updO_ne _ _ hb, rfl, rfl, rfl, rfl, rfl⟩) (fun _ _ => .inr (by show ofK k (updO g.O a _ a); rw [updO_at]; exact ofK_2 k))
    (fun c c1 c2 hc h9 => absurd h9 (hq c c1 c2 hc)) (fun _ _ h9 => by have h8 : updO g.O a (10 * k + 2) a = _ := h9; rw [updO_at] at h8; omega) (by show σ.f 1 ≤ σ.f 1 ∧ σ.f 1 ≤ _; omega) (fun j _ => rfl) (fun i hi hik c' hc' => ⟨rfl, rfl⟩)
    (.inl ⟨rfl, fun _ h9 => rfl⟩) (by show 0 ≤ σ.f 2 ∧ σ.f 2 / 4096 ≤ _; omega) h.lk h.un (fun c c1 c2 => ?_) (fun v hv => x3 v (fun e9 => hv (by rw [e9]; exact ofK_2 k)) (fun e9 => hv (by rw [e9]; exact ofK_3 k)))
    (fun v hv x hx => ?_) (fun v hv => ?_) (fun c c1 c2 h9 h8 => ?_) (fun _ _ _ => hw) (fun c' hc' => ?_) (fun c' hc' => ?_) (fun _ _ => ?_) (fun _ _ => ?_) (fun _ _ => h.lb a a1 a2) (by rw [nz_at]; exact .inl ⟨t1, by show X' (10 * k + 7) = []; rw [x3 _ (by omega) (by omega)]; exact h7⟩) ⟨.inr rfl, rfl⟩ h.ok, eff0 rfl rfl, .inl (by rw [nz_at]; exact t1), .inr ⟨⟨hn, hfn⟩, by rw [nz_at]; exact t1, by rw [nz_at, t2]; omega, by rw [nz_at, t2]; omega, by rw [nz_at, t2]; exact x1, fun j hj => x3 _ (by omega) (by omega)⟩⟩
  · show updO g.O a _ c = 0 ↔ _
    by_cases e9 : c = a
    · subst e9
      rw [updO_at]
      constructor
      · intro h9; omega
      · intro h9; have := (h.ol c c1 c2).2 h9; omega
    · rw [updO_ne _ _ e9]; exact h.ol c c1 c2
  · show edX P.s (updO g.O a (10 * k + 2)) σ.G v x
    have hx' : x ∈ X' v := hx
    by_cases v1 : v = 10 * k + 2
    · subst v1
      rw [x1] at hx'
      rcases List.mem_append.1 hx' with h9 | h9
      · exact hon _ hv (by omega) x h9
      · simp only [List.mem_singleton] at h9
        subst h9
        exact ⟨by omega, a, hem, a1, a2, updO_at _ _ _, hed.symm⟩
    · by_cases v2 : v = 10 * k + 3
      · subst v2; rw [x2] at hx'; exact absurd hx' List.not_mem_nil
      · rw [x3 v v1 v2] at hx'; exact hon v hv v2 x hx'
  · show ((X' v).map sl).Nodup
    by_cases v1 : v = 10 * k + 2
    · subst v1
      rw [x1, List.map_append, List.nodup_append]
      refine ⟨h.xu k hk _ hv, by simp, ?_⟩
      intro x hx y hy
      simp only [List.mem_map] at hx
      obtain ⟨x', hm, rfl⟩ := hx
      simp only [List.map_cons, List.map_nil, List.mem_singleton] at hy
      have := (h.xe k hk _ hv x' hm).slot
      intro e9
      rw [e9, hy, hsl, ho] at this
      omega
    · by_cases v2 : v = 10 * k + 3
      · subst v2; rw [x2]; simp
      · rw [x3 v v1 v2]; exact h.xu k hk v hv
  · show ∃ x ∈ X' (updO g.O a (10 * k + 2) c), x % 4096 = c
    by_cases e9 : c = a
    · subst e9; rw [updO_at, x1]; exact ⟨e, List.mem_append.2 (.inr List.mem_cons_self), hem⟩
    · have h9' : ofK k (updO g.O a (10 * k + 2) c) := h9
      have h8' : updO g.O a (10 * k + 2) c ≠ 10 * k + 3 := h8
      rw [updO_ne _ _ e9] at h9' h8' ⊢
      obtain ⟨x, hx, hxa⟩ := h.xc c c1 c2 k hk h9' h8'
      by_cases v1 : g.O c = 10 * k + 2
      · rw [v1] at hx ⊢; rw [x1]; exact ⟨x, List.mem_append.2 (.inl hx), hxa⟩
      · rw [x3 _ v1 h8']; exact ⟨x, hx, hxa⟩
  · rw [nz_at]
    show Ch P.t σ.f (rootOf T σ.f k c') (X' (10 * k + 4 + c'))
    have h9 := h.ch k hk c' hc'
    rw [root_lt (by omega)] at h9
    rw [root_lt (by omega), x3 _ (by omega) (by omega)]; exact h9
  · show (0 ≤ σ.f (stI k c') ∧ σ.f (stI k c') ≤ σ.f 1) ∧ (X' (10 * k + 4 + c') ≠ [] → σ.f (stI k c') % 3 = c') ∧ ∀ y ∈ X' (10 * k + 4 + c'), g.W (sl y) ≤ σ.f (stI k c')
    rw [x3 _ (by omega) (by omega)]; exact h.sta k hk c' hc'
  · show σ.H (a - 1) = false ↔ (updO g.O a _ a = 0 ∨ (updO g.O a _ a = _ ∧ _))
    rw [hH, updO_at]
    constructor
    · intro h9; cases h9
    · rintro (h9 | ⟨h9, _⟩) <;> omega
  · exact ⟨hgn.1, hgn.2.1, by show σ.G (a - 1) ≤ _; omega⟩
/-- A step of Take. -/
theorem so_take (h : XS P σ g n) (hN : n ≤ 1000000) (s2 : P.s ≤ 250) (hk : k < P.t) (hn : (σ.Ts k).nf = 1) (h7 : g.X (10 * k + 7) = []) (hF : TakeF P σ.f g k ((σ.Ts k).fs 0)) : ∃ σ' g', LS P k 0 σ.stp σ' ∧ SO P σ σ' k g g' n := by
  obtain ⟨f1, f2, f3, f4⟩ := hF
  rcases f4 with f4 | ⟨a, f4, f5, f6, f7⟩
  · exact so_t0 h hN hk hn h7 f1 f4 ⟨f2, f3⟩
  · rcases f7 with ⟨f7, f8⟩ | ⟨f7, f8, f9, f10, f11⟩ | ⟨f7, f8, f9⟩
    · exact so_t1 h hk hn h7 f1 f7 ⟨f2, f3⟩ f4 f5 f6 f8
    · cases hz : σ.f 2 == ((σ.Ts k).fs 0).r 0 with
      | true => exact so_t2y h hN s2 hk hn h7 f1 f7 ⟨f2, f3⟩ ⟨f9, f10⟩ f4 f5 f6 hz f11
      | false => exact so_t2n h hk hn h7 f1 f7 ⟨f2, f3⟩ ⟨f9, f10⟩ hz
    · exact so_t3 h hN s2 hk hn h7 f1 f7 ⟨f2, f3⟩ f4 f5 f6 f8 f9
end
end Go.Proofs.Ytaaciolfgplnoaa.Lb
