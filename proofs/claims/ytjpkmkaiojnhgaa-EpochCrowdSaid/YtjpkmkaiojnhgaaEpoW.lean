/- EpoW: several texts in one. -/
import Derived.Test.YtjpkmkaiojnhgaaEpoQ
import Derived.Test.YtjpkmkaiojnhgaaRwA
/- Layer 18: a step of any thread, as the epoch goes on. -/
namespace Go.Proofs.Ytjpkmkaiojnhgaa
open Go.RowKit WordM EdgeM
set_option linter.unusedVariables false
set_option linter.unusedSimpArgs false
/-- Where a frame stands. -/
def EFr (F : Th.Fm) (f : Nat → Int) (e : Int) (G : Nat → Int) (b : Bool) (t k : Nat) : Prop :=
  (F.fn = 10 ∧ b = false ∧ ((F.pc = 0 ∧ f (aI k) = 0) ∨ (F.pc = 1 ∧ f (aI k) = 0 ∧ 3 ≤ F.r 0 ∧ F.r 0 ≤ e) ∨ (F.pc = 2 ∧ f (aI k) ≠ 0))) ∨
  (F.fn = 11 ∧ b = true ∧ f (aI k) ≠ 0) ∨
  (F.fn = 12 ∧ b = decide (f (aI k) ≠ 0) ∧ ((F.pc = 0 ∧ F.r 1 = 0) ∨ (3 ≤ F.r 0 ∧ F.r 0 ≤ e ∧ ∃ j : Nat, F.r 1 = j ∧ ((F.pc = 1 ∧ j < t) ∨ (F.pc = 2 ∧ j = t)) ∧ (F.r 0 = e → ∀ i, i < j → f (aI i) ≠ 0 → G i = e))))
def EW (T : Th.Td) (f : Nat → Int) (e : Int) (G : Nat → Int) (b : Bool) (t k : Nat) : Prop :=
  (T.nf = 0 ∧ b = decide (f (aI k) ≠ 0)) ∨ (T.nf = 1 ∧ EFr (T.fs 0) f e G b t k)
/-- How many steps it takes at most. -/
def rkE (F : Th.Fm) (t : Nat) : Nat := if F.fn = 10 then (if F.pc = 0 then 3 else if F.pc = 1 then 2 else 1) else if F.fn = 11 then 1 else if F.pc = 0 then t + 2 else if F.pc = 1 then t + 1 - (F.r 1).toNat else 1
theorem rkE_le (F : Th.Fm) (t : Nat) (h : 1 ≤ t) : rkE F t ≤ t + 2 := by
  unfold rkE
  repeat' split
  all_goals omega
structure EC (P : Pc) (σ : Sg) (e : Int) (G : Nat → Int) (b : Nat → Bool) (n : Nat) : Prop where
  f1 : σ.f 1 = e
  ei : 3 ≤ e ∧ e ≤ 3 + n
  ab : ∀ k, k < P.t → σ.f (aI k) = 0 ∨ ∃ h : Int, σ.f (aI k) = 2 * h + 1 ∧ 3 ≤ h ∧ h ≤ G k ∧ G k ≤ e ∧ e ≤ G k + 1
  th : ∀ k, k < P.t → EW (σ.Ts k) σ.f e G (b k) P.t k
  pin : ∀ k, k < P.t → (σ.Ts k).ss 1 = .bool false
  gn : ∀ k, k < P.t → 0 ≤ G k ∧ G k ≤ 3 + n
  ac : 0 ≤ σ.acc ∧ σ.acc ≤ n ∧ 0 ≤ σ.steps ∧ σ.steps ≤ n
  ok : σ.flt = false ∧ σ.sl = 0 ∧ σ.odd = false
theorem EC.le {P : Pc} {σ : Sg} {e : Int} {G : Nat → Int} {b : Nat → Bool} {n m : Nat} (h : EC P σ e G b n) (hm : n ≤ m) : EC P σ e G b m :=
  ⟨h.f1, by have := h.ei; omega, h.ab, h.th, h.pin, fun k hk => by have := h.gn k hk; omega, by have := h.ac; omega, h.ok⟩
/-- A step more of a thread: what it stands in, and the words. -/
def nxS (σ : Sg) (k : Nat) (T : Th.Td) (f : Nat → Int) (a : Int) : Sg := { σ.stp.thr k T with acc := σ.acc + a, f := f }
theorem nxS_at (σ : Sg) (k : Nat) (T : Th.Td) (f : Nat → Int) (a : Int) : (nxS σ k T f a).Ts k = T := Sg.thr_at _ _ _
theorem nxS_oth (σ : Sg) (k : Nat) (T : Th.Td) (f : Nat → Int) (a : Int) {i : Nat} (h : i ≠ k) : (nxS σ k T f a).Ts i = σ.Ts i := by unfold nxS Sg.thr; simp only [if_neg h]; rfl
theorem EW.oth {T : Th.Td} {f f' : Nat → Int} {e e' : Int} {G G' : Nat → Int} {b : Bool} {t j : Nat} (h : EW T f e G b t j) (ha : f' (aI j) = f (aI j)) (he : e ≤ e') (hg : e' = e → ∀ i, i < t → f' (aI i) ≠ 0 → (f (aI i) ≠ 0 ∧ G' i = G i) ∨ G' i = e) : EW T f' e' G' b t j := by
  unfold EW EFr at h ⊢
  rw [ha]
  rcases h with h | ⟨h0, ⟨h1, h2, h3⟩ | h1 | ⟨h1, h2, h3⟩⟩
  · exact .inl h
  · refine .inr ⟨h0, .inl ⟨h1, h2, ?_⟩⟩
    rcases h3 with h3 | ⟨h3, h4, h5, h6⟩ | h3
    · exact .inl h3
    · exact .inr (.inl ⟨h3, h4, h5, by omega⟩)
    · exact .inr (.inr h3)
  · exact .inr ⟨h0, .inr (.inl h1)⟩
  · refine .inr ⟨h0, .inr (.inr ⟨h1, h2, ?_⟩)⟩
    rcases h3 with h3 | ⟨h3, h4, j, h5, h6, h7⟩
    · exact .inl h3
    · refine .inr ⟨h3, by omega, j, h5, h6, fun h8 i hi hne => ?_⟩
      have e1 : e' = e := by omega
      rcases hg e1 i (by omega) hne with ⟨g1, g2⟩ | g1
      · rw [g2, e1]; exact h7 (by omega) i hi g1
      · rw [g1, e1]
theorem EC.nx {P : Pc} {σ : Sg} {e e' : Int} {G G' : Nat → Int} {b b' : Nat → Bool} {n k : Nat} (h : EC P σ e G b n) (hk : k < P.t) {T : Th.Td} {f : Nat → Int} {a : Int} (hf1 : f 1 = e') (he : e ≤ e' ∧ e' ≤ e + 1)
    (hfo : ∀ j, j ≠ k → f (aI j) = σ.f (aI j)) (hgo : ∀ j, j ≠ k → G' j = G j) (hbo : ∀ j, j ≠ k → b' j = b j)
    (hk1 : f (aI k) = 0 ∨ ∃ h : Int, f (aI k) = 2 * h + 1 ∧ 3 ≤ h ∧ h ≤ G' k ∧ G' k ≤ e' ∧ e' ≤ G' k + 1)
    (hab : e' = e ∨ ∀ j, j < P.t → j ≠ k → σ.f (aI j) ≠ 0 → e' ≤ G j + 1)
    (hadv : e' = e → f (aI k) ≠ 0 → (σ.f (aI k) ≠ 0 ∧ G' k = G k) ∨ G' k = e)
    (hw : EW T f e' G' (b' k) P.t k) (hpin : T.ss 1 = .bool false) (hgk : 0 ≤ G' k ∧ G' k ≤ 3 + n + 1) (ha : 0 ≤ a ∧ a ≤ 1) : EC P (nxS σ k T f a) e' G' b' (n + 1) := by
  have hac := h.ac; have hei := h.ei
  refine ⟨hf1, by omega, fun j hj => ?_, fun j hj => ?_, fun j hj => ?_, fun j hj => ?_, ⟨?_, ?_, ?_, ?_⟩, h.ok⟩
  · show f (aI j) = 0 ∨ ∃ h : Int, f (aI j) = _ ∧ _
    by_cases e1 : j = k
    · subst e1; exact hk1
    · rw [hfo j e1, hgo j e1]
      rcases h.ab j hj with h1 | ⟨x, h1, h2, h3, h4, h5⟩
      · exact .inl h1
      · refine .inr ⟨x, h1, h2, h3, by omega, ?_⟩
        rcases hab with h6 | h6
        · omega
        · exact h6 j hj e1 (by omega)
  · show EW _ f e' G' (b' j) P.t j
    by_cases e1 : j = k
    · subst e1; rw [nxS_at]; exact hw
    · rw [nxS_oth _ _ _ _ _ e1, hbo j e1]
      refine (h.th j hj).oth (hfo j e1) he.1 fun e2 i hi hne => ?_
      by_cases e3 : i = k
      · subst e3; exact hadv e2 hne
      · rw [hfo i e3] at hne; exact .inl ⟨hne, hgo i e3⟩
  · by_cases e1 : j = k
    · subst e1; rw [nxS_at]; exact hpin
    · rw [nxS_oth _ _ _ _ _ e1]; exact h.pin j hj
  · by_cases e1 : j = k
    · subst e1; omega
    · rw [hgo j e1]; have := h.gn j hj; omega
  · show 0 ≤ σ.acc + a; omega
  · show σ.acc + a ≤ _; omega
  · show 0 ≤ σ.steps + 1; omega
  · show σ.steps + 1 ≤ _; omega
/-- A routine begins. -/
theorem EC.call {P : Pc} {σ : Sg} {e : Int} {G : Nat → Int} {b : Nat → Bool} {n k : Nat} (h : EC P σ e G b n) (hk : k < P.t) (hn : (σ.Ts k).nf = 0) (fn : Int) (hf : fn = 12 ∨ (fn = 10 ∧ b k = false) ∨ (fn = 11 ∧ b k = true)) :
    EC P (σ.thr k (Th.callT (σ.Ts k) fn 0 fun _ => 0)) e G b n ∧ ((σ.thr k (Th.callT (σ.Ts k) fn 0 fun _ => 0)).Ts k).nf = 1 ∧ (((σ.thr k (Th.callT (σ.Ts k) fn 0 fun _ => 0)).Ts k).fs 0).fn = fn := by
  have e1 : ((σ.thr k (Th.callT (σ.Ts k) fn 0 fun _ => 0)).Ts k).nf = 1 := by rw [Sg.thr_at]; unfold Th.callT; simp only []; omega
  have e2 : ((σ.thr k (Th.callT (σ.Ts k) fn 0 fun _ => 0)).Ts k).fs 0 = ⟨fn, 0, fun _ => 0⟩ := by rw [Sg.thr_at]; unfold Th.callT Th.upM; simp [hn]
  refine ⟨⟨h.f1, h.ei, h.ab, fun j hj => ?_, fun j hj => ?_, h.gn, h.ac, h.ok⟩, e1, by rw [e2]⟩
  · by_cases e3 : j = k
    · subst e3
      refine .inr ⟨e1, ?_⟩
      rw [e2]
      have h0 := h.th j hj
      unfold EW at h0
      rcases h0 with ⟨_, h0⟩ | ⟨h0, _⟩
      · rcases hf with rfl | ⟨rfl, h1⟩ | ⟨rfl, h1⟩
        · exact .inr (.inr ⟨rfl, h0, .inl ⟨rfl, rfl⟩⟩)
        · refine .inl ⟨rfl, h1, .inl ⟨rfl, ?_⟩⟩
          rw [h1] at h0
          have := of_decide_eq_false h0.symm
          exact Classical.not_not.1 this
        · refine .inr (.inl ⟨rfl, h1, ?_⟩)
          rw [h1] at h0
          exact of_decide_eq_true h0.symm
      · omega
    · have := h.th j hj
      unfold Sg.thr; simp only [if_neg e3]; exact this
  · by_cases e3 : j = k
    · subst e3; rw [Sg.thr_at]; exact h.pin j hj
    · unfold Sg.thr; simp only [if_neg e3]; exact h.pin j hj
def updb (r : Nat → Bool) (a : Nat) (v : Bool) : Nat → Bool := fun i => if i = a then v else r i
/-- What a step comes to. -/
def EO (P : Pc) (σ σ' : Sg) (k : Nat) (e : Int) (G : Nat → Int) (b : Nat → Bool) (n : Nat) (fn : Int) : Prop :=
  ((σ'.Ts k).nf = 1 ∧ σ'.f = σ.f ∧ rkE ((σ'.Ts k).fs 0) P.t < rkE ((σ.Ts k).fs 0) P.t ∧ EC P σ' e G b (n + 1)) ∨
  ((σ'.Ts k).nf = 1 ∧ fn = 10 ∧ (∃ v, v ≠ 0 ∧ σ'.f = Mm.upd σ.f (aI k) v) ∧ σ.f (aI k) = 0 ∧ rkE ((σ'.Ts k).fs 0) P.t < rkE ((σ.Ts k).fs 0) P.t ∧ EC P σ' e (Mm.upd G k e) b (n + 1)) ∨
  ((σ'.Ts k).nf = 0 ∧ fn = 10 ∧ σ'.f = σ.f ∧ σ.f (aI k) ≠ 0 ∧ (σ'.Ts k).ss 3 = .int .u64 (e - 1) ∧ (e = G k ∨ e = G k + 1) ∧ EC P σ' e G (updb b k true) (n + 1)) ∨
  ((σ'.Ts k).nf = 0 ∧ fn = 11 ∧ σ'.f = Mm.upd σ.f (aI k) 0 ∧ σ.f (aI k) ≠ 0 ∧ EC P σ' e (Mm.upd G k e) (updb b k false) (n + 1)) ∨
  ((σ'.Ts k).nf = 0 ∧ fn = 12 ∧ σ'.f = σ.f ∧ EC P σ' e G b (n + 1)) ∨
  ((σ'.Ts k).nf = 0 ∧ fn = 12 ∧ σ'.f = Mm.upd σ.f 1 (e + 1) ∧ EC P σ' (e + 1) G b (n + 1))
section
variable {P : Pc} {σ : Sg} {e : Int} {G : Nat → Int} {b : Nat → Bool} {n k : Nat}
theorem EC.ge (h : EC P σ e G b n) (hk : k < P.t) (hne : σ.f (aI k) ≠ 0) : e = G k ∨ e = G k + 1 := by
  rcases h.ab k hk with h1 | ⟨x, h1, h2, h3, h4, h5⟩
  · exact absurd h1 hne
  · omega
theorem upd_at (f : Nat → Int) (a : Nat) (v : Int) : Mm.upd f a v a = v := by unfold Mm.upd; rw [if_pos rfl]
theorem upd_ne (f : Nat → Int) {a i : Nat} (v : Int) (h : i ≠ a) : Mm.upd f a v i = f i := by unfold Mm.upd; rw [if_neg h]
theorem updr_at (f : Nat → Int) (a : Nat) (v : Int) : updr f a v a = v := by unfold updr; rw [if_pos rfl]
theorem updr_ne (f : Nat → Int) {a i : Nat} (v : Int) (h : i ≠ a) : updr f a v i = f i := by unfold updr; rw [if_neg h]
theorem updb_at (f : Nat → Bool) (a : Nat) (v : Bool) : updb f a v a = v := by unfold updb; rw [if_pos rfl]
theorem updb_ne (f : Nat → Bool) {a i : Nat} (v : Bool) (h : i ≠ a) : updb f a v i = f i := by unfold updb; rw [if_neg h]
theorem eo_enter0 (h : EC P σ e G b n) (hk : k < P.t) (hn : (σ.Ts k).nf = 1) (hfn : ((σ.Ts k).fs 0).fn = 10) (hb : b k = false) (hpc : ((σ.Ts k).fs 0).pc = 0) (ha : σ.f (aI k) = 0) : EO P σ (enter0S P k 0 σ.stp) k e G b n 10 := by
  have hei := h.ei
  have hgn := h.gn k hk
  have key : EC P (nxS σ k (setF (σ.Ts k) 0 ⟨((σ.Ts k).fs 0).fn, 1, updr ((σ.Ts k).fs 0).r 0 (σ.f 1)⟩) (σ.f) 1) (e) (G) (b) (n + 1) := by
    refine h.nx hk ?_ ?_ ?_ ?_ ?_ ?_ ?_ ?_ ?_ ?_ ?_ ?_
    · exact h.f1
    · omega
    · exact fun _ _ => rfl
    · exact fun _ _ => rfl
    · exact fun _ _ => rfl
    · exact h.ab k hk
    · exact .inl rfl
    · exact fun _ hne => .inl ⟨hne, rfl⟩
    · refine .inr ⟨hn, ?_⟩
      rw [setF_fs]
      refine .inl ⟨hfn, hb, .inr (.inl ⟨rfl, ha, ?_, ?_⟩)⟩
      · show 3 ≤ updr ((σ.Ts k).fs 0).r 0 (σ.f 1) 0; rw [updr_at, h.f1]; omega
      · show updr ((σ.Ts k).fs 0).r 0 (σ.f 1) 0 ≤ e; rw [updr_at, h.f1]; omega
    · exact h.pin k hk
    · omega
    · omega
  have e1 : ((nxS σ k (setF (σ.Ts k) 0 ⟨((σ.Ts k).fs 0).fn, 1, updr ((σ.Ts k).fs 0).r 0 (σ.f 1)⟩) (σ.f) 1).Ts k) = setF (σ.Ts k) 0 ⟨((σ.Ts k).fs 0).fn, 1, updr ((σ.Ts k).fs 0).r 0 (σ.f 1)⟩ := nxS_at _ _ _ _ _
  refine .inl ⟨?_, rfl, ?_, key⟩
  · show ((nxS σ k (setF (σ.Ts k) 0 ⟨((σ.Ts k).fs 0).fn, 1, updr ((σ.Ts k).fs 0).r 0 (σ.f 1)⟩) (σ.f) 1).Ts k).nf = 1; rw [e1]; exact hn
  · show rkE (((nxS σ k (setF (σ.Ts k) 0 ⟨((σ.Ts k).fs 0).fn, 1, updr ((σ.Ts k).fs 0).r 0 (σ.f 1)⟩) (σ.f) 1).Ts k).fs 0) P.t < _
    rw [e1, setF_fs]; simp [rkE, hfn, hpc]
theorem eo_enter1 (h : EC P σ e G b n) (hk : k < P.t) (hn : (σ.Ts k).nf = 1) (hfn : ((σ.Ts k).fs 0).fn = 10) (hb : b k = false) (hpc : ((σ.Ts k).fs 0).pc = 1) (ha : σ.f (aI k) = 0) (h0 : 3 ≤ ((σ.Ts k).fs 0).r 0) (h1 : ((σ.Ts k).fs 0).r 0 ≤ e) (hbig : e < 9223372036854775808) : EO P σ (enter1S P k 0 σ.stp) k e G b n 10 := by
  have hei := h.ei
  have hgn := h.gn k hk
  have hv : actI (((σ.Ts k).fs 0).r 0) = 2 * ((σ.Ts k).fs 0).r 0 + 1 := actI_eq (by omega) (by omega)
  have hne : actI (((σ.Ts k).fs 0).r 0) ≠ 0 := by omega
  have key : EC P (nxS σ k (setF (σ.Ts k) 0 ⟨((σ.Ts k).fs 0).fn, 2, ((σ.Ts k).fs 0).r⟩) (Mm.upd σ.f (aI k) (actI (((σ.Ts k).fs 0).r 0))) 1) (e) (Mm.upd G k e) (b) (n + 1) := by
    refine h.nx hk ?_ ?_ ?_ ?_ ?_ ?_ ?_ ?_ ?_ ?_ ?_ ?_
    · rw [upd_ne _ _ (Ne.symm (aI_1 k))]; exact h.f1
    · omega
    · exact fun j hj => upd_ne _ _ (fun e2 => hj (aI_inj e2))
    · exact fun j hj => upd_ne _ _ hj
    · exact fun _ _ => rfl
    · right; rw [upd_at, upd_at]; exact ⟨_, hv, h0, h1, Int.le_refl _, by omega⟩
    · exact .inl rfl
    · exact fun _ _ => .inr (upd_at _ _ _)
    · refine .inr ⟨hn, ?_⟩
      rw [setF_fs]
      exact .inl ⟨hfn, hb, .inr (.inr ⟨rfl, by rw [upd_at]; exact hne⟩)⟩
    · exact h.pin k hk
    · rw [upd_at]; omega
    · omega
  have e1 : ((nxS σ k (setF (σ.Ts k) 0 ⟨((σ.Ts k).fs 0).fn, 2, ((σ.Ts k).fs 0).r⟩) (Mm.upd σ.f (aI k) (actI (((σ.Ts k).fs 0).r 0))) 1).Ts k) = setF (σ.Ts k) 0 ⟨((σ.Ts k).fs 0).fn, 2, ((σ.Ts k).fs 0).r⟩ := nxS_at _ _ _ _ _
  refine .inr (.inl ⟨?_, rfl, ⟨_, hne, rfl⟩, ha, ?_, key⟩)
  · show ((nxS σ k (setF (σ.Ts k) 0 ⟨((σ.Ts k).fs 0).fn, 2, ((σ.Ts k).fs 0).r⟩) (Mm.upd σ.f (aI k) (actI (((σ.Ts k).fs 0).r 0))) 1).Ts k).nf = 1; rw [e1]; exact hn
  · show rkE (((nxS σ k (setF (σ.Ts k) 0 ⟨((σ.Ts k).fs 0).fn, 2, ((σ.Ts k).fs 0).r⟩) (Mm.upd σ.f (aI k) (actI (((σ.Ts k).fs 0).r 0))) 1).Ts k).fs 0) P.t < _
    rw [e1, setF_fs]; simp [rkE, hfn, hpc]
theorem eo_enter2 (h : EC P σ e G b n) (hk : k < P.t) (hn : (σ.Ts k).nf = 1) (hfn : ((σ.Ts k).fs 0).fn = 10) (hpc : ((σ.Ts k).fs 0).pc = 2) (ha : σ.f (aI k) ≠ 0) : EO P σ (enter2S P k 0 σ.stp) k e G b n 10 := by
  have hei := h.ei
  have hgn := h.gn k hk
  have key : EC P (nxS σ k (Th.backT (setS (σ.Ts k) 3 (.int .u64 (σ.f 1 - 1))) 0 (fun _ => 0)) (σ.f) 1) (e) (G) (updb b k true) (n + 1) := by
    refine h.nx hk ?_ ?_ ?_ ?_ ?_ ?_ ?_ ?_ ?_ ?_ ?_ ?_
    · exact h.f1
    · omega
    · exact fun _ _ => rfl
    · exact fun _ _ => rfl
    · exact fun j hj => updb_ne _ _ hj
    · exact h.ab k hk
    · exact .inl rfl
    · exact fun _ hne => .inl ⟨hne, rfl⟩
    · refine .inl ⟨?_, ?_⟩
      · show (σ.Ts k).nf - 1 = 0; omega
      · rw [updb_at]; exact (decide_eq_true ha).symm
    · show (if (1 : Nat) = 3 then Value.int .u64 (σ.f 1 - 1) else (σ.Ts k).ss 1) = _; rw [if_neg (by decide)]; exact h.pin k hk
    · omega
    · omega
  have e1 : ((nxS σ k (Th.backT (setS (σ.Ts k) 3 (.int .u64 (σ.f 1 - 1))) 0 (fun _ => 0)) (σ.f) 1).Ts k) = Th.backT (setS (σ.Ts k) 3 (.int .u64 (σ.f 1 - 1))) 0 (fun _ => 0) := nxS_at _ _ _ _ _
  refine .inr (.inr (.inl ⟨?_, rfl, rfl, ha, ?_, h.ge hk ha, key⟩))
  · show ((nxS σ k (Th.backT (setS (σ.Ts k) 3 (.int .u64 (σ.f 1 - 1))) 0 (fun _ => 0)) (σ.f) 1).Ts k).nf = 0; rw [e1]; show (σ.Ts k).nf - 1 = 0; omega
  · show ((nxS σ k (Th.backT (setS (σ.Ts k) 3 (.int .u64 (σ.f 1 - 1))) 0 (fun _ => 0)) (σ.f) 1).Ts k).ss 3 = _
    rw [e1]
    show (if (3 : Nat) = 3 then Value.int .u64 (σ.f 1 - 1) else (σ.Ts k).ss 3) = _
    rw [if_pos rfl, h.f1]
theorem eo_leave (h : EC P σ e G b n) (hk : k < P.t) (hn : (σ.Ts k).nf = 1) (hfn : ((σ.Ts k).fs 0).fn = 11) (ha : σ.f (aI k) ≠ 0) : EO P σ (leaveS k σ.stp) k e G b n 11 := by
  have hei := h.ei
  have hgn := h.gn k hk
  have key : EC P (nxS σ k (Th.backT (σ.Ts k) 0 (fun _ => 0)) (Mm.upd σ.f (aI k) 0) 1) (e) (Mm.upd G k e) (updb b k false) (n + 1) := by
    refine h.nx hk ?_ ?_ ?_ ?_ ?_ ?_ ?_ ?_ ?_ ?_ ?_ ?_
    · rw [upd_ne _ _ (Ne.symm (aI_1 k))]; exact h.f1
    · omega
    · exact fun j hj => upd_ne _ _ (fun e2 => hj (aI_inj e2))
    · exact fun j hj => upd_ne _ _ hj
    · exact fun j hj => updb_ne _ _ hj
    · left; rw [upd_at]
    · exact .inl rfl
    · exact fun _ _ => .inr (upd_at _ _ _)
    · refine .inl ⟨?_, ?_⟩
      · show (σ.Ts k).nf - 1 = 0; omega
      · rw [updb_at, upd_at]; simp
    · exact h.pin k hk
    · rw [upd_at]; omega
    · omega
  have e1 : ((nxS σ k (Th.backT (σ.Ts k) 0 (fun _ => 0)) (Mm.upd σ.f (aI k) 0) 1).Ts k) = Th.backT (σ.Ts k) 0 (fun _ => 0) := nxS_at _ _ _ _ _
  refine .inr (.inr (.inr (.inl ⟨?_, rfl, rfl, ha, key⟩)))
  · show ((nxS σ k (Th.backT (σ.Ts k) 0 (fun _ => 0)) (Mm.upd σ.f (aI k) 0) 1).Ts k).nf = 0; rw [e1]; show (σ.Ts k).nf - 1 = 0; omega
theorem eo_adv0 (h : EC P σ e G b n) (hk : k < P.t) (hn : (σ.Ts k).nf = 1) (hfn : ((σ.Ts k).fs 0).fn = 12) (hb : b k = decide (σ.f (aI k) ≠ 0)) (hpc : ((σ.Ts k).fs 0).pc = 0) (hr1 : ((σ.Ts k).fs 0).r 1 = 0) : EO P σ (enter0S P k 0 σ.stp) k e G b n 12 := by
  have hei := h.ei
  have hgn := h.gn k hk
  have key : EC P (nxS σ k (setF (σ.Ts k) 0 ⟨((σ.Ts k).fs 0).fn, 1, updr ((σ.Ts k).fs 0).r 0 (σ.f 1)⟩) (σ.f) 1) (e) (G) (b) (n + 1) := by
    refine h.nx hk ?_ ?_ ?_ ?_ ?_ ?_ ?_ ?_ ?_ ?_ ?_ ?_
    · exact h.f1
    · omega
    · exact fun _ _ => rfl
    · exact fun _ _ => rfl
    · exact fun _ _ => rfl
    · exact h.ab k hk
    · exact .inl rfl
    · exact fun _ hne => .inl ⟨hne, rfl⟩
    · refine .inr ⟨hn, ?_⟩
      rw [setF_fs]
      refine .inr (.inr ⟨hfn, hb, .inr ⟨?_, ?_, 0, ?_, .inl ⟨rfl, by omega⟩, fun _ i hi => absurd hi (Nat.not_lt_zero i)⟩⟩)
      · show 3 ≤ updr ((σ.Ts k).fs 0).r 0 (σ.f 1) 0; rw [updr_at, h.f1]; omega
      · show updr ((σ.Ts k).fs 0).r 0 (σ.f 1) 0 ≤ e; rw [updr_at, h.f1]; omega
      · show updr ((σ.Ts k).fs 0).r 0 (σ.f 1) 1 = _; rw [updr_ne _ _ (by decide)]; exact hr1
    · exact h.pin k hk
    · omega
    · omega
  have e1 : ((nxS σ k (setF (σ.Ts k) 0 ⟨((σ.Ts k).fs 0).fn, 1, updr ((σ.Ts k).fs 0).r 0 (σ.f 1)⟩) (σ.f) 1).Ts k) = setF (σ.Ts k) 0 ⟨((σ.Ts k).fs 0).fn, 1, updr ((σ.Ts k).fs 0).r 0 (σ.f 1)⟩ := nxS_at _ _ _ _ _
  refine .inl ⟨?_, rfl, ?_, key⟩
  · show ((nxS σ k (setF (σ.Ts k) 0 ⟨((σ.Ts k).fs 0).fn, 1, updr ((σ.Ts k).fs 0).r 0 (σ.f 1)⟩) (σ.f) 1).Ts k).nf = 1; rw [e1]; exact hn
  · show rkE (((nxS σ k (setF (σ.Ts k) 0 ⟨((σ.Ts k).fs 0).fn, 1, updr ((σ.Ts k).fs 0).r 0 (σ.f 1)⟩) (σ.f) 1).Ts k).fs 0) P.t < _
    rw [e1, setF_fs]; simp [rkE, hfn, hpc, updr, hr1]
theorem eo_adv1n (h : EC P σ e G b n) (hk : k < P.t) (hn : (σ.Ts k).nf = 1) (hfn : ((σ.Ts k).fs 0).fn = 12) (hb : b k = decide (σ.f (aI k) ≠ 0)) (hpc : ((σ.Ts k).fs 0).pc = 1) (h0 : 3 ≤ ((σ.Ts k).fs 0).r 0) (h1 : ((σ.Ts k).fs 0).r 0 ≤ e) {j : Nat} (hj : ((σ.Ts k).fs 0).r 1 = j) (hjt : j < P.t) (hx : ((σ.Ts k).fs 0).r 0 = e → ∀ i, i < j → σ.f (aI i) ≠ 0 → G i = e) (hl : lagsB (σ.f (aI j)) (((σ.Ts k).fs 0).r 0) = false) (hz : j + 1 < P.t) : EO P σ (adv1nS k 0 σ.stp) k e G b n 12 := by
  have hei := h.ei
  have hgn := h.gn k hk
  have key : EC P (nxS σ k (setF (σ.Ts k) 0 ⟨((σ.Ts k).fs 0).fn, ((σ.Ts k).fs 0).pc, updr ((σ.Ts k).fs 0).r 1 (((σ.Ts k).fs 0).r 1 + 1)⟩) (σ.f) 1) (e) (G) (b) (n + 1) := by
    refine h.nx hk ?_ ?_ ?_ ?_ ?_ ?_ ?_ ?_ ?_ ?_ ?_ ?_
    · exact h.f1
    · omega
    · exact fun _ _ => rfl
    · exact fun _ _ => rfl
    · exact fun _ _ => rfl
    · exact h.ab k hk
    · exact .inl rfl
    · exact fun _ hne => .inl ⟨hne, rfl⟩
    · refine .inr ⟨hn, ?_⟩
      rw [setF_fs]
      refine .inr (.inr ⟨hfn, hb, .inr ⟨?_, ?_, j + 1, ?_, .inl ⟨hpc, hz⟩, ?_⟩⟩)
      · show 3 ≤ updr ((σ.Ts k).fs 0).r 1 (((σ.Ts k).fs 0).r 1 + 1) 0; rw [updr_ne _ _ (by decide)]; exact h0
      · show updr ((σ.Ts k).fs 0).r 1 (((σ.Ts k).fs 0).r 1 + 1) 0 ≤ e; rw [updr_ne _ _ (by decide)]; exact h1
      · show updr ((σ.Ts k).fs 0).r 1 (((σ.Ts k).fs 0).r 1 + 1) 1 = _; rw [updr_at]; omega
      · intro h2 i hi hne
        have h2 : updr ((σ.Ts k).fs 0).r 1 (((σ.Ts k).fs 0).r 1 + 1) 0 = e := h2
        rw [updr_ne _ _ (by decide)] at h2
        rcases (by omega : i < j ∨ i = j) with h3 | rfl
        · exact hx h2 i h3 hne
        · rcases h.ab i hjt with h4 | ⟨x, h4, h5, h6, h7, h8⟩
          · exact absurd h4 hne
          · have h9 : x = ((σ.Ts k).fs 0).r 0 := by
              rw [h4] at hl
              unfold lagsB oddB at hl
              have o1 : (2 * x + 1) % 2 = 1 := by omega
              have o2 : (2 * x + 1) / 2 = x := by omega
              rw [o1, o2] at hl
              simp at hl
              exact hl
            omega
    · exact h.pin k hk
    · omega
    · omega
  have e1 : ((nxS σ k (setF (σ.Ts k) 0 ⟨((σ.Ts k).fs 0).fn, ((σ.Ts k).fs 0).pc, updr ((σ.Ts k).fs 0).r 1 (((σ.Ts k).fs 0).r 1 + 1)⟩) (σ.f) 1).Ts k) = setF (σ.Ts k) 0 ⟨((σ.Ts k).fs 0).fn, ((σ.Ts k).fs 0).pc, updr ((σ.Ts k).fs 0).r 1 (((σ.Ts k).fs 0).r 1 + 1)⟩ := nxS_at _ _ _ _ _
  refine .inl ⟨?_, rfl, ?_, key⟩
  · show ((nxS σ k (setF (σ.Ts k) 0 ⟨((σ.Ts k).fs 0).fn, ((σ.Ts k).fs 0).pc, updr ((σ.Ts k).fs 0).r 1 (((σ.Ts k).fs 0).r 1 + 1)⟩) (σ.f) 1).Ts k).nf = 1; rw [e1]; exact hn
  · show rkE (((nxS σ k (setF (σ.Ts k) 0 ⟨((σ.Ts k).fs 0).fn, ((σ.Ts k).fs 0).pc, updr ((σ.Ts k).fs 0).r 1 (((σ.Ts k).fs 0).r 1 + 1)⟩) (σ.f) 1).Ts k).fs 0) P.t < _
    rw [e1, setF_fs]; simp [rkE, hfn, hpc, updr, hj]; omega
theorem eo_adv1e (h : EC P σ e G b n) (hk : k < P.t) (hn : (σ.Ts k).nf = 1) (hfn : ((σ.Ts k).fs 0).fn = 12) (hb : b k = decide (σ.f (aI k) ≠ 0)) (hpc : ((σ.Ts k).fs 0).pc = 1) (h0 : 3 ≤ ((σ.Ts k).fs 0).r 0) (h1 : ((σ.Ts k).fs 0).r 0 ≤ e) {j : Nat} (hj : ((σ.Ts k).fs 0).r 1 = j) (hjt : j < P.t) (hx : ((σ.Ts k).fs 0).r 0 = e → ∀ i, i < j → σ.f (aI i) ≠ 0 → G i = e) (hl : lagsB (σ.f (aI j)) (((σ.Ts k).fs 0).r 0) = false) (hz : j + 1 = P.t) : EO P σ (adv1eS k 0 σ.stp) k e G b n 12 := by
  have hei := h.ei
  have hgn := h.gn k hk
  have key : EC P (nxS σ k (setF (σ.Ts k) 0 ⟨((σ.Ts k).fs 0).fn, 2, updr ((σ.Ts k).fs 0).r 1 (((σ.Ts k).fs 0).r 1 + 1)⟩) (σ.f) 1) (e) (G) (b) (n + 1) := by
    refine h.nx hk ?_ ?_ ?_ ?_ ?_ ?_ ?_ ?_ ?_ ?_ ?_ ?_
    · exact h.f1
    · omega
    · exact fun _ _ => rfl
    · exact fun _ _ => rfl
    · exact fun _ _ => rfl
    · exact h.ab k hk
    · exact .inl rfl
    · exact fun _ hne => .inl ⟨hne, rfl⟩
    · refine .inr ⟨hn, ?_⟩
      rw [setF_fs]
      refine .inr (.inr ⟨hfn, hb, .inr ⟨?_, ?_, j + 1, ?_, .inr ⟨rfl, hz⟩, ?_⟩⟩)
      · show 3 ≤ updr ((σ.Ts k).fs 0).r 1 (((σ.Ts k).fs 0).r 1 + 1) 0; rw [updr_ne _ _ (by decide)]; exact h0
      · show updr ((σ.Ts k).fs 0).r 1 (((σ.Ts k).fs 0).r 1 + 1) 0 ≤ e; rw [updr_ne _ _ (by decide)]; exact h1
      · show updr ((σ.Ts k).fs 0).r 1 (((σ.Ts k).fs 0).r 1 + 1) 1 = _; rw [updr_at]; omega
      · intro h2 i hi hne
        have h2 : updr ((σ.Ts k).fs 0).r 1 (((σ.Ts k).fs 0).r 1 + 1) 0 = e := h2
        rw [updr_ne _ _ (by decide)] at h2
        rcases (by omega : i < j ∨ i = j) with h3 | rfl
        · exact hx h2 i h3 hne
        · rcases h.ab i hjt with h4 | ⟨x, h4, h5, h6, h7, h8⟩
          · exact absurd h4 hne
          · have h9 : x = ((σ.Ts k).fs 0).r 0 := by
              rw [h4] at hl
              unfold lagsB oddB at hl
              have o1 : (2 * x + 1) % 2 = 1 := by omega
              have o2 : (2 * x + 1) / 2 = x := by omega
              rw [o1, o2] at hl
              simp at hl
              exact hl
            omega
    · exact h.pin k hk
    · omega
    · omega
  have e1 : ((nxS σ k (setF (σ.Ts k) 0 ⟨((σ.Ts k).fs 0).fn, 2, updr ((σ.Ts k).fs 0).r 1 (((σ.Ts k).fs 0).r 1 + 1)⟩) (σ.f) 1).Ts k) = setF (σ.Ts k) 0 ⟨((σ.Ts k).fs 0).fn, 2, updr ((σ.Ts k).fs 0).r 1 (((σ.Ts k).fs 0).r 1 + 1)⟩ := nxS_at _ _ _ _ _
  refine .inl ⟨?_, rfl, ?_, key⟩
  · show ((nxS σ k (setF (σ.Ts k) 0 ⟨((σ.Ts k).fs 0).fn, 2, updr ((σ.Ts k).fs 0).r 1 (((σ.Ts k).fs 0).r 1 + 1)⟩) (σ.f) 1).Ts k).nf = 1; rw [e1]; exact hn
  · show rkE (((nxS σ k (setF (σ.Ts k) 0 ⟨((σ.Ts k).fs 0).fn, 2, updr ((σ.Ts k).fs 0).r 1 (((σ.Ts k).fs 0).r 1 + 1)⟩) (σ.f) 1).Ts k).fs 0) P.t < _
    rw [e1, setF_fs]; simp [rkE, hfn, hpc, updr, hj]; omega
theorem eo_back (h : EC P σ e G b n) (hk : k < P.t) (hn : (σ.Ts k).nf = 1) (hfn : ((σ.Ts k).fs 0).fn = 12) (hb : b k = decide (σ.f (aI k) ≠ 0)) : EO P σ (backAS k 0 σ.stp) k e G b n 12 := by
  have hei := h.ei
  have hgn := h.gn k hk
  have key : EC P (nxS σ k (Th.backT (σ.Ts k) 1 (fun _ => 0)) (σ.f) 1) (e) (G) (b) (n + 1) := by
    refine h.nx hk ?_ ?_ ?_ ?_ ?_ ?_ ?_ ?_ ?_ ?_ ?_ ?_
    · exact h.f1
    · omega
    · exact fun _ _ => rfl
    · exact fun _ _ => rfl
    · exact fun _ _ => rfl
    · exact h.ab k hk
    · exact .inl rfl
    · exact fun _ hne => .inl ⟨hne, rfl⟩
    · refine .inl ⟨?_, hb⟩
      show (σ.Ts k).nf - 1 = 0; omega
    · exact h.pin k hk
    · omega
    · omega
  have e1 : ((nxS σ k (Th.backT (σ.Ts k) 1 (fun _ => 0)) (σ.f) 1).Ts k) = Th.backT (σ.Ts k) 1 (fun _ => 0) := nxS_at _ _ _ _ _
  refine .inr (.inr (.inr (.inr (.inl ⟨?_, rfl, rfl, key⟩))))
  · show ((nxS σ k (Th.backT (σ.Ts k) 1 (fun _ => 0)) (σ.f) 1).Ts k).nf = 0; rw [e1]; show (σ.Ts k).nf - 1 = 0; omega
theorem eo_adv2y (h : EC P σ e G b n) (hk : k < P.t) (hn : (σ.Ts k).nf = 1) (hfn : ((σ.Ts k).fs 0).fn = 12) (hb : b k = decide (σ.f (aI k) ≠ 0)) (hr : ((σ.Ts k).fs 0).r 0 = e) (hx : ∀ i, i < P.t → σ.f (aI i) ≠ 0 → G i = e) : EO P σ (adv2yS k 0 σ.stp) k e G b n 12 := by
  have hei := h.ei
  have hgn := h.gn k hk
  have key : EC P (nxS σ k (Th.backT (σ.Ts k) 1 (fun _ => 1)) (Mm.upd σ.f 1 (((σ.Ts k).fs 0).r 0 + 1)) 1) (e + 1) (G) (b) (n + 1) := by
    refine h.nx hk ?_ ?_ ?_ ?_ ?_ ?_ ?_ ?_ ?_ ?_ ?_ ?_
    · rw [upd_at, hr]
    · omega
    · exact fun j _ => upd_ne _ _ (aI_1 j)
    · exact fun _ _ => rfl
    · exact fun _ _ => rfl
    · rw [upd_ne _ _ (aI_1 k)]
      rcases h.ab k hk with h1 | ⟨x, h1, h2, h3, h4, h5⟩
      · exact .inl h1
      · have := hx k hk (by omega)
        exact .inr ⟨x, h1, h2, h3, by omega, by omega⟩
    · exact .inr fun j hj _ hne => by have := hx j hj hne; omega
    · intro h1; omega
    · refine .inl ⟨?_, ?_⟩
      · show (σ.Ts k).nf - 1 = 0; omega
      · rw [upd_ne _ _ (aI_1 k)]; exact hb
    · exact h.pin k hk
    · omega
    · omega
  have e1 : ((nxS σ k (Th.backT (σ.Ts k) 1 (fun _ => 1)) (Mm.upd σ.f 1 (((σ.Ts k).fs 0).r 0 + 1)) 1).Ts k) = Th.backT (σ.Ts k) 1 (fun _ => 1) := nxS_at _ _ _ _ _
  refine .inr (.inr (.inr (.inr (.inr ⟨?_, rfl, ?_, key⟩))))
  · show ((nxS σ k (Th.backT (σ.Ts k) 1 (fun _ => 1)) (Mm.upd σ.f 1 (((σ.Ts k).fs 0).r 0 + 1)) 1).Ts k).nf = 0; rw [e1]; show (σ.Ts k).nf - 1 = 0; omega
  · show Mm.upd σ.f 1 (((σ.Ts k).fs 0).r 0 + 1) = _; rw [hr]
theorem EO.nf {σ' : Sg} {fn : Int} (h : EO P σ σ' k e G b n fn) : (σ'.Ts k).nf ≤ 1 := by
  rcases h with ⟨h, _⟩ | ⟨h, _⟩ | ⟨h, _⟩ | ⟨h, _⟩ | ⟨h, _⟩ | ⟨h, _⟩ <;> omega
end
theorem estep1 {w : World} {P : Pc} {σ σ' : Sg} {e : Int} {G : Nat → Int} {b : Nat → Bool} {n k : Nat} {fn : Int} (h : MM w P σ) (hi : EC P σ e G b n) (hn : n ≤ 900000) (hk : k < P.t) (hnf : (σ.Ts k).nf = 1) {T : Th.Td} {f : Nat → Int} (hs : σ' = nxS σ k T f 1) (ho : EO P σ σ' k e G b n fn)
    (hdo : ∀ w', MM w' P σ.stp → Calls Try.prog 12 #[.pointer (some ⟨P.q, 0, none⟩), .int .i64 k] w' fun x w'' => x = .returned (.tuple #[]) ∧ MM w'' P σ' ∧ KA P.B P.N w' w'') :
    Calls Try.prog 19 #[.pointer (some ⟨P.q, 0, none⟩), .int .i64 k, .func (.func 12) #[] #[]] w fun x w' => ∃ σ', x = .returned (.bool (decide (0 < (σ'.Ts k).nf))) ∧ MM w' P σ' ∧ KA P.B P.N w w' ∧ EO P σ σ' k e G b n fn ∧ ∀ i, i ≠ k → σ'.Ts i = σ.Ts i := by
  have hac := hi.ac
  have hnf' := ho.nf
  have hacc : σ'.acc = σ.acc + 1 := by rw [hs]; rfl
  refine (mstep (caps := #[]) (σ' := σ') h hk (by omega) cfE (fun w' hm' _ => hdo w' hm') (by omega) (by omega) (by omega) (by omega) (by omega)).mono ?_
  rintro _ w' ⟨rfl, hm', hk'⟩
  rw [Sg.odds_le (by omega)] at hm'
  exact ⟨_, rfl, hm', hk', ho, fun i hi => by rw [hs]; exact nxS_oth _ _ _ _ _ hi⟩
theorem estep {w : World} {P : Pc} {σ : Sg} {e : Int} {G : Nat → Int} {b : Nat → Bool} {n k : Nat} (h : MM w P σ) (hi : EC P σ e G b n) (hn : n ≤ 900000) (hk : k < P.t) (hnf : (σ.Ts k).nf = 1) :
    Calls Try.prog 19 #[.pointer (some ⟨P.q, 0, none⟩), .int .i64 k, .func (.func 12) #[] #[]] w fun x w' => ∃ σ', x = .returned (.bool (decide (0 < (σ'.Ts k).nf))) ∧ MM w' P σ' ∧ KA P.B P.N w w' ∧ EO P σ σ' k e G b n ((σ.Ts k).fs 0).fn ∧ ∀ i, i ≠ k → σ'.Ts i = σ.Ts i := by
  have hac := hi.ac; have hei := hi.ei
  have hp := hi.pin k hk
  have a0 : 0 ≤ σ.stp.acc := hac.1
  have a1 : σ.stp.acc < 1000000 := by show σ.acc < _; omega
  have hth := hi.th k hk
  unfold EW at hth
  rcases hth with ⟨h0, _⟩ | ⟨_, hf⟩
  · omega
  rcases hf with ⟨h1, h2, h3⟩ | ⟨h1, h2, h3⟩ | ⟨h1, h2, h3⟩
  · rw [h1]
    rcases h3 with ⟨h3, h4⟩ | ⟨h3, h4, h5, h6⟩ | ⟨h3, h4⟩
    · exact estep1 h hi hn hk hnf (σ' := enter0S P k 0 σ.stp) (T := setF (σ.Ts k) 0 _) (f := _) rfl (eo_enter0 hi hk hnf h1 h2 h3 h4) fun w' hm' => edoE (m := 0) hm' hk hnf (by omega) h1 fun w2 ps fvs hpp => enter0 hpp hk hnf (by omega) a0 a1 hp h3
    · exact estep1 h hi hn hk hnf (σ' := enter1S P k 0 σ.stp) (T := setF (σ.Ts k) 0 _) (f := _) rfl (eo_enter1 hi hk hnf h1 h2 h3 h4 h5 h6 (by omega)) fun w' hm' => edoE (m := 0) hm' hk hnf (by omega) h1 fun w2 ps fvs hpp => enter1 hpp hk hnf (by omega) a0 a1 hp h3 ⟨by show 0 ≤ ((σ.Ts k).fs 0).r 0; omega, by show ((σ.Ts k).fs 0).r 0 < _; omega⟩
    · exact estep1 h hi hn hk hnf (σ' := enter2S P k 0 σ.stp) (T := Th.backT (setS (σ.Ts k) 3 _) _ _) (f := _) rfl (eo_enter2 hi hk hnf h1 h3 h4) fun w' hm' => edoE (m := 0) hm' hk hnf (by omega) h1 fun w2 ps fvs hpp => enter2 hpp hk hnf (by omega) a0 a1 hp h3 (by show 1 ≤ σ.f 1; rw [hi.f1]; omega)
  · rw [h1]
    exact estep1 h hi hn hk hnf (σ' := leaveS k σ.stp) (T := Th.backT (σ.Ts k) _ _) (f := _) rfl (eo_leave hi hk hnf h1 h3) fun w' hm' => edoL (m := 0) hm' hk hnf (by omega) h1 fun w2 ps fvs hpp => leaveN hpp hk hnf (by omega) a0 a1 hp
  · rw [h1]
    rcases h3 with ⟨h3, h4⟩ | ⟨h3, h4, j, h5, h6, h7⟩
    · exact estep1 h hi hn hk hnf (σ' := enter0S P k 0 σ.stp) (T := setF (σ.Ts k) 0 _) (f := _) rfl (eo_adv0 hi hk hnf h1 h2 h3 h4) fun w' hm' => edoA (m := 0) hm' hk hnf (by omega) h1 fun w2 ps fvs hpp => adv0 hpp hk hnf (by omega) a0 a1 h3
    · have hr0 : 0 ≤ (((σ.stp).Ts k).fs 0).r 0 ∧ ((σ.stp.Ts k).fs 0).r 0 < 18446744073709551616 := ⟨by show 0 ≤ ((σ.Ts k).fs 0).r 0; omega, by show ((σ.Ts k).fs 0).r 0 < _; omega⟩
      have hr2 : 0 ≤ (((σ.stp).Ts k).fs 0).r 0 ∧ ((σ.stp.Ts k).fs 0).r 0 < 18446744073709551615 := ⟨by show 0 ≤ ((σ.Ts k).fs 0).r 0; omega, by show ((σ.Ts k).fs 0).r 0 < _; omega⟩
      rcases h6 with ⟨h8, h9⟩ | ⟨h8, h9⟩
      · cases hl : lagsB (σ.f (aI j)) (((σ.Ts k).fs 0).r 0) with
        | true => exact estep1 h hi hn hk hnf (σ' := backAS k 0 σ.stp) (T := Th.backT (σ.Ts k) _ _) (f := _) rfl (eo_back hi hk hnf h1 h2) fun w' hm' => edoA (m := 0) hm' hk hnf (by omega) h1 fun w2 ps fvs hpp => adv1l hpp hk hnf (by omega) a0 a1 h8 hr0 ⟨h5, h9⟩ hl
        | false =>
          by_cases he : j + 1 = P.t
          · exact estep1 h hi hn hk hnf (σ' := adv1eS k 0 σ.stp) (T := setF (σ.Ts k) 0 _) (f := _) rfl (eo_adv1e hi hk hnf h1 h2 h8 h3 h4 h5 h9 h7 hl he) fun w' hm' => edoA (m := 0) hm' hk hnf (by omega) h1 fun w2 ps fvs hpp => adv1e hpp hk hnf (by omega) a0 a1 h8 hr0 ⟨h5, h9⟩ hl he
          · exact estep1 h hi hn hk hnf (σ' := adv1nS k 0 σ.stp) (T := setF (σ.Ts k) 0 _) (f := _) rfl (eo_adv1n hi hk hnf h1 h2 h8 h3 h4 h5 h9 h7 hl (by omega)) fun w' hm' => edoA (m := 0) hm' hk hnf (by omega) h1 fun w2 ps fvs hpp => adv1n hpp hk hnf (by omega) a0 a1 h8 hr0 ⟨h5, h9⟩ hl (by omega)
      · by_cases he : ((σ.Ts k).fs 0).r 0 = e
        · exact estep1 h hi hn hk hnf (σ' := adv2yS k 0 σ.stp) (T := Th.backT (σ.Ts k) _ _) (f := _) rfl (eo_adv2y hi hk hnf h1 h2 he (by rw [← h9]; exact h7 he)) fun w' hm' => edoA (m := 0) hm' hk hnf (by omega) h1 fun w2 ps fvs hpp => adv2y hpp hk hnf (by omega) a0 a1 h8 hr2 (by show (σ.f 1 == ((σ.Ts k).fs 0).r 0) = true; rw [hi.f1, he]; exact beq_self_eq_true _)
        · exact estep1 h hi hn hk hnf (σ' := backAS k 0 σ.stp) (T := Th.backT (σ.Ts k) _ _) (f := _) rfl (eo_back hi hk hnf h1 h2) fun w' hm' => edoA (m := 0) hm' hk hnf (by omega) h1 fun w2 ps fvs hpp => adv2n hpp hk hnf (by omega) a0 a1 h8 hr2 (by show (σ.f 1 == ((σ.Ts k).fs 0).r 0) = false; rw [hi.f1]; simp; omega)
end Go.Proofs.Ytjpkmkaiojnhgaa

/- Layer 18: what the law of EpochCrowd has in hand. -/
namespace Go.Proofs.Ytjpkmkaiojnhgaa
open Go.RowKit WordM EdgeM
set_option linter.unusedVariables false
set_option linter.unusedSimpArgs false
def abF (f G : Nat → Int) (j : Nat) : Value := if j % 2 = 0 then .bool (f (aI (j / 2)) != 0) else .int .u64 (G (j / 2))
structure LC (w0 : World) (P : Pc) (ab ib bw : Nat) (w : World) (f G : Nat → Int) (b : Nat → Bool) (e : Int) (fw : Nat → Int) : Prop where
  ea : Th.Blk 66 w ab (P.t * 2) (abF f G)
  ei : Th.Blk 4 w ib P.t (fun j => .bool (b j))
  sv : ∃ sv, w.heap[bw]? = some (.cells #[.int .u64 e, sv] 33 (0, 0)) ∧ Th.OwnL 27 w P.N sv P.t (nowL P.t fw)
  N : P.N ≤ ab ∧ P.N ≤ ib ∧ P.N ≤ bw
  bl : Below w0.heap.size w0 w
  B0 : w0.heap.size ≤ P.B
  NS : P.N ≤ w.heap.size ∧ P.B ≤ P.N
section
variable {w0 w w' : World} {P : Pc} {ab ib bw : Nat} {f G : Nat → Int} {b : Nat → Bool} {e : Int} {fw : Nat → Int}
theorem LC.below (h : LC w0 P ab ib bw w f G b e fw) (k : Below w.heap.size w w') : LC w0 P ab ib bw w' f G b e fw := by
  obtain ⟨sv, h1, h2⟩ := h.sv
  exact ⟨h.ea.below k, h.ei.below k, ⟨sv, Th.up k h1, Th.OwnL.below h2 k⟩, h.N, below_on h.bl k, h.B0, Nat.le_trans h.NS.1 k.size, h.NS.2⟩
theorem LC.ka (h : LC w0 P ab ib bw w f G b e fw) (k : KA P.B P.N w w') : LC w0 P ab ib bw w' f G b e fw := by
  obtain ⟨sv, h1, h2⟩ := h.sv
  refine ⟨h.ea.of (k.keep h.ea (.inr h.N.1) (by decide) (by decide)), h.ei.of (k.keep h.ei (.inr h.N.2.1) (by decide) (by decide)), ⟨sv, (k.keep h1 (.inr h.N.2.2) (by decide) (by decide)).trans h1, h2.of fun c hc => ?_⟩, h.N, ⟨k.os.trans h.bl.os, k.tape.trans h.bl.tape, k.output.trans h.bl.output, Nat.le_trans h.bl.size k.size, fun j hj => (k.block j (Nat.lt_of_lt_of_le hj h.bl.size) (by have := h.B0; omega)).trans (h.bl.block j hj)⟩, h.B0, Nat.le_trans h.NS.1 k.size, h.NS.2⟩
  obtain ⟨g1, g2, cur, hc⟩ := h2.blk hc
  exact k.keep hc (.inr g1) (by decide) (by decide)
theorem LC.ga (h : LC w0 P ab ib bw w f G b e fw) {k : Nat} (hk : k < P.t) : w.cell? ⟨ab, k * 2, none⟩ = some (.bool (f (aI k) != 0)) ∧ w.cell? ⟨ab, k * 2 + 1, none⟩ = some (.int .u64 (G k)) := by
  refine ⟨?_, ?_⟩
  · rw [h.ea.get (i := k * 2) (by omega)]; unfold abF; rw [if_pos (by omega), show k * 2 / 2 = k by omega]
  · rw [h.ea.get (i := k * 2 + 1) (by omega)]; unfold abF; rw [if_neg (by omega), show (k * 2 + 1) / 2 = k by omega]
theorem LC.gi (h : LC w0 P ab ib bw w f G b e fw) {k : Nat} (hk : k < P.t) : w.cell? ⟨ib, k, none⟩ = some (.bool (b k)) := h.ei.get hk
theorem LC.wg (h : LC w0 P ab ib bw w f G b e fw) : w.cell? ⟨bw, 0, none⟩ = some (.int .u64 e) := by
  obtain ⟨sv, h1, _⟩ := h.sv
  exact Th.newcell h1 0 _ rfl
theorem LC.wz (h : LC w0 P ab ib bw w f G b e fw) (i : Nat) : w.frozen? ⟨bw, i, none⟩ = false := by
  obtain ⟨sv, h1, _⟩ := h.sv
  exact frozen_of_row _ _ _ _ _ h1
/-- A block outside the three was written. -/
theorem LC.low {B : Nat} {X i : Nat} {v : Value} (h : Below B w0 w) (hX : B ≤ X) : Below B w0 (w.setCell ⟨X, i, none⟩ v) := h.setCell (p := ⟨X, i, none⟩) hX v
/-- What is about is written. -/
theorem LC.seta (h : LC w0 P ab ib bw w f G b e fw) {k : Nat} (hk : k < P.t) (x : Bool) (g : Int) {f' G' : Nat → Int} (hx : x = (f' (aI k) != 0)) (hg : G' k = g) (hf : ∀ j, j ≠ k → f' (aI j) = f (aI j)) (hG : ∀ j, j ≠ k → G' j = G j) :
    LC w0 P ab ib bw ((w.setCell ⟨ab, k * 2, none⟩ (.bool x)).setCell ⟨ab, k * 2 + 1, none⟩ (.int .u64 g)) f' G' b e fw ∧ Th.KS (fun j => j = ab) w ((w.setCell ⟨ab, k * 2, none⟩ (.bool x)).setCell ⟨ab, k * 2 + 1, none⟩ (.int .u64 g)) := by
  obtain ⟨sv, h1, h2⟩ := h.sv
  have ks : Th.KS (fun j => j = ab) w ((w.setCell ⟨ab, k * 2, none⟩ (.bool x)).setCell ⟨ab, k * 2 + 1, none⟩ (.int .u64 g)) := (Th.KS.set w ab _ _).trans (Th.KS.set _ ab _ _)
  have hN := h.N; have hB := h.B0; have hS := h.NS
  refine ⟨⟨((h.ea.set (k * 2) (.bool x)).set (k * 2 + 1) (.int .u64 g)).congr fun j hj => ?_, h.ei.of (ks.block _ (Th.blk_lt h.ei) (Th.Blk.ne h.ei h.ea (by decide))), ⟨sv, (ks.block _ (Th.blk_lt h1) (ty_ne h1 h.ea (by decide))).trans h1, h2.of fun c hc => ?_⟩, h.N, LC.low (LC.low h.bl (by omega)) (by omega), h.B0, Nat.le_trans h.NS.1 ks.size, h.NS.2⟩, ks⟩
  · unfold Th.upF
    by_cases e1 : j = k * 2 + 1
    · subst e1; rw [if_pos rfl]; unfold abF; rw [if_neg (by omega), show (k * 2 + 1) / 2 = k by omega, hg]
    · rw [if_neg e1]
      by_cases e2 : j = k * 2
      · subst e2; rw [if_pos rfl]; unfold abF; rw [if_pos (by omega), show k * 2 / 2 = k by omega, hx]
      · rw [if_neg e2]
        have e3 : j / 2 ≠ k := by omega
        unfold abF; rw [hf _ e3, hG _ e3]
  · obtain ⟨_, g2, cur, hc'⟩ := h2.blk hc
    exact ks.block _ g2 (ty_ne hc' h.ea (by decide))
theorem LC.seti (h : LC w0 P ab ib bw w f G b e fw) {k : Nat} (hk : k < P.t) (x : Bool) :
    LC w0 P ab ib bw (w.setCell ⟨ib, k, none⟩ (.bool x)) f G (updb b k x) e fw ∧ Th.KS (fun j => j = ib) w (w.setCell ⟨ib, k, none⟩ (.bool x)) := by
  obtain ⟨sv, h1, h2⟩ := h.sv
  have ks := Th.KS.set w ib k (.bool x)
  have hN := h.N; have hB := h.B0; have hS := h.NS
  refine ⟨⟨h.ea.of (ks.block _ (Th.blk_lt h.ea) (Th.Blk.ne h.ea h.ei (by decide))), (h.ei.set k (.bool x)).congr fun j hj => ?_, ⟨sv, (ks.block _ (Th.blk_lt h1) (ty_ne h1 h.ei (by decide))).trans h1, h2.of fun c hc => ?_⟩, h.N, LC.low h.bl (by omega), h.B0, Nat.le_trans h.NS.1 ks.size, h.NS.2⟩, ks⟩
  · unfold Th.upF updb
    by_cases e1 : j = k
    · rw [if_pos e1, if_pos e1]
    · rw [if_neg e1, if_neg e1]
  · obtain ⟨_, g2, cur, hc'⟩ := h2.blk hc
    exact ks.block _ g2 (ty_ne hc' h.ei (by decide))
theorem LC.f1 (h : LC w0 P ab ib bw w f G b e fw) {v : Int} : LC w0 P ab ib bw w (Mm.upd f 1 v) G b e fw :=
  ⟨h.ea.congr fun j _ => by unfold abF; rw [upd_ne _ _ (aI_1 _)], h.ei, h.sv, h.N, h.bl, h.B0, h.NS⟩
/-- What was becomes what is. -/
theorem LC.setw (h : LC w0 P ab ib bw w f G b e fw) {e' : Int} {sv' : Value} {fw' : Nat → Int} (ho : Th.OwnL 27 w P.N sv' P.t (nowL P.t fw')) :
    LC w0 P ab ib bw ((w.setCell ⟨bw, 0, none⟩ (.int .u64 e')).setCell ⟨bw, 1, none⟩ sv') f G b e' fw' ∧ Th.KS (fun j => j = bw) w ((w.setCell ⟨bw, 0, none⟩ (.int .u64 e')).setCell ⟨bw, 1, none⟩ sv') := by
  obtain ⟨sv, h1, h2⟩ := h.sv
  have ks : Th.KS (fun j => j = bw) w ((w.setCell ⟨bw, 0, none⟩ (.int .u64 e')).setCell ⟨bw, 1, none⟩ sv') := (Th.KS.set w bw 0 _).trans (Th.KS.set _ bw 1 _)
  have hx := heap_setCell_same _ bw 1 _ _ sv' (heap_setCell_same w bw 0 _ _ (.int .u64 e') h1)
  have hN := h.N; have hB := h.B0; have hS := h.NS
  refine ⟨⟨h.ea.of (ks.block _ (Th.blk_lt h.ea) (fun e1 => ty_ne h1 h.ea (by decide) e1.symm)), h.ei.of (ks.block _ (Th.blk_lt h.ei) (fun e1 => ty_ne h1 h.ei (by decide) e1.symm)), ⟨sv', hx, ho.of fun c hc => ?_⟩, h.N, LC.low (LC.low h.bl (by omega)) (by omega), h.B0, Nat.le_trans h.NS.1 ks.size, h.NS.2⟩, ks⟩
  obtain ⟨_, g2, cur, hc'⟩ := ho.blk hc
  exact ks.block _ g2 (ty_ne hc' h1 (by decide))
end
/-- What is now: a box of its own. -/
def IS (w : World) (P : Pc) (bi : Nat) (e : Int) (f : Nat → Int) : Prop := ∃ sv, w.heap[bi]? = some (.cells #[.int .u64 e, sv] 33 (0, 0)) ∧ Th.OwnL 27 w P.N sv P.t (nowL P.t f)
theorem IS.of {w w' : World} {P : Pc} {bi : Nat} {e : Int} {f : Nat → Int} {X : Nat} {T : TypeId} {cur : Array Value} (h : IS w P bi e f) (hX : w.heap[X]? = some (.cells cur T (0, 0))) (h1 : 33 ≠ T) (h2 : 27 ≠ T) (ks : Th.KS (fun j => j = X) w w') : IS w' P bi e f := by
  obtain ⟨sv, e1, e2⟩ := h
  refine ⟨sv, (ks.block _ (Th.blk_lt e1) (ty_ne e1 hX h1)).trans e1, e2.of fun c hc => ?_⟩
  obtain ⟨_, g2, cur, hc'⟩ := e2.blk hc
  exact ks.block _ g2 (ty_ne hc' hX h2)
theorem IS.below {w w' : World} {P : Pc} {bi : Nat} {e : Int} {f : Nat → Int} (h : IS w P bi e f) (k : Below w.heap.size w w') : IS w' P bi e f := by
  obtain ⟨sv, e1, e2⟩ := h
  exact ⟨sv, Th.up k e1, Th.OwnL.below e2 k⟩
/-- The words of a row, one by one. -/
theorem own_cells {w : World} {N t t' : Nat} {sv : Value} {F : Nat → Int} (h : Th.OwnL 27 w N sv t (Th.ucells t F)) (h1 : 1 ≤ t) (ht : t = t') : ∃ g c, sv = .slice (some ⟨g, 0, none⟩) t' c ∧ t' ≤ c ∧ c ≤ 9223372036854775807 ∧ ∀ i, i < t' → w.cell? ⟨g, i, none⟩ = some (.int .u64 (F i)) := by
  subst ht
  rcases h.2 with ⟨_, h0⟩ | ⟨g, cap, cur, rfl, hb, hh, hc, hm, hs, ht⟩
  · omega
  · refine ⟨g, cap, rfl, hc, hm, fun i hi => ?_⟩
    have hu : (Th.ucells t F)[i]? = some (.int .u64 (F i)) := Th.ucells_get hi
    rw [← ht, List.getElem?_take_of_lt (by simpa using hi)] at hu
    rw [cell_of_row _ g _ _ _ (0, 0) hh]; simpa using hu
theorem mtop {w : World} {P : Pc} {σ : Sg} (h : MM w P σ) {k : Nat} (hk : k < P.t) (hn : (σ.Ts k).nf = 1) : Calls Try.prog 18 #[.pointer (some ⟨P.tq k, 0, none⟩)] w fun e w' => ∃ fb, e = .returned (.pointer (some ⟨fb, 0, none⟩)) ∧ w'.cell? ⟨fb, 0, none⟩ = some (.int .i64 ((σ.Ts k).fs 0).fn) ∧ Below w.heap.size w w' := by
  obtain ⟨ps, fvs, hp⟩ := h.mp
  refine (hp.top (m := 0) hk hn (by omega)).mono ?_
  rintro _ w' ⟨rfl, hb⟩
  exact ⟨_, rfl, (hp.below hb).fn hk (by omega), hb⟩
theorem run_about (n : Nat) (hn : n ≤ 250) (w : World) : (Instr.makeSlice 55 (.int .i64 n) (.int .i64 n)).run Try.prog w = .ok (.slice (some ⟨w.heap.size, 0, none⟩) n n) (w.alloc (.cells (madeCells #[.bool false, .int .u64 0] (n * 2)) 66)) := by
  have h0 : (Try.prog.info? 66).map (fun i => (i.zero, i.size, i.bytes)) = some (some (.agg #[.bool false, .int .u64 0]), 2, 16) := by kernel_rfl
  cases hi : Try.prog.info? 66 with
  | none => rw [hi] at h0; simp at h0
  | some i =>
    rw [hi] at h0; simp at h0
    obtain ⟨hz, hs, hb⟩ := h0
    rw [run_makeSlice w 55 66 i _ (by kernel_rfl) hi hz .i64 .i64 n n (by omega) (by omega) (by rw [hs]; omega) (by rw [hb]; omega) (by omega)]
    rw [hs]
    simp [Value.cells]
theorem run_ins (n : Nat) (hn : n ≤ 250) (w : World) : (Instr.makeSlice 56 (.int .i64 n) (.int .i64 n)).run Try.prog w = .ok (.slice (some ⟨w.heap.size, 0, none⟩) n n) (w.alloc (.cells (madeCells #[.bool false] n) 4)) := by
  have h0 : (Try.prog.info? 4).map (fun i => (i.zero, i.size, i.bytes)) = some (some (.bool false), 1, 1) := by kernel_rfl
  cases hi : Try.prog.info? 4 with
  | none => rw [hi] at h0; simp at h0
  | some i =>
    rw [hi] at h0; simp at h0
    obtain ⟨hz, hs, hb⟩ := h0
    rw [run_makeSlice w 56 4 i _ (by kernel_rfl) hi hz .i64 .i64 n n (by omega) (by omega) (by rw [hs]; omega) (by rw [hb]; omega) (by omega)]
    rw [hs]
    simp [Value.cells]
theorem made_about (n : Nat) (f : Nat → Int) (h : ∀ j, j < n → f (aI j) = 0) : madeCells #[.bool false, .int .u64 0] (n * 2) = ((List.range (n * 2)).map (abF f fun _ => 0)).toArray := by
  apply Array.ext'
  unfold madeCells
  simp only [Array.toList_map, Array.toList_range]
  refine List.map_congr_left fun j hj => ?_
  have hj := List.mem_range.1 hj
  unfold abF
  rcases (by omega : j % 2 = 0 ∨ j % 2 = 1) with e | e
  · rw [if_pos e, h _ (by omega)]; simp [e]
  · rw [if_neg (by omega)]; simp [e]
theorem made_ins (n : Nat) : madeCells #[.bool false] n = ((List.range n).map fun _ => Value.bool false).toArray := by
  apply Array.ext'
  unfold madeCells
  simp only [Array.toList_map, Array.toList_range]
  refine List.map_congr_left fun j hj => ?_
  simp [Nat.mod_one]
/-- The invariant of Ends. -/
def JE (P : Pc) (σ : Sg) (n : Nat) : Prop := ∃ e G b, EC P σ e G b n
def rkJ (P : Pc) (σ : Sg) (k : Nat) : Nat := if (σ.Ts k).nf = 0 then 0 else rkE ((σ.Ts k).fs 0) P.t
theorem EC.nf1 {P : Pc} {σ : Sg} {e : Int} {G : Nat → Int} {b : Nat → Bool} {n k : Nat} (h : EC P σ e G b n) (hk : k < P.t) (h0 : 0 < (σ.Ts k).nf) : (σ.Ts k).nf = 1 ∧ EFr ((σ.Ts k).fs 0) σ.f e G (b k) P.t k := by
  have h1 := h.th k hk
  unfold EW at h1
  rcases h1 with ⟨h1, _⟩ | h1
  · omega
  · exact h1
theorem rkE_pos {F : Th.Fm} {f : Nat → Int} {e : Int} {G : Nat → Int} {b : Bool} {t k : Nat} (h : EFr F f e G b t k) : 1 ≤ rkE F t := by
  unfold EFr at h
  rcases h with ⟨h1, _⟩ | ⟨h1, _⟩ | ⟨h1, _, h3⟩
  · unfold rkE; rw [if_pos h1]; split
    · omega
    · split <;> omega
  · unfold rkE; rw [if_neg (by omega), if_pos h1]; exact Nat.le_refl _
  · unfold rkE; rw [if_neg (by omega), if_neg (by omega)]
    rcases h3 with ⟨h3, _⟩ | ⟨_, _, j, h4, ⟨h5, h6⟩ | ⟨h5, h6⟩, _⟩
    · rw [if_pos h3]; omega
    · rw [if_neg (by omega), if_pos h5]; omega
    · rw [if_neg (by omega), if_neg (by omega)]; exact Nat.le_refl _
theorem JE.rk {P : Pc} {σ : Sg} {n : Nat} (h : JE P σ n) (t1 : 1 ≤ P.t) : ∀ k, k < P.t → (0 < (σ.Ts k).nf → 1 ≤ rkJ P σ k) ∧ rkJ P σ k ≤ P.t + 9 := by
  obtain ⟨e, G, b, h⟩ := h
  intro k hk
  refine ⟨fun h0 => ?_, ?_⟩
  · obtain ⟨h1, h2⟩ := h.nf1 hk h0
    unfold rkJ; rw [if_neg (by omega)]; exact rkE_pos h2
  · unfold rkJ; split
    · omega
    · have := rkE_le ((σ.Ts k).fs 0) P.t t1; omega
theorem jstep {w : World} {P : Pc} {σ : Sg} {n k : Nat} (h : MM w P σ) (hj : JE P σ n) (hn : n ≤ 900000) (hk : k < P.t) (h0 : 0 < (σ.Ts k).nf) :
    Calls Try.prog 19 #[.pointer (some ⟨P.q, 0, none⟩), .int .i64 k, .func (.func 12) #[] #[]] w fun x w' => ∃ σ', x = .returned (.bool (decide (0 < (σ'.Ts k).nf))) ∧ MM w' P σ' ∧ KA P.B P.N w w' ∧ JE P σ' (n + 1) ∧ (∀ i, i ≠ k → σ'.Ts i = σ.Ts i) ∧ ((σ'.Ts k).nf = 0 ∨ rkJ P σ' k < rkJ P σ k) := by
  obtain ⟨e, G, b, hi⟩ := hj
  obtain ⟨h1, _⟩ := hi.nf1 hk h0
  refine (estep h hi hn hk h1).mono ?_
  rintro _ w' ⟨σ', rfl, hm, hka, ho, hoth⟩
  refine ⟨σ', rfl, hm, hka, ?_, hoth, ?_⟩
  · rcases ho with ⟨_, _, _, ec⟩ | ⟨_, _, _, _, _, ec⟩ | ⟨_, _, _, _, _, _, ec⟩ | ⟨_, _, _, _, ec⟩ | ⟨_, _, _, ec⟩ | ⟨_, _, _, ec⟩ <;> exact ⟨_, _, _, ec⟩
  · rcases ho with ⟨n1, _, rk, _⟩ | ⟨n1, _, _, _, rk, _⟩ | ⟨n1, _⟩ | ⟨n1, _⟩ | ⟨n1, _⟩ | ⟨n1, _⟩
    · right; unfold rkJ; rw [if_neg (by omega), if_neg (by omega)]; exact rk
    · right; unfold rkJ; rw [if_neg (by omega), if_neg (by omega)]; exact rk
    · exact .inl n1
    · exact .inl n1
    · exact .inl n1
    · exact .inl n1
theorem LC.fc {w0 w : World} {P : Pc} {ab ib bw : Nat} {f f' G : Nat → Int} {b : Nat → Bool} {e : Int} {fw : Nat → Int} (h : LC w0 P ab ib bw w f G b e fw) (hf : ∀ j, f' (aI j) = f (aI j)) : LC w0 P ab ib bw w f' G b e fw :=
  ⟨h.ea.congr fun j _ => by unfold abF; rw [hf], h.ei, h.sv, h.N, h.bl, h.B0, h.NS⟩
/-- What the law sees of a step. -/
theorem EO.sum {P : Pc} {σ σ' : Sg} {e e2 : Int} {G : Nat → Int} {b : Nat → Bool} {n k : Nat} {fn : Int} (h : EO P σ σ' k e G b n fn) (hi : EC P σ e G b n) {ch lf : Bool} (hch : (σ'.f (aI k) != σ.f (aI k)) = ch) (hlf : decide (0 < (σ'.Ts k).nf) = lf) (he : σ'.f 1 = e2) :
    (∀ j, j ≠ k → σ'.f (aI j) = σ.f (aI j)) ∧ (e ≤ e2 ∧ e2 ≤ e + 1) ∧ EC P σ' e2 (if ch = true then Mm.upd G k e2 else G) (if lf = false ∧ fn = 10 then updb b k true else if lf = false ∧ fn = 11 then updb b k false else b) (n + 1) ∧
    (lf = false → fn = 10 → ch = false ∧ (σ'.f (aI k) != 0) = true ∧ (σ'.Ts k).ss 3 = .int .u64 (e2 - 1) ∧ (e2 = G k ∨ e2 = G k + 1)) ∧ (lf = false → fn = 11 → (σ'.f (aI k) != 0) = false) := by
  have hf1 := hi.f1
  rcases h with ⟨n1, fe, rk, ec⟩ | ⟨n1, f10, ⟨v, v0, fe⟩, fz, rk, ec⟩ | ⟨n1, f10, fe, fz, s3, pe, ec⟩ | ⟨n1, f11, fe, fz, ec⟩ | ⟨n1, f12, fe, ec⟩ | ⟨n1, f12, fe, ec⟩
  · obtain rfl : lf = true := by rw [← hlf, n1]; rfl
    obtain rfl : ch = false := by rw [← hch, fe]; simp
    obtain rfl : e2 = e := by rw [← he, fe, hf1]
    refine ⟨fun j _ => by rw [fe], by omega, by simpa using ec, (fun h => by cases h), (fun h => by cases h)⟩
  · obtain rfl : lf = true := by rw [← hlf, n1]; rfl
    obtain rfl : ch = true := by rw [← hch, fe, upd_at, fz]; simpa using v0
    obtain rfl : e2 = e := by rw [← he, fe, upd_ne _ _ (Ne.symm (aI_1 k)), hf1]
    refine ⟨fun j hj => by rw [fe, upd_ne _ _ (fun e3 => hj (aI_inj e3))], by omega, by simpa using ec, (fun h => by cases h), (fun h => by cases h)⟩
  · subst f10
    obtain rfl : lf = false := by rw [← hlf, n1]; rfl
    obtain rfl : ch = false := by rw [← hch, fe]; simp
    obtain rfl : e2 = e := by rw [← he, fe, hf1]
    refine ⟨fun j _ => by rw [fe], by omega, by simpa using ec, fun _ _ => ⟨rfl, by rw [fe]; simpa using fz, s3, pe⟩, fun _ h => by omega⟩
  · subst f11
    obtain rfl : lf = false := by rw [← hlf, n1]; rfl
    obtain rfl : ch = true := by rw [← hch, fe, upd_at]; simpa using fz.symm
    obtain rfl : e2 = e := by rw [← he, fe, upd_ne _ _ (Ne.symm (aI_1 k)), hf1]
    refine ⟨fun j hj => by rw [fe, upd_ne _ _ (fun e3 => hj (aI_inj e3))], by omega, by simpa using ec, fun _ h => by omega, fun _ _ => by rw [fe, upd_at]; rfl⟩
  · subst f12
    obtain rfl : lf = false := by rw [← hlf, n1]; rfl
    obtain rfl : ch = false := by rw [← hch, fe]; simp
    obtain rfl : e2 = e := by rw [← he, fe, hf1]
    refine ⟨fun j _ => by rw [fe], by omega, by simpa using ec, fun _ h => by omega, fun _ h => by omega⟩
  · subst f12
    obtain rfl : lf = false := by rw [← hlf, n1]; rfl
    obtain rfl : ch = false := by rw [← hch, fe, upd_ne _ _ (aI_1 k)]; simp
    obtain rfl : e2 = e + 1 := by rw [← he, fe, upd_at]
    refine ⟨fun j hj => by rw [fe, upd_ne _ _ (aI_1 j)], by omega, by simpa using ec, fun _ h => by omega, fun _ h => by omega⟩
/-- The box, and the row that it has. -/
def ISq (w : World) (P : Pc) (bi : Nat) (e : Int) (f : Nat → Int) (g n c : Nat) : Prop := w.heap[bi]? = some (.cells #[.int .u64 e, .slice (some ⟨g, 0, none⟩) n c] 33 (0, 0)) ∧ Th.OwnL 27 w P.N (.slice (some ⟨g, 0, none⟩) n c) P.t (nowL P.t f)
theorem IS.put {w w' : World} {P : Pc} {bi : Nat} {e : Int} {f : Nat → Int} {g n c X : Nat} {T : TypeId} {cur : Array Value} (h : ISq w P bi e f g n c) (hX : w.heap[X]? = some (.cells cur T (0, 0))) (h1 : 33 ≠ T) (h2 : 27 ≠ T) (ks : Th.KS (fun j => j = X) w w') : ISq w' P bi e f g n c := by
  obtain ⟨e1, e2⟩ := h
  refine ⟨(ks.block _ (Th.blk_lt e1) (ty_ne e1 hX h1)).trans e1, e2.of fun c hc => ?_⟩
  obtain ⟨_, g2, cur, hc'⟩ := e2.blk hc
  exact ks.block _ g2 (ty_ne hc' hX h2)
theorem ISq.below {w w' : World} {P : Pc} {bi : Nat} {e : Int} {f : Nat → Int} {g n c : Nat} (h : ISq w P bi e f g n c) (k : Below w.heap.size w w') : ISq w' P bi e f g n c := ⟨Th.up k h.1, Th.OwnL.below h.2 k⟩
theorem ISq.cells {w : World} {P : Pc} {bi : Nat} {e : Int} {f : Nat → Int} {g n c : Nat} (h : ISq w P bi e f g n c) : w.cell? ⟨bi, 0, none⟩ = some (.int .u64 e) ∧ w.cell? ⟨bi, 1, none⟩ = some (.slice (some ⟨g, 0, none⟩) n c) := ⟨Th.newcell h.1 0 _ rfl, Th.newcell h.1 1 _ rfl⟩
end Go.Proofs.Ytjpkmkaiojnhgaa

/- Layer 18: EpochCrowd where nothing is done. -/
namespace Go.Proofs.Ytjpkmkaiojnhgaa
open Go.RowKit WordM EdgeM
set_option linter.unusedVariables false
set_option linter.unusedSimpArgs false
set_option maxRecDepth 16000 in
set_option maxHeartbeats 4000000 in
theorem epochCrowd_no (T : Int) (v1 : Value) (w : World) (hmay : mayC T 7 5 = false) :
    Calls Try.prog 5 #[.int .i64 T, v1] w fun e w' => e = .returned (.bool true) ∧ Below w.heap.size w w' := by
  refine Calls.veil fun Q HQ => ?_
  have HM := Lib.hid hmay
  rcases may75 hmay with h1 | h1
  · clear hmay
    go_enter Try.func5, Try.ntmps5
    go_wp2_with fail
    refine (cnew_no _ _ _ _ HM.out).mono ?_; rintro _ w1 ⟨rfl, hb⟩
    have HB1 := Lib.hid hb
    clear hb
    go_wp2_with fail
    refine (lives18_calls _).mono ?_; rintro _ w3 ⟨rfl, hb⟩
    have HB3 := Lib.hid (below_on HB1.out hb)
    clear hb
    go_wp2_with fail
    (try go_ret)
    rw [HQ.out]
    exact ⟨rfl, HB3.out⟩
  · have h0 : ¬ T < 1 := by omega
    clear hmay
    go_enter Try.func5, Try.ntmps5
    go_wp2_with fail
    refine (cnew_no _ _ _ _ HM.out).mono ?_; rintro _ w1 ⟨rfl, hb⟩
    have HB1 := Lib.hid hb
    clear hb
    go_wp2_with fail
    refine (lives18_calls _).mono ?_; rintro _ w3 ⟨rfl, hb⟩
    have HB3 := Lib.hid (below_on HB1.out hb)
    clear hb
    go_wp2_with fail
    (try go_ret)
    rw [HQ.out]
    exact ⟨rfl, HB3.out⟩
set_option maxRecDepth 16000 in
set_option maxHeartbeats 4000000 in
theorem epochCrowd_big (t : Nat) (pa : Option Addr) (pn pc : Nat) (w : World) (hmay : mayC t 7 5 = true) (hpn : 1500 < pn) :
    Calls Try.prog 5 #[.int .i64 t, .slice pa pn pc] w fun e w' => e = .returned (.bool true) ∧ Below w.heap.size w w' := by
  refine Calls.veil fun Q HQ => ?_
  have hp2 : (1500 : Int) < pn := by omega
  have HM := Lib.hid hmay
  clear hmay hpn
  go_enter Try.func5, Try.ntmps5
  go_wp2_with fail
  refine (cnewI (t := t) (s := 7) _ HM.out).mono ?_; rintro _ w2 ⟨q, pl, mb, mg, C, gq, gg, gm, fv, tq, rfl, hmi, hb, hin⟩
  have HB2 := Lib.hid hb
  clear hmi hb hin
  go_wp2_with fail
  refine (lives18_calls _).mono ?_; rintro _ w3 ⟨rfl, hb⟩
  have HB3 := Lib.hid (below_on HB2.out hb)
  clear hb
  go_wp2_with fail
  (try go_ret)
  rw [HQ.out]
  exact ⟨rfl, HB3.out⟩
end Go.Proofs.Ytjpkmkaiojnhgaa
