/- Layer 25: a step of any thread, as the clock goes on; what may be told. -/
import Derived.Test.YtmokniemmiomfaaGreatClkD
namespace Go.Proofs.YtmokniemmiomfaaGreat
open Go.RowKit WordM EdgeM
set_option linter.unusedVariables false
set_option linter.unusedSimpArgs false
/-- A thread is within nothing, or within Tick. -/
def TickAt (T : Th.Td) (clk : Nat) (K : Int) : Prop := T.nf = 0 ∨ (T.nf = 1 ∧ (T.fs 0).fn = 60 ∧ ((T.fs 0).pc = 0 ∨ (T.fs 0).pc = 1) ∧ 0 ≤ (T.fs 0).r 0 ∧ (T.fs 0).r 0 ≤ clk ∧ ((T.fs 0).pc = 1 → (T.fs 0).r 0 < K))
theorem TickAt.up {T : Th.Td} {clk clk' : Nat} {K : Int} (h : TickAt T clk K) (hc : clk ≤ clk') : TickAt T clk' K := by
  rcases h with h | ⟨h1, h2, h3, h4, h5, h6⟩
  · exact .inl h
  · exact .inr ⟨h1, h2, h3, h4, by omega, h6⟩
/-- How many steps it takes, alone, at most. -/
def rkT (T : Th.Td) (clk : Nat) : Nat := if (T.fs 0).pc = 0 then 2 else if (T.fs 0).r 0 = clk then 1 else 3
theorem rkT_le (T : Th.Td) (clk : Nat) : 1 ≤ rkT T clk ∧ rkT T clk ≤ 3 := by
  unfold rkT
  split
  · omega
  · split <;> omega
structure CI (P : Pc) (σ : Sg) (clk a b : Nat) : Prop where
  f0 : σ.f 0 = clk
  c1 : 1 ≤ clk ∧ (clk : Int) ≤ P.K ∧ clk ≤ b
  th : ∀ k, k < P.t → TickAt (σ.Ts k) clk P.K
  ac : 0 ≤ σ.acc ∧ σ.acc ≤ a ∧ 0 ≤ σ.steps ∧ σ.steps ≤ a
  ok : σ.flt = false ∧ σ.sl = 0 ∧ σ.odd = false
theorem CI.le {P : Pc} {σ : Sg} {clk a b a' b' : Nat} (h : CI P σ clk a b) (ha : a ≤ a') (hb : b ≤ b') : CI P σ clk a' b' :=
  ⟨h.f0, ⟨h.c1.1, h.c1.2.1, by have := h.c1.2.2; omega⟩, h.th, by have := h.ac; omega, h.ok⟩
theorem CI.call {P : Pc} {σ : Sg} {clk a b : Nat} (h : CI P σ clk a b) {k : Nat} (hn : (σ.Ts k).nf = 0) : CI P (σ.thr k (Th.callT (σ.Ts k) 60 0 fun _ => 0)) clk a b ∧ ((σ.thr k (Th.callT (σ.Ts k) 60 0 fun _ => 0)).Ts k).nf = 1 := by
  have e1 : ((σ.thr k (Th.callT (σ.Ts k) 60 0 fun _ => 0)).Ts k).nf = 1 := by rw [Sg.thr_at]; unfold Th.callT; simp only []; omega
  refine ⟨⟨h.f0, h.c1, fun j hj => ?_, h.ac, h.ok⟩, e1⟩
  by_cases e : j = k
  · subst e
    rw [Sg.thr_at]
    refine .inr ⟨?_, ?_, ?_, ?_, ?_, ?_⟩
    · unfold Th.callT; simp only []; omega
    · unfold Th.callT Th.upM; simp [hn]
    · unfold Th.callT Th.upM; simp [hn]
    · unfold Th.callT Th.upM; simp [hn]
    · unfold Th.callT Th.upM; simp [hn]
    · unfold Th.callT Th.upM; simp [hn]
  · have := h.th j hj
    unfold Sg.thr; simp only [if_neg e]; exact this
/-- What a step of Tick comes to. -/
def TOut (P : Pc) (σ σ' : Sg) (k clk : Nat) : Prop :=
  ((σ'.Ts k).nf = 1 ∧ σ'.f 0 = clk ∧ TickAt (σ'.Ts k) clk P.K ∧ rkT (σ'.Ts k) clk < rkT (σ.Ts k) clk) ∨
  ((σ'.Ts k).nf = 0 ∧ σ'.f 0 = clk ∧ (σ'.Ts k).ret 0 = 0 ∧ P.K ≤ clk) ∨
  ((σ'.Ts k).nf = 0 ∧ σ'.f 0 = ((clk + 1 : Nat) : Int) ∧ (σ'.Ts k).ret 0 = clk ∧ (σ'.Ts k).ss 4 = .int .u64 clk ∧ ((clk + 1 : Nat) : Int) ≤ P.K)
theorem tick_out {P : Pc} {σ : Sg} {clk a b k : Nat} (h : CI P σ clk a b) (hk : k < P.t) (hn : (σ.Ts k).nf = 1) : TOut P σ (rTick P k 0 σ.stp) k clk := by
  rcases h.th k hk with h0 | ⟨_, h2, h3, h4, h5, h6⟩
  · omega
  have hf := h.f0
  rcases h3 with e | e
  · by_cases hz : P.K ≤ σ.f 0
    · have er : rTick P k 0 σ.stp = { σ.stp.thr k (Th.backT (setF (σ.Ts k) 0 ⟨((σ.Ts k).fs 0).fn, 1, updr ((σ.Ts k).fs 0).r 0 (σ.f 0)⟩) 1 (fun _ => 0)) with acc := σ.acc + 1 } := by
        unfold rTick; rw [if_pos (show ((σ.stp.Ts k).fs 0).pc = 0 from e), if_pos (show P.K ≤ σ.stp.f 0 from hz)]; rfl
      rw [er]
      refine .inr (.inl ⟨?_, hf, ?_, by omega⟩)
      · unfold Sg.thr Th.backT setF; simp only [if_true]; omega
      · unfold Sg.thr Th.backT setF; simp
    · have er : rTick P k 0 σ.stp = { σ.stp.thr k (setF (σ.Ts k) 0 ⟨((σ.Ts k).fs 0).fn, 1, updr ((σ.Ts k).fs 0).r 0 (σ.f 0)⟩) with acc := σ.acc + 1 } := by
        unfold rTick; rw [if_pos (show ((σ.stp.Ts k).fs 0).pc = 0 from e), if_neg (show ¬ P.K ≤ σ.stp.f 0 from hz)]; rfl
      rw [er]
      have e1 : (({ σ.stp.thr k (setF (σ.Ts k) 0 ⟨((σ.Ts k).fs 0).fn, 1, updr ((σ.Ts k).fs 0).r 0 (σ.f 0)⟩) with acc := σ.acc + 1 } : Sg).Ts k) = setF (σ.Ts k) 0 ⟨((σ.Ts k).fs 0).fn, 1, updr ((σ.Ts k).fs 0).r 0 (σ.f 0)⟩ := Sg.thr_at _ _ _
      refine .inl ⟨?_, hf, ?_, ?_⟩
      · rw [e1]; exact hn
      · rw [e1]
        refine .inr ⟨hn, ?_, ?_, ?_, ?_, ?_⟩
        · rw [setF_fs]; exact h2
        · rw [setF_fs]; exact .inr rfl
        · rw [setF_fs]; show 0 ≤ updr ((σ.Ts k).fs 0).r 0 (σ.f 0) 0; unfold updr; rw [if_pos rfl]; omega
        · rw [setF_fs]; show updr ((σ.Ts k).fs 0).r 0 (σ.f 0) 0 ≤ _; unfold updr; rw [if_pos rfl]; omega
        · rw [setF_fs]; intro _; show updr ((σ.Ts k).fs 0).r 0 (σ.f 0) 0 < _; unfold updr; rw [if_pos rfl]; omega
      · rw [e1]
        unfold rkT
        rw [setF_fs, if_neg (show ¬ (1 : Int) = 0 by omega), if_pos (show updr ((σ.Ts k).fs 0).r 0 (σ.f 0) 0 = (clk : Int) by unfold updr; rw [if_pos rfl]; exact hf), if_pos e]
        omega
  · by_cases hz : ((σ.Ts k).fs 0).r 0 = clk
    · have er : rTick P k 0 σ.stp = { σ.stp.thr k (Th.backT (setS (σ.Ts k) 4 (.int .u64 (((σ.Ts k).fs 0).r 0))) 1 (fun _ => ((σ.Ts k).fs 0).r 0)) with acc := σ.acc + 1, f := Mm.upd σ.f 0 (((σ.Ts k).fs 0).r 0 + 1) } := by
        unfold rTick; rw [if_neg (show ¬ ((σ.stp.Ts k).fs 0).pc = 0 from by show ¬ ((σ.Ts k).fs 0).pc = 0; omega), if_pos (show (σ.stp.f 0 == ((σ.stp.Ts k).fs 0).r 0) = true from by show (σ.f 0 == ((σ.Ts k).fs 0).r 0) = true; rw [hf, hz]; exact beq_self_eq_true _)]; rfl
      rw [er]
      have h7 := h6 e
      refine .inr (.inr ⟨?_, ?_, ?_, ?_, by omega⟩)
      · unfold Sg.thr Th.backT setS; simp only [if_true]; omega
      · show Mm.upd σ.f 0 (((σ.Ts k).fs 0).r 0 + 1) 0 = _; unfold Mm.upd; rw [if_pos rfl, hz]; rfl
      · unfold Sg.thr Th.backT setS; simp [hz]
      · unfold Sg.thr Th.backT setS; simp [hz]
    · have er : rTick P k 0 σ.stp = { σ.stp.thr k (setF (σ.Ts k) 0 ⟨((σ.Ts k).fs 0).fn, 0, ((σ.Ts k).fs 0).r⟩) with acc := σ.acc + 1 } := by
        unfold rTick; rw [if_neg (show ¬ ((σ.stp.Ts k).fs 0).pc = 0 from by show ¬ ((σ.Ts k).fs 0).pc = 0; omega), if_neg (show ¬ (σ.stp.f 0 == ((σ.stp.Ts k).fs 0).r 0) = true from by show ¬ (σ.f 0 == ((σ.Ts k).fs 0).r 0) = true; rw [hf]; simp; omega)]; rfl
      rw [er]
      have e1 : (({ σ.stp.thr k (setF (σ.Ts k) 0 ⟨((σ.Ts k).fs 0).fn, 0, ((σ.Ts k).fs 0).r⟩) with acc := σ.acc + 1 } : Sg).Ts k) = setF (σ.Ts k) 0 ⟨((σ.Ts k).fs 0).fn, 0, ((σ.Ts k).fs 0).r⟩ := Sg.thr_at _ _ _
      refine .inl ⟨?_, hf, ?_, ?_⟩
      · rw [e1]; exact hn
      · rw [e1]
        refine .inr ⟨hn, ?_, ?_, ?_, ?_, ?_⟩
        · rw [setF_fs]; exact h2
        · rw [setF_fs]; exact .inl rfl
        · rw [setF_fs]; exact h4
        · rw [setF_fs]; exact h5
        · rw [setF_fs]; intro h; exact absurd h (by show ¬ (0 : Int) = 1; decide)
      · rw [e1]
        unfold rkT
        rw [setF_fs, if_pos rfl, if_neg (show ¬ ((σ.Ts k).fs 0).pc = 0 by omega), if_neg hz]
        omega
/-- The clock behind a step. -/
theorem CI.step {P : Pc} {σ σ' : Sg} {clk a b k : Nat} (h : CI P σ clk a b) (hk : k < P.t) (ho : TOut P σ σ' k clk) (ha : σ'.acc = σ.acc + 1 ∧ σ'.steps = σ.steps + 1) (hb : σ'.odd = σ.odd ∧ σ'.flt = σ.flt ∧ σ'.sl = σ.sl) (ht : ∀ i, i ≠ k → σ'.Ts i = σ.Ts i) {clk' : Nat} (hc : σ'.f 0 = clk') : CI P σ' clk' (a + 1) (b + 1) := by
  have hac := h.ac; have hc1 := h.c1
  have h1 : clk' = clk ∨ (clk' = clk + 1 ∧ ((clk + 1 : Nat) : Int) ≤ P.K) := by
    rcases ho with ⟨_, e, _⟩ | ⟨_, e, _⟩ | ⟨_, e, _, _, e2⟩
    · left; omega
    · left; omega
    · right; omega
  refine ⟨hc, by omega, fun j hj => ?_, by omega, ⟨by rw [hb.2.1]; exact h.ok.1, by rw [hb.2.2]; exact h.ok.2.1, by rw [hb.1]; exact h.ok.2.2⟩⟩
  by_cases e : j = k
  · subst e
    rcases ho with ⟨_, _, e2, _⟩ | ⟨e2, _⟩ | ⟨e2, _⟩
    · exact e2.up (by omega)
    · exact .inl e2
    · exact .inl e2
  · rw [ht j e]; exact (h.th j hj).up (by omega)
theorem tstep {w : World} {P : Pc} {σ : Sg} {clk a b : Nat} (h : MM w P σ) (hi : CI P σ clk a b) (ha : a ≤ 900000) (hb : b ≤ 900000) {k : Nat} (hk : k < P.t) (hn : (σ.Ts k).nf = 1) :
    Calls Tryz.prog 16 #[.pointer (some ⟨P.q, 0, none⟩), .int .i64 k, .func (.func 17) #[] #[]] w fun x w' => ∃ σ', x = .returned (.bool (decide (0 < (σ'.Ts k).nf))) ∧ MM w' P σ' ∧ KA P.B P.N w w' ∧ TOut P σ σ' k clk ∧ (∀ clk' : Nat, σ'.f 0 = clk' → CI P σ' clk' (a + 1) (b + 1)) ∧ ∀ i, i ≠ k → σ'.Ts i = σ.Ts i := by
  have hac := hi.ac
  have hc1 := hi.c1
  obtain ⟨r1, r2, r3, r4, r5, r6⟩ := rTick_acc P k 0 σ.stp
  have ho := tick_out hi hk hn
  have hn' : ((rTick P k 0 σ.stp).Ts k).nf ≤ 1 := by
    rcases ho with ⟨e, _⟩ | ⟨e, _⟩ | ⟨e, _⟩ <;> omega
  refine (mstep (caps := #[]) (σ' := rTick P k 0 σ.stp) h hk (by omega) cfC (fun w' hm' _ => ?_) (by omega) (by omega) ?_ (by omega) (by omega)).mono ?_
  · rcases hi.th k hk with h0 | ⟨_, h2, h3, h4, h5, h6⟩
    · omega
    · exact cdo (m := 0) hm' hk hn (by omega) h2 h3 (by show 0 ≤ σ.acc; omega) (by show σ.acc < _; omega) ⟨h4, by show ((σ.Ts k).fs 0).r 0 < _; omega⟩
  · have e : σ.stp.acc = σ.acc := rfl
    omega
  · rintro _ w' ⟨rfl, hm', hk'⟩
    have r1' : (rTick P k 0 σ.stp).acc = σ.acc + 1 := r1
    rw [Sg.odds_one r1'] at hm'
    exact ⟨_, rfl, hm', hk', ho, fun clk' hc => hi.step hk ho ⟨r1, r2⟩ ⟨r3, r4, r5⟩ r6 hc, r6⟩
/-! ### The clock, and what is fresh -/
theorem rclock {w : World} {g n C : Nat} {f : Nat → Int} (h : Mm.RowAt w g n f) (hn : 3 ≤ n) : Calls Tryz.prog 13 #[.slice (some ⟨g, 0, none⟩) n C] w fun e w' => e = .returned (.int .u64 (f 0)) ∧ w = w' := by
  have r0 := h.row 0 (by omega)
  have h1 : ¬ (n : Int) < 3 := by omega
  have h2 : (0 : Int) < n := by omega
  clear h hn
  go_enter Tryz.func13, Tryz.ntmps13
  go_wp2_with fail
  (try go_ret)
  exact ⟨rfl, rfl⟩
theorem fresh0 (v : Value) (now st : Int) (h : st ≤ now) (w : World) : Calls Tryz.prog 18 #[v, .int .u64 0, .int .u64 now, .int .u64 st] w fun e w' => e = .returned (.bool true) ∧ w = w' := by
  go_enter Tryz.func18, Tryz.ntmps18
  go_wp2_with fail
  (try go_ret)
  exact ⟨rfl, rfl⟩
set_option maxHeartbeats 1000000 in
theorem freshY {w : World} {v : Value} {n : Nat} (hu : Th.UR w v n (fun i => (i : Int) + 1)) (hn : n ≤ 100000) (now st : Int) (h : (n : Int) + 1 < now) : Calls Tryz.prog 18 #[v, .int .u64 ((n : Int) + 1), .int .u64 now, .int .u64 st] w fun e w' => e = .returned (.bool true) ∧ w = w' := by
  refine Calls.veil fun Q HQ => ?_
  have HU := Lib.hid hu
  obtain ⟨va, vc, rfl, _, _⟩ := hu.slice
  have hne : ((n : Int) + 1 == 0) = false := by simp; omega
  clear hu
  go_enter Tryz.func18, Tryz.ntmps18
  go_wp2_with fail
  go_loopw [9] (fun iv wr => ∃ j : Nat, j ≤ n ∧ iv = .int .i64 j ∧ Hid (wr = w)) (fun iv _ => n - (intOf iv).toNat)
  case atStart => exact ⟨0, Nat.zero_le _, rfl, Lib.hid rfl⟩
  case round =>
    obtain ⟨j, hj, rfl, HW⟩ := hrel
    rcases (by omega : j < n ∨ j = n) with hlt | heq
    · have hji : (j : Int) < n := by omega
      obtain ⟨g, o, rfl, hc⟩ : ∃ g o, va = some ⟨g, o, none⟩ ∧ w.cell? ⟨g, o + j, none⟩ = some (.int .u64 ((j : Int) + 1)) := by
        have hu := HU.out
        generalize hv : Value.slice va n vc = v at hu
        cases hu with
        | nil => omega
        | odd a c _ h1 => simp only [Value.slice.injEq] at hv; omega
        | row g o _ c _ h1 h2 h3 => simp only [Value.slice.injEq] at hv; exact ⟨g, o, hv.1, h3 j hlt⟩
      have hc : wr.cell? ⟨g, o + j, none⟩ = some (.int .u64 ((j : Int) + 1)) := by rw [HW.out]; exact hc
      have hjn : ((j : Int) + 1 == (n : Int) + 1) = false := by simp; omega
      go_wp2_with fail
      go_roundw
      case rel => exact ⟨j + 1, by omega, by go_num, HW⟩
      case measure => simp [intOf]; omega
    · have heq := heq.symm
      subst heq
      have hji : ¬ (n : Int) < n := by omega
      go_wp2_with fail
      (try go_ret)
      rw [HQ.out]
      exact ⟨rfl, HW.out.symm⟩
end Go.Proofs.YtmokniemmiomfaaGreat
