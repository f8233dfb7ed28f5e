/- Layer 16: what a machine is asked, and one that is not there. -/
import Derived.Test.YtkkdehniheajeaaCorG
import Derived.Test.YtkkdehniheajeaaGrdE
import Derived.Test.YtkkdehniheajeaaGrdC
namespace Go.Proofs.Ytkkdehniheajeaa
open Go.RowKit WordM EdgeM
set_option linter.unusedVariables false
set_option linter.unusedSimpArgs false
section
variable {w : World} {B q pl mb mg C gq gg gm : Nat} {fv : Value} {tq : Nat → Nat} {t s : Nat} {K : Int} {f : Nat → Int} {acc : Int} {flt : Bool} {H : Nat → Bool} {G : Nat → Int} {sl steps : Int} {odd : Bool}
theorem gPlan (h : MI w B q pl mb mg C gq gg gm fv tq t s K f acc flt H G sl steps odd) : Calls Try.prog 7 #[.pointer (some ⟨q, 0, none⟩)] w fun e w' => e = .returned (.pointer (some ⟨pl, 0, none⟩)) ∧ w = w' := by
  have c := h.c0
  clear h
  go_enter Try.func7, Try.ntmps7
  go_wp2_with fail
  go_ret
  exact ⟨rfl, rfl⟩
theorem gMem (h : MI w B q pl mb mg C gq gg gm fv tq t s K f acc flt H G sl steps odd) : Calls Try.prog 8 #[.pointer (some ⟨q, 0, none⟩)] w fun e w' => e = .returned (.pointer (some ⟨mb, 0, none⟩)) ∧ w = w' := by
  have c := h.c1
  clear h
  go_enter Try.func8, Try.ntmps8
  go_wp2_with fail
  go_ret
  exact ⟨rfl, rfl⟩
theorem gGuard (h : MI w B q pl mb mg C gq gg gm fv tq t s K f acc flt H G sl steps odd) : Calls Try.prog 9 #[.pointer (some ⟨q, 0, none⟩)] w fun e w' => e = .returned (.pointer (some ⟨gq, 0, none⟩)) ∧ w = w' := by
  have c := h.c2
  clear h
  go_enter Try.func9, Try.ntmps9
  go_wp2_with fail
  go_ret
  exact ⟨rfl, rfl⟩
theorem gSteps (h : MI w B q pl mb mg C gq gg gm fv tq t s K f acc flt H G sl steps odd) : Calls Try.prog 12 #[.pointer (some ⟨q, 0, none⟩)] w fun e w' => e = .returned (.int .i64 steps) ∧ w = w' := by
  have c := h.c4
  clear h
  go_enter Try.func12, Try.ntmps12
  go_wp2_with fail
  go_ret
  exact ⟨rfl, rfl⟩
theorem gThreads (h : MI w B q pl mb mg C gq gg gm fv tq t s K f acc flt H G sl steps odd) : Calls Try.prog 11 #[.pointer (some ⟨q, 0, none⟩)] w fun e w' => e = .returned (.int .i64 t) ∧ w = w' := by
  have c := h.c3
  obtain ⟨a, c2, rfl, _, _⟩ := h.ths.slice
  clear h
  go_enter Try.func11, Try.ntmps11
  go_wp2_with fail
  go_ret
  exact ⟨rfl, rfl⟩
theorem gThread_no (h : MI w B q pl mb mg C gq gg gm fv tq t s K f acc flt H G sl steps odd) (i : Int) (hi : ¬ (0 ≤ i ∧ i < t)) : Calls Try.prog 10 #[.pointer (some ⟨q, 0, none⟩), .int .i64 i] w fun e w' => e = .returned (.pointer none) ∧ Below w.heap.size w w' := by
  refine Calls.veil fun Q HQ => ?_
  have D := Lib.hid (gThreads h)
  clear h
  rcases (by omega : i < 0 ∨ (0 ≤ i ∧ (t : Int) ≤ i)) with h1 | ⟨h0, h1⟩
  · go_enter Try.func10, Try.ntmps10
    go_wp2_with fail
    (try go_ret)
    rw [HQ.out]
    exact ⟨rfl, Below.refl _ _⟩
  · have h2 : ¬ i < 0 := by omega
    go_enter Try.func10, Try.ntmps10
    go_wp2_with fail
    refine D.out.mono ?_; rintro _ _ ⟨rfl, rfl⟩
    go_wp2_with fail
    (try go_ret)
    rw [HQ.out]
    exact ⟨rfl, Below.refl _ _⟩
theorem gThread_yes (h : MI w B q pl mb mg C gq gg gm fv tq t s K f acc flt H G sl steps odd) (i : Nat) (hi : i < t) : Calls Try.prog 10 #[.pointer (some ⟨q, 0, none⟩), .int .i64 i] w fun e w' => e = .returned (.pointer (some ⟨tq i, 0, none⟩)) ∧ Below w.heap.size w w' := by
  refine Calls.veil fun Q HQ => ?_
  have D := Lib.hid (gThreads h)
  have c3 := h.c3
  have hb := h.bd
  rcases h.ths.parts with ⟨_, h0⟩ | ⟨g, c, hfe, h1, h2, _, _, _, _, _, _, h3⟩
  · omega
  rw [hfe] at c3
  have cg := h3 i _ hi (Th.ptrs_get hi)
  have h5 : ¬ (t : Int) ≤ i := by omega
  have h6 : (i : Int) < t := by omega
  clear h h3 hfe
  go_enter Try.func10, Try.ntmps10
  go_wp2_with fail
  refine D.out.mono ?_; rintro _ _ ⟨rfl, rfl⟩
  go_wp2_with fail
  (try go_ret)
  rw [HQ.out]
  exact ⟨rfl, Below.refl _ _⟩
theorem gFault0 (h : MI w B q pl mb mg C gq gg gm fv tq t s K f acc false H G 0 steps false) : Calls Try.prog 13 #[.pointer (some ⟨q, 0, none⟩)] w fun e w' => e = .returned (.bool false) ∧ Below w.heap.size w w' := by
  refine Calls.veil fun Q HQ => ?_
  have HM := Lib.hid (Mm.mfault _ _ _ _ _ _ _ _ h.mem); have HS := Lib.hid (Gd.gslips h.grd)
  have c1 := h.c1; have c2 := h.c2; have c5 := h.c5
  clear h
  go_enter Try.func13, Try.ntmps13
  go_wp2_with fail
  refine HM.out.mono ?_; rintro _ _ ⟨rfl, rfl⟩
  go_wp2_with fail
  refine HS.out.mono ?_; rintro _ _ ⟨rfl, rfl⟩
  go_wp2_with fail
  (try go_ret)
  rw [HQ.out]
  exact ⟨rfl, Below.refl _ _⟩
end
/-! ### None -/
theorem z_plan (w : World) : Calls Try.prog 7 #[.pointer none] w fun e w' => e = .returned (.pointer none) ∧ Below w.heap.size w w' := by
  refine Calls.veil fun Q HQ => ?_
  go_enter Try.func7, Try.ntmps7
  go_wp2_with fail
  (try go_ret)
  rw [HQ.out]
  exact ⟨rfl, by (repeat (first | exact Below.refl _ _ | assumption | refine below_new ?_ _ | refine Below.drew ?_ | refine below_drewN ?_ _ | refine below_on ?_ (by assumption)))⟩
theorem z_mem (w : World) : Calls Try.prog 8 #[.pointer none] w fun e w' => e = .returned (.pointer none) ∧ Below w.heap.size w w' := by
  refine Calls.veil fun Q HQ => ?_
  go_enter Try.func8, Try.ntmps8
  go_wp2_with fail
  (try go_ret)
  rw [HQ.out]
  exact ⟨rfl, by (repeat (first | exact Below.refl _ _ | assumption | refine below_new ?_ _ | refine Below.drew ?_ | refine below_drewN ?_ _ | refine below_on ?_ (by assumption)))⟩
theorem z_guard (w : World) : Calls Try.prog 9 #[.pointer none] w fun e w' => e = .returned (.pointer none) ∧ Below w.heap.size w w' := by
  refine Calls.veil fun Q HQ => ?_
  go_enter Try.func9, Try.ntmps9
  go_wp2_with fail
  (try go_ret)
  rw [HQ.out]
  exact ⟨rfl, by (repeat (first | exact Below.refl _ _ | assumption | refine below_new ?_ _ | refine Below.drew ?_ | refine below_drewN ?_ _ | refine below_on ?_ (by assumption)))⟩
theorem z_threads (w : World) : Calls Try.prog 11 #[.pointer none] w fun e w' => e = .returned (.int .i64 0) ∧ Below w.heap.size w w' := by
  refine Calls.veil fun Q HQ => ?_
  go_enter Try.func11, Try.ntmps11
  go_wp2_with fail
  (try go_ret)
  rw [HQ.out]
  exact ⟨rfl, by (repeat (first | exact Below.refl _ _ | assumption | refine below_new ?_ _ | refine Below.drew ?_ | refine below_drewN ?_ _ | refine below_on ?_ (by assumption)))⟩
theorem z_steps (w : World) : Calls Try.prog 12 #[.pointer none] w fun e w' => e = .returned (.int .i64 0) ∧ Below w.heap.size w w' := by
  refine Calls.veil fun Q HQ => ?_
  go_enter Try.func12, Try.ntmps12
  go_wp2_with fail
  (try go_ret)
  rw [HQ.out]
  exact ⟨rfl, by (repeat (first | exact Below.refl _ _ | assumption | refine below_new ?_ _ | refine Below.drew ?_ | refine below_drewN ?_ _ | refine below_on ?_ (by assumption)))⟩
theorem z_fault (w : World) : Calls Try.prog 13 #[.pointer none] w fun e w' => e = .returned (.bool false) ∧ Below w.heap.size w w' := by
  refine Calls.veil fun Q HQ => ?_
  go_enter Try.func13, Try.ntmps13
  go_wp2_with fail
  (try go_ret)
  rw [HQ.out]
  exact ⟨rfl, by (repeat (first | exact Below.refl _ _ | assumption | refine below_new ?_ _ | refine Below.drew ?_ | refine below_drewN ?_ _ | refine below_on ?_ (by assumption)))⟩
theorem z_clone (w : World) : Calls Try.prog 14 #[.pointer none] w fun e w' => e = .returned (.pointer none) ∧ Below w.heap.size w w' := by
  refine Calls.veil fun Q HQ => ?_
  go_enter Try.func14, Try.ntmps14
  go_wp2_with fail
  (try go_ret)
  rw [HQ.out]
  exact ⟨rfl, by (repeat (first | exact Below.refl _ _ | assumption | refine below_new ?_ _ | refine Below.drew ?_ | refine below_drewN ?_ _ | refine below_on ?_ (by assumption)))⟩
theorem z_thread (w : World) (i : Int) : Calls Try.prog 10 #[.pointer none, .int .i64 i] w fun e w' => e = .returned (.pointer none) ∧ Below w.heap.size w w' := by
  refine Calls.veil fun Q HQ => ?_
  rcases (by omega : i < 0 ∨ (¬ i < 0 ∧ (0 : Int) ≤ i)) with h1 | ⟨h2, h1⟩
  · go_enter Try.func10, Try.ntmps10
    go_wp2_with fail
    (try go_ret)
    rw [HQ.out]
    exact ⟨rfl, Below.refl _ _⟩
  · go_enter Try.func10, Try.ntmps10
    go_wp2_with fail
    refine (z_threads w).mono ?_; rintro _ w1 ⟨rfl, hb⟩
    go_wp2_with fail
    (try go_ret)
    rw [HQ.out]
    exact ⟨rfl, hb⟩
theorem z_depth (w : World) : Calls Try.prog 23 #[.pointer none] w fun e w' => e = .returned (.int .i64 0) ∧ Below w.heap.size w w' := by
  refine Calls.veil fun Q HQ => ?_
  go_enter Try.func23, Try.ntmps23
  go_wp2_with fail
  (try go_ret)
  rw [HQ.out]
  exact ⟨rfl, by (repeat (first | exact Below.refl _ _ | assumption | refine below_new ?_ _ | refine Below.drew ?_ | refine below_drewN ?_ _ | refine below_on ?_ (by assumption)))⟩
theorem z_step (w : World) (i : Int) (v : Value) : Calls Try.prog 15 #[.pointer none, .int .i64 i, v] w fun e w' => e = .returned (.bool false) ∧ Below w.heap.size w w' := by
  refine Calls.veil fun Q HQ => ?_
  go_enter Try.func15, Try.ntmps15
  go_wp2_with fail
  refine (z_thread _ i).mono ?_; rintro _ w1 ⟨rfl, hb⟩
  have HB := Lib.hid hb
  clear hb
  go_wp2_with fail
  refine (z_depth w1).mono ?_; rintro _ w2 ⟨rfl, hb2⟩
  have HB2 := Lib.hid (below_on HB.out hb2)
  clear hb2
  go_wp2_with fail
  (try go_ret)
  rw [HQ.out]
  exact ⟨rfl, HB2.out⟩
/-! ### Words compared -/
set_option maxHeartbeats 1000000 in
theorem lwords (g1 C1 g2 C2 n : Nat) (f : Nat → Int) (w : World) (n2 : n ≤ 4096) (k1 : n ≤ C1) (k2 : n ≤ C2) (m1 : C1 ≤ 9223372036854775807) (m2 : C2 ≤ 9223372036854775807)
    (h1 : ∀ i, i < n → w.cell? ⟨g1, i, none⟩ = some (.int .u64 (f i))) (h2 : ∀ i, i < n → w.cell? ⟨g2, i, none⟩ = some (.int .u64 (f i))) :
    Calls Try.prog 33 #[.slice (some ⟨g1, 0, none⟩) n C1, .slice (some ⟨g2, 0, none⟩) n C2] w fun e w' => e = .returned (.bool true) ∧ Below w.heap.size w w' := by
  have H1 := Lib.hid h1; have H2 := Lib.hid h2
  clear h1 h2
  refine Calls.veil fun Q HQ => ?_
  go_enter Try.func33, Try.ntmps33
  go_wp2_with fail
  go_loopw [5] (fun iv wr => ∃ k : Nat, k ≤ n ∧ iv = .int .i64 k ∧ Below w.heap.size w wr) (fun iv _ => n - (intOf iv).toNat)
  case atStart => exact ⟨0, Nat.zero_le _, rfl, Below.refl _ _⟩
  case round =>
    obtain ⟨k, hk, rfl, hbel⟩ := hrel
    rcases (by omega : k < n ∨ n ≤ k) with hlt | hge
    · have y0 : ∀ x : Ext wr, x.w.cell? ⟨g1, k, none⟩ = some (.int .u64 (f k)) := Ext.cells (Ext.use (Ext.cells (H1.out k hlt)) hbel)
      have y1 : ∀ x : Ext wr, x.w.cell? ⟨g2, k, none⟩ = some (.int .u64 (f k)) := Ext.cells (Ext.use (Ext.cells (H2.out k hlt)) hbel)
      obtain ⟨x, hx⟩ : ∃ x : Ext wr, x.w = wr := ⟨⟨wr, Below.refl _ _⟩, rfl⟩; rw [← hx]; clear hx
      go_wp2_with (first | (with_reducible refine ext_region _ ?_ ?_ ?_; kernel_rfl; kernel_rfl; (repeat (go_big_quiet_step (fail))); refine wpQuiet_nil ?_; rintro _ ⟨_, rfl⟩))
      go_roundw
      case rel => exact ⟨k + 1, by omega, by go_num, Ext.below hbel _⟩
      case measure => simp [intOf]; omega
    · go_wp2_with fail
      (try go_ret)
      rw [HQ.out]
      exact ⟨rfl, hbel⟩
end Go.Proofs.Ytkkdehniheajeaa
