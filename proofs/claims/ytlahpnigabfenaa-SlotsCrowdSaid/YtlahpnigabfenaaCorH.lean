/- Layer 16: what a machine is asked, and one that is not there. -/
import Derived.Test.YtlahpnigabfenaaCorG
import Derived.Test.YtlahpnigabfenaaGrdE
import Derived.Test.YtlahpnigabfenaaGrdC
namespace Go.Proofs.Ytlahpnigabfenaa
open Go.RowKit WordM EdgeM
set_option linter.unusedVariables false
set_option linter.unusedSimpArgs false
section
variable {w : World} {B q pl mb mg C gq gg gm : Nat} {fv : Value} {tq : Nat → Nat} {t s : Nat} {K : Int} {f : Nat → Int} {acc : Int} {flt : Bool} {H : Nat → Bool} {G : Nat → Int} {sl steps : Int} {odd : Bool}
theorem gPlan (h : MI w B q pl mb mg C gq gg gm fv tq t s K f acc flt H G sl steps odd) : Calls Try.prog 40 #[.pointer (some ⟨q, 0, none⟩)] w fun e w' => e = .returned (.pointer (some ⟨pl, 0, none⟩)) ∧ w = w' := by
  have c := h.c0
  clear h
  go_enter Try.func40, Try.ntmps40
  go_wp2_with fail
  go_ret
  exact ⟨rfl, rfl⟩
theorem gMem (h : MI w B q pl mb mg C gq gg gm fv tq t s K f acc flt H G sl steps odd) : Calls Try.prog 42 #[.pointer (some ⟨q, 0, none⟩)] w fun e w' => e = .returned (.pointer (some ⟨mb, 0, none⟩)) ∧ w = w' := by
  have c := h.c1
  clear h
  go_enter Try.func42, Try.ntmps42
  go_wp2_with fail
  go_ret
  exact ⟨rfl, rfl⟩
theorem gGuard (h : MI w B q pl mb mg C gq gg gm fv tq t s K f acc flt H G sl steps odd) : Calls Try.prog 24 #[.pointer (some ⟨q, 0, none⟩)] w fun e w' => e = .returned (.pointer (some ⟨gq, 0, none⟩)) ∧ w = w' := by
  have c := h.c2
  clear h
  go_enter Try.func24, Try.ntmps24
  go_wp2_with fail
  go_ret
  exact ⟨rfl, rfl⟩
theorem gThreads (h : MI w B q pl mb mg C gq gg gm fv tq t s K f acc flt H G sl steps odd) : Calls Try.prog 37 #[.pointer (some ⟨q, 0, none⟩)] w fun e w' => e = .returned (.int .i64 t) ∧ w = w' := by
  have c := h.c3
  obtain ⟨a, c2, rfl, _, _⟩ := h.ths.slice
  clear h
  go_enter Try.func37, Try.ntmps37
  go_wp2_with fail
  go_ret
  exact ⟨rfl, rfl⟩
theorem gThread_no (h : MI w B q pl mb mg C gq gg gm fv tq t s K f acc flt H G sl steps odd) (i : Int) (hi : ¬ (0 ≤ i ∧ i < t)) : Calls Try.prog 13 #[.pointer (some ⟨q, 0, none⟩), .int .i64 i] w fun e w' => e = .returned (.pointer none) ∧ Below w.heap.size w w' := by
  refine Calls.veil fun Q HQ => ?_
  have D := Lib.hid (gThreads h)
  clear h
  rcases (by omega : i < 0 ∨ (0 ≤ i ∧ (t : Int) ≤ i)) with h1 | ⟨h0, h1⟩
  · go_enter Try.func13, Try.ntmps13
    go_wp2_with fail
    (try go_ret)
    rw [HQ.out]
    exact ⟨rfl, Below.refl _ _⟩
  · have h2 : ¬ i < 0 := by omega
    go_enter Try.func13, Try.ntmps13
    go_wp2_with fail
    refine D.out.mono ?_; rintro _ _ ⟨rfl, rfl⟩
    go_wp2_with fail
    (try go_ret)
    rw [HQ.out]
    exact ⟨rfl, Below.refl _ _⟩
theorem gThread_yes (h : MI w B q pl mb mg C gq gg gm fv tq t s K f acc flt H G sl steps odd) (i : Nat) (hi : i < t) : Calls Try.prog 13 #[.pointer (some ⟨q, 0, none⟩), .int .i64 i] w fun e w' => e = .returned (.pointer (some ⟨tq i, 0, none⟩)) ∧ Below w.heap.size w w' := by
  refine Calls.veil fun Q HQ => ?_
  have D := Lib.hid (gThreads h)
  have c3 := h.c3
  have hb := h.bd
  rcases h.ths.parts with ⟨_, h0⟩ | ⟨g, c, hfe, h1, h2, _, _, _, _, _, _, h3⟩
  · omega
  rw [hfe] at c3
  have cg := h3 i _ hi (Th.ptrs_get hi)
  have h5 : ¬ (t : Int) ≤ i := by omega
  have h6 : (i : Int) < t := by omega
  clear h h3 hfe
  go_enter Try.func13, Try.ntmps13
  go_wp2_with fail
  refine D.out.mono ?_; rintro _ _ ⟨rfl, rfl⟩
  go_wp2_with fail
  (try go_ret)
  rw [HQ.out]
  exact ⟨rfl, Below.refl _ _⟩
theorem gFault0 (h : MI w B q pl mb mg C gq gg gm fv tq t s K f acc false H G 0 steps false) : Calls Try.prog 17 #[.pointer (some ⟨q, 0, none⟩)] w fun e w' => e = .returned (.bool false) ∧ Below w.heap.size w w' := by
  refine Calls.veil fun Q HQ => ?_
  have HM := Lib.hid (Mm.mfault _ _ _ _ _ _ _ _ h.mem); have HS := Lib.hid (Gd.gslips h.grd)
  have c1 := h.c1; have c2 := h.c2; have c5 := h.c5
  clear h
  go_enter Try.func17, Try.ntmps17
  go_wp2_with fail
  refine HM.out.mono ?_; rintro _ _ ⟨rfl, rfl⟩
  go_wp2_with fail
  refine HS.out.mono ?_; rintro _ _ ⟨rfl, rfl⟩
  go_wp2_with fail
  (try go_ret)
  rw [HQ.out]
  exact ⟨rfl, Below.refl _ _⟩
end
/-! ### None -/
theorem z_plan (w : World) : Calls Try.prog 40 #[.pointer none] w fun e w' => e = .returned (.pointer none) ∧ Below w.heap.size w w' := by
  refine Calls.veil fun Q HQ => ?_
  go_enter Try.func40, Try.ntmps40
  go_wp2_with fail
  (try go_ret)
  rw [HQ.out]
  exact ⟨rfl, by (repeat (first | exact Below.refl _ _ | assumption | refine below_new ?_ _ | refine Below.drew ?_ | refine below_drewN ?_ _ | refine below_on ?_ (by assumption)))⟩
theorem z_mem (w : World) : Calls Try.prog 42 #[.pointer none] w fun e w' => e = .returned (.pointer none) ∧ Below w.heap.size w w' := by
  refine Calls.veil fun Q HQ => ?_
  go_enter Try.func42, Try.ntmps42
  go_wp2_with fail
  (try go_ret)
  rw [HQ.out]
  exact ⟨rfl, by (repeat (first | exact Below.refl _ _ | assumption | refine below_new ?_ _ | refine Below.drew ?_ | refine below_drewN ?_ _ | refine below_on ?_ (by assumption)))⟩
theorem z_guard (w : World) : Calls Try.prog 24 #[.pointer none] w fun e w' => e = .returned (.pointer none) ∧ Below w.heap.size w w' := by
  refine Calls.veil fun Q HQ => ?_
  go_enter Try.func24, Try.ntmps24
  go_wp2_with fail
  (try go_ret)
  rw [HQ.out]
  exact ⟨rfl, by (repeat (first | exact Below.refl _ _ | assumption | refine below_new ?_ _ | refine Below.drew ?_ | refine below_drewN ?_ _ | refine below_on ?_ (by assumption)))⟩
theorem z_threads (w : World) : Calls Try.prog 37 #[.pointer none] w fun e w' => e = .returned (.int .i64 0) ∧ Below w.heap.size w w' := by
  refine Calls.veil fun Q HQ => ?_
  go_enter Try.func37, Try.ntmps37
  go_wp2_with fail
  (try go_ret)
  rw [HQ.out]
  exact ⟨rfl, by (repeat (first | exact Below.refl _ _ | assumption | refine below_new ?_ _ | refine Below.drew ?_ | refine below_drewN ?_ _ | refine below_on ?_ (by assumption)))⟩
theorem z_fault (w : World) : Calls Try.prog 17 #[.pointer none] w fun e w' => e = .returned (.bool false) ∧ Below w.heap.size w w' := by
  refine Calls.veil fun Q HQ => ?_
  go_enter Try.func17, Try.ntmps17
  go_wp2_with fail
  (try go_ret)
  rw [HQ.out]
  exact ⟨rfl, by (repeat (first | exact Below.refl _ _ | assumption | refine below_new ?_ _ | refine Below.drew ?_ | refine below_drewN ?_ _ | refine below_on ?_ (by assumption)))⟩
theorem z_thread (w : World) (i : Int) : Calls Try.prog 13 #[.pointer none, .int .i64 i] w fun e w' => e = .returned (.pointer none) ∧ Below w.heap.size w w' := by
  refine Calls.veil fun Q HQ => ?_
  rcases (by omega : i < 0 ∨ (¬ i < 0 ∧ (0 : Int) ≤ i)) with h1 | ⟨h2, h1⟩
  · go_enter Try.func13, Try.ntmps13
    go_wp2_with fail
    (try go_ret)
    rw [HQ.out]
    exact ⟨rfl, Below.refl _ _⟩
  · go_enter Try.func13, Try.ntmps13
    go_wp2_with fail
    refine (z_threads w).mono ?_; rintro _ w1 ⟨rfl, hb⟩
    go_wp2_with fail
    (try go_ret)
    rw [HQ.out]
    exact ⟨rfl, hb⟩
theorem z_depth (w : World) : Calls Try.prog 19 #[.pointer none] w fun e w' => e = .returned (.int .i64 0) ∧ Below w.heap.size w w' := by
  refine Calls.veil fun Q HQ => ?_
  go_enter Try.func19, Try.ntmps19
  go_wp2_with fail
  (try go_ret)
  rw [HQ.out]
  exact ⟨rfl, by (repeat (first | exact Below.refl _ _ | assumption | refine below_new ?_ _ | refine Below.drew ?_ | refine below_drewN ?_ _ | refine below_on ?_ (by assumption)))⟩
theorem z_step (w : World) (i : Int) (v : Value) : Calls Try.prog 23 #[.pointer none, .int .i64 i, v] w fun e w' => e = .returned (.bool false) ∧ Below w.heap.size w w' := by
  refine Calls.veil fun Q HQ => ?_
  go_enter Try.func23, Try.ntmps23
  go_wp2_with fail
  refine (z_thread _ i).mono ?_; rintro _ w1 ⟨rfl, hb⟩
  have HB := Lib.hid hb
  clear hb
  go_wp2_with fail
  refine (z_depth w1).mono ?_; rintro _ w2 ⟨rfl, hb2⟩
  have HB2 := Lib.hid (below_on HB.out hb2)
  clear hb2
  go_wp2_with fail
  (try go_ret)
  rw [HQ.out]
  exact ⟨rfl, HB2.out⟩
/-! ### Words compared -/
end Go.Proofs.Ytlahpnigabfenaa
