/- Layer 16: what a machine is asked, whatever its threads are within; calls of its threads. -/
import Derived.Test.YtlahpnigabfenaaStpA
import Derived.Test.YtlahpnigabfenaaCorK
namespace Go.Proofs.Ytlahpnigabfenaa
open Go.RowKit WordM EdgeM
set_option linter.unusedVariables false
set_option linter.unusedSimpArgs false
section
variable {w : World} {B q pl mb mg C gq gg gm : Nat} {fv : Value} {tq : Nat → Nat} {t s : Nat} {K : Int} {f : Nat → Int} {acc : Int} {flt : Bool} {H : Nat → Bool} {G : Nat → Int} {sl steps : Int} {odd : Bool}
theorem cMem (h : MC w B q pl mb mg C gq gg gm fv tq t s K f acc flt H G sl steps odd) : Calls Try.prog 42 #[.pointer (some ⟨q, 0, none⟩)] w fun e w' => e = .returned (.pointer (some ⟨mb, 0, none⟩)) ∧ w = w' := by
  have c := h.c1
  clear h
  go_enter Try.func42, Try.ntmps42
  go_wp2_with fail
  go_ret
  exact ⟨rfl, rfl⟩
theorem cThreads (h : MC w B q pl mb mg C gq gg gm fv tq t s K f acc flt H G sl steps odd) : Calls Try.prog 37 #[.pointer (some ⟨q, 0, none⟩)] w fun e w' => e = .returned (.int .i64 t) ∧ w = w' := by
  have c := h.c3
  obtain ⟨a, c2, rfl, _, _⟩ := h.ths.slice
  clear h
  go_enter Try.func37, Try.ntmps37
  go_wp2_with fail
  go_ret
  exact ⟨rfl, rfl⟩
theorem cThread_no (h : MC w B q pl mb mg C gq gg gm fv tq t s K f acc flt H G sl steps odd) (i : Int) (hi : ¬ (0 ≤ i ∧ i < t)) : Calls Try.prog 13 #[.pointer (some ⟨q, 0, none⟩), .int .i64 i] w fun e w' => e = .returned (.pointer none) ∧ Below w.heap.size w w' := by
  refine Calls.veil fun Q HQ => ?_
  have D := Lib.hid (cThreads h)
  clear h
  rcases (by omega : i < 0 ∨ (0 ≤ i ∧ (t : Int) ≤ i)) with h1 | ⟨h0, h1⟩
  · go_enter Try.func13, Try.ntmps13
    go_wp2_with fail
    (try go_ret)
    rw [HQ.out]
    exact ⟨rfl, Below.refl _ _⟩
  · have h2 : ¬ i < 0 := by omega
    go_enter Try.func13, Try.ntmps13
    go_wp2_with fail
    refine D.out.mono ?_; rintro _ _ ⟨rfl, rfl⟩
    go_wp2_with fail
    (try go_ret)
    rw [HQ.out]
    exact ⟨rfl, Below.refl _ _⟩
theorem cThread_yes (h : MC w B q pl mb mg C gq gg gm fv tq t s K f acc flt H G sl steps odd) (i : Nat) (hi : i < t) : Calls Try.prog 13 #[.pointer (some ⟨q, 0, none⟩), .int .i64 i] w fun e w' => e = .returned (.pointer (some ⟨tq i, 0, none⟩)) ∧ Below w.heap.size w w' := by
  refine Calls.veil fun Q HQ => ?_
  have D := Lib.hid (cThreads h)
  have c3 := h.c3
  have hb := h.bd
  rcases h.ths.parts with ⟨_, h0⟩ | ⟨g, c, hfe, h1, h2, _, _, _, _, _, _, h3⟩
  · omega
  rw [hfe] at c3
  have cg := h3 i _ hi (Th.ptrs_get hi)
  have h5 : ¬ (t : Int) ≤ i := by omega
  have h6 : (i : Int) < t := by omega
  clear h h3 hfe
  go_enter Try.func13, Try.ntmps13
  go_wp2_with fail
  refine D.out.mono ?_; rintro _ _ ⟨rfl, rfl⟩
  go_wp2_with fail
  (try go_ret)
  rw [HQ.out]
  exact ⟨rfl, Below.refl _ _⟩
end
theorem cFault {w : World} {B q pl mb mg C gq gg gm : Nat} {fv : Value} {tq : Nat → Nat} {t s : Nat} {Kc : Int} {f : Nat → Int} {acc : Int} {flt : Bool} {H : Nat → Bool} {G : Nat → Int} {steps : Int} {odd : Bool} (h : MC w B q pl mb mg C gq gg gm fv tq t s Kc f acc flt H G 0 steps odd) : Calls Try.prog 17 #[.pointer (some ⟨q, 0, none⟩)] w fun e w' => e = .returned (.bool (odd || flt)) ∧ Below w.heap.size w w' := by
  refine Calls.veil fun Q HQ => ?_
  have HM := Lib.hid (Mm.mfault _ _ _ _ _ _ _ _ h.mem); have HS := Lib.hid (Gd.gslips h.grd)
  have c1 := h.c1; have c2 := h.c2; have c5 := h.c5
  clear h
  cases odd with
  | true =>
    go_enter Try.func17, Try.ntmps17
    go_wp2_with fail
    (try go_ret)
    rw [HQ.out]
    exact ⟨rfl, Below.refl _ _⟩
  | false =>
    cases flt with
    | true =>
      go_enter Try.func17, Try.ntmps17
      go_wp2_with fail
      refine HM.out.mono ?_; rintro _ _ ⟨rfl, rfl⟩
      go_wp2_with fail
      (try go_ret)
      rw [HQ.out]
      exact ⟨rfl, Below.refl _ _⟩
    | false =>
      go_enter Try.func17, Try.ntmps17
      go_wp2_with fail
      refine HM.out.mono ?_; rintro _ _ ⟨rfl, rfl⟩
      go_wp2_with fail
      refine HS.out.mono ?_; rintro _ _ ⟨rfl, rfl⟩
      go_wp2_with fail
      (try go_ret)
      rw [HQ.out]
      exact ⟨rfl, Below.refl _ _⟩
/-! ### Calls of a thread -/
theorem tcall {w : World} {B b d i : Nat} {fv : Value} (h : TH w B b d i fv) (fn : Int) (hf : d = 0 → fn = i) (hd : d ≤ 1000) (hB : B ≤ w.heap.size) :
    Calls Try.prog 20 #[.pointer (some ⟨b, 0, none⟩), .int .i64 fn, .slice none 0 0] w fun e w' => e = .returned (.tuple #[]) ∧ (∃ fv', TH w' B b (d + 1) i fv' ∧ ∀ j, fv'.ownBlock = some j → fv.ownBlock = some j ∨ w.heap.size ≤ j) ∧ Th.KQ w w' b fv (.slice none 0 0) := by
  obtain ⟨T, p, h1, h2, h3, h4, h5⟩ := h.ex
  refine (Th.fcall h1 fn (Th.UR.nil (fun _ => 0)) hB (by omega)).mono ?_
  rintro _ w' ⟨rfl, ⟨p', fv', ha, ho⟩, hk⟩
  refine ⟨rfl, ⟨fv', ⟨_, p', ha, by show T.nf + 1 = d + 1; omega, h3, h4, fun _ => ?_⟩, ho⟩, hk⟩
  show (Th.upM T.fs T.nf ⟨fn, 0, _⟩ 0).fn = i
  unfold Th.upM
  by_cases e : 0 = T.nf
  · rw [if_pos e]; exact hf (by omega)
  · rw [if_neg e]; exact h5 (by omega)
theorem tback {w : World} {B b d i : Nat} {fv v : Value} (h : TH w B b (d + 1) i fv) {n : Nat} {L : Nat → Int} (hu : Th.UR w v n L) (hd : d ≤ 1000) :
    Calls Try.prog 63 #[.pointer (some ⟨b, 0, none⟩), v] w fun e w' => e = .returned (.tuple #[]) ∧ (∃ fv', TH w' B b d i fv' ∧ ∀ j, fv'.ownBlock = some j → fv.ownBlock = some j) ∧ Th.KQ w w' b fv (.slice none 0 0) := by
  obtain ⟨T, p, h1, h2, h3, h4, h5⟩ := h.ex
  refine (Th.fback h1 hu (by omega)).mono ?_
  rintro _ w' ⟨rfl, ⟨fv', ha, ho⟩, hk⟩
  refine ⟨rfl, ⟨fv', ⟨_, p, ha, by show T.nf - 1 = d; omega, h3, h4, fun hd => h5 (by omega)⟩, ho⟩, hk⟩
theorem tdepth {w : World} {B b d i : Nat} {fv : Value} (h : TH w B b d i fv) : Calls Try.prog 19 #[.pointer (some ⟨b, 0, none⟩)] w fun e w' => e = .returned (.int .i64 d) ∧ w = w' := by
  obtain ⟨T, p, h1, h2, _⟩ := h.ex
  rw [← h2]; exact Th.fdepth h1
theorem ttop {w : World} {B b i : Nat} {fv : Value} (h : TH w B b 1 i fv) : Calls Try.prog 21 #[.pointer (some ⟨b, 0, none⟩)] w fun e w' => ∃ g, e = .returned (.pointer (some ⟨g, 0, none⟩)) ∧ w.cell? ⟨g, 0, none⟩ = some (.int .i64 i) ∧ Below w.heap.size w w' := by
  obtain ⟨T, p, h1, h2, _, _, h5⟩ := h.ex
  refine (Th.ftop1 (m := 0) h1 (by omega) (by omega)).mono ?_
  rintro _ w' ⟨rfl, hb⟩
  refine ⟨_, rfl, ?_, hb⟩
  have hc := (h1.fb 0 (by omega)).1.get (i := 0) (by omega)
  rw [hc]; unfold Th.frF; rw [if_pos rfl, h5 (by omega)]
theorem ttopx {w : World} {B b i : Nat} {fv : Value} (h : TH w B b 1 i fv) : ∃ g, w.cell? ⟨g, 0, none⟩ = some (.int .i64 i) ∧ ∀ w1, Below w.heap.size w w1 → Calls Try.prog 21 #[.pointer (some ⟨b, 0, none⟩)] w1 fun e w' => e = .returned (.pointer (some ⟨g, 0, none⟩)) ∧ Below w1.heap.size w1 w' := by
  obtain ⟨T, p, h1, h2, _, _, h5⟩ := h.ex
  refine ⟨p 0, ?_, fun w1 hb => Th.ftop1 (m := 0) (h1.below hb) (by omega) (by omega)⟩
  have hc := (h1.fb 0 (by omega)).1.get (i := 0) (by omega)
  rw [hc]; unfold Th.frF; rw [if_pos rfl, h5 (by omega)]
/-! ### Another block is changed -/
theorem MC.setT {w w' : World} {B q pl mb mg C gq gg gm : Nat} {fv : Value} {tq : Nat → Nat} {t s : Nat} {K : Int} {f : Nat → Int} {acc : Int} {flt : Bool} {H : Nat → Bool} {G : Nat → Int} {sl steps : Int} {odd : Bool} (h : MC w B q pl mb mg C gq gg gm fv tq t s K f acc flt H G sl steps odd)
    {X : Nat} {cur : Array Value} {T : TypeId} (hX : w.heap[X]? = some (.cells cur T (0, 0))) (hq : q < X) (hT : 51 ≠ T) (hs : w.heap.size ≤ w'.heap.size) (k : ∀ j, j ≠ X → w'.heap[j]? = w.heap[j]?) : MC w' B q pl mb mg C gq gg gm fv tq t s K f acc flt H G sl steps odd := by
  have hl := h.qlt
  refine h.keep ((k q (by omega)).trans h.blk) (h.mem.keep hs (k mb (by omega)) (k mg (by omega))) fun j _ _ _ _ hc => k j ?_
  rcases hc with hc | hc
  · omega
  · obtain ⟨_, _, c2, h2⟩ := h.ths.blk hc
    exact ty_ne h2 hX hT
theorem TS.setT {w w' : World} {q t : Nat} {tq : Nat → Nat} {d : Nat → Nat} {fvs : Nat → Value} (h : TS w q t tq d fvs) {X : Nat} {cur : Array Value} {T : TypeId} (hX : w.heap[X]? = some (.cells cur T (0, 0))) (h1 : 50 ≠ T) (h2 : 65 ≠ T) (h3 : 69 ≠ T) (hs : w.heap.size ≤ w'.heap.size) (k : ∀ j, j ≠ X → w'.heap[j]? = w.heap[j]?) : TS w' q t tq d fvs := by
  refine ⟨fun i hi => (h.th i hi).keep hs fun j _ _ hc => k j ?_, h.inj, h.sep⟩
  obtain ⟨_, ci, hci⟩ := (h.th i hi).blk
  rcases hc with rfl | hc | ⟨c, hc⟩
  · exact ty_ne hci hX h1
  · obtain ⟨_, _, c2, e2⟩ := (h.th i hi).own hc
    exact ty_ne e2 hX h2
  · exact ty_ne hc hX h3
end Go.Proofs.Ytlahpnigabfenaa
