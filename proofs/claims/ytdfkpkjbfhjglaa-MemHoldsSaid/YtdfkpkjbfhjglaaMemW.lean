/- Layer 6: what is asked of a memory, however often it was asked before; a region that draws its order and asks it. -/
import Derived.Test.YtdfkpkjbfhjglaaMemN
namespace Go.Proofs.Ytdfkpkjbfhjglaa
open Go.RowKit
set_option linter.unusedVariables false
set_option linter.unusedSimpArgs false
set_option maxHeartbeats 1000000 in
theorem mreach1w (b g n C p cp : Nat) (f : Nat → Int) (acc a : Int) (flt : Bool) (w : World) (h : MemAt w b g n C f acc flt) (hp : w.cell? ⟨p, 0, none⟩ = some (.int .i64 a)) (hpb : p ≠ b) :
    Calls Try.prog 25 #[.pointer (some ⟨b, 0, none⟩), .slice (some ⟨p, 0, none⟩) 1 cp] w fun e w' => e = .returned (.bool (okA n a)) ∧ (∃ acc', MemAt w' b g n C f acc' (flt || !okA n a)) ∧ Only b b w w' := by
  have e0 := h.h0; have e1 := h.h1; have e2 := h.h2; have eb := h.hb
  have nC := h.nC; have cC := h.cC
  have hbp := hpb.symm
  have hM := Lib.hid h; clear h
  cases ha : okA n a
  · rcases (by have := okA_false ha; omega : a < 0 ∨ (0 ≤ a ∧ (n : Int) ≤ a)) with k | ⟨k, k'⟩
    all_goals
      refine Calls.veil fun Q HQ => ?_
      go_enter Try.func25, Try.ntmps25
      go_wp2
      refine wp_loop_rounds 1 ?_
      rw [rounds_succ]
      go_wp2
      (try go_ret)
      rw [HQ.out]
      exact ⟨rfl, ⟨_, by simpa using (hM.out.setAcc _).setFault⟩, ((Only.refl b b w).set1 _ _).set1 _ _⟩
  · obtain ⟨k, k'⟩ := okA_true ha
    refine Calls.veil fun Q HQ => ?_
    go_enter Try.func25, Try.ntmps25
    go_wp2
    refine wp_loop_rounds 2 ?_
    rw [rounds_succ]
    go_wp2
    rw [rounds_succ]
    go_wp2
    (try go_ret)
    rw [HQ.out]
    exact ⟨rfl, ⟨_, by simpa using (hM.out.setAcc _)⟩, ((Only.refl b b w).set1 _ _)⟩

set_option maxHeartbeats 1000000 in
theorem mreach2w (b g n C p cp : Nat) (f : Nat → Int) (acc a c : Int) (flt : Bool) (w : World) (h : MemAt w b g n C f acc flt) (hp : w.cell? ⟨p, 0, none⟩ = some (.int .i64 a)) (hq : w.cell? ⟨p, 1, none⟩ = some (.int .i64 c)) (hpb : p ≠ b) :
    Calls Try.prog 25 #[.pointer (some ⟨b, 0, none⟩), .slice (some ⟨p, 0, none⟩) 2 cp] w fun e w' => e = .returned (.bool (okA n a && okA n c)) ∧ (∃ acc', MemAt w' b g n C f acc' (flt || !(okA n a && okA n c))) ∧ Only b b w w' := by
  have e0 := h.h0; have e1 := h.h1; have e2 := h.h2; have eb := h.hb
  have nC := h.nC; have cC := h.cC
  have hbp := hpb.symm
  have hM := Lib.hid h; clear h
  cases ha : okA n a
  · rcases (by have := okA_false ha; omega : a < 0 ∨ (0 ≤ a ∧ (n : Int) ≤ a)) with k | ⟨k, k'⟩
    all_goals
      refine Calls.veil fun Q HQ => ?_
      go_enter Try.func25, Try.ntmps25
      go_wp2
      refine wp_loop_rounds 1 ?_
      rw [rounds_succ]
      go_wp2
      (try go_ret)
      rw [HQ.out]
      exact ⟨rfl, ⟨_, by simpa using (hM.out.setAcc _).setFault⟩, ((Only.refl b b w).set1 _ _).set1 _ _⟩
  · obtain ⟨k, k'⟩ := okA_true ha
    cases hc : okA n c
    · rcases (by have := okA_false hc; omega : c < 0 ∨ (0 ≤ c ∧ (n : Int) ≤ c)) with j | ⟨j, j'⟩
      all_goals
        refine Calls.veil fun Q HQ => ?_
        go_enter Try.func25, Try.ntmps25
        go_wp2
        refine wp_loop_rounds 2 ?_
        rw [rounds_succ]
        go_wp2
        rw [rounds_succ]
        go_wp2
        (try go_ret)
        rw [HQ.out]
        exact ⟨rfl, ⟨_, by simpa using (hM.out.setAcc _).setFault⟩, ((Only.refl b b w).set1 _ _).set1 _ _⟩
    · obtain ⟨j, j'⟩ := okA_true hc
      refine Calls.veil fun Q HQ => ?_
      go_enter Try.func25, Try.ntmps25
      go_wp2
      refine wp_loop_rounds 3 ?_
      rw [rounds_succ]
      go_wp2
      rw [rounds_succ]
      go_wp2
      rw [rounds_succ]
      go_wp2
      (try go_ret)
      rw [HQ.out]
      exact ⟨rfl, ⟨_, by simpa using (hM.out.setAcc _)⟩, ((Only.refl b b w).set1 _ _)⟩
theorem mloadw (b g n C : Nat) (f : Nat → Int) (acc a : Int) (flt : Bool) (w : World) (h : MemAt w b g n C f acc flt) :
    Calls Try.prog 18 #[.pointer (some ⟨b, 0, none⟩), .int .i64 a] w fun e w' => e = .returned (.int .u64 (ldI n f a)) ∧ (∃ acc', MemAt w' b g n C f acc' (flt || !okA n a)) ∧ Only b g w w' := by
  refine Calls.veil fun Q HQ => ?_
  go_enter Try.func18, Try.ntmps18
  go_wp2_with fail
  generalize hW : World.alloc w _ = W
  have hO : Only b g w W := by rw [← hW]; exact (Only.refl _ _ _).alloc _
  have hM : MemAt W b g n C f acc flt := by rw [← hW]; exact h.alloc _
  have hp : W.cell? ⟨w.heap.size, 0, none⟩ = some (.int .i64 a) := Ext.made_in hW (Below.refl _ _) 0 _ rfl
  clear hW
  have hbl := h.bl
  clear h
  refine (mreach1w b g n C _ _ f acc a flt W hM hp (by omega)).mono ?_; rintro _ w1 ⟨rfl, ⟨acc1, hM1⟩, hO1⟩
  have hO := hO.trans hO1.wide
  clear hM hp hO1
  cases ha : okA n a
  · rw [ha] at hM1
    go_wp2_with fail
    (try go_ret)
    rw [HQ.out]
    exact ⟨by simp [ha, ldI], ⟨_, by simpa [ha] using hM1⟩, hO⟩
  · obtain ⟨k, k'⟩ := okA_true ha
    rw [ha] at hM1
    obtain ⟨a, rfl⟩ := Int.eq_ofNat_of_zero_le k
    have k2 : a < n := by omega
    have e0 := hM1.h0; have e1 := hM1.row a k2
    have nC := hM1.nC; have cC := hM1.cC; have n2 := hM1.n2
    have hM := Lib.hid hM1; clear hM1
    go_wp2_with fail
    (try go_ret)
    rw [HQ.out]
    exact ⟨by simp [ha, ldI], ⟨_, by simpa [ha] using hM.out⟩, hO⟩
theorem mdcssw (b g n C : Nat) (f : Nat → Int) (acc q is a old x : Int) (flt : Bool) (w : World) (h : MemAt w b g n C f acc flt) (x0 : 0 ≤ x) (x1 : x < 18446744073709551616) :
    Calls Try.prog 19 #[.pointer (some ⟨b, 0, none⟩), .int .i64 q, .int .u64 is, .int .i64 a, .int .u64 old, .int .u64 x] w fun e w' => e = .returned (.bool (okA n q && okA n a && f q.toNat == is && f a.toNat == old)) ∧ (∃ acc', MemAt w' b g n C (if (okA n q && okA n a && f q.toNat == is && f a.toNat == old) = true then upd f a.toNat x else f) acc' (flt || !(okA n q && okA n a))) ∧ Only b g w w' := by
  refine Calls.veil fun Q HQ => ?_
  go_enter Try.func19, Try.ntmps19
  go_wp2_with fail
  generalize hW : World.alloc w _ = W
  have hO : Only b g w W := by rw [← hW]; exact (Only.refl _ _ _).alloc _
  have hM : MemAt W b g n C f acc flt := by rw [← hW]; exact h.alloc _
  have hp : W.cell? ⟨w.heap.size, 0, none⟩ = some (.int .i64 q) := Ext.made_in hW (Below.refl _ _) 0 _ rfl
  have hq : W.cell? ⟨w.heap.size, 1, none⟩ = some (.int .i64 a) := Ext.made_in hW (Below.refl _ _) 1 _ rfl
  clear hW
  have hbl := h.bl
  clear h
  refine (mreach2w b g n C _ _ f acc q a flt W hM hp hq (by omega)).mono ?_; rintro _ w1 ⟨rfl, ⟨acc1, hM1⟩, hO1⟩
  have hO := hO.trans hO1.wide
  clear hM hp hq hO1
  cases ha : (okA n q && okA n a)
  · rw [ha] at hM1
    go_wp2_with fail
    (try go_ret)
    rw [HQ.out]
    exact ⟨by simp [ha, ldI], ⟨_, by simpa [ha] using hM1⟩, hO⟩
  · obtain ⟨hq', ha'⟩ : okA n q = true ∧ okA n a = true := by simpa using ha
    obtain ⟨k, k'⟩ := okA_true ha'
    obtain ⟨j, j'⟩ := okA_true hq'
    rw [ha] at hM1
    obtain ⟨a, rfl⟩ := Int.eq_ofNat_of_zero_le k
    obtain ⟨q, rfl⟩ := Int.eq_ofNat_of_zero_le j
    have k2 : a < n := by omega
    have j2 : q < n := by omega
    have e0 := hM1.h0; have e1 := hM1.row q j2
    have nC := hM1.nC; have cC := hM1.cC; have n2 := hM1.n2
    have hM := Lib.hid hM1; clear hM1
    have HA := Lib.hid ha; have HA' := Lib.hid ha'; have HQ' := Lib.hid hq'
    clear ha ha' hq'
    cases he : f q == is
    · go_wp2_with fail
      (try go_ret)
      rw [HQ.out]
      exact ⟨by simp [HA'.out, HQ'.out, he], ⟨_, by simpa [HA'.out, HQ'.out, he] using hM.out⟩, hO⟩
    · go_wp2_with fail
      refine (mswap b g n C f _ a old x _ w1 hM.out k2 x0 x1).mono ?_; rintro _ w2 ⟨rfl, hM2, hO2⟩
      have hM := Lib.hid hM2; clear hM2
      go_wp2_with fail
      (try go_ret)
      rw [HQ.out]
      exact ⟨by simp [HA'.out, HQ'.out, he], ⟨_, by simpa [HA'.out, HQ'.out, he] using hM.out⟩, hO.trans hO2⟩
theorem mcasw (b g n C : Nat) (f : Nat → Int) (acc a old x : Int) (flt : Bool) (w : World) (h : MemAt w b g n C f acc flt) (x0 : 0 ≤ x) (x1 : x < 18446744073709551616) :
    Calls Try.prog 20 #[.pointer (some ⟨b, 0, none⟩), .int .i64 a, .int .u64 old, .int .u64 x] w fun e w' => e = .returned (.bool (okA n a && f a.toNat == old)) ∧ (∃ acc', MemAt w' b g n C (if (okA n a && f a.toNat == old) = true then upd f a.toNat x else f) acc' (flt || !okA n a)) ∧ Only b g w w' := by
  refine Calls.veil fun Q HQ => ?_
  go_enter Try.func20, Try.ntmps20
  go_wp2_with fail
  generalize hW : World.alloc w _ = W
  have hO : Only b g w W := by rw [← hW]; exact (Only.refl _ _ _).alloc _
  have hM : MemAt W b g n C f acc flt := by rw [← hW]; exact h.alloc _
  have hp : W.cell? ⟨w.heap.size, 0, none⟩ = some (.int .i64 a) := Ext.made_in hW (Below.refl _ _) 0 _ rfl
  clear hW
  have hbl := h.bl
  clear h
  refine (mreach1w b g n C _ _ f acc a flt W hM hp (by omega)).mono ?_; rintro _ w1 ⟨rfl, ⟨acc1, hM1⟩, hO1⟩
  have hO := hO.trans hO1.wide
  clear hM hp hO1
  cases ha : okA n a
  · rw [ha] at hM1
    go_wp2_with fail
    (try go_ret)
    rw [HQ.out]
    exact ⟨by simp [ha, ldI], ⟨_, by simpa [ha] using hM1⟩, hO⟩
  · obtain ⟨k, k'⟩ := okA_true ha
    rw [ha] at hM1
    obtain ⟨a, rfl⟩ := Int.eq_ofNat_of_zero_le k
    have k2 : a < n := by omega
    have hM := Lib.hid hM1; clear hM1
    go_wp2_with fail
    refine (mswap b g n C f _ a old x _ w1 hM.out k2 x0 x1).mono ?_; rintro _ w2 ⟨rfl, hM2, hO2⟩
    have hM := Lib.hid hM2; clear hM2
    go_wp2_with fail
    (try go_ret)
    rw [HQ.out]
    exact ⟨by simp [ha], ⟨_, by simpa [ha] using hM.out⟩, hO.trans hO2⟩
theorem mstorew (b g n C : Nat) (f : Nat → Int) (acc a x : Int) (flt : Bool) (w : World) (h : MemAt w b g n C f acc flt) (x0 : 0 ≤ x) (x1 : x < 18446744073709551616) :
    Calls Try.prog 21 #[.pointer (some ⟨b, 0, none⟩), .int .i64 a, .int .u64 x] w fun e w' => e = .returned (.tuple #[]) ∧ (∃ acc', MemAt w' b g n C (if okA n a = true then upd f a.toNat x else f) acc' (flt || !okA n a)) ∧ Only b g w w' := by
  refine Calls.veil fun Q HQ => ?_
  go_enter Try.func21, Try.ntmps21
  go_wp2_with fail
  generalize hW : World.alloc w _ = W
  have hO : Only b g w W := by rw [← hW]; exact (Only.refl _ _ _).alloc _
  have hM : MemAt W b g n C f acc flt := by rw [← hW]; exact h.alloc _
  have hp : W.cell? ⟨w.heap.size, 0, none⟩ = some (.int .i64 a) := Ext.made_in hW (Below.refl _ _) 0 _ rfl
  clear hW
  have hbl := h.bl
  clear h
  refine (mreach1w b g n C _ _ f acc a flt W hM hp (by omega)).mono ?_; rintro _ w1 ⟨rfl, ⟨acc1, hM1⟩, hO1⟩
  have hO := hO.trans hO1.wide
  clear hM hp hO1
  cases ha : okA n a
  · rw [ha] at hM1
    go_wp2_with fail
    refine bodyPost_end (v := .tuple #[]) (by simp [results, Try.results21, go_sem]) rfl ?_
    rw [HQ.out]
    exact ⟨rfl, ⟨_, by simpa [ha] using hM1⟩, hO⟩
  · obtain ⟨k, k'⟩ := okA_true ha
    rw [ha] at hM1
    obtain ⟨a, rfl⟩ := Int.eq_ofNat_of_zero_le k
    have k2 : a < n := by omega
    have e0 := hM1.h0; have e1 := hM1.row a k2; have eg := hM1.hg
    have nC := hM1.nC; have cC := hM1.cC; have n2 := hM1.n2
    have hM := Lib.hid hM1; clear hM1
    go_wp2_with fail
    refine bodyPost_end (v := .tuple #[]) (by simp [results, Try.results21, go_sem]) rfl ?_
    rw [HQ.out]
    exact ⟨rfl, ⟨_, by simpa [ha] using hM.out.store k2 x0 x1⟩, hO.set2 _ _⟩
theorem maddw (b g n C : Nat) (f : Nat → Int) (acc a x : Int) (flt : Bool) (w : World) (h : MemAt w b g n C f acc flt) (x0 : 0 ≤ x) (x1 : x < 18446744073709551616) :
    Calls Try.prog 22 #[.pointer (some ⟨b, 0, none⟩), .int .i64 a, .int .u64 x] w fun e w' => e = .returned (.int .u64 (ldI n f a)) ∧ (∃ acc', MemAt w' b g n C (if okA n a = true then upd f a.toNat (addI (f a.toNat) x) else f) acc' (flt || !okA n a)) ∧ Only b g w w' := by
  refine Calls.veil fun Q HQ => ?_
  go_enter Try.func22, Try.ntmps22
  go_wp2_with fail
  generalize hW : World.alloc w _ = W
  have hO : Only b g w W := by rw [← hW]; exact (Only.refl _ _ _).alloc _
  have hM : MemAt W b g n C f acc flt := by rw [← hW]; exact h.alloc _
  have hp : W.cell? ⟨w.heap.size, 0, none⟩ = some (.int .i64 a) := Ext.made_in hW (Below.refl _ _) 0 _ rfl
  clear hW
  have hbl := h.bl
  clear h
  refine (mreach1w b g n C _ _ f acc a flt W hM hp (by omega)).mono ?_; rintro _ w1 ⟨rfl, ⟨acc1, hM1⟩, hO1⟩
  have hO := hO.trans hO1.wide
  clear hM hp hO1
  cases ha : okA n a
  · rw [ha] at hM1
    go_wp2_with fail
    (try go_ret)
    rw [HQ.out]
    exact ⟨by simp [ha, ldI], ⟨_, by simpa [ha] using hM1⟩, hO⟩
  · obtain ⟨k, k'⟩ := okA_true ha
    rw [ha] at hM1
    obtain ⟨a, rfl⟩ := Int.eq_ofNat_of_zero_le k
    have k2 : a < n := by omega
    have e0 := hM1.h0; have e1 := hM1.row a k2; have eg := hM1.hg
    have nC := hM1.nC; have cC := hM1.cC; have n2 := hM1.n2
    have r1 := hM1.rng a k2
    obtain ⟨r1, r2⟩ := r1
    have hM := Lib.hid hM1; clear hM1
    go_wp2_with fail
    (try go_ret)
    rw [HQ.out]
    refine ⟨by simp [ha, ldI], ⟨acc1, ?_⟩, hO.set2 _ _⟩
    have hr : 0 ≤ addI (f a) x ∧ addI (f a) x < 18446744073709551616 := addI_range _ _
    have := hM.out.store k2 hr.1 hr.2
    simpa [ha, orI, addI] using this

/-- The worlds in which a memory's words are f, and all else is as W had it. -/
structure MW (W : World) (b g n C : Nat) (f : Nat → Int) where
  w : World
  h : Only b g W w
  m : ∃ acc flt, MemAt w b g n C f acc flt
theorem MW.cells {W : World} {b g n C : Nat} {f : Nat → Int} {c i : Nat} {v : Value} (h : W.cell? ⟨c, i, none⟩ = some v) (h1 : c ≠ b) (h2 : c ≠ g) : ∀ x : MW W b g n C f, x.w.cell? ⟨c, i, none⟩ = some v := fun x => x.h.cell h h1 h2
theorem mw_region {P : Program} {id : Nat} {Q : Exit → Act → World → Prop} {a : Act} {W : World} {b g n C : Nat} {f : Nat → Int} (x0 : MW W b g n C f) {l : List Oper} (hm : P.follows .mixedOrders = true) (hB : Region.lexB .any l.toArray = true)
    (h : wpQuiet P l.toArray (fun w' => ∃ x : MW W b g n C f, w' = x.w) (fun a' => ∀ w', (∃ x : MW W b g n C f, w' = x.w) → Q .normal a' w') l a) : (Code.region id l.toArray true).wp P Q a x0.w :=
  wp_region_quiet (C := fun w' => ∃ x : MW W b g n C f, w' = x.w) hm hB ⟨⟨{ x0.w with drawn := x0.w.drawn + 1 }, x0.h.trans ⟨rfl, rfl, rfl, Nat.le_refl _, fun _ _ _ _ => rfl⟩, by obtain ⟨acc, flt, hM⟩ := x0.m; exact ⟨acc, flt, hM.below ⟨rfl, rfl, rfl, Nat.le_refl _, fun _ _ => rfl⟩⟩⟩, rfl⟩ (by simpa using h)
theorem mw_load {W : World} {b g n C : Nat} {f : Nat → Int} (x : MW W b g n C f) (a : Int) : Calls Try.prog 18 #[.pointer (some ⟨b, 0, none⟩), .int .i64 a] x.w fun e w' => e = .returned (.int .u64 (ldI n f a)) ∧ ∃ y : MW W b g n C f, w' = y.w := by
  obtain ⟨acc, flt, hM⟩ := x.m
  exact (mloadw b g n C f acc a flt x.w hM).mono fun _ w' ⟨he, ⟨acc', h1⟩, hO⟩ => ⟨he, ⟨w', x.h.trans hO, _, _, h1⟩, rfl⟩
theorem mw_dcss {W : World} {b g n C : Nat} {f : Nat → Int} (x : MW W b g n C f) (q is a old z : Int) (hn : (okA n q && okA n a && f q.toNat == is && f a.toNat == old) = false) (z0 : 0 ≤ z) (z1 : z < 18446744073709551616) :
    Calls Try.prog 19 #[.pointer (some ⟨b, 0, none⟩), .int .i64 q, .int .u64 is, .int .i64 a, .int .u64 old, .int .u64 z] x.w fun e w' => e = .returned (.bool false) ∧ ∃ y : MW W b g n C f, w' = y.w := by
  obtain ⟨acc, flt, hM⟩ := x.m
  refine (mdcssw b g n C f acc q is a old z flt x.w hM z0 z1).mono ?_
  rintro _ w' ⟨he, ⟨acc', h1⟩, hO⟩
  rw [hn] at he h1
  have h2 : MemAt w' b g n C f acc' (flt || !(okA n q && okA n a)) := by simpa using h1
  exact ⟨he, ⟨w', x.h.trans hO, acc', _, h2⟩, rfl⟩
end Go.Proofs.Ytdfkpkjbfhjglaa
