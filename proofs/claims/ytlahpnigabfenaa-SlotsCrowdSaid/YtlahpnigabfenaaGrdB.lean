/- Layer 7: a guard's Take and New. -/
import Derived.Test.YtlahpnigabfenaaGrdA
import Derived.Laws.MakeOwn
import Derived.Carry
import Derived.Deep.Cut
namespace Go.Proofs.Ytlahpnigabfenaa.Gd
open Go.RowKit Go.Maps WordM EdgeM
set_option linter.unusedVariables false
set_option linter.unusedSimpArgs false
theorem slotL_ne {i j : Nat} (h : j ≠ i) : slotL j ≠ slotL i := by
  intro e; unfold slotL at e; injection e; omega
theorem slotL_key {i : Nat} (hi : i < 250) : keyOf Try.prog 3 (.int .i64 ((i : Int) + 1)) = some (slotL i) := keyOf_int_mk uInt (WalkArith.wf_i64 (by omega))
def uD : DataW Unit := .agg []
theorem GA.put {w w' : World} {q g m n : Nat} {H : Nat → Bool} {G : Nat → Int} {s : Int} (h : GA w q g m n H G s) {i : Nat} (hi : i < n) (hf : H i = false) {D : DataW Unit} {k : Nat} (hm : w.ownsMap Try.prog 3 (unitElem (H := Unit)) m k D) (hD : ∀ i, i < n → Maps.has D (slotL i) = H i) (hs : Maps.size D = cntB H n)
    (hw : w'.ownsMap Try.prog 3 (unitElem (H := Unit)) m (k + 1) (D.put (slotL i) uD)) (hg : w.grownBy w' (some m)) : GA w' q g m n (setB H i true) G s := by
  obtain ⟨l1, l2, l3⟩ := h.lt
  have hsz : Maps.size (D.put (slotL i) uD) = cntB (setB H i true) n := by
    rw [size_put (hm.tidy gLaw), hD i hi, hf, hs]
    have := cntB_set H i true n hi
    rw [hf] at this
    simp at this ⊢; omega
  refine ⟨h.obj.of (hg.block _ l1 (by intro e; cases e; exact h.g3 rfl)), h.gens.of (hg.block _ l2 (by intro e; cases e; exact h.g2 rfl)), ⟨_, (owns_tight hw).mono (by rw [hsz]; exact cntB_le _ _), fun j hj => ?_, hsz⟩, h.g1, h.g2, h.g3, h.n0, h.n1, h.gb, h.sb⟩
  by_cases e : j = i
  · subst e
    rw [has_put_same hm.isMap (show WideAt.IsKeyLit (slotL j) from trivial)]; unfold setB; rw [if_pos rfl]
  · rw [has_put_other (slotL_ne e), hD j hj]; unfold setB; rw [if_neg e]
theorem GA.del {w w' : World} {q g m n : Nat} {H : Nat → Bool} {G : Nat → Int} {s : Int} (h : GA w q g m n H G s) {i : Nat} (hi : i < n) (hf : H i = true) {D : DataW Unit} {k : Nat} (hm : w.ownsMap Try.prog 3 (unitElem (H := Unit)) m k D) (hD : ∀ i, i < n → Maps.has D (slotL i) = H i) (hs : Maps.size D = cntB H n)
    (hw : w'.ownsMap Try.prog 3 (unitElem (H := Unit)) m k (D.del (slotL i))) (hg : w.grownBy w' (some m)) : GA w' q g m n (setB H i false) G s := by
  obtain ⟨l1, l2, l3⟩ := h.lt
  have hsz : Maps.size (D.del (slotL i)) = cntB (setB H i false) n := by
    have h1 := size_del (k := slotL i) (hm.tidy gLaw)
    rw [hD i hi, hf, hs] at h1
    have := cntB_set H i false n hi
    rw [hf] at this
    simp at this h1 ⊢; omega
  refine ⟨h.obj.of (hg.block _ l1 (by intro e; cases e; exact h.g3 rfl)), h.gens.of (hg.block _ l2 (by intro e; cases e; exact h.g2 rfl)), ⟨_, (owns_tight hw).mono (by rw [hsz]; exact cntB_le _ _), fun j hj => ?_, hsz⟩, h.g1, h.g2, h.g3, h.n0, h.n1, h.gb, h.sb⟩
  by_cases e : j = i
  · subst e
    rw [has_del_same]; unfold setB; rw [if_pos rfl]
  · rw [has_del_other (slotL_ne e), hD j hj]; unfold setB; rw [if_neg e]
theorem GA.look {w : World} {q g m n : Nat} {H : Nat → Bool} {G : Nat → Int} {s : Int} (h : GA w q g m n H G s) {i : Nat} (hi : i < n) : (Instr.lookup 105 (.map (some m)) (.int .i64 ((i : Int) + 1)) true).run Try.prog w = .ok (.tuple #[.agg #[], .bool (H i)]) w := by
  obtain ⟨D, h1, h2, _⟩ := h.held
  obtain ⟨v, ps, hr, hv⟩ := h1.look_ok gLaw uMap (zUnit w) unitElem_mk (slotL_key (i := i) (by have := h.n1; omega))
  obtain ⟨rfl, _⟩ := unitElem_inv hv
  rw [hr, h2 i hi]
theorem GA.take {w : World} {q g m n : Nat} {H : Nat → Bool} {G : Nat → Int} {s : Int} (h : GA w q g m n H G s) {i : Nat} (hi : i < n) (hf : H i = false) : ∃ w', (Instr.mapUpdate 105 (.map (some m)) (.int .i64 ((i : Int) + 1)) (.agg #[])).run Try.prog w = .ok () w' ∧ GA w' q g m n (setB H i true) G s ∧ K3 w w' q g m := by
  obtain ⟨D, h1, h2, h3⟩ := h.held
  obtain ⟨w', hr, hw, hg⟩ := h1.update gLaw uMap (by have := h.n1; unfold maxLen; omega) (slotL_key (i := i) (by have := h.n1; omega)) unitElem_mk
  exact ⟨w', hr, h.put hi hf h1 h2 h3 hw hg, .of_grown hg (.inr (.inr rfl))⟩
theorem GA.drop {w : World} {q g m n : Nat} {H : Nat → Bool} {G : Nat → Int} {s : Int} (h : GA w q g m n H G s) {i : Nat} (hi : i < n) (hf : H i = true) (ty : TypeId) : ∃ w', (Builtin.delete_ #[105, 3] ty #[.map (some m), .int .i64 ((i : Int) + 1)]).run Try.prog w = .ok (.tuple #[]) w' ∧ GA w' q g m n (setB H i false) G s ∧ K3 w w' q g m := by
  obtain ⟨D, h1, h2, h3⟩ := h.held
  obtain ⟨w', hr, hw, hg⟩ := h1.drop gLaw uMap (slotL_key (i := i) (by have := h.n1; omega)) ty
  exact ⟨w', hr, h.del hi hf h1 h2 h3 hw hg.grown, .of_grown hg.grown (.inr (.inr rfl))⟩
def canT (n : Nat) (H : Nat → Bool) (slot : Int) : Bool := decide (1 ≤ slot ∧ slot ≤ n) && !H (slot.toNat - 1)
def takeH (n : Nat) (H : Nat → Bool) (slot : Int) : Nat → Bool := if canT n H slot = true then setB H (slot.toNat - 1) true else H
set_option maxRecDepth 8000 in
set_option maxHeartbeats 2000000 in
theorem gtake {w : World} {q g m n : Nat} {H : Nat → Bool} {G : Nat → Int} {s : Int} (h : GA w q g m n H G s) (slot : Int) (hs : s < 1000000) :
    Calls Try.prog 32 #[.pointer (some ⟨q, 0, none⟩), .int .i64 slot] w fun e w' => e = .returned (.bool (canT n H slot)) ∧ GA w' q g m n (takeH n H slot) G (if canT n H slot = true then s else s + 1) ∧ K3 w w' q g m := by
  refine Calls.veil fun Q HQ => ?_
  have HH := Lib.hid h
  have c1 := h.c1
  have n1 := h.n1
  clear h
  by_cases q1 : 1 ≤ slot ∧ slot ≤ n
  · obtain ⟨i, hi⟩ : ∃ i : Nat, slot = i + 1 := ⟨slot.toNat - 1, by omega⟩
    subst hi
    have hin : i < n := by omega
    have HD := Lib.hid (show decide (1 ≤ (i : Int) + 1 ∧ (i : Int) + 1 ≤ n) = true from decide_eq_true q1)
    have HI := Lib.hid (show ((i : Int) + 1).toNat - 1 = i by omega)
    clear q1
    have hlk := HH.out.look hin
    cases hf : H i with
    | true =>
      have HC := Lib.hid (show canT n H ((i : Int) + 1) = false by unfold canT; rw [HD.out, HI.out, hf]; rfl)
      rw [hf] at hlk
      go_enter Try.func32, Try.ntmps32
      go_wp2_with fail
      refine (ghas HH.out _).mono ?_; rintro _ _ ⟨rfl, rfl⟩
      rw [HD.out]
      go_wp2_with fail
      generalize hV : World.alloc _ _ = V
      have HB := Lib.hid (show Below w.heap.size w V by rw [← hV]; exact (Below.refl _ _).alloc (Nat.le_refl _) _)
      clear hV
      refine (gslip (HH.out.below HB.out) hs).mono ?_; rintro _ z ⟨rfl, h1, h2⟩
      have H1 := Lib.hid h1
      have H2 := Lib.hid h2
      clear h1 h2
      go_wp2_with fail
      (try go_ret)
      rw [HQ.out]
      refine ⟨by rw [HC.out]; rfl, ?_, (K3.of_below HB.out q g m).trans H2.out⟩
      unfold takeH
      rw [HC.out]
      exact H1.out
    | false =>
      have HC := Lib.hid (show canT n H ((i : Int) + 1) = true by unfold canT; rw [HD.out, HI.out, hf]; rfl)
      have HF := Lib.hid hf
      rw [hf] at hlk
      go_enter Try.func32, Try.ntmps32
      go_wp2_with fail
      refine (ghas HH.out _).mono ?_; rintro _ _ ⟨rfl, rfl⟩
      rw [HD.out]
      go_upto_region 6 with fail
      generalize hV : World.alloc _ _ = V
      have HB := Lib.hid (show Below w.heap.size w V by rw [← hV]; exact (Below.refl _ _).alloc (Nat.le_refl _) _)
      clear hV
      have HV := Lib.hid (HH.out.below HB.out)
      have c1 := HV.out.c1
      obtain ⟨W, hrun, h1, h2⟩ := HV.out.take hin HF.out
      have H1 := Lib.hid h1
      have H2 := Lib.hid h2
      clear h1 h2 hlk
      go_wp2_with fail
      (try go_ret)
      rw [HQ.out]
      refine ⟨by rw [HC.out]; rfl, ?_, (K3.of_below HB.out q g m).trans H2.out⟩
      unfold takeH
      rw [HC.out, if_pos rfl, if_pos rfl, HI.out]
      exact H1.out
  · have HD := Lib.hid (show decide (1 ≤ slot ∧ slot ≤ n) = false from decide_eq_false q1)
    have HC := Lib.hid (show canT n H slot = false by unfold canT; rw [HD.out]; rfl)
    clear q1
    go_enter Try.func32, Try.ntmps32
    go_wp2_with fail
    refine (ghas HH.out _).mono ?_; rintro _ _ ⟨rfl, rfl⟩
    rw [HD.out]
    go_wp2_with fail
    refine (gslip HH.out hs).mono ?_; rintro _ z ⟨rfl, h1, h2⟩
    have H1 := Lib.hid h1
    have H2 := Lib.hid h2
    clear h1 h2
    go_wp2_with fail
    (try go_ret)
    rw [HQ.out]
    refine ⟨by rw [HC.out]; rfl, ?_, H2.out⟩
    unfold takeH
    rw [HC.out]
    exact H1.out
end Go.Proofs.Ytlahpnigabfenaa.Gd
