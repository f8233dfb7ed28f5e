/- Layer 14: May, of both. -/
import Derived.Test.YtnikggdnlijkkaaScrI
namespace Go.Proofs.Ytnikggdnlijkkaa
open Go.RowKit WordM
set_option linter.unusedVariables false
set_option linter.unusedSimpArgs false
theorem econt (n : Nat) (L : Nat → Ent) (v : Value) (w : World) (h : ER w v n L) (hn : n ≤ 100000) : Calls Try.prog 28 #[v, .func (.func 29) #[] #[]] w fun e w' => e = .returned (.bool (!allR L n)) ∧ Below w.heap.size w w' := by
  refine Calls.veil fun Q HQ => ?_
  go_enter Try.func28, Try.ntmps28
  go_wp2_with fail
  refine (eindex n L _ _ h hn).mono ?_; rintro _ w1 ⟨r, rfl, hr, hb⟩
  have HR := Lib.hid hr
  clear hr
  go_wp2_with fail
  (try go_ret)
  rw [HQ.out, ← HR.out]
  exact ⟨by simp, hb⟩
def mayS (T S K : Int) (n : Nat) (L : Nat → Ent) : Bool := mayC T S K && decide (n ≤ 60000) && allR L n
set_option maxHeartbeats 2000000 in
theorem smay (T S K : Int) (n : Nat) (L : Nat → Ent) (v : Value) (w : World) (h : ER w v n L) (hn : n ≤ 100000) : Calls Try.prog 18 #[.agg #[.int .i64 T, .int .i64 S, .int .u64 K, v]] w fun e w' => e = .returned (.bool (mayS T S K n L)) ∧ Below w.heap.size w w' := by
  refine Calls.veil fun Q HQ => ?_
  have HE := Lib.hid h
  obtain ⟨p, c, rfl, a1, a2, A3⟩ := h.parts
  clear h A3
  go_enter Try.func18, Try.ntmps18
  go_wp2_with fail
  generalize hV : World.alloc w _ = V
  have z3 : ∀ x : Ext V, x.w.cell? ⟨w.heap.size, 3, none⟩ = some (.slice p n c) := Ext.made hV 3 _ rfl
  have HB := Lib.hid (show Below w.heap.size w V by rw [← hV]; (repeat (first | exact Below.refl _ _ | assumption | refine below_new ?_ _ | refine Below.drew ?_ | refine below_drewN ?_ _ | refine below_on ?_ (by assumption))))
  clear hV
  refine (pmay_calls T S K _).mono ?_; rintro _ w1 ⟨rfl, hb⟩
  have c3 := z3 ⟨w1, hb⟩
  simp only at c3
  have HB1 := Lib.hid (below_on HB.out hb)
  clear z3 hb
  have HM := Lib.hid (show mayS T S K n L = (mayC T S K && decide (n ≤ 60000) && allR L n) from rfl)
  generalize mayS T S K n L = r at HM HQ
  cases hm : mayC T S K with
  | false =>
    rw [hm] at HM
    clear hm
    go_wp2_with fail
    (try go_ret)
    rw [HQ.out]
    exact ⟨by rw [HM.out]; rfl, HB1.out⟩
  | true =>
    rw [hm] at HM
    clear hm
    rcases (by omega : n ≤ 60000 ∨ 60000 < n) with hl | hl
    · have HM2 := Lib.hid (show r = allR L n by rw [HM.out, decide_eq_true hl]; rfl)
      clear HM
      go_wp2_with fail
      refine (econt n L _ _ (HE.out.below HB1.out) hn).mono ?_; rintro _ w2 ⟨rfl, hb2⟩
      have HB2 := Lib.hid (below_on HB1.out hb2)
      clear hb2 c3
      generalize allR L n = r2 at *
      go_wp2_with fail
      (try go_ret)
      rw [HQ.out]
      exact ⟨by rw [HM2.out]; simp, HB2.out⟩
    · have HM2 := Lib.hid (show r = false by rw [HM.out, decide_eq_false (by omega)]; rfl)
      clear HM
      go_wp2_with fail
      (try go_ret)
      rw [HQ.out]
      exact ⟨by rw [HM2.out], HB1.out⟩
end Go.Proofs.Ytnikggdnlijkkaa
