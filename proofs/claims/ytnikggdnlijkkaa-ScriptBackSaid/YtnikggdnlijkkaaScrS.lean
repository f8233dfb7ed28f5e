/- Layer 14: slices.Equal over entries; script.Same. -/
import Derived.Test.YtnikggdnlijkkaaScrN
namespace Go.Proofs.Ytnikggdnlijkkaa
open Go.RowKit WordM
set_option linter.unusedVariables false
set_option linter.unusedSimpArgs false
set_option maxHeartbeats 4000000 in
theorem eequal (n n' : Nat) (L M : Nat → Ent) (va vb : Value) (w : World) (ha : ER w va n L) (hb : ER w vb n' M) (hn : n ≤ 100000) :
    Calls Try.prog 21 #[va, vb] w fun e w' => e = .returned (.bool (decide (n = n') && sameR L M n)) ∧ Below w.heap.size w w' := by
  by_cases hl : n = n'
  · subst hl
    rw [show (decide (n = n) && sameR L M n) = sameR L M n by simp]
    refine Calls.veil fun Q HQ => ?_
    obtain ⟨p, c, rfl, a1, a2, A3⟩ := ha.parts
    obtain ⟨p', c', rfl, b1, b2, B3⟩ := hb.parts
    clear ha hb
    obtain ⟨r, hr⟩ : ∃ r, r = sameR L M n := ⟨_, rfl⟩
    rw [← hr] at HQ
    have HR := Lib.hid hr
    clear hr
    go_enter Try.func21, Try.ntmps21
    go_wp2_with fail
    go_loopw [13] (fun iv wr => ∃ i : Nat, i ≤ n ∧ iv = .int .i64 i ∧ Hid (sameR L M i = true) ∧ Below w.heap.size w wr)
      (fun iv _ => n - (intOf iv).toNat)
    case atStart => exact ⟨0, by omega, rfl, Lib.hid rfl, Below.refl _ _⟩
    case round =>
      obtain ⟨i, hi, rfl, HA, hbx⟩ := hrel
      rcases (by omega : i < n ∨ i = n) with hlt | heq
      · obtain ⟨g, o, rfl, hA⟩ := A3.out (by omega)
        obtain ⟨g', o', rfl, hB⟩ := B3.out (by omega)
        have hA := (hA.below hbx).cells i hlt
        have hB := (hB.below hbx).cells i hlt
        have HAS := Lib.hid (sameR_succ L M i)
        have HAN : Hid (sameEnt (L i) (M i) = false → sameR L M n = false) := Lib.hid fun h => by
          unfold sameR
          rw [List.all_eq_false]
          exact ⟨i, by simpa using hlt, by simp [h]⟩
        have HX := Lib.hid hbx
        clear hbx
        cases hq : sameEnt (L i) (M i) with
        | true =>
          have HA1 : Hid (sameR L M (i + 1) = true) := by rw [HAS.out, HA.out, hq]; exact Lib.hid rfl
          have he := sameEnt_eq hq
          rw [← he] at hB
          clear HAS HAN hq he
          generalize L i = e at hA hB
          obtain ⟨th, bg, op, key, val, hi2, lim⟩ := e
          simp only at hA hB
          obtain ⟨x0, x1, x2, x3, x4, x5, x6⟩ := hA
          obtain ⟨y0, y1, y2, y3, y4, y5, y6⟩ := hB
          have x0 := Ext.drewN x0; have x1 := Ext.drewN x1; have x2 := Ext.drewN x2; have x3 := Ext.drewN x3; have x4 := Ext.drewN x4; have x5 := Ext.drewN x5; have x6 := Ext.drewN x6
          have y0 := Ext.drewN y0; have y1 := Ext.drewN y1; have y2 := Ext.drewN y2; have y3 := Ext.drewN y3; have y4 := Ext.drewN y4; have y5 := Ext.drewN y5; have y6 := Ext.drewN y6
          go_upto_region 6 with fail
          go_quiet (fail)
          go_wp2_with fail
          go_roundw
          case rel => exact ⟨i + 1, by omega, by go_num, HA1, below_drewN HX.out nq⟩
          case measure => simp [intOf]; omega
        | false =>
          have HA1 : Hid (r = false) := Lib.hid (HR.out.trans (HAN.out hq))
          have HNE := Lib.hid hq
          clear HAS HAN hq
          generalize L i = e at hA HNE
          generalize M i = e' at hB HNE
          obtain ⟨th, bg, op, key, val, hi2, lim⟩ := e
          obtain ⟨th', bg', op', key', val', hi2', lim'⟩ := e'
          simp only at hA hB
          obtain ⟨x0, x1, x2, x3, x4, x5, x6⟩ := hA
          obtain ⟨y0, y1, y2, y3, y4, y5, y6⟩ := hB
          have x0 := Ext.drewN x0; have x1 := Ext.drewN x1; have x2 := Ext.drewN x2; have x3 := Ext.drewN x3; have x4 := Ext.drewN x4; have x5 := Ext.drewN x5; have x6 := Ext.drewN x6
          have y0 := Ext.drewN y0; have y1 := Ext.drewN y1; have y2 := Ext.drewN y2; have y3 := Ext.drewN y3; have y4 := Ext.drewN y4; have y5 := Ext.drewN y5; have y6 := Ext.drewN y6
          have HF := Lib.hid (fun nq => below_drewN HX.out nq)
          have hneq := fun w => neqE th bg op key val hi2 lim th' bg' op' key' val' hi2' lim' w (of_decide_eq_false HNE.out)
          clear HNE
          go_upto_region 6 with fail
          go_quiet (fail)
          go_wp2_with fail
          (try go_ret)
          rw [HQ.out]
          exact ⟨by first | (rw [HA1.out]; done) | (rw [HA1.out]; rfl), HF.out _⟩
      · have hge : n ≤ i := by omega
        have HA1 : Hid (r = true) := by rw [HR.out, ← heq]; exact HA
        have HX := Lib.hid hbx
        clear heq hbx
        go_wp2_with fail
        (try go_ret)
        rw [HQ.out]
        exact ⟨by first | (rw [HA1.out]; done) | (rw [HA1.out]; rfl), HX.out⟩
  · rw [show (decide (n = n') && sameR L M n) = false by simp [hl]]
    refine Calls.veil fun Q HQ => ?_
    obtain ⟨p, c, rfl, a1, a2⟩ := ha.slice
    obtain ⟨p', c', rfl, b1, b2⟩ := hb.slice
    clear ha hb
    go_enter Try.func21, Try.ntmps21
    go_wp2_with fail
    all_goals (try go_ret)
    all_goals (rw [HQ.out]; exact ⟨rfl, by (repeat (first | exact Below.refl _ _ | assumption | refine below_new ?_ _ | refine Below.drew ?_ | refine below_drewN ?_ _ | refine below_on ?_ (by assumption)))⟩)
end Go.Proofs.Ytnikggdnlijkkaa
