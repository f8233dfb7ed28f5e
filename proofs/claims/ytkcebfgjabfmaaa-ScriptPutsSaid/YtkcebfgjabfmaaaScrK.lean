/- Layer 14: the reference's May. -/
import Derived.Test.YtkcebfgjabfmaaaScrJ
namespace Go.Proofs.Ytkcebfgjabfmaaa
open Go.RowKit WordM
set_option linter.unusedVariables false
set_option linter.unusedSimpArgs false
theorem rmayC (T S K : Int) (w : World) : Calls Try.prog 18 #[.agg #[.int .i64 T, .int .i64 S, .int .u64 K]] w fun e w' => e = .returned (.bool (mayC T S K)) ∧ Below w.heap.size w w' := by
  rcases (by omega : T < 1 ∨ (1 ≤ T ∧ 6 < T) ∨ (1 ≤ T ∧ T ≤ 6 ∧ S < 7) ∨ (1 ≤ T ∧ T ≤ 6 ∧ 7 ≤ S ∧ 250 < S) ∨ (1 ≤ T ∧ T ≤ 6 ∧ 7 ≤ S ∧ S ≤ 250 ∧ K < 1) ∨ (1 ≤ T ∧ T ≤ 6 ∧ 7 ≤ S ∧ S ≤ 250 ∧ 1 ≤ K ∧ 1099511627776 < K) ∨ (1 ≤ T ∧ T ≤ 6 ∧ 7 ≤ S ∧ S ≤ 250 ∧ 1 ≤ K ∧ K ≤ 1099511627776)) with h1 | ⟨h1, h2⟩ | ⟨h1, h2, h3⟩ | ⟨h1, h2, h3, h4⟩ | ⟨h1, h2, h3, h4, h5⟩ | ⟨h1, h2, h3, h4, h5, h6⟩ | ⟨h1, h2, h3, h4, h5, h6⟩
  all_goals
    first
      | have HM := Lib.hid (show mayC T S K = true from decide_eq_true ⟨h1, h2, h3, h4, h5, h6⟩)
      | have HM := Lib.hid (show mayC T S K = false from decide_eq_false (by omega))
    go_enter Try.func18, Try.ntmps18
    go_wp2
    go_ret
    exact ⟨by rw [HM.out]; first | rfl | (simp; done) | (simp; omega), by (repeat (first | exact Below.refl _ _ | assumption | refine below_new ?_ _ | refine Below.drew ?_ | refine below_drewN ?_ _ | refine below_on ?_ (by assumption)))⟩
set_option maxHeartbeats 2000000 in
theorem rmay14 (T S K : Int) (n : Nat) (L : Nat → Ent) (v : Value) (w : World) (h : ER w v n L) (hn : n ≤ 100000) : Calls Try.prog 10 #[.agg #[.int .i64 T, .int .i64 S, .int .u64 K, v]] w fun e w' => e = .returned (.bool (mayS T S K n L)) ∧ Below w.heap.size w w' := by
  refine Calls.veil fun Q HQ => ?_
  obtain ⟨p, c, rfl, a1, a2, A3⟩ := h.parts
  clear h
  have HM := Lib.hid (show mayS T S K n L = (mayC T S K && decide (n ≤ 60000) && allR L n) from rfl)
  generalize mayS T S K n L = r at HM HQ
  go_enter Try.func10, Try.ntmps10
  go_wp2_with fail
  generalize hV : World.alloc w _ = V
  have z0 : ∀ x : Ext V, x.w.cell? ⟨w.heap.size, 0, none⟩ = some (.int .i64 T) := Ext.made hV 0 _ rfl
  have z1 : ∀ x : Ext V, x.w.cell? ⟨w.heap.size, 1, none⟩ = some (.int .i64 S) := Ext.made hV 1 _ rfl
  have z2 : ∀ x : Ext V, x.w.cell? ⟨w.heap.size, 2, none⟩ = some (.int .u64 K) := Ext.made hV 2 _ rfl
  have z3 : ∀ x : Ext V, x.w.cell? ⟨w.heap.size, 3, none⟩ = some (.slice p n c) := Ext.made hV 3 _ rfl
  have HB := Lib.hid (show Below w.heap.size w V by rw [← hV]; (repeat (first | exact Below.refl _ _ | assumption | refine below_new ?_ _ | refine Below.drew ?_ | refine below_drewN ?_ _ | refine below_on ?_ (by assumption))))
  clear hV
  have Z := Lib.hid (And.intro z0 (And.intro z1 (And.intro z2 z3)))
  clear z0 z1 z2 z3
  go_loopw [3] (fun iv wr => ∃ i : Nat, i ≤ n ∧ iv = .int .i64 i ∧ Hid (allR L i = true) ∧ Below V.heap.size V wr)
    (fun iv _ => n - (intOf iv).toNat)
  case atStart => exact ⟨0, by omega, rfl, Lib.hid rfl, Below.refl _ _⟩
  case round =>
    obtain ⟨i, hi, rfl, HA, hbx⟩ := hrel
    have s3 := Z.out.2.2.2 ⟨wr, hbx⟩
    simp only at s3
    rcases (by omega : i < n ∨ i = n) with hlt | heq
    · obtain ⟨g, o, rfl, hA⟩ := A3.out (by omega)
      have hA := (hA.below (below_on HB.out hbx)).cells i hlt
      have HAS := Lib.hid (allR_succ L i)
      have HAN : Hid (rightE (L i) = false → allR L n = false) := Lib.hid fun h => by
        unfold allR
        rw [List.all_eq_false]
        exact ⟨i, by simpa using hlt, by simp [h]⟩
      generalize L i = e at hA HAS HAN
      obtain ⟨th, bg, op, key, val, hi2, lim⟩ := e
      simp only at hA
      obtain ⟨x0, x1, x2, x3, x4, x5, x6⟩ := hA
      have HX := Lib.hid hbx
      clear hbx
      go_wp2_with fail
      refine (rright th bg op key val hi2 lim wr).mono ?_; rintro _ w2 ⟨rfl, hb2⟩
      have HX2 := Lib.hid (below_on HX.out hb2)
      clear hb2 x0 x1 x2 x3 x4 x5 x6 s3
      cases hr : rightE ⟨th, bg, op, key, val, hi2, lim⟩ with
      | true =>
        have HA1 : Hid (allR L (i + 1) = true) := by rw [HAS.out, HA.out, hr]; exact Lib.hid rfl
        clear hr HAS HAN
        go_wp2_with fail
        go_roundw
        case rel => exact ⟨i + 1, by omega, by go_num, HA1, HX2.out⟩
        case measure => simp [intOf]; omega
      | false =>
        have HA1 := Lib.hid (HAN.out hr)
        clear hr HAS HAN
        have HF := Lib.hid (below_on HB.out HX2.out)
        have HM1 := Lib.hid (show r = false by rw [HM.out, HA1.out]; simp)
        clear HM
        go_wp2_with fail
        (try go_ret)
        rw [HQ.out]
        exact ⟨by first | (rw [HM1.out]; done) | (rw [HM1.out]; rfl), HF.out⟩
    · have HA1 : Hid (allR L n = true) := by rw [← heq]; exact HA
      have hge : n ≤ i := by omega
      have HX := Lib.hid hbx
      have s0 := Z.out.1 ⟨wr, hbx⟩; have s1 := Z.out.2.1 ⟨wr, hbx⟩; have s2 := Z.out.2.2.1 ⟨wr, hbx⟩
      simp only at s0 s1 s2
      clear hbx heq
      have HM1 := Lib.hid (show r = (mayC T S K && decide (n ≤ 60000)) by rw [HM.out, HA1.out]; simp)
      clear HM
      go_wp2_with fail
      refine (rmayC T S K wr).mono ?_; rintro _ w2 ⟨rfl, hb2⟩
      have s3 := Z.out.2.2.2 ⟨w2, below_on HX.out hb2⟩
      simp only at s3
      have HF := Lib.hid (below_on HB.out (below_on HX.out hb2))
      clear hb2 s0 s1 s2
      cases hm : mayC T S K with
      | false =>
        have HM2 := Lib.hid (show r = false by rw [HM1.out, hm]; rfl)
        clear hm HM1
        go_wp2_with fail
        (try go_ret)
        rw [HQ.out]
        exact ⟨by first | (rw [HM2.out]; done) | (rw [HM2.out]; rfl), HF.out⟩
      | true =>
        have HM2 := Lib.hid (show r = decide (n ≤ 60000) by rw [HM1.out, hm]; rfl)
        clear hm HM1
        rcases (by omega : n ≤ 60000 ∨ 60000 < n) with hl | hl
        · have HM3 := Lib.hid (show r = true by rw [HM2.out]; exact decide_eq_true hl)
          clear HM2
          go_wp2_with fail
          (try go_ret)
          rw [HQ.out]
          exact ⟨by rw [HM3.out]; first | rfl | (simp; omega), HF.out⟩
        · have HM3 := Lib.hid (show r = false by rw [HM2.out]; exact decide_eq_false (by omega))
          clear HM2
          go_wp2_with fail
          (try go_ret)
          rw [HQ.out]
          exact ⟨by rw [HM3.out]; first | rfl | (simp; omega), HF.out⟩
end Go.Proofs.Ytkcebfgjabfmaaa
