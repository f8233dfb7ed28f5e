/- Layer 14: the reference's Same, of like scripts. -/
import Derived.Test.YtnikggdnlijkkaaScrA
namespace Go.Proofs.Ytnikggdnlijkkaa
open Go.RowKit
set_option linter.unusedVariables false
set_option linter.unusedSimpArgs false
theorem Ext.drewN {w : World} {g o : Nat} {v : Value} (h : w.cell? ⟨g, o, none⟩ = some v) : ∀ n, (w.drewN n).cell? ⟨g, o, none⟩ = some v := fun n => by
  have := Ext.cell ⟨w.drewN n, below_drewN (Below.refl _ _) n⟩ h
  exact this
set_option maxHeartbeats 4000000 in
theorem rsame14 (t s k : Int) (n : Nat) (L : Nat → Ent) (va vb : Value) (w : World) (ha : ER w va n L) (hb : ER w vb n L) (hn : n ≤ 100000) :
    Calls Try.prog 8 #[.agg #[.int .i64 t, .int .i64 s, .int .u64 k, va], .agg #[.int .i64 t, .int .i64 s, .int .u64 k, vb]] w fun e w' => e = .returned (.bool true) ∧ Below w.heap.size w w' := by
  refine Calls.veil fun Q HQ => ?_
  obtain ⟨p, c, rfl, a1, a2, A3⟩ := ha.parts
  obtain ⟨p', c', rfl, b1, b2, B3⟩ := hb.parts
  clear ha hb
  go_enter Try.func8, Try.ntmps8
  go_wp2_with fail
  generalize hV : World.alloc (World.alloc w _) _ = V
  have HBV := Lib.hid (show Below w.heap.size w V by rw [← hV]; (repeat (first | exact Below.refl _ _ | assumption | refine below_new ?_ _ | refine Below.drew ?_ | refine below_drewN ?_ _ | refine below_on ?_ (by assumption))))
  have s0 : V.cell? ⟨w.heap.size, 3, none⟩ = some (.slice p n c) := by rw [← hV]; exact Ext.made1 rfl 3 _ rfl ⟨_, Below.refl _ _⟩
  have s1 : V.cell? ⟨w.heap.size + 1, 3, none⟩ = some (.slice p' n c') := by
    have e : w.heap.size + 1 = (w.alloc (.cells #[.int .i64 t, .int .i64 s, .int .u64 k, .slice p n c] 29)).heap.size := by simp
    rw [← hV, e]; exact Ext.made rfl 3 _ rfl ⟨_, Below.refl _ _⟩
  clear hV
  have HS0 := Lib.hid s0; have HS1 := Lib.hid s1
  clear s0 s1
  generalize w.heap.size + 1 = q1 at *
  go_loopw [5] (fun iv wr => ∃ i : Nat, i ≤ n ∧ iv = .int .i64 i ∧ Below V.heap.size V wr)
    (fun iv _ => n - (intOf iv).toNat)
  case atStart => exact ⟨0, by omega, rfl, Below.refl _ _⟩
  case round =>
    obtain ⟨i, hi, rfl, hbx⟩ := hrel
    have s0 := Ext.cell ⟨wr, hbx⟩ HS0.out; have s1 := Ext.cell ⟨wr, hbx⟩ HS1.out
    simp only at s0 s1
    rcases (by omega : i < n ∨ i = n) with hlt | heq
    · obtain ⟨g, o, rfl, hA⟩ := A3.out (by omega)
      obtain ⟨g', o', rfl, hB⟩ := B3.out (by omega)
      have hA := ((hA.below HBV.out).below hbx).cells i hlt
      have hB := ((hB.below HBV.out).below hbx).cells i hlt
      generalize L i = e at hA hB
      obtain ⟨th, bg, op, key, val, hi2, lim⟩ := e
      simp only at hA hB
      obtain ⟨x0, x1, x2, x3, x4, x5, x6⟩ := hA
      obtain ⟨y0, y1, y2, y3, y4, y5, y6⟩ := hB
      have HX := Lib.hid hbx
      clear hbx
      have s0 := Ext.drewN s0; have s1 := Ext.drewN s1
      have x0 := Ext.drewN x0; have x1 := Ext.drewN x1; have x2 := Ext.drewN x2; have x3 := Ext.drewN x3; have x4 := Ext.drewN x4; have x5 := Ext.drewN x5; have x6 := Ext.drewN x6
      have y0 := Ext.drewN y0; have y1 := Ext.drewN y1; have y2 := Ext.drewN y2; have y3 := Ext.drewN y3; have y4 := Ext.drewN y4; have y5 := Ext.drewN y5; have y6 := Ext.drewN y6
      have sz := s0 0
      simp only [World.drewN_zero] at sz
      go_upto_region 6 with fail
      go_quiet (fail)
      go_wp2_with fail
      go_roundw
      case rel => exact ⟨i + 1, by omega, by go_num, below_drewN HX.out nq⟩
      case measure => simp [intOf]; omega
    · have hge : n ≤ i := by omega
      have HX := Lib.hid (below_on HBV.out hbx)
      clear heq hbx
      go_wp2_with fail
      (try go_ret)
      rw [HQ.out]
      exact ⟨rfl, HX.out⟩
end Go.Proofs.Ytnikggdnlijkkaa
