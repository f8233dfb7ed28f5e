/- Layer 36: ExplorePicks. -/
import Derived.Test.YtjdjjdljmfbfmaaTurnD
namespace Go.Proofs.Ytjdjjdljmfbfmaa
open Go.RowKit
set_option linter.unusedVariables false
set_option linter.unusedSimpArgs false
theorem Ext.drewN {w : World} {g o : Nat} {v : Value} (h : w.cell? ⟨g, o, none⟩ = some v) : ∀ n, (w.drewN n).cell? ⟨g, o, none⟩ = some v := fun n => by
  have := Ext.cell ⟨w.drewN n, below_drewN (Below.refl _ _) n⟩ h
  exact this
set_option maxHeartbeats 4000000 in
theorem explorePicks_walk (v0 : Value) (w : World) (s0 : Fr.ok1 w (.slice [.int .i64, .int .i64]) v0) :
    Calls Try.prog 4 #[v0] w fun e w' => e = .returned (.bool true) ∧ Below w.heap.size w w' := by
  obtain ⟨l, hP⟩ := pairs_open s0
  clear s0
  refine Calls.veil fun Q HQ => ?_
  rcases (by omega : 40 < l.length ∨ l.length ≤ 40) with hn | hn
  · obtain ⟨p, c, rfl, h1, h2⟩ := hP.slice
    clear hP
    go_enter Try.func4, Try.ntmps4
    go_wp2_with fail
    refine (lives36_calls w).mono ?_; rintro _ w' ⟨rfl, hb⟩
    go_wp2_with fail
    (try go_ret)
    rw [HQ.out]; exact ⟨rfl, hb⟩
  · have HP := Lib.hid hP
    obtain ⟨p, c, rfl, h1, h2, H3⟩ := hP.parts
    clear hP
    go_enter Try.func4, Try.ntmps4
    go_wp2_with fail
    refine (epicks l _ w HP.out hn).mono ?_; rintro _ w1 ⟨pv, rfl, hIR, hb1⟩
    obtain ⟨pp, pc, rfl, h3, h4, H5⟩ := hIR.parts
    have HB1 := Lib.hid hb1
    clear hIR hb1
    have hpl : (picksL l).length ≤ 40000 := by have := picks_len l; omega
    generalize hpn : (picksL l).length = pn at *
    have HPN := Lib.hid hpn
    clear hpn
    go_wp2_with fail
    go_loopw [4, 5] (fun av iv wr => ∃ i a : Nat, i ≤ l.length ∧ iv = .int .i64 i ∧ av = .int .i64 a ∧ Hid (a = (picksL (l.take i)).length) ∧ Below w1.heap.size w1 wr)
      (fun _ iv _ => l.length - (intOf iv).toNat)
    case atStart => exact ⟨0, 0, by omega, rfl, rfl, Lib.hid (by simp [picksL]), Below.refl _ _⟩
    case round =>
      obtain ⟨i, a, hi', rfl, rfl, HA, hbel⟩ := hrel
      rcases (by omega : i < l.length ∨ i = l.length) with hlt | heq
      · obtain ⟨g, o, rfl, k0, k1⟩ := H3.out i hlt
        have c1 := Ext.cell ⟨wr, below_on HB1.out hbel⟩ k1
        simp only at c1
        have HK0 := Lib.hid k0
        have hal : a ≤ 40000 := by have h1 := picks_len (l.take i); have h2 : (l.take i).length ≤ 40 := (by simp; omega)
                                   have := HA.out; omega
        have HPT : Hid ((picksL (l.take (i + 1))).length = a + manyN (vl l i)) := by rw [picks_take hlt, List.length_append, List.length_replicate, ← HA.out]; exact Lib.hid rfl
        have HG : Hid (∀ j, j < manyN (vl l i) → (picksL l).getD (a + j) 0 = ky l i ∧ a + j < pn) := Lib.hid fun j hj => by
          have := picks_get hlt hj; rw [← HA.out, HPN.out] at this; exact this
        generalize hk : ky l i = k at *
        generalize hx : vl l i = x at *
        clear hk hx k0 k1
        have HBR := Lib.hid hbel
        clear hbel
        obtain ⟨m, hm⟩ : ∃ m, m = manyN x := ⟨_, rfl⟩
        rw [← hm] at HPT HG
        have hm2 : (x ≤ 0 ∧ m = 0) ∨ (0 < x ∧ x ≤ 1000 ∧ (m : Int) = x) ∨ (1000 < x ∧ m = 1000) := by unfold manyN at hm; omega
        clear hm
        rcases (by omega : (x ≤ 1000) ∨ (1000 < x ∧ m = 1000)) with q1 | ⟨q1, hm1⟩
        · go_wp2_with fail
          clear c1
          go_loopw [4, 7] (fun av kv wr => ∃ j b : Nat, j ≤ m ∧ kv = .int .i64 j ∧ av = .int .i64 b ∧ Hid (b = a + j) ∧ Below w1.heap.size w1 wr)
            (fun _ kv _ => m - (intOf kv).toNat)
          case atStart => exact ⟨0, a, by omega, rfl, rfl, Lib.hid (by omega), HBR.out⟩
          case round =>
            obtain ⟨j, b, hj, rfl, rfl, HJ, hbx⟩ := hrel
            rcases (by omega : j < m ∨ j = m) with hjl | hje
            · obtain ⟨hg1, hg2⟩ := HG.out j hjl
              rw [← HJ.out] at hg1 hg2
              obtain ⟨pg, rfl, e0⟩ := H5.out b hg2
              rw [hg1] at e0
              have c0 := Ext.cell ⟨wr, hbx⟩ e0
              have c1 := Ext.cell ⟨wr, below_on HB1.out hbx⟩ HK0.out
              simp only at c0 c1
              have c0 := Ext.drewN c0; have c1 := Ext.drewN c1
              have hlt2 : (j : Int) < x := by omega
              have HX := Lib.hid hbx
              have HJ2 := Lib.hid (show b + 1 = a + (j + 1) by have := HJ.out; omega)
              have hb5 : b ≤ 50000 := by omega
              clear hg1 e0 hbx
              go_wp2_with fail
              go_quiet (fail)
              go_wp2_with fail
              go_roundw
              case rel => exact ⟨j + 1, b + 1, by omega, by go_num, by go_num, HJ2, below_drewN HX.out nq⟩
              case measure => simp [intOf]; omega
            · have hge2 : ¬ ((j : Int) < x) := by omega
              have HFIN := Lib.hid (show b = (picksL (l.take (i + 1))).length by rw [HJ.out, HPT.out, hje])
              clear hje
              go_wp2_with fail
              go_roundw
              case rel => exact ⟨i + 1, b, by omega, by go_num, rfl, HFIN, hbx⟩
              case measure => simp [intOf]; omega
        · have hm3 : (1000 : Int) = (m : Int) := by omega
          clear hm2
          have hml : m ≤ 1000 := by omega
          clear hm1
          go_wp2_with fail
          rw [hm3, show decide ((m : Int) < x) = true from by rw [← hm3]; simpa using q1]
          clear c1 hm3 q1
          go_loopw [4, 7] (fun av kv wr => ∃ j b : Nat, j ≤ m ∧ kv = .int .i64 j ∧ av = .int .i64 b ∧ Hid (b = a + j) ∧ Below w1.heap.size w1 wr)
            (fun _ kv _ => m - (intOf kv).toNat)
          case atStart => exact ⟨0, a, by omega, rfl, rfl, Lib.hid (by omega), HBR.out⟩
          case round =>
            obtain ⟨j, b, hj, rfl, rfl, HJ, hbx⟩ := hrel
            rcases (by omega : j < m ∨ j = m) with hjl | hje
            · obtain ⟨hg1, hg2⟩ := HG.out j hjl
              rw [← HJ.out] at hg1 hg2
              obtain ⟨pg, rfl, e0⟩ := H5.out b hg2
              rw [hg1] at e0
              have c0 := Ext.cell ⟨wr, hbx⟩ e0
              have c1 := Ext.cell ⟨wr, below_on HB1.out hbx⟩ HK0.out
              simp only at c0 c1
              have c0 := Ext.drewN c0; have c1 := Ext.drewN c1
              have HX := Lib.hid hbx
              have HJ2 := Lib.hid (show b + 1 = a + (j + 1) by have := HJ.out; omega)
              have hb5 : b ≤ 50000 := by omega
              clear hg1 e0 hbx
              go_wp2_with fail
              go_quiet (fail)
              go_wp2_with fail
              go_roundw
              case rel => exact ⟨j + 1, b + 1, by omega, by go_num, by go_num, HJ2, below_drewN HX.out nq⟩
              case measure => simp [intOf]; omega
            · have hge : m ≤ j := by omega
              have HFIN := Lib.hid (show b = (picksL (l.take (i + 1))).length by rw [HJ.out, HPT.out, hje])
              clear hje
              go_wp2_with fail
              go_roundw
              case rel => exact ⟨i + 1, b, by omega, by go_num, rfl, HFIN, hbx⟩
              case measure => simp [intOf]; omega
      · have HE := Lib.hid heq
        have hge : l.length ≤ i := by omega
        have HAN := HA.out
        rw [heq, List.take_length, HPN.out] at HAN
        have HBR := Lib.hid hbel
        clear heq hbel
        subst HAN
        go_wp2_with fail
        refine (lives36_calls _).mono ?_; rintro _ w2 ⟨rfl, hb2⟩
        have HF := Lib.hid (below_on (below_on HB1.out HBR.out) hb2)
        clear hb2
        go_wp2_with fail
        (try go_ret)
        rw [HQ.out]
        exact ⟨rfl, HF.out⟩
end Go.Proofs.Ytjdjjdljmfbfmaa
