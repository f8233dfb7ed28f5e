/- Layer 11: how many threads a history has. -/
import Derived.Test.YtmnmomiheenmpaaHisJ
namespace Go.Proofs.Ytmnmomiheenmpaa
open Go.RowKit
set_option linter.unusedVariables false
set_option linter.unusedSimpArgs false
def thrH (L : Nat → Ev) : Nat → Int
  | 0 => 0
  | i + 1 => if (L i).th + 1 ≤ thrH L i then thrH L i else (L i).th + 1
theorem thrH_rng {L : Nat → Ev} {n : Nat} (hm : mayH L n = true) : ∀ i, i ≤ n → 0 ≤ thrH L i ∧ thrH L i ≤ 6
  | 0, _ => by simp [thrH]
  | i + 1, hi => by
    obtain ⟨h1, h2, _⟩ := mayH_at hm (by omega : i < n)
    have := thrH_rng hm i (by omega)
    rw [thrH]; split <;> omega
set_option maxHeartbeats 4000000 in
theorem rthreads (n : Nat) (L : Nat → Ev) (v : Value) (w : World) (h : VR w v n L) (hn : n ≤ 1000) : Calls Try.prog 13 #[v] w fun e w' => e = .returned (.int .i64 (if mayH L n then thrH L n else 0)) ∧ Below w.heap.size w w' := by
  refine Calls.veil fun Q HQ => ?_
  have HV := Lib.hid h
  obtain ⟨p, c, rfl, a1, a2, A3⟩ := h.parts
  clear h
  have HNN := Lib.hid hn
  have RM := Lib.hid (fun x : Ext w => rmay11 n L _ x.w (HV.out.below x.h) hn)
  clear hn
  cases hm : mayH L n with
  | false =>
    rw [hm] at HQ RM
    clear hm
    go_enter Try.func13, Try.ntmps13
    go_wp2_with fail
    go_loopw [3, 4] (fun cv iv wr => cv = .int .i64 0 ∧ iv = .int .i64 0 ∧ Below w.heap.size w wr)
      (fun _ _ _ => 0)
    case atStart => exact ⟨rfl, rfl, Below.refl _ _⟩
    case round =>
      obtain ⟨rfl, rfl, hbx⟩ := hrel
      have HX := Lib.hid hbx
      clear hbx
      rcases (by omega : 0 < n ∨ n = 0) with h0 | rfl
      · go_wp2_with fail
        refine (RM.out ⟨_, HX.out⟩).mono ?_; rintro _ w1 ⟨rfl, hb1⟩
        have HF := Lib.hid (below_on HX.out hb1)
        clear hb1
        go_wp2_with fail
        (try go_ret)
        rw [HQ.out]
        exact ⟨rfl, HF.out⟩
      · go_wp2_with fail
        (try go_ret)
        rw [HQ.out]
        exact ⟨rfl, HX.out⟩
  | true =>
    rw [hm] at HQ RM
    have HRG := Lib.hid (fun i hi => thrH_rng hm i hi)
    have HAT := Lib.hid (fun i hi => mayH_at (i := i) hm hi)
    clear hm
    go_enter Try.func13, Try.ntmps13
    go_wp2_with fail
    go_loopw [3, 4] (fun cv iv wr => ∃ i : Nat, i ≤ n ∧ iv = .int .i64 i ∧ ∃ m : Int, cv = .int .i64 m ∧ Hid (m = thrH L i) ∧ Below w.heap.size w wr)
      (fun _ iv _ => n - (intOf iv).toNat)
    case atStart => exact ⟨0, by omega, rfl, 0, rfl, Lib.hid rfl, Below.refl _ _⟩
    case round =>
      obtain ⟨i, hi, rfl, m, rfl, HMC, hbx⟩ := hrel
      have HX := Lib.hid hbx
      clear hbx
      rcases (by omega : i < n ∨ i = n) with hlt | heq
      · obtain ⟨g, o, rfl, hA⟩ := A3.out (by omega)
        obtain ⟨pv, hC, _⟩ := hA.cells i hlt
        have xc0 := Ext.cells hC.c0
        obtain ⟨hr1, hr2⟩ := HRG.out i hi
        rw [← HMC.out] at hr1 hr2
        obtain ⟨ht1, ht2, _⟩ := HAT.out i hlt
        have HST := Lib.hid (show thrH L (i + 1) = if (L i).th + 1 ≤ thrH L i then thrH L i else (L i).th + 1 from rfl)
        rw [← HMC.out] at HST
        clear hA hC
        generalize (L i).th = th at *
        go_wp2_with fail
        refine (RM.out ⟨_, HX.out⟩).mono ?_; rintro _ w1 ⟨rfl, hb1⟩
        have HF := Lib.hid (below_on HX.out hb1)
        have x0 : w1.cell? ⟨g, o + i * 12, none⟩ = some (.int .i64 th) := xc0 ⟨w1, HF.out⟩
        clear hb1
        by_cases hmt : m ≤ th
        · have HE := Lib.hid (HST.out.trans (if_neg (by omega)))
          clear HST
          go_wp2_with fail
          go_roundw
          case rel => exact ⟨i + 1, by omega, by go_num, th + 1, by go_num, Lib.hid HE.out.symm, HF.out⟩
          case measure => simp [intOf]; omega
        · have HE := Lib.hid (HST.out.trans (if_pos (by omega)))
          clear HST
          go_wp2_with fail
          go_roundw
          case rel => exact ⟨i + 1, by omega, by go_num, m, rfl, Lib.hid HE.out.symm, HF.out⟩
          case measure => simp [intOf]; omega
      · have hge : ¬ i < n := by omega
        have HE := Lib.hid (show m = thrH L n by rw [← heq]; exact HMC.out)
        clear heq hi
        go_wp2_with fail
        (try go_ret)
        rw [HQ.out]
        exact ⟨by rw [← HE.out]; rfl, HX.out⟩
set_option maxHeartbeats 4000000 in
theorem hthreads (n : Nat) (L : Nat → Ev) (v : Value) (w : World) (h : VR w v n L) (hn : n ≤ 1000) : Calls Try.prog 12 #[v] w fun e w' => e = .returned (.int .i64 (if mayH L n then thrH L n else 0)) ∧ Below w.heap.size w w' := by
  refine Calls.veil fun Q HQ => ?_
  have HV := Lib.hid h
  obtain ⟨p, c, rfl, a1, a2, A3⟩ := h.parts
  clear h
  have RM := Lib.hid (hmay n L _ w HV.out hn)
  clear hn
  cases hm : mayH L n with
  | false =>
    rw [hm] at HQ RM
    clear hm
    go_enter Try.func12, Try.ntmps12
    go_wp2_with fail
    refine RM.out.mono ?_; rintro _ w1 ⟨rfl, hb1⟩
    have HF := Lib.hid hb1
    clear hb1
    go_wp2_with fail
    (try go_ret)
    rw [HQ.out]
    exact ⟨rfl, HF.out⟩
  | true =>
    rw [hm] at HQ RM
    have HRG := Lib.hid (fun i hi => thrH_rng hm i hi)
    have HAT := Lib.hid (fun i hi => mayH_at (i := i) hm hi)
    clear hm
    go_enter Try.func12, Try.ntmps12
    go_wp2_with fail
    refine RM.out.mono ?_; rintro _ w1 ⟨rfl, hb1⟩
    have HF := Lib.hid hb1
    clear hb1 RM
    go_wp2_with fail
    go_loopw [3, 11] (fun cv iv wr => ∃ i : Nat, i ≤ n ∧ iv = .int .i64 i ∧ ∃ m : Int, cv = .int .i64 m ∧ Hid (m = thrH L i) ∧ Below w.heap.size w wr)
      (fun _ iv _ => n - (intOf iv).toNat)
    case atStart => exact ⟨0, by omega, rfl, 0, rfl, Lib.hid rfl, HF.out⟩
    case round =>
      obtain ⟨i, hi, rfl, m, rfl, HMC, hbx⟩ := hrel
      have HX := Lib.hid hbx
      rcases (by omega : i < n ∨ i = n) with hlt | heq
      · obtain ⟨g, o, rfl, hA⟩ := A3.out (by omega)
        obtain ⟨pv, hC, hPR⟩ := (hA.below hbx).cells i hlt
        obtain ⟨pp, pc, rfl, _, _⟩ := hPR.slice
        obtain ⟨hr1, hr2⟩ := HRG.out i hi
        rw [← HMC.out] at hr1 hr2
        obtain ⟨ht1, ht2, _⟩ := HAT.out i hlt
        have HST := Lib.hid (show thrH L (i + 1) = if (L i).th + 1 ≤ thrH L i then thrH L i else (L i).th + 1 from rfl)
        rw [← HMC.out] at HST
        clear hA hPR hbx
        generalize (L i).an.ps.length = tl at *
        generalize L i = e at hC HST ht1 ht2
        obtain ⟨th, bk, ⟨op, key, val, hi2, lim⟩, ⟨kind, akey, aval, an, ps⟩⟩ := e
        obtain ⟨x0, x1, x2, x3, x4, x5, x6, x7, x8, x9, x10, x11⟩ := hC
        simp only at x0 x1 x2 x3 x4 x5 x6 x7 x8 x9 x10 x11 HST ht1 ht2
        go_upto_region 7 with fail
        generalize hU : World.alloc wr _ = U
        have HU := Lib.hid (show Below w.heap.size w U by rw [← hU]; exact HX.out.alloc HX.out.size _)
        have y0 : U.cell? ⟨wr.heap.size, 0, none⟩ = some (.int .i64 th) := Ext.made hU 0 _ rfl ⟨U, Below.refl _ _⟩
        clear hU x0 x1 x2 x3 x4 x5 x6 x7 x8 x9 x10 x11
        generalize wr.heap.size = q at *
        by_cases hmt : th + 1 ≤ m
        · have HE := Lib.hid (HST.out.trans (if_pos hmt))
          clear HST
          go_wp2_with fail
          go_roundw
          case rel => exact ⟨i + 1, by omega, by go_num, m, by go_num, Lib.hid HE.out.symm, HU.out⟩
          case measure => simp [intOf]; omega
        · have HE := Lib.hid (HST.out.trans (if_neg hmt))
          clear HST
          go_wp2_with fail
          go_roundw
          case rel => exact ⟨i + 1, by omega, by go_num, th + 1, by go_num, Lib.hid HE.out.symm, HU.out⟩
          case measure => simp [intOf]; omega
      · have hge : ¬ i < n := by omega
        have HE := Lib.hid (show m = thrH L n by rw [← heq]; exact HMC.out)
        clear heq hi hbx
        go_wp2_with fail
        (try go_ret)
        rw [HQ.out]
        exact ⟨by rw [← HE.out]; rfl, HX.out⟩
end Go.Proofs.Ytmnmomiheenmpaa
