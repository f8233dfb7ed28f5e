/- Layer 25: what lives asks; the walk of ClockThere. -/
import Derived.Test.YtmokniemmiomfaaGreatClkG
import Derived.Test.YtmokniemmiomfaaGreatFrame
namespace Go.Proofs.YtmokniemmiomfaaGreat
open Go.RowKit WordM EdgeM
set_option linter.unusedVariables false
set_option linter.unusedSimpArgs false
theorem MM.ret {w : World} {P : Pc} {σ : Sg} (h : MM w P σ) {k : Nat} (hk : k < P.t) {i : Nat} (hi : i < 12) : w.cell? ⟨P.tq k, i, none⟩ = some (.int .u64 ((σ.Ts k).ret i)) := by
  obtain ⟨ps, fvs, tf⟩ := h.th
  rw [(tf.th k hk).a.blk.get (i := i) (by omega)]
  unfold Th.thF; rw [if_pos hi]
theorem MM.ss {w : World} {P : Pc} {σ : Sg} (h : MM w P σ) {k : Nat} (hk : k < P.t) {i : Nat} (hi : i < 12) : w.cell? ⟨P.tq k, 12 + i, none⟩ = some ((σ.Ts k).ss i) := by
  obtain ⟨ps, fvs, hp⟩ := h.mp
  exact hp.ss hk i hi
theorem mayC_173 : mayC 1 7 3 = true := by decide +kernel
theorem l25a : partF 1 3 7 0 = 1 := by decide +kernel
set_option maxRecDepth 8000 in
set_option maxHeartbeats 2000000 in
theorem lives25_calls (w : World) : Calls Tryz.prog 7 #[] w fun e w' => e = .returned (.bool true) ∧ Below w.heap.size w w' := by
  refine Calls.veil fun Q HQ => ?_
  go_enter Tryz.func7, Tryz.ntmps7
  go_wp2_with fail
  refine (cnewI (t := 1) (s := 7) _ mayC_173).mono ?_; rintro _ w1 ⟨q, pl, mb, mg, C, gq, gg, gm, fv, tq, rfl, hmi, hb, hin⟩
  have hm0 := MM.init hmi hin
  obtain ⟨P, hP⟩ : ∃ P : Pc, P = ⟨w.heap.size, q, pl, mb, mg, C, gq, gg, gm, fv, tq, 1, 7, 3, w1.heap.size⟩ := ⟨_, rfl⟩
  rw [← hP] at hm0
  have eq1 : q = P.q := by rw [hP]
  have HE := Lib.hid (show 0 < P.t ∧ P.K = 3 ∧ P.B = w.heap.size from by rw [hP]; exact ⟨Nat.one_pos, rfl, rfl⟩)
  rw [eq1]
  obtain ⟨σ0, hσ⟩ : ∃ σ0, σ0 = sgInit 1 7 := ⟨_, rfl⟩
  rw [← hσ] at hm0
  have HF0 := Lib.hid (show σ0.f 0 = 1 ∧ (σ0.Ts 0).nf = 0 ∧ σ0.acc = 0 ∧ σ0.steps = 0 from by rw [hσ]; exact ⟨l25a, rfl, rfl, rfl⟩)
  have HB1 := Lib.hid hb; have HM1 := Lib.hid hm0
  clear hmi hb hin hP eq1 hm0 hσ
  go_wp2_with fail
  refine (cThread_yes HM1.out.c 0 HE.out.1).mono ?_; rintro _ w2 ⟨rfl, hb2⟩
  have HM2 := Lib.hid (HM1.out.below hb2); have HB2 := Lib.hid (below_on HB1.out hb2)
  clear hb2 HM1 HB1
  go_wp2_with fail
  have hz : ¬ P.K ≤ σ0.f 0 := by rw [HF0.out.1, HE.out.2.1]; omega
  refine (alone_tick (m := 0) (most := 9) HM2.out HE.out.1 HF0.out.2.1 (by omega) (by omega) (by omega) hz (by rw [HF0.out.2.2.1]; omega) (by rw [HF0.out.2.2.1]; omega) (by rw [HF0.out.2.2.2]; omega) (by rw [HF0.out.2.2.2]; omega)).mono ?_
  rintro _ w3 ⟨rfl, hm3, hk3⟩
  obtain ⟨f3, n3, r3, s3, _⟩ := tc2 (P := P) (k := 0) (m := 0) (σ := σ0) HF0.out.2.1 hz
  obtain ⟨a3, b3, _⟩ := tcS_acc (P := P) (k := 0) (m := 0) (σ := σ0) 2
  generalize tcS P 0 0 σ0 2 = σ1 at *
  rw [HF0.out.1] at f3 r3 s3
  have HF1 := Lib.hid (show σ1.f 0 = 2 ∧ (σ1.Ts 0).nf = 0 ∧ σ1.acc = 2 ∧ σ1.steps = 2 from ⟨by rw [f3]; rfl, n3, by rw [a3, HF0.out.2.2.1]; rfl, by rw [b3, HF0.out.2.2.2]; rfl⟩)
  have HS1 := Lib.hid s3
  have HM3 := Lib.hid hm3
  have cr := hm3.ret HE.out.1 (i := 0) (by omega)
  rw [r3] at cr
  have HB3 := Lib.hid (show Below w.heap.size w w3 by have := hk3; rw [HE.out.2.2] at this; exact KA.below HB2.out this)
  clear hm3 hk3 f3 n3 r3 s3 a3 b3 HM2 HB2 hz
  go_wp2_with fail
  clear cr
  have hz : ¬ P.K ≤ σ1.f 0 := by rw [HF1.out.1, HE.out.2.1]; omega
  refine (alone_tick (m := 0) (most := 9) HM3.out HE.out.1 HF1.out.2.1 (by omega) (by omega) (by omega) hz (by rw [HF1.out.2.2.1]; omega) (by rw [HF1.out.2.2.1]; omega) (by rw [HF1.out.2.2.2]; omega) (by rw [HF1.out.2.2.2]; omega)).mono ?_
  rintro _ w4 ⟨rfl, hm3, hk3⟩
  obtain ⟨f3, n3, r3, s3, _⟩ := tc2 (P := P) (k := 0) (m := 0) (σ := σ1) HF1.out.2.1 hz
  obtain ⟨a3, b3, _⟩ := tcS_acc (P := P) (k := 0) (m := 0) (σ := σ1) 2
  generalize tcS P 0 0 σ1 2 = σ2 at *
  rw [HF1.out.1] at f3 r3 s3
  have HF2 := Lib.hid (show σ2.f 0 = 3 ∧ (σ2.Ts 0).nf = 0 ∧ σ2.acc = 4 ∧ σ2.steps = 4 from ⟨by rw [f3]; rfl, n3, by rw [a3, HF1.out.2.2.1]; rfl, by rw [b3, HF1.out.2.2.2]; rfl⟩)
  have HS2 := Lib.hid s3
  have HM4 := Lib.hid hm3
  have cr := hm3.ret HE.out.1 (i := 0) (by omega)
  rw [r3] at cr
  have HB4 := Lib.hid (show Below w.heap.size w w4 by have := hk3; rw [HE.out.2.2] at this; exact KA.below HB3.out this)
  clear hm3 hk3 f3 n3 r3 s3 a3 b3 HM3 HB3 hz
  go_wp2_with fail
  clear cr
  have hz : P.K ≤ σ2.f 0 := by rw [HF2.out.1, HE.out.2.1]; omega
  refine (alone_tick0 (m := 0) (most := 9) HM4.out HE.out.1 HF2.out.2.1 (by omega) (by omega) (by omega) hz (by rw [HF2.out.2.2.1]; omega) (by rw [HF2.out.2.2.1]; omega) (by rw [HF2.out.2.2.2]; omega) (by rw [HF2.out.2.2.2]; omega)).mono ?_
  rintro _ w5 ⟨rfl, hm3, hk3⟩
  obtain ⟨f3, n3, r3, s3, _⟩ := tc1z_ends (P := P) (k := 0) (m := 0) (σ := σ2) HF2.out.2.1 hz
  generalize tcS P 0 0 σ2 1 = σ3 at *
  have cr := hm3.ret HE.out.1 (i := 0) (by omega)
  rw [r3] at cr
  have cs := hm3.ss HE.out.1 (i := 4) (by omega)
  rw [s3, HS2.out] at cs
  have cs : w5.cell? ⟨P.tq 0, 16, none⟩ = some (.int .u64 2) := cs
  have HB5 := Lib.hid (show Below w.heap.size w w5 by have := hk3; rw [HE.out.2.2] at this; exact KA.below HB4.out this)
  clear hm3 hk3 f3 n3 r3 s3 HM4 HB4 hz
  go_wp2_with fail
  (try go_ret)
  rw [HQ.out]
  exact ⟨rfl, HB5.out⟩
def thereB (v born died : Int) : Bool := decide (born ≤ v) && (died == 0 || decide (v < died))
theorem cthere (v b d : Int) (w : World) : Calls Tryz.prog 5 #[.int .u64 v, .int .u64 b, .int .u64 d] w fun e w' => e = .returned (.bool (thereB v b d)) ∧ w = w' := by
  refine Calls.veil fun Q HQ => ?_
  by_cases h1 : b ≤ v
  · have HT := Lib.hid (show thereB v b d = (d == 0 || decide (v < d)) by unfold thereB; rw [decide_eq_true h1]; rfl)
    by_cases h2 : d = 0
    · subst h2
      go_enter Tryz.func5, Tryz.ntmps5
      go_wp2_with fail
      (try go_ret)
      rw [HQ.out, HT.out]
      exact ⟨rfl, rfl⟩
    · have h3 : (d == 0) = false := by simpa using h2
      have HT := Lib.hid (show thereB v b d = decide (v < d) by rw [HT.out, h3]; rfl)
      clear h2
      cases h4 : decide (v < d) with
      | true =>
        have h5 : v < d := of_decide_eq_true h4
        rw [h4] at HT
        clear h4
        go_enter Tryz.func5, Tryz.ntmps5
        go_wp2_with fail
        (try go_ret)
        rw [HQ.out, HT.out]
        exact ⟨by simp [h5], rfl⟩
      | false =>
        have h5 : ¬ v < d := of_decide_eq_false h4
        rw [h4] at HT
        clear h4
        go_enter Tryz.func5, Tryz.ntmps5
        go_wp2_with fail
        (try go_ret)
        rw [HQ.out, HT.out]
        exact ⟨by simp [h5] <;> omega, rfl⟩
  · have HT := Lib.hid (show thereB v b d = false by unfold thereB; rw [decide_eq_false h1]; rfl)
    go_enter Tryz.func5, Tryz.ntmps5
    go_wp2_with fail
    (try go_ret)
    rw [HQ.out, HT.out]
    exact ⟨rfl, rfl⟩
theorem rthere (v b d : Int) (w : World) : Calls Tryz.prog 6 #[.int .u64 v, .int .u64 b, .int .u64 d] w fun e w' => e = .returned (.bool (thereB v b d)) ∧ w = w' := by
  refine Calls.veil fun Q HQ => ?_
  by_cases h1 : v < b
  · have HT := Lib.hid (show thereB v b d = false by unfold thereB; rw [decide_eq_false (by omega)]; rfl)
    go_enter Tryz.func6, Tryz.ntmps6
    go_wp2_with fail
    (try go_ret)
    rw [HQ.out, HT.out]
    exact ⟨rfl, rfl⟩
  · have HT := Lib.hid (show thereB v b d = (d == 0 || decide (v < d)) by unfold thereB; rw [decide_eq_true (by omega)]; rfl)
    by_cases h2 : d = 0
    · subst h2
      go_enter Tryz.func6, Tryz.ntmps6
      go_wp2_with fail
      (try go_ret)
      rw [HQ.out, HT.out]
      exact ⟨rfl, rfl⟩
    · have h3 : (d == 0) = false := by simpa using h2
      have HT := Lib.hid (show thereB v b d = decide (v < d) by rw [HT.out, h3]; rfl)
      clear h2
      cases h4 : decide (v < d) with
      | true =>
        have h5 : v < d := of_decide_eq_true h4
        rw [h4] at HT
        clear h4
        go_enter Tryz.func6, Tryz.ntmps6
        go_wp2_with fail
        (try go_ret)
        rw [HQ.out, HT.out]
        exact ⟨by simp [h5], rfl⟩
      | false =>
        have h5 : ¬ v < d := of_decide_eq_false h4
        rw [h4] at HT
        clear h4
        go_enter Tryz.func6, Tryz.ntmps6
        go_wp2_with fail
        (try go_ret)
        rw [HQ.out, HT.out]
        exact ⟨by simp [h5] <;> omega, rfl⟩
set_option maxRecDepth 8000 in
set_option maxHeartbeats 2000000 in
theorem clockThere_walk (v0 v1 v2 : Value) (w : World) (s0 : Fr.ok1 w (.int .u64) v0) (s1 : Fr.ok1 w (.int .u64) v1) (s2 : Fr.ok1 w (.int .u64) v2) :
    Calls Tryz.prog 3 #[v0, v1, v2] w fun e w' => e = .returned (.bool true) ∧ Below w.heap.size w w' := by
  obtain ⟨v, rfl, _⟩ := Fr.get_int s0
  obtain ⟨b, rfl, _⟩ := Fr.get_int s1
  obtain ⟨d, rfl, _⟩ := Fr.get_int s2
  clear s0 s1 s2
  refine Calls.veil fun Q HQ => ?_
  have hb1 : thereB b b 0 = true := by unfold thereB; simp
  have HD := Lib.hid (show thereB d d d = (d == 0) by unfold thereB; simp)
  have hb1 := Lib.hid hb1
  cases hd : (d == 0) with
  | true =>
    have hd2 : (d != 0) = false := by simpa using hd
    have hd3 : d = 0 := by simpa using hd
    have HDD := Lib.hid hd3
    have HD2 := Lib.hid (show thereB d d d = true by rw [HD.out, hd])
    clear hd3
    go_enter Tryz.func3, Tryz.ntmps3
    go_wp2_with fail
    refine (cthere _ _ _ _).mono ?_; rintro _ _ ⟨rfl, rfl⟩
    obtain ⟨tb, htb⟩ : ∃ tb, tb = thereB v b d := ⟨_, rfl⟩
    have HTB := Lib.hid htb
    rw [← htb]
    clear htb
    go_wp2_with fail
    refine (rthere _ _ _ _).mono ?_; rintro _ _ ⟨rfl, rfl⟩
    rw [← HTB.out]
    have hbe : (tb == tb) = true := by cases tb <;> rfl
    go_wp2_with fail
    refine (cthere _ _ _ _).mono ?_; rintro _ _ ⟨rfl, rfl⟩
    rw [hb1.out]
    go_wp2_with fail
    refine (cthere _ _ _ _).mono ?_; rintro _ _ ⟨rfl, rfl⟩
    rw [HD2.out]
    go_wp2_with fail
    refine (lives25_calls _).mono ?_; rintro _ w1 ⟨rfl, hb⟩
    have HB := Lib.hid hb
    clear hb
    go_wp2_with fail
    (try go_ret)
    rw [HQ.out]
    exact ⟨rfl, HB.out⟩
  | false =>
    have hd2 : (d != 0) = true := by simpa using hd
    have HD2 := Lib.hid (show thereB d d d = false by rw [HD.out, hd])
    go_enter Tryz.func3, Tryz.ntmps3
    go_wp2_with fail
    refine (cthere _ _ _ _).mono ?_; rintro _ _ ⟨rfl, rfl⟩
    obtain ⟨tb, htb⟩ : ∃ tb, tb = thereB v b d := ⟨_, rfl⟩
    have HTB := Lib.hid htb
    rw [← htb]
    clear htb
    go_wp2_with fail
    refine (rthere _ _ _ _).mono ?_; rintro _ _ ⟨rfl, rfl⟩
    rw [← HTB.out]
    have hbe : (tb == tb) = true := by cases tb <;> rfl
    go_wp2_with fail
    refine (cthere _ _ _ _).mono ?_; rintro _ _ ⟨rfl, rfl⟩
    rw [hb1.out]
    go_wp2_with fail
    refine (cthere _ _ _ _).mono ?_; rintro _ _ ⟨rfl, rfl⟩
    rw [HD2.out]
    go_wp2_with fail
    refine (lives25_calls _).mono ?_; rintro _ w1 ⟨rfl, hb⟩
    have HB := Lib.hid hb
    clear hb
    go_wp2_with fail
    (try go_ret)
    rw [HQ.out]
    exact ⟨rfl, HB.out⟩
end Go.Proofs.YtmokniemmiomfaaGreat
