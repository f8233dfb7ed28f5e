/- Layer 11: HistOpers, given what hist.Open answers. -/
import Derived.Test.YtmnmomiheenmpaaHisQ
import Derived.Test.YtmnmomiheenmpaaHisH
import Derived.Test.YtmnmomiheenmpaaHisR
namespace Go.Proofs.Ytmnmomiheenmpaa
open Go.RowKit
set_option linter.unusedVariables false
set_option linter.unusedSimpArgs false
theorem stO_ps {L : Nat → Ev} {n B : Nat} (h : ∀ i, i < n → (L i).an.ps.length ≤ B) : ∀ i, i ≤ n → ∀ x ∈ (stO L i).1, x.an.ps.length ≤ B
  | 0, _, x, hx => by simp [stO] at hx
  | i + 1, hi, x, hx => by
    have ih := stO_ps h i (by omega)
    rw [stO] at hx
    split at hx
    · simp only at hx
      rcases List.mem_or_eq_of_mem_set hx with hx | rfl
      · exact ih x hx
      · exact h i (by omega)
    · simp only [List.mem_append, List.mem_singleton] at hx
      rcases hx with hx | rfl
      · exact ih x hx
      · exact Nat.zero_le _
theorem own_partsP {w w0 : World} {B : Nat} {v : Value} {l : List (Opr × Value)} {O : List Opr} (h : OwnO w B v l) (hp : ∀ x ∈ l, PR w0 x.2 x.1.an.ps) (hl : l.map (·.1) = O) :
    ∃ p c, v = .slice p O.length c ∧ O.length ≤ c ∧ c ≤ 9223372036854775807 ∧ Hid (0 < O.length → ∃ g, p = some ⟨g, 0, none⟩ ∧ ∀ (i : Nat) (x : Opr), O[i]? = some x → ∃ u, OpC w g (i * 13) x u ∧ PR w0 u x.an.ps) := by
  have hlen : O.length = l.length := by rw [← hl, List.length_map]
  rcases own_sliceO h with ⟨rfl, rfl⟩ | ⟨g, c, rfl, h1, h2, _⟩
  · refine ⟨none, 0, by rw [hlen]; rfl, by rw [hlen]; exact Nat.le_refl _, by decide, fun h0 => by rw [hlen] at h0; simp at h0⟩
  · refine ⟨_, c, by rw [hlen], by omega, h2, fun _ => ⟨g, rfl, fun i x hx => ?_⟩⟩
    rw [← hl, List.getElem?_map] at hx
    cases h3 : l[i]? with
    | none => rw [h3] at hx; cases hx
    | some y =>
      rw [h3] at hx
      simp only [Option.map_some, Option.some.injEq] at hx
      subst hx
      exact ⟨y.2, own_OpC h i y.1 y.2 h3, hp y (List.mem_of_getElem? h3)⟩
def openN (O : List Opr) : Nat := O.countP fun x => decide (x.to < 0)
set_option maxRecDepth 8000 in
set_option maxHeartbeats 16000000 in
theorem hopersLaw (HOPEN : Hid (∀ (n : Nat) (L : Nat → Ev) (v : Value) (w : World), VR w v n L → n ≤ 120 → (∀ i, i < n → (L i).an.ps.length ≤ 1500) → Calls Try.prog 15 #[v] w fun e w' => e = .returned (.int .i64 (if mayH L n then (openN (stO L n).1 : Nat) else 0)) ∧ Below w.heap.size w w'))
    (n : Nat) (L : Nat → Ev) (v : Value) (w : World) (h : VR w v n L) : Calls Try.prog 3 #[v] w fun e w' => e = .returned (.bool true) ∧ Below w.heap.size w w' := by
  refine Calls.veil fun Q HQ => ?_
  obtain ⟨p, c, rfl, a1, a2, A3⟩ := h.parts
  have HV := Lib.hid h
  clear h
  go_enter Try.func3, Try.ntmps3
  go_wp2_with fail
  refine (hgreat n L _ _ HV.out).mono ?_; rintro _ z1 ⟨b, rfl, hg, hb1⟩
  have HZ1 := Lib.hid hb1
  clear hb1
  cases b with
  | true =>
    clear hg
    go_wp2_with fail
    refine (lives11_calls _).mono ?_; rintro _ z2 ⟨rfl, hb2⟩
    have HF := Lib.hid (below_on HZ1.out hb2)
    clear hb2
    go_wp2_with fail
    (try go_ret)
    rw [HQ.out]
    exact ⟨rfl, HF.out⟩
  | false =>
    obtain ⟨hn, hps⟩ := hg rfl
    have HN := Lib.hid hn
    have HPS := Lib.hid hps
    clear hg hn hps
    have SM := Lib.hid (fun x : Ext w => hmay n L _ x.w (HV.out.below x.h) (by have := HN.out; omega))
    have RM := Lib.hid (fun x : Ext w => rmay11 n L _ x.w (HV.out.below x.h) (by have := HN.out; omega))
    have ST := Lib.hid (fun x : Ext w => hthreads n L _ x.w (HV.out.below x.h) (by have := HN.out; omega))
    have RT := Lib.hid (fun x : Ext w => rthreads n L _ x.w (HV.out.below x.h) (by have := HN.out; omega))
    have SO := Lib.hid (fun x : Ext w => HOPEN.out n L _ x.w (HV.out.below x.h) HN.out HPS.out)
    cases hm : mayH L n with
    | false =>
      rw [hm] at SM RM ST RT SO
      have HM := Lib.hid hm
      clear hm
      go_wp2_with fail
      refine (hopers0 n L _ _ (HV.out.below HZ1.out) (by have := HN.out; omega) HM.out).mono ?_; rintro _ z2 ⟨rfl, hb2⟩
      have HZ2 := Lib.hid (below_on HZ1.out hb2); clear hb2
      go_wp2_with fail
      refine (ropers0 n L _ _ (HV.out.below HZ2.out) (by have := HN.out; omega) HM.out).mono ?_; rintro _ z3 ⟨rfl, hb2⟩
      have HZ3 := Lib.hid (below_on HZ2.out hb2); clear hb2
      go_wp2_with fail
      refine (SM.out ⟨_, HZ3.out⟩).mono ?_; rintro _ z4 ⟨rfl, hb2⟩
      have HZ4 := Lib.hid (below_on HZ3.out hb2); clear hb2
      go_wp2_with fail
      refine (RM.out ⟨_, HZ4.out⟩).mono ?_; rintro _ z5 ⟨rfl, hb2⟩
      have HZ5 := Lib.hid (below_on HZ4.out hb2); clear hb2
      go_wp2_with fail
      refine (ST.out ⟨_, HZ5.out⟩).mono ?_; rintro _ z6 ⟨rfl, hb2⟩
      have HZ6 := Lib.hid (below_on HZ5.out hb2); clear hb2
      go_wp2_with fail
      refine (RT.out ⟨_, HZ6.out⟩).mono ?_; rintro _ z7 ⟨rfl, hb2⟩
      have HZ7 := Lib.hid (below_on HZ6.out hb2); clear hb2
      go_wp2_with fail
      go_loopw [5, 6] (fun cv iv wr => cv = .int .i64 0 ∧ iv = .int .i64 0 ∧ wr = z7) (fun _ _ _ => 0)
      case atStart => exact ⟨rfl, rfl, rfl⟩
      case round =>
        obtain ⟨rfl, rfl, hW⟩ := hrel
        have hW := hW.symm
        subst hW
        go_wp2_with fail
        refine (SO.out ⟨_, HZ7.out⟩).mono ?_; rintro _ z8 ⟨rfl, hb2⟩
        have HZ8 := Lib.hid (below_on HZ7.out hb2); clear hb2
        go_wp2_with fail
        refine (lives11_calls _).mono ?_; rintro _ z9 ⟨rfl, hb2⟩
        have HF := Lib.hid (below_on HZ8.out hb2); clear hb2
        go_wp2_with fail
        (try go_ret)
        rw [HQ.out]
        exact ⟨rfl, HF.out⟩
    | true =>
      rw [hm] at SM RM ST RT SO
      have HM := Lib.hid hm
      have HRG := Lib.hid (thrH_rng hm n (Nat.le_refl _))
      clear hm
      go_wp2_with fail
      refine (hopers n L _ _ (HV.out.below HZ1.out) (by have := HN.out; omega) (fun i hi => by have := HPS.out i hi; omega) HM.out).mono ?_; rintro _ z2 ⟨v1, l1, rfl, hl1, ho1, hp1, hb2⟩
      have HZ2 := Lib.hid (below_on HZ1.out hb2)
      obtain ⟨p1, c1, rfl, d1, d2, D3⟩ := own_partsP ho1 (fun x hx => (hp1 x hx).1) hl1
      clear hb2 ho1 hp1 hl1
      go_wp2_with fail
      refine (ropers n L _ _ (HV.out.below HZ2.out) (by have := HN.out; omega) HM.out).mono ?_; rintro _ z3 ⟨v2, l2, rfl, hl2, ho2, hp2, hb2⟩
      have HZ23 := Lib.hid hb2
      have HZ3 := Lib.hid (below_on HZ2.out hb2)
      obtain ⟨p2, c2, rfl, f1, f2, F3⟩ := own_partsP ho2 hp2 hl2
      clear hb2 ho2 hp2 hl2
      have HOP := Lib.hid (stO_ps HPS.out n (Nat.le_refl _))
      have HLE := Lib.hid (stO_len L n)
      generalize (stO L n).1 = O at *
      generalize thrH L n = T at *
      obtain ⟨m, hm⟩ : ∃ m, m = O.length := ⟨_, rfl⟩
      rw [← hm] at d1 D3 f1 F3 HLE
      have HOM := Lib.hid hm
      rw [← hm]
      clear hm
      go_wp2_with fail
      refine (SM.out ⟨_, HZ3.out⟩).mono ?_; rintro _ z4 ⟨rfl, hb2⟩
      have HZ34 := Lib.hid hb2
      have HZ4 := Lib.hid (below_on HZ3.out hb2); clear hb2
      go_wp2_with fail
      refine (RM.out ⟨_, HZ4.out⟩).mono ?_; rintro _ z5 ⟨rfl, hb2⟩
      have HZ35 := Lib.hid (below_on HZ34.out hb2)
      have HZ5 := Lib.hid (below_on HZ4.out hb2); clear hb2
      go_wp2_with fail
      refine (ST.out ⟨_, HZ5.out⟩).mono ?_; rintro _ z6 ⟨rfl, hb2⟩
      have HZ36 := Lib.hid (below_on HZ35.out hb2)
      have HZ6 := Lib.hid (below_on HZ5.out hb2); clear hb2
      go_wp2_with fail
      refine (RT.out ⟨_, HZ6.out⟩).mono ?_; rintro _ z7 ⟨rfl, hb2⟩
      have HZ37 := Lib.hid (below_on HZ36.out hb2)
      have HZ7 := Lib.hid (below_on HZ6.out hb2); clear hb2
      go_wp2_with fail
      go_loopw [5, 6] (fun cv iv wr => ∃ i : Nat, i ≤ m ∧ iv = .int .i64 i ∧ ∃ k : Nat, k ≤ i ∧ cv = .int .i64 k ∧ Hid (k = openN (O.take i)) ∧ Below z7.heap.size z7 wr)
        (fun _ iv _ => m - (intOf iv).toNat)
      case atStart => exact ⟨0, by omega, rfl, 0, by omega, rfl, Lib.hid (by simp [openN]), Below.refl _ _⟩
      case round =>
        obtain ⟨i, hi, rfl, k, hki, rfl, HKC, hbx⟩ := hrel
        have HX := Lib.hid hbx
        clear hbx
        rcases (by omega : i < m ∨ i = m) with hlt | hEQ
        · obtain ⟨g1, rfl, hD1⟩ := D3.out (by omega)
          obtain ⟨g2, rfl, hD2⟩ := F3.out (by omega)
          obtain ⟨x, hx⟩ : ∃ x, O[i]? = some x := ⟨_, List.getElem?_eq_getElem (by have := HOM.out; omega)⟩
          obtain ⟨ux, hCx, hPx⟩ := hD1 i x hx
          obtain ⟨uy, hCy, hPy⟩ := hD2 i x hx
          have HB27 := Lib.hid (below_on HZ23.out HZ37.out)
          have HB2 := Lib.hid (below_on HB27.out HX.out)
          have HB3 := Lib.hid (below_on HZ37.out HX.out)
          have HCx := hCx.below HB2.out
          have HCy := hCy.below HB3.out
          have HPX := Lib.hid (hPx.below HB2.out)
          have HPY := Lib.hid (hPy.below HB2.out)
          have HXO := Lib.hid (HOP.out x (List.mem_of_getElem? hx))
          have HTK := Lib.hid (show openN (O.take (i + 1)) = openN (O.take i) + (if x.to < 0 then 1 else 0) by
            rw [List.take_add_one, hx]
            unfold openN
            rw [List.countP_append]
            simp [List.countP_cons])
          have HCY := Lib.hid HCy
          clear hCx hCy hPx hPy hD1 hD2 hx
          obtain ⟨qx, sx, rfl, _, _⟩ := HPX.out.slice
          obtain ⟨qy, sy, rfl, _, _⟩ := HPY.out.slice
          obtain ⟨x0, x1, x2, x3, x4, x5, x6, x7, x8, x9, x10, x11, x12⟩ := HCx
          obtain ⟨y0, y1, y2, y3, y4, y5, y6, y7, y8, y9, y10, y11, y12⟩ := HCy
          have x0 := Ext.cells x0; have x1 := Ext.cells x1; have x2 := Ext.cells x2; have x3 := Ext.cells x3; have x4 := Ext.cells x4; have x5 := Ext.cells x5; have x6 := Ext.cells x6; have x7 := Ext.cells x7; have x8 := Ext.cells x8; have x9 := Ext.cells x9; have x10 := Ext.cells x10; have x11 := Ext.cells x11; have x12 := Ext.cells x12
          have y0 := Ext.cells y0; have y1 := Ext.cells y1; have y2 := Ext.cells y2; have y3 := Ext.cells y3; have y4 := Ext.cells y4; have y5 := Ext.cells y5; have y6 := Ext.cells y6; have y7 := Ext.cells y7; have y8 := Ext.cells y8; have y9 := Ext.cells y9; have y10 := Ext.cells y10; have y11 := Ext.cells y11; have y12 := Ext.cells y12
          go_upto_region 10 with fail
          (with_reducible refine wp_region_mix (fun w' => ∃ y : Ext wr, w' = y.w) ?_ ?_ ?_ ?_; kernel_rfl; kernel_rfl; exact ⟨⟨wr.drew, (Below.refl _ _).drew⟩, rfl⟩)
          repeat (first | ((with_reducible refine mix_skip (by kernel_rfl) ?_); go_big_quiet_skip; (with_reducible refine mix_on ?_)) | ((with_reducible refine mix_plain (by kernel_rfl) ?_); (first | go_big_quiet_skip | (go_big_quiet_want; go_big_quiet_op; go_big_quiet_on)); (with_reducible refine mix_on ?_)))
          ((with_reducible refine wpMix_chain (by kernel_rfl) (by kernel_rfl) (fun K HK => ?_)); go_step)
          refine (rsame11e x _ _ _ (HPX.out.below (Below.refl _ _).drew) (HPY.out.below (Below.refl _ _).drew) (by have := HXO.out; omega)).mono ?_; rintro _ z8 ⟨rfl, hb2⟩
          have HZ8 := Lib.hid (show Below wr.heap.size wr z8 from below_on (Below.refl _ _).drew hb2)
          refine HK.out _ _ ⟨⟨z8, HZ8.out⟩, rfl⟩ ?_
          clear HK K hb2
          have w12 := y12 ⟨z8, HZ8.out⟩
          simp only at w12
          repeat (first | ((with_reducible refine mix_skip (by kernel_rfl) ?_); go_big_quiet_skip; (with_reducible refine mix_on ?_)) | ((with_reducible refine mix_plain (by kernel_rfl) ?_); (first | go_big_quiet_skip | (go_big_quiet_want; go_big_quiet_op; go_big_quiet_on)); (with_reducible refine mix_on ?_)))
          refine wpMix_nil ?_
          clear x0 x1 x2 x3 x4 x5 x6 x7 x8 x9 x10 x11 x12 y0 y1 y2 y3 y4 y5 y6 y7 y8 y9 y10 y11 y12
          have HF := Lib.hid (below_on HX.out HZ8.out)
          by_cases hto : x.to < 0
          · rw [if_pos hto] at HTK
            go_wp2_with fail
            go_roundw
            case rel => exact ⟨i + 1, by omega, by go_num, k + 1, by omega, by go_num, Lib.hid (by rw [HTK.out, HKC.out]), HF.out⟩
            case measure => simp [intOf]; omega
          · rw [if_neg hto] at HTK
            go_wp2_with fail
            go_roundw
            case rel => exact ⟨i + 1, by omega, by go_num, k, by omega, by go_num, Lib.hid (by rw [HTK.out, HKC.out]; rfl), HF.out⟩
            case measure => simp [intOf]; omega
        · have hge : ¬ i < m := by omega
          have hkm : k = openN O := by rw [HKC.out, hEQ, HOM.out, List.take_length]
          rw [← hkm] at SO
          have HF7 := Lib.hid (below_on HZ7.out HX.out)
          clear hEQ hi hki hkm
          go_wp2_with fail
          refine (SO.out ⟨_, HF7.out⟩).mono ?_; rintro _ z8 ⟨rfl, hb2⟩
          have HZ8 := Lib.hid (below_on HF7.out hb2); clear hb2
          go_wp2_with fail
          refine (lives11_calls _).mono ?_; rintro _ z9 ⟨rfl, hb2⟩
          have HF := Lib.hid (below_on HZ8.out hb2); clear hb2
          go_wp2_with fail
          (try go_ret)
          rw [HQ.out]
          exact ⟨rfl, HF.out⟩
end Go.Proofs.Ytmnmomiheenmpaa
