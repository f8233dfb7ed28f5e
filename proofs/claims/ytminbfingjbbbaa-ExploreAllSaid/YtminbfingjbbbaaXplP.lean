/- Layer 36: all schedules that begin so: one turn more. (By gen_xpln.py.) -/
import Derived.Test.YtminbfingjbbbaaXplO
namespace Go.Proofs.Ytminbfingjbbbaa
open Go.RowKit
set_option linter.unusedVariables false
set_option linter.unusedSimpArgs false
set_option maxRecDepth 8000 in
set_option maxHeartbeats 2000000 in
theorem tellSL (W : World) (B lb fb ib kb yb tb mb sb ab nb g n c t m k : Nat) (till : Int) (A : List PL) (HEnv : Env W B lb fb ib kb yb tb mb sb ab nb g n c t m k till A) (d : Nat) (HTell : Tell W B lb fb ib kb yb tb mb sb t m k till A d)
    (p : PL) (pre post : List PL) (v : Value) (w : World) (hA : A = pre ++ (leavesL t m (d + 1) p ++ post)) (hpk : p.length + (d + 1) = k) (hp : ∃ (x : Nat) (y : Int) (q : PL), x < t ∧ p = q ++ [((x : Int), y)]) (hs : TS W B lb fb ib w p (pre.length : Nat) v) :
    Calls Try.prog 15 #[.pointer (some ⟨lb, 0, none⟩), .pointer (some ⟨kb, 0, none⟩), .pointer (some ⟨yb, 0, none⟩), .pointer (some ⟨tb, 0, none⟩), .pointer (some ⟨mb, 0, none⟩), .pointer (some ⟨sb, 0, none⟩)] w fun e w' =>
      ∃ (b : Bool) (v' : Value) (p' : PL) (i' : Int), e = .returned (.bool b) ∧ TS W B lb fb ib w' p' i' v' ∧ (b = true → p' = p ∧ i' = ((pre.length + (leavesL t m (d + 1) p).length : Nat) : Int) ∧ ¬ Stp till pre.length (leavesL t m (d + 1) p).length) ∧ (b = false → i' = till ∧ Stp till pre.length (leavesL t m (d + 1) p).length) := by
  refine Calls.veil fun Q HQ => ?_
  have HE := Lib.hid HEnv
  have HTM := Lib.hid HEnv.tm
  have HD := Lib.hid HTell
  have HPK := Lib.hid hpk
  have HA := Lib.hid hA
  have HPA := Lib.hid (parts_all t m d p HEnv.tm.2.1.1)
  have hbk := ne_len hpk
  have HTS := Lib.hid (show TS W B lb fb ib w p (((pre ++ partsL t m d p 0).length : Nat) : Int) v by rw [show partsL t m d p 0 = [] from rfl, List.append_nil]; exact hs)
  have HS0 := Lib.hid (show ¬ Stp till pre.length (partsL t m d p 0).length from stp_zero till _)
  have q1 : wrap64 ((t : Int) * (m : Int)) = ((t * m : Nat) : Int) := by rw [mulc]; exact wrap_id (nat_in (mul_le3 HEnv.tm.1.2 HEnv.tm.2.1.2))
  have q2 : IntKind.i64.wrap ((t : Int) * (m : Int)) = ((t * m : Nat) : Int) := by rw [mulc]; exact wrapi_id (nat_in (mul_le3 HEnv.tm.1.2 HEnv.tm.2.1.2))
  obtain ⟨N, hN⟩ : ∃ N, N = t * m := ⟨_, rfl⟩
  rw [← hN] at q1 q2 HPA
  have HN := Lib.hid hN
  have HXL := Lib.hid (fun (x : Nat) (hx : x < N) => mul_le2 HEnv.tm.1.2 HEnv.tm.2.1.2 (Nat.lt_of_lt_of_eq hx hN))
  have hm0 : ¬ (m : Int) = 0 := ne0_int HEnv.tm.2.1.1
  have hm1 : ¬ (m : Int) = -1 := nem1_int m
  have hm2 : ((m : Int) == 0) = false := beq_eq_false_iff_ne.2 hm0
  obtain ⟨lp, lc, rfl⟩ := ownP_slice hs.own
  have c0 := hs.cell
  have HC0 := HEnv.con w hs.k
  have c1 := HC0.k
  have c2 := HC0.t
  have c3 := HC0.m
  obtain ⟨xx, yy, q, hxx, hp⟩ := hp
  obtain ⟨L, hL⟩ : ∃ L, L = q.length := ⟨_, rfl⟩
  have hl0 : p.length = L + 1 := by rw [hp, hL]; simp
  rw [hl0] at c0 hbk
  have hbk2 : ((L : Int) + 1 == (k : Int)) = false := hbk
  clear hbk
  have HLEN := Lib.hid hl0
  obtain ⟨hLw1, hLw2, hLw3, hLw4, hL0, hL1⟩ := len_L (L := L) (d := d) (k := k) (by rw [← hl0]; exact ⟨hpk, HTM.out.2.2⟩)
  have HP := Lib.hid hp
  have HQL := Lib.hid hL
  clear hl0 hp hL hxx
  clear HC0 hA hpk hs HEnv HTell hN
  go_enter Try.func15, Try.ntmps15
  go_wp2_with fail
  go_loopw [24] (fun nv wr => ∃ (x : Nat) (v' : Value), x ≤ N ∧ nv = .int .i64 x ∧ Hid (TS W B lb fb ib wr p (((pre ++ partsL t m d p x).length : Nat) : Int) v') ∧ Hid (¬ Stp till pre.length (partsL t m d p x).length)) (fun nv _ => N - (intOf nv).toNat)
  case atStart => exact ⟨0, _, Nat.zero_le _, rfl, HTS, HS0⟩
  case round =>
    obtain ⟨x, v', hx, rfl, HT, HNS⟩ := hrel
    clear c0 c1 c2 c3 HTS HS0
    rcases or_lt hx with hlt | heq
    · have hxn : (x : Int) < (N : Int) := lt_int hlt
      have HX := Lib.hid hlt
      have hxw1 : wrap64 ((x : Int) + 1) = (x : Int) + 1 := wr_k (HXL.out x hlt)
      have hxw2 : IntKind.i64.wrap ((x : Int) + 1) = (x : Int) + 1 := wri_k (HXL.out x hlt)
      obtain ⟨Aa, hAa⟩ : ∃ q : Nat, q = x / m := ⟨_, rfl⟩
      obtain ⟨Bb, hBb⟩ : ∃ q : Nat, q = x % m := ⟨_, rfl⟩
      have e2 : Int.tdiv (x : Int) (m : Int) = (Aa : Int) := by rw [hAa]; exact tdiv_nat x m
      have e3 : Int.tmod (x : Int) (m : Int) = (Bb : Int) := by rw [hBb]; exact tmod_nat x m
      have bA : Aa ≤ 750000000000000 := by rw [hAa]; exact Nat.le_trans (Nat.div_le_self _ _) (Nat.le_trans (HXL.out x hlt) (by decide))
      have bB : Bb ≤ 100000 := by rw [hBb]; exact Nat.le_trans (Nat.mod_le _ _) (HXL.out x hlt)
      have q3 := wrap_id (nat_in bA)
      have q4 := wrapi_id (nat_in bA)
      have q5 : wrap64 ((Bb : Int) + 1) = (Bb : Int) + 1 := wr_k bB
      have q6 : IntKind.i64.wrap ((Bb : Int) + 1) = (Bb : Int) + 1 := wri_k bB
      have HAB := Lib.hid (And.intro hAa hBb)
      have HAT := Lib.hid (show Aa < t by rw [hAa]; exact Nat.div_lt_of_lt_mul (Nat.lt_of_lt_of_eq hlt (HN.out.trans (Nat.mul_comm _ _))))
      obtain ⟨tl, htl⟩ := parts_split t m d p x N hlt
      have HTL := Lib.hid htl
      clear hAa hBb bA bB hx hlt htl
      have m0 := fun y : Ext wr => (HE.out.con _ (HT.out.on y.h).k).m
      go_upto_region 7 with fail
      (with_reducible refine wp_region_mix (fun w' => ∃ y : Ext wr, w' = y.w) ?_ ?_ ?_ ?_; kernel_rfl; kernel_rfl; exact ⟨⟨wr.drew, (Below.refl _ _).drew⟩, rfl⟩)
      repeat (first | ((with_reducible refine mix_plain (by kernel_rfl) ?_); (first | go_big_quiet_skip | (go_big_quiet_want; go_big_quiet_op; go_big_quiet_on)); (with_reducible refine mix_on ?_)) | ((with_reducible refine mix_skip (by kernel_rfl) ?_); go_big_quiet_skip; (with_reducible refine mix_on ?_)))
      ((with_reducible refine wpMix_chain (by kernel_rfl) (by kernel_rfl) (fun K HK => ?_)); go_step)
      refine HK.out _ _ ⟨⟨_, ((Below.refl _ _).drew).alloc (Nat.le_refl _) _⟩, rfl⟩ ?_
      clear HK K
      repeat (first | ((with_reducible refine mix_plain (by kernel_rfl) ?_); (first | go_big_quiet_skip | (go_big_quiet_want; go_big_quiet_op; go_big_quiet_on)); (with_reducible refine mix_on ?_)) | ((with_reducible refine mix_skip (by kernel_rfl) ?_); go_big_quiet_skip; (with_reducible refine mix_on ?_)))
      ((with_reducible refine wpMix_chain (by kernel_rfl) (by kernel_rfl) (fun K HK => ?_)); go_step)
      refine HK.out _ _ ⟨⟨_, ((Below.refl wr.heap.size wr).alloc (Nat.le_refl _) _).drew⟩, rfl⟩ ?_
      clear HK K
      refine wpMix_nil ?_
      clear m0
      generalize hV : World.drew _ = V
      obtain ⟨pb, hpb⟩ : ∃ x, x = wr.heap.size := ⟨_, rfl⟩
      have HV := Lib.hid (show V.heap[pb]? = some (.cells #[.int .i64 Aa, .int .i64 ((Bb : Int) + 1)] 39 (0, 0)) ∧ Below wr.heap.size wr V by
        rw [← hV, hpb]; exact ⟨heap_alloc_new wr _, ((Below.refl _ _).alloc (Nat.le_refl _) _).drew⟩)
      rw [← hpb]
      clear hV hpb
      have HT2 := Lib.hid (HT.out.on HV.out.2)
      clear HT
      obtain ⟨gg, oo, cc, hv', _, _, HCS⟩ := (own_PR HT2.out.own).opened (by rw [HLEN.out]; exact Nat.succ_pos _)
      have hcl := (HCS.out L (by rw [HLEN.out]; exact Nat.lt_succ_self _)).1
      rw [show ky p L = (xx : Int) by rw [HP.out, HQL.out]; simp [ky, List.getD_eq_getElem?_getD]] at hcl
      rw [HLEN.out] at hv'
      subst hv'
      clear HCS
      have m0 := HT2.out.cell
      have m1 := Ext.cells (show V.cell? ⟨pb, 0, none⟩ = some (.int .i64 Aa) by rw [cell_of_row _ pb _ _ _ (0, 0) HV.out.1]; rfl)
      have m2 := Ext.cells m0
      have m3 := Ext.cells hcl
      clear m0 hcl
      go_upto_region 8 with fail
      by_cases hxa : xx = Aa
      · have hb := eq_int hxa
        have HSK := Lib.hid (show skipB p Aa = true by rw [HP.out, skip_last]; exact decide_eq_true hxa)
        clear hxa
        (with_reducible refine wp_region_mix (fun w' => ∃ y : Ext V, w' = y.w) ?_ ?_ ?_ ?_; kernel_rfl; kernel_rfl; exact ⟨⟨V.drew, (Below.refl _ _).drew⟩, rfl⟩)
        repeat (first | ((with_reducible refine mix_skip (by kernel_rfl) ?_); go_big_quiet_skip; (with_reducible refine mix_on ?_)) | ((with_reducible refine mix_plain (by kernel_rfl) ?_); (first | go_big_quiet_skip | (go_big_quiet_want; go_big_quiet_op; go_big_quiet_on)); (with_reducible refine mix_on ?_)))
        refine wpMix_nil ?_
        have HT3 := Lib.hid (HT2.out.on (Below.refl V.heap.size V).drew)
        clear HT2 HV m1 m2 m3
        generalize V.drew = U0 at *
        go_wp2_with fail
        go_roundw
        case rel => exact ⟨x + 1, _, HX.out, rfl, Lib.hid (by
            rw [parts_succ, skip_step (by rw [← HAB.out.1]; exact HSK.out), List.append_nil]; exact HT3.out), Lib.hid (by
            rw [parts_succ, skip_step (by rw [← HAB.out.1]; exact HSK.out), List.append_nil]; exact HNS.out)⟩
        case measure => exact meas1 HX.out
      · have hb := ne_int hxa
        have HSK := Lib.hid (show skipB p Aa = false by rw [HP.out, skip_last]; exact decide_eq_false hxa)
        clear hxa
        (with_reducible refine wp_region_mix (fun w' => ∃ y : Ext V, w' = y.w) ?_ ?_ ?_ ?_; kernel_rfl; kernel_rfl; exact ⟨⟨V.drew, (Below.refl _ _).drew⟩, rfl⟩)
        repeat (first | ((with_reducible refine mix_skip (by kernel_rfl) ?_); go_big_quiet_skip; (with_reducible refine mix_on ?_)) | ((with_reducible refine mix_plain (by kernel_rfl) ?_); (first | go_big_quiet_skip | (go_big_quiet_want; go_big_quiet_op; go_big_quiet_on)); (with_reducible refine mix_on ?_)))
        refine wpMix_nil ?_
        have HU := Lib.hid (show V.drew.heap[pb]? = some (.cells #[.int .i64 Aa, .int .i64 ((Bb : Int) + 1)] 39 (0, 0)) from HV.out.1)
        have HT3 := Lib.hid (HT2.out.on (Below.refl V.heap.size V).drew)
        clear HT2 HV m1 m2 m3
        generalize V.drew = U0 at *
        go_upto_region 9 with fail
        have c0 : U0.cell? ⟨lb, 0, none⟩ = some (.slice (some ⟨gg, oo, none⟩) (L + 1) cc) := HT3.out.cell
        have n0 : U0.cell? ⟨pb, 0, none⟩ = some (.int .i64 Aa) := by rw [cell_of_row _ pb _ _ _ (0, 0) HU.out]; rfl
        have n1 : U0.cell? ⟨pb, 1, none⟩ = some (.int .i64 ((Bb : Int) + 1)) := by rw [cell_of_row _ pb _ _ _ (0, 0) HU.out]; rfl
        go_wp2_with (at_builtin; refine wpList_append_pr rfl (.tmp 47) (.tmp 49) rfl B _ p rfl (World.ownsRow.alloc HT3.out.own _) _ [((Aa : Int), (Bb : Int) + 1)] rfl PR.single (len_5 HPK.out HTM.out.2.2) (Nat.le_trans HT3.out.s (size_al _ (Nat.le_refl _))) ?_)
        intro v1 w1 hown hg
        obtain ⟨g1, cc1, rfl, hc1, hc2⟩ := own_some hown
        have HG := Lib.hid (And.intro hown hg)
        have HT4 := Lib.hid (HT3.out.on ((Below.refl _ _).alloc (Nat.le_refl _) (.cells #[.int .i64 Aa, .int .i64 ((Bb : Int) + 1)] 39)))
        have hl1 := HT4.out.low hg HE.out.lt.1 HT4.out.l
        have d0 : w1.cell? ⟨lb, 0, none⟩ = some (.slice (some ⟨gg, oo, none⟩) (L + 1) cc) := by rw [cell_of_row _ lb _ _ _ (0, 0) hl1]; rfl
        have r0 : w1.frozen? ⟨lb, 0, none⟩ = false := frozen_of_row _ _ _ _ _ hl1
        clear hown hg hl1 hc1 hc2 c0 n0 n1
        go_upto_region 10 with fail
        generalize hX : World.setCell _ _ _ = X1
        have HX1 := Lib.hid (show TS W B lb fb ib X1 (p ++ [((Aa : Int), (Bb : Int) + 1)]) (((pre ++ partsL t m d p x).length : Nat) : Int) (.slice (some ⟨g1, 0, none⟩) (p.length + 1) cc1) by
          rw [← hX]
          exact HT4.out.push HG.out.1 HG.out.2 HE.out.lt HE.out.ne.1 HE.out.ne.2.1)
        clear hX d0 r0 HG HT4
        have s0 := (HE.out.con _ HX1.out.k).s
        go_wp2_with fail
        refine (HD.out _ (pre ++ partsL t m d p x) (tl ++ post) _ X1 (by rw [HA.out, ← HPA.out, HTL.out, go_step' (by rw [← HAB.out.1]; exact HSK.out), ← HAB.out.1, ← HAB.out.2]; simp only [List.append_assoc]) (len_6 HPK.out) (.inr ⟨Aa, (Bb : Int) + 1, p, HAT.out, rfl⟩) HX1.out).mono ?_
        rintro _ w5 ⟨b, v5, p5, i5, rfl, h5, h6, h7⟩
        have H5 := Lib.hid h5
        have HSTP := Lib.hid (show stepL t m d p x = leavesL t m d (p ++ [((Aa : Int), (Bb : Int) + 1)]) by rw [go_step' (by rw [← HAB.out.1]; exact HSK.out), ← HAB.out.1, ← HAB.out.2])
        clear h5 s0 HX1
        cases b with
        | false =>
          have H7 := Lib.hid (h7 rfl)
          clear h6 h7
          go_wp2_with fail
          (try go_ret)
          rw [HQ.out]
          refine ⟨false, v5, p5, i5, rfl, H5.out, fun h => by (cases h), fun _ => ⟨H7.out.1, ?_⟩⟩
          have h8 := H7.out.2
          rw [List.length_append] at h8
          refine stp_up h8 ?_
          rw [← HPA.out, HTL.out, HSTP.out, List.length_append, List.length_append]
          exact Nat.add_le_add_left (Nat.le_add_right _ _) _
        | true =>
          obtain ⟨rfl, h8, h9⟩ := h6 rfl
          have H8 := Lib.hid (And.intro h8 h9)
          clear h6 h7 h8 h9
          obtain ⟨g6, c6, rfl, hc6, hc7⟩ := own_some H5.out.own
          have c0 := H5.out.cell
          have r0 : w5.frozen? ⟨lb, 0, none⟩ = false := frozen_of_row _ _ _ _ _ H5.out.l
          obtain ⟨hc8, hc9, hc10, hc11, hc12, hc13⟩ := len_c2 hc6 HLEN.out HPK.out HTM.out.2.2
          clear hc6 hc7
          go_upto_region 13 with fail
          generalize hX : World.setCell _ _ _ = X2
          have HX2 := Lib.hid (show TS W B lb fb ib X2 p i5 (.slice (some ⟨g6, 0, none⟩) p.length c6) by
            have h8 := H5.out.cut HE.out.lt HE.out.ne.1 HE.out.ne.2.1
            rw [HLEN.out] at h8 ⊢
            rw [← hX]; exact h8)
          clear hX c0 r0 hc8 hc9 hc10 hc11 hc12 hc13
          go_wp2_with fail
          go_roundw
          case rel => exact ⟨x + 1, _, HX.out, rfl, Lib.hid (by
              have e : (((pre ++ partsL t m d p (x + 1)).length : Nat) : Int) = i5 := by rw [H8.out.1, parts_succ, HSTP.out, ← List.append_assoc, List.length_append]
              rw [e]; exact HX2.out), Lib.hid (by
              have h9 := H8.out.2
              rw [List.length_append] at h9
              rw [parts_succ, HSTP.out, List.length_append]; exact stp_no HNS.out h9)⟩
          case measure => exact meas1 HX.out
    · have hxn : ¬ (x : Int) < (N : Int) := nlt_int heq
      subst heq
      go_wp2_with fail
      (try go_ret)
      rw [HQ.out]
      have HF := HT.out
      have HF2 := HNS.out
      rw [HPA.out] at HF HF2
      exact ⟨true, _, p, _, rfl, HF, fun _ => ⟨rfl, by rw [List.length_append], HF2⟩, fun h => by cases h⟩
end Go.Proofs.Ytminbfingjbbbaa
