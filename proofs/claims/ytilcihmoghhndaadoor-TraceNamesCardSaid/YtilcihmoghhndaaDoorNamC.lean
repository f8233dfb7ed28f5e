/- Layer 40: names of words, of the reference. -/
import Derived.Test.YtilcihmoghhndaaDoorNamB
namespace Go.Proofs.YtilcihmoghhndaaDoor
open Go.RowKit
set_option linter.unusedVariables false
set_option linter.unusedSimpArgs false
open Go.Lib (itoa)
set_option maxRecDepth 8000 in
set_option maxHeartbeats 2000000 in
theorem rname_no {t s : Nat} {K a : Int} {w : World} (h : isW t s a = false) (t1 : 1 ≤ t) (t2 : t ≤ 6) (s1 : 7 ≤ s) (s2 : s ≤ 250) : Calls Tryd.prog 8 #[.agg #[.int .i64 t, .int .i64 s, .int .u64 K], .int .i64 a] w fun e w' => e = .returned (.string ⟨#[]⟩) ∧ Below w.heap.size w w' := by
  refine Calls.veil fun Q HQ => ?_
  have H := Lib.hid (fun W => rwords_calls t s K W t1 t2 s1 s2)
  have hn : a < 0 ∨ (0 ≤ a ∧ ((3 + 8 * t + 7 * s : Nat) : Int) ≤ a) := by
    have h1 := of_decide_eq_false h
    unfold wordsI at h1; omega
  have hn0 : 0 < 3 + 8 * t + 7 * s := by omega
  obtain ⟨n, hnn⟩ : ∃ n, n = 3 + 8 * t + 7 * s := ⟨_, rfl⟩
  rw [← hnn] at H hn hn0
  clear h t1 t2 s1 s2 hnn
  go_enter Tryd.func8, Tryd.ntmps8
  go_wp2_with fail
  refine (H.out _).mono ?_; rintro _ z ⟨v, rfl, hown, hb⟩
  obtain ⟨g, cap, rfl, _, _, _, _, _⟩ := own_cells hown hn0
  have HB := Lib.hid (show Below w.heap.size w z by (repeat (first | exact Below.refl _ _ | assumption | refine below_new ?_ _ | refine Below.drew ?_ | refine below_drewN ?_ _ | refine below_on ?_ (by assumption))))
  clear hown hb
  rcases hn with h | ⟨h, h'⟩
  · go_wp2_with fail
    (try go_ret)
    rw [HQ.out]
    exact ⟨rfl, HB.out⟩
  · have h0 : ¬ a < 0 := by omega
    go_wp2_with fail
    (try go_ret)
    rw [HQ.out]
    exact ⟨rfl, HB.out⟩
set_option maxRecDepth 8000 in
set_option maxHeartbeats 4000000 in
theorem rname_yes {t s : Nat} {K a : Int} {w : World} (h : isW t s a = true) (t1 : 1 ≤ t) (t2 : t ≤ 6) (s1 : 7 ≤ s) (s2 : s ≤ 250) : Calls Tryd.prog 8 #[.agg #[.int .i64 t, .int .i64 s, .int .u64 K], .int .i64 a] w fun e w' => e = .returned (.string ⟨(nameT t a).toArray⟩) ∧ Below w.heap.size w w' := by
  refine Calls.veil fun Q HQ => ?_
  have H := Lib.hid (fun W => rwords_calls t s K W t1 t2 s1 s2)
  have h1 := of_decide_eq_true h
  obtain ⟨an, rfl⟩ := Int.eq_ofNat_of_zero_le h1.1
  have HIN := Lib.hid (show InW (wk t an) (wi t an) (wj t an) from w_in (by omega) (by omega) (by omega) h1.1 h1.2)
  have hn : an < 3 + 8 * t + 7 * s := by
    have h2 := h1.2
    unfold wordsI at h2; omega
  have hn0 : 0 < 3 + 8 * t + 7 * s := by omega
  have hn9 : 3 + 8 * t + 7 * s ≤ 1801 := by omega
  obtain ⟨n, hnn⟩ : ∃ n, n = 3 + 8 * t + 7 * s := ⟨_, rfl⟩
  rw [← hnn] at H hn hn0 hn9
  clear h h1 t1 t2 s1 s2 hnn
  unfold nameT at HQ
  go_enter Tryd.func8, Tryd.ntmps8
  go_wp2_with fail
  refine (H.out _).mono ?_; rintro _ z ⟨v, rfl, hown, hb⟩
  obtain ⟨g, cap, rfl, _, _, hc1, hc2, hc⟩ := own_cells hown hn0
  have HB := Lib.hid (show Below w.heap.size w z by (repeat (first | exact Below.refl _ _ | assumption | refine below_new ?_ _ | refine Below.drew ?_ | refine below_drewN ?_ _ | refine below_on ?_ (by assumption))))
  obtain ⟨c0, c1, c2⟩ := hc an hn
  clear hown hb hc H
  generalize wk (t : Int) (an : Int) = k at *
  generalize wi (t : Int) (an : Int) = i at *
  generalize wj (t : Int) (an : Int) = j at *
  have hlt : (an : Int) < n := by omega
  have hge : ¬ (n : Int) ≤ an := by omega
  have h00 : ¬ (an : Int) < 0 := by omega
  unfold maxLen at hc2
  go_upto_region 5 with fail
  generalize hV : World.alloc z _ = V
  have HBV := Lib.hid (show Below w.heap.size w V by rw [← hV]; exact below_new HB.out _)
  have y0 := Ext.cells (show V.cell? ⟨z.heap.size, 0, none⟩ = some (.int .i64 k) by rw [← hV]; exact Ext.made rfl 0 _ rfl ⟨_, Below.refl _ _⟩)
  have y1 := Ext.cells (show V.cell? ⟨z.heap.size, 1, none⟩ = some (.int .i64 i) by rw [← hV]; exact Ext.made rfl 1 _ rfl ⟨_, Below.refl _ _⟩)
  have y2 := Ext.cells (show V.cell? ⟨z.heap.size, 2, none⟩ = some (.int .i64 j) by rw [← hV]; exact Ext.made rfl 2 _ rfl ⟨_, Below.refl _ _⟩)
  generalize z.heap.size = X at y0 y1 y2 ⊢
  obtain ⟨is, his⟩ : ∃ x, x = itoa i := ⟨_, rfl⟩
  obtain ⟨js, hjs⟩ : ∃ x, x = itoa j := ⟨_, rfl⟩
  have HIS := Lib.hid his; have HJS := Lib.hid hjs
  have HI := Lib.hid (show is.length ≤ 21 by rw [his]; exact Lib.itoa_length_le i HIN.out.i.1.1 HIN.out.i.1.2)
  have HJ := Lib.hid (show js.length ≤ 21 by rw [hjs]; exact Lib.itoa_length_le j HIN.out.i.2.1 HIN.out.i.2.2)
  clear his hjs hV c0 c1 c2 hlt hge h00 hn hn0 hn9 hc1 hc2
  have q1 : ¬ 9223372036854775807 < 1 + is.length := by have := HI.out; omega
  have q2 : ¬ 9223372036854775807 < 1 + js.length := by have := HJ.out; omega
  (with_reducible refine wp_region_mix (fun w' => ∃ y : Ext V, w' = y.w) ?_ ?_ ?_ ?_; kernel_rfl; kernel_rfl; exact ⟨⟨V.drew, (Below.refl _ _).drew⟩, rfl⟩)
  repeat (first | ((with_reducible refine mix_skip (by kernel_rfl) ?_); go_big_quiet_skip; (with_reducible refine mix_on ?_)) | ((with_reducible refine mix_plain (by kernel_rfl) ?_); (first | go_big_quiet_skip | (go_big_quiet_want; go_big_quiet_op; go_big_quiet_on)); (with_reducible refine mix_on ?_)))
  ((with_reducible refine wpMix_chain (by kernel_rfl) (by kernel_rfl) (fun K HK => ?_)); go_step)
  refine (rnum i HIN.out.i.1 _).mono ?_; rintro _ z3 ⟨rfl, hb1⟩
  rw [← HIS.out]
  have HZ3 := Lib.hid (below_on (Below.refl V.heap.size V).drew hb1)
  refine HK.out _ _ ⟨⟨z3, HZ3.out⟩, rfl⟩ ?_
  clear HK K hb1
  repeat (first | ((with_reducible refine mix_skip (by kernel_rfl) ?_); go_big_quiet_skip; (with_reducible refine mix_on ?_)) | ((with_reducible refine mix_plain (by kernel_rfl) ?_); (first | go_big_quiet_skip | (go_big_quiet_want; go_big_quiet_op; go_big_quiet_on)); (with_reducible refine mix_on ?_)))
  ((with_reducible refine wpMix_chain (by kernel_rfl) (by kernel_rfl) (fun K HK => ?_)); go_step)
  refine (rnum j HIN.out.i.2 _).mono ?_; rintro _ z4 ⟨rfl, hb1⟩
  rw [← HJS.out]
  have HZ4 := Lib.hid (below_on HZ3.out hb1)
  refine HK.out _ _ ⟨⟨z4, HZ4.out⟩, rfl⟩ ?_
  clear HK K hb1
  repeat (first | ((with_reducible refine mix_skip (by kernel_rfl) ?_); go_big_quiet_skip; (with_reducible refine mix_on ?_)) | ((with_reducible refine mix_plain (by kernel_rfl) ?_); (first | go_big_quiet_skip | (go_big_quiet_want; go_big_quiet_op; go_big_quiet_on)); (with_reducible refine mix_on ?_)))
  refine wpMix_nil ?_
  have x0 := y0 ⟨z4, HZ4.out⟩; have x1 := y1 ⟨z4, HZ4.out⟩; have x2 := y2 ⟨z4, HZ4.out⟩
  simp only at x0 x1 x2
  have HF := Lib.hid (below_on HBV.out HZ4.out)
  clear y0 y1 y2 q1 q2
  go_upto_region 8 with fail
  generalize hU : World.alloc z4 _ = U1
  have hb1 : Below z4.heap.size z4 U1 := by rw [← hU]; exact below_new (Below.refl _ _) _
  have e1 : z4.heap.size + 1 = U1.heap.size := by rw [← hU]; simp
  have ca : ∀ b, b < 3 → U1.cell? ⟨z4.heap.size, b, none⟩ = some (.string ⟨(aloneW.getD b []).toArray⟩) := by
    intro b hb
    rcases (by omega : b = 0 ∨ b = 1 ∨ b = 2) with rfl | rfl | rfl
    · rw [← hU]; exact Ext.made rfl 0 _ rfl ⟨_, Below.refl _ _⟩
    · rw [← hU]; exact Ext.made rfl 1 _ rfl ⟨_, Below.refl _ _⟩
    · rw [← hU]; exact Ext.made rfl 2 _ rfl ⟨_, Below.refl _ _⟩
  generalize hU2 : World.alloc U1 _ = U
  have hb2 : Below U1.heap.size U1 U := by rw [← hU2]; exact below_new (Below.refl _ _) _
  have cf : ∀ b, b < 7 → U.cell? ⟨U1.heap.size, b, none⟩ = some (.string ⟨(fieldW.getD b []).toArray⟩) := by
    intro b hb
    rcases (by omega : b = 0 ∨ b = 1 ∨ b = 2 ∨ b = 3 ∨ b = 4 ∨ b = 5 ∨ b = 6) with rfl | rfl | rfl | rfl | rfl | rfl | rfl
    · rw [← hU2]; exact Ext.made rfl 0 _ rfl ⟨_, Below.refl _ _⟩
    · rw [← hU2]; exact Ext.made rfl 1 _ rfl ⟨_, Below.refl _ _⟩
    · rw [← hU2]; exact Ext.made rfl 2 _ rfl ⟨_, Below.refl _ _⟩
    · rw [← hU2]; exact Ext.made rfl 3 _ rfl ⟨_, Below.refl _ _⟩
    · rw [← hU2]; exact Ext.made rfl 4 _ rfl ⟨_, Below.refl _ _⟩
    · rw [← hU2]; exact Ext.made rfl 5 _ rfl ⟨_, Below.refl _ _⟩
    · rw [← hU2]; exact Ext.made rfl 6 _ rfl ⟨_, Below.refl _ _⟩
  have HCA := Lib.hid (show ∀ b, b < 3 → U.cell? ⟨z4.heap.size, b, none⟩ = some (.string ⟨(aloneW.getD b []).toArray⟩) from fun b hb => Ext.cell ⟨U, hb2⟩ (ca b hb))
  have HCF := Lib.hid cf
  have HU := Lib.hid (below_on (below_on HF.out hb1) hb2)
  have x0 := Ext.cell ⟨U, hb2⟩ (Ext.cell ⟨U1, hb1⟩ x0); have x1 := Ext.cell ⟨U, hb2⟩ (Ext.cell ⟨U1, hb1⟩ x1); have x2 := Ext.cell ⟨U, hb2⟩ (Ext.cell ⟨U1, hb1⟩ x2)
  simp only at x0 x1 x2
  rw [e1]
  generalize U1.heap.size = Q1 at HCF ⊢
  generalize z4.heap.size = Q0 at HCA ⊢
  clear hU hU2 hb1 hb2 e1 ca cf
  have b1 : ¬ 9223372036854775807 < 6 + (1 + is.length) := by have := HI.out; omega
  have b2 : ¬ 9223372036854775807 < 5 + (1 + is.length) := by have := HI.out; omega
  have b4 : ¬ 9223372036854775807 < 5 + (1 + is.length) + (1 + js.length) := by have := HI.out; have := HJ.out; omega
  have b5 : ¬ 9223372036854775807 < 3 + (1 + is.length) := by have := HI.out; omega
  have b7 : ¬ 9223372036854775807 < 3 + (1 + is.length) + (1 + js.length) := by have := HI.out; have := HJ.out; omega
  have b8 : ¬ 9223372036854775807 < 4 + (1 + is.length) := by have := HI.out; omega
  have b9 : ¬ 9223372036854775807 < 4 + (1 + is.length) + 1 := by have := HI.out; omega
  rcases HIN.out with ⟨rfl, a1, rfl⟩ | ⟨rfl, a1, rfl⟩ | ⟨rfl, a1, rfl⟩ | ⟨rfl, a1, a2⟩ | ⟨rfl, a1, a2⟩ | ⟨rfl, a1, a2⟩
  · obtain ⟨ib, rfl⟩ := Int.eq_ofNat_of_zero_le (show 0 ≤ i by omega)
    have hib : ib < 3 := by omega
    have c0 := HCA.out ib hib
    have HE := Lib.hid (show aloneW.getD (ib : Int).toNat [] = aloneW.getD ib [] by rw [show (ib : Int).toNat = ib by omega])
    generalize aloneW.getD ib [] = asx at c0 HE
    clear a1
    go_wp2_with fail
    (try go_ret)
    rw [HQ.out, nam0, HE.out]
    exact ⟨rfl, HU.out⟩
  · clear a1
    go_wp2_with fail
    (try go_ret)
    rw [HQ.out, nam1, ← HIS.out]
    exact ⟨congrArg Ending.returned (strE (by simp)), HU.out⟩
  · clear a1
    go_wp2_with fail
    (try go_ret)
    rw [HQ.out, nam2, ← HIS.out]
    exact ⟨congrArg Ending.returned (strE (by simp)), HU.out⟩
  · clear a1 a2
    go_wp2_with fail
    (try go_ret)
    rw [HQ.out, nam3, ← HIS.out, ← HJS.out]
    exact ⟨congrArg Ending.returned (strE (by simp)), HU.out⟩
  · clear a1 a2
    go_wp2_with fail
    (try go_ret)
    rw [HQ.out, nam4, ← HIS.out, ← HJS.out]
    exact ⟨congrArg Ending.returned (strE (by simp)), HU.out⟩
  · obtain ⟨jb, rfl⟩ := Int.eq_ofNat_of_zero_le a2.1
    have hjb : jb < 7 := by omega
    have c0 := HCF.out jb hjb
    have HFL := Lib.hid (show (fieldW.getD jb []).length ≤ 5 by
      have f : ∀ b, b < 7 → (fieldW.getD b []).length ≤ 5 := by decide
      exact f _ hjb)
    have HE := Lib.hid (show fieldW.getD (jb : Int).toNat [] = fieldW.getD jb [] by rw [show (jb : Int).toNat = jb by omega])
    generalize fieldW.getD jb [] = fs at c0 HE HFL
    have b10 : ¬ 9223372036854775807 < 4 + (1 + is.length) + 1 + fs.length := by have := HI.out; have := HFL.out; omega
    clear a1 a2
    go_wp2_with fail
    (try go_ret)
    rw [HQ.out, nam5, HE.out, ← HIS.out]
    exact ⟨congrArg Ending.returned (strE (by simp)), HU.out⟩
end Go.Proofs.YtilcihmoghhndaaDoor
