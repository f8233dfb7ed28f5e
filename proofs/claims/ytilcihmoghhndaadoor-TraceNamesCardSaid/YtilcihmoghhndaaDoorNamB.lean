/- Layer 40: names of words, of both. -/
import Derived.Test.YtilcihmoghhndaaDoorNamA
import Derived.Test.YtilcihmoghhndaaDoorMix
namespace Go.Proofs.YtilcihmoghhndaaDoor
open Go.RowKit
set_option linter.unusedVariables false
set_option linter.unusedSimpArgs false
open Go.Lib (itoa)
theorem Pow.up {w W : World} (h : Pow w.heap.size w) (k : Below w.heap.size w W) : Pow W.heap.size W := fun w9 h9 => h w9 (k.trans (h9.mono k.size))
theorem InW.i {k i j : Int} (h : InW k i j) : I64 i ∧ I64 j := by
  unfold I64; rcases h with ⟨_, h1, h2⟩ | ⟨_, h1, h2⟩ | ⟨_, h1, h2⟩ | ⟨_, h1, h2⟩ | ⟨_, h1, h2⟩ | ⟨_, h1, h2⟩ <;> omega
theorem talone (i : Int) (h : i = 0 ∨ i = 1 ∨ i = 2) (w : World) : Calls Tryd.prog 16 #[.int .i64 i] w fun e w' => e = .returned (.string ⟨(aloneW.getD i.toNat []).toArray⟩) ∧ Below w.heap.size w w' := by
  rcases h with rfl | rfl | rfl
  all_goals
    go_enter Tryd.func16, Tryd.ntmps16
    go_wp2_with fail
    (try go_ret)
    exact ⟨rfl, by (repeat (first | exact Below.refl _ _ | assumption | refine below_new ?_ _ | refine Below.drew ?_ | refine below_drewN ?_ _ | refine below_on ?_ (by assumption)))⟩
theorem tfield (j : Int) (h : 0 ≤ j ∧ j ≤ 6) (w : World) : Calls Tryd.prog 15 #[.int .i64 j] w fun e w' => e = .returned (.string ⟨(fieldW.getD j.toNat []).toArray⟩) ∧ Below w.heap.size w w' := by
  rcases (by omega : j = 0 ∨ j = 1 ∨ j = 2 ∨ j = 3 ∨ j = 4 ∨ j = 5 ∨ j = 6) with rfl | rfl | rfl | rfl | rfl | rfl | rfl
  all_goals
    go_enter Tryd.func15, Tryd.ntmps15
    go_wp2_with fail
    (try go_ret)
    exact ⟨rfl, by (repeat (first | exact Below.refl _ _ | assumption | refine below_new ?_ _ | refine Below.drew ?_ | refine below_drewN ?_ _ | refine below_on ?_ (by assumption)))⟩
theorem strE {a b : ByteArray} (h : a.data.toList = b.data.toList) : Value.string a = Value.string b := by
  obtain ⟨⟨a⟩⟩ := a; obtain ⟨⟨b⟩⟩ := b; simp at h; rw [h]
theorem tname_nil (a : Int) (w : World) : Calls Tryd.prog 4 #[.pointer none, .int .i64 a] w fun e w' => e = .returned (.string ⟨#[]⟩) ∧ Below w.heap.size w w' := by
  refine Calls.veil fun Q HQ => ?_
  go_enter Tryd.func4, Tryd.ntmps4
  go_wp2_with fail
  refine (pnwhat_calls a _).mono ?_; rintro _ z ⟨rfl, hb⟩
  go_wp2_with fail
  (try go_ret)
  rw [HQ.out]
  exact ⟨rfl, by (repeat (first | exact Below.refl _ _ | assumption | refine below_new ?_ _ | refine Below.drew ?_ | refine below_drewN ?_ _ | refine below_on ?_ (by assumption)))⟩
theorem pwhat_yes (T S : Int) (b : Nat) (a : Int) (w : World) (h : isW T S a = true) (x0 : w.cell? ⟨b, 0, none⟩ = some (.int .i64 T)) (x1 : w.cell? ⟨b, 1, none⟩ = some (.int .i64 S)) (t1 : 1 ≤ T) (t2 : T ≤ 6) (s1 : 7 ≤ S) (s2 : S ≤ 250) :
    Calls Tryd.prog 13 #[.pointer (some ⟨b, 0, none⟩), .int .i64 a] w fun e w' => e = .returned (.tuple #[.agg #[.int .i64 (wk T a), .int .i64 (wi T a), .int .i64 (wj T a)], .bool true]) ∧ Below w.heap.size w w' := by
  have := pwhat_calls T S b a w x0 x1 t1 t2 s1 s2
  rw [h] at this; simpa only [if_true] using this
theorem pwhat_no (T S : Int) (b : Nat) (a : Int) (w : World) (h : isW T S a = false) (x0 : w.cell? ⟨b, 0, none⟩ = some (.int .i64 T)) (x1 : w.cell? ⟨b, 1, none⟩ = some (.int .i64 S)) (t1 : 1 ≤ T) (t2 : T ≤ 6) (s1 : 7 ≤ S) (s2 : S ≤ 250) :
    Calls Tryd.prog 13 #[.pointer (some ⟨b, 0, none⟩), .int .i64 a] w fun e w' => e = .returned (.tuple #[.agg #[.int .i64 0, .int .i64 0, .int .i64 0], .bool false]) ∧ Below w.heap.size w w' := by
  have := pwhat_calls T S b a w x0 x1 t1 t2 s1 s2
  rw [h] at this; simpa only [Bool.false_eq_true, if_false] using this
theorem tname_no {T S a : Int} {b : Nat} {w : World} (h : isW T S a = false) (x0 : w.cell? ⟨b, 0, none⟩ = some (.int .i64 T)) (x1 : w.cell? ⟨b, 1, none⟩ = some (.int .i64 S)) (t1 : 1 ≤ T) (t2 : T ≤ 6) (s1 : 7 ≤ S) (s2 : S ≤ 250) : Calls Tryd.prog 4 #[.pointer (some ⟨b, 0, none⟩), .int .i64 a] w fun e w' => e = .returned (.string ⟨#[]⟩) ∧ Below w.heap.size w w' := by
  refine Calls.veil fun Q HQ => ?_
  have H := Lib.hid (pwhat_no T S b a w h x0 x1 t1 t2 s1 s2)
  clear h x0 x1 t1 t2 s1 s2
  go_enter Tryd.func4, Tryd.ntmps4
  go_wp2_with fail
  refine H.out.mono ?_; rintro _ z ⟨rfl, hb⟩
  go_wp2_with fail
  (try go_ret)
  rw [HQ.out]
  exact ⟨rfl, by (repeat (first | exact Below.refl _ _ | assumption | refine below_new ?_ _ | refine Below.drew ?_ | refine below_drewN ?_ _ | refine below_on ?_ (by assumption)))⟩
set_option maxRecDepth 8000 in
set_option maxHeartbeats 2000000 in
theorem tname_yes {T S a : Int} {b : Nat} {w : World} (h : isW T S a = true) (x0 : w.cell? ⟨b, 0, none⟩ = some (.int .i64 T)) (x1 : w.cell? ⟨b, 1, none⟩ = some (.int .i64 S)) (t1 : 1 ≤ T) (t2 : T ≤ 6) (s1 : 7 ≤ S) (s2 : S ≤ 250) (ht : Pow w.heap.size w) : Calls Tryd.prog 4 #[.pointer (some ⟨b, 0, none⟩), .int .i64 a] w fun e w' => e = .returned (.string ⟨(nameT T a).toArray⟩) ∧ Below w.heap.size w w' := by
  refine Calls.veil fun Q HQ => ?_
  have H := Lib.hid (pwhat_yes T S b a w h x0 x1 t1 t2 s1 s2)
  have HIN := Lib.hid (show InW (wk T a) (wi T a) (wj T a) from by
    have h1 := of_decide_eq_true h
    exact w_in t1 t2 s2 h1.1 h1.2)
  have HT := Lib.hid ht
  unfold nameT at HQ
  clear h x0 x1 t1 t2 s1 s2 ht
  generalize wk T a = k at *
  generalize wi T a = i at *
  generalize wj T a = j at *
  go_enter Tryd.func4, Tryd.ntmps4
  go_wp2_with fail
  refine H.out.mono ?_; rintro _ z1 ⟨rfl, hb⟩
  have HZ1 := Lib.hid hb
  clear hb
  go_upto_region 4 with fail
  generalize hV : World.alloc z1 _ = V
  have HBV := Lib.hid (show Below w.heap.size w V by rw [← hV]; exact below_new HZ1.out _)
  have y0 := Ext.cells (show V.cell? ⟨z1.heap.size, 0, none⟩ = some (.int .i64 k) by rw [← hV]; exact Ext.made rfl 0 _ rfl ⟨_, Below.refl _ _⟩)
  have y1 := Ext.cells (show V.cell? ⟨z1.heap.size, 1, none⟩ = some (.int .i64 i) by rw [← hV]; exact Ext.made rfl 1 _ rfl ⟨_, Below.refl _ _⟩)
  have y2 := Ext.cells (show V.cell? ⟨z1.heap.size, 2, none⟩ = some (.int .i64 j) by rw [← hV]; exact Ext.made rfl 2 _ rfl ⟨_, Below.refl _ _⟩)
  generalize z1.heap.size = X at y0 y1 y2 ⊢
  clear hV
  obtain ⟨is, his⟩ : ∃ x, x = itoa i := ⟨_, rfl⟩
  obtain ⟨js, hjs⟩ : ∃ x, x = itoa j := ⟨_, rfl⟩
  have HIS := Lib.hid his; have HJS := Lib.hid hjs
  have HI := Lib.hid (show is.length ≤ 21 by rw [his]; exact Lib.itoa_length_le i HIN.out.i.1.1 HIN.out.i.1.2)
  have HJ := Lib.hid (show js.length ≤ 21 by rw [hjs]; exact Lib.itoa_length_le j HIN.out.i.2.1 HIN.out.i.2.2)
  clear his hjs
  (with_reducible refine wp_region_mix (fun w' => ∃ y : Ext V, w' = y.w) ?_ ?_ ?_ ?_; kernel_rfl; kernel_rfl; exact ⟨⟨V.drew, (Below.refl _ _).drew⟩, rfl⟩)
  repeat (first | ((with_reducible refine mix_skip (by kernel_rfl) ?_); go_big_quiet_skip; (with_reducible refine mix_on ?_)) | ((with_reducible refine mix_plain (by kernel_rfl) ?_); (first | go_big_quiet_skip | (go_big_quiet_want; go_big_quiet_op; go_big_quiet_on)); (with_reducible refine mix_on ?_)))
  ((with_reducible refine wpMix_chain (by kernel_rfl) (by kernel_rfl) (fun K HK => ?_)); go_step)
  refine (itoa10 i HIN.out.i.1.1 HIN.out.i.1.2 (Lib.TabBelow.on HT.out (HBV.out.trans (Below.refl _ _).drew))).mono ?_; rintro _ z3 ⟨rfl, hb1⟩
  rw [← HIS.out]
  have HZ3 := Lib.hid (below_on (Below.refl V.heap.size V).drew hb1)
  refine HK.out _ _ ⟨⟨z3, HZ3.out⟩, rfl⟩ ?_
  clear HK K hb1
  repeat (first | ((with_reducible refine mix_skip (by kernel_rfl) ?_); go_big_quiet_skip; (with_reducible refine mix_on ?_)) | ((with_reducible refine mix_plain (by kernel_rfl) ?_); (first | go_big_quiet_skip | (go_big_quiet_want; go_big_quiet_op; go_big_quiet_on)); (with_reducible refine mix_on ?_)))
  ((with_reducible refine wpMix_chain (by kernel_rfl) (by kernel_rfl) (fun K HK => ?_)); go_step)
  refine (itoa10 j HIN.out.i.2.1 HIN.out.i.2.2 (Lib.TabBelow.on HT.out (below_on HBV.out HZ3.out))).mono ?_; rintro _ z4 ⟨rfl, hb1⟩
  rw [← HJS.out]
  have HZ4 := Lib.hid (below_on HZ3.out hb1)
  refine HK.out _ _ ⟨⟨z4, HZ4.out⟩, rfl⟩ ?_
  clear HK K hb1
  repeat (first | ((with_reducible refine mix_skip (by kernel_rfl) ?_); go_big_quiet_skip; (with_reducible refine mix_on ?_)) | ((with_reducible refine mix_plain (by kernel_rfl) ?_); (first | go_big_quiet_skip | (go_big_quiet_want; go_big_quiet_op; go_big_quiet_on)); (with_reducible refine mix_on ?_)))
  refine wpMix_nil ?_
  have x0 := y0 ⟨z4, HZ4.out⟩; have x1 := y1 ⟨z4, HZ4.out⟩; have x2 := y2 ⟨z4, HZ4.out⟩
  simp only at x0 x1 x2
  have HF := Lib.hid (below_on HBV.out HZ4.out)
  clear y0 y1 y2
  have b1 : ¬ 9223372036854775807 < 7 + is.length := by have := HI.out; omega
  have b2 : ¬ 9223372036854775807 < 6 + is.length := by have := HI.out; omega
  have b3 : ¬ 9223372036854775807 < 6 + is.length + 1 := by have := HI.out; omega
  have b4 : ¬ 9223372036854775807 < 6 + is.length + 1 + js.length := by have := HI.out; have := HJ.out; omega
  have b5 : ¬ 9223372036854775807 < 4 + is.length := by have := HI.out; omega
  have b6 : ¬ 9223372036854775807 < 4 + is.length + 1 := by have := HI.out; omega
  have b7 : ¬ 9223372036854775807 < 4 + is.length + 1 + js.length := by have := HI.out; have := HJ.out; omega
  have b8 : ¬ 9223372036854775807 < 5 + is.length := by have := HI.out; omega
  have b9 : ¬ 9223372036854775807 < 5 + is.length + 1 := by have := HI.out; omega
  rcases HIN.out with ⟨rfl, a1, rfl⟩ | ⟨rfl, a1, rfl⟩ | ⟨rfl, a1, rfl⟩ | ⟨rfl, a1, a2⟩ | ⟨rfl, a1, a2⟩ | ⟨rfl, a1, a2⟩
  · have HC := Lib.hid (talone i a1)
    clear a1
    go_wp2_with fail
    refine (HC.out _).mono ?_; rintro _ z5 ⟨rfl, hb⟩
    have HF5 := Lib.hid (below_on HF.out hb)
    clear hb
    go_wp2_with fail
    (try go_ret)
    rw [HQ.out, nam0]
    exact ⟨rfl, HF5.out⟩
  · clear a1
    go_wp2_with fail
    (try go_ret)
    rw [HQ.out, nam1, ← HIS.out]
    exact ⟨congrArg Ending.returned (strE (by simp)), HF.out⟩
  · clear a1
    go_wp2_with fail
    (try go_ret)
    rw [HQ.out, nam2, ← HIS.out]
    exact ⟨congrArg Ending.returned (strE (by simp)), HF.out⟩
  · clear a1 a2
    go_wp2_with fail
    (try go_ret)
    rw [HQ.out, nam3, ← HIS.out, ← HJS.out]
    exact ⟨congrArg Ending.returned (strE (by simp)), HF.out⟩
  · clear a1 a2
    go_wp2_with fail
    (try go_ret)
    rw [HQ.out, nam4, ← HIS.out, ← HJS.out]
    exact ⟨congrArg Ending.returned (strE (by simp)), HF.out⟩
  · have HC := Lib.hid (tfield j a2)
    have HFL := Lib.hid (show (fieldW.getD j.toNat []).length ≤ 5 by
      have f : ∀ b, b < 7 → (fieldW.getD b []).length ≤ 5 := by decide
      exact f _ (by omega))
    clear a1 a2
    obtain ⟨fs, hfs⟩ : ∃ x, x = fieldW.getD j.toNat [] := ⟨_, rfl⟩
    have HFS := Lib.hid hfs
    rw [← hfs] at HC HFL
    clear hfs
    have b10 : ¬ 9223372036854775807 < 5 + is.length + 1 + fs.length := by have := HI.out; have := HFL.out; omega
    go_wp2_with fail
    refine (HC.out _).mono ?_; rintro _ z5 ⟨rfl, hb⟩
    have HF5 := Lib.hid (below_on HF.out hb)
    clear hb
    go_wp2_with fail
    (try go_ret)
    rw [HQ.out, nam5, ← HIS.out, ← HFS.out]
    exact ⟨congrArg Ending.returned (strE (by simp)), HF5.out⟩
end Go.Proofs.YtilcihmoghhndaaDoor
