/- Layer 14: ScriptPuts, within its bounds. -/
import Derived.Test.YtkcebfgjabfmaaaScrY1
namespace Go.Proofs.Ytkcebfgjabfmaaa
open Go.RowKit WordM
set_option linter.unusedVariables false
set_option linter.unusedSimpArgs false
set_option maxHeartbeats 4000000 in
theorem puts_m1 (T S K : Int) (n : Nat) (T' S' K' : Int) (n' : Nat) (p p' : Option Addr) (c c' : Nat) (w : World) (a1 : n ≤ c) (a2 : c ≤ 9223372036854775807) (a1' : n' ≤ c') (a2' : c' ≤ 9223372036854775807) (L M : Nat → Ent) (HE : Hid (ER w (.slice p n c) n L ∧ ER w (.slice p' n' c') n' M)) (hn : n ≤ 1000) (hm : n' ≤ 60010) :
    Calls Try.prog 3 #[.agg #[.int .i64 T, .int .i64 S, .int .u64 K, .slice p n c], .agg #[.int .i64 T', .int .i64 S', .int .u64 K', .slice p' n' c']] w fun e w' => e = .returned (.bool true) ∧ Below w.heap.size w w' := by
  refine Calls.veil fun Q HQ => ?_
  have d0 : decide ((1000 : Int) < (n : Int)) = false := decide_eq_false (by omega)
  have e0 : (n : Int) ≤ (1000 : Int) := by omega
  have d1 : decide ((60010 : Int) < (n : Int)) = false := decide_eq_false (by omega)
  have e1 : (n : Int) ≤ (60010 : Int) := by omega
  have d2 : decide ((60010 : Int) < (n' : Int)) = false := decide_eq_false (by omega)
  have e2 : (n' : Int) ≤ (60010 : Int) := by omega
  have hb5 : n ≤ 100000 := by omega
  clear hn hm
  go_enter Try.func3, Try.ntmps3
  go_wp2_with fail
  generalize hV : World.alloc (World.alloc w _) _ = V
  have HBV := Lib.hid (show Below w.heap.size w V by rw [← hV]; (repeat (first | exact Below.refl _ _ | assumption | refine below_new ?_ _ | refine Below.drew ?_ | refine below_drewN ?_ _ | refine below_on ?_ (by assumption))))
  have z0 : ∀ x : Ext V, x.w.cell? ⟨w.heap.size, 0, none⟩ = some (.int .i64 T) := Ext.made1 hV 0 _ rfl
  have z1 : ∀ x : Ext V, x.w.cell? ⟨w.heap.size, 1, none⟩ = some (.int .i64 S) := Ext.made1 hV 1 _ rfl
  have z2 : ∀ x : Ext V, x.w.cell? ⟨w.heap.size, 2, none⟩ = some (.int .u64 K) := Ext.made1 hV 2 _ rfl
  have z3 : ∀ x : Ext V, x.w.cell? ⟨w.heap.size, 3, none⟩ = some (.slice p n c) := Ext.made1 hV 3 _ rfl
  have Y : Hid (∀ x : Ext V, x.w.cell? ⟨w.heap.size + 1, 0, none⟩ = some (.int .i64 T') ∧ x.w.cell? ⟨w.heap.size + 1, 1, none⟩ = some (.int .i64 S') ∧ x.w.cell? ⟨w.heap.size + 1, 2, none⟩ = some (.int .u64 K') ∧ x.w.cell? ⟨w.heap.size + 1, 3, none⟩ = some (.slice p' n' c')) := by
    have e : w.heap.size + 1 = (w.alloc (.cells #[.int .i64 T, .int .i64 S, .int .u64 K, .slice p n c] 27)).heap.size := by simp
    rw [e]
    exact Lib.hid fun x => ⟨Ext.made hV 0 _ rfl x, Ext.made hV 1 _ rfl x, Ext.made hV 2 _ rfl x, Ext.made hV 3 _ rfl x⟩
  have y0 := fun x => (Y.out x).1
  have y1 := fun x => (Y.out x).2.1
  have y2 := fun x => (Y.out x).2.2.1
  have y3 := fun x => (Y.out x).2.2.2
  have HEV := Lib.hid (And.intro (HE.out.1.below HBV.out) (HE.out.2.below HBV.out))
  clear hV Y
  generalize w.heap.size + 1 = q1 at *
  have SM := fun (x : Ext V) => smay T S K n L _ x.w (HEV.out.1.below x.h) (by omega)
  have RM := fun (x : Ext V) => rmay14 T S K n L _ x.w (HEV.out.1.below x.h) (by omega)
  have SS := fun (x : Ext V) => ssame T S K n L T' S' K' n' M _ _ x.w (HEV.out.1.below x.h) (HEV.out.2.below x.h) (by omega)
  have RS := fun (x : Ext V) => rsame T S K n L T' S' K' n' M _ _ x.w (HEV.out.1.below x.h) (HEV.out.2.below x.h) (by omega)
  have SE := fun (x : Ext V) => ssame T S K n L T S K n L _ _ x.w (HEV.out.1.below x.h) (HEV.out.1.below x.h) (by omega)
  have HP1 := fun (h : mayS T S K n L = true) => sputS T S K n L _ V HEV.out.1 h
  have HP0 := fun (h : mayS T S K n L = false) => sputS0 T S K n L _ V HEV.out.1 (by omega) h
  have HRP := fun (h : mayS T S K n L = true) (x : Ext V) => rputS T S K n L _ x.w (HEV.out.1.below x.h) h
  rw [sameS_refl] at SE
  generalize sameS T S K n L T' S' K' n' M = sm at SS RS
  have hlen : 0 < (headL T S K ++ encL L n).length := by rw [List.length_append, headL_len]; omega
  have hbd := putL_bd T S K n L
  generalize headL T S K ++ encL L n = bs at *
  have HC := Lib.hid (fun (w1 : World) (B : Nat) (v : Value) (h : OwnB w1 B v bs) => conv_own h hlen hbd)
  clear hlen hbd
  have SM := Lib.hid SM; have RM := Lib.hid RM; have SS := Lib.hid SS; have RS := Lib.hid RS; have SE := Lib.hid SE; have HRP := Lib.hid HRP
  cases hmay : mayS T S K n L with
  | false =>
    have HP := Lib.hid (HP0 hmay)
    rw [hmay] at SM RM
    clear HP0 HP1 hmay HRP HC
    refine HP.out.mono ?_; rintro _ w1 ⟨rfl, hb1⟩
    have HB1 := Lib.hid hb1
    clear hb1 HP
    go_wp2_with fail
    (with_reducible refine wp_region_mix (fun w' => ∃ y : Ext V, w' = y.w) ?_ ?_ ?_ ?_; kernel_rfl; kernel_rfl; exact ⟨⟨w1.drew, HB1.out.drew⟩, rfl⟩)
    repeat (first | ((with_reducible refine mix_plain (by kernel_rfl) ?_); (first | go_big_quiet_skip | (go_big_quiet_want; go_big_quiet_op; go_big_quiet_on)); (with_reducible refine mix_on ?_)) | ((with_reducible refine mix_skip (by kernel_rfl) ?_); go_big_quiet_skip; (with_reducible refine mix_on ?_)))
    ((with_reducible refine wpMix_chain (by kernel_rfl) (by kernel_rfl) (fun K HK => ?_)); go_step)
    refine (SM.out ⟨_, HB1.out.drew⟩).mono ?_; rintro _ w2 ⟨rfl, hb2⟩
    have HB2 := Lib.hid (show Below V.heap.size V w2 from below_on HB1.out.drew hb2)
    refine HK.out _ _ ⟨⟨w2, HB2.out⟩, rfl⟩ ?_
    clear HK K hb2
    repeat (first | ((with_reducible refine mix_plain (by kernel_rfl) ?_); (first | go_big_quiet_skip | (go_big_quiet_want; go_big_quiet_op; go_big_quiet_on)); (with_reducible refine mix_on ?_)) | ((with_reducible refine mix_skip (by kernel_rfl) ?_); go_big_quiet_skip; (with_reducible refine mix_on ?_)))
    ((with_reducible refine wpMix_chain (by kernel_rfl) (by kernel_rfl) (fun K HK => ?_)); go_step)
    refine (RM.out ⟨_, HB2.out⟩).mono ?_; rintro _ w3 ⟨rfl, hb3⟩
    have HB3 := Lib.hid (show Below V.heap.size V w3 from below_on HB2.out hb3)
    refine HK.out _ _ ⟨⟨w3, HB3.out⟩, rfl⟩ ?_
    clear HK K hb3
    repeat (first | ((with_reducible refine mix_plain (by kernel_rfl) ?_); (first | go_big_quiet_skip | (go_big_quiet_want; go_big_quiet_op; go_big_quiet_on)); (with_reducible refine mix_on ?_)) | ((with_reducible refine mix_skip (by kernel_rfl) ?_); go_big_quiet_skip; (with_reducible refine mix_on ?_)))
    ((with_reducible refine wpMix_chain (by kernel_rfl) (by kernel_rfl) (fun K HK => ?_)); go_step)
    refine (SS.out ⟨_, HB3.out⟩).mono ?_; rintro _ w4 ⟨rfl, hb4⟩
    have HB4 := Lib.hid (show Below V.heap.size V w4 from below_on HB3.out hb4)
    refine HK.out _ _ ⟨⟨w4, HB4.out⟩, rfl⟩ ?_
    clear HK K hb4
    repeat (first | ((with_reducible refine mix_plain (by kernel_rfl) ?_); (first | go_big_quiet_skip | (go_big_quiet_want; go_big_quiet_op; go_big_quiet_on)); (with_reducible refine mix_on ?_)) | ((with_reducible refine mix_skip (by kernel_rfl) ?_); go_big_quiet_skip; (with_reducible refine mix_on ?_)))
    ((with_reducible refine wpMix_chain (by kernel_rfl) (by kernel_rfl) (fun K HK => ?_)); go_step)
    refine (RS.out ⟨_, HB4.out⟩).mono ?_; rintro _ w5 ⟨rfl, hb5⟩
    have HB5 := Lib.hid (show Below V.heap.size V w5 from below_on HB4.out hb5)
    refine HK.out _ _ ⟨⟨w5, HB5.out⟩, rfl⟩ ?_
    clear HK K hb5
    repeat (first | ((with_reducible refine mix_plain (by kernel_rfl) ?_); (first | go_big_quiet_skip | (go_big_quiet_want; go_big_quiet_op; go_big_quiet_on)); (with_reducible refine mix_on ?_)) | ((with_reducible refine mix_skip (by kernel_rfl) ?_); go_big_quiet_skip; (with_reducible refine mix_on ?_)))
    ((with_reducible refine wpMix_chain (by kernel_rfl) (by kernel_rfl) (fun K HK => ?_)); go_step)
    refine (SE.out ⟨_, HB5.out⟩).mono ?_; rintro _ w6 ⟨rfl, hb6⟩
    have HB6 := Lib.hid (show Below V.heap.size V w6 from below_on HB5.out hb6)
    refine HK.out _ _ ⟨⟨w6, HB6.out⟩, rfl⟩ ?_
    clear HK K hb6
    repeat (first | ((with_reducible refine mix_plain (by kernel_rfl) ?_); (first | go_big_quiet_skip | (go_big_quiet_want; go_big_quiet_op; go_big_quiet_on)); (with_reducible refine mix_on ?_)) | ((with_reducible refine mix_skip (by kernel_rfl) ?_); go_big_quiet_skip; (with_reducible refine mix_on ?_)))
    refine wpMix_nil ?_
    have c0 := z0 ⟨w6, HB6.out⟩; have c1 := z1 ⟨w6, HB6.out⟩; have c2 := z2 ⟨w6, HB6.out⟩; have c3 := z3 ⟨w6, HB6.out⟩
    simp only at c0 c1 c2 c3
    go_wp2_with fail
    refine (RM.out ⟨_, HB6.out⟩).mono ?_; rintro _ w7 ⟨rfl, hb7⟩
    have HB7 := Lib.hid (show Below V.heap.size V w7 from below_on HB6.out hb7)
    clear hb7 c0 c1 c2 c3
    go_wp2_with fail
    refine (lives14_calls _).mono ?_; rintro _ w8 ⟨rfl, hb8⟩
    have HF := Lib.hid (below_on HBV.out (below_on HB7.out hb8))
    clear hb8
    go_wp2_with fail
    (try go_ret)
    rw [HQ.out]
    exact ⟨rfl, HF.out⟩
  | true =>
    have HP := Lib.hid (HP1 hmay)
    have HRP := Lib.hid (HRP.out hmay)
    rw [hmay] at SM RM
    clear HP0 HP1 hmay
    refine HP.out.mono ?_; rintro _ w1 ⟨B, vb, rfl, ob, hb1⟩
    have HB1 := Lib.hid hb1
    have HCB := Lib.hid (HC.out _ _ _ ob)
    clear hb1 HP ob
    have z0 : ∀ x : Ext w1, x.w.cell? ⟨w.heap.size, 0, none⟩ = some (.int .i64 T) := fun x => z0 ⟨x.w, below_on HB1.out x.h⟩
    have z1 : ∀ x : Ext w1, x.w.cell? ⟨w.heap.size, 1, none⟩ = some (.int .i64 S) := fun x => z1 ⟨x.w, below_on HB1.out x.h⟩
    have z2 : ∀ x : Ext w1, x.w.cell? ⟨w.heap.size, 2, none⟩ = some (.int .u64 K) := fun x => z2 ⟨x.w, below_on HB1.out x.h⟩
    have z3 : ∀ x : Ext w1, x.w.cell? ⟨w.heap.size, 3, none⟩ = some (.slice p n c) := fun x => z3 ⟨x.w, below_on HB1.out x.h⟩
    have y0 : ∀ x : Ext w1, x.w.cell? ⟨q1, 0, none⟩ = some (.int .i64 T') := fun x => y0 ⟨x.w, below_on HB1.out x.h⟩
    have y1 : ∀ x : Ext w1, x.w.cell? ⟨q1, 1, none⟩ = some (.int .i64 S') := fun x => y1 ⟨x.w, below_on HB1.out x.h⟩
    have y2 : ∀ x : Ext w1, x.w.cell? ⟨q1, 2, none⟩ = some (.int .u64 K') := fun x => y2 ⟨x.w, below_on HB1.out x.h⟩
    have y3 : ∀ x : Ext w1, x.w.cell? ⟨q1, 3, none⟩ = some (.slice p' n' c') := fun x => y3 ⟨x.w, below_on HB1.out x.h⟩
    go_wp2_with fail
    (with_reducible refine wp_region_mix (fun w' => ∃ y : Ext w1, w' = y.w) ?_ ?_ ?_ ?_; kernel_rfl; kernel_rfl; exact ⟨⟨w1.drew, (Below.refl _ _).drew⟩, rfl⟩)
    repeat (first | ((with_reducible refine mix_plain (by kernel_rfl) ?_); (first | go_big_quiet_skip | (go_big_quiet_want; go_big_quiet_op; go_big_quiet_on)); (with_reducible refine mix_on ?_)) | ((with_reducible refine mix_skip (by kernel_rfl) ?_); go_big_quiet_skip; (with_reducible refine mix_on ?_)))
    ((with_reducible refine wpMix_chain (by kernel_rfl) (by kernel_rfl) (fun K HK => ?_)); go_step)
    refine (SM.out ⟨_, HB1.out.drew⟩).mono ?_; rintro _ w2 ⟨rfl, hb2⟩
    have HB2 := Lib.hid (show Below w1.heap.size w1 w2 from below_on (Below.refl _ _).drew hb2)
    refine HK.out _ _ ⟨⟨w2, HB2.out⟩, rfl⟩ ?_
    clear HK K hb2
    repeat (first | ((with_reducible refine mix_plain (by kernel_rfl) ?_); (first | go_big_quiet_skip | (go_big_quiet_want; go_big_quiet_op; go_big_quiet_on)); (with_reducible refine mix_on ?_)) | ((with_reducible refine mix_skip (by kernel_rfl) ?_); go_big_quiet_skip; (with_reducible refine mix_on ?_)))
    ((with_reducible refine wpMix_chain (by kernel_rfl) (by kernel_rfl) (fun K HK => ?_)); go_step)
    refine (RM.out ⟨_, below_on HB1.out HB2.out⟩).mono ?_; rintro _ w3 ⟨rfl, hb3⟩
    have HB3 := Lib.hid (show Below w1.heap.size w1 w3 from below_on HB2.out hb3)
    refine HK.out _ _ ⟨⟨w3, HB3.out⟩, rfl⟩ ?_
    clear HK K hb3
    repeat (first | ((with_reducible refine mix_plain (by kernel_rfl) ?_); (first | go_big_quiet_skip | (go_big_quiet_want; go_big_quiet_op; go_big_quiet_on)); (with_reducible refine mix_on ?_)) | ((with_reducible refine mix_skip (by kernel_rfl) ?_); go_big_quiet_skip; (with_reducible refine mix_on ?_)))
    ((with_reducible refine wpMix_chain (by kernel_rfl) (by kernel_rfl) (fun K HK => ?_)); go_step)
    refine (SS.out ⟨_, below_on HB1.out HB3.out⟩).mono ?_; rintro _ w4 ⟨rfl, hb4⟩
    have HB4 := Lib.hid (show Below w1.heap.size w1 w4 from below_on HB3.out hb4)
    refine HK.out _ _ ⟨⟨w4, HB4.out⟩, rfl⟩ ?_
    clear HK K hb4
    repeat (first | ((with_reducible refine mix_plain (by kernel_rfl) ?_); (first | go_big_quiet_skip | (go_big_quiet_want; go_big_quiet_op; go_big_quiet_on)); (with_reducible refine mix_on ?_)) | ((with_reducible refine mix_skip (by kernel_rfl) ?_); go_big_quiet_skip; (with_reducible refine mix_on ?_)))
    ((with_reducible refine wpMix_chain (by kernel_rfl) (by kernel_rfl) (fun K HK => ?_)); go_step)
    refine (RS.out ⟨_, below_on HB1.out HB4.out⟩).mono ?_; rintro _ w5 ⟨rfl, hb5⟩
    have HB5 := Lib.hid (show Below w1.heap.size w1 w5 from below_on HB4.out hb5)
    refine HK.out _ _ ⟨⟨w5, HB5.out⟩, rfl⟩ ?_
    clear HK K hb5
    repeat (first | ((with_reducible refine mix_plain (by kernel_rfl) ?_); (first | go_big_quiet_skip | (go_big_quiet_want; go_big_quiet_op; go_big_quiet_on)); (with_reducible refine mix_on ?_)) | ((with_reducible refine mix_skip (by kernel_rfl) ?_); go_big_quiet_skip; (with_reducible refine mix_on ?_)))
    ((with_reducible refine wpMix_chain (by kernel_rfl) (by kernel_rfl) (fun K HK => ?_)); go_step)
    refine (SE.out ⟨_, below_on HB1.out HB5.out⟩).mono ?_; rintro _ w6 ⟨rfl, hb6⟩
    have HB6 := Lib.hid (show Below w1.heap.size w1 w6 from below_on HB5.out hb6)
    refine HK.out _ _ ⟨⟨w6, HB6.out⟩, rfl⟩ ?_
    clear HK K hb6
    repeat (first | ((with_reducible refine mix_plain (by kernel_rfl) ?_); (first | go_big_quiet_skip | (go_big_quiet_want; go_big_quiet_op; go_big_quiet_on)); (with_reducible refine mix_on ?_)) | ((with_reducible refine mix_skip (by kernel_rfl) ?_); go_big_quiet_skip; (with_reducible refine mix_on ?_)))
    refine wpMix_nil ?_
    have c0 := z0 ⟨w6, HB6.out⟩; have c1 := z1 ⟨w6, HB6.out⟩; have c2 := z2 ⟨w6, HB6.out⟩; have c3 := z3 ⟨w6, HB6.out⟩
    simp only at c0 c1 c2 c3
    go_wp2_with fail
    refine (RM.out ⟨_, below_on HB1.out HB6.out⟩).mono ?_; rintro _ w7 ⟨rfl, hb7⟩
    have HB7 := Lib.hid (show Below w1.heap.size w1 w7 from below_on HB6.out hb7)
    clear hb7 c0 c1 c2 c3
    go_wp2_with fail
    have c0 := z0 ⟨w7.drew, HB7.out.drew⟩; have c1 := z1 ⟨w7.drew, HB7.out.drew⟩; have c2 := z2 ⟨w7.drew, HB7.out.drew⟩; have c3 := z3 ⟨w7.drew, HB7.out.drew⟩
    simp only at c0 c1 c2 c3
    have hv7 := HCB.out w7.drew HB7.out.drew
    clear z0 z1 z2 z3 y0 y1 y2 y3 SM RM SS RS SE
    go_region_with (first
      | (go_at_call 13; refine (HRP.out ⟨_, below_on HB1.out HB7.out.drew⟩).mono ?_; rintro _ w8 ⟨B2, v2, rfl, ob2, hb8⟩; have HB8 := Lib.hid (show Below w1.heap.size w1 w8 from below_on HB7.out.drew hb8); have hv8 := HCB.out w8 HB8.out; have hu8 := HC.out _ _ _ ob2 w8 (Below.refl _ _); clear ob2 hb8)
      | (go_at_call 7; refine (lives14_calls _).mono ?_; rintro _ w9 ⟨rfl, hb9⟩; have HF := Lib.hid (below_on HBV.out (below_on HB1.out (below_on HB8.out hb9))); clear hb9))
    all_goals (go_wp2_with fail)
    all_goals (try go_ret)
    all_goals (rw [HQ.out]; exact ⟨rfl, HF.out⟩)
end Go.Proofs.Ytkcebfgjabfmaaa
