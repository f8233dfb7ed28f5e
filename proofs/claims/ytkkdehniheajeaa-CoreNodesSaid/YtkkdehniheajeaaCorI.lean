/- Layer 16: the law's same. -/
import Derived.Test.YtkkdehniheajeaaCorH
namespace Go.Proofs.Ytkkdehniheajeaa
open Go.RowKit WordM EdgeM
set_option linter.unusedVariables false
set_option linter.unusedSimpArgs false
set_option maxRecDepth 16000 in
set_option maxHeartbeats 4000000 in
theorem lsame0 {w : World} {B q pl mb mg C gq gg gm : Nat} {fv : Value} {tq : Nat → Nat} {t s : Nat} {Kc : Int} {f : Nat → Int} {H : Nat → Bool} {G : Nat → Int} {steps : Int} (h : MI w B q pl mb mg C gq gg gm fv tq t s Kc f 0 false H G 0 steps false)
    {B2 gb gc : Nat} {wv : Value} {G2 : Nat → Int} (hw : Th.OwnL 22 w B2 wv (3 + 8 * t + 7 * s) (Th.ucells (3 + 8 * t + 7 * s) f)) (hs : Gd.SR w gb s H G2) (c1 : s ≤ gc) (c2 : gc ≤ 9223372036854775807) :
    Calls Try.prog 20 #[.pointer (some ⟨q, 0, none⟩), .agg (mV t s Kc wv 0 false gb gc 0 false)] w fun e w' => e = .returned (.bool true) ∧ Below w.heap.size w w' := by
  refine Calls.veil fun Q HQ => ?_
  have hb := h.bd
  obtain ⟨n, hn⟩ : ∃ n, n = 3 + 8 * t + 7 * s := ⟨_, rfl⟩
  have hn1 : 1 ≤ n ∧ n ≤ 2000 := by omega
  rw [← hn] at hw
  have HH := Lib.hid h; have HS := Lib.hid hs; have HN := Lib.hid hn; have HBD := Lib.hid hb
  rcases hw.parts with ⟨_, h0⟩ | ⟨wg, wc, rfl, w1, w2', _, _, _, _, _, _, w3⟩
  · omega
  have HWR := Lib.hid (show ∀ i, i < n → w.cell? ⟨wg, i, none⟩ = some (.int .u64 (f i)) from fun i hi => w3 i _ hi (Th.ucells_get hi))
  clear h hw hs hb hn w3
  unfold mV
  go_enter Try.func20, Try.ntmps20
  go_upto_region 1 with fail
  generalize hV : World.alloc _ _ = U
  obtain ⟨u0, hbu⟩ := Th.heapnewE hV
  obtain ⟨X, hX⟩ : ∃ X, X = w.heap.size := ⟨_, rfl⟩
  rw [← hX] at u0 ⊢
  have x3 := Ext.cells (Th.newcell u0 3 _ rfl); have x4 := Ext.cells (Th.newcell u0 4 _ rfl); have x5 := Ext.cells (Th.newcell u0 5 _ rfl); have x6 := Ext.cells (Th.newcell u0 6 _ rfl); have x7 := Ext.cells (Th.newcell u0 7 _ rfl); have x8 := Ext.cells (Th.newcell u0 8 _ rfl)
  have HU := Lib.hid (HH.out.below hbu); have HSU := Lib.hid (HS.out.below hbu); have HBU := Lib.hid hbu
  have HWU := Lib.hid (show ∀ i, i < n → U.cell? ⟨wg, i, none⟩ = some (.int .u64 (f i)) from fun i hi => Ext.use (Ext.cells (HWR.out i hi)) hbu)
  clear hV u0 hbu hX HH HS HWR
  (with_reducible refine wp_region_mix (fun w' => ∃ y : Ext U, w' = y.w) ?_ ?_ ?_ ?_; kernel_rfl; kernel_rfl; exact ⟨⟨U.drew, (Below.refl _ _).drew⟩, rfl⟩)
  obtain ⟨y0, hy0⟩ : ∃ y : Ext U, y.w = U.drew := ⟨⟨U.drew, (Below.refl _ _).drew⟩, rfl⟩
  rw [← hy0]
  clear hy0
  repeat (first | ((with_reducible refine mix_plain (by kernel_rfl) ?_); (first | go_big_quiet_skip | (go_big_quiet_want; go_big_quiet_op; go_big_quiet_on)); (with_reducible refine mix_on ?_)) | ((with_reducible refine mix_skip (by kernel_rfl) ?_); go_big_quiet_skip; (with_reducible refine mix_on ?_)))
  ((with_reducible refine wpMix_chain (by kernel_rfl) (by kernel_rfl) (fun K HK => ?_)); go_step)
  refine (gMem (HU.out.below y0.h)).mono ?_; rintro _ w6 ⟨rfl, hw6⟩
  rw [← hw6]
  refine HK.out _ _ ⟨y0, rfl⟩ ?_
  clear HK K hw6
  repeat (first | ((with_reducible refine mix_plain (by kernel_rfl) ?_); (first | go_big_quiet_skip | (go_big_quiet_want; go_big_quiet_op; go_big_quiet_on)); (with_reducible refine mix_on ?_)) | ((with_reducible refine mix_skip (by kernel_rfl) ?_); go_big_quiet_skip; (with_reducible refine mix_on ?_)))
  ((with_reducible refine wpMix_chain (by kernel_rfl) (by kernel_rfl) (fun K HK => ?_)); go_step)
  refine (Mm.mwords _ _ _ _ _ _ _ _ (HU.out.below y0.h).mem).mono ?_; rintro _ w2 ⟨g', C', rfl, e1, e2, e3, hr, hb2⟩
  rw [← HN.out] at hr e2 ⊢
  have HR := Lib.hid hr
  have hb2 := below_on y0.h hb2
  refine HK.out _ _ ⟨⟨w2, hb2⟩, rfl⟩ ?_
  clear HK K hr
  repeat (first | ((with_reducible refine mix_plain (by kernel_rfl) ?_); (first | go_big_quiet_skip | (go_big_quiet_want; go_big_quiet_op; go_big_quiet_on)); (with_reducible refine mix_on ?_)) | ((with_reducible refine mix_skip (by kernel_rfl) ?_); go_big_quiet_skip; (with_reducible refine mix_on ?_)))
  ((with_reducible refine wpMix_chain (by kernel_rfl) (by kernel_rfl) (fun K HK => ?_)); go_step)
  refine (lwords g' C' wg wc n f w2 (by omega) e2 w1 e3 w2' HR.out.row (fun i hi => Ext.use (Ext.cells (HWU.out i hi)) hb2)).mono ?_; rintro _ w3 ⟨rfl, hb3⟩
  have hb3 := below_on hb2 hb3
  obtain ⟨y1, hy1⟩ : ∃ y : Ext U, y.w = w3 := ⟨⟨w3, hb3⟩, rfl⟩
  rw [← hy1]
  refine HK.out _ _ ⟨y1, rfl⟩ ?_
  clear HK K hb3 hy1 HR hb2 e1 e2 e3
  repeat (first | ((with_reducible refine mix_plain (by kernel_rfl) ?_); (first | go_big_quiet_skip | (go_big_quiet_want; go_big_quiet_op; go_big_quiet_on)); (with_reducible refine mix_on ?_)) | ((with_reducible refine mix_skip (by kernel_rfl) ?_); go_big_quiet_skip; (with_reducible refine mix_on ?_)))
  ((with_reducible refine wpMix_chain (by kernel_rfl) (by kernel_rfl) (fun K HK => ?_)); go_step)
  refine (gMem (HU.out.below y1.h)).mono ?_; rintro _ w6 ⟨rfl, hw6⟩
  rw [← hw6]
  refine HK.out _ _ ⟨y1, rfl⟩ ?_
  clear HK K hw6
  repeat (first | ((with_reducible refine mix_plain (by kernel_rfl) ?_); (first | go_big_quiet_skip | (go_big_quiet_want; go_big_quiet_op; go_big_quiet_on)); (with_reducible refine mix_on ?_)) | ((with_reducible refine mix_skip (by kernel_rfl) ?_); go_big_quiet_skip; (with_reducible refine mix_on ?_)))
  ((with_reducible refine wpMix_chain (by kernel_rfl) (by kernel_rfl) (fun K HK => ?_)); go_step)
  refine (Mm.maccs _ _ _ _ _ _ _ _ (HU.out.below y1.h).mem).mono ?_; rintro _ w6 ⟨rfl, hw6⟩
  rw [← hw6]
  refine HK.out _ _ ⟨y1, rfl⟩ ?_
  clear HK K hw6
  repeat (first | ((with_reducible refine mix_plain (by kernel_rfl) ?_); (first | go_big_quiet_skip | (go_big_quiet_want; go_big_quiet_op; go_big_quiet_on)); (with_reducible refine mix_on ?_)) | ((with_reducible refine mix_skip (by kernel_rfl) ?_); go_big_quiet_skip; (with_reducible refine mix_on ?_)))
  ((with_reducible refine wpMix_chain (by kernel_rfl) (by kernel_rfl) (fun K HK => ?_)); go_step)
  refine (gGuard (HU.out.below y1.h)).mono ?_; rintro _ w6 ⟨rfl, hw6⟩
  rw [← hw6]
  refine HK.out _ _ ⟨y1, rfl⟩ ?_
  clear HK K hw6
  repeat (first | ((with_reducible refine mix_plain (by kernel_rfl) ?_); (first | go_big_quiet_skip | (go_big_quiet_want; go_big_quiet_op; go_big_quiet_on)); (with_reducible refine mix_on ?_)) | ((with_reducible refine mix_skip (by kernel_rfl) ?_); go_big_quiet_skip; (with_reducible refine mix_on ?_)))
  ((with_reducible refine wpMix_chain (by kernel_rfl) (by kernel_rfl) (fun K HK => ?_)); go_step)
  refine (Gd.gheld (HU.out.below y1.h).grd).mono ?_; rintro _ w6 ⟨rfl, hw6⟩
  rw [← hw6]
  refine HK.out _ _ ⟨y1, rfl⟩ ?_
  clear HK K hw6
  repeat (first | ((with_reducible refine mix_plain (by kernel_rfl) ?_); (first | go_big_quiet_skip | (go_big_quiet_want; go_big_quiet_op; go_big_quiet_on)); (with_reducible refine mix_on ?_)) | ((with_reducible refine mix_skip (by kernel_rfl) ?_); go_big_quiet_skip; (with_reducible refine mix_on ?_)))
  ((with_reducible refine wpMix_chain (by kernel_rfl) (by kernel_rfl) (fun K HK => ?_)); go_step)
  refine (Gd.rheld 0 (HSU.out.below y1.h) (by have := HBD.out; omega) c1).mono ?_; rintro _ w4 ⟨rfl, hb4⟩
  have hb4 := below_on y1.h hb4
  obtain ⟨y2, hy2⟩ : ∃ y : Ext U, y.w = w4 := ⟨⟨w4, hb4⟩, rfl⟩
  rw [← hy2]
  refine HK.out _ _ ⟨y2, rfl⟩ ?_
  clear HK K hb4 hy2
  repeat (first | ((with_reducible refine mix_plain (by kernel_rfl) ?_); (first | go_big_quiet_skip | (go_big_quiet_want; go_big_quiet_op; go_big_quiet_on)); (with_reducible refine mix_on ?_)) | ((with_reducible refine mix_skip (by kernel_rfl) ?_); go_big_quiet_skip; (with_reducible refine mix_on ?_)))
  ((with_reducible refine wpMix_chain (by kernel_rfl) (by kernel_rfl) (fun K HK => ?_)); go_step)
  refine (gFault0 (HU.out.below y2.h)).mono ?_; rintro _ w5 ⟨rfl, hb5⟩
  have hb5 := below_on y2.h hb5
  obtain ⟨y3, hy3⟩ : ∃ y : Ext U, y.w = w5 := ⟨⟨w5, hb5⟩, rfl⟩
  rw [← hy3]
  refine HK.out _ _ ⟨y3, rfl⟩ ?_
  clear HK K hb5 hy3
  repeat (first | ((with_reducible refine mix_plain (by kernel_rfl) ?_); (first | go_big_quiet_skip | (go_big_quiet_want; go_big_quiet_op; go_big_quiet_on)); (with_reducible refine mix_on ?_)) | ((with_reducible refine mix_skip (by kernel_rfl) ?_); go_big_quiet_skip; (with_reducible refine mix_on ?_)))
  refine wpMix_nil ?_
  clear x3 x4 x5 x6 x7 x8
  have HBZ := Lib.hid (below_on HBU.out y3.h)
  go_wp2_with fail
  (try go_ret)
  rw [HQ.out]
  exact ⟨by simp, HBZ.out⟩
end Go.Proofs.Ytkkdehniheajeaa
