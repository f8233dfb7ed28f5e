/- Layer 15: the law's same. -/
import Derived.Test.YtdnjconfmaiegaaFrmI
import Derived.Test.YtdnjconfmaiegaaFrmM
import Derived.Test.YtdnjconfmaiegaaFrmR
import Derived.Test.YtdnjconfmaiegaaFrmS
import Derived.Laws.StructEq
namespace Go.Proofs.Ytdnjconfmaiegaa
open Go.RowKit
set_option linter.unusedVariables false
set_option linter.unusedSimpArgs false
theorem sameB_refl (l : PL) : sameB l l = true := by unfold sameB; simp
theorem frF_2 (f : Fm) (k : Nat) : frF f (k + 2) = .int .u64 (f.r k) := by unfold frF; rw [if_neg (by omega), if_neg (by omega), Nat.add_sub_cancel]
theorem rfF_at (fs : Nat → Fm) (m k : Nat) (hk : k < 26) : rfF fs (m * 26 + k) = frF (fs m) k := by
  unfold rfF; rw [show (m * 26 + k) / 26 = m by omega, show (m * 26 + k) % 26 = k by omega]
theorem uF6 : ∃ d, Try.prog.underlying 65 = some d ∧ d.isRow = true := ⟨_, sF, rfl⟩
theorem infoF6 : (Try.prog.info? 65).map (·.size) = some 26 := by kernel_rfl
theorem uFm : ∃ d, Try.prog.underlying 57 = some d ∧ d.isRow = true := by
  have h : (Try.prog.underlying 57).map (·.isRow) = some true := by kernel_rfl
  cases h1 : Try.prog.underlying 57 with
  | none => rw [h1] at h; cases h
  | some d => rw [h1] at h; exact ⟨d, rfl, by simpa using h⟩
theorem infoFm : (Try.prog.info? 57).map (·.size) = some 26 := by kernel_rfl
set_option maxRecDepth 16000 in
set_option maxHeartbeats 4000000 in
theorem lsame {w : World} {B q : Nat} {T : Td} {p : Nat → Nat} {fv rv sv fv' rv' sv' : Value} (h : ThA w B q T p fv rv sv) (hx : XR w T fv' rv' sv') (hb1 : T.nf ≤ 1000) (hb3 : T.row.length ≤ 80000) :
    Calls Try.prog 11 #[.pointer (some ⟨q, 0, none⟩), xV T fv' rv' sv'] w fun e w' => e = .returned (.bool true) ∧ Below w.heap.size w w' := by
  refine Calls.veil fun Q HQ => ?_
  have HH := Lib.hid h; have HX := Lib.hid hx
  obtain ⟨fa, fc, rfl, fc1, fc2⟩ := hx.f.slice
  obtain ⟨ra, rc, rfl, _, _⟩ := hx.r.1.slice
  obtain ⟨sa, sc, rfl, sc1, sc2⟩ := hx.s.slice
  unfold xV
  clear h hx
  go_enter Try.func11, Try.ntmps11
  go_upto_region 1 with fail
  generalize hV : World.alloc _ _ = U
  obtain ⟨u0, hbu⟩ := heapnewE hV
  obtain ⟨X, hX⟩ : ∃ X, X = w.heap.size := ⟨_, rfl⟩
  rw [← hX] at u0 ⊢
  have hXB : Blk 33 U X 15 (xF T (.slice fa T.nf fc) (.slice ra T.row.length rc) (.slice sa T.ns sc)) := u0
  have HB := Lib.hid hXB
  have HT := Lib.hid (HH.out.below hbu); have HXU := Lib.hid (HX.out.below hbu); have HBU := Lib.hid hbu
  have hqb := HT.out.blk
  have r0 : ∀ y : Ext U, y.w.cell? ⟨q, 0, none⟩ = some (.int .u64 (T.ret 0)) := Ext.cells (hqb.get (i := 0) (by omega))
  have x0 : ∀ y : Ext U, y.w.cell? ⟨X, 0, none⟩ = some (.int .u64 (T.ret 0)) := Ext.cells (hXB.get (i := 0) (by omega))
  have r1 : ∀ y : Ext U, y.w.cell? ⟨q, 1, none⟩ = some (.int .u64 (T.ret 1)) := Ext.cells (hqb.get (i := 1) (by omega))
  have x1 : ∀ y : Ext U, y.w.cell? ⟨X, 1, none⟩ = some (.int .u64 (T.ret 1)) := Ext.cells (hXB.get (i := 1) (by omega))
  have r2 : ∀ y : Ext U, y.w.cell? ⟨q, 2, none⟩ = some (.int .u64 (T.ret 2)) := Ext.cells (hqb.get (i := 2) (by omega))
  have x2 : ∀ y : Ext U, y.w.cell? ⟨X, 2, none⟩ = some (.int .u64 (T.ret 2)) := Ext.cells (hXB.get (i := 2) (by omega))
  have r3 : ∀ y : Ext U, y.w.cell? ⟨q, 3, none⟩ = some (.int .u64 (T.ret 3)) := Ext.cells (hqb.get (i := 3) (by omega))
  have x3 : ∀ y : Ext U, y.w.cell? ⟨X, 3, none⟩ = some (.int .u64 (T.ret 3)) := Ext.cells (hXB.get (i := 3) (by omega))
  have r4 : ∀ y : Ext U, y.w.cell? ⟨q, 4, none⟩ = some (.int .u64 (T.ret 4)) := Ext.cells (hqb.get (i := 4) (by omega))
  have x4 : ∀ y : Ext U, y.w.cell? ⟨X, 4, none⟩ = some (.int .u64 (T.ret 4)) := Ext.cells (hXB.get (i := 4) (by omega))
  have r5 : ∀ y : Ext U, y.w.cell? ⟨q, 5, none⟩ = some (.int .u64 (T.ret 5)) := Ext.cells (hqb.get (i := 5) (by omega))
  have x5 : ∀ y : Ext U, y.w.cell? ⟨X, 5, none⟩ = some (.int .u64 (T.ret 5)) := Ext.cells (hXB.get (i := 5) (by omega))
  have r6 : ∀ y : Ext U, y.w.cell? ⟨q, 6, none⟩ = some (.int .u64 (T.ret 6)) := Ext.cells (hqb.get (i := 6) (by omega))
  have x6 : ∀ y : Ext U, y.w.cell? ⟨X, 6, none⟩ = some (.int .u64 (T.ret 6)) := Ext.cells (hXB.get (i := 6) (by omega))
  have r7 : ∀ y : Ext U, y.w.cell? ⟨q, 7, none⟩ = some (.int .u64 (T.ret 7)) := Ext.cells (hqb.get (i := 7) (by omega))
  have x7 : ∀ y : Ext U, y.w.cell? ⟨X, 7, none⟩ = some (.int .u64 (T.ret 7)) := Ext.cells (hXB.get (i := 7) (by omega))
  have r8 : ∀ y : Ext U, y.w.cell? ⟨q, 8, none⟩ = some (.int .u64 (T.ret 8)) := Ext.cells (hqb.get (i := 8) (by omega))
  have x8 : ∀ y : Ext U, y.w.cell? ⟨X, 8, none⟩ = some (.int .u64 (T.ret 8)) := Ext.cells (hXB.get (i := 8) (by omega))
  have r9 : ∀ y : Ext U, y.w.cell? ⟨q, 9, none⟩ = some (.int .u64 (T.ret 9)) := Ext.cells (hqb.get (i := 9) (by omega))
  have x9 : ∀ y : Ext U, y.w.cell? ⟨X, 9, none⟩ = some (.int .u64 (T.ret 9)) := Ext.cells (hXB.get (i := 9) (by omega))
  have r10 : ∀ y : Ext U, y.w.cell? ⟨q, 10, none⟩ = some (.int .u64 (T.ret 10)) := Ext.cells (hqb.get (i := 10) (by omega))
  have x10 : ∀ y : Ext U, y.w.cell? ⟨X, 10, none⟩ = some (.int .u64 (T.ret 10)) := Ext.cells (hXB.get (i := 10) (by omega))
  have r11 : ∀ y : Ext U, y.w.cell? ⟨q, 11, none⟩ = some (.int .u64 (T.ret 11)) := Ext.cells (hqb.get (i := 11) (by omega))
  have x11 : ∀ y : Ext U, y.w.cell? ⟨X, 11, none⟩ = some (.int .u64 (T.ret 11)) := Ext.cells (hXB.get (i := 11) (by omega))
  have x12 : ∀ y : Ext U, y.w.cell? ⟨X, 12, none⟩ = some (.slice fa T.nf fc) := Ext.cells (hXB.get (i := 12) (by omega))
  have x13 : ∀ y : Ext U, y.w.cell? ⟨X, 13, none⟩ = some (.slice ra T.row.length rc) := Ext.cells (hXB.get (i := 13) (by omega))
  have D := Lib.hid (fun (y : Ext U) => fdepth (HT.out.below y.h))
  clear hV u0 hbu hX hXB hqb
  have hq12 : ∀ w : World, (Op.equalIn 10000 28 (.agg #[.int .u64 (T.ret 0), .int .u64 (T.ret 1), .int .u64 (T.ret 2), .int .u64 (T.ret 3), .int .u64 (T.ret 4), .int .u64 (T.ret 5), .int .u64 (T.ret 6), .int .u64 (T.ret 7), .int .u64 (T.ret 8), .int .u64 (T.ret 9), .int .u64 (T.ret 10), .int .u64 (T.ret 11)]) (.agg #[.int .u64 (T.ret 0), .int .u64 (T.ret 1), .int .u64 (T.ret 2), .int .u64 (T.ret 3), .int .u64 (T.ret 4), .int .u64 (T.ret 5), .int .u64 (T.ret 6), .int .u64 (T.ret 7), .int .u64 (T.ret 8), .int .u64 (T.ret 9), .int .u64 (T.ret 10), .int .u64 (T.ret 11)])).run Try.prog w = .ok true w := fun w => by
    have h := eq_words 9998 12 _ u12' T.ret w
    rw [show (ucells 12 T.ret).toArray = #[.int .u64 (T.ret 0), .int .u64 (T.ret 1), .int .u64 (T.ret 2), .int .u64 (T.ret 3), .int .u64 (T.ret 4), .int .u64 (T.ret 5), .int .u64 (T.ret 6), .int .u64 (T.ret 7), .int .u64 (T.ret 8), .int .u64 (T.ret 9), .int .u64 (T.ret 10), .int .u64 (T.ret 11)] from rfl] at h
    exact h
  (with_reducible refine wp_region_mix (fun w' => ∃ y : Ext U, w' = y.w) ?_ ?_ ?_ ?_; kernel_rfl; kernel_rfl; exact ⟨⟨U.drew, (Below.refl _ _).drew⟩, rfl⟩)
  obtain ⟨y0, hy0⟩ : ∃ y : Ext U, y.w = U.drew := ⟨⟨U.drew, (Below.refl _ _).drew⟩, rfl⟩
  rw [← hy0]
  clear hy0
  repeat (first | ((with_reducible refine mix_plain (by kernel_rfl) ?_); (first | go_big_quiet_skip | (go_big_quiet_want; go_big_quiet_op; go_big_quiet_on)); (with_reducible refine mix_on ?_)) | ((with_reducible refine mix_skip (by kernel_rfl) ?_); go_big_quiet_skip; (with_reducible refine mix_on ?_)))
  ((with_reducible refine wpMix_chain (by kernel_rfl) (by kernel_rfl) (fun K HK => ?_)); go_step)
  refine (D.out y0).mono ?_; rintro _ w6 ⟨rfl, hw6⟩
  rw [← hw6]
  refine HK.out _ _ ⟨y0, rfl⟩ ?_
  clear HK K hw6
  repeat (first | ((with_reducible refine mix_plain (by kernel_rfl) ?_); (first | go_big_quiet_skip | (go_big_quiet_want; go_big_quiet_op; go_big_quiet_on)); (with_reducible refine mix_on ?_)) | ((with_reducible refine mix_skip (by kernel_rfl) ?_); go_big_quiet_skip; (with_reducible refine mix_on ?_)))
  ((with_reducible refine wpMix_chain (by kernel_rfl) (by kernel_rfl) (fun K HK => ?_)); go_step)
  refine (frow (HT.out.below y0.h) (by omega)).mono ?_; rintro _ w4 ⟨v4, rfl, hp4, hb4⟩
  obtain ⟨p4, c4, rfl, _, _⟩ := hp4.1.slice
  have hb4 := below_on y0.h hb4
  refine HK.out _ _ ⟨⟨w4, hb4⟩, rfl⟩ ?_
  clear HK K
  repeat (first | ((with_reducible refine mix_plain (by kernel_rfl) ?_); (first | go_big_quiet_skip | (go_big_quiet_want; go_big_quiet_op; go_big_quiet_on)); (with_reducible refine mix_on ?_)) | ((with_reducible refine mix_skip (by kernel_rfl) ?_); go_big_quiet_skip; (with_reducible refine mix_on ?_)))
  ((with_reducible refine wpMix_chain (by kernel_rfl) (by kernel_rfl) (fun K HK => ?_)); go_step)
  refine (rsame _ _ _ _ _ hp4.1 (HXU.out.below hb4).r.1 (by omega)).mono ?_; rintro _ w5 ⟨rfl, hb5⟩
  rw [sameB_refl]
  have hb5 := below_on hb4 hb5
  refine HK.out _ _ ⟨⟨w5, hb5⟩, rfl⟩ ?_
  clear HK K hb4 hp4
  repeat (first | ((with_reducible refine mix_plain (by kernel_rfl) ?_); (first | go_big_quiet_skip | (go_big_quiet_want; go_big_quiet_op; go_big_quiet_on)); (with_reducible refine mix_on ?_)) | ((with_reducible refine mix_skip (by kernel_rfl) ?_); go_big_quiet_skip; (with_reducible refine mix_on ?_)))
  refine wpMix_nil ?_
  have HT5 := Lib.hid (HT.out.below hb5); have HX5 := Lib.hid (HXU.out.below hb5); have HB5 := Lib.hid (below_on HBU.out hb5)
  have y12 : w5.cell? ⟨X, 12, none⟩ = some (.slice fa T.nf fc) := x12 ⟨w5, hb5⟩
  have HBX := Lib.hid (HB.out.below hb5)
  clear hb5 x12 x13 D hq12 r0 x0 r1 x1 r2 x2 r3 x3 r4 x4 r5 x5 r6 x6 r7 x7 r8 x8 r9 x9 r10 x10 r11 x11
  rcases zero_or T.nf with hn | ⟨m, hn⟩
  · have HN := Lib.hid hn
    rw [hn] at y12
    clear hn
    go_wp2_with fail
    refine (ftop0 HT5.out HN.out).mono ?_; rintro _ _ ⟨rfl, rfl⟩
    go_wp2_with fail
    (try go_ret)
    rw [HQ.out]
    exact ⟨rfl, HB5.out⟩
  · have HN := Lib.hid hn
    have hm : m ≤ 1000 := by omega
    rw [hn] at y12
    clear hn
    go_wp2_with fail
    refine (ftop1 HT5.out HN.out (by omega)).mono ?_; rintro _ w7 ⟨rfl, hb7⟩
    have HT7 := Lib.hid (HT5.out.below hb7); have HX7 := Lib.hid (HX5.out.below hb7); have HB7 := Lib.hid (below_on HB5.out hb7)
    have y12 := Ext.use (Ext.cells y12) hb7
    have hf := HX7.out.f
    rw [HN.out] at hf
    rcases hf with ⟨_, h0⟩ | ⟨g, c, hv, h1, h2, h3⟩
    · omega
    have hv' : fa = some ⟨g, 0, none⟩ ∧ fc = c := by
      simp only [Value.slice.injEq, true_and] at hv
      exact hv
    obtain ⟨rfl, rfl⟩ := hv'
    obtain ⟨f, hff⟩ : ∃ f, f = T.fs m := ⟨_, rfl⟩
    have hfb := (HT7.out.fb m (by rw [HN.out]; omega)).1
    rw [← hff] at hfb
    have hg : ∀ k, k < 26 → w7.cell? ⟨g, m * 26 + k, none⟩ = some (frF f k) := fun k hk => by
      rw [h3.get (j := m * 26 + k) (by omega), rfF_at _ _ _ hk, hff]
    have hne : ¬ ((m : Int) + 1 = 0) := by omega
    have hmi : (m : Int) < (m : Int) + 1 := by omega
    clear hb7 h3 hff
    have hcs : ∀ y : Ext w7, y.w.rangeAt (p m) 0 ((List.range 26).map (frF f)) := fun y => by
      have := (hfb.below y.h).range 0 26 (by omega)
      simpa only [Nat.zero_add] using this
    have hcg : ∀ y : Ext w7, y.w.rangeAt g (m * 26) ((List.range 26).map (frF f)) := fun y j v hv => by
      have hj : j < 26 := by
        have := (List.getElem?_eq_some_iff.1 hv).1
        simpa using this
      rw [List.getElem?_map, List.getElem?_range hj] at hv
      simp only [Option.map_some, Option.some.injEq] at hv
      rw [← hv]; exact Ext.use (Ext.cells (hg j hj)) y.h
    obtain ⟨FV, hFV⟩ : ∃ FV : Value, FV = .agg ((List.range 26).map (frF f)).toArray := ⟨_, rfl⟩
    have hl1 : ∀ y : Ext w7, (Instr.loadAt 57 (.pointer (some ⟨p m, 0, none⟩))).run Try.prog y.w = .ok FV y.w := fun y => by
      obtain ⟨dF, hdF, hdr⟩ := uFm
      rw [hFV]; exact run_loadAt_mid (P := Try.prog) y.w (p m) 0 57 _ dF (hcs y) hdF hdr (by rw [List.length_map, List.length_range]; exact infoFm)
    have hl2 : ∀ y : Ext w7, (Instr.loadAt 65 (.pointer (some ⟨g, m * 26, none⟩))).run Try.prog y.w = .ok FV y.w := fun y => by
      obtain ⟨dF, hdF, hdr⟩ := uF6
      rw [hFV]; exact run_loadAt_mid (P := Try.prog) y.w g (m * 26) 65 _ dF (hcg y) hdF hdr (by rw [List.length_map, List.length_range]; exact infoF6)
    have hE : ∀ w : World, (binOp .eql 65 FV FV).run Try.prog w = .ok (.bool true) w := fun w => by
      rw [hFV, run_eql_struct, eq_frame]; rfl
    have hG : ∀ (w : World) (x y : Operand), (eqGuard .eql 65 x y FV FV).run Try.prog w = .ok () w := fun w x y => by
      rw [hFV]; exact run_eqGuard_agg w .eql 65 x y _ _ (by kernel_rfl)
    have x12y := Ext.cells y12
    clear hg hfb hFV hcs hcg
    go_upto_region 6 with fail
    clear y12
    (with_reducible refine wp_region_mix (fun w' => ∃ y : Ext w7, w' = y.w) ?_ ?_ ?_ ?_; kernel_rfl; kernel_rfl; exact ⟨⟨w7.drew, (Below.refl _ _).drew⟩, rfl⟩)
    obtain ⟨y0, hy0⟩ : ∃ y : Ext w7, y.w = w7.drew := ⟨⟨w7.drew, (Below.refl _ _).drew⟩, rfl⟩
    rw [← hy0]
    clear hy0
    repeat (first | ((with_reducible refine mix_plain (by kernel_rfl) ?_); go_big_quiet_want; (refine quiet_load 57 (.tmp 45) (by rfl) (by rfl) (by rintro w8 ⟨y, rfl⟩; exact hl1 y) ?_); simp only [Act.put, List.setIfInBounds_toArray, List.set_cons_succ, List.set_cons_zero]; go_big_quiet_on; (with_reducible refine mix_on ?_)) | ((with_reducible refine mix_plain (by kernel_rfl) ?_); go_big_quiet_want; (refine quiet_load 65 (.tmp 53) (by rfl) (by rfl) (by rintro w8 ⟨y, rfl⟩; exact hl2 y) ?_); simp only [Act.put, List.setIfInBounds_toArray, List.set_cons_succ, List.set_cons_zero]; go_big_quiet_on; (with_reducible refine mix_on ?_)) | ((with_reducible refine mix_plain (by kernel_rfl) ?_); go_big_quiet_want; (refine quiet_eql 65 _ (.tmp 46) (.tmp 54) (by rfl) (by rfl) (by rfl) (fun w => hG w _ _) (fun w => hE w) ?_); simp only [Act.put, List.setIfInBounds_toArray, List.set_cons_succ, List.set_cons_zero]; go_big_quiet_on; (with_reducible refine mix_on ?_)) | ((with_reducible refine mix_plain (by kernel_rfl) ?_); (first | go_big_quiet_skip | (go_big_quiet_want; go_big_quiet_op; go_big_quiet_on)); (with_reducible refine mix_on ?_)) | ((with_reducible refine mix_skip (by kernel_rfl) ?_); go_big_quiet_skip; (with_reducible refine mix_on ?_)))
    refine wpMix_nil ?_
    have HB9 := Lib.hid (below_on HB7.out y0.h)
    clear hl1 hl2 hE hG x12y
    go_wp2_with fail
    (try go_ret)
    rw [HQ.out]
    exact ⟨rfl, HB9.out⟩
end Go.Proofs.Ytdnjconfmaiegaa
