/- Layer 15: a thread as this one: Clone, the walk. -/
import Derived.Test.YtdnjconfmaiegaaFrmW
namespace Go.Proofs.Ytdnjconfmaiegaa
open Go.RowKit
set_option linter.unusedVariables false
set_option linter.unusedSimpArgs false
theorem uFmW : ∃ d, Try.prog.underlying 57 = some d ∧ d.isRow = true := by
  have h : (Try.prog.underlying 57).map (·.isRow) = some true := by kernel_rfl
  cases h1 : Try.prog.underlying 57 with
  | none => rw [h1] at h; cases h
  | some d => rw [h1] at h; exact ⟨d, rfl, by simpa using h⟩
theorem infoFmW : (Try.prog.info? 57).map (·.size) = some 26 := by kernel_rfl
theorem frC_one {f : Fm} : ∀ u ∈ (List.range 26).map (frF f), u.oneCell' = true := by
  intro u hu
  simp only [List.mem_map] at hu
  obtain ⟨i, _, rfl⟩ := hu
  unfold frF
  split
  · rfl
  · split <;> rfl
theorem OwnL.less {T : TypeId} {w : World} {B B' : Nat} {v : Value} {n : Nat} {xs : List Value} (h : OwnL T w B v n xs) (k : B' ≤ B) : OwnL T w B' v n xs := by
  refine ⟨h.1, ?_⟩
  rcases h.2 with hn | ⟨g, cap, cur, rfl, hb, rest⟩
  · exact .inl hn
  · exact .inr ⟨g, cap, cur, rfl, Nat.le_trans k hb, rest⟩
set_option maxRecDepth 16000 in
set_option maxHeartbeats 4000000 in
theorem fclone {w : World} {B q : Nat} {T : Td} {p : Nat → Nat} {fv rv sv : Value} (h : ThA w B q T p fv rv sv) (hb1 : T.nf ≤ 1000) (hb2 : T.ns ≤ 1000) (hb3 : T.row.length ≤ 80000) :
    Calls Try.prog 15 #[.pointer (some ⟨q, 0, none⟩)] w fun e w' => ∃ q' p' fv' rv' sv', e = .returned (.pointer (some ⟨q', 0, none⟩)) ∧ ThA w' w.heap.size q' T p' fv' rv' sv' ∧ Below w.heap.size w w' := by
  refine Calls.veil fun Q HQ => ?_
  have HT := Lib.hid h
  obtain ⟨fa, fc, rfl, fc1, fc2⟩ := h.fo.slice
  obtain ⟨ra, rc, rfl, _, _⟩ := h.rw.1.slice
  obtain ⟨sa, sc, rfl, sc1, sc2⟩ := h.so.slice
  have cf : ∀ y : Ext w, y.w.cell? ⟨q, 24, none⟩ = some (.slice fa T.nf fc) := Ext.cells h.cf
  have cr : ∀ y : Ext w, y.w.cell? ⟨q, 25, none⟩ = some (.slice ra T.row.length rc) := Ext.cells h.cr
  have cs : ∀ y : Ext w, y.w.cell? ⟨q, 26, none⟩ = some (.slice sa T.ns sc) := Ext.cells h.cs
  obtain ⟨RV, hRV⟩ : ∃ RV : Value, RV = .agg (ucells 12 T.ret).toArray := ⟨_, rfl⟩
  obtain ⟨SV, hSV⟩ : ∃ SV : Value, SV = .agg ((List.range 12).map T.ss).toArray := ⟨_, rfl⟩
  have hl1 : ∀ y : Ext w, (Instr.loadAt 28 (.pointer (some ⟨q, 0, none⟩))).run Try.prog y.w = .ok RV y.w := fun y => by
    obtain ⟨dF, hdF, hdr⟩ := u12
    have hr := (h.blk.below y.h).range 0 12 (by omega)
    simp only [Nat.zero_add] at hr
    rw [th_ret] at hr
    rw [hRV]; exact run_loadAt_mid (P := Try.prog) y.w q 0 28 _ dF hr hdF hdr (by rw [ucells_len]; exact info12)
  have hl2 : ∀ y : Ext w, (Instr.loadAt 48 (.pointer (some ⟨q, 12, none⟩))).run Try.prog y.w = .ok SV y.w := fun y => by
    obtain ⟨dF, hdF, hdr⟩ := uSes
    have hr := (h.blk.below y.h).range 12 12 (by omega)
    rw [th_ss] at hr
    rw [hSV]; exact run_loadAt_mid (P := Try.prog) y.w q 12 48 _ dF hr hdF hdr (by rw [List.length_map, List.length_range]; exact infoSes)
  have HBT := Lib.hid (show ∀ (a b : Option Addr) (n c m d : Nat), (Try.prog).built 51 [(0, RV), (1, SV), (3, .slice a n c), (4, .slice b m d)] = some ((List.range 27).map (thF T (.slice none 0 0) (.slice a n c) (.slice b m d))).toArray from fun a b n c m d => by rw [hRV, hSV]; exact builtTh T a b n c m d)
  clear h hRV hSV
  go_enter Try.func15, Try.ntmps15
  go_upto_region 3 with fail
  (with_reducible refine wp_region_mix (fun w' => ∃ y : Ext w, w' = y.w) ?_ ?_ ?_ ?_; kernel_rfl; kernel_rfl; exact ⟨⟨w.drew, (Below.refl _ _).drew⟩, rfl⟩)
  obtain ⟨y0, hy0⟩ : ∃ y : Ext w, y.w = w.drew := ⟨⟨w.drew, (Below.refl _ _).drew⟩, rfl⟩
  rw [← hy0]
  clear hy0
  repeat (first | ((with_reducible refine mix_plain (by kernel_rfl) ?_); go_big_quiet_want; (refine quiet_load 28 (.tmp 11) (by rfl) (by rfl) (by rintro w8 ⟨y, rfl⟩; exact hl1 y) ?_); simp only [Act.put, List.setIfInBounds_toArray, List.set_cons_succ, List.set_cons_zero]; go_big_quiet_on; (with_reducible refine mix_on ?_)) | ((with_reducible refine mix_plain (by kernel_rfl) ?_); go_big_quiet_want; (refine quiet_load 48 (.tmp 15) (by rfl) (by rfl) (by rintro w8 ⟨y, rfl⟩; exact hl2 y) ?_); simp only [Act.put, List.setIfInBounds_toArray, List.set_cons_succ, List.set_cons_zero]; go_big_quiet_on; (with_reducible refine mix_on ?_)) | ((with_reducible refine mix_plain (by kernel_rfl) ?_); (first | go_big_quiet_skip | (go_big_quiet_want; go_big_quiet_op; go_big_quiet_on)); (with_reducible refine mix_on ?_)) | ((with_reducible refine mix_skip (by kernel_rfl) ?_); go_big_quiet_skip; (with_reducible refine mix_on ?_)))
  ((with_reducible refine wpMix_chain (by kernel_rfl) (by kernel_rfl) (fun K HK => ?_)); go_step)
  refine (pcloneO _ _ _ (HT.out.rw.below y0.h).1 (by omega)).mono ?_; rintro _ w1 ⟨v1, rfl, hv1, hb1⟩
  obtain ⟨ra1, rc1, rfl, _, _⟩ := hv1.1.slice
  have HV1 := Lib.hid hv1
  have hb1 := below_on y0.h hb1
  refine HK.out _ _ ⟨⟨w1, hb1⟩, rfl⟩ ?_
  clear HK K hv1
  repeat (first | ((with_reducible refine mix_plain (by kernel_rfl) ?_); (first | go_big_quiet_skip | (go_big_quiet_want; go_big_quiet_op; go_big_quiet_on)); (with_reducible refine mix_on ?_)) | ((with_reducible refine mix_skip (by kernel_rfl) ?_); go_big_quiet_skip; (with_reducible refine mix_on ?_)))
  ((with_reducible refine wpMix_chain (by kernel_rfl) (by kernel_rfl) (fun K HK => ?_)); go_step)
  refine (uclone (own_UR (HT.out.so.below hb1)) (by omega)).mono ?_; rintro _ w2 ⟨v2, rfl, ho2, hb2⟩
  obtain ⟨sa2, sc2, rfl, _, _⟩ := ho2.slice
  have HO2 := Lib.hid (ho2.less hb1.size)
  have HV2 := Lib.hid (HV1.out.below hb2)
  have hb2 := below_on hb1 hb2
  refine HK.out _ _ ⟨⟨w2, hb2⟩, rfl⟩ ?_
  clear HK K ho2
  obtain ⟨NV, hNV⟩ : ∃ NV : Array Value, NV = ((List.range 27).map (thF T (.slice none 0 0) (.slice ra1 T.row.length rc1) (.slice sa2 T.ns sc2))).toArray := ⟨_, rfl⟩
  have hbt := HBT.out ra1 sa2 T.row.length rc1 T.ns sc2
  rw [← hNV] at hbt
  have HNV := Lib.hid hNV
  clear hNV HBT
  ((with_reducible refine mix_plain (by kernel_rfl) ?_); go_big_quiet_want; (refine quiet_build4 51 0 1 3 4 (.tmp 12) (.tmp 16) (.tmp 21) (.tmp 26) rfl rfl rfl rfl rfl hbt ?_); simp only [Act.put, List.setIfInBounds_toArray, List.set_cons_succ, List.set_cons_zero]; go_big_quiet_on; (with_reducible refine mix_on ?_))
  clear hbt
  ((with_reducible refine wpMix_chain (by kernel_rfl) (by kernel_rfl) (fun K HK => ?_)); go_step)
  refine HK.out _ _ ⟨⟨_, below_new hb2 _⟩, rfl⟩ ?_
  clear HK K
  repeat (first | ((with_reducible refine mix_plain (by kernel_rfl) ?_); (first | go_big_quiet_skip | (go_big_quiet_want; go_big_quiet_op; go_big_quiet_on)); (with_reducible refine mix_on ?_)) | ((with_reducible refine mix_skip (by kernel_rfl) ?_); go_big_quiet_skip; (with_reducible refine mix_on ?_)))
  refine wpMix_nil ?_
  generalize hW : World.alloc _ _ = W3
  obtain ⟨hh, hbw⟩ := heapnewE hW
  obtain ⟨q', hq'⟩ : ∃ q', q' = w2.heap.size := ⟨_, rfl⟩
  rw [← hq'] at hh ⊢
  have hblk : Blk 51 W3 q' 27 (thF T (.slice none 0 0) (.slice ra1 T.row.length rc1) (.slice sa2 T.ns sc2)) := by rw [HNV.out] at hh; exact hh
  have HTH := Lib.hid (show ThA W3 w.heap.size q' { T with nf := 0 } p (.slice none 0 0) (.slice ra1 T.row.length rc1) (.slice sa2 T.ns sc2) from ⟨by have := hb2.size; omega, hblk, .nil _ _, fun i hi => absurd hi (by simp), fun i j hi => absurd hi (by simp), HV2.out.below hbw, HO2.out.below hbw, HT.out.s1⟩)
  have HBW := Lib.hid (below_on hb2 hbw)
  clear hW hh hbw hq' hblk hb1 hb2 cr cs hl1 hl2 HNV
  have cf := cf ⟨W3, HBW.out⟩
  go_wp2_with fail
  clear cf
  go_loopw [34] (fun iv wr => ∃ i : Nat, i ≤ T.nf ∧ iv = .int .i64 i ∧ ∃ p' fv', Hid (ThA wr w.heap.size q' { T with nf := i } p' fv' (.slice ra1 T.row.length rc1) (.slice sa2 T.ns sc2)) ∧ Hid (Below w.heap.size w wr))
    (fun iv _ => T.nf - (intOf iv).toNat)
  case atStart => exact ⟨0, Nat.zero_le _, rfl, _, _, HTH, HBW⟩
  case round =>
    clear HTH HBW
    obtain ⟨i, hi, rfl, p', fv', HC, HB⟩ := hrel
    rcases (by omega : i < T.nf ∨ i = T.nf) with hlt | heq
    · rcases HT.out.fo.parts with ⟨_, h0⟩ | ⟨g, c, hfe, h1, h2, _, _, _, _, _, _, h3⟩
      · omega
      simp only [Value.slice.injEq, true_and] at hfe
      obtain ⟨rfl, rfl⟩ := hfe
      have cg := Ext.use (Ext.cells (h3 i _ hlt (ptrs_get hlt))) HB.out
      have hii : (i : Int) < T.nf := by omega
      obtain ⟨b, hb⟩ : ∃ b, b = p i := ⟨_, rfl⟩
      rw [← hb] at cg
      have hfb := (HT.out.fb i hlt).1
      rw [← hb] at hfb
      obtain ⟨cs, hcs⟩ : ∃ cs : List Value, cs = (List.range 26).map (frF (T.fs i)) := ⟨_, rfl⟩
      have HRG := Lib.hid (show wr.rangeAt b 0 cs by
        have := (hfb.below HB.out).range 0 26 (by omega)
        simp only [Nat.zero_add] at this
        rw [hcs]; exact this)
      have HLE := Lib.hid (show cs.length = 26 by rw [hcs]; simp)
      have HONE := Lib.hid (show ∀ u ∈ cs, u.oneCell' = true by rw [hcs]; exact frC_one)
      have HCS := Lib.hid hcs
      have HSZ := Lib.hid (show cs.toArray.size = 26 by rw [List.size_toArray, hcs]; simp)
      obtain ⟨d, hd, hdr⟩ := uFmW
      have HD := Lib.hid hd; have HDR := Lib.hid hdr
      clear h3 hb hfb hcs hd hdr
      go_upto_region 8 with (first | (refine wpList_load_mid rfl 57 (.tmp 39) rfl b 0 rfl cs d HRG.out HD.out HDR.out (by rw [HLE.out]; exact infoFmW) ?_) | (refine wpList_store_row (by rfl) 57 (.tmp 6) (.tmp 40) (by rfl) wr.heap.size cs.toArray (by rfl) (by rfl) 57 _ (heap_alloc_new _ _) (by rw [HSZ.out]; exact infoFmW) (Eq.trans (b := 26) (by rfl) HSZ.out.symm) (all_oneCell_toArray HONE.out) ?_))
      generalize hW : World.setRow _ _ _ = W
      obtain ⟨hh, hbw, hsw⟩ := setrowE hW
      obtain ⟨z, hz⟩ : ∃ z, z = wr.heap.size := ⟨_, rfl⟩
      rw [← hz] at hh ⊢
      have hblk : Blk 57 W z 26 (frF (T.fs i)) := by rw [HCS.out] at hh; exact hh
      have hT := HC.out.below hbw
      have HTW := Lib.hid hT
      have HKW := Lib.hid (below_on HB.out hbw)
      obtain ⟨pa, pc, W2, hrun, ho, hg, hloc⟩ := push1 uFrs infoFr (by rfl) hT.fo (.pointer (some ⟨z, 0, none⟩)) rfl (by show i ≤ 1000000; omega) (HKW.out.size)
      have cf := hT.cf
      have cfn := fun o => Ext.on cf o
      have hfin := hT.pushF hblk (by have := HB.out.size; omega) (fun j hj => by have := blk_lt (HC.out.fb j hj).1; omega) ho hg
      have cq2 : W2.cell? ⟨q', 24, none⟩ = some fv' := (World.cell?_of_block (a := ⟨q', 24, none⟩) (hg.block q' hT.lt fun e => hT.nfq.1 e.symm)).trans cf
      have cq3 : ∀ i, W2.frozen? ⟨q', i, none⟩ = false := ((hT.blk.of (hg.block q' hT.lt fun e => hT.nfq.1 e.symm)) : Blk 51 W2 q' 27 _).fr
      have HFIN := Lib.hid hfin
      obtain ⟨fa', fc', hfe, _, _⟩ := hT.fo.slice
      rw [hfe] at cf cfn hrun cq2
      clear hW hh hbw hsw hz hblk hT ho hg hfin hloc hfe
      go_wp2_with (at_builtin; refine wpList_append_run rfl (.tmp 45) (.tmp 46) 49 rfl rfl rfl rfl hrun ?_)
      go_roundw
      case rel =>
        have h := HFIN.out.1
        have he : ({ ({ T with nf := i } : Td) with nf := ({ T with nf := i } : Td).nf + 1, fs := upM ({ T with nf := i } : Td).fs ({ T with nf := i } : Td).nf (T.fs i) } : Td) = { T with nf := i + 1 } := by simp only [upM_self]
        rw [he] at h
        exact ⟨i + 1, by omega, by go_num, _, _, Lib.hid h, Lib.hid (HFIN.out.2.below HTW.out HKW.out (Nat.le_refl _))⟩
      case measure => simp [intOf]; omega
    · have hii : ¬ (i : Int) < T.nf := by omega
      subst heq
      go_wp2_with fail
      (try go_ret)
      rw [HQ.out]
      exact ⟨q', p', fv', _, _, rfl, HC.out, HB.out⟩
end Go.Proofs.Ytdnjconfmaiegaa
