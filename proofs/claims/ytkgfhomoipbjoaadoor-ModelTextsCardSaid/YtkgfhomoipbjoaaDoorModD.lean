/- Layer 10: one. -/
import Derived.Test.YtkgfhomoipbjoaaDoorModC
namespace Go.Proofs.YtkgfhomoipbjoaaDoor
open Go.RowKit
set_option linter.unusedVariables false
set_option linter.unusedSimpArgs false
/-- An answer's block, as it is made. -/
def A5 (w : World) (R : Nat) : Prop := w.heap[R]? = some (.cells #[.int .i64 0, .int .i64 0, .int .i64 0, .int .i64 0, .slice none 0 0] 34 (0, 0))
theorem A5.c {w : World} {R : Nat} (h : A5 w R) : w.cell? ⟨R, 0, none⟩ = some (.int .i64 0) ∧ w.cell? ⟨R, 1, none⟩ = some (.int .i64 0) ∧ w.cell? ⟨R, 2, none⟩ = some (.int .i64 0) ∧ w.cell? ⟨R, 3, none⟩ = some (.int .i64 0) ∧ w.cell? ⟨R, 4, none⟩ = some (.slice none 0 0) ∧ ∀ i, w.frozen? ⟨R, i, none⟩ = false := by
  refine ⟨?_, ?_, ?_, ?_, ?_, fun i => frozen_of_row _ _ _ _ _ h⟩
  all_goals (rw [cell_of_row _ _ _ _ _ (0, 0) h]; rfl)
theorem A5.of {w w' : World} {R : Nat} (h : A5 w R) (e : w'.heap[R]? = w.heap[R]?) : A5 w' R := e.trans h
theorem A5.lt {w : World} {R : Nat} (h : A5 w R) : R < w.heap.size := (Array.getElem?_eq_some_iff.1 h).1
theorem A5.below {w w' : World} {R : Nat} (h : A5 w R) (k : Below w.heap.size w w') : A5 w' R := h.of (k.block _ h.lt)
def oneA (l : PL) (c : Ca) : Option (Int × Int) := if c.op = 5 then ceilL l (-9223372036854775808) else if c.op = 6 then floorL l 9223372036854775807 else if c.op = 7 then floorL l c.key else if c.op = 8 then ceilL l c.key else atL l c.key
set_option maxRecDepth 8000 in
set_option maxHeartbeats 2000000 in
theorem mone_min (l : PL) (mv : Value) (S : Nat) (op key val hi lim : Int) (w : World) (hS : w.cell? ⟨S, 0, none⟩ = some mv) (h : PR w mv l) (hr : riseB l = true) (hn : l.length ≤ 90000) (hop : True) :
    Calls Tryd.prog 32 #[.pointer (some ⟨S, 0, none⟩), .agg #[.int .i64 5, .int .i64 key, .int .i64 val, .int .i64 hi, .int .i64 lim]] w fun e w' => e = .returned (fA (ceilL l (-9223372036854775808))) ∧ Below w.heap.size w w' := by
  refine Calls.veil fun Q HQ => ?_
  have H := Lib.hid h
  have HR := Lib.hid hr
  have HN := Lib.hid hn
  have HS := Lib.hid hS
  obtain ⟨p, c, rfl, m1, m2⟩ := h.slice
  clear h hr hn
  clear hop
  go_enter Tryd.func32, Tryd.ntmps32
  go_upto_region 1 with fail
  generalize hU : World.alloc _ _ = U
  have hBU : Below w.heap.size w U := by rw [← hU]; (repeat (first | exact Below.refl _ _ | assumption | refine below_new ?_ _ | refine Below.drew ?_ | refine below_drewN ?_ _ | refine below_on ?_ (by assumption)))
  obtain ⟨B, hB⟩ : ∃ B, B = w.heap.size := ⟨_, rfl⟩
  have e1 : (w.alloc (.cells #[.int .i64 5, .int .i64 key, .int .i64 val, .int .i64 hi, .int .i64 lim] 38)).heap.size = B + 1 := by rw [hB]; simp
  have b1 : Below (B + 1) (w.alloc (.cells #[.int .i64 5, .int .i64 key, .int .i64 val, .int .i64 hi, .int .i64 lim] 38)) U := by
    rw [← hU, ← e1]; (repeat (first | exact Below.refl _ _ | assumption | refine below_new ?_ _ | refine Below.drew ?_ | refine below_drewN ?_ _ | refine below_on ?_ (by assumption)))
  have z0 : U.cell? ⟨B, 0, none⟩ = some (.int .i64 5) := by rw [hB]; exact Ext.made_in rfl (by rw [e1]; exact b1) 0 _ rfl
  have z1 : U.cell? ⟨B, 1, none⟩ = some (.int .i64 key) := by rw [hB]; exact Ext.made_in rfl (by rw [e1]; exact b1) 1 _ rfl
  have HA := Lib.hid (show A5 U (B + 1) by unfold A5; rw [← e1, ← hU]; exact heap_alloc_new _ _)
  have s0 : U.cell? ⟨S, 0, none⟩ = some (.slice p l.length c) := Ext.use (Ext.cells HS.out) hBU
  have HP := Lib.hid (H.out.below hBU)
  have HBU := Lib.hid hBU
  have HSB := Lib.hid (show S < B by rw [hB]; exact World.block_lt_of_cell? w ⟨S, 0, none⟩ HS.out)
  have HBE := Lib.hid hB
  rw [← hB]
  clear hU b1 e1 hBU hB hS
  go_wp2_with fail
  refine (pceil l _ (-9223372036854775808) U HP.out HR.out (by have := HN.out; omega)).mono ?_; rintro _ w1 ⟨rfl, hb1⟩
  obtain ⟨c0, c1, c2, c3, c4, cf⟩ := (HA.out.below hb1).c
  have HB1 := Lib.hid hb1
  have HA1 := Lib.hid (HA.out.below hb1)
  clear c0 c1 c2 c3 c4 cf hb1
  cases ho : ceilL l (-9223372036854775808) with
  | none =>
    rw [ho] at HQ
    simp only [opt, Option.getD_none, Option.getD_some, Option.isSome_none, Option.isSome_some]
    go_wp2_with fail
    refine (mfound_no w1).mono ?_; rintro _ w2 ⟨rfl, hb2⟩
    obtain ⟨c0, c1, c2, c3, c4, cf⟩ := (HA1.out.below hb2).c
    have HBT := Lib.hid (show Below w.heap.size w w2 from (HBU.out.trans (HB1.out.mono HBU.out.size)).trans (hb2.mono (by have := HBU.out.size; have := HB1.out.size; omega)))
    clear hb2
    go_wp2_with fail
    refine bodyPost_ret (v := .agg #[.int .i64 4, .int .i64 0, .int .i64 0, .int .i64 0, .slice none 0 0]) (by simp [results, Tryd.results32, go_sem, c0, c1, c2, c3, c4, World.cell?_setCell_same, World.cell?_setCell_other]) rfl ?_
    rw [HQ.out]
    have hBE := HBE.out
    exact ⟨rfl, by repeat' (first | exact HBT.out | refine below_setB ?_ (by omega))⟩
  | some pr =>
    rw [ho] at HQ
    obtain ⟨kk, vv⟩ := pr
    simp only [opt, Option.getD_none, Option.getD_some, Option.isSome_none, Option.isSome_some]
    go_wp2_with fail
    refine (mfound_at kk vv w1).mono ?_; rintro _ w2 ⟨rfl, hb2⟩
    obtain ⟨c0, c1, c2, c3, c4, cf⟩ := (HA1.out.below hb2).c
    have HBT := Lib.hid (show Below w.heap.size w w2 from (HBU.out.trans (HB1.out.mono HBU.out.size)).trans (hb2.mono (by have := HBU.out.size; have := HB1.out.size; omega)))
    clear hb2
    go_wp2_with fail
    refine bodyPost_ret (v := .agg #[.int .i64 1, .int .i64 kk, .int .i64 vv, .int .i64 0, .slice none 0 0]) (by simp [results, Tryd.results32, go_sem, c0, c1, c2, c3, c4, World.cell?_setCell_same, World.cell?_setCell_other]) rfl ?_
    rw [HQ.out]
    have hBE := HBE.out
    exact ⟨rfl, by repeat' (first | exact HBT.out | refine below_setB ?_ (by omega))⟩
set_option maxRecDepth 8000 in
set_option maxHeartbeats 2000000 in
theorem mone_max (l : PL) (mv : Value) (S : Nat) (op key val hi lim : Int) (w : World) (hS : w.cell? ⟨S, 0, none⟩ = some mv) (h : PR w mv l) (hr : riseB l = true) (hn : l.length ≤ 90000) (hop : True) :
    Calls Tryd.prog 32 #[.pointer (some ⟨S, 0, none⟩), .agg #[.int .i64 6, .int .i64 key, .int .i64 val, .int .i64 hi, .int .i64 lim]] w fun e w' => e = .returned (fA (floorL l 9223372036854775807)) ∧ Below w.heap.size w w' := by
  refine Calls.veil fun Q HQ => ?_
  have H := Lib.hid h
  have HR := Lib.hid hr
  have HN := Lib.hid hn
  have HS := Lib.hid hS
  obtain ⟨p, c, rfl, m1, m2⟩ := h.slice
  clear h hr hn
  clear hop
  go_enter Tryd.func32, Tryd.ntmps32
  go_upto_region 1 with fail
  generalize hU : World.alloc _ _ = U
  have hBU : Below w.heap.size w U := by rw [← hU]; (repeat (first | exact Below.refl _ _ | assumption | refine below_new ?_ _ | refine Below.drew ?_ | refine below_drewN ?_ _ | refine below_on ?_ (by assumption)))
  obtain ⟨B, hB⟩ : ∃ B, B = w.heap.size := ⟨_, rfl⟩
  have e1 : (w.alloc (.cells #[.int .i64 6, .int .i64 key, .int .i64 val, .int .i64 hi, .int .i64 lim] 38)).heap.size = B + 1 := by rw [hB]; simp
  have b1 : Below (B + 1) (w.alloc (.cells #[.int .i64 6, .int .i64 key, .int .i64 val, .int .i64 hi, .int .i64 lim] 38)) U := by
    rw [← hU, ← e1]; (repeat (first | exact Below.refl _ _ | assumption | refine below_new ?_ _ | refine Below.drew ?_ | refine below_drewN ?_ _ | refine below_on ?_ (by assumption)))
  have z0 : U.cell? ⟨B, 0, none⟩ = some (.int .i64 6) := by rw [hB]; exact Ext.made_in rfl (by rw [e1]; exact b1) 0 _ rfl
  have z1 : U.cell? ⟨B, 1, none⟩ = some (.int .i64 key) := by rw [hB]; exact Ext.made_in rfl (by rw [e1]; exact b1) 1 _ rfl
  have HA := Lib.hid (show A5 U (B + 1) by unfold A5; rw [← e1, ← hU]; exact heap_alloc_new _ _)
  have s0 : U.cell? ⟨S, 0, none⟩ = some (.slice p l.length c) := Ext.use (Ext.cells HS.out) hBU
  have HP := Lib.hid (H.out.below hBU)
  have HBU := Lib.hid hBU
  have HSB := Lib.hid (show S < B by rw [hB]; exact World.block_lt_of_cell? w ⟨S, 0, none⟩ HS.out)
  have HBE := Lib.hid hB
  rw [← hB]
  clear hU b1 e1 hBU hB hS
  go_wp2_with fail
  refine (pfloor l _ 9223372036854775807 U HP.out HR.out (by have := HN.out; omega)).mono ?_; rintro _ w1 ⟨rfl, hb1⟩
  obtain ⟨c0, c1, c2, c3, c4, cf⟩ := (HA.out.below hb1).c
  have HB1 := Lib.hid hb1
  have HA1 := Lib.hid (HA.out.below hb1)
  clear c0 c1 c2 c3 c4 cf hb1
  cases ho : floorL l 9223372036854775807 with
  | none =>
    rw [ho] at HQ
    simp only [opt, Option.getD_none, Option.getD_some, Option.isSome_none, Option.isSome_some]
    go_wp2_with fail
    refine (mfound_no w1).mono ?_; rintro _ w2 ⟨rfl, hb2⟩
    obtain ⟨c0, c1, c2, c3, c4, cf⟩ := (HA1.out.below hb2).c
    have HBT := Lib.hid (show Below w.heap.size w w2 from (HBU.out.trans (HB1.out.mono HBU.out.size)).trans (hb2.mono (by have := HBU.out.size; have := HB1.out.size; omega)))
    clear hb2
    go_wp2_with fail
    refine bodyPost_ret (v := .agg #[.int .i64 4, .int .i64 0, .int .i64 0, .int .i64 0, .slice none 0 0]) (by simp [results, Tryd.results32, go_sem, c0, c1, c2, c3, c4, World.cell?_setCell_same, World.cell?_setCell_other]) rfl ?_
    rw [HQ.out]
    have hBE := HBE.out
    exact ⟨rfl, by repeat' (first | exact HBT.out | refine below_setB ?_ (by omega))⟩
  | some pr =>
    rw [ho] at HQ
    obtain ⟨kk, vv⟩ := pr
    simp only [opt, Option.getD_none, Option.getD_some, Option.isSome_none, Option.isSome_some]
    go_wp2_with fail
    refine (mfound_at kk vv w1).mono ?_; rintro _ w2 ⟨rfl, hb2⟩
    obtain ⟨c0, c1, c2, c3, c4, cf⟩ := (HA1.out.below hb2).c
    have HBT := Lib.hid (show Below w.heap.size w w2 from (HBU.out.trans (HB1.out.mono HBU.out.size)).trans (hb2.mono (by have := HBU.out.size; have := HB1.out.size; omega)))
    clear hb2
    go_wp2_with fail
    refine bodyPost_ret (v := .agg #[.int .i64 1, .int .i64 kk, .int .i64 vv, .int .i64 0, .slice none 0 0]) (by simp [results, Tryd.results32, go_sem, c0, c1, c2, c3, c4, World.cell?_setCell_same, World.cell?_setCell_other]) rfl ?_
    rw [HQ.out]
    have hBE := HBE.out
    exact ⟨rfl, by repeat' (first | exact HBT.out | refine below_setB ?_ (by omega))⟩
set_option maxRecDepth 8000 in
set_option maxHeartbeats 2000000 in
theorem mone_floor (l : PL) (mv : Value) (S : Nat) (op key val hi lim : Int) (w : World) (hS : w.cell? ⟨S, 0, none⟩ = some mv) (h : PR w mv l) (hr : riseB l = true) (hn : l.length ≤ 90000) (hop : True) :
    Calls Tryd.prog 32 #[.pointer (some ⟨S, 0, none⟩), .agg #[.int .i64 7, .int .i64 key, .int .i64 val, .int .i64 hi, .int .i64 lim]] w fun e w' => e = .returned (fA (floorL l key)) ∧ Below w.heap.size w w' := by
  refine Calls.veil fun Q HQ => ?_
  have H := Lib.hid h
  have HR := Lib.hid hr
  have HN := Lib.hid hn
  have HS := Lib.hid hS
  obtain ⟨p, c, rfl, m1, m2⟩ := h.slice
  clear h hr hn
  clear hop
  go_enter Tryd.func32, Tryd.ntmps32
  go_upto_region 1 with fail
  generalize hU : World.alloc _ _ = U
  have hBU : Below w.heap.size w U := by rw [← hU]; (repeat (first | exact Below.refl _ _ | assumption | refine below_new ?_ _ | refine Below.drew ?_ | refine below_drewN ?_ _ | refine below_on ?_ (by assumption)))
  obtain ⟨B, hB⟩ : ∃ B, B = w.heap.size := ⟨_, rfl⟩
  have e1 : (w.alloc (.cells #[.int .i64 7, .int .i64 key, .int .i64 val, .int .i64 hi, .int .i64 lim] 38)).heap.size = B + 1 := by rw [hB]; simp
  have b1 : Below (B + 1) (w.alloc (.cells #[.int .i64 7, .int .i64 key, .int .i64 val, .int .i64 hi, .int .i64 lim] 38)) U := by
    rw [← hU, ← e1]; (repeat (first | exact Below.refl _ _ | assumption | refine below_new ?_ _ | refine Below.drew ?_ | refine below_drewN ?_ _ | refine below_on ?_ (by assumption)))
  have z0 : U.cell? ⟨B, 0, none⟩ = some (.int .i64 7) := by rw [hB]; exact Ext.made_in rfl (by rw [e1]; exact b1) 0 _ rfl
  have z1 : U.cell? ⟨B, 1, none⟩ = some (.int .i64 key) := by rw [hB]; exact Ext.made_in rfl (by rw [e1]; exact b1) 1 _ rfl
  have HA := Lib.hid (show A5 U (B + 1) by unfold A5; rw [← e1, ← hU]; exact heap_alloc_new _ _)
  have s0 : U.cell? ⟨S, 0, none⟩ = some (.slice p l.length c) := Ext.use (Ext.cells HS.out) hBU
  have HP := Lib.hid (H.out.below hBU)
  have HBU := Lib.hid hBU
  have HSB := Lib.hid (show S < B by rw [hB]; exact World.block_lt_of_cell? w ⟨S, 0, none⟩ HS.out)
  have HBE := Lib.hid hB
  rw [← hB]
  clear hU b1 e1 hBU hB hS
  have s0 : ∀ x : E4 U [B + 1], x.w.cell? ⟨S, 0, none⟩ = some (.slice p l.length c) := E4.cells s0 (by have := HSB.out; simp; omega)
  have z1 : ∀ x : E4 U [B + 1], x.w.cell? ⟨B, 1, none⟩ = some (.int .i64 key) := E4.cells z1 (by simp)
  go_upto_region 7 with fail
  (with_reducible refine wp_region_mix (fun w' => ∃ x : E4 U [B + 1], w' = x.w) ?_ ?_ ?_ ?_; kernel_rfl; kernel_rfl; exact ⟨⟨U.drew, .of_below (Below.refl _ _).drew⟩, rfl⟩)
  repeat (first | ((with_reducible refine mix_plain (by kernel_rfl) ?_); (first | go_big_quiet_skip | (go_big_quiet_want; go_big_quiet_op; go_big_quiet_on)); (with_reducible refine mix_on ?_)) | ((with_reducible refine mix_skip (by kernel_rfl) ?_); go_big_quiet_skip; (with_reducible refine mix_on ?_)))
  ((with_reducible refine wpMix_chain (by kernel_rfl) (by kernel_rfl) (fun K HK => ?_)); go_step)
  refine (pfloor l _ key U.drew (HP.out.below (Below.refl _ _).drew) HR.out (by have := HN.out; omega)).mono ?_; rintro _ w1 ⟨rfl, hb1⟩
  have hb1 : Below U.heap.size U w1 := ((Below.refl _ _).drew).trans hb1
  have HB1 := Lib.hid hb1
  have HA1 := Lib.hid (HA.out.below hb1)
  cases ho : floorL l key with
  | none =>
    rw [ho] at HQ
    refine HK.out _ _ ⟨⟨w1, .of_below HB1.out⟩, rfl⟩ ?_
    clear HK K
    simp only [ho, opt, Option.getD_none, Option.getD_some, Option.isSome_none, Option.isSome_some]
    repeat (first | ((with_reducible refine mix_plain (by kernel_rfl) ?_); (first | go_big_quiet_skip | (go_big_quiet_want; go_big_quiet_op; go_big_quiet_on)); (with_reducible refine mix_on ?_)) | ((with_reducible refine mix_skip (by kernel_rfl) ?_); go_big_quiet_skip; (with_reducible refine mix_on ?_)))
    ((with_reducible refine wpMix_chain (by kernel_rfl) (by kernel_rfl) (fun K HK => ?_)); go_step)
    refine (mfound_no w1).mono ?_; rintro _ w2 ⟨rfl, hb2⟩
    obtain ⟨c0, c1, c2, c3, c4, cf⟩ := (HA1.out.below hb2).c
    have HB2 := Lib.hid (HB1.out.trans (hb2.mono HB1.out.size))
    refine HK.out _ _ ⟨⟨w2, .of_below HB2.out⟩, rfl⟩ ?_
    clear HK K hb2 hb1
    repeat (first | ((with_reducible refine mix_plain (by kernel_rfl) ?_); (first | go_big_quiet_skip | (go_big_quiet_want; go_big_quiet_op; go_big_quiet_on)); (with_reducible refine mix_on ?_)) | ((with_reducible refine mix_skip (by kernel_rfl) ?_); go_big_quiet_skip; (with_reducible refine mix_on ?_)))
    ((with_reducible refine wpMix_chain (by kernel_rfl) (by kernel_rfl) (fun K HK => ?_)); go_step)
    refine HK.out _ _ ⟨⟨_, ((((((KX.of_below HB2.out).trans (KX.set (by simp))).trans (KX.set (by simp))).trans (KX.set (by simp))).trans (KX.set (by simp))).trans (KX.set (by simp)))⟩, rfl⟩ ?_
    clear HK K
    repeat (first | ((with_reducible refine mix_plain (by kernel_rfl) ?_); (first | go_big_quiet_skip | (go_big_quiet_want; go_big_quiet_op; go_big_quiet_on)); (with_reducible refine mix_on ?_)) | ((with_reducible refine mix_skip (by kernel_rfl) ?_); go_big_quiet_skip; (with_reducible refine mix_on ?_)))
    refine wpMix_nil ?_
    go_wp2_with fail
    refine bodyPost_ret (v := .agg #[.int .i64 4, .int .i64 0, .int .i64 0, .int .i64 0, .slice none 0 0]) (by simp [results, Tryd.results32, go_sem, c0, c1, c2, c3, c4, World.cell?_setCell_same, World.cell?_setCell_other]) rfl ?_
    rw [HQ.out]
    have hBE := HBE.out
    have HBT := Lib.hid (HBU.out.trans (HB2.out.mono HBU.out.size))
    exact ⟨rfl, by repeat' (first | exact HBT.out | refine below_setB ?_ (by omega))⟩
  | some pr =>
    rw [ho] at HQ
    obtain ⟨kk, vv⟩ := pr
    refine HK.out _ _ ⟨⟨w1, .of_below HB1.out⟩, rfl⟩ ?_
    clear HK K
    simp only [ho, opt, Option.getD_none, Option.getD_some, Option.isSome_none, Option.isSome_some]
    repeat (first | ((with_reducible refine mix_plain (by kernel_rfl) ?_); (first | go_big_quiet_skip | (go_big_quiet_want; go_big_quiet_op; go_big_quiet_on)); (with_reducible refine mix_on ?_)) | ((with_reducible refine mix_skip (by kernel_rfl) ?_); go_big_quiet_skip; (with_reducible refine mix_on ?_)))
    ((with_reducible refine wpMix_chain (by kernel_rfl) (by kernel_rfl) (fun K HK => ?_)); go_step)
    refine (mfound_at kk vv w1).mono ?_; rintro _ w2 ⟨rfl, hb2⟩
    obtain ⟨c0, c1, c2, c3, c4, cf⟩ := (HA1.out.below hb2).c
    have HB2 := Lib.hid (HB1.out.trans (hb2.mono HB1.out.size))
    refine HK.out _ _ ⟨⟨w2, .of_below HB2.out⟩, rfl⟩ ?_
    clear HK K hb2 hb1
    repeat (first | ((with_reducible refine mix_plain (by kernel_rfl) ?_); (first | go_big_quiet_skip | (go_big_quiet_want; go_big_quiet_op; go_big_quiet_on)); (with_reducible refine mix_on ?_)) | ((with_reducible refine mix_skip (by kernel_rfl) ?_); go_big_quiet_skip; (with_reducible refine mix_on ?_)))
    ((with_reducible refine wpMix_chain (by kernel_rfl) (by kernel_rfl) (fun K HK => ?_)); go_step)
    refine HK.out _ _ ⟨⟨_, ((((((KX.of_below HB2.out).trans (KX.set (by simp))).trans (KX.set (by simp))).trans (KX.set (by simp))).trans (KX.set (by simp))).trans (KX.set (by simp)))⟩, rfl⟩ ?_
    clear HK K
    repeat (first | ((with_reducible refine mix_plain (by kernel_rfl) ?_); (first | go_big_quiet_skip | (go_big_quiet_want; go_big_quiet_op; go_big_quiet_on)); (with_reducible refine mix_on ?_)) | ((with_reducible refine mix_skip (by kernel_rfl) ?_); go_big_quiet_skip; (with_reducible refine mix_on ?_)))
    refine wpMix_nil ?_
    go_wp2_with fail
    refine bodyPost_ret (v := .agg #[.int .i64 1, .int .i64 kk, .int .i64 vv, .int .i64 0, .slice none 0 0]) (by simp [results, Tryd.results32, go_sem, c0, c1, c2, c3, c4, World.cell?_setCell_same, World.cell?_setCell_other]) rfl ?_
    rw [HQ.out]
    have hBE := HBE.out
    have HBT := Lib.hid (HBU.out.trans (HB2.out.mono HBU.out.size))
    exact ⟨rfl, by repeat' (first | exact HBT.out | refine below_setB ?_ (by omega))⟩
set_option maxRecDepth 8000 in
set_option maxHeartbeats 2000000 in
theorem mone_ceil (l : PL) (mv : Value) (S : Nat) (op key val hi lim : Int) (w : World) (hS : w.cell? ⟨S, 0, none⟩ = some mv) (h : PR w mv l) (hr : riseB l = true) (hn : l.length ≤ 90000) (hop : True) :
    Calls Tryd.prog 32 #[.pointer (some ⟨S, 0, none⟩), .agg #[.int .i64 8, .int .i64 key, .int .i64 val, .int .i64 hi, .int .i64 lim]] w fun e w' => e = .returned (fA (ceilL l key)) ∧ Below w.heap.size w w' := by
  refine Calls.veil fun Q HQ => ?_
  have H := Lib.hid h
  have HR := Lib.hid hr
  have HN := Lib.hid hn
  have HS := Lib.hid hS
  obtain ⟨p, c, rfl, m1, m2⟩ := h.slice
  clear h hr hn
  clear hop
  go_enter Tryd.func32, Tryd.ntmps32
  go_upto_region 1 with fail
  generalize hU : World.alloc _ _ = U
  have hBU : Below w.heap.size w U := by rw [← hU]; (repeat (first | exact Below.refl _ _ | assumption | refine below_new ?_ _ | refine Below.drew ?_ | refine below_drewN ?_ _ | refine below_on ?_ (by assumption)))
  obtain ⟨B, hB⟩ : ∃ B, B = w.heap.size := ⟨_, rfl⟩
  have e1 : (w.alloc (.cells #[.int .i64 8, .int .i64 key, .int .i64 val, .int .i64 hi, .int .i64 lim] 38)).heap.size = B + 1 := by rw [hB]; simp
  have b1 : Below (B + 1) (w.alloc (.cells #[.int .i64 8, .int .i64 key, .int .i64 val, .int .i64 hi, .int .i64 lim] 38)) U := by
    rw [← hU, ← e1]; (repeat (first | exact Below.refl _ _ | assumption | refine below_new ?_ _ | refine Below.drew ?_ | refine below_drewN ?_ _ | refine below_on ?_ (by assumption)))
  have z0 : U.cell? ⟨B, 0, none⟩ = some (.int .i64 8) := by rw [hB]; exact Ext.made_in rfl (by rw [e1]; exact b1) 0 _ rfl
  have z1 : U.cell? ⟨B, 1, none⟩ = some (.int .i64 key) := by rw [hB]; exact Ext.made_in rfl (by rw [e1]; exact b1) 1 _ rfl
  have HA := Lib.hid (show A5 U (B + 1) by unfold A5; rw [← e1, ← hU]; exact heap_alloc_new _ _)
  have s0 : U.cell? ⟨S, 0, none⟩ = some (.slice p l.length c) := Ext.use (Ext.cells HS.out) hBU
  have HP := Lib.hid (H.out.below hBU)
  have HBU := Lib.hid hBU
  have HSB := Lib.hid (show S < B by rw [hB]; exact World.block_lt_of_cell? w ⟨S, 0, none⟩ HS.out)
  have HBE := Lib.hid hB
  rw [← hB]
  clear hU b1 e1 hBU hB hS
  have s0 : ∀ x : E4 U [B + 1], x.w.cell? ⟨S, 0, none⟩ = some (.slice p l.length c) := E4.cells s0 (by have := HSB.out; simp; omega)
  have z1 : ∀ x : E4 U [B + 1], x.w.cell? ⟨B, 1, none⟩ = some (.int .i64 key) := E4.cells z1 (by simp)
  go_upto_region 9 with fail
  (with_reducible refine wp_region_mix (fun w' => ∃ x : E4 U [B + 1], w' = x.w) ?_ ?_ ?_ ?_; kernel_rfl; kernel_rfl; exact ⟨⟨U.drew, .of_below (Below.refl _ _).drew⟩, rfl⟩)
  repeat (first | ((with_reducible refine mix_plain (by kernel_rfl) ?_); (first | go_big_quiet_skip | (go_big_quiet_want; go_big_quiet_op; go_big_quiet_on)); (with_reducible refine mix_on ?_)) | ((with_reducible refine mix_skip (by kernel_rfl) ?_); go_big_quiet_skip; (with_reducible refine mix_on ?_)))
  ((with_reducible refine wpMix_chain (by kernel_rfl) (by kernel_rfl) (fun K HK => ?_)); go_step)
  refine (pceil l _ key U.drew (HP.out.below (Below.refl _ _).drew) HR.out (by have := HN.out; omega)).mono ?_; rintro _ w1 ⟨rfl, hb1⟩
  have hb1 : Below U.heap.size U w1 := ((Below.refl _ _).drew).trans hb1
  have HB1 := Lib.hid hb1
  have HA1 := Lib.hid (HA.out.below hb1)
  cases ho : ceilL l key with
  | none =>
    rw [ho] at HQ
    refine HK.out _ _ ⟨⟨w1, .of_below HB1.out⟩, rfl⟩ ?_
    clear HK K
    simp only [ho, opt, Option.getD_none, Option.getD_some, Option.isSome_none, Option.isSome_some]
    repeat (first | ((with_reducible refine mix_plain (by kernel_rfl) ?_); (first | go_big_quiet_skip | (go_big_quiet_want; go_big_quiet_op; go_big_quiet_on)); (with_reducible refine mix_on ?_)) | ((with_reducible refine mix_skip (by kernel_rfl) ?_); go_big_quiet_skip; (with_reducible refine mix_on ?_)))
    ((with_reducible refine wpMix_chain (by kernel_rfl) (by kernel_rfl) (fun K HK => ?_)); go_step)
    refine (mfound_no w1).mono ?_; rintro _ w2 ⟨rfl, hb2⟩
    obtain ⟨c0, c1, c2, c3, c4, cf⟩ := (HA1.out.below hb2).c
    have HB2 := Lib.hid (HB1.out.trans (hb2.mono HB1.out.size))
    refine HK.out _ _ ⟨⟨w2, .of_below HB2.out⟩, rfl⟩ ?_
    clear HK K hb2 hb1
    repeat (first | ((with_reducible refine mix_plain (by kernel_rfl) ?_); (first | go_big_quiet_skip | (go_big_quiet_want; go_big_quiet_op; go_big_quiet_on)); (with_reducible refine mix_on ?_)) | ((with_reducible refine mix_skip (by kernel_rfl) ?_); go_big_quiet_skip; (with_reducible refine mix_on ?_)))
    ((with_reducible refine wpMix_chain (by kernel_rfl) (by kernel_rfl) (fun K HK => ?_)); go_step)
    refine HK.out _ _ ⟨⟨_, ((((((KX.of_below HB2.out).trans (KX.set (by simp))).trans (KX.set (by simp))).trans (KX.set (by simp))).trans (KX.set (by simp))).trans (KX.set (by simp)))⟩, rfl⟩ ?_
    clear HK K
    repeat (first | ((with_reducible refine mix_plain (by kernel_rfl) ?_); (first | go_big_quiet_skip | (go_big_quiet_want; go_big_quiet_op; go_big_quiet_on)); (with_reducible refine mix_on ?_)) | ((with_reducible refine mix_skip (by kernel_rfl) ?_); go_big_quiet_skip; (with_reducible refine mix_on ?_)))
    refine wpMix_nil ?_
    go_wp2_with fail
    refine bodyPost_ret (v := .agg #[.int .i64 4, .int .i64 0, .int .i64 0, .int .i64 0, .slice none 0 0]) (by simp [results, Tryd.results32, go_sem, c0, c1, c2, c3, c4, World.cell?_setCell_same, World.cell?_setCell_other]) rfl ?_
    rw [HQ.out]
    have hBE := HBE.out
    have HBT := Lib.hid (HBU.out.trans (HB2.out.mono HBU.out.size))
    exact ⟨rfl, by repeat' (first | exact HBT.out | refine below_setB ?_ (by omega))⟩
  | some pr =>
    rw [ho] at HQ
    obtain ⟨kk, vv⟩ := pr
    refine HK.out _ _ ⟨⟨w1, .of_below HB1.out⟩, rfl⟩ ?_
    clear HK K
    simp only [ho, opt, Option.getD_none, Option.getD_some, Option.isSome_none, Option.isSome_some]
    repeat (first | ((with_reducible refine mix_plain (by kernel_rfl) ?_); (first | go_big_quiet_skip | (go_big_quiet_want; go_big_quiet_op; go_big_quiet_on)); (with_reducible refine mix_on ?_)) | ((with_reducible refine mix_skip (by kernel_rfl) ?_); go_big_quiet_skip; (with_reducible refine mix_on ?_)))
    ((with_reducible refine wpMix_chain (by kernel_rfl) (by kernel_rfl) (fun K HK => ?_)); go_step)
    refine (mfound_at kk vv w1).mono ?_; rintro _ w2 ⟨rfl, hb2⟩
    obtain ⟨c0, c1, c2, c3, c4, cf⟩ := (HA1.out.below hb2).c
    have HB2 := Lib.hid (HB1.out.trans (hb2.mono HB1.out.size))
    refine HK.out _ _ ⟨⟨w2, .of_below HB2.out⟩, rfl⟩ ?_
    clear HK K hb2 hb1
    repeat (first | ((with_reducible refine mix_plain (by kernel_rfl) ?_); (first | go_big_quiet_skip | (go_big_quiet_want; go_big_quiet_op; go_big_quiet_on)); (with_reducible refine mix_on ?_)) | ((with_reducible refine mix_skip (by kernel_rfl) ?_); go_big_quiet_skip; (with_reducible refine mix_on ?_)))
    ((with_reducible refine wpMix_chain (by kernel_rfl) (by kernel_rfl) (fun K HK => ?_)); go_step)
    refine HK.out _ _ ⟨⟨_, ((((((KX.of_below HB2.out).trans (KX.set (by simp))).trans (KX.set (by simp))).trans (KX.set (by simp))).trans (KX.set (by simp))).trans (KX.set (by simp)))⟩, rfl⟩ ?_
    clear HK K
    repeat (first | ((with_reducible refine mix_plain (by kernel_rfl) ?_); (first | go_big_quiet_skip | (go_big_quiet_want; go_big_quiet_op; go_big_quiet_on)); (with_reducible refine mix_on ?_)) | ((with_reducible refine mix_skip (by kernel_rfl) ?_); go_big_quiet_skip; (with_reducible refine mix_on ?_)))
    refine wpMix_nil ?_
    go_wp2_with fail
    refine bodyPost_ret (v := .agg #[.int .i64 1, .int .i64 kk, .int .i64 vv, .int .i64 0, .slice none 0 0]) (by simp [results, Tryd.results32, go_sem, c0, c1, c2, c3, c4, World.cell?_setCell_same, World.cell?_setCell_other]) rfl ?_
    rw [HQ.out]
    have hBE := HBE.out
    have HBT := Lib.hid (HBU.out.trans (HB2.out.mono HBU.out.size))
    exact ⟨rfl, by repeat' (first | exact HBT.out | refine below_setB ?_ (by omega))⟩
set_option maxRecDepth 8000 in
set_option maxHeartbeats 2000000 in
theorem mone_at (l : PL) (mv : Value) (S : Nat) (op key val hi lim : Int) (w : World) (hS : w.cell? ⟨S, 0, none⟩ = some mv) (h : PR w mv l) (hr : riseB l = true) (hn : l.length ≤ 90000) (hop : op ≠ 5 ∧ op ≠ 6 ∧ op ≠ 7 ∧ op ≠ 8) :
    Calls Tryd.prog 32 #[.pointer (some ⟨S, 0, none⟩), .agg #[.int .i64 op, .int .i64 key, .int .i64 val, .int .i64 hi, .int .i64 lim]] w fun e w' => e = .returned (fA (atL l key)) ∧ Below w.heap.size w w' := by
  refine Calls.veil fun Q HQ => ?_
  have H := Lib.hid h
  have HR := Lib.hid hr
  have HN := Lib.hid hn
  have HS := Lib.hid hS
  obtain ⟨p, c, rfl, m1, m2⟩ := h.slice
  clear h hr hn
  obtain ⟨o5, o6, o7, o8⟩ := hop
  have o5 := neq_b o5
  have o6 := neq_b o6
  have o7 := neq_b o7
  have o8 := neq_b o8
  go_enter Tryd.func32, Tryd.ntmps32
  go_upto_region 1 with fail
  generalize hU : World.alloc _ _ = U
  have hBU : Below w.heap.size w U := by rw [← hU]; (repeat (first | exact Below.refl _ _ | assumption | refine below_new ?_ _ | refine Below.drew ?_ | refine below_drewN ?_ _ | refine below_on ?_ (by assumption)))
  obtain ⟨B, hB⟩ : ∃ B, B = w.heap.size := ⟨_, rfl⟩
  have e1 : (w.alloc (.cells #[.int .i64 op, .int .i64 key, .int .i64 val, .int .i64 hi, .int .i64 lim] 38)).heap.size = B + 1 := by rw [hB]; simp
  have b1 : Below (B + 1) (w.alloc (.cells #[.int .i64 op, .int .i64 key, .int .i64 val, .int .i64 hi, .int .i64 lim] 38)) U := by
    rw [← hU, ← e1]; (repeat (first | exact Below.refl _ _ | assumption | refine below_new ?_ _ | refine Below.drew ?_ | refine below_drewN ?_ _ | refine below_on ?_ (by assumption)))
  have z0 : U.cell? ⟨B, 0, none⟩ = some (.int .i64 op) := by rw [hB]; exact Ext.made_in rfl (by rw [e1]; exact b1) 0 _ rfl
  have z1 : U.cell? ⟨B, 1, none⟩ = some (.int .i64 key) := by rw [hB]; exact Ext.made_in rfl (by rw [e1]; exact b1) 1 _ rfl
  have HA := Lib.hid (show A5 U (B + 1) by unfold A5; rw [← e1, ← hU]; exact heap_alloc_new _ _)
  have s0 : U.cell? ⟨S, 0, none⟩ = some (.slice p l.length c) := Ext.use (Ext.cells HS.out) hBU
  have HP := Lib.hid (H.out.below hBU)
  have HBU := Lib.hid hBU
  have HSB := Lib.hid (show S < B by rw [hB]; exact World.block_lt_of_cell? w ⟨S, 0, none⟩ HS.out)
  have HBE := Lib.hid hB
  rw [← hB]
  clear hU b1 e1 hBU hB hS
  have s0 : ∀ x : E4 U [B + 1], x.w.cell? ⟨S, 0, none⟩ = some (.slice p l.length c) := E4.cells s0 (by have := HSB.out; simp; omega)
  have z1 : ∀ x : E4 U [B + 1], x.w.cell? ⟨B, 1, none⟩ = some (.int .i64 key) := E4.cells z1 (by simp)
  go_upto_region 10 with fail
  (with_reducible refine wp_region_mix (fun w' => ∃ x : E4 U [B + 1], w' = x.w) ?_ ?_ ?_ ?_; kernel_rfl; kernel_rfl; exact ⟨⟨U.drew, .of_below (Below.refl _ _).drew⟩, rfl⟩)
  repeat (first | ((with_reducible refine mix_plain (by kernel_rfl) ?_); (first | go_big_quiet_skip | (go_big_quiet_want; go_big_quiet_op; go_big_quiet_on)); (with_reducible refine mix_on ?_)) | ((with_reducible refine mix_skip (by kernel_rfl) ?_); go_big_quiet_skip; (with_reducible refine mix_on ?_)))
  ((with_reducible refine wpMix_chain (by kernel_rfl) (by kernel_rfl) (fun K HK => ?_)); go_step)
  refine (mat l _ key U.drew (HP.out.below (Below.refl _ _).drew) HR.out (by have := HN.out; omega)).mono ?_; rintro _ w1 ⟨rfl, hb1⟩
  have hb1 : Below U.heap.size U w1 := ((Below.refl _ _).drew).trans hb1
  have HB1 := Lib.hid hb1
  have HA1 := Lib.hid (HA.out.below hb1)
  obtain ⟨an, hoa⟩ : ∃ an, an = foundA (atL l key) := ⟨_, rfl⟩
  have HOA := Lib.hid hoa
  unfold fA
  rw [← hoa]
  unfold anV
  obtain ⟨c0, c1, c2, c3, c4, cf⟩ := HA1.out.c
  refine HK.out _ _ ⟨⟨w1, .of_below HB1.out⟩, rfl⟩ ?_
  clear HK K hb1 hoa
  repeat (first | ((with_reducible refine mix_plain (by kernel_rfl) ?_); (first | go_big_quiet_skip | (go_big_quiet_want; go_big_quiet_op; go_big_quiet_on)); (with_reducible refine mix_on ?_)) | ((with_reducible refine mix_skip (by kernel_rfl) ?_); go_big_quiet_skip; (with_reducible refine mix_on ?_)))
  ((with_reducible refine wpMix_chain (by kernel_rfl) (by kernel_rfl) (fun K HK => ?_)); go_step)
  refine HK.out _ _ ⟨⟨_, ((((((KX.of_below HB1.out).trans (KX.set (by simp))).trans (KX.set (by simp))).trans (KX.set (by simp))).trans (KX.set (by simp))).trans (KX.set (by simp)))⟩, rfl⟩ ?_
  clear HK K
  repeat (first | ((with_reducible refine mix_plain (by kernel_rfl) ?_); (first | go_big_quiet_skip | (go_big_quiet_want; go_big_quiet_op; go_big_quiet_on)); (with_reducible refine mix_on ?_)) | ((with_reducible refine mix_skip (by kernel_rfl) ?_); go_big_quiet_skip; (with_reducible refine mix_on ?_)))
  refine wpMix_nil ?_
  go_wp2_with fail
  refine bodyPost_ret (v := .agg #[.int .i64 an.kind, .int .i64 an.key, .int .i64 an.val, .int .i64 an.n, .slice none 0 0]) (by simp [results, Tryd.results32, go_sem, c0, c1, c2, c3, c4, World.cell?_setCell_same, World.cell?_setCell_other]) rfl ?_
  rw [HQ.out, HOA.out]
  have hBE := HBE.out
  have HBT := Lib.hid (HBU.out.trans (HB1.out.mono HBU.out.size))
  exact ⟨rfl, by repeat' (first | exact HBT.out | refine below_setB ?_ (by omega))⟩
theorem mone (l : PL) (mv : Value) (S : Nat) (c : Ca) (w : World) (hS : w.cell? ⟨S, 0, none⟩ = some mv) (h : PR w mv l) (hr : riseB l = true) (hn : l.length ≤ 90000) :
    Calls Tryd.prog 32 #[.pointer (some ⟨S, 0, none⟩), caV c] w fun e w' => e = .returned (fA (oneA l c)) ∧ Below w.heap.size w w' := by
  obtain ⟨op, key, val, hi, lim⟩ := c
  unfold oneA caV
  simp only
  by_cases o5 : op = 5
  · subst o5; exact mone_min l mv S 5 key val hi lim w hS h hr hn trivial
  by_cases o6 : op = 6
  · subst o6; exact mone_max l mv S 6 key val hi lim w hS h hr hn trivial
  by_cases o7 : op = 7
  · subst o7; exact mone_floor l mv S 7 key val hi lim w hS h hr hn trivial
  by_cases o8 : op = 8
  · subst o8; exact mone_ceil l mv S 8 key val hi lim w hS h hr hn trivial
  rw [if_neg o5, if_neg o6, if_neg o7, if_neg o8]
  exact mone_at l mv S op key val hi lim w hS h hr hn ⟨o5, o6, o7, o8⟩
end Go.Proofs.YtkgfhomoipbjoaaDoor
