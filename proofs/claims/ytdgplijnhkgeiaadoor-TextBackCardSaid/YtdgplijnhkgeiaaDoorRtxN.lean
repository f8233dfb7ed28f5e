/- Layer 35, reading: an answer, read: the ways without numbers. (By gen_rtxl.py.) -/
import Derived.Test.YtdgplijnhkgeiaaDoorRtxM
namespace Go.Proofs.YtdgplijnhkgeiaaDoor
open Go.RowKit
open Go.Lib (cut itoa)
set_option linter.unusedVariables false
set_option linter.unusedSimpArgs false
set_option maxRecDepth 16000 in
set_option maxHeartbeats 4000000 in
theorem toanswer_1 (s : List UInt8) (hd : List UInt8) (tl : List (List UInt8)) (w : World) (hs : s.length ≤ 10000) (hv : VB w.heap.size w) (hws : splitL 32 s = hd :: tl) (x y : List UInt8) (hk : kdI ⟨hd.toArray⟩ = some 1) (h0 : tl = [x, y]) :
    Calls Tryd.prog 26 #[tx s] w fun e w' => (e = match numOf x, numOf y with | some a, some b => .returned (.agg (ancells ⟨1, a, b, 0, []⟩ (.slice none 0 0)).toArray) | _, _ => wrP 4) ∧ Below w.heap.size w w' := by
  refine Calls.veil fun Q HQ => ?_
  have HS : Hid (∀ W, Calls Tryd.prog 39 #[tx s] W fun e w' => ∃ rv, e = .returned (.tuple #[tx hd, rv]) ∧ SR w' rv tl ∧ Below W.heap.size W w') := Lib.hid (fun W => by have h := tsplit s W hs; rw [hws] at h; exact h)
  have HWL := Lib.hid (show ∀ x ∈ tl, x.length ≤ 10000 from fun x hx => Nat.le_trans (splitL_word 32 s x (by rw [hws]; exact List.mem_cons_of_mem _ hx)) hs)
  have HLN := Lib.hid (show tl.length ≤ 10000 by have h := splitL_len 32 s; rw [hws] at h; simp at h; omega)
  have HV := Lib.hid hv
  have HK := Lib.hid hk
  clear hk
  subst h0
  clear hs hv hws
  go_enter Tryd.func26, Tryd.ntmps26
  go_wp2_with fail
  generalize hVV : World.alloc w _ = V
  have HBV := Lib.hid (show Below w.heap.size w V ∧ V.heap[w.heap.size]? = some (.cells (ancells ⟨0, 0, 0, 0, []⟩ (.slice none 0 0)).toArray 33 (0, 0)) from ⟨by rw [← hVV]; exact below_new (Below.refl _ _) _, by rw [← hVV]; exact World.alloc_heap_new w _⟩)
  clear hVV
  refine (HS.out V).mono ?_; rintro _ w1 ⟨rv, rfl, hr, hb⟩
  have HB := Lib.hid (below_on HBV.out.1 hb)
  have HX1 := Lib.hid (upk hb HBV.out.2)
  obtain ⟨rp, rc, rfl, hr2, hr3, hr4⟩ := hr
  have HR4 := Lib.hid hr4
  clear hr4 hb
  go_wp2_with fail
  have TK := tkind ⟨hd.toArray⟩ w1
  rw [HK.out] at TK
  refine TK.mono ?_; rintro _ w2 ⟨rfl, hb⟩
  have HB2 := Lib.hid (below_on HB.out hb)
  have HB2' := Lib.hid hb
  have HX2 := Lib.hid (upk hb HX1.out)
  clear hb TK
  go_wp2_with fail
  generalize hVV : World.alloc w2 _ = V3
  have HX3 := Lib.hid (show V3.heap[w2.heap.size]? = some (.cells (ancells ⟨1, 0, 0, 0, []⟩ (.slice none 0 0)).toArray 33 (0, 0)) ∧ Below w2.heap.size w2 V3 ∧ V3.heap.size = w2.heap.size + 1 by
    rw [← hVV]; exact ⟨World.alloc_heap_new w2 _, below_new (Below.refl _ _) _, by simp⟩)
  clear hVV
  have TM := tmany (.slice rp 2 rc) rp 2 rc 2 V3 rfl (by have := HLN.out; omega)
  rw [if_pos (show ((2 : Nat) : Int) = 2 from rfl)] at TM
  refine TM.mono ?_; rintro _ wr ⟨rfl, hb⟩
  have HBW := Lib.hid (show Below w.heap.size w wr from HB2.out.trans (HX3.out.2.1.mono HB2.out.size |>.trans (hb.mono (by have := HX3.out.2.2; have := HB2.out.size; omega))))
  have hcc := upk hb HX3.out.1
  have hr := upk hb (by rw [HX3.out.2.1.block _ (Array.getElem?_eq_some_iff.1 HX2.out).1]; exact HX2.out)
  have hb0 := hb
  clear hb TM
  have hb12 := (HB2'.out.trans ((HX3.out.2.1.mono HB2'.out.size).trans (hb0.mono (by have := HX3.out.2.2; have := HB2'.out.size; omega))))
  obtain ⟨g2, o2, rfl, c0⟩ := HR4.out 0 x rfl
  have c0 : wr.cell? ⟨g2, o2, none⟩ = some (tx x) := Ext.cell ⟨wr, hb12⟩ c0
  have c1 : wr.cell? ⟨g2, o2 + 1, none⟩ = some (tx y) := by
    obtain ⟨g3, o3, e3, d0⟩ := HR4.out 1 y rfl
    cases e3
    exact Ext.cell ⟨wr, hb12⟩ d0
  have HX3S := Lib.hid (show w2.heap.size ≠ w.heap.size by have := (Array.getElem?_eq_some_iff.1 HX2.out).1; omega)
  have HCL := Lib.hid (show w.heap.size ≤ w2.heap.size from HB2.out.size)
  generalize w2.heap.size = C at *
  have HRR := Lib.hid hr
  have HCC := Lib.hid hcc
  have HBW := Lib.hid HBW
  clear hr hcc hb12 hb0
  go_wp2_with fail
  have HL1 := Lib.hid (show ∀ W, Below wr.heap.size wr W → (Instr.loadAt 9 (.pointer (some ⟨g2, o2, none⟩))).run Tryd.prog W = .ok (tx x) W from fun W h => by
    have y0 := Ext.cell ⟨W, h⟩ c0
    simp only at y0
    clear c0 c1
    go_simp)
  have HL2 := Lib.hid (show ∀ W, Below wr.heap.size wr W → (Instr.loadAt 9 (.pointer (some ⟨g2, o2 + 1, none⟩))).run Tryd.prog W = .ok (tx y) W from fun W h => by
    have y0 := Ext.cell ⟨W, h⟩ c1
    simp only at y0
    clear c0 c1
    go_simp)
  clear c0 c1
  refine wp_region_K (fun W => Below wr.heap.size wr W) 9 (by decide +kernel) ?_
  (refine wpAnyK_takeY (i := 0) (v := ?_) rfl (by decide +kernel) (by decide +kernel) (by decide +kernel) (by decide) (fun _ _ _ h => h) (Or.inl ⟨by rfl, ?_⟩) (.inr ((Below.refl _ _).drew)) ?_; rotate_left; (intro w; go_simp); (try with_reducible rfl))
  (try simp only [List.getElem_toArray, List.getElem_cons_succ, List.getElem_cons_zero, Act.put, List.setIfInBounds_toArray, List.set_cons_succ, List.set_cons_zero])
  (refine wpAnyK_takeY (i := 1) (v := ?_) rfl (by decide +kernel) (by decide +kernel) (by decide +kernel) (by decide) (fun _ _ _ h => h) (Or.inl ⟨by rfl, ?_⟩) (.inr ((Below.refl _ _).drew)) ?_; rotate_left; (intro w; go_simp); (try with_reducible rfl))
  (try simp only [List.getElem_toArray, List.getElem_cons_succ, List.getElem_cons_zero, Act.put, List.setIfInBounds_toArray, List.set_cons_succ, List.set_cons_zero])
  (refine wpAnyK_take (i := 2) (v := tx x) [3, 9] rfl (by decide +kernel) (by decide +kernel) (by decide +kernel) (by decide +kernel) (fun _ _ _ h => h) (yields_loadK rfl 9 (.tmp 25) rfl rfl HL1.out) ((Below.refl _ _).drew) ?_)
  (try simp only [List.getElem_toArray, List.getElem_cons_succ, List.getElem_cons_zero, Act.put, List.setIfInBounds_toArray, List.set_cons_succ, List.set_cons_zero])
  (refine wpAnyK_takeY (i := 4) (v := ?_) rfl (by decide +kernel) (by decide +kernel) (by decide +kernel) (by decide) (fun _ _ _ h => h) (Or.inl ⟨by rfl, ?_⟩) (.inr ((Below.refl _ _).drew)) ?_; rotate_left; (intro w; go_simp); (try with_reducible rfl))
  (try simp only [List.getElem_toArray, List.getElem_cons_succ, List.getElem_cons_zero, Act.put, List.setIfInBounds_toArray, List.set_cons_succ, List.set_cons_zero])
  (refine wpAnyK_takeY (i := 5) (v := ?_) rfl (by decide +kernel) (by decide +kernel) (by decide +kernel) (by decide) (fun _ _ _ h => h) (Or.inl ⟨by rfl, ?_⟩) (.inr ((Below.refl _ _).drew)) ?_; rotate_left; (intro w; go_simp); (try with_reducible rfl))
  (try simp only [List.getElem_toArray, List.getElem_cons_succ, List.getElem_cons_zero, Act.put, List.setIfInBounds_toArray, List.set_cons_succ, List.set_cons_zero])
  (refine wpAnyK_take (i := 6) (v := tx y) [7, 9] rfl (by decide +kernel) (by decide +kernel) (by decide +kernel) (by decide +kernel) (fun _ _ _ h => h) (yields_loadK rfl 9 (.tmp 29) rfl rfl HL2.out) ((Below.refl _ _).drew) ?_)
  (try simp only [List.getElem_toArray, List.getElem_cons_succ, List.getElem_cons_zero, Act.put, List.setIfInBounds_toArray, List.set_cons_succ, List.set_cons_zero])
  refine wpAnyK_ready (rs := [3]) (by decide +kernel) (by simp) ?_
  refine (AllReadyK.cons rfl (fun K hK => ?_) AllReadyK.nil)
  refine step_of rfl ?_
  go_step
  have HBD := Lib.hid (show Below w.heap.size w wr.drew from HBW.out.drew)
  cases hn : numOf x with
  | none =>
    refine (tnumber_no x w.heap.size wr.drew (numOf_not hn) (by have := HWL.out x (by simp); omega) (HV.out.below HBD.out) HBD.out.size).mono ?_; rintro _ wn ⟨rfl, hbn⟩
    show bodyPost Tryd.prog Tryd.f26 Q (Exit.panic _) _ wn
    refine ⟨rfl, ?_⟩
    rw [HQ.out]
    exact ⟨by rw [hn], below_on HBD.out hbn⟩
  | some a =>
    refine (tnumber x a w.heap.size wr.drew (numOf_is hn) (by have := HWL.out x (by simp); omega) (HV.out.below HBD.out) HBD.out.size).mono ?_; rintro _ wn ⟨rfl, hbn⟩
    have HNN := Lib.hid hn
    have HBN := Lib.hid (below_on HBD.out hbn)
    have HBR := Lib.hid (show Below wr.heap.size wr wn from (Below.refl _ _).drew.trans hbn)
    clear hn hbn
    refine hK _ _ (.inr HBR.out) ?_
    clear hK K
    (refine wpAnyK_takeY (i := 8) (v := ?_) rfl (by decide +kernel) (by decide +kernel) (by decide +kernel) (by decide) (fun _ _ _ h => h) (Or.inl ⟨by rfl, ?_⟩) (.inr HBR.out) ?_; rotate_left; (intro w; go_simp); (try with_reducible rfl))
    (try simp only [List.getElem_toArray, List.getElem_cons_succ, List.getElem_cons_zero, Act.put, List.setIfInBounds_toArray, List.set_cons_succ, List.set_cons_zero])
    refine wpAnyK_ready (rs := [7]) (by decide +kernel) (by simp) ?_
    refine (AllReadyK.cons rfl (fun K hK => ?_) AllReadyK.nil)
    refine step_of rfl ?_
    go_step
    cases hn : numOf y with
    | none =>
      refine (tnumber_no y w.heap.size wn (numOf_not hn) (by have := HWL.out y (by simp); omega) (HV.out.below HBN.out) HBN.out.size).mono ?_; rintro _ wp ⟨rfl, hbn⟩
      show bodyPost Tryd.prog Tryd.f26 Q (Exit.panic _) _ wp
      refine ⟨rfl, ?_⟩
      rw [HQ.out]
      exact ⟨by rw [HNN.out, hn], below_on HBN.out hbn⟩
    | some b =>
      refine (tnumber y b w.heap.size wn (numOf_is hn) (by have := HWL.out y (by simp); omega) (HV.out.below HBN.out) HBN.out.size).mono ?_; rintro _ wp ⟨rfl, hbn⟩
      have HNY := Lib.hid hn
      have HBP := Lib.hid (below_on HBN.out hbn)
      have HBQ := Lib.hid (below_on HBR.out hbn)
      clear hn hbn
      refine hK _ _ (.inr HBQ.out) ?_
      clear hK K
      have HCP := Lib.hid (upk HBQ.out HCC.out)
      have HRP := Lib.hid (upk HBQ.out HRR.out)
      have hcp := HCP.out
      have x0 : wp.cell? ⟨C, 0, none⟩ = some (.int .i64 1) := by simp [World.cell?, hcp, ancells]
      have x1 : wp.cell? ⟨C, 1, none⟩ = some (.int .i64 0) := by simp [World.cell?, hcp, ancells]
      have x2 : wp.cell? ⟨C, 2, none⟩ = some (.int .i64 0) := by simp [World.cell?, hcp, ancells]
      have x3 : wp.cell? ⟨C, 3, none⟩ = some (.int .i64 0) := by simp [World.cell?, hcp, ancells]
      have x4 : wp.cell? ⟨C, 4, none⟩ = some (.slice none 0 0) := by simp [World.cell?, hcp, ancells]
      have xf0 : wp.frozen? ⟨C, 0, none⟩ = false := by simp [World.frozen?, hcp]
      have xf1 : wp.frozen? ⟨C, 1, none⟩ = false := by simp [World.frozen?, hcp]
      have xf2 : wp.frozen? ⟨C, 2, none⟩ = false := by simp [World.frozen?, hcp]
      have xf3 : wp.frozen? ⟨C, 3, none⟩ = false := by simp [World.frozen?, hcp]
      have xf4 : wp.frozen? ⟨C, 4, none⟩ = false := by simp [World.frozen?, hcp]
      clear hcp
      refine wpAnyK_ready (rs := [9]) (by decide +kernel) (by simp) ?_
      refine (AllReadyK.cons rfl (fun K hK => ?_) AllReadyK.nil)
      refine step_of rfl ?_
      go_step
      refine hK _ _ (.inl rfl) ?_
      clear hK K
      (refine wpAnyK_takeY (i := 10) (v := ?_) rfl (by decide +kernel) (by decide +kernel) (by decide +kernel) (by decide) (fun _ _ _ h => h) (Or.inl ⟨by rfl, ?_⟩) (.inl rfl) ?_; rotate_left; (intro w; go_simp); (try with_reducible rfl))
      (try simp only [List.getElem_toArray, List.getElem_cons_succ, List.getElem_cons_zero, Act.put, List.setIfInBounds_toArray, List.set_cons_succ, List.set_cons_zero])
      refine wpAnyK_ready (rs := [11]) (by decide +kernel) (by simp) ?_
      refine (AllReadyK.cons rfl (fun K hK => ?_) AllReadyK.nil)
      refine step_of rfl ?_
      go_step
      refine hK _ _ (.inl rfl) ?_
      clear hK K
      refine wpAnyK_done (by decide +kernel) ?_ _
      clear x0 x1 x2 x3 x4 xf0 xf1 xf2 xf3 xf4
      generalize hW5 : World.setCell _ _ _ = w5
      have HB5 := Lib.hid (show Below w.heap.size w w5 by
        rw [← hW5]; exact (HBP.out.setCell (p := ⟨C, 1, none⟩) HCL.out _).setCell (p := ⟨C, 2, none⟩) HCL.out _)
      have hcn : w5.heap[C]? = some (.cells (ancells ⟨1, a, b, 0, []⟩ (.slice none 0 0)).toArray 33 (0, 0)) := by
        rw [← hW5]; exact heap_setCell_same _ _ 2 _ _ _ (heap_setCell_same _ _ 1 _ _ _ HCP.out)
      have hrn : w5.heap[w.heap.size]? = some (.cells (ancells ⟨0, 0, 0, 0, []⟩ (.slice none 0 0)).toArray 33 (0, 0)) := by
        rw [← hW5]; exact (heap_setCell_other _ _ _ _ (fun e => HX3S.out e.symm)).trans ((heap_setCell_other _ _ _ _ (fun e => HX3S.out e.symm)).trans HRP.out)
      have HRN := Lib.hid hrn
      clear hW5
      have x0 : w5.cell? ⟨C, 0, none⟩ = some (.int .i64 1) := by simp [World.cell?, hcn, ancells]
      have x1 : w5.cell? ⟨C, 1, none⟩ = some (.int .i64 a) := by simp [World.cell?, hcn, ancells]
      have x2 : w5.cell? ⟨C, 2, none⟩ = some (.int .i64 b) := by simp [World.cell?, hcn, ancells]
      have x3 : w5.cell? ⟨C, 3, none⟩ = some (.int .i64 0) := by simp [World.cell?, hcn, ancells]
      have x4 : w5.cell? ⟨C, 4, none⟩ = some (.slice none 0 0) := by simp [World.cell?, hcn, ancells]
      have xf0 : w5.frozen? ⟨C, 0, none⟩ = false := by simp [World.frozen?, hcn]
      have xf1 : w5.frozen? ⟨C, 1, none⟩ = false := by simp [World.frozen?, hcn]
      have xf2 : w5.frozen? ⟨C, 2, none⟩ = false := by simp [World.frozen?, hcn]
      have xf3 : w5.frozen? ⟨C, 3, none⟩ = false := by simp [World.frozen?, hcn]
      have xf4 : w5.frozen? ⟨C, 4, none⟩ = false := by simp [World.frozen?, hcn]
      have y0 : w5.cell? ⟨w.heap.size, 0, none⟩ = some (.int .i64 0) := by simp [World.cell?, hrn, ancells]
      have y1 : w5.cell? ⟨w.heap.size, 1, none⟩ = some (.int .i64 0) := by simp [World.cell?, hrn, ancells]
      have y2 : w5.cell? ⟨w.heap.size, 2, none⟩ = some (.int .i64 0) := by simp [World.cell?, hrn, ancells]
      have y3 : w5.cell? ⟨w.heap.size, 3, none⟩ = some (.int .i64 0) := by simp [World.cell?, hrn, ancells]
      have y4 : w5.cell? ⟨w.heap.size, 4, none⟩ = some (.slice none 0 0) := by simp [World.cell?, hrn, ancells]
      have yf0 : w5.frozen? ⟨w.heap.size, 0, none⟩ = false := by simp [World.frozen?, hrn]
      have yf1 : w5.frozen? ⟨w.heap.size, 1, none⟩ = false := by simp [World.frozen?, hrn]
      have yf2 : w5.frozen? ⟨w.heap.size, 2, none⟩ = false := by simp [World.frozen?, hrn]
      have yf3 : w5.frozen? ⟨w.heap.size, 3, none⟩ = false := by simp [World.frozen?, hrn]
      have yf4 : w5.frozen? ⟨w.heap.size, 4, none⟩ = false := by simp [World.frozen?, hrn]
      clear hcn hrn
      go_wp2_with fail
      generalize hW6 : World.setCell _ _ _ = w6
      have H6 := Lib.hid (show w6 = putA w5 w.heap.size ⟨1, a, b, 0, []⟩ (.slice none 0 0) from hW6.symm)
      clear hW6
      have hrw : w5.heap[w.heap.size]? = some (.cells (ancells ⟨0, 0, 0, 0, []⟩ (.slice none 0 0)).toArray 33 (0, 0)) := (rfl).trans HRN.out
      have h6 : w6.heap[w.heap.size]? = some (.cells (ancells ⟨1, a, b, 0, []⟩ (.slice none 0 0)).toArray 33 (0, 0)) := by rw [H6.out]; exact putA_at _ _ hrw
      have z0 : w6.cell? ⟨w.heap.size, 0, none⟩ = some (.int .i64 1) := by simp [World.cell?, h6, ancells]
      have z1 : w6.cell? ⟨w.heap.size, 1, none⟩ = some (.int .i64 a) := by simp [World.cell?, h6, ancells]
      have z2 : w6.cell? ⟨w.heap.size, 2, none⟩ = some (.int .i64 b) := by simp [World.cell?, h6, ancells]
      have z3 : w6.cell? ⟨w.heap.size, 3, none⟩ = some (.int .i64 0) := by simp [World.cell?, h6, ancells]
      have z4 : w6.cell? ⟨w.heap.size, 4, none⟩ = some (.slice none 0 0) := by simp [World.cell?, h6, ancells]
      refine bodyPost_ret (v := .agg #[.int .i64 1, .int .i64 a, .int .i64 b, .int .i64 0, .slice none 0 0]) (by simp [results, Tryd.results26, go_sem, z0, z1, z2, z3, z4]) rfl ?_
      have hb6 : Below w.heap.size w w6 := by rw [H6.out]; exact (HB5.out).trans (putA_below _ _ _ _ (Nat.le_refl _))
      rw [HQ.out]
      exact ⟨by rw [HNN.out, HNY.out]; rfl, hb6⟩
end Go.Proofs.YtdgplijnhkgeiaaDoor
