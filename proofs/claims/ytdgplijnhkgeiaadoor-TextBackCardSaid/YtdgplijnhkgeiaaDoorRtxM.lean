/- Layer 35, reading: an answer, read: the ways without numbers. (By gen_rtxl.py.) -/
import Derived.Test.YtdgplijnhkgeiaaDoorRtxL
namespace Go.Proofs.YtdgplijnhkgeiaaDoor
open Go.RowKit
open Go.Lib (cut itoa)
set_option linter.unusedVariables false
set_option linter.unusedSimpArgs false
set_option maxRecDepth 16000 in
set_option maxHeartbeats 4000000 in
theorem toanswer_2 (s : List UInt8) (hd : List UInt8) (tl : List (List UInt8)) (w : World) (hs : s.length ≤ 10000) (hv : VB w.heap.size w) (hws : splitL 32 s = hd :: tl) (x : List UInt8) (hk : kdI ⟨hd.toArray⟩ = some 2) (h0 : tl = [x]) :
    Calls Tryd.prog 26 #[tx s] w fun e w' => (e = match numOf x with | some a => .returned (.agg (ancells ⟨2, 0, 0, a, []⟩ (.slice none 0 0)).toArray) | none => wrP 4) ∧ Below w.heap.size w w' := by
  refine Calls.veil fun Q HQ => ?_
  have HS : Hid (∀ W, Calls Tryd.prog 39 #[tx s] W fun e w' => ∃ rv, e = .returned (.tuple #[tx hd, rv]) ∧ SR w' rv tl ∧ Below W.heap.size W w') := Lib.hid (fun W => by have h := tsplit s W hs; rw [hws] at h; exact h)
  have HWL := Lib.hid (show ∀ x ∈ tl, x.length ≤ 10000 from fun x hx => Nat.le_trans (splitL_word 32 s x (by rw [hws]; exact List.mem_cons_of_mem _ hx)) hs)
  have HLN := Lib.hid (show tl.length ≤ 10000 by have h := splitL_len 32 s; rw [hws] at h; simp at h; omega)
  have HV := Lib.hid hv
  have HK := Lib.hid hk
  clear hk
  subst h0
  clear hs hv hws
  go_enter Tryd.func26, Tryd.ntmps26
  go_wp2_with fail
  generalize hVV : World.alloc w _ = V
  have HBV := Lib.hid (show Below w.heap.size w V ∧ V.heap[w.heap.size]? = some (.cells (ancells ⟨0, 0, 0, 0, []⟩ (.slice none 0 0)).toArray 33 (0, 0)) from ⟨by rw [← hVV]; exact below_new (Below.refl _ _) _, by rw [← hVV]; exact World.alloc_heap_new w _⟩)
  clear hVV
  refine (HS.out V).mono ?_; rintro _ w1 ⟨rv, rfl, hr, hb⟩
  have HB := Lib.hid (below_on HBV.out.1 hb)
  have HX1 := Lib.hid (upk hb HBV.out.2)
  obtain ⟨rp, rc, rfl, hr2, hr3, hr4⟩ := hr
  have HR4 := Lib.hid hr4
  clear hr4 hb
  go_wp2_with fail
  have TK := tkind ⟨hd.toArray⟩ w1
  rw [HK.out] at TK
  refine TK.mono ?_; rintro _ w2 ⟨rfl, hb⟩
  have HB2 := Lib.hid (below_on HB.out hb)
  have HB2' := Lib.hid hb
  have HX2 := Lib.hid (upk hb HX1.out)
  clear hb TK
  go_wp2_with fail
  generalize hVV : World.alloc w2 _ = V3
  have HX3 := Lib.hid (show V3.heap[w2.heap.size]? = some (.cells (ancells ⟨2, 0, 0, 0, []⟩ (.slice none 0 0)).toArray 33 (0, 0)) ∧ Below w2.heap.size w2 V3 ∧ V3.heap.size = w2.heap.size + 1 by
    rw [← hVV]; exact ⟨World.alloc_heap_new w2 _, below_new (Below.refl _ _) _, by simp⟩)
  clear hVV
  have TM := tmany (.slice rp 1 rc) rp 1 rc 1 V3 rfl (by have := HLN.out; omega)
  rw [if_pos (show ((1 : Nat) : Int) = 1 from rfl)] at TM
  refine TM.mono ?_; rintro _ wr ⟨rfl, hb⟩
  have HBW := Lib.hid (show Below w.heap.size w wr from HB2.out.trans (HX3.out.2.1.mono HB2.out.size |>.trans (hb.mono (by have := HX3.out.2.2; have := HB2.out.size; omega))))
  have hcc := upk hb HX3.out.1
  have hr := upk hb (by rw [HX3.out.2.1.block _ (Array.getElem?_eq_some_iff.1 HX2.out).1]; exact HX2.out)
  have hb0 := hb
  clear hb TM
  have hb12 := (HB2'.out.trans ((HX3.out.2.1.mono HB2'.out.size).trans (hb0.mono (by have := HX3.out.2.2; have := HB2'.out.size; omega))))
  obtain ⟨g2, o2, rfl, c0⟩ := HR4.out 0 x rfl
  have c0 : wr.cell? ⟨g2, o2, none⟩ = some (tx x) := Ext.cell ⟨wr, hb12⟩ c0
  have HX3S := Lib.hid (show w2.heap.size ≠ w.heap.size by have := (Array.getElem?_eq_some_iff.1 HX2.out).1; omega)
  have HCL := Lib.hid (show w.heap.size ≤ w2.heap.size from HB2.out.size)
  generalize w2.heap.size = C at *
  have HRR := Lib.hid hr
  have HCC := Lib.hid hcc
  have HBW := Lib.hid HBW
  clear hr hcc hb12 hb0
  cases hn : numOf x with
  | none =>
    go_wp2_with fail
    refine (tnumber_no x w.heap.size wr (numOf_not hn) (by have := HWL.out x (by simp); omega) (HV.out.below HBW.out) HBW.out.size).mono ?_; rintro _ wn ⟨rfl, hbn⟩
    show bodyPost Tryd.prog Tryd.f26 Q (Exit.panic _) _ wn
    refine ⟨rfl, ?_⟩
    rw [HQ.out]
    exact ⟨by rw [hn], below_on HBW.out hbn⟩
  | some a =>
    go_wp2_with fail
    refine (tnumber x a w.heap.size wr (numOf_is hn) (by have := HWL.out x (by simp); omega) (HV.out.below HBW.out) HBW.out.size).mono ?_; rintro _ wn ⟨rfl, hbn⟩
    have hw1 : wrap64 a = a := wrap_id (numOf_is hn).1
    have hw2 : IntKind.i64.wrap a = a := wrapi_id (numOf_is hn).1
    have HBN := Lib.hid (below_on HBW.out hbn)
    have HCN := Lib.hid (upk hbn HCC.out)
    have HRN := Lib.hid (upk hbn HRR.out)
    have HNN := Lib.hid hn
    have hcn := HCN.out
    have hrn := HRN.out
    have hne : C ≠ w.heap.size := HX3S.out
    have hne' : w.heap.size ≠ C := fun e => HX3S.out e.symm
    have x0 : wn.cell? ⟨C, 0, none⟩ = some (.int .i64 2) := by simp [World.cell?, hcn, ancells]
    have x1 : wn.cell? ⟨C, 1, none⟩ = some (.int .i64 0) := by simp [World.cell?, hcn, ancells]
    have x2 : wn.cell? ⟨C, 2, none⟩ = some (.int .i64 0) := by simp [World.cell?, hcn, ancells]
    have x3 : wn.cell? ⟨C, 3, none⟩ = some (.int .i64 0) := by simp [World.cell?, hcn, ancells]
    have x4 : wn.cell? ⟨C, 4, none⟩ = some (.slice none 0 0) := by simp [World.cell?, hcn, ancells]
    have xf0 : wn.frozen? ⟨C, 0, none⟩ = false := by simp [World.frozen?, hcn]
    have xf1 : wn.frozen? ⟨C, 1, none⟩ = false := by simp [World.frozen?, hcn]
    have xf2 : wn.frozen? ⟨C, 2, none⟩ = false := by simp [World.frozen?, hcn]
    have xf3 : wn.frozen? ⟨C, 3, none⟩ = false := by simp [World.frozen?, hcn]
    have xf4 : wn.frozen? ⟨C, 4, none⟩ = false := by simp [World.frozen?, hcn]
    have y0 : wn.cell? ⟨w.heap.size, 0, none⟩ = some (.int .i64 0) := by simp [World.cell?, hrn, ancells]
    have y1 : wn.cell? ⟨w.heap.size, 1, none⟩ = some (.int .i64 0) := by simp [World.cell?, hrn, ancells]
    have y2 : wn.cell? ⟨w.heap.size, 2, none⟩ = some (.int .i64 0) := by simp [World.cell?, hrn, ancells]
    have y3 : wn.cell? ⟨w.heap.size, 3, none⟩ = some (.int .i64 0) := by simp [World.cell?, hrn, ancells]
    have y4 : wn.cell? ⟨w.heap.size, 4, none⟩ = some (.slice none 0 0) := by simp [World.cell?, hrn, ancells]
    have yf0 : wn.frozen? ⟨w.heap.size, 0, none⟩ = false := by simp [World.frozen?, hrn]
    have yf1 : wn.frozen? ⟨w.heap.size, 1, none⟩ = false := by simp [World.frozen?, hrn]
    have yf2 : wn.frozen? ⟨w.heap.size, 2, none⟩ = false := by simp [World.frozen?, hrn]
    have yf3 : wn.frozen? ⟨w.heap.size, 3, none⟩ = false := by simp [World.frozen?, hrn]
    have yf4 : wn.frozen? ⟨w.heap.size, 4, none⟩ = false := by simp [World.frozen?, hrn]
    clear hcn hrn hbn c0 hn
    go_wp2_with fail
    generalize hW6 : World.setCell _ _ _ = w6
    have H6 := Lib.hid (show w6 = putA (wn.setCell ⟨C, 3, none⟩ (.int .i64 a)) w.heap.size ⟨2, 0, 0, a, []⟩ (.slice none 0 0) from hW6.symm)
    clear hW6
    have hrw : (wn.setCell ⟨C, 3, none⟩ (.int .i64 a)).heap[w.heap.size]? = some (.cells (ancells ⟨0, 0, 0, 0, []⟩ (.slice none 0 0)).toArray 33 (0, 0)) := (heap_setCell_other _ _ _ _ hne').trans HRN.out
    have h6 : w6.heap[w.heap.size]? = some (.cells (ancells ⟨2, 0, 0, a, []⟩ (.slice none 0 0)).toArray 33 (0, 0)) := by rw [H6.out]; exact putA_at _ _ hrw
    have z0 : w6.cell? ⟨w.heap.size, 0, none⟩ = some (.int .i64 2) := by simp [World.cell?, h6, ancells]
    have z1 : w6.cell? ⟨w.heap.size, 1, none⟩ = some (.int .i64 0) := by simp [World.cell?, h6, ancells]
    have z2 : w6.cell? ⟨w.heap.size, 2, none⟩ = some (.int .i64 0) := by simp [World.cell?, h6, ancells]
    have z3 : w6.cell? ⟨w.heap.size, 3, none⟩ = some (.int .i64 a) := by simp [World.cell?, h6, ancells]
    have z4 : w6.cell? ⟨w.heap.size, 4, none⟩ = some (.slice none 0 0) := by simp [World.cell?, h6, ancells]
    refine bodyPost_ret (v := .agg #[.int .i64 2, .int .i64 0, .int .i64 0, .int .i64 a, .slice none 0 0]) (by simp [results, Tryd.results26, go_sem, z0, z1, z2, z3, z4]) rfl ?_
    have hb6 : Below w.heap.size w w6 := by rw [H6.out]; exact (HBN.out.setCell (p := ⟨C, 3, none⟩) HCL.out _).trans (putA_below _ _ _ _ (Nat.le_refl _))
    rw [HQ.out]
    exact ⟨by rw [HNN.out]; rfl, hb6⟩

end Go.Proofs.YtdgplijnhkgeiaaDoor
