/- Layer 35, reading: an answer, read: the ways without numbers. (By gen_rtxl.py.) -/
import Derived.Test.YtdgplijnhkgeiaaDoorRtxK
namespace Go.Proofs.YtdgplijnhkgeiaaDoor
open Go.RowKit
open Go.Lib (cut itoa)
set_option linter.unusedVariables false
set_option linter.unusedSimpArgs false
def putA (W : World) (C : Nat) (a : An) (v : Value) : World := ((((W.setCell ⟨C, 0, none⟩ (.int .i64 a.kind)).setCell ⟨C, 1, none⟩ (.int .i64 a.key)).setCell ⟨C, 2, none⟩ (.int .i64 a.val)).setCell ⟨C, 3, none⟩ (.int .i64 a.n)).setCell ⟨C, 4, none⟩ v
theorem putA_at {W : World} {C : Nat} {T : TypeId} {a0 : An} {v0 : Value} (a : An) (v : Value) (h : W.heap[C]? = some (.cells (ancells a0 v0).toArray T (0, 0))) : (putA W C a v).heap[C]? = some (.cells (ancells a v).toArray T (0, 0)) := by
  unfold putA
  exact heap_setCell_same _ _ 4 _ _ _ (heap_setCell_same _ _ 3 _ _ _ (heap_setCell_same _ _ 2 _ _ _ (heap_setCell_same _ _ 1 _ _ _ (heap_setCell_same _ _ 0 _ _ _ h))))
theorem putA_other (W : World) (C : Nat) (a : An) (v : Value) {k : Nat} (h : k ≠ C) : (putA W C a v).heap[k]? = W.heap[k]? := by
  unfold putA
  exact (Below.heap_setCell _ ⟨C, 4, none⟩ _ _ h).trans ((Below.heap_setCell _ ⟨C, 3, none⟩ _ _ h).trans ((Below.heap_setCell _ ⟨C, 2, none⟩ _ _ h).trans ((Below.heap_setCell _ ⟨C, 1, none⟩ _ _ h).trans (Below.heap_setCell _ ⟨C, 0, none⟩ _ _ h))))
theorem putA_below (W : World) (C : Nat) (a : An) (v : Value) {B : Nat} (h : B ≤ C) : Below B W (putA W C a v) := by
  unfold putA
  exact (((((Below.refl B W).setCell (p := ⟨C, 0, none⟩) h _).setCell (p := ⟨C, 1, none⟩) h _).setCell (p := ⟨C, 2, none⟩) h _).setCell (p := ⟨C, 3, none⟩) h _).setCell (p := ⟨C, 4, none⟩) h _
set_option maxRecDepth 16000 in
set_option maxHeartbeats 4000000 in
theorem toanswer_none (s : List UInt8) (hd : List UInt8) (tl : List (List UInt8)) (w : World) (hs : s.length ≤ 10000) (hv : VB w.heap.size w) (hws : splitL 32 s = hd :: tl) (hk : kdI ⟨hd.toArray⟩ = none) :
    Calls Tryd.prog 26 #[tx s] w fun e w' => e = wrP 3 ∧ Below w.heap.size w w' := by
  refine Calls.veil fun Q HQ => ?_
  have HS : Hid (∀ W, Calls Tryd.prog 39 #[tx s] W fun e w' => ∃ rv, e = .returned (.tuple #[tx hd, rv]) ∧ SR w' rv tl ∧ Below W.heap.size W w') := Lib.hid (fun W => by have h := tsplit s W hs; rw [hws] at h; exact h)
  have HWL := Lib.hid (show ∀ x ∈ tl, x.length ≤ 10000 from fun x hx => Nat.le_trans (splitL_word 32 s x (by rw [hws]; exact List.mem_cons_of_mem _ hx)) hs)
  have HLN := Lib.hid (show tl.length ≤ 10000 by have h := splitL_len 32 s; rw [hws] at h; simp at h; omega)
  have HV := Lib.hid hv
  have HK := Lib.hid hk
  clear hk
  clear hs hv hws
  go_enter Tryd.func26, Tryd.ntmps26
  go_wp2_with fail
  generalize hVV : World.alloc w _ = V
  have HBV := Lib.hid (show Below w.heap.size w V ∧ V.heap[w.heap.size]? = some (.cells (ancells ⟨0, 0, 0, 0, []⟩ (.slice none 0 0)).toArray 33 (0, 0)) from ⟨by rw [← hVV]; exact below_new (Below.refl _ _) _, by rw [← hVV]; exact World.alloc_heap_new w _⟩)
  clear hVV
  refine (HS.out V).mono ?_; rintro _ w1 ⟨rv, rfl, hr, hb⟩
  have HB := Lib.hid (below_on HBV.out.1 hb)
  have HX1 := Lib.hid (upk hb HBV.out.2)
  obtain ⟨rp, rc, rfl, hr2, hr3, hr4⟩ := hr
  have HR4 := Lib.hid hr4
  clear hr4 hb
  go_wp2_with fail
  have TK := tkind ⟨hd.toArray⟩ w1
  rw [HK.out] at TK
  refine TK.mono ?_; rintro _ w2 ⟨rfl, hb⟩
  have HB2 := Lib.hid (below_on HB.out hb)
  have HB2' := Lib.hid hb
  have HX2 := Lib.hid (upk hb HX1.out)
  clear hb TK
  go_wp2_with fail
  rw [HQ.out]
  exact ⟨rfl, rfl, HB2.out⟩
set_option maxRecDepth 16000 in
set_option maxHeartbeats 4000000 in
theorem toanswer_zero (s : List UInt8) (hd : List UInt8) (tl : List (List UInt8)) (w : World) (hs : s.length ≤ 10000) (hv : VB w.heap.size w) (hws : splitL 32 s = hd :: tl) (k : Nat) (hk : kdI ⟨hd.toArray⟩ = some k) (h1 : k ≠ 1) (h2 : k ≠ 2) (h3 : k ≠ 3) (h0 : tl = []) :
    Calls Tryd.prog 26 #[tx s] w fun e w' => e = .returned (.agg (ancells ⟨k, 0, 0, 0, []⟩ (.slice none 0 0)).toArray) ∧ Below w.heap.size w w' := by
  refine Calls.veil fun Q HQ => ?_
  have HS : Hid (∀ W, Calls Tryd.prog 39 #[tx s] W fun e w' => ∃ rv, e = .returned (.tuple #[tx hd, rv]) ∧ SR w' rv tl ∧ Below W.heap.size W w') := Lib.hid (fun W => by have h := tsplit s W hs; rw [hws] at h; exact h)
  have HWL := Lib.hid (show ∀ x ∈ tl, x.length ≤ 10000 from fun x hx => Nat.le_trans (splitL_word 32 s x (by rw [hws]; exact List.mem_cons_of_mem _ hx)) hs)
  have HLN := Lib.hid (show tl.length ≤ 10000 by have h := splitL_len 32 s; rw [hws] at h; simp at h; omega)
  have HV := Lib.hid hv
  have HK := Lib.hid hk
  clear hk
  subst h0
  have h1 : ((k : Int) == 1) = false := neq_b (by omega)
  have h2 : ((k : Int) == 2) = false := neq_b (by omega)
  have h3 : ((k : Int) == 3) = false := neq_b (by omega)
  clear hs hv hws
  go_enter Tryd.func26, Tryd.ntmps26
  go_wp2_with fail
  generalize hVV : World.alloc w _ = V
  have HBV := Lib.hid (show Below w.heap.size w V ∧ V.heap[w.heap.size]? = some (.cells (ancells ⟨0, 0, 0, 0, []⟩ (.slice none 0 0)).toArray 33 (0, 0)) from ⟨by rw [← hVV]; exact below_new (Below.refl _ _) _, by rw [← hVV]; exact World.alloc_heap_new w _⟩)
  clear hVV
  refine (HS.out V).mono ?_; rintro _ w1 ⟨rv, rfl, hr, hb⟩
  have HB := Lib.hid (below_on HBV.out.1 hb)
  have HX1 := Lib.hid (upk hb HBV.out.2)
  obtain ⟨rp, rc, rfl, hr2, hr3, hr4⟩ := hr
  have HR4 := Lib.hid hr4
  clear hr4 hb
  go_wp2_with fail
  have TK := tkind ⟨hd.toArray⟩ w1
  rw [HK.out] at TK
  refine TK.mono ?_; rintro _ w2 ⟨rfl, hb⟩
  have HB2 := Lib.hid (below_on HB.out hb)
  have HB2' := Lib.hid hb
  have HX2 := Lib.hid (upk hb HX1.out)
  clear hb TK
  go_wp2_with fail
  generalize hVV : World.alloc w2 _ = V3
  have HX3 := Lib.hid (show V3.heap[w2.heap.size]? = some (.cells (ancells ⟨k, 0, 0, 0, []⟩ (.slice none 0 0)).toArray 33 (0, 0)) ∧ Below w2.heap.size w2 V3 ∧ V3.heap.size = w2.heap.size + 1 by
    rw [← hVV]; exact ⟨World.alloc_heap_new w2 _, below_new (Below.refl _ _) _, by simp⟩)
  clear hVV
  have TM := tmany (.slice rp 0 rc) rp 0 rc 0 V3 rfl (by have := HLN.out; omega)
  rw [if_pos (show ((0 : Nat) : Int) = 0 from rfl)] at TM
  refine TM.mono ?_; rintro _ wr ⟨rfl, hb⟩
  have HBW := Lib.hid (show Below w.heap.size w wr from HB2.out.trans (HX3.out.2.1.mono HB2.out.size |>.trans (hb.mono (by have := HX3.out.2.2; have := HB2.out.size; omega))))
  have hcc := upk hb HX3.out.1
  have hr := upk hb (by rw [HX3.out.2.1.block _ (Array.getElem?_eq_some_iff.1 HX2.out).1]; exact HX2.out)
  clear hb TM
  generalize w2.heap.size = C at *
  have HRR := Lib.hid hr
  have HCC := Lib.hid hcc
  have x0 : wr.cell? ⟨C, 0, none⟩ = some (.int .i64 (k : Int)) := by simp [World.cell?, hcc, ancells]
  have x1 : wr.cell? ⟨C, 1, none⟩ = some (.int .i64 0) := by simp [World.cell?, hcc, ancells]
  have x2 : wr.cell? ⟨C, 2, none⟩ = some (.int .i64 0) := by simp [World.cell?, hcc, ancells]
  have x3 : wr.cell? ⟨C, 3, none⟩ = some (.int .i64 0) := by simp [World.cell?, hcc, ancells]
  have x4 : wr.cell? ⟨C, 4, none⟩ = some (.slice none 0 0) := by simp [World.cell?, hcc, ancells]
  have y0 : wr.cell? ⟨w.heap.size, 0, none⟩ = some (.int .i64 0) := by simp [World.cell?, hr, ancells]
  have y1 : wr.cell? ⟨w.heap.size, 1, none⟩ = some (.int .i64 0) := by simp [World.cell?, hr, ancells]
  have y2 : wr.cell? ⟨w.heap.size, 2, none⟩ = some (.int .i64 0) := by simp [World.cell?, hr, ancells]
  have y3 : wr.cell? ⟨w.heap.size, 3, none⟩ = some (.int .i64 0) := by simp [World.cell?, hr, ancells]
  have y4 : wr.cell? ⟨w.heap.size, 4, none⟩ = some (.slice none 0 0) := by simp [World.cell?, hr, ancells]
  have yf0 : wr.frozen? ⟨w.heap.size, 0, none⟩ = false := by simp [World.frozen?, hr]
  have yf1 : wr.frozen? ⟨w.heap.size, 1, none⟩ = false := by simp [World.frozen?, hr]
  have yf2 : wr.frozen? ⟨w.heap.size, 2, none⟩ = false := by simp [World.frozen?, hr]
  have yf3 : wr.frozen? ⟨w.heap.size, 3, none⟩ = false := by simp [World.frozen?, hr]
  have yf4 : wr.frozen? ⟨w.heap.size, 4, none⟩ = false := by simp [World.frozen?, hr]
  clear hr hcc
  go_wp2_with fail
  generalize hW6 : World.setCell _ _ _ = w6
  have H6 := Lib.hid (show w6 = putA wr w.heap.size ⟨(k : Int), 0, 0, 0, []⟩ (.slice none 0 0) from hW6.symm)
  clear hW6
  have h6 : w6.heap[w.heap.size]? = some (.cells (ancells ⟨(k : Int), 0, 0, 0, []⟩ (.slice none 0 0)).toArray 33 (0, 0)) := by rw [H6.out]; exact putA_at _ _ HRR.out
  have z0 : w6.cell? ⟨w.heap.size, 0, none⟩ = some (.int .i64 (k : Int)) := by simp [World.cell?, h6, ancells]
  have z1 : w6.cell? ⟨w.heap.size, 1, none⟩ = some (.int .i64 0) := by simp [World.cell?, h6, ancells]
  have z2 : w6.cell? ⟨w.heap.size, 2, none⟩ = some (.int .i64 0) := by simp [World.cell?, h6, ancells]
  have z3 : w6.cell? ⟨w.heap.size, 3, none⟩ = some (.int .i64 0) := by simp [World.cell?, h6, ancells]
  have z4 : w6.cell? ⟨w.heap.size, 4, none⟩ = some (.slice none 0 0) := by simp [World.cell?, h6, ancells]
  refine bodyPost_ret (v := .agg #[.int .i64 (k : Int), .int .i64 0, .int .i64 0, .int .i64 0, .slice none 0 0]) (by simp [results, Tryd.results26, go_sem, z0, z1, z2, z3, z4]) rfl ?_
  have hb6 : Below w.heap.size w w6 := by rw [H6.out]; exact HBW.out.trans (putA_below _ _ _ _ (Nat.le_refl _))
  rw [HQ.out]
  exact ⟨rfl, hb6⟩
set_option maxRecDepth 16000 in
set_option maxHeartbeats 4000000 in
theorem toanswer_zeron (s : List UInt8) (hd : List UInt8) (tl : List (List UInt8)) (w : World) (hs : s.length ≤ 10000) (hv : VB w.heap.size w) (hws : splitL 32 s = hd :: tl) (k : Nat) (hk : kdI ⟨hd.toArray⟩ = some k) (h1 : k ≠ 1) (h2 : k ≠ 2) (h3 : k ≠ 3) (h0 : tl.length ≠ 0) :
    Calls Tryd.prog 26 #[tx s] w fun e w' => e = wrP 4 ∧ Below w.heap.size w w' := by
  refine Calls.veil fun Q HQ => ?_
  have HS : Hid (∀ W, Calls Tryd.prog 39 #[tx s] W fun e w' => ∃ rv, e = .returned (.tuple #[tx hd, rv]) ∧ SR w' rv tl ∧ Below W.heap.size W w') := Lib.hid (fun W => by have h := tsplit s W hs; rw [hws] at h; exact h)
  have HWL := Lib.hid (show ∀ x ∈ tl, x.length ≤ 10000 from fun x hx => Nat.le_trans (splitL_word 32 s x (by rw [hws]; exact List.mem_cons_of_mem _ hx)) hs)
  have HLN := Lib.hid (show tl.length ≤ 10000 by have h := splitL_len 32 s; rw [hws] at h; simp at h; omega)
  have HV := Lib.hid hv
  have HK := Lib.hid hk
  clear hk
  have h1 : ((k : Int) == 1) = false := neq_b (by omega)
  have h2 : ((k : Int) == 2) = false := neq_b (by omega)
  have h3 : ((k : Int) == 3) = false := neq_b (by omega)
  have H0 := Lib.hid h0
  clear h0
  clear hs hv hws
  go_enter Tryd.func26, Tryd.ntmps26
  go_wp2_with fail
  generalize hVV : World.alloc w _ = V
  have HBV := Lib.hid (show Below w.heap.size w V ∧ V.heap[w.heap.size]? = some (.cells (ancells ⟨0, 0, 0, 0, []⟩ (.slice none 0 0)).toArray 33 (0, 0)) from ⟨by rw [← hVV]; exact below_new (Below.refl _ _) _, by rw [← hVV]; exact World.alloc_heap_new w _⟩)
  clear hVV
  refine (HS.out V).mono ?_; rintro _ w1 ⟨rv, rfl, hr, hb⟩
  have HB := Lib.hid (below_on HBV.out.1 hb)
  have HX1 := Lib.hid (upk hb HBV.out.2)
  obtain ⟨rp, rc, rfl, hr2, hr3, hr4⟩ := hr
  have HR4 := Lib.hid hr4
  clear hr4 hb
  go_wp2_with fail
  have TK := tkind ⟨hd.toArray⟩ w1
  rw [HK.out] at TK
  refine TK.mono ?_; rintro _ w2 ⟨rfl, hb⟩
  have HB2 := Lib.hid (below_on HB.out hb)
  have HB2' := Lib.hid hb
  have HX2 := Lib.hid (upk hb HX1.out)
  clear hb TK
  go_wp2_with fail
  generalize hVV : World.alloc w2 _ = V3
  have HX3 := Lib.hid (show V3.heap[w2.heap.size]? = some (.cells (ancells ⟨k, 0, 0, 0, []⟩ (.slice none 0 0)).toArray 33 (0, 0)) ∧ Below w2.heap.size w2 V3 ∧ V3.heap.size = w2.heap.size + 1 by
    rw [← hVV]; exact ⟨World.alloc_heap_new w2 _, below_new (Below.refl _ _) _, by simp⟩)
  clear hVV
  have TM := tmany (.slice rp tl.length rc) rp tl.length rc 0 V3 rfl (by have := HLN.out; omega)
  rw [if_neg (by have := H0.out; omega)] at TM
  refine TM.mono ?_; rintro _ wr ⟨rfl, hb⟩
  have HBW := Lib.hid (show Below w.heap.size w wr from HB2.out.trans (HX3.out.2.1.mono HB2.out.size |>.trans (hb.mono (by have := HX3.out.2.2; have := HB2.out.size; omega))))
  clear hb TM
  go_wp2_with fail
  rw [HQ.out]
  exact ⟨rfl, rfl, HBW.out⟩
set_option maxRecDepth 16000 in
set_option maxHeartbeats 4000000 in
theorem toanswer_1n (s : List UInt8) (hd : List UInt8) (tl : List (List UInt8)) (w : World) (hs : s.length ≤ 10000) (hv : VB w.heap.size w) (hws : splitL 32 s = hd :: tl) (hk : kdI ⟨hd.toArray⟩ = some 1) (h0 : tl.length ≠ 2) :
    Calls Tryd.prog 26 #[tx s] w fun e w' => e = wrP 4 ∧ Below w.heap.size w w' := by
  refine Calls.veil fun Q HQ => ?_
  have HS : Hid (∀ W, Calls Tryd.prog 39 #[tx s] W fun e w' => ∃ rv, e = .returned (.tuple #[tx hd, rv]) ∧ SR w' rv tl ∧ Below W.heap.size W w') := Lib.hid (fun W => by have h := tsplit s W hs; rw [hws] at h; exact h)
  have HWL := Lib.hid (show ∀ x ∈ tl, x.length ≤ 10000 from fun x hx => Nat.le_trans (splitL_word 32 s x (by rw [hws]; exact List.mem_cons_of_mem _ hx)) hs)
  have HLN := Lib.hid (show tl.length ≤ 10000 by have h := splitL_len 32 s; rw [hws] at h; simp at h; omega)
  have HV := Lib.hid hv
  have HK := Lib.hid hk
  clear hk
  have H0 := Lib.hid h0
  clear h0
  clear hs hv hws
  go_enter Tryd.func26, Tryd.ntmps26
  go_wp2_with fail
  generalize hVV : World.alloc w _ = V
  have HBV := Lib.hid (show Below w.heap.size w V ∧ V.heap[w.heap.size]? = some (.cells (ancells ⟨0, 0, 0, 0, []⟩ (.slice none 0 0)).toArray 33 (0, 0)) from ⟨by rw [← hVV]; exact below_new (Below.refl _ _) _, by rw [← hVV]; exact World.alloc_heap_new w _⟩)
  clear hVV
  refine (HS.out V).mono ?_; rintro _ w1 ⟨rv, rfl, hr, hb⟩
  have HB := Lib.hid (below_on HBV.out.1 hb)
  have HX1 := Lib.hid (upk hb HBV.out.2)
  obtain ⟨rp, rc, rfl, hr2, hr3, hr4⟩ := hr
  have HR4 := Lib.hid hr4
  clear hr4 hb
  go_wp2_with fail
  have TK := tkind ⟨hd.toArray⟩ w1
  rw [HK.out] at TK
  refine TK.mono ?_; rintro _ w2 ⟨rfl, hb⟩
  have HB2 := Lib.hid (below_on HB.out hb)
  have HB2' := Lib.hid hb
  have HX2 := Lib.hid (upk hb HX1.out)
  clear hb TK
  go_wp2_with fail
  generalize hVV : World.alloc w2 _ = V3
  have HX3 := Lib.hid (show V3.heap[w2.heap.size]? = some (.cells (ancells ⟨1, 0, 0, 0, []⟩ (.slice none 0 0)).toArray 33 (0, 0)) ∧ Below w2.heap.size w2 V3 ∧ V3.heap.size = w2.heap.size + 1 by
    rw [← hVV]; exact ⟨World.alloc_heap_new w2 _, below_new (Below.refl _ _) _, by simp⟩)
  clear hVV
  have TM := tmany (.slice rp tl.length rc) rp tl.length rc 2 V3 rfl (by have := HLN.out; omega)
  rw [if_neg (by have := H0.out; omega)] at TM
  refine TM.mono ?_; rintro _ wr ⟨rfl, hb⟩
  have HBW := Lib.hid (show Below w.heap.size w wr from HB2.out.trans (HX3.out.2.1.mono HB2.out.size |>.trans (hb.mono (by have := HX3.out.2.2; have := HB2.out.size; omega))))
  clear hb TM
  go_wp2_with fail
  rw [HQ.out]
  exact ⟨rfl, rfl, HBW.out⟩
set_option maxRecDepth 16000 in
set_option maxHeartbeats 4000000 in
theorem toanswer_2n (s : List UInt8) (hd : List UInt8) (tl : List (List UInt8)) (w : World) (hs : s.length ≤ 10000) (hv : VB w.heap.size w) (hws : splitL 32 s = hd :: tl) (hk : kdI ⟨hd.toArray⟩ = some 2) (h0 : tl.length ≠ 1) :
    Calls Tryd.prog 26 #[tx s] w fun e w' => e = wrP 4 ∧ Below w.heap.size w w' := by
  refine Calls.veil fun Q HQ => ?_
  have HS : Hid (∀ W, Calls Tryd.prog 39 #[tx s] W fun e w' => ∃ rv, e = .returned (.tuple #[tx hd, rv]) ∧ SR w' rv tl ∧ Below W.heap.size W w') := Lib.hid (fun W => by have h := tsplit s W hs; rw [hws] at h; exact h)
  have HWL := Lib.hid (show ∀ x ∈ tl, x.length ≤ 10000 from fun x hx => Nat.le_trans (splitL_word 32 s x (by rw [hws]; exact List.mem_cons_of_mem _ hx)) hs)
  have HLN := Lib.hid (show tl.length ≤ 10000 by have h := splitL_len 32 s; rw [hws] at h; simp at h; omega)
  have HV := Lib.hid hv
  have HK := Lib.hid hk
  clear hk
  have H0 := Lib.hid h0
  clear h0
  clear hs hv hws
  go_enter Tryd.func26, Tryd.ntmps26
  go_wp2_with fail
  generalize hVV : World.alloc w _ = V
  have HBV := Lib.hid (show Below w.heap.size w V ∧ V.heap[w.heap.size]? = some (.cells (ancells ⟨0, 0, 0, 0, []⟩ (.slice none 0 0)).toArray 33 (0, 0)) from ⟨by rw [← hVV]; exact below_new (Below.refl _ _) _, by rw [← hVV]; exact World.alloc_heap_new w _⟩)
  clear hVV
  refine (HS.out V).mono ?_; rintro _ w1 ⟨rv, rfl, hr, hb⟩
  have HB := Lib.hid (below_on HBV.out.1 hb)
  have HX1 := Lib.hid (upk hb HBV.out.2)
  obtain ⟨rp, rc, rfl, hr2, hr3, hr4⟩ := hr
  have HR4 := Lib.hid hr4
  clear hr4 hb
  go_wp2_with fail
  have TK := tkind ⟨hd.toArray⟩ w1
  rw [HK.out] at TK
  refine TK.mono ?_; rintro _ w2 ⟨rfl, hb⟩
  have HB2 := Lib.hid (below_on HB.out hb)
  have HB2' := Lib.hid hb
  have HX2 := Lib.hid (upk hb HX1.out)
  clear hb TK
  go_wp2_with fail
  generalize hVV : World.alloc w2 _ = V3
  have HX3 := Lib.hid (show V3.heap[w2.heap.size]? = some (.cells (ancells ⟨2, 0, 0, 0, []⟩ (.slice none 0 0)).toArray 33 (0, 0)) ∧ Below w2.heap.size w2 V3 ∧ V3.heap.size = w2.heap.size + 1 by
    rw [← hVV]; exact ⟨World.alloc_heap_new w2 _, below_new (Below.refl _ _) _, by simp⟩)
  clear hVV
  have TM := tmany (.slice rp tl.length rc) rp tl.length rc 1 V3 rfl (by have := HLN.out; omega)
  rw [if_neg (by have := H0.out; omega)] at TM
  refine TM.mono ?_; rintro _ wr ⟨rfl, hb⟩
  have HBW := Lib.hid (show Below w.heap.size w wr from HB2.out.trans (HX3.out.2.1.mono HB2.out.size |>.trans (hb.mono (by have := HX3.out.2.2; have := HB2.out.size; omega))))
  clear hb TM
  go_wp2_with fail
  rw [HQ.out]
  exact ⟨rfl, rfl, HBW.out⟩
end Go.Proofs.YtdgplijnhkgeiaaDoor
