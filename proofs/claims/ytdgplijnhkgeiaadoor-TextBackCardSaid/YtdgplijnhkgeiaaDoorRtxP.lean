/- Layer 35, reading: an answer, read: the ways without numbers. (By gen_rtxl.py.) -/
import Derived.Test.YtdgplijnhkgeiaaDoorRtxO
namespace Go.Proofs.YtdgplijnhkgeiaaDoor
open Go.RowKit
open Go.Lib (cut itoa)
set_option linter.unusedVariables false
set_option linter.unusedSimpArgs false
set_option maxRecDepth 16000 in
set_option maxHeartbeats 4000000 in
theorem toanswer_3 (s : List UInt8) (hd : List UInt8) (tl : List (List UInt8)) (w : World) (hs : s.length ≤ 10000) (hv : VB w.heap.size w) (hws : splitL 32 s = hd :: tl) (hk : kdI ⟨hd.toArray⟩ = some 3) :
    Calls Tryd.prog 26 #[tx s] w fun e w' => AnsE w.heap.size (tailR 3 tl) e w' ∧ Below w.heap.size w w' := by
  refine Calls.veil fun Q HQ => ?_
  have HS : Hid (∀ W, Calls Tryd.prog 39 #[tx s] W fun e w' => ∃ rv, e = .returned (.tuple #[tx hd, rv]) ∧ SR w' rv tl ∧ Below W.heap.size W w') := Lib.hid (fun W => by have h := tsplit s W hs; rw [hws] at h; exact h)
  have HWL := Lib.hid (show ∀ x ∈ tl, x.length ≤ 10000 from fun x hx => Nat.le_trans (splitL_word 32 s x (by rw [hws]; exact List.mem_cons_of_mem _ hx)) hs)
  have HLN := Lib.hid (show tl.length ≤ 10000 by have h := splitL_len 32 s; rw [hws] at h; simp at h; omega)
  have HV := Lib.hid hv
  have HK := Lib.hid hk
  clear hk
  clear hs hv hws
  go_enter Tryd.func26, Tryd.ntmps26
  go_wp2_with fail
  generalize hVV : World.alloc w _ = V
  have HBV := Lib.hid (show Below w.heap.size w V ∧ V.heap[w.heap.size]? = some (.cells (ancells ⟨0, 0, 0, 0, []⟩ (.slice none 0 0)).toArray 33 (0, 0)) from ⟨by rw [← hVV]; exact below_new (Below.refl _ _) _, by rw [← hVV]; exact World.alloc_heap_new w _⟩)
  clear hVV
  refine (HS.out V).mono ?_; rintro _ w1 ⟨rv, rfl, hr, hb⟩
  have HB := Lib.hid (below_on HBV.out.1 hb)
  have HX1 := Lib.hid (upk hb HBV.out.2)
  obtain ⟨rp, rc, rfl, hr2, hr3, hr4⟩ := hr
  have HR4 := Lib.hid hr4
  clear hr4 hb
  go_wp2_with fail
  have TK := tkind ⟨hd.toArray⟩ w1
  rw [HK.out] at TK
  refine TK.mono ?_; rintro _ w2 ⟨rfl, hb⟩
  have HB2 := Lib.hid (below_on HB.out hb)
  have HB2' := Lib.hid hb
  have HX2 := Lib.hid (upk hb HX1.out)
  clear hb TK
  go_wp2_with fail
  generalize hVV : World.alloc w2 _ = V3
  have HX3 := Lib.hid (show V3.heap[w2.heap.size]? = some (.cells (ancells ⟨3, 0, 0, 0, []⟩ (.slice none 0 0)).toArray 33 (0, 0)) ∧ Below w2.heap.size w2 V3 ∧ V3.heap.size = w2.heap.size + 1 by
    rw [← hVV]; exact ⟨World.alloc_heap_new w2 _, below_new (Below.refl _ _) _, by simp⟩)
  clear hVV
  have HS4 := Lib.hid (fun (i : Nat) (x : List UInt8) (hx : tl[i]? = some x) => show ∃ g o, rp = some ⟨g, o, none⟩ ∧ w2.cell? ⟨g, o + i, none⟩ = some (tx x) from by
    obtain ⟨g, o, e1, e2⟩ := HR4.out i x hx
    exact ⟨g, o, e1, Ext.cell ⟨w2, HB2'.out⟩ e2⟩)
  have HCL := Lib.hid (show w.heap.size < w2.heap.size from (Array.getElem?_eq_some_iff.1 HX2.out).1)
  generalize hC : w2.heap.size = C at *
  generalize hm : tl.length = m at *
  go_loopw [47] (fun iv wr => ∃ j : Nat, j ≤ m ∧ iv = .int .i64 j ∧ Hid ((∃ ps v, pairsOf (tl.take j) = some ps ∧ wr.heap[C]? = some (.cells (ancells ⟨3, 0, 0, 0, []⟩ v).toArray 33 (0, 0)) ∧ OwnQ wr (C + 1) v ps) ∧ Below C w2 wr))
    (fun iv _ => m - (intOf iv).toNat)
  case atStart => exact ⟨0, by omega, rfl, Lib.hid ⟨⟨[], _, by simp [pairsOf], HX3.out.1, ownQ_nil _ _⟩, HX3.out.2.1⟩⟩
  case round =>
    obtain ⟨j, hj, rfl, HI⟩ := hrel
    rcases (by omega : j < m ∨ j = m) with hlt | heq
    · obtain ⟨x, hx⟩ : ∃ x, tl[j]? = some x := ⟨tl[j]'(by omega), List.getElem?_eq_getElem _⟩
      obtain ⟨g2, o2, rfl, c0⟩ := HS4.out j x hx
      have c0 : wr.cell? ⟨g2, o2 + j, none⟩ = some (tx x) := Ext.cell ⟨wr, hC ▸ HI.out.2⟩ c0
      obtain ⟨ps, v, hps, hcc, hown⟩ := HI.out.1
      obtain ⟨sp, sc, rfl⟩ := ownQ_slice hown
      have HPS := Lib.hid hps
      have HCC := Lib.hid hcc
      have HOW := Lib.hid hown
      have x4 : wr.cell? ⟨C, 4, none⟩ = some (.slice sp ps.length sc) := by simp [World.cell?, hcc, ancells]
      have hjm : (j : Int) < (m : Int) := by omega
      clear hps hcc hown
      go_wp2_with fail
      have HL1 := Lib.hid (show ∀ W, Below wr.heap.size wr W → (Instr.loadAt 31 (.pointer (some ⟨C, 4, none⟩))).run Tryd.prog W = .ok (.slice sp ps.length sc) W from fun W h => by
        have y0 := Ext.cell ⟨W, h⟩ x4
        simp only at y0
        clear c0 x4
        go_simp)
      clear c0 x4
      refine wp_region_K (fun W => Below wr.heap.size wr W) 5 (by decide +kernel) ?_
      (refine wpAnyK_takeY (i := 0) (v := ?_) rfl (by decide +kernel) (by decide +kernel) (by decide +kernel) (by decide) (fun _ _ _ h => h) (Or.inl ⟨by rfl, ?_⟩) (.inr ((Below.refl _ _).drew)) ?_; rotate_left; (intro w; go_simp); (try with_reducible rfl))
      (try simp only [List.getElem_toArray, List.getElem_cons_succ, List.getElem_cons_zero, Act.put, List.setIfInBounds_toArray, List.set_cons_succ, List.set_cons_zero])
      (refine wpAnyK_take (i := 1) (v := .slice sp ps.length sc) [5] rfl (by decide +kernel) (by decide +kernel) (by decide +kernel) (by decide +kernel) (fun _ _ _ h => h) (yields_loadK rfl 31 (.tmp 51) rfl rfl HL1.out) ((Below.refl _ _).drew) ?_)
      (try simp only [List.getElem_toArray, List.getElem_cons_succ, List.getElem_cons_zero, Act.put, List.setIfInBounds_toArray, List.set_cons_succ, List.set_cons_zero])
      (refine wpAnyK_takeY (i := 2) (v := ?_) rfl (by decide +kernel) (by decide +kernel) (by decide +kernel) (by decide) (fun _ _ _ h => h) (Or.inl ⟨by rfl, ?_⟩) (.inr ((Below.refl _ _).drew)) ?_; rotate_left; (intro w; go_simp); (try with_reducible rfl))
      (try simp only [List.getElem_toArray, List.getElem_cons_succ, List.getElem_cons_zero, Act.put, List.setIfInBounds_toArray, List.set_cons_succ, List.set_cons_zero])
      refine wpAnyK_ready (rs := [3]) (by decide +kernel) (by simp) ?_
      refine (AllReadyK.cons rfl (fun K hK => ?_) AllReadyK.nil)
      refine step_of rfl ?_
      go_step
      have HBW := Lib.hid (show Below w.heap.size w wr.drew from (HB2.out.trans (HI.out.2.mono (by have := HCL.out; omega))).drew)
      cases hn : pairOf x with
      | none =>
        have HE := Lib.hid (tailR_3x (pairsOf_bad (List.mem_of_getElem? hx) hn))
        have TP := topair x wr.drew (B := w.heap.size) (HWL.out x (List.mem_of_getElem? hx)) (HV.out.below HBW.out) HBW.out.size
        rw [hn] at TP
        refine TP.mono ?_; rintro _ wn ⟨rfl, hbn⟩
        show bodyPost Tryd.prog Tryd.f26 Q (Exit.panic _) _ wn
        refine ⟨rfl, ?_⟩
        rw [HQ.out, HE.out]
        exact ⟨rfl, below_on HBW.out hbn⟩
      | some p =>
        have TP := topair x wr.drew (B := w.heap.size) (HWL.out x (List.mem_of_getElem? hx)) (HV.out.below HBW.out) HBW.out.size
        rw [hn] at TP
        refine TP.mono ?_; rintro _ wn ⟨rfl, hbn⟩
        have HNN := Lib.hid (show pairsOf (tl.take (j + 1)) = some (ps ++ [p]) by
          rw [List.take_add_one, hx]; exact pairsOf_snoc x p HPS.out hn)
        have HBR := Lib.hid (show Below wr.heap.size wr wn from (Below.refl _ _).drew.trans hbn)
        clear hn hbn TP
        refine hK _ _ (.inr HBR.out) ?_
        clear hK K
        (try simp only [List.getElem_toArray, List.getElem_cons_succ, List.getElem_cons_zero, Act.put, List.setIfInBounds_toArray, List.set_cons_succ, List.set_cons_zero])
        refine wpAnyK_ready (rs := [4]) (by decide +kernel) (by simp) ?_
        refine (AllReadyK.cons rfl (fun K hK => ?_) AllReadyK.nil)
        refine step_of rfl ?_
        go_step
        have HBA := Lib.hid (show Below wr.heap.size wr (wn.alloc (.cells #[.int .i64 p.1, .int .i64 p.2] 51)) from HBR.out.alloc HBR.out.size _)
        refine hK _ _ (.inr HBA.out) ?_
        clear hK K
        have HC0 := Lib.hid (Cell2.new wn p.1 p.2 51)
        have HSA := Lib.hid (show C + 1 ≤ (wn.alloc (.cells #[.int .i64 p.1, .int .i64 p.2] 51)).heap.size from Nat.le_trans (Array.getElem?_eq_some_iff.1 HCC.out).1 HBA.out.size)
        generalize wn.alloc (.cells #[.int .i64 p.1, .int .i64 p.2] 51) = wa at *
        (try simp only [List.getElem_toArray, List.getElem_cons_succ, List.getElem_cons_zero, Act.put, List.setIfInBounds_toArray, List.set_cons_succ, List.set_cons_zero])
        refine wpAnyK_ready (rs := [5]) (by decide +kernel) (by simp) ?_
        refine (AllReadyK.cons rfl (fun K hK => ?_) AllReadyK.nil)
        refine step_of rfl ?_
        refine wp_append_q1 (.tmp 52) (.tmp 55) rfl (C + 1) (.slice sp ps.length sc) ps p wn.heap.size 1 rfl (World.ownsRow.kept HOW.out (grown_of_below HBA.out) (by cases (Value.slice sp ps.length sc).ownBlock <;> simp)) rfl HC0.out.c0 HC0.out.c1 (by have h1 := pairsOf_len HPS.out; have h2 := HLN.out; rw [List.length_take] at h1; omega) HSA.out ?_
        intro v' w8 hown' hg
        have hne : some C ≠ (Value.slice sp ps.length sc).ownBlock := fun e => by have := ownQ_ge HOW.out C e.symm; omega
        have hcc := (hg.block C (by have := HSA.out; omega) hne).trans (upk HBA.out HCC.out)
        have HCC8 := Lib.hid hcc
        have HOW8 := Lib.hid hown'
        have HB8 := Lib.hid (show Below C w2 w8 from (HI.out.2.trans (HBA.out.mono (Nat.le_of_lt (Array.getElem?_eq_some_iff.1 HCC.out).1))).grown hg (by have := HSA.out; have := HI.out.2.size; have := HBA.out.size; omega) (fun q hq => by have := ownQ_ge HOW.out q hq; omega))
        obtain ⟨p2, c2, rfl⟩ := ownQ_slice hown'
        clear hown' hg hne
        refine hK _ _ (.inl rfl) ?_
        clear hK K
        (try simp only [List.getElem_toArray, List.getElem_cons_succ, List.getElem_cons_zero, Act.put, List.setIfInBounds_toArray, List.set_cons_succ, List.set_cons_zero])
        (refine wpAnyK_takeY (i := 6) (v := ?_) rfl (by decide +kernel) (by decide +kernel) (by decide +kernel) (by decide) (fun _ _ _ h => h) (Or.inl ⟨by rfl, ?_⟩) (.inl rfl) ?_; rotate_left; (intro w; go_simp); (try with_reducible rfl))
        (try simp only [List.getElem_toArray, List.getElem_cons_succ, List.getElem_cons_zero, Act.put, List.setIfInBounds_toArray, List.set_cons_succ, List.set_cons_zero])
        have x4 : w8.cell? ⟨C, 4, none⟩ = some (.slice sp ps.length sc) := by simp [World.cell?, hcc, ancells]
        have f4 : w8.frozen? ⟨C, 4, none⟩ = false := by simp [World.frozen?, hcc]
        clear hcc
        refine wpAnyK_ready (rs := [7]) (by decide +kernel) (by simp) ?_
        refine (AllReadyK.cons rfl (fun K hK => ?_) AllReadyK.nil)
        refine step_of rfl ?_
        go_step
        refine hK _ _ (.inl rfl) ?_
        clear hK K
        refine wpAnyK_done (by decide +kernel) ?_ _
        clear x4 f4
        generalize hW9 : World.setCell _ _ _ = w9
        have H9 := Lib.hid (show w9.heap[C]? = some (.cells (ancells ⟨3, 0, 0, 0, []⟩ (.slice p2 (ps.length + 1) c2)).toArray 33 (0, 0)) ∧ OwnQ w9 (C + 1) (.slice p2 (ps.length + 1) c2) (ps ++ [p]) ∧ Below C w2 w9 by
          have h := HOW8.out
          rw [show Value.slice p2 (ps ++ [p]).length c2 = .slice p2 (ps.length + 1) c2 by simp] at h
          rw [← hW9]
          exact ⟨heap_setCell_same _ _ 4 _ _ _ HCC8.out, ownsRow_setCell_below h (a := ⟨C, 4, none⟩) (by show C < C + 1; omega) _, HB8.out.setCell (p := ⟨C, 4, none⟩) (Nat.le_refl _) _⟩)
        clear hW9
        go_wp2_with fail
        go_roundw
        case rel => exact ⟨j + 1, by omega, by go_num, Lib.hid ⟨⟨ps ++ [p], _, HNN.out, H9.out.1, H9.out.2.1⟩, H9.out.2.2⟩⟩
        case measure => simp [intOf]; omega
    · have hge : ¬ (j : Int) < (m : Int) := by omega
      obtain ⟨ps, v, hps, hcc, hown⟩ := HI.out.1
      obtain ⟨sp, sc, rfl⟩ := ownQ_slice hown
      have HE := Lib.hid (show tailR 3 tl = .ok ⟨3, 0, 0, 0, ps⟩ by
        rw [show tl.take j = tl from List.take_of_length_le (by omega)] at hps
        exact tailR_3y hps)
      have HOW := Lib.hid hown
      have hrn := (HI.out.2.block _ HCL.out).trans HX2.out
      have HRN := Lib.hid hrn
      have HB5 := Lib.hid (show Below w.heap.size w wr from HB2.out.trans (HI.out.2.mono (Nat.le_of_lt HCL.out)))
      clear hps hown
      have x0 : wr.cell? ⟨C, 0, none⟩ = some (.int .i64 3) := by simp [World.cell?, hcc, ancells]
      have x1 : wr.cell? ⟨C, 1, none⟩ = some (.int .i64 0) := by simp [World.cell?, hcc, ancells]
      have x2 : wr.cell? ⟨C, 2, none⟩ = some (.int .i64 0) := by simp [World.cell?, hcc, ancells]
      have x3 : wr.cell? ⟨C, 3, none⟩ = some (.int .i64 0) := by simp [World.cell?, hcc, ancells]
      have x4 : wr.cell? ⟨C, 4, none⟩ = some (.slice sp ps.length sc) := by simp [World.cell?, hcc, ancells]
      have y0 : wr.cell? ⟨w.heap.size, 0, none⟩ = some (.int .i64 0) := by simp [World.cell?, hrn, ancells]
      have y1 : wr.cell? ⟨w.heap.size, 1, none⟩ = some (.int .i64 0) := by simp [World.cell?, hrn, ancells]
      have y2 : wr.cell? ⟨w.heap.size, 2, none⟩ = some (.int .i64 0) := by simp [World.cell?, hrn, ancells]
      have y3 : wr.cell? ⟨w.heap.size, 3, none⟩ = some (.int .i64 0) := by simp [World.cell?, hrn, ancells]
      have y4 : wr.cell? ⟨w.heap.size, 4, none⟩ = some (.slice none 0 0) := by simp [World.cell?, hrn, ancells]
      have yf0 : wr.frozen? ⟨w.heap.size, 0, none⟩ = false := by simp [World.frozen?, hrn]
      have yf1 : wr.frozen? ⟨w.heap.size, 1, none⟩ = false := by simp [World.frozen?, hrn]
      have yf2 : wr.frozen? ⟨w.heap.size, 2, none⟩ = false := by simp [World.frozen?, hrn]
      have yf3 : wr.frozen? ⟨w.heap.size, 3, none⟩ = false := by simp [World.frozen?, hrn]
      have yf4 : wr.frozen? ⟨w.heap.size, 4, none⟩ = false := by simp [World.frozen?, hrn]
      clear hcc hrn
      go_wp2_with fail
      generalize hW6 : World.setCell _ _ _ = w6
      have H6 := Lib.hid (show w6 = putA wr w.heap.size ⟨3, 0, 0, 0, ps⟩ (.slice sp ps.length sc) from hW6.symm)
      clear hW6
      have h6 : w6.heap[w.heap.size]? = some (.cells (ancells ⟨3, 0, 0, 0, ps⟩ (.slice sp ps.length sc)).toArray 33 (0, 0)) := by rw [H6.out]; exact putA_at _ _ HRN.out
      have z0 : w6.cell? ⟨w.heap.size, 0, none⟩ = some (.int .i64 3) := by simp [World.cell?, h6, ancells]
      have z1 : w6.cell? ⟨w.heap.size, 1, none⟩ = some (.int .i64 0) := by simp [World.cell?, h6, ancells]
      have z2 : w6.cell? ⟨w.heap.size, 2, none⟩ = some (.int .i64 0) := by simp [World.cell?, h6, ancells]
      have z3 : w6.cell? ⟨w.heap.size, 3, none⟩ = some (.int .i64 0) := by simp [World.cell?, h6, ancells]
      have z4 : w6.cell? ⟨w.heap.size, 4, none⟩ = some (.slice sp ps.length sc) := by simp [World.cell?, h6, ancells]
      refine bodyPost_ret (v := .agg #[.int .i64 3, .int .i64 0, .int .i64 0, .int .i64 0, .slice sp ps.length sc]) (by simp [results, Tryd.results26, go_sem, z0, z1, z2, z3, z4]) rfl ?_
      have hb6 : Below w.heap.size w w6 := by rw [H6.out]; exact HB5.out.trans (putA_below _ _ _ _ (Nat.le_refl _))
      have ho6 : OwnQ w6 (C + 1) (.slice sp ps.length sc) ps := by
        have hR : w.heap.size < C + 1 := by have := HCL.out; omega
        rw [H6.out]
        unfold putA
        exact ownsRow_setCell_below (ownsRow_setCell_below (ownsRow_setCell_below (ownsRow_setCell_below (ownsRow_setCell_below HOW.out (a := ⟨w.heap.size, 0, none⟩) hR _) (a := ⟨w.heap.size, 1, none⟩) hR _) (a := ⟨w.heap.size, 2, none⟩) hR _) (a := ⟨w.heap.size, 3, none⟩) hR _) (a := ⟨w.heap.size, 4, none⟩) hR _
      rw [HQ.out, HE.out]
      exact ⟨⟨_, rfl, ownQ_mono ho6 (by have h2 := HCL.out; omega)⟩, hb6⟩
end Go.Proofs.YtdgplijnhkgeiaaDoor
