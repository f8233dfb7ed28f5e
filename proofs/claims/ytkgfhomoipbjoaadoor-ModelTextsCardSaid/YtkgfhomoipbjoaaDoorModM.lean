/- Layer 10: New of both; the reference's Bad, found. -/
import Derived.Test.YtkgfhomoipbjoaaDoorModL
import Derived.Laws.MakeOwn
namespace Go.Proofs.YtkgfhomoipbjoaaDoor
open Go.RowKit
set_option linter.unusedVariables false
set_option linter.unusedSimpArgs false
theorem uXs : Tryd.prog.underlying 29 = some (.slice 53) := by kernel_rfl
theorem infoX : (Tryd.prog.info? 53).map (fun i => (i.zero, i.size, i.bytes)) = some (some sz, 4, 40) := by kernel_rfl
theorem made_ses (n : Nat) : madeCells #[.bool false, .bool false, .slice none 0 0, .int .i64 0] (n * 4) = ((List.range (n * 4)).map (cell4 (fun _ => s0) (fun _ => .slice none 0 0))).toArray := by
  apply Array.toList_inj.1
  simp only [madeCells]
  simp
  intro a ha
  unfold cell4 s0
  rcases (by omega : a % 4 = 0 ∨ a % 4 = 1 ∨ a % 4 = 2 ∨ a % 4 = 3) with h | h | h | h <;> simp [h]
theorem tr_made {T : TypeId} (w : World) (n : Nat) (hn : n ≤ 6) : TR (w.alloc (.cells ((List.range (n * 4)).map (cell4 (fun _ => s0) (fun _ => .slice none 0 0))).toArray T)) (.slice (some ⟨w.heap.size, 0, none⟩) n n) n (fun _ => s0) := by
  have hr : RowF T (w.alloc (.cells ((List.range (n * 4)).map (cell4 (fun _ => s0) (fun _ => .slice none 0 0))).toArray T)) w.heap.size (n * 4) (cell4 (fun _ => s0) (fun _ => .slice none 0 0)) := ⟨_, heap_alloc_new w _, by show List.take (n * 4) ((List.range (n * 4)).map _) = _; rw [List.take_of_length_le (by simp)]⟩
  exact .row _ n n _ (fun _ => .slice none 0 0) (Nat.le_refl _) (by omega) fun i hi => hr.ses (fun k hk => PO.nil _) i hi
theorem run_ses {T SL : TypeId} (uT : Tryd.prog.underlying SL = some (.slice T)) (infoT : (Tryd.prog.info? T).map (fun i => (i.zero, i.size, i.bytes)) = some (some sz, 4, 40)) (n : Nat) (hn : n ≤ 6) (w : World) : (Instr.makeSlice SL (.int .i64 n) (.int .i64 n)).run Tryd.prog w = .ok (.slice (some ⟨w.heap.size, 0, none⟩) n n) (w.alloc (.cells ((List.range (n * 4)).map (cell4 (fun _ => s0) (fun _ => .slice none 0 0))).toArray T)) := by
  obtain ⟨i, hi, hz, hs, hb⟩ := info_parts infoT
  rw [run_makeSlice w SL T i _ uT hi hz .i64 .i64 n n (by omega) (by omega) (by rw [hs]; omega) (by rw [hb]; omega) (by omega)]
  rw [hs, ← made_ses]
  simp [Value.cells, sz]
def clampN (t : Int) : Nat := if t < 0 then 0 else if 6 < t then 6 else t.toNat
theorem clamp6 (t : Int) : clampN t ≤ 6 := by unfold clampN; repeat' split
                                              all_goals omega
set_option maxHeartbeats 1000000 in
theorem mnew10 (t : Int) (w : World) : Calls Tryd.prog 5 #[.int .i64 t] w fun e w' => ∃ tv, e = .returned (.agg #[.slice none 0 0, tv]) ∧ TR w' tv (clampN t) (fun _ => s0) ∧ Below w.heap.size w w' := by
  refine Calls.veil fun Q HQ => ?_
  have h6 := clamp6 t
  obtain ⟨n, hn⟩ : ∃ n, n = clampN t := ⟨_, rfl⟩
  rw [← hn] at h6 HQ
  have hrun := fun (W : World) => run_ses uSess infoSess n h6 W
  have HTR := Lib.hid (fun (W : World) => tr_made (T := 60) W n h6)
  unfold clampN at hn
  have h6' : (n : Int) ≤ 6 := by omega
  rcases (by omega : t < 0 ∨ (0 ≤ t ∧ 6 < t) ∨ (0 ≤ t ∧ t ≤ 6)) with q | ⟨q, q2⟩ | ⟨q, q2⟩
  · rw [if_pos q] at hn
    subst hn
    have hmax : max t 0 = 0 := by omega
    go_enter Tryd.func5, Tryd.ntmps5
    go_upto_region 1 with fail
    generalize hU : World.alloc _ _ = U
    obtain ⟨R, hR⟩ : ∃ R, R = w.heap.size := ⟨_, rfl⟩
    have HBU := Lib.hid (show Below w.heap.size w U by rw [← hU]; (repeat (first | exact Below.refl _ _ | assumption | refine below_new ?_ _ | refine Below.drew ?_ | refine below_drewN ?_ _ | refine below_on ?_ (by assumption))))
    have HU := Lib.hid (show U.heap[R]? = some (.cells #[.slice none 0 0, .slice none 0 0] 27 (0, 0)) by rw [hR, ← hU]; exact heap_alloc_new _ _)
    have HRE := Lib.hid hR
    rw [← hR]
    clear hU hR
    have hr := hrun U
    rw [show ((0 : Nat) : Int) = 0 from rfl] at hr
    have HTU := Lib.hid (HTR.out U)
    generalize hV : U.alloc _ = V at hr HTU
    have hbV : Below U.heap.size U V := by rw [← hV]; (repeat (first | exact Below.refl _ _ | assumption | refine below_new ?_ _ | refine Below.drew ?_ | refine below_drewN ?_ _ | refine below_on ?_ (by assumption)))
    have hVR := (hbV.block R (Array.getElem?_eq_some_iff.1 HU.out).1).trans HU.out
    have HVR := Lib.hid hVR
    have r0 : V.cell? ⟨R, 0, none⟩ = some (.slice none 0 0) := by rw [cell_of_row _ _ _ _ _ (0, 0) hVR]; rfl
    have r1 : V.cell? ⟨R, 1, none⟩ = some (.slice none 0 0) := by rw [cell_of_row _ _ _ _ _ (0, 0) hVR]; rfl
    have rf : ∀ i, V.frozen? ⟨R, i, none⟩ = false := fun i => frozen_of_row _ _ _ _ _ hVR
    have HBV := Lib.hid (HBU.out.trans (hbV.mono HBU.out.size))
    clear hV hbV hVR hrun
    go_wp2_with fail
    refine bodyPost_ret (v := .agg #[.slice none 0 0, .slice (some ⟨U.heap.size, 0, none⟩) 0 0]) (by simp [results, Tryd.results5, go_sem, r0, r1, World.cell?_setCell_same, World.cell?_setCell_other]) rfl ?_
    rw [HQ.out]
    have hre := HRE.out
    obtain ⟨k2, n2, o2⟩ := st2 (w := w) (X := []) (T := 27) (by decide) HVR.out (by omega) (KX.of_below HBV.out) (.slice none 0 0) (.slice (some ⟨U.heap.size, 0, none⟩) 0 0)
    have hfin : Below w.heap.size w _ := ⟨k2.os, k2.tape, k2.output, k2.size, fun k hk => k2.block k hk (by simp)⟩
    refine ⟨_, rfl, tr_keep2 HTU.out n2 fun b x hb => o2 b ?_, hfin⟩
    intro e; subst e; rw [r0] at hb; cases hb
  · rw [if_neg (by omega), if_pos q2] at hn
    subst hn
    have hmax : max t 0 = t := by omega
    have hmin : min t 6 = 6 := by omega
    go_enter Tryd.func5, Tryd.ntmps5
    go_upto_region 1 with fail
    generalize hU : World.alloc _ _ = U
    obtain ⟨R, hR⟩ : ∃ R, R = w.heap.size := ⟨_, rfl⟩
    have HBU := Lib.hid (show Below w.heap.size w U by rw [← hU]; (repeat (first | exact Below.refl _ _ | assumption | refine below_new ?_ _ | refine Below.drew ?_ | refine below_drewN ?_ _ | refine below_on ?_ (by assumption))))
    have HU := Lib.hid (show U.heap[R]? = some (.cells #[.slice none 0 0, .slice none 0 0] 27 (0, 0)) by rw [hR, ← hU]; exact heap_alloc_new _ _)
    have HRE := Lib.hid hR
    rw [← hR]
    clear hU hR
    have hr := hrun U
    rw [show ((6 : Nat) : Int) = 6 from rfl] at hr
    have HTU := Lib.hid (HTR.out U)
    generalize hV : U.alloc _ = V at hr HTU
    have hbV : Below U.heap.size U V := by rw [← hV]; (repeat (first | exact Below.refl _ _ | assumption | refine below_new ?_ _ | refine Below.drew ?_ | refine below_drewN ?_ _ | refine below_on ?_ (by assumption)))
    have hVR := (hbV.block R (Array.getElem?_eq_some_iff.1 HU.out).1).trans HU.out
    have HVR := Lib.hid hVR
    have r0 : V.cell? ⟨R, 0, none⟩ = some (.slice none 0 0) := by rw [cell_of_row _ _ _ _ _ (0, 0) hVR]; rfl
    have r1 : V.cell? ⟨R, 1, none⟩ = some (.slice none 0 0) := by rw [cell_of_row _ _ _ _ _ (0, 0) hVR]; rfl
    have rf : ∀ i, V.frozen? ⟨R, i, none⟩ = false := fun i => frozen_of_row _ _ _ _ _ hVR
    have HBV := Lib.hid (HBU.out.trans (hbV.mono HBU.out.size))
    clear hV hbV hVR hrun
    go_wp2_with fail
    refine bodyPost_ret (v := .agg #[.slice none 0 0, .slice (some ⟨U.heap.size, 0, none⟩) 6 6]) (by simp [results, Tryd.results5, go_sem, r0, r1, World.cell?_setCell_same, World.cell?_setCell_other]) rfl ?_
    rw [HQ.out]
    have hre := HRE.out
    obtain ⟨k2, n2, o2⟩ := st2 (w := w) (X := []) (T := 27) (by decide) HVR.out (by omega) (KX.of_below HBV.out) (.slice none 0 0) (.slice (some ⟨U.heap.size, 0, none⟩) 6 6)
    have hfin : Below w.heap.size w _ := ⟨k2.os, k2.tape, k2.output, k2.size, fun k hk => k2.block k hk (by simp)⟩
    refine ⟨_, rfl, tr_keep2 HTU.out n2 fun b x hb => o2 b ?_, hfin⟩
    intro e; subst e; rw [r0] at hb; cases hb
  · rw [if_neg (by omega), if_neg (by omega)] at hn
    obtain ⟨m, rfl⟩ : ∃ m : Nat, t = m := ⟨t.toNat, by omega⟩
    have hnm : n = m := by omega
    subst hnm
    have hmax : max (n : Int) 0 = n := by omega
    have hmin : min (n : Int) 6 = n := by omega
    clear h6 h6' q q2 hn
    go_enter Tryd.func5, Tryd.ntmps5
    go_upto_region 1 with fail
    generalize hU : World.alloc _ _ = U
    obtain ⟨R, hR⟩ : ∃ R, R = w.heap.size := ⟨_, rfl⟩
    have HBU := Lib.hid (show Below w.heap.size w U by rw [← hU]; (repeat (first | exact Below.refl _ _ | assumption | refine below_new ?_ _ | refine Below.drew ?_ | refine below_drewN ?_ _ | refine below_on ?_ (by assumption))))
    have HU := Lib.hid (show U.heap[R]? = some (.cells #[.slice none 0 0, .slice none 0 0] 27 (0, 0)) by rw [hR, ← hU]; exact heap_alloc_new _ _)
    have HRE := Lib.hid hR
    rw [← hR]
    clear hU hR
    have hr := hrun U
    have HTU := Lib.hid (HTR.out U)
    generalize hV : U.alloc _ = V at hr HTU
    have hbV : Below U.heap.size U V := by rw [← hV]; (repeat (first | exact Below.refl _ _ | assumption | refine below_new ?_ _ | refine Below.drew ?_ | refine below_drewN ?_ _ | refine below_on ?_ (by assumption)))
    have hVR := (hbV.block R (Array.getElem?_eq_some_iff.1 HU.out).1).trans HU.out
    have HVR := Lib.hid hVR
    have r0 : V.cell? ⟨R, 0, none⟩ = some (.slice none 0 0) := by rw [cell_of_row _ _ _ _ _ (0, 0) hVR]; rfl
    have r1 : V.cell? ⟨R, 1, none⟩ = some (.slice none 0 0) := by rw [cell_of_row _ _ _ _ _ (0, 0) hVR]; rfl
    have rf : ∀ i, V.frozen? ⟨R, i, none⟩ = false := fun i => frozen_of_row _ _ _ _ _ hVR
    have HBV := Lib.hid (HBU.out.trans (hbV.mono HBU.out.size))
    clear hV hbV hVR hrun
    go_wp2_with fail
    refine bodyPost_ret (v := .agg #[.slice none 0 0, .slice (some ⟨U.heap.size, 0, none⟩) n n]) (by simp [results, Tryd.results5, go_sem, r0, r1, World.cell?_setCell_same, World.cell?_setCell_other]) rfl ?_
    rw [HQ.out]
    have hre := HRE.out
    obtain ⟨k2, n2, o2⟩ := st2 (w := w) (X := []) (T := 27) (by decide) HVR.out (by omega) (KX.of_below HBV.out) (.slice none 0 0) (.slice (some ⟨U.heap.size, 0, none⟩) n n)
    have hfin : Below w.heap.size w _ := ⟨k2.os, k2.tape, k2.output, k2.size, fun k hk => k2.block k hk (by simp)⟩
    refine ⟨_, rfl, tr_keep2 HTU.out n2 fun b x hb => o2 b ?_, hfin⟩
    intro e; subst e; rw [r0] at hb; cases hb
set_option maxRecDepth 16000 in
set_option maxHeartbeats 1000000 in
theorem rnew10 (t : Int) (w : World) : Calls Tryd.prog 6 #[.int .i64 t] w fun e w' => ∃ tv, e = .returned (.agg #[.slice none 0 0, tv]) ∧ TR w' tv (clampN t) (fun _ => s0) ∧ Below w.heap.size w w' := by
  refine Calls.veil fun Q HQ => ?_
  have h6 := clamp6 t
  obtain ⟨n, hn⟩ : ∃ n, n = clampN t := ⟨_, rfl⟩
  rw [← hn] at h6 HQ
  have hrun := fun (W : World) => run_ses uXs infoX n h6 W
  have HTR := Lib.hid (fun (W : World) => tr_made (T := 53) W n h6)
  unfold clampN at hn
  rcases (by omega : t < 0 ∨ (0 ≤ t ∧ 6 < t) ∨ (0 ≤ t ∧ t ≤ 6)) with q | ⟨q, q2⟩ | ⟨q, q2⟩
  · rw [if_pos q] at hn
    subst hn
    go_enter Tryd.func6, Tryd.ntmps6
    go_upto_region 1 with fail
    generalize hU : World.alloc _ _ = U
    obtain ⟨R, hR⟩ : ∃ R, R = w.heap.size := ⟨_, rfl⟩
    have HBU := Lib.hid (show Below w.heap.size w U by rw [← hU]; (repeat (first | exact Below.refl _ _ | assumption | refine below_new ?_ _ | refine Below.drew ?_ | refine below_drewN ?_ _ | refine below_on ?_ (by assumption))))
    have HU := Lib.hid (show U.heap[R]? = some (.cells #[.slice none 0 0, .slice none 0 0] 31 (0, 0)) by rw [hR, ← hU]; exact heap_alloc_new _ _)
    have HRE := Lib.hid hR
    rw [← hR]
    clear hU hR
    have hr := hrun U
    rw [show ((0 : Nat) : Int) = 0 from rfl] at hr
    have HTU := Lib.hid (HTR.out U)
    generalize hV : U.alloc _ = V at hr HTU
    have hbV : Below U.heap.size U V := by rw [← hV]; (repeat (first | exact Below.refl _ _ | assumption | refine below_new ?_ _ | refine Below.drew ?_ | refine below_drewN ?_ _ | refine below_on ?_ (by assumption)))
    have hVR := (hbV.block R (Array.getElem?_eq_some_iff.1 HU.out).1).trans HU.out
    have HVR := Lib.hid hVR
    have r0 : V.cell? ⟨R, 0, none⟩ = some (.slice none 0 0) := by rw [cell_of_row _ _ _ _ _ (0, 0) hVR]; rfl
    have r1 : V.cell? ⟨R, 1, none⟩ = some (.slice none 0 0) := by rw [cell_of_row _ _ _ _ _ (0, 0) hVR]; rfl
    have rf : ∀ i, V.frozen? ⟨R, i, none⟩ = false := fun i => frozen_of_row _ _ _ _ _ hVR
    have HBV := Lib.hid (HBU.out.trans (hbV.mono HBU.out.size))
    clear hV hbV hVR hrun
    go_wp2_with fail
    refine bodyPost_ret (v := .agg #[.slice none 0 0, .slice (some ⟨U.heap.size, 0, none⟩) 0 0]) (by simp [results, Tryd.results6, go_sem, r0, r1, World.cell?_setCell_same, World.cell?_setCell_other]) rfl ?_
    rw [HQ.out]
    have hre := HRE.out
    obtain ⟨k2, n2, o2⟩ := st2 (w := w) (X := []) (T := 31) (by decide) HVR.out (by omega) (KX.of_below HBV.out) (.slice none 0 0) (.slice (some ⟨U.heap.size, 0, none⟩) 0 0)
    have hfin : Below w.heap.size w _ := ⟨k2.os, k2.tape, k2.output, k2.size, fun k hk => k2.block k hk (by simp)⟩
    refine ⟨_, rfl, tr_keep2 HTU.out n2 fun b x hb => o2 b ?_, hfin⟩
    intro e; subst e; rw [r0] at hb; cases hb
  · rw [if_neg (by omega), if_pos q2] at hn
    subst hn
    go_enter Tryd.func6, Tryd.ntmps6
    go_upto_region 1 with fail
    generalize hU : World.alloc _ _ = U
    obtain ⟨R, hR⟩ : ∃ R, R = w.heap.size := ⟨_, rfl⟩
    have HBU := Lib.hid (show Below w.heap.size w U by rw [← hU]; (repeat (first | exact Below.refl _ _ | assumption | refine below_new ?_ _ | refine Below.drew ?_ | refine below_drewN ?_ _ | refine below_on ?_ (by assumption))))
    have HU := Lib.hid (show U.heap[R]? = some (.cells #[.slice none 0 0, .slice none 0 0] 31 (0, 0)) by rw [hR, ← hU]; exact heap_alloc_new _ _)
    have HRE := Lib.hid hR
    rw [← hR]
    clear hU hR
    have hr := hrun U
    rw [show ((6 : Nat) : Int) = 6 from rfl] at hr
    have HTU := Lib.hid (HTR.out U)
    generalize hV : U.alloc _ = V at hr HTU
    have hbV : Below U.heap.size U V := by rw [← hV]; (repeat (first | exact Below.refl _ _ | assumption | refine below_new ?_ _ | refine Below.drew ?_ | refine below_drewN ?_ _ | refine below_on ?_ (by assumption)))
    have hVR := (hbV.block R (Array.getElem?_eq_some_iff.1 HU.out).1).trans HU.out
    have HVR := Lib.hid hVR
    have r0 : V.cell? ⟨R, 0, none⟩ = some (.slice none 0 0) := by rw [cell_of_row _ _ _ _ _ (0, 0) hVR]; rfl
    have r1 : V.cell? ⟨R, 1, none⟩ = some (.slice none 0 0) := by rw [cell_of_row _ _ _ _ _ (0, 0) hVR]; rfl
    have rf : ∀ i, V.frozen? ⟨R, i, none⟩ = false := fun i => frozen_of_row _ _ _ _ _ hVR
    have HBV := Lib.hid (HBU.out.trans (hbV.mono HBU.out.size))
    clear hV hbV hVR hrun
    go_wp2_with fail
    refine bodyPost_ret (v := .agg #[.slice none 0 0, .slice (some ⟨U.heap.size, 0, none⟩) 6 6]) (by simp [results, Tryd.results6, go_sem, r0, r1, World.cell?_setCell_same, World.cell?_setCell_other]) rfl ?_
    rw [HQ.out]
    have hre := HRE.out
    obtain ⟨k2, n2, o2⟩ := st2 (w := w) (X := []) (T := 31) (by decide) HVR.out (by omega) (KX.of_below HBV.out) (.slice none 0 0) (.slice (some ⟨U.heap.size, 0, none⟩) 6 6)
    have hfin : Below w.heap.size w _ := ⟨k2.os, k2.tape, k2.output, k2.size, fun k hk => k2.block k hk (by simp)⟩
    refine ⟨_, rfl, tr_keep2 HTU.out n2 fun b x hb => o2 b ?_, hfin⟩
    intro e; subst e; rw [r0] at hb; cases hb
  · rw [if_neg (by omega), if_neg (by omega)] at hn
    obtain ⟨m, rfl⟩ : ∃ m : Nat, t = m := ⟨t.toNat, by omega⟩
    have hnm : n = m := by omega
    subst hnm
    have hd1 : decide ((n : Int) < 0) = false := decide_eq_false (by omega)
    have hd2 : decide ((6 : Int) < n) = false := decide_eq_false (by omega)
    clear h6 q q2 hn
    go_enter Tryd.func6, Tryd.ntmps6
    go_upto_region 1 with fail
    generalize hU : World.alloc _ _ = U
    obtain ⟨R, hR⟩ : ∃ R, R = w.heap.size := ⟨_, rfl⟩
    have HBU := Lib.hid (show Below w.heap.size w U by rw [← hU]; (repeat (first | exact Below.refl _ _ | assumption | refine below_new ?_ _ | refine Below.drew ?_ | refine below_drewN ?_ _ | refine below_on ?_ (by assumption))))
    have HU := Lib.hid (show U.heap[R]? = some (.cells #[.slice none 0 0, .slice none 0 0] 31 (0, 0)) by rw [hR, ← hU]; exact heap_alloc_new _ _)
    have HRE := Lib.hid hR
    rw [← hR]
    clear hU hR
    have hr := hrun U
    have HTU := Lib.hid (HTR.out U)
    generalize hV : U.alloc _ = V at hr HTU
    have hbV : Below U.heap.size U V := by rw [← hV]; (repeat (first | exact Below.refl _ _ | assumption | refine below_new ?_ _ | refine Below.drew ?_ | refine below_drewN ?_ _ | refine below_on ?_ (by assumption)))
    have hVR := (hbV.block R (Array.getElem?_eq_some_iff.1 HU.out).1).trans HU.out
    have HVR := Lib.hid hVR
    have r0 : V.cell? ⟨R, 0, none⟩ = some (.slice none 0 0) := by rw [cell_of_row _ _ _ _ _ (0, 0) hVR]; rfl
    have r1 : V.cell? ⟨R, 1, none⟩ = some (.slice none 0 0) := by rw [cell_of_row _ _ _ _ _ (0, 0) hVR]; rfl
    have rf : ∀ i, V.frozen? ⟨R, i, none⟩ = false := fun i => frozen_of_row _ _ _ _ _ hVR
    have HBV := Lib.hid (HBU.out.trans (hbV.mono HBU.out.size))
    clear hV hbV hVR hrun
    go_wp2_with fail
    refine bodyPost_ret (v := .agg #[.slice none 0 0, .slice (some ⟨U.heap.size, 0, none⟩) n n]) (by simp [results, Tryd.results6, go_sem, r0, r1, World.cell?_setCell_same, World.cell?_setCell_other]) rfl ?_
    rw [HQ.out]
    have hre := HRE.out
    obtain ⟨k2, n2, o2⟩ := st2 (w := w) (X := []) (T := 31) (by decide) HVR.out (by omega) (KX.of_below HBV.out) (.slice none 0 0) (.slice (some ⟨U.heap.size, 0, none⟩) n n)
    have hfin : Below w.heap.size w _ := ⟨k2.os, k2.tape, k2.output, k2.size, fun k hk => k2.block k hk (by simp)⟩
    refine ⟨_, rfl, tr_keep2 HTU.out n2 fun b x hb => o2 b ?_, hfin⟩
    intro e; subst e; rw [r0] at hb; cases hb
def idxL (l : PL) (i : Int) : Option (Int × Int) := if 0 ≤ i ∧ i < l.length then some (ky l i.toNat, vl l i.toNat) else none
set_option maxHeartbeats 1000000 in
theorem rfound (l : PL) (v : Value) (i : Int) (w : World) (h : PR w v l) : Calls Tryd.prog 17 #[v, .int .i64 i] w fun e w' => e = .returned (fA (idxL l i)) ∧ Below w.heap.size w w' := by
  refine Calls.veil fun Q HQ => ?_
  obtain ⟨p, c, rfl, _, _, h3⟩ := h.parts
  clear h
  rcases (by omega : i < 0 ∨ (0 ≤ i ∧ l.length ≤ i) ∨ (0 ≤ i ∧ i < l.length)) with q | ⟨q, q2⟩ | ⟨q, q2⟩
  iterate 2
    case _ =>
      have HI := Lib.hid (show idxL l i = none by unfold idxL; rw [if_neg (by omega)])
      go_enter Tryd.func17, Tryd.ntmps17
      go_wp2_with fail
      refine bodyPost_ret (v := .agg #[.int .i64 4, .int .i64 0, .int .i64 0, .int .i64 0, .slice none 0 0]) (by simp [results, Tryd.results17, go_sem]) rfl ?_
      rw [HQ.out, HI.out]
      exact ⟨rfl, by (repeat (first | exact Below.refl _ _ | assumption | refine below_new ?_ _ | refine Below.drew ?_ | refine below_drewN ?_ _ | refine below_on ?_ (by assumption)))⟩
  obtain ⟨r, rfl⟩ : ∃ r : Nat, i = r := ⟨i.toNat, by omega⟩
  obtain ⟨g, o, rfl, x0, x1⟩ := h3.out r (by omega)
  have HI := Lib.hid (show idxL l r = some (ky l r, vl l r) by unfold idxL; rw [if_pos ⟨q, q2⟩]; rfl)
  have HGL := Lib.hid (World.block_lt_of_cell? w _ x0)
  generalize ky l r = kk at *
  generalize vl l r = vv at *
  clear h3
  go_enter Tryd.func17, Tryd.ntmps17
  go_upto_region 1 with fail
  generalize hU : World.alloc _ _ = U
  obtain ⟨R, hR⟩ : ∃ R, R = w.heap.size := ⟨_, rfl⟩
  have HBU := Lib.hid (show Below w.heap.size w U by rw [← hU]; (repeat (first | exact Below.refl _ _ | assumption | refine below_new ?_ _ | refine Below.drew ?_ | refine below_drewN ?_ _ | refine below_on ?_ (by assumption))))
  have HA := Lib.hid (show A5 U R by unfold A5; rw [hR, ← hU]; exact heap_alloc_new _ _)
  have HRE := Lib.hid hR
  have hgR : g ≠ R := by have := HGL.out; simp at this; omega
  have x0 : ∀ x : E4 U [R], x.w.cell? ⟨g, o + r * 2, none⟩ = some (.int .i64 kk) := E4.cells (Ext.use (Ext.cells x0) HBU.out) (by simp; exact hgR)
  have x1 : ∀ x : E4 U [R], x.w.cell? ⟨g, o + r * 2 + 1, none⟩ = some (.int .i64 vv) := E4.cells (Ext.use (Ext.cells x1) HBU.out) (by simp; exact hgR)
  rw [← hR]
  clear hU hR
  go_upto_region 3 with fail
  obtain ⟨c0, c1, c2, c3, c4, cf⟩ := HA.out.c
  (with_reducible refine wp_region_mix (fun w' => ∃ x : E4 U [R], w' = x.w) ?_ ?_ ?_ ?_; kernel_rfl; kernel_rfl; exact ⟨⟨U.drew, .of_below (Below.refl _ _).drew⟩, rfl⟩)
  repeat (first | ((with_reducible refine mix_plain (by kernel_rfl) ?_); (first | go_big_quiet_skip | (go_big_quiet_want; go_big_quiet_op; go_big_quiet_on)); (with_reducible refine mix_on ?_)) | ((with_reducible refine mix_skip (by kernel_rfl) ?_); go_big_quiet_skip; (with_reducible refine mix_on ?_)))
  ((with_reducible refine wpMix_chain (by kernel_rfl) (by kernel_rfl) (fun K HK => ?_)); go_step)
  refine HK.out _ _ ⟨⟨_, ((((((KX.of_below (Below.refl _ _).drew).trans (KX.set (by simp))).trans (KX.set (by simp))).trans (KX.set (by simp))).trans (KX.set (by simp))).trans (KX.set (by simp)))⟩, rfl⟩ ?_
  clear HK K
  repeat (first | ((with_reducible refine mix_plain (by kernel_rfl) ?_); (first | go_big_quiet_skip | (go_big_quiet_want; go_big_quiet_op; go_big_quiet_on)); (with_reducible refine mix_on ?_)) | ((with_reducible refine mix_skip (by kernel_rfl) ?_); go_big_quiet_skip; (with_reducible refine mix_on ?_)))
  refine wpMix_nil ?_
  go_wp2_with fail
  refine bodyPost_ret (v := .agg #[.int .i64 1, .int .i64 kk, .int .i64 vv, .int .i64 0, .slice none 0 0]) (by simp [results, Tryd.results17, go_sem, c0, c1, c2, c3, c4, World.cell?_setCell_same, World.cell?_setCell_other]) rfl ?_
  rw [HQ.out, HI.out]
  have hRE := HRE.out
  have HD := Lib.hid (HBU.out.trans ((Below.refl _ _).drew.mono HBU.out.size))
  have hle : w.heap.size ≤ R := by omega
  exact ⟨rfl, by repeat' (first | with_reducible exact HBU.out | with_reducible refine Below.drew ?_ | with_reducible refine below_setB ?_ hle)⟩
end Go.Proofs.YtkgfhomoipbjoaaDoor
