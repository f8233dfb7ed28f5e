/- Layer 15: the reference's Do: Call. -/
import Derived.Test.YtdnjconfmaiegaaFrmL
import Derived.Test.YtdnjconfmaiegaaFrmT
import Derived.Test.YtdnjconfmaiegaaFrmH
import Derived.Test.YtdnjconfmaiegaaHldA
import Derived.Deep.RegionHeldLaw
import Derived.Deep.RegionLaw
import Derived.Deep.AppendLies
namespace Go.Proofs.Ytdnjconfmaiegaa
open Go.RowKit
set_option linter.unusedVariables false
set_option linter.unusedSimpArgs false
theorem y26 {w : World} {Y : Nat} {fn : Int} {R : Nat → Int} (h : Blk 65 w Y 26 (frF ⟨fn, 0, R⟩)) : w.cell? ⟨Y, 0, none⟩ = some (.int .i64 fn) ∧ w.cell? ⟨Y, 1, none⟩ = some (.int .i64 0) ∧ w.cell? ⟨Y, 2, none⟩ = some (.int .u64 (R 0)) ∧ w.cell? ⟨Y, 3, none⟩ = some (.int .u64 (R 1)) ∧ w.cell? ⟨Y, 4, none⟩ = some (.int .u64 (R 2)) ∧ w.cell? ⟨Y, 5, none⟩ = some (.int .u64 (R 3)) ∧ w.cell? ⟨Y, 6, none⟩ = some (.int .u64 (R 4)) ∧ w.cell? ⟨Y, 7, none⟩ = some (.int .u64 (R 5)) ∧ w.cell? ⟨Y, 8, none⟩ = some (.int .u64 (R 6)) ∧ w.cell? ⟨Y, 9, none⟩ = some (.int .u64 (R 7)) ∧ w.cell? ⟨Y, 10, none⟩ = some (.int .u64 (R 8)) ∧ w.cell? ⟨Y, 11, none⟩ = some (.int .u64 (R 9)) ∧ w.cell? ⟨Y, 12, none⟩ = some (.int .u64 (R 10)) ∧ w.cell? ⟨Y, 13, none⟩ = some (.int .u64 (R 11)) ∧ w.cell? ⟨Y, 14, none⟩ = some (.int .u64 (R 12)) ∧ w.cell? ⟨Y, 15, none⟩ = some (.int .u64 (R 13)) ∧ w.cell? ⟨Y, 16, none⟩ = some (.int .u64 (R 14)) ∧ w.cell? ⟨Y, 17, none⟩ = some (.int .u64 (R 15)) ∧ w.cell? ⟨Y, 18, none⟩ = some (.int .u64 (R 16)) ∧ w.cell? ⟨Y, 19, none⟩ = some (.int .u64 (R 17)) ∧ w.cell? ⟨Y, 20, none⟩ = some (.int .u64 (R 18)) ∧ w.cell? ⟨Y, 21, none⟩ = some (.int .u64 (R 19)) ∧ w.cell? ⟨Y, 22, none⟩ = some (.int .u64 (R 20)) ∧ w.cell? ⟨Y, 23, none⟩ = some (.int .u64 (R 21)) ∧ w.cell? ⟨Y, 24, none⟩ = some (.int .u64 (R 22)) ∧ w.cell? ⟨Y, 25, none⟩ = some (.int .u64 (R 23)) :=
  ⟨h.get (i := 0) (by omega), h.get (i := 1) (by omega), h.get (i := 2) (by omega), h.get (i := 3) (by omega), h.get (i := 4) (by omega), h.get (i := 5) (by omega), h.get (i := 6) (by omega), h.get (i := 7) (by omega), h.get (i := 8) (by omega), h.get (i := 9) (by omega), h.get (i := 10) (by omega), h.get (i := 11) (by omega), h.get (i := 12) (by omega), h.get (i := 13) (by omega), h.get (i := 14) (by omega), h.get (i := 15) (by omega), h.get (i := 16) (by omega), h.get (i := 17) (by omega), h.get (i := 18) (by omega), h.get (i := 19) (by omega), h.get (i := 20) (by omega), h.get (i := 21) (by omega), h.get (i := 22) (by omega), h.get (i := 23) (by omega), h.get (i := 24) (by omega), h.get (i := 25) (by omega)⟩
theorem buildF1 (f : Fm) (w : World) : (Instr.buildSlice 29 1 #[(0, .agg ((List.range 26).map (frF f)).toArray)]).run Try.prog w = .ok (.slice (some ⟨w.heap.size, 0, none⟩) 1 1) (w.alloc (.cells ((List.range 26).map (frF f)).toArray 65)) := by
  obtain ⟨i0, hi, hz, hs, _⟩ := info_any infoFF
  exact run_buildSlice w _ _ 1 _ _ i0 _ uFF hi hz (by rw [hs]; decide) (by rw [hs]; decide) (by rw [hs]; kernel_rfl)
theorem uF : ∃ d, Try.prog.underlying 65 = some d ∧ d.isRow = true := by
  have h : (Try.prog.underlying 65).map (·.isRow) = some true := by kernel_rfl
  cases h1 : Try.prog.underlying 65 with
  | none => rw [h1] at h; cases h
  | some d => rw [h1] at h; exact ⟨d, rfl, by simpa using h⟩
theorem infoF26 : (Try.prog.info? 65).map (·.size) = some 26 := by kernel_rfl
theorem fr_one {f : Fm} : ∀ u ∈ (List.range 26).map (frF f), u.oneCell' = true := by
  intro u hu
  simp only [List.mem_map] at hu
  obtain ⟨i, _, rfl⟩ := hu
  unfold frF
  split
  · rfl
  · split <;> rfl
theorem own_bl {T : TypeId} {s : Nat} {w w' : World} {B : Nat} {v : Value} {n : Nat} {xs : List Value} (h : w.ownsRow B T s v n xs) (k : Below w.heap.size w w') : w'.ownsRow B T s v n xs := by
  refine ⟨h.1, ?_⟩
  rcases h.2 with hn | ⟨g, cap, cur, rfl, hb, hgg, rest⟩
  · exact .inl hn
  · exact .inr ⟨g, cap, cur, rfl, hb, by rw [k.block g (blk_lt hgg)]; exact hgg, rest⟩
theorem KS.drew {X : Nat → Prop} {W w' : World} (h : KS X W w') : KS X W w'.drew := h.trans (.of_below (Below.refl _ _).drew)
theorem KS.alloc {X : Nat → Prop} {W w' : World} (h : KS X W w') (o : Obj) : KS X W (w'.alloc o) := h.trans (.of_below (below_new (Below.refl _ _) o))
theorem KS.setX {X i : Nat} {W w' : World} (h : KS (fun j => j = X) W w') (v : Value) : KS (fun j => j = X) W (w'.setCell ⟨X, i, none⟩ v) := h.trans (KS.set w' X i v)
theorem frF_i (fn : Int) (L : Nat → Int) (i : Nat) (hi : i < 24) (j : Nat) (hj : j < 26) : upF (frF ⟨fn, 0, fun k => if k < i then L k else 0⟩) (2 + i) (.int .u64 (L i)) j = frF ⟨fn, 0, fun k => if k < i + 1 then L k else 0⟩ j := by
  rw [frF_r _ i _ j hj]
  unfold frF
  by_cases h0 : j = 0
  · rw [if_pos h0, if_pos h0]
  · rw [if_neg h0, if_neg h0]
    by_cases h1 : j = 1
    · rw [if_pos h1, if_pos h1]
    · rw [if_neg h1, if_neg h1]
      simp only []
      by_cases h2 : j - 2 = i
      · rw [if_pos h2, if_pos (by omega), h2]
      · rw [if_neg h2]
        by_cases h3 : j - 2 < i
        · rw [if_pos h3, if_pos (by omega)]
        · rw [if_neg h3, if_neg (by omega)]
theorem frF_n (fn : Int) (L : Nat → Int) (n i : Nat) (hi : i = n ∨ (24 ≤ i ∧ i ≤ n)) (j : Nat) (hj : j < 26) : frF ⟨fn, 0, fun k => if k < i then L k else 0⟩ j = frF ⟨fn, 0, fun k => if k < n then L k else 0⟩ j := by
  rcases hi with rfl | hi
  · rfl
  · unfold frF
    by_cases h0 : j = 0
    · rw [if_pos h0, if_pos h0]
    · rw [if_neg h0, if_neg h0]
      by_cases h1 : j = 1
      · rw [if_pos h1, if_pos h1]
      · rw [if_neg h1, if_neg h1]
        simp only []
        rw [if_pos (by omega), if_pos (by omega)]
set_option maxRecDepth 8000 in
set_option maxHeartbeats 8000000 in
theorem rdo_0 {w : World} {T : Td} {fv rv sv lv : Value} (hx : XR w T fv rv sv) (fn : Int) {n : Nat} {L : Nat → Int} (pk pv : Int) (hu : UR w lv n L) (hb1 : T.nf ≤ 1000) (hb2 : T.ns ≤ 1000) (hb3 : T.row.length ≤ 80000) :
    Calls Try.prog 10 #[xV T fv rv sv, opV ⟨0, fn, n, L, pk, pv⟩ lv] w (DoX w (callT T fn n L) (0) (false) sv) := by
  refine Calls.veil fun Q HQ => ?_
  have HX := Lib.hid hx; have HU := Lib.hid hu
  obtain ⟨fa, fc, rfl, fc1, fc2⟩ := hx.f.slice
  obtain ⟨ra, rc, rfl, _, _⟩ := hx.r.1.slice
  obtain ⟨sa, sc, rfl, sc1, sc2⟩ := hx.s.slice
  obtain ⟨la, lc, rfl, lc1, lc2⟩ := hu.slice
  obtain ⟨d, hdu, hdr⟩ := uX
  have HDU := Lib.hid hdu; have HDR := Lib.hid hdr
  unfold xV opV
  simp only
  clear hx hu hdu hdr
  go_enter Try.func10, Try.ntmps10
  go_upto_region 1 with fail
  generalize hU : World.alloc _ _ = U
  obtain ⟨u0, u1, u2, us, hbu⟩ := heap3f hU
  obtain ⟨X, hX⟩ : ∃ X, X = w.heap.size := ⟨_, rfl⟩
  rw [← hX] at u0 u1 u2 us ⊢
  have HXE := Lib.hid hX
  have hXB : Blk 33 U X 15 (xF T (.slice fa T.nf fc) (.slice ra T.row.length rc) (.slice sa T.ns sc)) := u0
  have HB := Lib.hid hXB
  have o0 := newcell u1 0 _ rfl; have o1 := newcell u1 1 _ rfl; have o2 := newcell u1 2 _ rfl; have o3 := newcell u1 3 _ rfl; have o4 := newcell u1 4 _ rfl
  have HO := Lib.hid u1; have HZ := Lib.hid u2
  have HUS := Lib.hid us; have HBU := Lib.hid hbu
  have x12 : U.cell? ⟨X, 12, none⟩ = some (.slice fa T.nf fc) := hXB.get (i := 12) (by omega)
  have x13 : U.cell? ⟨X, 13, none⟩ = some (.slice ra T.row.length rc) := hXB.get (i := 13) (by omega)
  have x14 : U.cell? ⟨X, 14, none⟩ = some (.slice sa T.ns sc) := hXB.get (i := 14) (by omega)
  have xfr : ∀ i, U.frozen? ⟨X, i, none⟩ = false := hXB.fr
  have HXU := Lib.hid (HX.out.below hbu)
  clear hU u0 u1 u2 us hbu hX hXB
  go_upto_region 5 with (first | (refine wpList_buildF (by rfl) (.tmp 24) (by rfl) fn (by rfl) ?_) | (refine wpList_store_row (by rfl) 65 (.tmp 8) (.tmp 25) (by rfl) U.heap.size ((List.range 26).map (frF ⟨fn, 0, fun _ => 0⟩)).toArray (by rfl) (by rfl) 65 _ (heap_alloc_new _ _) infoF_T (by rfl) (frF_all fn) ?_))
  generalize hV : World.setRow _ _ _ = V
  obtain ⟨hh, hbv, hsv⟩ := setrowE hV
  have hy0 : Blk 65 V U.heap.size 26 (frF ⟨fn, 0, fun k => if k < 0 then L k else 0⟩) := by
    have : Blk 65 V U.heap.size 26 (frF ⟨fn, 0, fun _ => 0⟩) := hh
    exact this.congr fun j hj => by unfold frF; simp
  obtain ⟨Y, hY⟩ : ∃ Y, Y = U.heap.size := ⟨_, rfl⟩
  rw [← hY] at hy0 ⊢
  have HY0 := Lib.hid hy0; have HYE := Lib.hid hY; have HBV := Lib.hid hbv
  have HSV := Lib.hid hsv
  have x12 := Ext.use (Ext.cells x12) hbv
  have o2 := Ext.use (Ext.cells o2) hbv
  have X12 := Lib.hid x12; have O2 := Lib.hid o2
  have hyx : Y ≠ X := by have := HUS.out; have := HXE.out; omega
  have hyo : X + 1 ≠ Y := by have := HUS.out; have := HXE.out; omega
  have HYX := Lib.hid hyx; have HYO := Lib.hid hyo
  clear hV hh hbv hy0 hY hsv x12 x13 x14 xfr o0 o1 o2 o3 o4 hyx hyo
  go_wp2_with fail
  go_loopw [9] (fun iv wr => ∃ i : Nat, i ≤ 24 ∧ i ≤ n ∧ iv = .int .i64 i ∧ Hid (Blk 65 wr Y 26 (frF ⟨fn, 0, fun k => if k < i then L k else 0⟩)) ∧ Hid (KS (fun j => j = Y) V wr))
    (fun iv _ => 24 - (intOf iv).toNat)
  case atStart => exact ⟨0, by omega, Nat.zero_le _, rfl, HY0, Lib.hid (KS.of_below (Below.refl _ _))⟩
  case round =>
    obtain ⟨i, hi, hin, rfl, HYR, HKR⟩ := hrel
    have o2 := ks_cell HKR.out O2.out HYO.out (by have := HUS.out; have := HSV.out; omega)
    have HBUW := Lib.hid (show Below U.heap.size U wr from ⟨HKR.out.os.trans HBV.out.os, HKR.out.tape.trans HBV.out.tape, HKR.out.output.trans HBV.out.output, Nat.le_trans HBV.out.size HKR.out.size, fun j hj => (HKR.out.block j (Nat.lt_of_lt_of_le hj HBV.out.size) (by have := HYE.out; omega)).trans (HBV.out.block j hj)⟩)
    have HBL := Lib.hid (below_on HBU.out HBUW.out)
    rcases (by omega : (i < n ∧ i < 24) ∨ ((i < n ∧ i = 24) ∨ i = n)) with ⟨h1, h2⟩ | h1
    · obtain ⟨g2, off, c2, hue, hc⟩ := ur_at HU.out (i := i) h1
      simp only [Value.slice.injEq, true_and] at hue
      obtain ⟨rfl, rfl⟩ := hue
      have uc := Ext.use (Ext.cells hc) HBL.out
      have hii : (i : Int) < n := by omega
      have hi24 : (i : Int) < 24 := by omega
      have yc : wr.cell? ⟨Y, 2 + i, none⟩ = some (.int .u64 0) := by
        rw [HYR.out.get (i := 2 + i) (by omega)]; unfold frF; rw [if_neg (by omega), if_neg (by omega)]; simp
      have yfr : ∀ i, wr.frozen? ⟨Y, i, none⟩ = false := HYR.out.fr
      clear hc
      go_upto_region 7 with fail
      generalize hW : World.setCell _ _ _ = W3
      have HYN := Lib.hid (show Blk 65 W3 Y 26 (frF ⟨fn, 0, fun k => if k < i + 1 then L k else 0⟩) from by rw [← hW]; exact (HYR.out.set (2 + i) _).congr fun j hj => frF_i _ _ i h2 j hj)
      have HKN := Lib.hid (HKR.out.trans (show KS (fun j => j = Y) wr W3 by rw [← hW]; exact KS.set wr Y _ _))
      clear hW uc yc yfr o2
      go_wp2_with fail
      go_roundw
      case rel => exact ⟨i + 1, by omega, by omega, by go_num, HYN, HKN⟩
      case measure => simp [intOf]; omega
    obtain ⟨R, hR⟩ : ∃ R : Nat → Int, R = fun k => if k < n then L k else 0 := ⟨_, rfl⟩
    have hyr : Blk 65 wr Y 26 (frF ⟨fn, 0, R⟩) := by rw [hR]; exact HYR.out.congr fun j hj => frF_n fn L n i (by omega) j hj
    have HY := Lib.hid hyr
    have HRE := Lib.hid hR
    have hxb := HB.out.below HBUW.out
    have HXW := Lib.hid hxb
    have x12 : wr.cell? ⟨X, 12, none⟩ = some (.slice fa T.nf fc) := hxb.get (i := 12) (by omega)
    have HFR := Lib.hid (HXU.out.below HBUW.out).f
    have HCE := Lib.hid (fun (y : Ext wr) => (And.intro (Ext.use (Ext.cells x12) y.h) (fun i => (HXW.out.below y.h).fr i) : y.w.cell? ⟨X, 12, none⟩ = _ ∧ ∀ i, y.w.frozen? ⟨X, i, none⟩ = false))
    have x12n := fun o => Ext.on x12 o
    have x12nn : ∀ o o', ((wr.alloc o).alloc o').cell? ⟨X, 12, none⟩ = _ := fun o o' => Ext.on (x12n o) o'
    clear hR hyr hxb
    have hh2 : (i < n ∧ ¬ (i : Int) < 24) ∨ (¬ (i : Int) < n) := by omega
    clear h1
    rcases hh2 with ⟨h1, h2⟩ | h1
    all_goals
      (try have hii : (i : Int) < n := by omega)
      go_upto_region 9 with fail
      clear o2
      have HYW := Lib.hid (HY.out)
      obtain ⟨dF, hdF, hdr⟩ := uF
      obtain ⟨FV, hFV⟩ : ∃ FV : Value, FV = .agg ((List.range 26).map (frF ⟨fn, 0, R⟩)).toArray := ⟨_, rfl⟩
      have HLY := Lib.hid (show ∀ y : Ext wr, (Instr.loadAt 65 (.pointer (some ⟨Y, 0, none⟩))).run Try.prog y.w = .ok FV y.w from fun y => by
        have hr := (HY.out.below y.h).range 0 26 (by omega)
        simp only [Nat.zero_add] at hr
        rw [hFV]; exact run_loadAt_mid (P := Try.prog) y.w Y 0 65 _ dF hr hdF hdr (by rw [List.length_map, List.length_range]; exact infoF26))
      have HLX := Lib.hid (show ∀ y : Ext wr, (Instr.loadAt 29 (.pointer (some ⟨X, 12, none⟩))).run Try.prog y.w = .ok (.slice fa T.nf fc) y.w from fun y => by have hce := (HCE.out y).1; go_simp)
      have HBY := Lib.hid (show ∀ v : World, (Instr.buildSlice 29 1 #[(0, FV)]).run Try.prog v = .ok (.slice (some ⟨v.heap.size, 0, none⟩) 1 1) (v.alloc (.cells ((List.range 26).map (frF ⟨fn, 0, R⟩)).toArray 65)) from fun v => by rw [hFV]; exact buildF1 _ v)
      clear hFV hdF hdr
      refine wp_region_L (fun w' => ∃ y : Ext wr, w' = y.w) 8 (by decide +kernel) ?_
      generalize hwd : World.drew wr = wd
      have hbd : Below wr.heap.size wr wd := by rw [← hwd]; exact (Below.refl _ _).drew
      have HDS := Lib.hid (show wd.heap.size = wr.heap.size by rw [← hwd]; rfl)
      clear hwd
      (refine wpAnyL_take (i := 1) (v := ?_) [2, 3, 6, 7, 8] rfl (by decide +kernel) (by decide +kernel) (by decide +kernel) (by decide +kernel) (fun _ _ _ h => h) ?_ ⟨⟨wd, hbd⟩, rfl⟩ ?_; rotate_left; (refine Yields.yieldsIf (Or.inl ⟨by rfl, ?_⟩); intro w; go_simp); (try with_reducible rfl))
      simp only [Act.put, List.setIfInBounds_toArray, List.set_cons_succ, List.set_cons_zero]
      (refine wpAnyL_take (i := 2) (v := .slice fa T.nf fc) [3, 6, 7, 8] rfl (by decide +kernel) (by decide +kernel) (by decide +kernel) (by decide +kernel) (fun _ _ _ h => h) (yields_load rfl 29 (.tmp 46) rfl rfl (by rintro _ ⟨y, rfl⟩; exact HLX.out y)) ⟨⟨wd, hbd⟩, rfl⟩ ?_)
      (refine wpAnyL_take (i := 4) (v := FV) [5, 6, 7, 8] rfl (by decide +kernel) (by decide +kernel) (by decide +kernel) (by decide +kernel) (fun _ _ _ h => h) (yields_load rfl 65 (.tmp 8) rfl rfl (by rintro _ ⟨y, rfl⟩; exact HLY.out y)) ⟨⟨wd, hbd⟩, rfl⟩ ?_)
      simp only [Act.put, List.setIfInBounds_toArray, List.set_cons_succ, List.set_cons_zero]
      iterate 6
        all_goals (first | (refine wpAnyL_ready (rs := [0, 5]) (by decide +kernel) (by simp) ?_; refine (AllReadyL.cons rfl (fun K hK => ?_) (AllReadyL.cons rfl (fun K hK => ?_) AllReadyL.nil))) | (refine wpAnyL_ready (rs := [3, 5]) (by decide +kernel) (by simp) ?_; refine (AllReadyL.cons rfl (fun K hK => ?_) (AllReadyL.cons rfl (fun K hK => ?_) AllReadyL.nil))) | (refine wpAnyL_ready (rs := [0]) (by decide +kernel) (by simp) ?_; refine (AllReadyL.cons rfl (fun K hK => ?_) AllReadyL.nil)) | (refine wpAnyL_ready (rs := [3]) (by decide +kernel) (by simp) ?_; refine (AllReadyL.cons rfl (fun K hK => ?_) AllReadyL.nil)) | (refine wpAnyL_ready (rs := [5]) (by decide +kernel) (by simp) ?_; refine (AllReadyL.cons rfl (fun K hK => ?_) AllReadyL.nil)) | (refine wpAnyL_ready (rs := [6]) (by decide +kernel) (by simp) ?_; refine (AllReadyL.cons rfl (fun K hK => ?_) AllReadyL.nil)) | (refine wpAnyL_ready (rs := [7]) (by decide +kernel) (by simp) ?_; refine (AllReadyL.cons rfl (fun K hK => ?_) AllReadyL.nil)) | (refine wpAnyL_ready (rs := [8]) (by decide +kernel) (by simp) ?_; refine (AllReadyL.cons rfl (fun K hK => ?_) AllReadyL.nil)))
        all_goals
          (first
            | (refine step_build rfl 29 65 (.tmp 49) rfl rfl _ HBY.out ?_; simp only [Act.put, List.setIfInBounds_toArray, List.set_cons_succ, List.set_cons_zero])
            | (refine step_app uFF infoFF (by rfl) (by decide) (by decide) rfl (.tmp 45) (.tmp 47) rfl rfl wr (by first | exact below_new hbd _ | exact below_new (below_new hbd _) _) (by rfl) (own_empty (by first | exact heap_alloc_new _ _ | exact hb_last | exact hb_prev) (by first | exact Nat.le_of_eq HDS.out.symm | (have := HDS.out; omega) | (have := HDS.out; simp; omega))) (by rfl) ((HFR.out.keep (fun b cur hb => (by first | exact below_new hbd _ | exact below_new (below_new hbd _) _ : Below wr.heap.size wr _).block b (blk_lt hb))).apd) rf_one (by omega) (by omega) ?_; intro p1 c1 w1 ho1 hb1 hk1 hl1'; simp only [Nat.zero_add, List.nil_append] at ho1 hl1' ⊢; have z12 := (HCE.out ⟨w1, hb1⟩).1; have zf := (HCE.out ⟨w1, hb1⟩).2; have z12n := fun o => Ext.on z12 o; simp only [Act.put, List.setIfInBounds_toArray, List.set_cons_succ, List.set_cons_zero])
            | (refine step_app uFF infoFF (by rfl) (by decide) (by decide) rfl (.tmp 48) (.tmp 50) rfl rfl wr (by first | exact hb1 | exact below_new hb1 _ | exact (below_new hb1 _).drew | exact hb1.drew) (by rfl) (by first | exact ho1 | exact own_bl ho1 (below_new (Below.refl _ _) _)) (by rfl) (.inr ⟨_, _, rfl, by rfl, fun j u hu => World.news_of_block (by first | exact heap_alloc_new _ _ | exact (hk1 _ (by first | (simp; done) | (simp; omega) | omega) (by simp [Value.ownBlock])).trans (by first | exact heap_alloc_new _ _ | exact hb_prev | exact hb_last)) j u hu⟩) (news := (List.range 26).map (frF ⟨fn, 0, R⟩)) fr_one (by omega) (by omega) ?_; intro p2 c2 w2 ho2 hb2 hk2 hl2'; have y12 := (HCE.out ⟨w2, hb2⟩).1; have yf := (HCE.out ⟨w2, hb2⟩).2; simp only [Act.put, List.setIfInBounds_toArray, List.set_cons_succ, List.set_cons_zero])
            | go_simp)
        all_goals (refine hK _ _ (by first | exact .inl rfl | exact .inr ⟨⟨_, hb2⟩, rfl⟩ | exact .inr ⟨⟨_, below_new hb1 _⟩, rfl⟩ | exact .inr ⟨⟨_, hb1⟩, rfl⟩ | exact .inr ⟨⟨_, hbd⟩, rfl⟩ | exact .inr ⟨⟨_, below_new hbd _⟩, rfl⟩ | exact .inr ⟨⟨_, below_new (below_new hbd _) _⟩, rfl⟩) ?_; clear hK K)
      all_goals (refine wpAnyL_done (by kernel_rfl) ?_ _)
      all_goals
        have ho3 : w2.ownsRow wr.heap.size 65 26 (.slice p2 (T.nf + 1) c2) (T.nf + 1) ((List.range ((T.nf + 1) * 26)).map (rfF (upM T.fs T.nf ⟨fn, 0, R⟩))) := by rw [← rf_snoc]; exact ho2
        have HFR2 := Lib.hid (own_FR ho3)
        generalize hW : World.setCell _ _ _ = W
        have kw : KS (fun j => j = X) w2 W := by rw [← hW]; exact KS.set w2 X 12 _
        have hbw : Blk 33 W X 15 (xF (callT T fn n L) (.slice p2 (T.nf + 1) c2) (.slice ra T.row.length rc) (.slice sa T.ns sc)) := by
          rw [← hW]
          exact ((HXW.out.below hb2).set 12 _).congr fun j hj => xF_12 T (callT T fn n L) _ _ _ _ rfl j hj
        have hx2 := (HXU.out.below HBUW.out).below hb2
        have hxw := (show XR w2 (callT T fn n L) (.slice p2 (T.nf + 1) c2) (.slice ra T.row.length rc) (.slice sa T.ns sc) from ⟨by have := HFR2.out; rw [HRE.out] at this; exact this, hx2.r, hx2.s⟩).ks (show w2.heap[X]? = _ from HXW.out.below hb2) (by decide) (by decide) (by decide) kw
        have hzw := (kw.block (X + 2) (by have := HUS.out; have := HBUW.out.size; have := hb2.size; omega) (by omega)).trans (up hb2 (up HBUW.out HZ.out))
        have HBLW := Lib.hid (below_x (below_on HBL.out hb2) HXE.out kw)
        have HBW2 := Lib.hid hbw; have HXW2 := Lib.hid hxw; have HZW0 := Lib.hid hzw
        clear HLY HBY HLX
        clear hW kw hbw hxw hzw hx2 ho3 ho2 hk2 hl2' y12 yf hb2
        (try clear ho1 hb1 hk1 hl1' z12 zf z12n)
        clear x12 x12n x12nn
        have hrgx : W.rangeAt X 0 (xC (callT T fn n L) (.slice p2 (T.nf + 1) c2) (.slice ra T.row.length rc) (.slice sa T.ns sc)) := by
          have := (HBW2.out).range 0 15 (by omega)
          simpa [xC] using this
        have HRGX := Lib.hid hrgx
        have hthz : W.there (X + 2) 0 15 := by
          have hz : Blk 33 W (X + 2) 15 (xF ⟨fun _ => 0, fun _ => .int .u64 0, 0, fun _ => ⟨0, 0, fun _ => 0⟩, [], 0, fun _ => 0⟩ (.slice none 0 0) (.slice none 0 0) (.slice none 0 0)) := HZW0.out
          exact hz.there 0 15 (by omega)
        have HTHZ := Lib.hid hthz
        have HZW := Lib.hid (show ∃ c, W.heap[X + 2]? = some (.cells c 33 (0, 0)) from ⟨_, HZW0.out⟩)
        have HXRW := Lib.hid (show XR W (callT T fn n L) (.slice p2 (T.nf + 1) c2) (.slice ra T.row.length rc) (.slice sa T.ns sc) from HXW2.out)
        have HBELW := Lib.hid (show Below w.heap.size w W from HBLW.out)
        clear hrgx hthz
        go_wp2_with (first | (refine wpList_load_mid rfl 33 (.tmp 2) rfl X 0 rfl (xC (callT T fn n L) (.slice p2 (T.nf + 1) c2) (.slice ra T.row.length rc) (.slice sa T.ns sc)) d HRGX.out HDU.out HDR.out (by rw [xC_len]; exact infoX) ?_) | (refine wpList_store_mid rfl 33 (.tmp 4) (.tmp 171) rfl (X + 2) 0 (xC (callT T fn n L) (.slice p2 (T.nf + 1) c2) (.slice ra T.row.length rc) (.slice sa T.ns sc)).toArray rfl rfl (by rw [List.size_toArray, xC_len]; exact HTHZ.out) (by rw [List.size_toArray, xC_len]; exact infoX) (all_oneCell_toArray xC_one) ?_))
        refine bodyPost_ret (rdo_fin (Z := X + 2) (cs := xC (callT T fn n L) (.slice p2 (T.nf + 1) c2) (.slice ra T.row.length rc) (.slice sa T.ns sc)) (xC_len _ _ _ _) _ _ (World.rangeAt_setCells_same _ _ _ _ (by rw [xC_len]; exact HTHZ.out)) rfl rfl rfl) rfl ?_
        rw [HQ.out]
        obtain ⟨zc, hzc⟩ := HZW.out
        refine ⟨_, _, _, rfl, HXRW.out.ks hzc (by decide) (by decide) (by decide) (KS.setCells _ _ _ _), ?_, fun j e => .inl e⟩
        have kk := KS.setCells W (X + 2) 0 (xC (callT T fn n L) (.slice p2 (T.nf + 1) c2) (.slice ra T.row.length rc) (.slice sa T.ns sc)).toArray.toList
        exact ⟨kk.os.trans HBELW.out.os, kk.tape.trans HBELW.out.tape, kk.output.trans HBELW.out.output, Nat.le_trans HBELW.out.size kk.size, fun j hj => (kk.block j (Nat.lt_of_lt_of_le hj HBELW.out.size) (by have := HXE.out; omega)).trans (HBELW.out.block j hj)⟩
end Go.Proofs.Ytdnjconfmaiegaa
