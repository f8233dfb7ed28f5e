/- Layer 15: the reference's Do: Back, and the top frame. -/
import Derived.Test.YtdnjconfmaiegaaFrmG
import Derived.StillTailTactics
import Derived.Deep.RegionLaw
import Derived.Deep.AppendLies
namespace Go.Proofs.Ytdnjconfmaiegaa
open Go.RowKit
set_option linter.unusedVariables false
set_option linter.unusedSimpArgs false
theorem ur_at {w : World} {v : Value} {n : Nat} {f : Nat → Int} (h : UR w v n f) {i : Nat} (hi : i < n) : ∃ g o c, v = .slice (some ⟨g, o, none⟩) n c ∧ w.cell? ⟨g, o + i, none⟩ = some (.int .u64 (f i)) := by
  cases h with
  | nil => omega
  | odd => omega
  | row g o _ c _ h1 h2 h3 => exact ⟨g, o, c, rfl, h3 i hi⟩
theorem xF_ret (T T' : Td) (fv rv sv : Value) (L : Nat → Int) (h : T'.ret = L) (j : Nat) (hj : j < 15) : putF (xF T fv rv sv) 0 (ucells 12 L) j = xF T' fv rv sv j := by
  unfold putF xF
  rw [h, if_pos (Nat.zero_le _), Nat.sub_zero]
  by_cases e4 : j < 12
  · rw [ucells_get e4, if_pos e4, if_pos e4]; rfl
  · rw [List.getElem?_eq_none (by rw [ucells_len]; omega), if_neg e4, if_neg e4]; rfl
def retN (T : Td) (i : Nat) (L : Nat → Int) : Td := { T with ret := fun k => if k < i then L k else 0 }
theorem xF_reti (T : Td) (fv rv sv : Value) (L : Nat → Int) (i : Nat) (hi : i < 12) (j : Nat) (hj : j < 15) : upF (xF (retN T i L) fv rv sv) i (.int .u64 (L i)) j = xF (retN T (i + 1) L) fv rv sv j := by
  unfold upF xF retN
  simp only []
  by_cases e : j = i
  · subst e; rw [if_pos rfl, if_pos hi, if_pos (by omega)]
  · rw [if_neg e]
    by_cases e4 : j < 12
    · rw [if_pos e4, if_pos e4]
      by_cases e5 : j < i
      · rw [if_pos e5, if_pos (by omega)]
      · rw [if_neg e5, if_neg (by omega)]
    · rw [if_neg e4, if_neg e4]
theorem xF_back (T1 T : Td) (fv rv sv : Value) (L : Nat → Int) (n i : Nat) (hi : i = n ∨ (12 ≤ i ∧ i ≤ n)) (j : Nat) (hj : j < 15) : xF (retN T1 i L) fv rv sv j = xF (backT T n L) fv rv sv j := by
  unfold xF retN backT
  simp only []
  by_cases e4 : j < 12
  · rw [if_pos e4, if_pos e4]
    rcases hi with rfl | hi
    · rfl
    · rw [if_pos (by omega), if_pos (by omega)]
  · rw [if_neg e4, if_neg e4]
theorem ks_cell {w w' : World} {X b i : Nat} {v : Value} (k : KS (fun j => j = X) w w') (h : w.cell? ⟨b, i, none⟩ = some v) (hb : b ≠ X) (hl : b < w.heap.size) : w'.cell? ⟨b, i, none⟩ = some v :=
  (World.cell?_of_block (a := ⟨b, i, none⟩) (k.block b hl hb)).trans h
set_option maxRecDepth 8000 in
set_option maxHeartbeats 2000000 in
theorem rdo_10 {w : World} {T : Td} {fv rv sv lv : Value} (hx : XR w T fv rv sv) (fn : Int) {n : Nat} {L : Nat → Int} (pk pv : Int) (hu : UR w lv n L) (hb1 : T.nf ≤ 1000) (hb2 : T.ns ≤ 1000) (hb3 : T.row.length ≤ 80000) (hn : T.nf = 0) :
    Calls Try.prog 10 #[xV T fv rv sv, opV ⟨1, fn, n, L, pk, pv⟩ lv] w (DoX w (backT T n L) (0) (false) sv) := by
  refine Calls.veil fun Q HQ => ?_
  have HX := Lib.hid hx; have HU := Lib.hid hu
  obtain ⟨fa, fc, rfl, fc1, fc2⟩ := hx.f.slice
  obtain ⟨ra, rc, rfl, _, _⟩ := hx.r.1.slice
  obtain ⟨sa, sc, rfl, sc1, sc2⟩ := hx.s.slice
  obtain ⟨la, lc, rfl, lc1, lc2⟩ := hu.slice
  obtain ⟨d, hdu, hdr⟩ := uX
  have HDU := Lib.hid hdu; have HDR := Lib.hid hdr
  unfold xV opV
  simp only
  clear hx hu hdu hdr
  have HN := Lib.hid hn
  clear hn
  go_enter Try.func10, Try.ntmps10
  go_upto_region 1 with fail
  generalize hU : World.alloc _ _ = U
  obtain ⟨u0, u1, u2, us, hbu⟩ := heap3f hU
  obtain ⟨X, hX⟩ : ∃ X, X = w.heap.size := ⟨_, rfl⟩
  rw [← hX] at u0 u1 u2 us ⊢
  have HXE := Lib.hid hX
  have hXB : Blk 33 U X 15 (xF T (.slice fa T.nf fc) (.slice ra T.row.length rc) (.slice sa T.ns sc)) := u0
  have HB := Lib.hid hXB
  have o0 := newcell u1 0 _ rfl; have o1 := newcell u1 1 _ rfl; have o2 := newcell u1 2 _ rfl; have o3 := newcell u1 3 _ rfl; have o4 := newcell u1 4 _ rfl
  have HO := Lib.hid u1; have HZ := Lib.hid u2
  have HUS := Lib.hid us; have HBU := Lib.hid hbu
  have x12 : U.cell? ⟨X, 12, none⟩ = some (.slice fa T.nf fc) := hXB.get (i := 12) (by omega)
  have x13 : U.cell? ⟨X, 13, none⟩ = some (.slice ra T.row.length rc) := hXB.get (i := 13) (by omega)
  have x14 : U.cell? ⟨X, 14, none⟩ = some (.slice sa T.ns sc) := hXB.get (i := 14) (by omega)
  have xfr : ∀ i, U.frozen? ⟨X, i, none⟩ = false := hXB.fr
  have HXU := Lib.hid (HX.out.below hbu)
  clear hU u0 u1 u2 us hbu hX hXB
  rw [HN.out] at x12
  have HFX := Lib.hid (show FR U (.slice fa T.nf fc) (backT T n L).nf (backT T n L).fs by have := HXU.out.f; unfold backT; simp only []; rw [HN.out] at this ⊢; exact this)
  have HBW1 := HB
  have HK1 := Lib.hid (KS.of_below (Below.refl _ _) : KS (fun j => j = X) U U)
  have HTH := Lib.hid (HBW1.out.there 0 12 (by omega))
  go_upto_region 14 with (refine wpList_store_mid rfl 28 (.tmp 64) (.tmp 63) rfl X 0 (ucells 12 fun _ => 0).toArray rfl (by rfl) (by rw [List.size_toArray, ucells_len]; exact HTH.out) (by rw [List.size_toArray, ucells_len]; exact info12) (all_oneCell_toArray ucells_one) ?_)
  generalize hW : World.setCells _ _ _ _ = W2
  have kw : KS (fun j => j = X) U W2 := by rw [← hW]; exact KS.setCells _ _ _ _
  have hbw : Blk 33 W2 X 15 (xF (retN T 0 L) (.slice fa T.nf fc) (.slice ra T.row.length rc) (.slice sa T.ns sc)) := by
    rw [← hW]
    exact (Blk.setCells _ 0 _ _ HBW1.out).congr fun j hj => xF_ret _ (retN T 0 L) _ _ _ (fun _ => 0) (by unfold retN; funext k; simp) j hj
  have HKW := Lib.hid (HK1.out.trans kw); have HBW2 := Lib.hid hbw
  have o2 := ks_cell kw o2 (by omega) (by have := HUS.out; have := HK1.out.size; omega)
  have O2 := Lib.hid o2
  clear hW kw hbw o2 x12 x13 x14 xfr
  go_wp2_with fail
  go_loopw [10] (fun iv wr => ∃ i : Nat, i ≤ 12 ∧ i ≤ n ∧ iv = .int .i64 i ∧ Hid (Blk 33 wr X 15 (xF (retN T i L) (.slice fa T.nf fc) (.slice ra T.row.length rc) (.slice sa T.ns sc))) ∧ Hid (KS (fun j => j = X) W2 wr))
    (fun iv _ => 12 - (intOf iv).toNat)
  case atStart => exact ⟨0, by omega, Nat.zero_le _, rfl, HBW2, Lib.hid (KS.of_below (Below.refl _ _))⟩
  case round =>
    obtain ⟨i, hi, hin, rfl, HBR, HKR⟩ := hrel
    have o2 := ks_cell HKR.out O2.out (by omega) (by have := HUS.out; have := HKW.out.size; omega)
    have HBL := Lib.hid (below_x HBU.out HXE.out (HKW.out.trans HKR.out))
    rcases (by omega : (i < n ∧ i < 12) ∨ (i < n ∧ i = 12) ∨ i = n) with ⟨h1, h2⟩ | ⟨h1, h2⟩ | h1
    · obtain ⟨g2, off, c2, hue, hc⟩ := ur_at HU.out (i := i) h1
      simp only [Value.slice.injEq, true_and] at hue
      obtain ⟨rfl, rfl⟩ := hue
      have uc := Ext.use (Ext.cells hc) HBL.out
      have hii : (i : Int) < n := by omega
      have hi12 : (i : Int) < 12 := by omega
      have xc : wr.cell? ⟨X, i, none⟩ = some (.int .u64 ((retN T i L).ret i)) := by
        have := HBR.out.get (i := i) (by omega)
        rw [this]; unfold xF; rw [if_pos h2]
      have xfr : ∀ i, wr.frozen? ⟨X, i, none⟩ = false := HBR.out.fr
      clear hc
      go_upto_region 16 with fail
      generalize hW : World.setCell _ _ _ = W3
      have HBN := Lib.hid (show Blk 33 W3 X 15 (xF (retN T (i + 1) L) (.slice fa T.nf fc) (.slice ra T.row.length rc) (.slice sa T.ns sc)) from by rw [← hW]; exact (HBR.out.set i _).congr fun j hj => xF_reti _ _ _ _ _ i h2 j hj)
      have HKN := Lib.hid (HKR.out.trans (show KS (fun j => j = X) wr W3 by rw [← hW]; exact KS.set wr X i _))
      clear hW uc xc xfr o2
      go_wp2_with fail
      go_roundw
      case rel => exact ⟨i + 1, by omega, by omega, by go_num, HBN, HKN⟩
      case measure => simp [intOf]; omega
    · skip
      have HBF := Lib.hid (show Blk 33 wr X 15 (xF (backT T n L) (.slice fa T.nf fc) (.slice ra T.row.length rc) (.slice sa T.ns sc)) from HBR.out.congr fun j hj => xF_back T T _ _ _ _ n i (by omega) j hj)
      have HXF := Lib.hid (show XR wr (backT T n L) (.slice fa T.nf fc) (.slice ra T.row.length rc) (.slice sa T.ns sc) from (show XR U (backT T n L) (.slice fa T.nf fc) (.slice ra T.row.length rc) (.slice sa T.ns sc) from ⟨HFX.out, HXU.out.r, HXU.out.s⟩).ks (show U.heap[X]? = _ from HB.out) (by decide) (by decide) (by decide) (HKW.out.trans HKR.out))
      have HZF := Lib.hid (((HKW.out.trans HKR.out).block (X + 2) (by have := HUS.out; omega) (by omega)).trans HZ.out)
      have hii : (i : Int) < n := by omega
      have hi12 : ¬ (i : Int) < 12 := by omega
      clear h1 h2
      have hrgx : wr.rangeAt X 0 (xC (backT T n L) (.slice fa T.nf fc) (.slice ra T.row.length rc) (.slice sa T.ns sc)) := by
        have := (HBF.out).range 0 15 (by omega)
        simpa [xC] using this
      have HRGX := Lib.hid hrgx
      have hthz : wr.there (X + 2) 0 15 := by
        have hz : Blk 33 wr (X + 2) 15 (xF ⟨fun _ => 0, fun _ => .int .u64 0, 0, fun _ => ⟨0, 0, fun _ => 0⟩, [], 0, fun _ => 0⟩ (.slice none 0 0) (.slice none 0 0) (.slice none 0 0)) := HZF.out
        exact hz.there 0 15 (by omega)
      have HTHZ := Lib.hid hthz
      have HZW := Lib.hid (show ∃ c, wr.heap[X + 2]? = some (.cells c 33 (0, 0)) from ⟨_, HZF.out⟩)
      have HXRW := Lib.hid (show XR wr (backT T n L) (.slice fa T.nf fc) (.slice ra T.row.length rc) (.slice sa T.ns sc) from HXF.out)
      have HBELW := Lib.hid (show Below w.heap.size w wr from HBL.out)
      clear hrgx hthz
      go_wp2_with (first | (refine wpList_load_mid rfl 33 (.tmp 2) rfl X 0 rfl (xC (backT T n L) (.slice fa T.nf fc) (.slice ra T.row.length rc) (.slice sa T.ns sc)) d HRGX.out HDU.out HDR.out (by rw [xC_len]; exact infoX) ?_) | (refine wpList_store_mid rfl 33 (.tmp 4) (.tmp 171) rfl (X + 2) 0 (xC (backT T n L) (.slice fa T.nf fc) (.slice ra T.row.length rc) (.slice sa T.ns sc)).toArray rfl rfl (by rw [List.size_toArray, xC_len]; exact HTHZ.out) (by rw [List.size_toArray, xC_len]; exact infoX) (all_oneCell_toArray xC_one) ?_))
      refine bodyPost_ret (rdo_fin (Z := X + 2) (cs := xC (backT T n L) (.slice fa T.nf fc) (.slice ra T.row.length rc) (.slice sa T.ns sc)) (xC_len _ _ _ _) _ _ (World.rangeAt_setCells_same _ _ _ _ (by rw [xC_len]; exact HTHZ.out)) rfl rfl rfl) rfl ?_
      rw [HQ.out]
      obtain ⟨zc, hzc⟩ := HZW.out
      refine ⟨_, _, _, rfl, HXRW.out.ks hzc (by decide) (by decide) (by decide) (KS.setCells _ _ _ _), ?_, fun j e => .inl e⟩
      have kk := KS.setCells wr (X + 2) 0 (xC (backT T n L) (.slice fa T.nf fc) (.slice ra T.row.length rc) (.slice sa T.ns sc)).toArray.toList
      exact ⟨kk.os.trans HBELW.out.os, kk.tape.trans HBELW.out.tape, kk.output.trans HBELW.out.output, Nat.le_trans HBELW.out.size kk.size, fun j hj => (kk.block j (Nat.lt_of_lt_of_le hj HBELW.out.size) (by have := HXE.out; omega)).trans (HBELW.out.block j hj)⟩
    · skip
      have HBF := Lib.hid (show Blk 33 wr X 15 (xF (backT T n L) (.slice fa T.nf fc) (.slice ra T.row.length rc) (.slice sa T.ns sc)) from HBR.out.congr fun j hj => xF_back T T _ _ _ _ n i (by omega) j hj)
      have HXF := Lib.hid (show XR wr (backT T n L) (.slice fa T.nf fc) (.slice ra T.row.length rc) (.slice sa T.ns sc) from (show XR U (backT T n L) (.slice fa T.nf fc) (.slice ra T.row.length rc) (.slice sa T.ns sc) from ⟨HFX.out, HXU.out.r, HXU.out.s⟩).ks (show U.heap[X]? = _ from HB.out) (by decide) (by decide) (by decide) (HKW.out.trans HKR.out))
      have HZF := Lib.hid (((HKW.out.trans HKR.out).block (X + 2) (by have := HUS.out; omega) (by omega)).trans HZ.out)
      have hii : ¬ (i : Int) < n := by omega
      clear h1
      have hrgx : wr.rangeAt X 0 (xC (backT T n L) (.slice fa T.nf fc) (.slice ra T.row.length rc) (.slice sa T.ns sc)) := by
        have := (HBF.out).range 0 15 (by omega)
        simpa [xC] using this
      have HRGX := Lib.hid hrgx
      have hthz : wr.there (X + 2) 0 15 := by
        have hz : Blk 33 wr (X + 2) 15 (xF ⟨fun _ => 0, fun _ => .int .u64 0, 0, fun _ => ⟨0, 0, fun _ => 0⟩, [], 0, fun _ => 0⟩ (.slice none 0 0) (.slice none 0 0) (.slice none 0 0)) := HZF.out
        exact hz.there 0 15 (by omega)
      have HTHZ := Lib.hid hthz
      have HZW := Lib.hid (show ∃ c, wr.heap[X + 2]? = some (.cells c 33 (0, 0)) from ⟨_, HZF.out⟩)
      have HXRW := Lib.hid (show XR wr (backT T n L) (.slice fa T.nf fc) (.slice ra T.row.length rc) (.slice sa T.ns sc) from HXF.out)
      have HBELW := Lib.hid (show Below w.heap.size w wr from HBL.out)
      clear hrgx hthz
      go_wp2_with (first | (refine wpList_load_mid rfl 33 (.tmp 2) rfl X 0 rfl (xC (backT T n L) (.slice fa T.nf fc) (.slice ra T.row.length rc) (.slice sa T.ns sc)) d HRGX.out HDU.out HDR.out (by rw [xC_len]; exact infoX) ?_) | (refine wpList_store_mid rfl 33 (.tmp 4) (.tmp 171) rfl (X + 2) 0 (xC (backT T n L) (.slice fa T.nf fc) (.slice ra T.row.length rc) (.slice sa T.ns sc)).toArray rfl rfl (by rw [List.size_toArray, xC_len]; exact HTHZ.out) (by rw [List.size_toArray, xC_len]; exact infoX) (all_oneCell_toArray xC_one) ?_))
      refine bodyPost_ret (rdo_fin (Z := X + 2) (cs := xC (backT T n L) (.slice fa T.nf fc) (.slice ra T.row.length rc) (.slice sa T.ns sc)) (xC_len _ _ _ _) _ _ (World.rangeAt_setCells_same _ _ _ _ (by rw [xC_len]; exact HTHZ.out)) rfl rfl rfl) rfl ?_
      rw [HQ.out]
      obtain ⟨zc, hzc⟩ := HZW.out
      refine ⟨_, _, _, rfl, HXRW.out.ks hzc (by decide) (by decide) (by decide) (KS.setCells _ _ _ _), ?_, fun j e => .inl e⟩
      have kk := KS.setCells wr (X + 2) 0 (xC (backT T n L) (.slice fa T.nf fc) (.slice ra T.row.length rc) (.slice sa T.ns sc)).toArray.toList
      exact ⟨kk.os.trans HBELW.out.os, kk.tape.trans HBELW.out.tape, kk.output.trans HBELW.out.output, Nat.le_trans HBELW.out.size kk.size, fun j hj => (kk.block j (Nat.lt_of_lt_of_le hj HBELW.out.size) (by have := HXE.out; omega)).trans (HBELW.out.block j hj)⟩
set_option maxRecDepth 8000 in
set_option maxHeartbeats 2000000 in
theorem rdo_11 {w : World} {T : Td} {fv rv sv lv : Value} (hx : XR w T fv rv sv) {m : Nat} (fn : Int) {n : Nat} {L : Nat → Int} (pk pv : Int) (hu : UR w lv n L) (hb1 : T.nf ≤ 1000) (hb2 : T.ns ≤ 1000) (hb3 : T.row.length ≤ 80000) (hn : T.nf = m + 1) :
    Calls Try.prog 10 #[xV T fv rv sv, opV ⟨1, fn, n, L, pk, pv⟩ lv] w (DoX w (backT T n L) (0) (false) sv) := by
  refine Calls.veil fun Q HQ => ?_
  have HX := Lib.hid hx; have HU := Lib.hid hu
  obtain ⟨fa, fc, rfl, fc1, fc2⟩ := hx.f.slice
  obtain ⟨ra, rc, rfl, _, _⟩ := hx.r.1.slice
  obtain ⟨sa, sc, rfl, sc1, sc2⟩ := hx.s.slice
  obtain ⟨la, lc, rfl, lc1, lc2⟩ := hu.slice
  obtain ⟨d, hdu, hdr⟩ := uX
  have HDU := Lib.hid hdu; have HDR := Lib.hid hdr
  unfold xV opV
  simp only
  clear hx hu hdu hdr
  have HN := Lib.hid hn
  clear hn
  go_enter Try.func10, Try.ntmps10
  go_upto_region 1 with fail
  generalize hU : World.alloc _ _ = U
  obtain ⟨u0, u1, u2, us, hbu⟩ := heap3f hU
  obtain ⟨X, hX⟩ : ∃ X, X = w.heap.size := ⟨_, rfl⟩
  rw [← hX] at u0 u1 u2 us ⊢
  have HXE := Lib.hid hX
  have hXB : Blk 33 U X 15 (xF T (.slice fa T.nf fc) (.slice ra T.row.length rc) (.slice sa T.ns sc)) := u0
  have HB := Lib.hid hXB
  have o0 := newcell u1 0 _ rfl; have o1 := newcell u1 1 _ rfl; have o2 := newcell u1 2 _ rfl; have o3 := newcell u1 3 _ rfl; have o4 := newcell u1 4 _ rfl
  have HO := Lib.hid u1; have HZ := Lib.hid u2
  have HUS := Lib.hid us; have HBU := Lib.hid hbu
  have x12 : U.cell? ⟨X, 12, none⟩ = some (.slice fa T.nf fc) := hXB.get (i := 12) (by omega)
  have x13 : U.cell? ⟨X, 13, none⟩ = some (.slice ra T.row.length rc) := hXB.get (i := 13) (by omega)
  have x14 : U.cell? ⟨X, 14, none⟩ = some (.slice sa T.ns sc) := hXB.get (i := 14) (by omega)
  have xfr : ∀ i, U.frozen? ⟨X, i, none⟩ = false := hXB.fr
  have HXU := Lib.hid (HX.out.below hbu)
  clear hU u0 u1 u2 us hbu hX hXB
  have hf := HXU.out.f
  rw [HN.out] at x12 hf
  rcases hf with ⟨_, h0⟩ | ⟨g, c, hv, h1, h2, h3⟩
  · omega
  simp only [Value.slice.injEq, true_and] at hv
  obtain ⟨rfl, rfl⟩ := hv
  have HFX := Lib.hid (show FR U (.slice (some ⟨g, 0, none⟩) m fc) (backT T n L).nf (backT T n L).fs by unfold backT; simp only []; rw [HN.out]; exact .inr ⟨g, fc, rfl, by omega, h2, h3.less (by omega)⟩)
  have hpos : (0 : Int) < (m : Int) + 1 := by omega
  clear h3
  go_upto_region 13 with fail
  generalize hW : World.setCell _ _ _ = W1
  have kw : KS (fun j => j = X) U W1 := by rw [← hW]; exact KS.set U X 12 _
  have hbw : Blk 33 W1 X 15 (xF T (.slice (some ⟨g, 0, none⟩) m fc) (.slice ra T.row.length rc) (.slice sa T.ns sc)) := by
    rw [← hW]
    exact (HB.out.set 12 _).congr fun j hj => xF_12 T T _ _ _ _ rfl j hj
  have HBW1 := Lib.hid hbw
  have HK1 := Lib.hid kw
  have o2 := ks_cell kw o2 (by omega) (by have := HUS.out; omega)
  have o0 := ks_cell kw o0 (by omega) (by have := HUS.out; omega)
  clear hW kw hbw x12 x13 x14 xfr hpos o1 o3 o4
  have x12 := HBW1; have x13 := HBW1; have x14 := HBW1; have xfr := HBW1
  have HTH := Lib.hid (HBW1.out.there 0 12 (by omega))
  go_upto_region 14 with (refine wpList_store_mid rfl 28 (.tmp 64) (.tmp 63) rfl X 0 (ucells 12 fun _ => 0).toArray rfl (by rfl) (by rw [List.size_toArray, ucells_len]; exact HTH.out) (by rw [List.size_toArray, ucells_len]; exact info12) (all_oneCell_toArray ucells_one) ?_)
  generalize hW : World.setCells _ _ _ _ = W2
  have kw : KS (fun j => j = X) W1 W2 := by rw [← hW]; exact KS.setCells _ _ _ _
  have hbw : Blk 33 W2 X 15 (xF (retN T 0 L) (.slice (some ⟨g, 0, none⟩) m fc) (.slice ra T.row.length rc) (.slice sa T.ns sc)) := by
    rw [← hW]
    exact (Blk.setCells _ 0 _ _ HBW1.out).congr fun j hj => xF_ret _ (retN T 0 L) _ _ _ (fun _ => 0) (by unfold retN; funext k; simp) j hj
  have HKW := Lib.hid (HK1.out.trans kw); have HBW2 := Lib.hid hbw
  have o2 := ks_cell kw o2 (by omega) (by have := HUS.out; have := HK1.out.size; omega)
  have O2 := Lib.hid o2
  clear hW kw hbw o2 x12 x13 x14 xfr
  go_wp2_with fail
  go_loopw [10] (fun iv wr => ∃ i : Nat, i ≤ 12 ∧ i ≤ n ∧ iv = .int .i64 i ∧ Hid (Blk 33 wr X 15 (xF (retN T i L) (.slice (some ⟨g, 0, none⟩) m fc) (.slice ra T.row.length rc) (.slice sa T.ns sc))) ∧ Hid (KS (fun j => j = X) W2 wr))
    (fun iv _ => 12 - (intOf iv).toNat)
  case atStart => exact ⟨0, by omega, Nat.zero_le _, rfl, HBW2, Lib.hid (KS.of_below (Below.refl _ _))⟩
  case round =>
    obtain ⟨i, hi, hin, rfl, HBR, HKR⟩ := hrel
    have o2 := ks_cell HKR.out O2.out (by omega) (by have := HUS.out; have := HKW.out.size; omega)
    have HBL := Lib.hid (below_x HBU.out HXE.out (HKW.out.trans HKR.out))
    rcases (by omega : (i < n ∧ i < 12) ∨ (i < n ∧ i = 12) ∨ i = n) with ⟨h1, h2⟩ | ⟨h1, h2⟩ | h1
    · obtain ⟨g2, off, c2, hue, hc⟩ := ur_at HU.out (i := i) h1
      simp only [Value.slice.injEq, true_and] at hue
      obtain ⟨rfl, rfl⟩ := hue
      have uc := Ext.use (Ext.cells hc) HBL.out
      have hii : (i : Int) < n := by omega
      have hi12 : (i : Int) < 12 := by omega
      have xc : wr.cell? ⟨X, i, none⟩ = some (.int .u64 ((retN T i L).ret i)) := by
        have := HBR.out.get (i := i) (by omega)
        rw [this]; unfold xF; rw [if_pos h2]
      have xfr : ∀ i, wr.frozen? ⟨X, i, none⟩ = false := HBR.out.fr
      clear hc
      go_upto_region 16 with fail
      generalize hW : World.setCell _ _ _ = W3
      have HBN := Lib.hid (show Blk 33 W3 X 15 (xF (retN T (i + 1) L) (.slice (some ⟨g, 0, none⟩) m fc) (.slice ra T.row.length rc) (.slice sa T.ns sc)) from by rw [← hW]; exact (HBR.out.set i _).congr fun j hj => xF_reti _ _ _ _ _ i h2 j hj)
      have HKN := Lib.hid (HKR.out.trans (show KS (fun j => j = X) wr W3 by rw [← hW]; exact KS.set wr X i _))
      clear hW uc xc xfr o2
      go_wp2_with fail
      go_roundw
      case rel => exact ⟨i + 1, by omega, by omega, by go_num, HBN, HKN⟩
      case measure => simp [intOf]; omega
    · skip
      have HBF := Lib.hid (show Blk 33 wr X 15 (xF (backT T n L) (.slice (some ⟨g, 0, none⟩) m fc) (.slice ra T.row.length rc) (.slice sa T.ns sc)) from HBR.out.congr fun j hj => xF_back T T _ _ _ _ n i (by omega) j hj)
      have HXF := Lib.hid (show XR wr (backT T n L) (.slice (some ⟨g, 0, none⟩) m fc) (.slice ra T.row.length rc) (.slice sa T.ns sc) from (show XR U (backT T n L) (.slice (some ⟨g, 0, none⟩) m fc) (.slice ra T.row.length rc) (.slice sa T.ns sc) from ⟨HFX.out, HXU.out.r, HXU.out.s⟩).ks (show U.heap[X]? = _ from HB.out) (by decide) (by decide) (by decide) (HKW.out.trans HKR.out))
      have HZF := Lib.hid (((HKW.out.trans HKR.out).block (X + 2) (by have := HUS.out; omega) (by omega)).trans HZ.out)
      have hii : (i : Int) < n := by omega
      have hi12 : ¬ (i : Int) < 12 := by omega
      clear h1 h2
      have hrgx : wr.rangeAt X 0 (xC (backT T n L) (.slice (some ⟨g, 0, none⟩) m fc) (.slice ra T.row.length rc) (.slice sa T.ns sc)) := by
        have := (HBF.out).range 0 15 (by omega)
        simpa [xC] using this
      have HRGX := Lib.hid hrgx
      have hthz : wr.there (X + 2) 0 15 := by
        have hz : Blk 33 wr (X + 2) 15 (xF ⟨fun _ => 0, fun _ => .int .u64 0, 0, fun _ => ⟨0, 0, fun _ => 0⟩, [], 0, fun _ => 0⟩ (.slice none 0 0) (.slice none 0 0) (.slice none 0 0)) := HZF.out
        exact hz.there 0 15 (by omega)
      have HTHZ := Lib.hid hthz
      have HZW := Lib.hid (show ∃ c, wr.heap[X + 2]? = some (.cells c 33 (0, 0)) from ⟨_, HZF.out⟩)
      have HXRW := Lib.hid (show XR wr (backT T n L) (.slice (some ⟨g, 0, none⟩) m fc) (.slice ra T.row.length rc) (.slice sa T.ns sc) from HXF.out)
      have HBELW := Lib.hid (show Below w.heap.size w wr from HBL.out)
      clear hrgx hthz
      go_wp2_with (first | (refine wpList_load_mid rfl 33 (.tmp 2) rfl X 0 rfl (xC (backT T n L) (.slice (some ⟨g, 0, none⟩) m fc) (.slice ra T.row.length rc) (.slice sa T.ns sc)) d HRGX.out HDU.out HDR.out (by rw [xC_len]; exact infoX) ?_) | (refine wpList_store_mid rfl 33 (.tmp 4) (.tmp 171) rfl (X + 2) 0 (xC (backT T n L) (.slice (some ⟨g, 0, none⟩) m fc) (.slice ra T.row.length rc) (.slice sa T.ns sc)).toArray rfl rfl (by rw [List.size_toArray, xC_len]; exact HTHZ.out) (by rw [List.size_toArray, xC_len]; exact infoX) (all_oneCell_toArray xC_one) ?_))
      refine bodyPost_ret (rdo_fin (Z := X + 2) (cs := xC (backT T n L) (.slice (some ⟨g, 0, none⟩) m fc) (.slice ra T.row.length rc) (.slice sa T.ns sc)) (xC_len _ _ _ _) _ _ (World.rangeAt_setCells_same _ _ _ _ (by rw [xC_len]; exact HTHZ.out)) rfl rfl rfl) rfl ?_
      rw [HQ.out]
      obtain ⟨zc, hzc⟩ := HZW.out
      refine ⟨_, _, _, rfl, HXRW.out.ks hzc (by decide) (by decide) (by decide) (KS.setCells _ _ _ _), ?_, fun j e => .inl e⟩
      have kk := KS.setCells wr (X + 2) 0 (xC (backT T n L) (.slice (some ⟨g, 0, none⟩) m fc) (.slice ra T.row.length rc) (.slice sa T.ns sc)).toArray.toList
      exact ⟨kk.os.trans HBELW.out.os, kk.tape.trans HBELW.out.tape, kk.output.trans HBELW.out.output, Nat.le_trans HBELW.out.size kk.size, fun j hj => (kk.block j (Nat.lt_of_lt_of_le hj HBELW.out.size) (by have := HXE.out; omega)).trans (HBELW.out.block j hj)⟩
    · skip
      have HBF := Lib.hid (show Blk 33 wr X 15 (xF (backT T n L) (.slice (some ⟨g, 0, none⟩) m fc) (.slice ra T.row.length rc) (.slice sa T.ns sc)) from HBR.out.congr fun j hj => xF_back T T _ _ _ _ n i (by omega) j hj)
      have HXF := Lib.hid (show XR wr (backT T n L) (.slice (some ⟨g, 0, none⟩) m fc) (.slice ra T.row.length rc) (.slice sa T.ns sc) from (show XR U (backT T n L) (.slice (some ⟨g, 0, none⟩) m fc) (.slice ra T.row.length rc) (.slice sa T.ns sc) from ⟨HFX.out, HXU.out.r, HXU.out.s⟩).ks (show U.heap[X]? = _ from HB.out) (by decide) (by decide) (by decide) (HKW.out.trans HKR.out))
      have HZF := Lib.hid (((HKW.out.trans HKR.out).block (X + 2) (by have := HUS.out; omega) (by omega)).trans HZ.out)
      have hii : ¬ (i : Int) < n := by omega
      clear h1
      have hrgx : wr.rangeAt X 0 (xC (backT T n L) (.slice (some ⟨g, 0, none⟩) m fc) (.slice ra T.row.length rc) (.slice sa T.ns sc)) := by
        have := (HBF.out).range 0 15 (by omega)
        simpa [xC] using this
      have HRGX := Lib.hid hrgx
      have hthz : wr.there (X + 2) 0 15 := by
        have hz : Blk 33 wr (X + 2) 15 (xF ⟨fun _ => 0, fun _ => .int .u64 0, 0, fun _ => ⟨0, 0, fun _ => 0⟩, [], 0, fun _ => 0⟩ (.slice none 0 0) (.slice none 0 0) (.slice none 0 0)) := HZF.out
        exact hz.there 0 15 (by omega)
      have HTHZ := Lib.hid hthz
      have HZW := Lib.hid (show ∃ c, wr.heap[X + 2]? = some (.cells c 33 (0, 0)) from ⟨_, HZF.out⟩)
      have HXRW := Lib.hid (show XR wr (backT T n L) (.slice (some ⟨g, 0, none⟩) m fc) (.slice ra T.row.length rc) (.slice sa T.ns sc) from HXF.out)
      have HBELW := Lib.hid (show Below w.heap.size w wr from HBL.out)
      clear hrgx hthz
      go_wp2_with (first | (refine wpList_load_mid rfl 33 (.tmp 2) rfl X 0 rfl (xC (backT T n L) (.slice (some ⟨g, 0, none⟩) m fc) (.slice ra T.row.length rc) (.slice sa T.ns sc)) d HRGX.out HDU.out HDR.out (by rw [xC_len]; exact infoX) ?_) | (refine wpList_store_mid rfl 33 (.tmp 4) (.tmp 171) rfl (X + 2) 0 (xC (backT T n L) (.slice (some ⟨g, 0, none⟩) m fc) (.slice ra T.row.length rc) (.slice sa T.ns sc)).toArray rfl rfl (by rw [List.size_toArray, xC_len]; exact HTHZ.out) (by rw [List.size_toArray, xC_len]; exact infoX) (all_oneCell_toArray xC_one) ?_))
      refine bodyPost_ret (rdo_fin (Z := X + 2) (cs := xC (backT T n L) (.slice (some ⟨g, 0, none⟩) m fc) (.slice ra T.row.length rc) (.slice sa T.ns sc)) (xC_len _ _ _ _) _ _ (World.rangeAt_setCells_same _ _ _ _ (by rw [xC_len]; exact HTHZ.out)) rfl rfl rfl) rfl ?_
      rw [HQ.out]
      obtain ⟨zc, hzc⟩ := HZW.out
      refine ⟨_, _, _, rfl, HXRW.out.ks hzc (by decide) (by decide) (by decide) (KS.setCells _ _ _ _), ?_, fun j e => .inl e⟩
      have kk := KS.setCells wr (X + 2) 0 (xC (backT T n L) (.slice (some ⟨g, 0, none⟩) m fc) (.slice ra T.row.length rc) (.slice sa T.ns sc)).toArray.toList
      exact ⟨kk.os.trans HBELW.out.os, kk.tape.trans HBELW.out.tape, kk.output.trans HBELW.out.output, Nat.le_trans HBELW.out.size kk.size, fun j hj => (kk.block j (Nat.lt_of_lt_of_le hj HBELW.out.size) (by have := HXE.out; omega)).trans (HBELW.out.block j hj)⟩
set_option maxRecDepth 8000 in
set_option maxHeartbeats 2000000 in
theorem rdo_60 {w : World} {T : Td} {fv rv sv lv : Value} (hx : XR w T fv rv sv) (fn : Int) {n : Nat} {L : Nat → Int} (pk pv : Int) (hu : UR w lv n L) (hb1 : T.nf ≤ 1000) (hb2 : T.ns ≤ 1000) (hb3 : T.row.length ≤ 80000) (hn : T.nf = 0) :
    Calls Try.prog 10 #[xV T fv rv sv, opV ⟨6, fn, n, L, pk, pv⟩ lv] w (DoX w (T) (0) (false) sv) := by
  refine Calls.veil fun Q HQ => ?_
  have HX := Lib.hid hx; have HU := Lib.hid hu
  obtain ⟨fa, fc, rfl, fc1, fc2⟩ := hx.f.slice
  obtain ⟨ra, rc, rfl, _, _⟩ := hx.r.1.slice
  obtain ⟨sa, sc, rfl, sc1, sc2⟩ := hx.s.slice
  obtain ⟨la, lc, rfl, lc1, lc2⟩ := hu.slice
  obtain ⟨d, hdu, hdr⟩ := uX
  have HDU := Lib.hid hdu; have HDR := Lib.hid hdr
  unfold xV opV
  simp only
  clear hx hu hdu hdr
  have HN := Lib.hid hn
  clear hn
  go_enter Try.func10, Try.ntmps10
  go_upto_region 1 with fail
  generalize hU : World.alloc _ _ = U
  obtain ⟨u0, u1, u2, us, hbu⟩ := heap3f hU
  obtain ⟨X, hX⟩ : ∃ X, X = w.heap.size := ⟨_, rfl⟩
  rw [← hX] at u0 u1 u2 us ⊢
  have HXE := Lib.hid hX
  have hXB : Blk 33 U X 15 (xF T (.slice fa T.nf fc) (.slice ra T.row.length rc) (.slice sa T.ns sc)) := u0
  have HB := Lib.hid hXB
  have o0 := newcell u1 0 _ rfl; have o1 := newcell u1 1 _ rfl; have o2 := newcell u1 2 _ rfl; have o3 := newcell u1 3 _ rfl; have o4 := newcell u1 4 _ rfl
  have HO := Lib.hid u1; have HZ := Lib.hid u2
  have HUS := Lib.hid us; have HBU := Lib.hid hbu
  have x12 : U.cell? ⟨X, 12, none⟩ = some (.slice fa T.nf fc) := hXB.get (i := 12) (by omega)
  have x13 : U.cell? ⟨X, 13, none⟩ = some (.slice ra T.row.length rc) := hXB.get (i := 13) (by omega)
  have x14 : U.cell? ⟨X, 14, none⟩ = some (.slice sa T.ns sc) := hXB.get (i := 14) (by omega)
  have xfr : ∀ i, U.frozen? ⟨X, i, none⟩ = false := hXB.fr
  have HXU := Lib.hid (HX.out.below hbu)
  clear hU u0 u1 u2 us hbu hX hXB
  rw [HN.out] at x12
  have hrgx : U.rangeAt X 0 (xC (T) (.slice fa T.nf fc) (.slice ra T.row.length rc) (.slice sa T.ns sc)) := by
    have := (HB.out).range 0 15 (by omega)
    simpa [xC] using this
  have HRGX := Lib.hid hrgx
  have hthz : U.there (X + 2) 0 15 := by
    have hz : Blk 33 U (X + 2) 15 (xF ⟨fun _ => 0, fun _ => .int .u64 0, 0, fun _ => ⟨0, 0, fun _ => 0⟩, [], 0, fun _ => 0⟩ (.slice none 0 0) (.slice none 0 0) (.slice none 0 0)) := HZ.out
    exact hz.there 0 15 (by omega)
  have HTHZ := Lib.hid hthz
  have HZW := Lib.hid (show ∃ c, U.heap[X + 2]? = some (.cells c 33 (0, 0)) from ⟨_, HZ.out⟩)
  have HXRW := Lib.hid (show XR U (T) (.slice fa T.nf fc) (.slice ra T.row.length rc) (.slice sa T.ns sc) from HXU.out)
  have HBELW := Lib.hid (show Below w.heap.size w U from HBU.out)
  clear hrgx hthz
  go_wp2_with (first | (refine wpList_load_mid rfl 33 (.tmp 2) rfl X 0 rfl (xC (T) (.slice fa T.nf fc) (.slice ra T.row.length rc) (.slice sa T.ns sc)) d HRGX.out HDU.out HDR.out (by rw [xC_len]; exact infoX) ?_) | (refine wpList_store_mid rfl 33 (.tmp 4) (.tmp 140) rfl (X + 2) 0 (xC (T) (.slice fa T.nf fc) (.slice ra T.row.length rc) (.slice sa T.ns sc)).toArray rfl rfl (by rw [List.size_toArray, xC_len]; exact HTHZ.out) (by rw [List.size_toArray, xC_len]; exact infoX) (all_oneCell_toArray xC_one) ?_))
  refine bodyPost_ret (rdo_fin (Z := X + 2) (cs := xC (T) (.slice fa T.nf fc) (.slice ra T.row.length rc) (.slice sa T.ns sc)) (xC_len _ _ _ _) _ _ (World.rangeAt_setCells_same _ _ _ _ (by rw [xC_len]; exact HTHZ.out)) rfl rfl rfl) rfl ?_
  rw [HQ.out]
  obtain ⟨zc, hzc⟩ := HZW.out
  refine ⟨_, _, _, rfl, HXRW.out.ks hzc (by decide) (by decide) (by decide) (KS.setCells _ _ _ _), ?_, fun j e => .inl e⟩
  have kk := KS.setCells U (X + 2) 0 (xC (T) (.slice fa T.nf fc) (.slice ra T.row.length rc) (.slice sa T.ns sc)).toArray.toList
  exact ⟨kk.os.trans HBELW.out.os, kk.tape.trans HBELW.out.tape, kk.output.trans HBELW.out.output, Nat.le_trans HBELW.out.size kk.size, fun j hj => (kk.block j (Nat.lt_of_lt_of_le hj HBELW.out.size) (by have := HXE.out; omega)).trans (HBELW.out.block j hj)⟩
end Go.Proofs.Ytdnjconfmaiegaa
