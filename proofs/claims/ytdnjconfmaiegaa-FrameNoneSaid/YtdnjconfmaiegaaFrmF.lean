/- Layer 15: the reference's Do. -/
import Derived.Test.YtdnjconfmaiegaaFrmE
import Derived.Deep.RegionLaw
import Derived.Deep.AppendLies
namespace Go.Proofs.Ytdnjconfmaiegaa
open Go.RowKit
set_option linter.unusedVariables false
set_option linter.unusedSimpArgs false
theorem below_x {w U V : World} {X : Nat} (h : Below w.heap.size w U) (hX : X = w.heap.size) (k : KS (fun j => j = X) U V) : Below w.heap.size w V :=
  ⟨k.os.trans h.os, k.tape.trans h.tape, k.output.trans h.output, Nat.le_trans h.size k.size, fun j hj => (k.block j (Nat.lt_of_lt_of_le hj h.size) (by omega)).trans (h.block j hj)⟩
set_option maxRecDepth 8000 in
set_option maxHeartbeats 2000000 in
theorem rdo_no {w : World} {T : Td} {fv rv sv lv : Value} (hx : XR w T fv rv sv) {kk : Int} (hk : kk < 0 ∨ 6 < kk) (fn : Int) {n : Nat} {L : Nat → Int} (pk pv : Int) (hu : UR w lv n L) (hb1 : T.nf ≤ 1000) (hb2 : T.ns ≤ 1000) (hb3 : T.row.length ≤ 80000) :
    Calls Try.prog 10 #[xV T fv rv sv, opV ⟨kk, fn, n, L, pk, pv⟩ lv] w (DoX w (T) (0) (false) sv) := by
  refine Calls.veil fun Q HQ => ?_
  have HX := Lib.hid hx; have HU := Lib.hid hu
  obtain ⟨fa, fc, rfl, fc1, fc2⟩ := hx.f.slice
  obtain ⟨ra, rc, rfl, _, _⟩ := hx.r.1.slice
  obtain ⟨sa, sc, rfl, sc1, sc2⟩ := hx.s.slice
  obtain ⟨la, lc, rfl, lc1, lc2⟩ := hu.slice
  obtain ⟨d, hdu, hdr⟩ := uX
  have HDU := Lib.hid hdu; have HDR := Lib.hid hdr
  unfold xV opV
  simp only
  clear hx hu hdu hdr
  go_enter Try.func10, Try.ntmps10
  go_upto_region 1 with fail
  generalize hU : World.alloc _ _ = U
  obtain ⟨u0, u1, u2, us, hbu⟩ := heap3f hU
  obtain ⟨X, hX⟩ : ∃ X, X = w.heap.size := ⟨_, rfl⟩
  rw [← hX] at u0 u1 u2 us ⊢
  have HXE := Lib.hid hX
  have hXB : Blk 33 U X 15 (xF T (.slice fa T.nf fc) (.slice ra T.row.length rc) (.slice sa T.ns sc)) := u0
  have HB := Lib.hid hXB
  have o0 := newcell u1 0 _ rfl; have o1 := newcell u1 1 _ rfl; have o2 := newcell u1 2 _ rfl; have o3 := newcell u1 3 _ rfl; have o4 := newcell u1 4 _ rfl
  have HO := Lib.hid u1; have HZ := Lib.hid u2
  have HUS := Lib.hid us; have HBU := Lib.hid hbu
  have x12 : U.cell? ⟨X, 12, none⟩ = some (.slice fa T.nf fc) := hXB.get (i := 12) (by omega)
  have x13 : U.cell? ⟨X, 13, none⟩ = some (.slice ra T.row.length rc) := hXB.get (i := 13) (by omega)
  have x14 : U.cell? ⟨X, 14, none⟩ = some (.slice sa T.ns sc) := hXB.get (i := 14) (by omega)
  have xfr : ∀ i, U.frozen? ⟨X, i, none⟩ = false := hXB.fr
  have HXU := Lib.hid (HX.out.below hbu)
  clear hU u0 u1 u2 us hbu hX hXB
  have k0 : ¬ kk = 0 := by omega
  have k1 : ¬ kk = 1 := by omega
  have k2 : ¬ kk = 2 := by omega
  have k3 : ¬ kk = 3 := by omega
  have k4 : ¬ kk = 4 := by omega
  have k5 : ¬ kk = 5 := by omega
  have k6 : ¬ kk = 6 := by omega
  have hrgx : U.rangeAt X 0 (xC (T) (.slice fa T.nf fc) (.slice ra T.row.length rc) (.slice sa T.ns sc)) := by
    have := (HB.out).range 0 15 (by omega)
    simpa [xC] using this
  have HRGX := Lib.hid hrgx
  have hthz : U.there (X + 2) 0 15 := by
    have hz : Blk 33 U (X + 2) 15 (xF ⟨fun _ => 0, fun _ => .int .u64 0, 0, fun _ => ⟨0, 0, fun _ => 0⟩, [], 0, fun _ => 0⟩ (.slice none 0 0) (.slice none 0 0) (.slice none 0 0)) := HZ.out
    exact hz.there 0 15 (by omega)
  have HTHZ := Lib.hid hthz
  have HZW := Lib.hid (show ∃ c, U.heap[X + 2]? = some (.cells c 33 (0, 0)) from ⟨_, HZ.out⟩)
  have HXRW := Lib.hid (show XR U (T) (.slice fa T.nf fc) (.slice ra T.row.length rc) (.slice sa T.ns sc) from HXU.out)
  have HBELW := Lib.hid (show Below w.heap.size w U from HBU.out)
  clear hrgx hthz
  go_wp2_with (first | (refine wpList_load_mid rfl 33 (.tmp 2) rfl X 0 rfl (xC (T) (.slice fa T.nf fc) (.slice ra T.row.length rc) (.slice sa T.ns sc)) d HRGX.out HDU.out HDR.out (by rw [xC_len]; exact infoX) ?_) | (refine wpList_store_mid rfl 33 (.tmp 4) (.tmp 171) rfl (X + 2) 0 (xC (T) (.slice fa T.nf fc) (.slice ra T.row.length rc) (.slice sa T.ns sc)).toArray rfl rfl (by rw [List.size_toArray, xC_len]; exact HTHZ.out) (by rw [List.size_toArray, xC_len]; exact infoX) (all_oneCell_toArray xC_one) ?_))
  refine bodyPost_ret (rdo_fin (Z := X + 2) (cs := xC (T) (.slice fa T.nf fc) (.slice ra T.row.length rc) (.slice sa T.ns sc)) (xC_len _ _ _ _) _ _ (World.rangeAt_setCells_same _ _ _ _ (by rw [xC_len]; exact HTHZ.out)) rfl rfl rfl) rfl ?_
  rw [HQ.out]
  obtain ⟨zc, hzc⟩ := HZW.out
  refine ⟨_, _, _, rfl, HXRW.out.ks hzc (by decide) (by decide) (by decide) (KS.setCells _ _ _ _), ?_, fun j e => .inl e⟩
  have kk := KS.setCells U (X + 2) 0 (xC (T) (.slice fa T.nf fc) (.slice ra T.row.length rc) (.slice sa T.ns sc)).toArray.toList
  exact ⟨kk.os.trans HBELW.out.os, kk.tape.trans HBELW.out.tape, kk.output.trans HBELW.out.output, Nat.le_trans HBELW.out.size kk.size, fun j hj => (kk.block j (Nat.lt_of_lt_of_le hj HBELW.out.size) (by have := HXE.out; omega)).trans (HBELW.out.block j hj)⟩
set_option maxRecDepth 8000 in
set_option maxHeartbeats 2000000 in
theorem rdo_5 {w : World} {T : Td} {fv rv sv lv : Value} (hx : XR w T fv rv sv) (fn : Int) {n : Nat} {L : Nat → Int} (pk pv : Int) (hu : UR w lv n L) (hb1 : T.nf ≤ 1000) (hb2 : T.ns ≤ 1000) (hb3 : T.row.length ≤ 80000) :
    Calls Try.prog 10 #[xV T fv rv sv, opV ⟨5, fn, n, L, pk, pv⟩ lv] w (DoX w ({ T with row := [], ns := 0 }) (0) (false) sv) := by
  refine Calls.veil fun Q HQ => ?_
  have HX := Lib.hid hx; have HU := Lib.hid hu
  obtain ⟨fa, fc, rfl, fc1, fc2⟩ := hx.f.slice
  obtain ⟨ra, rc, rfl, _, _⟩ := hx.r.1.slice
  obtain ⟨sa, sc, rfl, sc1, sc2⟩ := hx.s.slice
  obtain ⟨la, lc, rfl, lc1, lc2⟩ := hu.slice
  obtain ⟨d, hdu, hdr⟩ := uX
  have HDU := Lib.hid hdu; have HDR := Lib.hid hdr
  unfold xV opV
  simp only
  clear hx hu hdu hdr
  go_enter Try.func10, Try.ntmps10
  go_upto_region 1 with fail
  generalize hU : World.alloc _ _ = U
  obtain ⟨u0, u1, u2, us, hbu⟩ := heap3f hU
  obtain ⟨X, hX⟩ : ∃ X, X = w.heap.size := ⟨_, rfl⟩
  rw [← hX] at u0 u1 u2 us ⊢
  have HXE := Lib.hid hX
  have hXB : Blk 33 U X 15 (xF T (.slice fa T.nf fc) (.slice ra T.row.length rc) (.slice sa T.ns sc)) := u0
  have HB := Lib.hid hXB
  have o0 := newcell u1 0 _ rfl; have o1 := newcell u1 1 _ rfl; have o2 := newcell u1 2 _ rfl; have o3 := newcell u1 3 _ rfl; have o4 := newcell u1 4 _ rfl
  have HO := Lib.hid u1; have HZ := Lib.hid u2
  have HUS := Lib.hid us; have HBU := Lib.hid hbu
  have x12 : U.cell? ⟨X, 12, none⟩ = some (.slice fa T.nf fc) := hXB.get (i := 12) (by omega)
  have x13 : U.cell? ⟨X, 13, none⟩ = some (.slice ra T.row.length rc) := hXB.get (i := 13) (by omega)
  have x14 : U.cell? ⟨X, 14, none⟩ = some (.slice sa T.ns sc) := hXB.get (i := 14) (by omega)
  have xfr : ∀ i, U.frozen? ⟨X, i, none⟩ = false := hXB.fr
  have HXU := Lib.hid (HX.out.below hbu)
  clear hU u0 u1 u2 us hbu hX hXB
  go_upto_region 42 with fail
  generalize hW : World.setCell _ _ _ = W
  have kw : KS (fun j => j = X) U W := by rw [← hW]; exact (KS.set U X 13 _).trans (KS.set _ X 14 _)
  have hbw : Blk 33 W X 15 (xF { T with row := [], ns := 0 } (.slice fa T.nf fc) (.slice none 0 0) (.slice none 0 0)) := by
    rw [← hW]
    exact (((HB.out.set 13 _).congr fun j hj => xF_13 T { T with row := [], ns := 0 } _ _ _ _ rfl j hj).set 14 _).congr fun j hj => xF_14 _ _ _ _ _ _ rfl j hj
  have hxw := HXU.out.ks (show U.heap[X]? = _ from HB.out) (by decide) (by decide) (by decide) kw
  have hxw2 : XR W { T with row := [], ns := 0 } (.slice fa T.nf fc) (.slice none 0 0) (.slice none 0 0) := ⟨hxw.f, PO.nil _, .inl ⟨rfl, rfl⟩⟩
  have hzw := (kw.block (X + 2) (by have := HUS.out; have := HXE.out; omega) (by omega)).trans HZ.out
  have HBLW := Lib.hid (below_x HBU.out HXE.out kw)
  have HBW := Lib.hid hbw; have HXW := Lib.hid hxw2; have HZW0 := Lib.hid hzw
  clear hW kw hbw hxw hxw2 hzw x12 x13 x14 xfr o0 o1 o2 o3 o4
  have hrgx : W.rangeAt X 0 (xC ({ T with row := [], ns := 0 }) (.slice fa T.nf fc) (.slice none 0 0) (.slice none 0 0)) := by
    have := (HBW.out).range 0 15 (by omega)
    simpa [xC] using this
  have HRGX := Lib.hid hrgx
  have hthz : W.there (X + 2) 0 15 := by
    have hz : Blk 33 W (X + 2) 15 (xF ⟨fun _ => 0, fun _ => .int .u64 0, 0, fun _ => ⟨0, 0, fun _ => 0⟩, [], 0, fun _ => 0⟩ (.slice none 0 0) (.slice none 0 0) (.slice none 0 0)) := HZW0.out
    exact hz.there 0 15 (by omega)
  have HTHZ := Lib.hid hthz
  have HZW := Lib.hid (show ∃ c, W.heap[X + 2]? = some (.cells c 33 (0, 0)) from ⟨_, HZW0.out⟩)
  have HXRW := Lib.hid (show XR W ({ T with row := [], ns := 0 }) (.slice fa T.nf fc) (.slice none 0 0) (.slice none 0 0) from HXW.out)
  have HBELW := Lib.hid (show Below w.heap.size w W from HBLW.out)
  clear hrgx hthz
  go_wp2_with (first | (refine wpList_load_mid rfl 33 (.tmp 2) rfl X 0 rfl (xC ({ T with row := [], ns := 0 }) (.slice fa T.nf fc) (.slice none 0 0) (.slice none 0 0)) d HRGX.out HDU.out HDR.out (by rw [xC_len]; exact infoX) ?_) | (refine wpList_store_mid rfl 33 (.tmp 4) (.tmp 171) rfl (X + 2) 0 (xC ({ T with row := [], ns := 0 }) (.slice fa T.nf fc) (.slice none 0 0) (.slice none 0 0)).toArray rfl rfl (by rw [List.size_toArray, xC_len]; exact HTHZ.out) (by rw [List.size_toArray, xC_len]; exact infoX) (all_oneCell_toArray xC_one) ?_))
  refine bodyPost_ret (rdo_fin (Z := X + 2) (cs := xC ({ T with row := [], ns := 0 }) (.slice fa T.nf fc) (.slice none 0 0) (.slice none 0 0)) (xC_len _ _ _ _) _ _ (World.rangeAt_setCells_same _ _ _ _ (by rw [xC_len]; exact HTHZ.out)) rfl rfl rfl) rfl ?_
  rw [HQ.out]
  obtain ⟨zc, hzc⟩ := HZW.out
  refine ⟨_, _, _, rfl, HXRW.out.ks hzc (by decide) (by decide) (by decide) (KS.setCells _ _ _ _), ?_, fun j e => by cases e⟩
  have kk := KS.setCells W (X + 2) 0 (xC ({ T with row := [], ns := 0 }) (.slice fa T.nf fc) (.slice none 0 0) (.slice none 0 0)).toArray.toList
  exact ⟨kk.os.trans HBELW.out.os, kk.tape.trans HBELW.out.tape, kk.output.trans HBELW.out.output, Nat.le_trans HBELW.out.size kk.size, fun j hj => (kk.block j (Nat.lt_of_lt_of_le hj HBELW.out.size) (by have := HXE.out; omega)).trans (HBELW.out.block j hj)⟩
set_option maxRecDepth 8000 in
set_option maxHeartbeats 2000000 in
theorem rdo_40 {w : World} {T : Td} {fv rv sv lv : Value} (hx : XR w T fv rv sv) (fn : Int) {n : Nat} {L : Nat → Int} (pk pv : Int) (hu : UR w lv n L) (hb1 : T.nf ≤ 1000) (hb2 : T.ns ≤ 1000) (hb3 : T.row.length ≤ 80000) (hn : T.ns = 0) :
    Calls Try.prog 10 #[xV T fv rv sv, opV ⟨4, fn, n, L, pk, pv⟩ lv] w (DoX w (T) (0) (false) sv) := by
  refine Calls.veil fun Q HQ => ?_
  have HX := Lib.hid hx; have HU := Lib.hid hu
  obtain ⟨fa, fc, rfl, fc1, fc2⟩ := hx.f.slice
  obtain ⟨ra, rc, rfl, _, _⟩ := hx.r.1.slice
  obtain ⟨sa, sc, rfl, sc1, sc2⟩ := hx.s.slice
  obtain ⟨la, lc, rfl, lc1, lc2⟩ := hu.slice
  obtain ⟨d, hdu, hdr⟩ := uX
  have HDU := Lib.hid hdu; have HDR := Lib.hid hdr
  unfold xV opV
  simp only
  clear hx hu hdu hdr
  have HN := Lib.hid hn
  clear hn
  go_enter Try.func10, Try.ntmps10
  go_upto_region 1 with fail
  generalize hU : World.alloc _ _ = U
  obtain ⟨u0, u1, u2, us, hbu⟩ := heap3f hU
  obtain ⟨X, hX⟩ : ∃ X, X = w.heap.size := ⟨_, rfl⟩
  rw [← hX] at u0 u1 u2 us ⊢
  have HXE := Lib.hid hX
  have hXB : Blk 33 U X 15 (xF T (.slice fa T.nf fc) (.slice ra T.row.length rc) (.slice sa T.ns sc)) := u0
  have HB := Lib.hid hXB
  have o0 := newcell u1 0 _ rfl; have o1 := newcell u1 1 _ rfl; have o2 := newcell u1 2 _ rfl; have o3 := newcell u1 3 _ rfl; have o4 := newcell u1 4 _ rfl
  have HO := Lib.hid u1; have HZ := Lib.hid u2
  have HUS := Lib.hid us; have HBU := Lib.hid hbu
  have x12 : U.cell? ⟨X, 12, none⟩ = some (.slice fa T.nf fc) := hXB.get (i := 12) (by omega)
  have x13 : U.cell? ⟨X, 13, none⟩ = some (.slice ra T.row.length rc) := hXB.get (i := 13) (by omega)
  have x14 : U.cell? ⟨X, 14, none⟩ = some (.slice sa T.ns sc) := hXB.get (i := 14) (by omega)
  have xfr : ∀ i, U.frozen? ⟨X, i, none⟩ = false := hXB.fr
  have HXU := Lib.hid (HX.out.below hbu)
  clear hU u0 u1 u2 us hbu hX hXB
  rw [HN.out] at x14
  have hrgx : U.rangeAt X 0 (xC (T) (.slice fa T.nf fc) (.slice ra T.row.length rc) (.slice sa T.ns sc)) := by
    have := (HB.out).range 0 15 (by omega)
    simpa [xC] using this
  have HRGX := Lib.hid hrgx
  have hthz : U.there (X + 2) 0 15 := by
    have hz : Blk 33 U (X + 2) 15 (xF ⟨fun _ => 0, fun _ => .int .u64 0, 0, fun _ => ⟨0, 0, fun _ => 0⟩, [], 0, fun _ => 0⟩ (.slice none 0 0) (.slice none 0 0) (.slice none 0 0)) := HZ.out
    exact hz.there 0 15 (by omega)
  have HTHZ := Lib.hid hthz
  have HZW := Lib.hid (show ∃ c, U.heap[X + 2]? = some (.cells c 33 (0, 0)) from ⟨_, HZ.out⟩)
  have HXRW := Lib.hid (show XR U (T) (.slice fa T.nf fc) (.slice ra T.row.length rc) (.slice sa T.ns sc) from HXU.out)
  have HBELW := Lib.hid (show Below w.heap.size w U from HBU.out)
  clear hrgx hthz
  go_wp2_with (first | (refine wpList_load_mid rfl 33 (.tmp 2) rfl X 0 rfl (xC (T) (.slice fa T.nf fc) (.slice ra T.row.length rc) (.slice sa T.ns sc)) d HRGX.out HDU.out HDR.out (by rw [xC_len]; exact infoX) ?_) | (refine wpList_store_mid rfl 33 (.tmp 4) (.tmp 117) rfl (X + 2) 0 (xC (T) (.slice fa T.nf fc) (.slice ra T.row.length rc) (.slice sa T.ns sc)).toArray rfl rfl (by rw [List.size_toArray, xC_len]; exact HTHZ.out) (by rw [List.size_toArray, xC_len]; exact infoX) (all_oneCell_toArray xC_one) ?_))
  refine bodyPost_ret (rdo_fin (Z := X + 2) (cs := xC (T) (.slice fa T.nf fc) (.slice ra T.row.length rc) (.slice sa T.ns sc)) (xC_len _ _ _ _) _ _ (World.rangeAt_setCells_same _ _ _ _ (by rw [xC_len]; exact HTHZ.out)) rfl rfl rfl) rfl ?_
  rw [HQ.out]
  obtain ⟨zc, hzc⟩ := HZW.out
  refine ⟨_, _, _, rfl, HXRW.out.ks hzc (by decide) (by decide) (by decide) (KS.setCells _ _ _ _), ?_, fun j e => .inl e⟩
  have kk := KS.setCells U (X + 2) 0 (xC (T) (.slice fa T.nf fc) (.slice ra T.row.length rc) (.slice sa T.ns sc)).toArray.toList
  exact ⟨kk.os.trans HBELW.out.os, kk.tape.trans HBELW.out.tape, kk.output.trans HBELW.out.output, Nat.le_trans HBELW.out.size kk.size, fun j hj => (kk.block j (Nat.lt_of_lt_of_le hj HBELW.out.size) (by have := HXE.out; omega)).trans (HBELW.out.block j hj)⟩
set_option maxRecDepth 8000 in
set_option maxHeartbeats 2000000 in
theorem rdo_41 {w : World} {T : Td} {fv rv sv lv : Value} (hx : XR w T fv rv sv) {m : Nat} (fn : Int) {n : Nat} {L : Nat → Int} (pk pv : Int) (hu : UR w lv n L) (hb1 : T.nf ≤ 1000) (hb2 : T.ns ≤ 1000) (hb3 : T.row.length ≤ 80000) (hn : T.ns = m + 1) :
    Calls Try.prog 10 #[xV T fv rv sv, opV ⟨4, fn, n, L, pk, pv⟩ lv] w (DoX w ({ T with ns := m }) (T.st m) (true) sv) := by
  refine Calls.veil fun Q HQ => ?_
  have HX := Lib.hid hx; have HU := Lib.hid hu
  obtain ⟨fa, fc, rfl, fc1, fc2⟩ := hx.f.slice
  obtain ⟨ra, rc, rfl, _, _⟩ := hx.r.1.slice
  obtain ⟨sa, sc, rfl, sc1, sc2⟩ := hx.s.slice
  obtain ⟨la, lc, rfl, lc1, lc2⟩ := hu.slice
  obtain ⟨d, hdu, hdr⟩ := uX
  have HDU := Lib.hid hdu; have HDR := Lib.hid hdr
  unfold xV opV
  simp only
  clear hx hu hdu hdr
  have HN := Lib.hid hn
  clear hn
  go_enter Try.func10, Try.ntmps10
  go_upto_region 1 with fail
  generalize hU : World.alloc _ _ = U
  obtain ⟨u0, u1, u2, us, hbu⟩ := heap3f hU
  obtain ⟨X, hX⟩ : ∃ X, X = w.heap.size := ⟨_, rfl⟩
  rw [← hX] at u0 u1 u2 us ⊢
  have HXE := Lib.hid hX
  have hXB : Blk 33 U X 15 (xF T (.slice fa T.nf fc) (.slice ra T.row.length rc) (.slice sa T.ns sc)) := u0
  have HB := Lib.hid hXB
  have o0 := newcell u1 0 _ rfl; have o1 := newcell u1 1 _ rfl; have o2 := newcell u1 2 _ rfl; have o3 := newcell u1 3 _ rfl; have o4 := newcell u1 4 _ rfl
  have HO := Lib.hid u1; have HZ := Lib.hid u2
  have HUS := Lib.hid us; have HBU := Lib.hid hbu
  have x12 : U.cell? ⟨X, 12, none⟩ = some (.slice fa T.nf fc) := hXB.get (i := 12) (by omega)
  have x13 : U.cell? ⟨X, 13, none⟩ = some (.slice ra T.row.length rc) := hXB.get (i := 13) (by omega)
  have x14 : U.cell? ⟨X, 14, none⟩ = some (.slice sa T.ns sc) := hXB.get (i := 14) (by omega)
  have xfr : ∀ i, U.frozen? ⟨X, i, none⟩ = false := hXB.fr
  have HXU := Lib.hid (HX.out.below hbu)
  clear hU u0 u1 u2 us hbu hX hXB
  have hs := HXU.out.s
  rw [HN.out] at x14 hs
  rcases hs with ⟨_, h0⟩ | ⟨g, c, hv, h1, h2, h3⟩
  · omega
  have hv' : sa = some ⟨g, 0, none⟩ ∧ sc = c := by
    simp only [Value.slice.injEq] at hv
    exact ⟨hv.1, hv.2.2⟩
  obtain ⟨rfl, rfl⟩ := hv'
  have cg := h3.get (j := m) (by omega)
  have H3 := Lib.hid h3
  have hne : ¬ ((m : Int) + 1 = 0) := by omega
  clear h3 hv
  go_upto_region 30 with fail
  generalize hW : World.setCell _ _ _ = W
  have kw : KS (fun j => j = X) U W := by rw [← hW]; exact KS.set U X 14 _
  have hbw : Blk 33 W X 15 (xF { T with ns := m } (.slice fa T.nf fc) (.slice ra T.row.length rc) (.slice (some ⟨g, 0, none⟩) m sc)) := by
    rw [← hW]
    exact (HB.out.set 14 _).congr fun j hj => xF_14 T _ _ _ _ _ rfl j hj
  have hxw := HXU.out.ks (show U.heap[X]? = _ from HB.out) (by decide) (by decide) (by decide) kw
  have hg : g ≠ X := by
    obtain ⟨cur, hc⟩ := H3.out.blk
    exact ne_ty hc (show U.heap[X]? = _ from HB.out) (by decide)
  have hxw2 : XR W { T with ns := m } (.slice fa T.nf fc) (.slice ra T.row.length rc) (.slice (some ⟨g, 0, none⟩) m sc) := ⟨hxw.f, hxw.r, .inr ⟨g, sc, rfl, by show m ≤ sc; omega, h2, (H3.out.less (by show m ≤ m + 1; omega)).of (kw.block g H3.out.lt hg)⟩⟩
  have hzw := (kw.block (X + 2) (by have := HUS.out; have := HXE.out; omega) (by omega)).trans HZ.out
  have HBLW := Lib.hid (below_x HBU.out HXE.out kw)
  have HBW := Lib.hid hbw; have HXW := Lib.hid hxw2; have HZW0 := Lib.hid hzw
  clear hW kw hbw hxw hxw2 hzw x12 x13 x14 xfr o0 o1 o2 o3 o4 cg hne hg
  have hrgx : W.rangeAt X 0 (xC ({ T with ns := m }) (.slice fa T.nf fc) (.slice ra T.row.length rc) (.slice (some ⟨g, 0, none⟩) m sc)) := by
    have := (HBW.out).range 0 15 (by omega)
    simpa [xC] using this
  have HRGX := Lib.hid hrgx
  have hthz : W.there (X + 2) 0 15 := by
    have hz : Blk 33 W (X + 2) 15 (xF ⟨fun _ => 0, fun _ => .int .u64 0, 0, fun _ => ⟨0, 0, fun _ => 0⟩, [], 0, fun _ => 0⟩ (.slice none 0 0) (.slice none 0 0) (.slice none 0 0)) := HZW0.out
    exact hz.there 0 15 (by omega)
  have HTHZ := Lib.hid hthz
  have HZW := Lib.hid (show ∃ c, W.heap[X + 2]? = some (.cells c 33 (0, 0)) from ⟨_, HZW0.out⟩)
  have HXRW := Lib.hid (show XR W ({ T with ns := m }) (.slice fa T.nf fc) (.slice ra T.row.length rc) (.slice (some ⟨g, 0, none⟩) m sc) from HXW.out)
  have HBELW := Lib.hid (show Below w.heap.size w W from HBLW.out)
  clear hrgx hthz
  go_wp2_with (first | (refine wpList_load_mid rfl 33 (.tmp 2) rfl X 0 rfl (xC ({ T with ns := m }) (.slice fa T.nf fc) (.slice ra T.row.length rc) (.slice (some ⟨g, 0, none⟩) m sc)) d HRGX.out HDU.out HDR.out (by rw [xC_len]; exact infoX) ?_) | (refine wpList_store_mid rfl 33 (.tmp 4) (.tmp 130) rfl (X + 2) 0 (xC ({ T with ns := m }) (.slice fa T.nf fc) (.slice ra T.row.length rc) (.slice (some ⟨g, 0, none⟩) m sc)).toArray rfl rfl (by rw [List.size_toArray, xC_len]; exact HTHZ.out) (by rw [List.size_toArray, xC_len]; exact infoX) (all_oneCell_toArray xC_one) ?_))
  refine bodyPost_ret (rdo_fin (Z := X + 2) (cs := xC ({ T with ns := m }) (.slice fa T.nf fc) (.slice ra T.row.length rc) (.slice (some ⟨g, 0, none⟩) m sc)) (xC_len _ _ _ _) _ _ (World.rangeAt_setCells_same _ _ _ _ (by rw [xC_len]; exact HTHZ.out)) rfl rfl rfl) rfl ?_
  rw [HQ.out]
  obtain ⟨zc, hzc⟩ := HZW.out
  refine ⟨_, _, _, rfl, HXRW.out.ks hzc (by decide) (by decide) (by decide) (KS.setCells _ _ _ _), ?_, fun j e => .inl (by cases e; rfl)⟩
  have kk := KS.setCells W (X + 2) 0 (xC ({ T with ns := m }) (.slice fa T.nf fc) (.slice ra T.row.length rc) (.slice (some ⟨g, 0, none⟩) m sc)).toArray.toList
  exact ⟨kk.os.trans HBELW.out.os, kk.tape.trans HBELW.out.tape, kk.output.trans HBELW.out.output, Nat.le_trans HBELW.out.size kk.size, fun j hj => (kk.block j (Nat.lt_of_lt_of_le hj HBELW.out.size) (by have := HXE.out; omega)).trans (HBELW.out.block j hj)⟩
set_option maxRecDepth 8000 in
set_option maxHeartbeats 2000000 in
theorem rdo_2 {w : World} {T : Td} {fv rv sv lv : Value} (hx : XR w T fv rv sv) (fn : Int) {n : Nat} {L : Nat → Int} (pk pv : Int) (hu : UR w lv n L) (hb1 : T.nf ≤ 1000) (hb2 : T.ns ≤ 1000) (hb3 : T.row.length ≤ 80000) :
    Calls Try.prog 10 #[xV T fv rv sv, opV ⟨2, fn, n, L, pk, pv⟩ lv] w (DoX w ({ T with row := putL T.row (pk, pv) }) (0) (!hereB T.row pk) sv) := by
  refine Calls.veil fun Q HQ => ?_
  have HX := Lib.hid hx; have HU := Lib.hid hu
  obtain ⟨fa, fc, rfl, fc1, fc2⟩ := hx.f.slice
  obtain ⟨ra, rc, rfl, _, _⟩ := hx.r.1.slice
  obtain ⟨sa, sc, rfl, sc1, sc2⟩ := hx.s.slice
  obtain ⟨la, lc, rfl, lc1, lc2⟩ := hu.slice
  obtain ⟨d, hdu, hdr⟩ := uX
  have HDU := Lib.hid hdu; have HDR := Lib.hid hdr
  unfold xV opV
  simp only
  clear hx hu hdu hdr
  go_enter Try.func10, Try.ntmps10
  go_upto_region 1 with fail
  generalize hU : World.alloc _ _ = U
  obtain ⟨u0, u1, u2, us, hbu⟩ := heap3f hU
  obtain ⟨X, hX⟩ : ∃ X, X = w.heap.size := ⟨_, rfl⟩
  rw [← hX] at u0 u1 u2 us ⊢
  have HXE := Lib.hid hX
  have hXB : Blk 33 U X 15 (xF T (.slice fa T.nf fc) (.slice ra T.row.length rc) (.slice sa T.ns sc)) := u0
  have HB := Lib.hid hXB
  have o0 := newcell u1 0 _ rfl; have o1 := newcell u1 1 _ rfl; have o2 := newcell u1 2 _ rfl; have o3 := newcell u1 3 _ rfl; have o4 := newcell u1 4 _ rfl
  have HO := Lib.hid u1; have HZ := Lib.hid u2
  have HUS := Lib.hid us; have HBU := Lib.hid hbu
  have x12 : U.cell? ⟨X, 12, none⟩ = some (.slice fa T.nf fc) := hXB.get (i := 12) (by omega)
  have x13 : U.cell? ⟨X, 13, none⟩ = some (.slice ra T.row.length rc) := hXB.get (i := 13) (by omega)
  have x14 : U.cell? ⟨X, 14, none⟩ = some (.slice sa T.ns sc) := hXB.get (i := 14) (by omega)
  have xfr : ∀ i, U.frozen? ⟨X, i, none⟩ = false := hXB.fr
  have HXU := Lib.hid (HX.out.below hbu)
  clear hU u0 u1 u2 us hbu hX hXB
  go_wp2_with fail
  refine (rputO _ _ pk pv _ HXU.out.r (by omega)).mono ?_; rintro _ w4 ⟨v', rfl, hp4, hb4⟩
  obtain ⟨p4, c4, rfl, _, _⟩ := hp4.1.slice
  have HP4 := Lib.hid hp4
  have HB4 := Lib.hid hb4
  have hxb := HB.out.below hb4
  have HXB := Lib.hid hxb
  have x13 := Ext.use (Ext.cells x13) hb4
  have xfr : ∀ i, w4.frozen? ⟨X, i, none⟩ = false := hxb.fr
  clear hp4 hb4 hxb x12 x14 o0 o1 o2 o3 o4
  go_upto_region 21 with fail
  generalize hW : World.setCell _ _ _ = W
  have kw : KS (fun j => j = X) w4 W := by rw [← hW]; exact KS.set w4 X 13 _
  have hbw : Blk 33 W X 15 (xF { T with row := putL T.row (pk, pv) } (.slice fa T.nf fc) (.slice p4 (putL T.row (pk, pv)).length c4) (.slice sa T.ns sc)) := by
    rw [← hW]
    exact (HXB.out.set 13 _).congr fun j hj => xF_13 T _ _ _ _ _ rfl j hj
  have hx4 := HXU.out.below HB4.out
  have hxw := (show XR w4 { T with row := putL T.row (pk, pv) } _ _ _ from ⟨hx4.f, HP4.out, hx4.s⟩).ks (show w4.heap[X]? = _ from HXB.out) (by decide) (by decide) (by decide) kw
  have hzw := (kw.block (X + 2) (by have := HUS.out; have := HXE.out; have := HB4.out.size; omega) (by omega)).trans (up HB4.out HZ.out)
  have HBLW := Lib.hid (below_x (below_on HBU.out HB4.out) HXE.out kw)
  have HBW := Lib.hid hbw; have HXW := Lib.hid hxw; have HZW0 := Lib.hid hzw
  clear hW kw hbw hxw hzw x13 xfr hx4
  have hrgx : W.rangeAt X 0 (xC ({ T with row := putL T.row (pk, pv) }) (.slice fa T.nf fc) (.slice p4 (putL T.row (pk, pv)).length c4) (.slice sa T.ns sc)) := by
    have := (HBW.out).range 0 15 (by omega)
    simpa [xC] using this
  have HRGX := Lib.hid hrgx
  have hthz : W.there (X + 2) 0 15 := by
    have hz : Blk 33 W (X + 2) 15 (xF ⟨fun _ => 0, fun _ => .int .u64 0, 0, fun _ => ⟨0, 0, fun _ => 0⟩, [], 0, fun _ => 0⟩ (.slice none 0 0) (.slice none 0 0) (.slice none 0 0)) := HZW0.out
    exact hz.there 0 15 (by omega)
  have HTHZ := Lib.hid hthz
  have HZW := Lib.hid (show ∃ c, W.heap[X + 2]? = some (.cells c 33 (0, 0)) from ⟨_, HZW0.out⟩)
  have HXRW := Lib.hid (show XR W ({ T with row := putL T.row (pk, pv) }) (.slice fa T.nf fc) (.slice p4 (putL T.row (pk, pv)).length c4) (.slice sa T.ns sc) from HXW.out)
  have HBELW := Lib.hid (show Below w.heap.size w W from HBLW.out)
  clear hrgx hthz
  go_wp2_with (first | (refine wpList_load_mid rfl 33 (.tmp 2) rfl X 0 rfl (xC ({ T with row := putL T.row (pk, pv) }) (.slice fa T.nf fc) (.slice p4 (putL T.row (pk, pv)).length c4) (.slice sa T.ns sc)) d HRGX.out HDU.out HDR.out (by rw [xC_len]; exact infoX) ?_) | (refine wpList_store_mid rfl 33 (.tmp 4) (.tmp 96) rfl (X + 2) 0 (xC ({ T with row := putL T.row (pk, pv) }) (.slice fa T.nf fc) (.slice p4 (putL T.row (pk, pv)).length c4) (.slice sa T.ns sc)).toArray rfl rfl (by rw [List.size_toArray, xC_len]; exact HTHZ.out) (by rw [List.size_toArray, xC_len]; exact infoX) (all_oneCell_toArray xC_one) ?_))
  refine bodyPost_ret (rdo_fin (Z := X + 2) (cs := xC ({ T with row := putL T.row (pk, pv) }) (.slice fa T.nf fc) (.slice p4 (putL T.row (pk, pv)).length c4) (.slice sa T.ns sc)) (xC_len _ _ _ _) _ _ (World.rangeAt_setCells_same _ _ _ _ (by rw [xC_len]; exact HTHZ.out)) rfl rfl rfl) rfl ?_
  rw [HQ.out]
  obtain ⟨zc, hzc⟩ := HZW.out
  refine ⟨_, _, _, rfl, HXRW.out.ks hzc (by decide) (by decide) (by decide) (KS.setCells _ _ _ _), ?_, fun j e => .inl e⟩
  have kk := KS.setCells W (X + 2) 0 (xC ({ T with row := putL T.row (pk, pv) }) (.slice fa T.nf fc) (.slice p4 (putL T.row (pk, pv)).length c4) (.slice sa T.ns sc)).toArray.toList
  exact ⟨kk.os.trans HBELW.out.os, kk.tape.trans HBELW.out.tape, kk.output.trans HBELW.out.output, Nat.le_trans HBELW.out.size kk.size, fun j hj => (kk.block j (Nat.lt_of_lt_of_le hj HBELW.out.size) (by have := HXE.out; omega)).trans (HBELW.out.block j hj)⟩
end Go.Proofs.Ytdnjconfmaiegaa
