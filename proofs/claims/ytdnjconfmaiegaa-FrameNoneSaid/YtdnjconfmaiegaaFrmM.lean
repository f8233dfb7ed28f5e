/- Layer 15: the reference's Do: the top frame. -/
import Derived.Test.YtdnjconfmaiegaaFrmL
import Derived.Test.YtdnjconfmaiegaaFrmH
import Derived.Deep.RegionLaw
import Derived.Deep.AppendLies
namespace Go.Proofs.Ytdnjconfmaiegaa
open Go.RowKit
set_option linter.unusedVariables false
set_option linter.unusedSimpArgs false
theorem app_run {T SL : TypeId} {z : Value} {sz bytes : Nat} (uT : Try.prog.underlying SL = some (.slice T)) (iT : (Try.prog.info? T).map (fun i => (i.zero, i.size, i.bytes)) = some (some z, sz, bytes)) (hz : z.cells.size = sz) (hsz : 0 < sz) (hby : bytes ≤ 1000)
    {w U : World} (hU : Below U.heap.size U w) {v u : Value} {n m : Nat} {xs news : List Value} (hown : w.ownsRow U.heap.size T sz v n xs) (hu : Apd w u m sz news) (h1 : ∀ u ∈ news, u.oneCell' = true) (hn : n ≤ 100000) (hm : m ≤ 100000) :
    ∃ p c w', (Builtin.append_ #[SL, SL] SL #[v, u]).run Try.prog w = .ok (.slice p (n + m) c) w' ∧ w'.ownsRow U.heap.size T sz (.slice p (n + m) c) (n + m) (xs ++ news) ∧ Below U.heap.size U w' := by
  obtain ⟨i0, hi, hz0, hz1, hz2⟩ := info_any iT
  have key : ∃ v' w', (Builtin.append_ #[SL, SL] SL #[v, u]).run Try.prog w = .ok v' w' ∧ w'.ownsRow U.heap.size T sz v' (n + m) (xs ++ news) ∧ w.grownBy w' v.ownBlock := by
    rcases hu with ⟨rfl, rfl, rfl⟩ | ⟨ad, c, rfl, hl, hc⟩
    · exact ⟨v, w, run_append_owned_none (P := Try.prog) (w := w) U.heap.size SL SL T i0 sz uT hi v n xs hown, by simpa using hown, ⟨rfl, rfl, rfl, Nat.le_refl _, fun _ _ _ => rfl⟩⟩
    · obtain ⟨v', w', hr, h2, h3, _, _⟩ := run_append_own_at (P := Try.prog) w U.heap.size SL SL T i0 z sz bytes uT hi hz0 hz1 hz2 hz hsz v n xs hown ad m c news hl hc h1 (by unfold maxLen; omega) (Nat.le_trans (Nat.mul_le_mul (show n + m ≤ 200000 by omega) hby) (by decide)) hU.size
      exact ⟨v', w', hr, h2, h3⟩
  obtain ⟨v', w', hr, h2, h3⟩ := key
  have hsl : ∃ p c, v' = .slice p (n + m) c := by
    rcases h2.2 with ⟨rfl, h0⟩ | ⟨g, cap, cur, rfl, _⟩
    · exact ⟨none, 0, by rw [h0]⟩
    · exact ⟨_, _, rfl⟩
  obtain ⟨p, c, rfl⟩ := hsl
  exact ⟨p, c, w', hr, h2, ⟨h3.os.trans hU.os, h3.tape.trans hU.tape, h3.output.trans hU.output, Nat.le_trans hU.size h3.size, fun k hk => (h3.block k (Nat.lt_of_lt_of_le hk hU.size) (fun e => by
    rcases hown.2 with ⟨rfl, _⟩ | ⟨g, cap, cur, rfl, hg, _⟩
    · cases e
    · simp only [Value.ownBlock, Option.some.injEq] at e; omega)).trans (hU.block k hk)⟩⟩
theorem rf_pc (fs : Nat → Fm) (m : Nat) (fn : Int) (j : Nat) (hj : j < (m + 1) * 26) : (if j = m * 26 + 1 then Value.int .i64 fn else rfF fs j) = rfF (upM fs m ⟨(fs m).fn, fn, (fs m).r⟩) j := by
  unfold rfF upM
  by_cases h : j / 26 = m
  · rw [if_pos h, h]
    have := frF_pc (fs m) fn (j % 26) (by omega)
    rw [← this]; unfold upF
    by_cases e : j = m * 26 + 1
    · rw [if_pos e, if_pos (by omega)]
    · rw [if_neg e, if_neg (by omega)]
  · rw [if_neg h, if_neg (by omega)]
theorem rf_r (fs : Nat → Fm) (m a : Nat) (ha : a < 24) (x : Int) (j : Nat) (hj : j < (m + 1) * 26) : (if j = m * 26 + 2 + a then Value.int .u64 x else rfF fs j) = rfF (upM fs m ⟨(fs m).fn, (fs m).pc, fun i => if i = a then x else (fs m).r i⟩) j := by
  unfold rfF upM
  by_cases h : j / 26 = m
  · rw [if_pos h, h]
    have := frF_r (fs m) a x (j % 26) (by omega)
    rw [← this]; unfold upF
    by_cases e : j = m * 26 + 2 + a
    · rw [if_pos e, if_pos (by omega)]
    · rw [if_neg e, if_neg (by omega)]
  · rw [if_neg h, if_neg (by omega)]
theorem rf_get (fs : Nat → Fm) (m a : Nat) (ha : a < 24) {f : Fm} : rfF (upM fs m f) (m * 26 + 2 + a) = .int .u64 (f.r a) := by
  have e1 : (m * 26 + 2 + a) / 26 = m := by omega
  have e2 : (m * 26 + 2 + a) % 26 = 2 + a := by omega
  unfold rfF
  rw [e1, e2]
  unfold upM frF
  rw [if_pos rfl, if_neg (by omega), if_neg (by omega), show 2 + a - 2 = a by omega]
theorem own_row {w : World} {B : Nat} {p : Option Addr} {m c : Nat} {fs : Nat → Fm} (h : w.ownsRow B 65 26 (.slice p (m + 1) c) (m + 1) ((List.range ((m + 1) * 26)).map (rfF fs))) : ∃ g, p = some ⟨g, 0, none⟩ ∧ m + 1 ≤ c ∧ c ≤ 9223372036854775807 ∧ B ≤ g ∧ RowF 65 w g ((m + 1) * 26) (rfF fs) := by
  rcases h.2 with ⟨hv, h0⟩ | ⟨g, cap, cur, hv, hb, hh, h1, h2, h3, h4⟩
  · omega
  · simp only [Value.slice.injEq, true_and] at hv
    obtain ⟨rfl, rfl⟩ := hv
    exact ⟨g, rfl, h1, h2, hb, cur, hh, h4⟩
theorem ks_row {T : TypeId} {w W : World} {X g n : Nat} {F : Nat → Value} (h : RowF T w g n F) (k : KS (fun j => j = X) w W) (hx : g ≠ X) : RowF T W g n F := h.of (k.block g h.lt hx)
set_option maxRecDepth 8000 in
set_option maxHeartbeats 2000000 in
theorem rdo_61n {w : World} {T : Td} {fv rv sv lv : Value} (hx : XR w T fv rv sv) {m : Nat} (fn : Int) {n : Nat} {L : Nat → Int} (pk pv : Int) (hu : UR w lv n L) (hb1 : T.nf ≤ 1000) (hb2 : T.ns ≤ 1000) (hb3 : T.row.length ≤ 80000) (hn : T.nf = m + 1) (hf : fn < 0) :
    Calls Try.prog 10 #[xV T fv rv sv, opV ⟨6, fn, n, L, pk, pv⟩ lv] w (DoX w (touchT T fn) (0) (false) sv) := by
  refine Calls.veil fun Q HQ => ?_
  have HX := Lib.hid hx; have HU := Lib.hid hu
  obtain ⟨fa, fc, rfl, fc1, fc2⟩ := hx.f.slice
  obtain ⟨ra, rc, rfl, _, _⟩ := hx.r.1.slice
  obtain ⟨sa, sc, rfl, sc1, sc2⟩ := hx.s.slice
  obtain ⟨la, lc, rfl, lc1, lc2⟩ := hu.slice
  obtain ⟨d, hdu, hdr⟩ := uX
  have HDU := Lib.hid hdu; have HDR := Lib.hid hdr
  unfold xV opV
  simp only
  clear hx hu hdu hdr
  have HN := Lib.hid hn
  clear hn
  go_enter Try.func10, Try.ntmps10
  go_upto_region 1 with fail
  generalize hU : World.alloc _ _ = U
  obtain ⟨u0, u1, u2, us, hbu⟩ := heap3f hU
  obtain ⟨X, hX⟩ : ∃ X, X = w.heap.size := ⟨_, rfl⟩
  rw [← hX] at u0 u1 u2 us ⊢
  have HXE := Lib.hid hX
  have hXB : Blk 33 U X 15 (xF T (.slice fa T.nf fc) (.slice ra T.row.length rc) (.slice sa T.ns sc)) := u0
  have HB := Lib.hid hXB
  have o0 := newcell u1 0 _ rfl; have o1 := newcell u1 1 _ rfl; have o2 := newcell u1 2 _ rfl; have o3 := newcell u1 3 _ rfl; have o4 := newcell u1 4 _ rfl
  have HO := Lib.hid u1; have HZ := Lib.hid u2
  have HUS := Lib.hid us; have HBU := Lib.hid hbu
  have x12 : U.cell? ⟨X, 12, none⟩ = some (.slice fa T.nf fc) := hXB.get (i := 12) (by omega)
  have x13 : U.cell? ⟨X, 13, none⟩ = some (.slice ra T.row.length rc) := hXB.get (i := 13) (by omega)
  have x14 : U.cell? ⟨X, 14, none⟩ = some (.slice sa T.ns sc) := hXB.get (i := 14) (by omega)
  have xfr : ∀ i, U.frozen? ⟨X, i, none⟩ = false := hXB.fr
  have HXU := Lib.hid (HX.out.below hbu)
  clear hU u0 u1 u2 us hbu hX hXB
  have hmb : m ≤ 1000 := by have := HN.out; omega
  have hf0 := HXU.out.f
  rw [HN.out] at x12 hf0
  have HFA := hf0.apd
  obtain ⟨pl, cl, W1, hrun, hown, hbw1⟩ := app_run uFF infoFF (by rfl) (by decide) (by decide) (U := U) (w := U.alloc (.cells #[] 65)) (by (repeat (first | exact Below.refl _ _ | assumption | refine below_new ?_ _ | refine Below.drew ?_ | refine below_drewN ?_ _ | refine below_on ?_ (by assumption)))) (own_empty (heap_alloc_new _ _) (Nat.le_refl _)) ((hf0.keep fun b cur hb => (by (repeat (first | exact Below.refl _ _ | assumption | refine below_new ?_ _ | refine Below.drew ?_ | refine below_drewN ?_ _ | refine below_on ?_ (by assumption))) : Below U.heap.size U _).block b (blk_lt hb)).apd) rf_one (by omega) (by omega)
  simp only [Nat.zero_add, List.nil_append] at hrun hown
  obtain ⟨g, rfl, hc1, hc2, hgB, hrow⟩ := own_row hown
  have HRUN := Lib.hid hrun
  have x12n := fun o => Ext.on x12 o
  have hne : ¬ ((m : Int) + 1 = 0) := by omega
  have hmi : (m : Int) < (m : Int) + 1 := by omega
  have HGB := Lib.hid hgB
  have hgX : g ≠ X := by have := HUS.out; have := HXE.out; omega
  have HGX := Lib.hid hgX
  have cp : W1.cell? ⟨g, m * 26 + 1, none⟩ = some (rfF T.fs (m * 26 + 1)) := hrow.get (by omega)
  have cfr : ∀ i, W1.frozen? ⟨g, i, none⟩ = false := hrow.fr
  have q1 := Ext.use (Ext.cells o1) hbw1
  have HROW := Lib.hid hrow
  have HB1W := Lib.hid hbw1
  clear hf0 HFA hown hgB hgX hrow hbw1 hrun
  go_upto_region 39 with (at_builtin; refine wpList_append_run rfl (.tmp 141) (.tmp 143) 29 rfl rfl rfl rfl HRUN.out ?_)
  generalize hW : World.setCell _ _ _ = W2
  have hk2 : KS (fun j => j = g) W1 W2 := by rw [← hW]; exact KS.set W1 g _ _
  have hr2 : RowF 65 W2 g ((m + 1) * 26) (rfF (upM T.fs m ⟨(T.fs m).fn, fn, (T.fs m).r⟩)) := by
    rw [← hW]; exact (HROW.out.set (m * 26 + 1) _).congr fun j hj => rf_pc T.fs m fn j hj
  have hb2 : Below U.heap.size U W2 := ⟨hk2.os.trans HB1W.out.os, hk2.tape.trans HB1W.out.tape, hk2.output.trans HB1W.out.output, Nat.le_trans HB1W.out.size hk2.size, fun j hj => (hk2.block j (Nat.lt_of_lt_of_le hj HB1W.out.size) (by have := HGB.out; omega)).trans (HB1W.out.block j hj)⟩
  have HR2 := Lib.hid hr2; have HB2 := Lib.hid hb2
  have q1 := Ext.use (Ext.cells o1) hb2
  clear hW hk2 hr2 hb2 cp cfr
  have hf2 : ¬ 0 ≤ fn := by omega
  obtain ⟨W3, hW3⟩ : ∃ W, W = W2 := ⟨_, rfl⟩
  have HR3 := HR2; have HB3 := HB2
  have FSE := Lib.hid (show (touchT T fn).fs = upM T.fs m ⟨(T.fs m).fn, fn, (T.fs m).r⟩ by unfold touchT touch; simp only []; rw [show T.nf - 1 = m by rw [HN.out]; omega, if_neg (by omega)])
  have x12 := Ext.use (Ext.cells x12) HB3.out
  have xfr : ∀ i, W2.frozen? ⟨X, i, none⟩ = false := (HB.out.below HB3.out).fr
  go_upto_region 42 with fail
  generalize hW : World.setCell _ _ _ = W
  have kw : KS (fun j => j = X) W2 W := by rw [← hW]; exact KS.set W2 X 12 _
  have hbw : Blk 33 W X 15 (xF (touchT T fn) (.slice (some ⟨g, 0, none⟩) (m + 1) cl) (.slice ra T.row.length rc) (.slice sa T.ns sc)) := by
    rw [← hW]
    exact ((HB.out.below HB3.out).set 12 _).congr fun j hj => xF_12 T (touchT T fn) _ _ _ _ rfl j hj
  have hx2 := HXU.out.below HB3.out
  have hnf : (touchT T fn).nf = m + 1 := HN.out
  have hfr : FR W2 (.slice (some ⟨g, 0, none⟩) (m + 1) cl) (touchT T fn).nf (touchT T fn).fs := by
    rw [hnf, FSE.out]; exact .inr ⟨g, cl, rfl, hc1, hc2, HR3.out⟩
  have hxw := (show XR W2 (touchT T fn) (.slice (some ⟨g, 0, none⟩) (m + 1) cl) (.slice ra T.row.length rc) (.slice sa T.ns sc) from ⟨hfr, hx2.r, hx2.s⟩).ks (show W2.heap[X]? = _ from HB.out.below HB3.out) (by decide) (by decide) (by decide) kw
  have hzw := (kw.block (X + 2) (by have := HUS.out; have := HXE.out; have := HB3.out.size; omega) (by omega)).trans (up HB3.out HZ.out)
  have HBLW := Lib.hid (below_x (below_on HBU.out HB3.out) HXE.out kw)
  have HBW := Lib.hid hbw; have HXW := Lib.hid hxw; have HZW0 := Lib.hid hzw
  clear hW kw hbw hxw hzw hx2 hnf hfr x12 x12n x13 x14 xfr o0 o1 o2 o3 o4
  have hrgx : W.rangeAt X 0 (xC (touchT T fn) (.slice (some ⟨g, 0, none⟩) (m + 1) cl) (.slice ra T.row.length rc) (.slice sa T.ns sc)) := by
    have := (HBW.out).range 0 15 (by omega)
    simpa [xC] using this
  have HRGX := Lib.hid hrgx
  have hthz : W.there (X + 2) 0 15 := by
    have hz : Blk 33 W (X + 2) 15 (xF ⟨fun _ => 0, fun _ => .int .u64 0, 0, fun _ => ⟨0, 0, fun _ => 0⟩, [], 0, fun _ => 0⟩ (.slice none 0 0) (.slice none 0 0) (.slice none 0 0)) := HZW0.out
    exact hz.there 0 15 (by omega)
  have HTHZ := Lib.hid hthz
  have HZW := Lib.hid (show ∃ c, W.heap[X + 2]? = some (.cells c 33 (0, 0)) from ⟨_, HZW0.out⟩)
  have HXRW := Lib.hid (show XR W (touchT T fn) (.slice (some ⟨g, 0, none⟩) (m + 1) cl) (.slice ra T.row.length rc) (.slice sa T.ns sc) from HXW.out)
  have HBELW := Lib.hid (show Below w.heap.size w W from HBLW.out)
  clear hrgx hthz
  go_wp2_with (first | (refine wpList_load_mid rfl 33 (.tmp 2) rfl X 0 rfl (xC (touchT T fn) (.slice (some ⟨g, 0, none⟩) (m + 1) cl) (.slice ra T.row.length rc) (.slice sa T.ns sc)) d HRGX.out HDU.out HDR.out (by rw [xC_len]; exact infoX) ?_) | (refine wpList_store_mid rfl 33 (.tmp 4) (.tmp 171) rfl (X + 2) 0 (xC (touchT T fn) (.slice (some ⟨g, 0, none⟩) (m + 1) cl) (.slice ra T.row.length rc) (.slice sa T.ns sc)).toArray rfl rfl (by rw [List.size_toArray, xC_len]; exact HTHZ.out) (by rw [List.size_toArray, xC_len]; exact infoX) (all_oneCell_toArray xC_one) ?_))
  refine bodyPost_ret (rdo_fin (Z := X + 2) (cs := xC (touchT T fn) (.slice (some ⟨g, 0, none⟩) (m + 1) cl) (.slice ra T.row.length rc) (.slice sa T.ns sc)) (xC_len _ _ _ _) _ _ (World.rangeAt_setCells_same _ _ _ _ (by rw [xC_len]; exact HTHZ.out)) rfl rfl rfl) rfl ?_
  rw [HQ.out]
  obtain ⟨zc, hzc⟩ := HZW.out
  refine ⟨_, _, _, rfl, HXRW.out.ks hzc (by decide) (by decide) (by decide) (KS.setCells _ _ _ _), ?_, fun j e => .inl e⟩
  have kk := KS.setCells W (X + 2) 0 (xC (touchT T fn) (.slice (some ⟨g, 0, none⟩) (m + 1) cl) (.slice ra T.row.length rc) (.slice sa T.ns sc)).toArray.toList
  exact ⟨kk.os.trans HBELW.out.os, kk.tape.trans HBELW.out.tape, kk.output.trans HBELW.out.output, Nat.le_trans HBELW.out.size kk.size, fun j hj => (kk.block j (Nat.lt_of_lt_of_le hj HBELW.out.size) (by have := HXE.out; omega)).trans (HBELW.out.block j hj)⟩
set_option maxRecDepth 8000 in
set_option maxHeartbeats 2000000 in
theorem rdo_61p {w : World} {T : Td} {fv rv sv lv : Value} (hx : XR w T fv rv sv) {m : Nat} (fn : Int) {n : Nat} {L : Nat → Int} (pk pv : Int) (hu : UR w lv n L) (hb1 : T.nf ≤ 1000) (hb2 : T.ns ≤ 1000) (hb3 : T.row.length ≤ 80000) (hn : T.nf = m + 1) (hf : 0 ≤ fn) :
    Calls Try.prog 10 #[xV T fv rv sv, opV ⟨6, fn, n, L, pk, pv⟩ lv] w (DoX w (touchT T fn) (0) (false) sv) := by
  refine Calls.veil fun Q HQ => ?_
  have HX := Lib.hid hx; have HU := Lib.hid hu
  obtain ⟨fa, fc, rfl, fc1, fc2⟩ := hx.f.slice
  obtain ⟨ra, rc, rfl, _, _⟩ := hx.r.1.slice
  obtain ⟨sa, sc, rfl, sc1, sc2⟩ := hx.s.slice
  obtain ⟨la, lc, rfl, lc1, lc2⟩ := hu.slice
  obtain ⟨d, hdu, hdr⟩ := uX
  have HDU := Lib.hid hdu; have HDR := Lib.hid hdr
  unfold xV opV
  simp only
  clear hx hu hdu hdr
  have HN := Lib.hid hn
  clear hn
  go_enter Try.func10, Try.ntmps10
  go_upto_region 1 with fail
  generalize hU : World.alloc _ _ = U
  obtain ⟨u0, u1, u2, us, hbu⟩ := heap3f hU
  obtain ⟨X, hX⟩ : ∃ X, X = w.heap.size := ⟨_, rfl⟩
  rw [← hX] at u0 u1 u2 us ⊢
  have HXE := Lib.hid hX
  have hXB : Blk 33 U X 15 (xF T (.slice fa T.nf fc) (.slice ra T.row.length rc) (.slice sa T.ns sc)) := u0
  have HB := Lib.hid hXB
  have o0 := newcell u1 0 _ rfl; have o1 := newcell u1 1 _ rfl; have o2 := newcell u1 2 _ rfl; have o3 := newcell u1 3 _ rfl; have o4 := newcell u1 4 _ rfl
  have HO := Lib.hid u1; have HZ := Lib.hid u2
  have HUS := Lib.hid us; have HBU := Lib.hid hbu
  have x12 : U.cell? ⟨X, 12, none⟩ = some (.slice fa T.nf fc) := hXB.get (i := 12) (by omega)
  have x13 : U.cell? ⟨X, 13, none⟩ = some (.slice ra T.row.length rc) := hXB.get (i := 13) (by omega)
  have x14 : U.cell? ⟨X, 14, none⟩ = some (.slice sa T.ns sc) := hXB.get (i := 14) (by omega)
  have xfr : ∀ i, U.frozen? ⟨X, i, none⟩ = false := hXB.fr
  have HXU := Lib.hid (HX.out.below hbu)
  clear hU u0 u1 u2 us hbu hX hXB
  have hmb : m ≤ 1000 := by have := HN.out; omega
  have hf0 := HXU.out.f
  rw [HN.out] at x12 hf0
  have HFA := hf0.apd
  obtain ⟨pl, cl, W1, hrun, hown, hbw1⟩ := app_run uFF infoFF (by rfl) (by decide) (by decide) (U := U) (w := U.alloc (.cells #[] 65)) (by (repeat (first | exact Below.refl _ _ | assumption | refine below_new ?_ _ | refine Below.drew ?_ | refine below_drewN ?_ _ | refine below_on ?_ (by assumption)))) (own_empty (heap_alloc_new _ _) (Nat.le_refl _)) ((hf0.keep fun b cur hb => (by (repeat (first | exact Below.refl _ _ | assumption | refine below_new ?_ _ | refine Below.drew ?_ | refine below_drewN ?_ _ | refine below_on ?_ (by assumption))) : Below U.heap.size U _).block b (blk_lt hb)).apd) rf_one (by omega) (by omega)
  simp only [Nat.zero_add, List.nil_append] at hrun hown
  obtain ⟨g, rfl, hc1, hc2, hgB, hrow⟩ := own_row hown
  have HRUN := Lib.hid hrun
  have x12n := fun o => Ext.on x12 o
  have hne : ¬ ((m : Int) + 1 = 0) := by omega
  have hmi : (m : Int) < (m : Int) + 1 := by omega
  have HGB := Lib.hid hgB
  have hgX : g ≠ X := by have := HUS.out; have := HXE.out; omega
  have HGX := Lib.hid hgX
  have cp : W1.cell? ⟨g, m * 26 + 1, none⟩ = some (rfF T.fs (m * 26 + 1)) := hrow.get (by omega)
  have cfr : ∀ i, W1.frozen? ⟨g, i, none⟩ = false := hrow.fr
  have q1 := Ext.use (Ext.cells o1) hbw1
  have HROW := Lib.hid hrow
  have HB1W := Lib.hid hbw1
  clear hf0 HFA hown hgB hgX hrow hbw1 hrun
  go_upto_region 39 with (at_builtin; refine wpList_append_run rfl (.tmp 141) (.tmp 143) 29 rfl rfl rfl rfl HRUN.out ?_)
  generalize hW : World.setCell _ _ _ = W2
  have hk2 : KS (fun j => j = g) W1 W2 := by rw [← hW]; exact KS.set W1 g _ _
  have hr2 : RowF 65 W2 g ((m + 1) * 26) (rfF (upM T.fs m ⟨(T.fs m).fn, fn, (T.fs m).r⟩)) := by
    rw [← hW]; exact (HROW.out.set (m * 26 + 1) _).congr fun j hj => rf_pc T.fs m fn j hj
  have hb2 : Below U.heap.size U W2 := ⟨hk2.os.trans HB1W.out.os, hk2.tape.trans HB1W.out.tape, hk2.output.trans HB1W.out.output, Nat.le_trans HB1W.out.size hk2.size, fun j hj => (hk2.block j (Nat.lt_of_lt_of_le hj HB1W.out.size) (by have := HGB.out; omega)).trans (HB1W.out.block j hj)⟩
  have HR2 := Lib.hid hr2; have HB2 := Lib.hid hb2
  have q1 := Ext.use (Ext.cells o1) hb2
  clear hW hk2 hr2 hb2 cp cfr
  obtain ⟨a, ha⟩ : ∃ a : Nat, fn % 24 = (a : Int) := ⟨(fn % 24).toNat, by omega⟩
  have ha24 : a < 24 := by omega
  have ha24i : (a : Int) < 24 := by omega
  have c0 : W2.cell? ⟨g, m * 26 + 2 + a, none⟩ = some (.int .u64 ((T.fs m).r a)) := by
    rw [HR2.out.get (j := m * 26 + 2 + a) (by omega), rf_get T.fs m a ha24]
  have cfr : ∀ i, W2.frozen? ⟨g, i, none⟩ = false := HR2.out.fr
  have htm : Int.tmod fn 24 = (a : Int) := by rw [Int.tmod_eq_emod_of_nonneg hf]; exact ha
  have HA := Lib.hid ha
  have hmi1 : (m : Int) ≤ 1000 := by omega
  have hwm : IntKind.i64.wrap (m : Int) = m := by rw [IntKind.wrap_i64]; omega
  go_upto_region 40 with fail
  go_still_tail 14, (by kernel_rfl)
  go_upto_region 41 with fail
  generalize hV : World.drew (World.setCell _ _ _) = W3
  have hr3 : RowF 65 W3 g ((m + 1) * 26) (rfF (upM (upM T.fs m ⟨(T.fs m).fn, fn, (T.fs m).r⟩) m ⟨(T.fs m).fn, fn, fun i => if i = a then ((T.fs m).r a + 1) % 18446744073709551616 else (T.fs m).r i⟩)) := by
    rw [← hV]
    have h0 := (HR2.out.set (m * 26 + 2 + a) (.int .u64 (((T.fs m).r a + 1) % 18446744073709551616)))
    have h1 := h0.congr fun j hj => rf_r (upM T.fs m ⟨(T.fs m).fn, fn, (T.fs m).r⟩) m a ha24 (((T.fs m).r a + 1) % 18446744073709551616) j hj
    have e : upM T.fs m ⟨(T.fs m).fn, fn, (T.fs m).r⟩ m = ⟨(T.fs m).fn, fn, (T.fs m).r⟩ := by unfold upM; rw [if_pos rfl]
    rw [e] at h1
    exact h1.of rfl
  have k3 : KS (fun j => j = g) W2 W3 := by rw [← hV]; exact (KS.set W2 g _ _).trans (.of_below (Below.refl _ _).drew)
  have hb3 : Below U.heap.size U W3 := ⟨k3.os.trans HB2.out.os, k3.tape.trans HB2.out.tape, k3.output.trans HB2.out.output, Nat.le_trans HB2.out.size k3.size, fun j hj => (k3.block j (Nat.lt_of_lt_of_le hj HB2.out.size) (by have := HGB.out; omega)).trans (HB2.out.block j hj)⟩
  have HR3 := Lib.hid hr3; have HB3 := Lib.hid hb3
  have FSE := Lib.hid (show (touchT T fn).fs = upM (upM T.fs m ⟨(T.fs m).fn, fn, (T.fs m).r⟩) m ⟨(T.fs m).fn, fn, fun i => if i = a then ((T.fs m).r a + 1) % 18446744073709551616 else (T.fs m).r i⟩ by
    unfold touchT touch; simp only []
    rw [show T.nf - 1 = m by rw [HN.out]; omega, if_pos hf, HA.out, Int.toNat_natCast]
    funext i
    unfold upM
    by_cases e : i = m
    · subst e; simp only [if_true]
      congr 1
      funext k
      by_cases e2 : k = a
      · subst e2; simp
      · simp only [e2, if_false]
    · simp only [e, if_false])
  have x12 := Ext.use (Ext.cells x12) HB3.out
  have xfr : ∀ i, W3.frozen? ⟨X, i, none⟩ = false := (HB.out.below HB3.out).fr
  clear hV hr3 k3 hb3 c0 cfr htm q1
  go_upto_region 42 with fail
  generalize hW : World.setCell _ _ _ = W
  have kw : KS (fun j => j = X) W3 W := by rw [← hW]; exact KS.set W3 X 12 _
  have hbw : Blk 33 W X 15 (xF (touchT T fn) (.slice (some ⟨g, 0, none⟩) (m + 1) cl) (.slice ra T.row.length rc) (.slice sa T.ns sc)) := by
    rw [← hW]
    exact ((HB.out.below HB3.out).set 12 _).congr fun j hj => xF_12 T (touchT T fn) _ _ _ _ rfl j hj
  have hx2 := HXU.out.below HB3.out
  have hnf : (touchT T fn).nf = m + 1 := HN.out
  have hfr : FR W3 (.slice (some ⟨g, 0, none⟩) (m + 1) cl) (touchT T fn).nf (touchT T fn).fs := by
    rw [hnf, FSE.out]; exact .inr ⟨g, cl, rfl, hc1, hc2, HR3.out⟩
  have hxw := (show XR W3 (touchT T fn) (.slice (some ⟨g, 0, none⟩) (m + 1) cl) (.slice ra T.row.length rc) (.slice sa T.ns sc) from ⟨hfr, hx2.r, hx2.s⟩).ks (show W3.heap[X]? = _ from HB.out.below HB3.out) (by decide) (by decide) (by decide) kw
  have hzw := (kw.block (X + 2) (by have := HUS.out; have := HXE.out; have := HB3.out.size; omega) (by omega)).trans (up HB3.out HZ.out)
  have HBLW := Lib.hid (below_x (below_on HBU.out HB3.out) HXE.out kw)
  have HBW := Lib.hid hbw; have HXW := Lib.hid hxw; have HZW0 := Lib.hid hzw
  clear hW kw hbw hxw hzw hx2 hnf hfr x12 x12n x13 x14 xfr o0 o1 o2 o3 o4
  have hrgx : W.rangeAt X 0 (xC (touchT T fn) (.slice (some ⟨g, 0, none⟩) (m + 1) cl) (.slice ra T.row.length rc) (.slice sa T.ns sc)) := by
    have := (HBW.out).range 0 15 (by omega)
    simpa [xC] using this
  have HRGX := Lib.hid hrgx
  have hthz : W.there (X + 2) 0 15 := by
    have hz : Blk 33 W (X + 2) 15 (xF ⟨fun _ => 0, fun _ => .int .u64 0, 0, fun _ => ⟨0, 0, fun _ => 0⟩, [], 0, fun _ => 0⟩ (.slice none 0 0) (.slice none 0 0) (.slice none 0 0)) := HZW0.out
    exact hz.there 0 15 (by omega)
  have HTHZ := Lib.hid hthz
  have HZW := Lib.hid (show ∃ c, W.heap[X + 2]? = some (.cells c 33 (0, 0)) from ⟨_, HZW0.out⟩)
  have HXRW := Lib.hid (show XR W (touchT T fn) (.slice (some ⟨g, 0, none⟩) (m + 1) cl) (.slice ra T.row.length rc) (.slice sa T.ns sc) from HXW.out)
  have HBELW := Lib.hid (show Below w.heap.size w W from HBLW.out)
  clear hrgx hthz
  go_wp2_with (first | (refine wpList_load_mid rfl 33 (.tmp 2) rfl X 0 rfl (xC (touchT T fn) (.slice (some ⟨g, 0, none⟩) (m + 1) cl) (.slice ra T.row.length rc) (.slice sa T.ns sc)) d HRGX.out HDU.out HDR.out (by rw [xC_len]; exact infoX) ?_) | (refine wpList_store_mid rfl 33 (.tmp 4) (.tmp 171) rfl (X + 2) 0 (xC (touchT T fn) (.slice (some ⟨g, 0, none⟩) (m + 1) cl) (.slice ra T.row.length rc) (.slice sa T.ns sc)).toArray rfl rfl (by rw [List.size_toArray, xC_len]; exact HTHZ.out) (by rw [List.size_toArray, xC_len]; exact infoX) (all_oneCell_toArray xC_one) ?_))
  refine bodyPost_ret (rdo_fin (Z := X + 2) (cs := xC (touchT T fn) (.slice (some ⟨g, 0, none⟩) (m + 1) cl) (.slice ra T.row.length rc) (.slice sa T.ns sc)) (xC_len _ _ _ _) _ _ (World.rangeAt_setCells_same _ _ _ _ (by rw [xC_len]; exact HTHZ.out)) rfl rfl rfl) rfl ?_
  rw [HQ.out]
  obtain ⟨zc, hzc⟩ := HZW.out
  refine ⟨_, _, _, rfl, HXRW.out.ks hzc (by decide) (by decide) (by decide) (KS.setCells _ _ _ _), ?_, fun j e => .inl e⟩
  have kk := KS.setCells W (X + 2) 0 (xC (touchT T fn) (.slice (some ⟨g, 0, none⟩) (m + 1) cl) (.slice ra T.row.length rc) (.slice sa T.ns sc)).toArray.toList
  exact ⟨kk.os.trans HBELW.out.os, kk.tape.trans HBELW.out.tape, kk.output.trans HBELW.out.output, Nat.le_trans HBELW.out.size kk.size, fun j hj => (kk.block j (Nat.lt_of_lt_of_le hj HBELW.out.size) (by have := HXE.out; omega)).trans (HBELW.out.block j hj)⟩
end Go.Proofs.Ytdnjconfmaiegaa
