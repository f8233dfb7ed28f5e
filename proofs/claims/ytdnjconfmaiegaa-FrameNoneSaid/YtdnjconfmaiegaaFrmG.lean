/- Layer 15: the reference's Do: what is appended. -/
import Derived.Test.YtdnjconfmaiegaaFrmK
import Derived.Deep.RegionLaw
import Derived.Deep.AppendLies
namespace Go.Proofs.Ytdnjconfmaiegaa
open Go.RowKit
set_option linter.unusedVariables false
set_option linter.unusedSimpArgs false
theorem own_SR {w : World} {B : Nat} {v : Value} {n : Nat} {f : Nat → Int} (h : w.ownsRow B 27 1 v n (ucells n f)) : SR w v n f := by
  rcases h.2 with ⟨rfl, rfl⟩ | ⟨g, cap, cur, rfl, hb, hh, h1, h2, h3, h4⟩
  · exact .inl ⟨rfl, rfl⟩
  · exact .inr ⟨g, cap, rfl, h1, h2, cur, hh, by simpa [ucells] using h4⟩
theorem own_FR {w : World} {B : Nat} {v : Value} {n : Nat} {fs : Nat → Fm} (h : w.ownsRow B 65 26 v n ((List.range (n * 26)).map (rfF fs))) : FR w v n fs := by
  rcases h.2 with ⟨rfl, rfl⟩ | ⟨g, cap, cur, rfl, hb, hh, h1, h2, h3, h4⟩
  · exact .inl ⟨rfl, rfl⟩
  · exact .inr ⟨g, cap, rfl, h1, h2, cur, hh, h4⟩
theorem SR.apd {w : World} {v : Value} {n : Nat} {f : Nat → Int} (h : SR w v n f) : Apd w v n 1 (ucells n f) := by
  rcases h with ⟨rfl, rfl⟩ | ⟨g, c, rfl, h1, h2, h3⟩
  · exact .inl ⟨rfl, rfl, rfl⟩
  · refine .inr ⟨_, c, rfl, by rw [ucells_len, Nat.mul_one], fun j x hj => ?_⟩
    have hjl : j < n := by
      have := (List.getElem?_eq_some_iff.1 hj).1
      rwa [ucells_len] at this
    rw [ucells_get hjl] at hj
    simp only [Option.some.injEq] at hj
    rw [← hj, addP, Nat.zero_add]; exact h3.get hjl
theorem FR.apd {w : World} {v : Value} {n : Nat} {fs : Nat → Fm} (h : FR w v n fs) : Apd w v n 26 ((List.range (n * 26)).map (rfF fs)) := by
  rcases h with ⟨rfl, rfl⟩ | ⟨g, c, rfl, h1, h2, h3⟩
  · exact .inl ⟨rfl, rfl, rfl⟩
  · refine .inr ⟨_, c, rfl, by simp, fun j x hj => ?_⟩
    have hjl : j < n * 26 := by
      have := (List.getElem?_eq_some_iff.1 hj).1
      simpa using this
    rw [List.getElem?_map, List.getElem?_range hjl] at hj
    simp only [Option.map_some, Option.some.injEq] at hj
    rw [← hj, addP, Nat.zero_add]; exact h3.get hjl
theorem rf_one {n : Nat} {fs : Nat → Fm} : ∀ u ∈ (List.range n).map (rfF fs), u.oneCell' = true := by
  intro u hu
  simp only [List.mem_map] at hu
  obtain ⟨i, _, rfl⟩ := hu
  unfold rfF frF
  split
  · rfl
  · split <;> rfl
theorem u_snoc (n : Nat) (f : Nat → Int) (x : Int) : ucells n f ++ [.int .u64 x] = ucells (n + 1) (fun i => if i = n then x else f i) := by
  unfold ucells
  rw [List.range_succ, List.map_append]
  congr 1
  · exact List.map_congr_left fun i hi => by simp only []; rw [if_neg (by have := List.mem_range.1 hi; omega)]
  · simp
theorem rf_snoc (n : Nat) (fs : Nat → Fm) (f : Fm) : (List.range (n * 26)).map (rfF fs) ++ (List.range 26).map (frF f) = (List.range ((n + 1) * 26)).map (rfF (upM fs n f)) := by
  apply List.ext_getElem?
  intro j
  by_cases h1 : j < n * 26
  · rw [List.getElem?_append_left (by simpa using h1)]
    simp only [List.getElem?_map, List.getElem?_range h1, List.getElem?_range (show j < (n + 1) * 26 by omega), Option.map_some]
    unfold rfF upM
    rw [if_neg (by omega)]
  · rw [List.getElem?_append_right (by simpa using Nat.le_of_not_lt h1)]
    simp only [List.length_map, List.length_range]
    by_cases h2 : j < (n + 1) * 26
    · simp only [List.getElem?_map, List.getElem?_range (show j - n * 26 < 26 by omega), List.getElem?_range h2, Option.map_some]
      unfold rfF upM
      rw [if_pos (by omega), show j % 26 = j - n * 26 by omega]
    · rw [List.getElem?_eq_none (by simp; omega), List.getElem?_eq_none (by simp; omega)]
theorem uFF : Try.prog.underlying 29 = some (.slice 65) := by kernel_rfl
theorem infoFF : (Try.prog.info? 65).map (fun i => (i.zero, i.size, i.bytes)) = some (some (.agg ((List.range 26).map (frF ⟨0, 0, fun _ => 0⟩)).toArray), 26, 208) := by kernel_rfl
set_option maxRecDepth 8000 in
set_option maxHeartbeats 2000000 in
theorem rdo_3 {w : World} {T : Td} {fv rv sv lv : Value} (hx : XR w T fv rv sv) (fn : Int) {n : Nat} {L : Nat → Int} (pk pv : Int) (hu : UR w lv n L) (hb1 : T.nf ≤ 1000) (hb2 : T.ns ≤ 1000) (hb3 : T.row.length ≤ 80000) :
    Calls Try.prog 10 #[xV T fv rv sv, opV ⟨3, fn, n, L, pk, pv⟩ lv] w (DoX w (pushT T (fn % 18446744073709551616)) (0) (false) sv) := by
  refine Calls.veil fun Q HQ => ?_
  have HX := Lib.hid hx; have HU := Lib.hid hu
  obtain ⟨fa, fc, rfl, fc1, fc2⟩ := hx.f.slice
  obtain ⟨ra, rc, rfl, _, _⟩ := hx.r.1.slice
  obtain ⟨sa, sc, rfl, sc1, sc2⟩ := hx.s.slice
  obtain ⟨la, lc, rfl, lc1, lc2⟩ := hu.slice
  obtain ⟨d, hdu, hdr⟩ := uX
  have HDU := Lib.hid hdu; have HDR := Lib.hid hdr
  unfold xV opV
  simp only
  clear hx hu hdu hdr
  go_enter Try.func10, Try.ntmps10
  go_upto_region 1 with fail
  generalize hU : World.alloc _ _ = U
  obtain ⟨u0, u1, u2, us, hbu⟩ := heap3f hU
  obtain ⟨X, hX⟩ : ∃ X, X = w.heap.size := ⟨_, rfl⟩
  rw [← hX] at u0 u1 u2 us ⊢
  have HXE := Lib.hid hX
  have hXB : Blk 33 U X 15 (xF T (.slice fa T.nf fc) (.slice ra T.row.length rc) (.slice sa T.ns sc)) := u0
  have HB := Lib.hid hXB
  have o0 := newcell u1 0 _ rfl; have o1 := newcell u1 1 _ rfl; have o2 := newcell u1 2 _ rfl; have o3 := newcell u1 3 _ rfl; have o4 := newcell u1 4 _ rfl
  have HO := Lib.hid u1; have HZ := Lib.hid u2
  have HUS := Lib.hid us; have HBU := Lib.hid hbu
  have x12 : U.cell? ⟨X, 12, none⟩ = some (.slice fa T.nf fc) := hXB.get (i := 12) (by omega)
  have x13 : U.cell? ⟨X, 13, none⟩ = some (.slice ra T.row.length rc) := hXB.get (i := 13) (by omega)
  have x14 : U.cell? ⟨X, 14, none⟩ = some (.slice sa T.ns sc) := hXB.get (i := 14) (by omega)
  have xfr : ∀ i, U.frozen? ⟨X, i, none⟩ = false := hXB.fr
  have HXU := Lib.hid (HX.out.below hbu)
  clear hU u0 u1 u2 us hbu hX hXB
  go_upto_region 23 with fail
  have HS := Lib.hid HXU.out.s
  have HCE := Lib.hid (fun (y : Ext U) => (And.intro (Ext.use (Ext.cells x14) y.h) (And.intro (Ext.use (Ext.cells o1) y.h) (fun i => (HB.out.below y.h).fr i)) : y.w.cell? ⟨X, 14, none⟩ = _ ∧ y.w.cell? ⟨X + 1, 1, none⟩ = _ ∧ ∀ i, y.w.frozen? ⟨X, i, none⟩ = false))
  have x14n := fun o => Ext.on x14 o; have o1n := fun o => Ext.on o1 o
  have x14nn : ∀ o o', ((U.alloc o).alloc o').cell? ⟨X, 14, none⟩ = _ := fun o o' => Ext.on (x14n o) o'
  have o1nn : ∀ o o', ((U.alloc o).alloc o').cell? ⟨X + 1, 1, none⟩ = _ := fun o o' => Ext.on (o1n o) o'
  clear x12 x13
  go_region_law (first
    | (refine step_app uU64 infoU64 rfl (by decide) (by decide) (by rfl) (.tmp 100) (.tmp 102) (by rfl) (by rfl) U (by (repeat (first | exact Below.refl _ _ | assumption | refine below_new ?_ _ | refine Below.drew ?_ | refine below_drewN ?_ _ | refine below_on ?_ (by assumption)))) (by rfl) (own_empty (by first | exact heap_alloc_new _ _ | exact hb_last | exact hb_prev) (by first | exact Nat.le_refl _ | (simp; done) | (simp; omega))) (by rfl) ((HS.out.keep (fun b cur _ hb => (by (repeat (first | exact Below.refl _ _ | assumption | refine below_new ?_ _ | refine Below.drew ?_ | refine below_drewN ?_ _ | refine below_on ?_ (by assumption))) : Below U.heap.size U _).block b (blk_lt hb))).apd) ucells_one (by omega) (by omega) ?_; intro p1 c1 w1 ho1 hb1 hk1 hl1; simp only [Nat.zero_add, List.nil_append] at ho1 hl1 ⊢; have z14 := (HCE.out ⟨w1, hb1⟩).1; have z1 := (HCE.out ⟨w1, hb1⟩).2.1; have zf := (HCE.out ⟨w1, hb1⟩).2.2; have z14n := fun o => Ext.on z14 o; have z1n := fun o => Ext.on z1 o)
    | (refine step_app uU64 infoU64 rfl (by decide) (by decide) (by rfl) (.tmp 103) (.tmp 107) (by rfl) (by rfl) U (by first | exact hb1 | exact below_new hb1 _ | exact (below_new hb1 _).drew | exact hb1.drew) (by rfl) (by first | exact ho1 | exact OwnL.below (T := 27) ho1 (below_new (Below.refl _ _) _)) (by rfl) (.inr ⟨_, _, rfl, by rfl, fun j u hu => World.news_of_block (by first | exact heap_alloc_new _ _ | exact (hk1 _ (by first | (simp; done) | (simp; omega) | omega) (by simp [Value.ownBlock])).trans (by first | exact hb_prev | exact hb_last)) j u (by simpa using hu)⟩) (news := [.int .u64 (IntKind.u64.wrap fn)]) (by simp [Value.oneCell']) (by omega) (by omega) ?_; intro p2 c2 w2 ho2 hb2 hk2 hl2; have y14 := (HCE.out ⟨w2, hb2⟩).1; have y1 := (HCE.out ⟨w2, hb2⟩).2.1; have yf := (HCE.out ⟨w2, hb2⟩).2.2))
  all_goals
    have hwr : IntKind.u64.wrap fn = fn % 18446744073709551616 := by first | rfl | simp [IntKind.wrap, IntKind.bits, IntKind.signed]
    rw [hwr, u_snoc] at ho2
    have HSR := Lib.hid (own_SR ho2)
    have HOB := Lib.hid (fun j (e : (Value.slice p2 (T.ns + 1) c2).ownBlock = some j) => (OwnL.blk (T := 27) ho2 e).1)
    generalize hW : World.setCell _ _ _ = W
    have kw : KS (fun j => j = X) w2 W := by rw [← hW]; exact KS.set w2 X 14 _
    have hbw : Blk 33 W X 15 (xF (pushT T (fn % 18446744073709551616)) (.slice fa T.nf fc) (.slice ra T.row.length rc) (.slice p2 (T.ns + 1) c2)) := by
      rw [← hW]
      exact ((HB.out.below hb2).set 14 _).congr fun j hj => xF_14 T _ _ _ _ _ rfl j hj
    have hx2 := HXU.out.below hb2
    have hxw := (show XR w2 (pushT T (fn % 18446744073709551616)) _ _ _ from ⟨hx2.f, hx2.r, HSR.out⟩).ks (show w2.heap[X]? = _ from HB.out.below hb2) (by decide) (by decide) (by decide) kw
    have hzw := (kw.block (X + 2) (by have := HUS.out; have := HXE.out; have := hb2.size; omega) (by omega)).trans (up hb2 HZ.out)
    have HBLW := Lib.hid (below_x (below_on HBU.out hb2) HXE.out kw)
    have HBW := Lib.hid hbw; have HXW := Lib.hid hxw; have HZW0 := Lib.hid hzw
    clear hW kw hbw hxw hzw hx2 hwr ho2 hk2 hl2 y14 y1 yf hb2
    (try clear ho1 hb1 hk1 hl1 z14 z1 zf z14n z1n)
    clear x14 x14n x14nn o1 o1n o1nn xfr o0 o2 o3 o4
    have hrgx : W.rangeAt X 0 (xC (pushT T (fn % 18446744073709551616)) (.slice fa T.nf fc) (.slice ra T.row.length rc) (.slice p2 (T.ns + 1) c2)) := by
      have := (HBW.out).range 0 15 (by omega)
      simpa [xC] using this
    have HRGX := Lib.hid hrgx
    have hthz : W.there (X + 2) 0 15 := by
      have hz : Blk 33 W (X + 2) 15 (xF ⟨fun _ => 0, fun _ => .int .u64 0, 0, fun _ => ⟨0, 0, fun _ => 0⟩, [], 0, fun _ => 0⟩ (.slice none 0 0) (.slice none 0 0) (.slice none 0 0)) := HZW0.out
      exact hz.there 0 15 (by omega)
    have HTHZ := Lib.hid hthz
    have HZW := Lib.hid (show ∃ c, W.heap[X + 2]? = some (.cells c 33 (0, 0)) from ⟨_, HZW0.out⟩)
    have HXRW := Lib.hid (show XR W (pushT T (fn % 18446744073709551616)) (.slice fa T.nf fc) (.slice ra T.row.length rc) (.slice p2 (T.ns + 1) c2) from HXW.out)
    have HBELW := Lib.hid (show Below w.heap.size w W from HBLW.out)
    clear hrgx hthz
    go_wp2_with (first | (refine wpList_load_mid rfl 33 (.tmp 2) rfl X 0 rfl (xC (pushT T (fn % 18446744073709551616)) (.slice fa T.nf fc) (.slice ra T.row.length rc) (.slice p2 (T.ns + 1) c2)) d HRGX.out HDU.out HDR.out (by rw [xC_len]; exact infoX) ?_) | (refine wpList_store_mid rfl 33 (.tmp 4) (.tmp 171) rfl (X + 2) 0 (xC (pushT T (fn % 18446744073709551616)) (.slice fa T.nf fc) (.slice ra T.row.length rc) (.slice p2 (T.ns + 1) c2)).toArray rfl rfl (by rw [List.size_toArray, xC_len]; exact HTHZ.out) (by rw [List.size_toArray, xC_len]; exact infoX) (all_oneCell_toArray xC_one) ?_))
    refine bodyPost_ret (rdo_fin (Z := X + 2) (cs := xC (pushT T (fn % 18446744073709551616)) (.slice fa T.nf fc) (.slice ra T.row.length rc) (.slice p2 (T.ns + 1) c2)) (xC_len _ _ _ _) _ _ (World.rangeAt_setCells_same _ _ _ _ (by rw [xC_len]; exact HTHZ.out)) rfl rfl rfl) rfl ?_
    rw [HQ.out]
    obtain ⟨zc, hzc⟩ := HZW.out
    refine ⟨_, _, _, rfl, HXRW.out.ks hzc (by decide) (by decide) (by decide) (KS.setCells _ _ _ _), ?_, fun j e => .inr (Nat.le_trans HBU.out.size (HOB.out j e))⟩
    have kk := KS.setCells W (X + 2) 0 (xC (pushT T (fn % 18446744073709551616)) (.slice fa T.nf fc) (.slice ra T.row.length rc) (.slice p2 (T.ns + 1) c2)).toArray.toList
    exact ⟨kk.os.trans HBELW.out.os, kk.tape.trans HBELW.out.tape, kk.output.trans HBELW.out.output, Nat.le_trans HBELW.out.size kk.size, fun j hj => (kk.block j (Nat.lt_of_lt_of_le hj HBELW.out.size) (by have := HXE.out; omega)).trans (HBELW.out.block j hj)⟩
end Go.Proofs.Ytdnjconfmaiegaa
