/- Layer 15: the walk of FrameNone. -/
import Derived.Test.YtdnjconfmaiegaaFrmY
namespace Go.Proofs.Ytdnjconfmaiegaa
open Go.RowKit
set_option linter.unusedVariables false
set_option linter.unusedSimpArgs false
set_option maxRecDepth 16000 in
set_option maxHeartbeats 8000000 in
theorem frameNone_walk (v0 v1 : Value) (w : World) (s0 : Fr.ok1 w (.slice [.int .i64, .int .i64, .slice [.int .u64], .int .i64, .int .i64]) v0) (s1 : Fr.okN w [.int .i64, .int .i64, .slice [.int .u64], .int .i64, .int .i64] v1) :
    Calls Try.prog 4 #[v0, v1] w fun e w' => e = .returned (.bool true) ∧ Below w.heap.size w w' := by
  obtain ⟨n, O, lf, hO⟩ := ops_open s0
  have HO0 := Lib.hid hO
  obtain ⟨oa, oc, rfl, _, _, hO⟩ := hO
  have HO := Lib.hid hO
  obtain ⟨o1, lv, rfl, hu⟩ := okN_op s1
  have HU := Lib.hid hu
  obtain ⟨la, lc, hle, _, _⟩ := hu.slice
  rw [hle]
  have HLV := Lib.hid hle
  clear s0 s1 hO hu hle
  unfold opV
  refine Calls.veil fun Q HQ => ?_
  go_enter Try.func4, Try.ntmps4
  go_upto_region 1 with fail
  generalize hV : World.alloc _ _ = U
  obtain ⟨u0, hbu⟩ := heapnewE hV
  obtain ⟨g0, hg0⟩ : ∃ g0, g0 = w.heap.size := ⟨_, rfl⟩
  rw [← hg0] at u0 ⊢
  have HG := Lib.hid u0; have HB0 := Lib.hid hbu
  have HO0 := Lib.hid (HO0.out.below hbu)
  have HO := Lib.hid (fun i hi => by obtain ⟨g, off, e2, h4⟩ := HO.out i hi; exact (⟨g, off, e2, h4.below hbu⟩ : ∃ g off, oa = some ⟨g, off, none⟩ ∧ OpW U g (off + i * 5) (O i) (lf i)))
  have HU := Lib.hid (show UR U (.slice la o1.n lc) o1.n o1.L by rw [← HLV.out]; exact HU.out.below hbu)
  have C := ldoz o1 HU.out
  unfold opV at C
  have C := Lib.hid C
  have o0 := newcell u0 0 _ rfl; have p1 := newcell u0 1 _ rfl; have p2 := newcell u0 2 _ rfl; have p3 := newcell u0 3 _ rfl; have p4 := newcell u0 4 _ rfl
  clear hV u0 hbu hg0
  go_wp2_with fail
  refine C.out.mono ?_; rintro _ w1 ⟨rfl, hb1⟩
  have HB1 := Lib.hid hb1
  clear hb1 C o0 p1 p2 p3 p4
  go_wp2_with fail
  refine (fz_top w1).mono ?_; rintro _ w2 ⟨rfl, hb⟩
  have HB2 := Lib.hid (below_on HB1.out hb)
  clear hb HB1
  go_wp2_with fail
  refine (fz_depth w2).mono ?_; rintro _ w3 ⟨rfl, hb⟩
  have HB3 := Lib.hid (below_on HB2.out hb)
  clear hb HB2
  go_wp2_with fail
  refine (fz_row w3).mono ?_; rintro _ w4 ⟨rfl, hb⟩
  have HB4 := Lib.hid (below_on HB3.out hb)
  clear hb HB3
  go_wp2_with fail
  refine (fz_clone w4).mono ?_; rintro _ w5 ⟨rfl, hb⟩
  have HB5 := Lib.hid (below_on HB4.out hb)
  clear hb HB4
  go_wp2_with fail
  refine (lgreat15 (HO0.out.below HB5.out)).mono ?_; rintro _ w6 ⟨gb, rfl, hb, hgr⟩
  have HB6 := Lib.hid (below_on HB5.out hb)
  have HGR := Lib.hid hgr
  clear hb hgr HB5
  cases gb with
  | true =>
    go_wp2_with fail
    refine (lives15_calls _).mono ?_; rintro _ w7 ⟨rfl, hb⟩
    go_wp2_with fail
    (try go_ret)
    rw [HQ.out]
    exact ⟨rfl, below_on HB0.out (below_on HB6.out hb)⟩
  | false =>
  have hn := HGR.out rfl
  clear HGR HO0
  have HG6 := Lib.hid (up HB6.out HG.out)
  have o0 := newcell HG6.out 0 _ rfl; have p1 := newcell HG6.out 1 _ rfl; have p2 := newcell HG6.out 2 _ rfl; have p3 := newcell HG6.out 3 _ rfl; have p4 := newcell HG6.out 4 _ rfl
  go_wp2_with fail
  generalize hV : World.alloc _ _ = V1
  obtain ⟨hh, hbv⟩ := heapnewE hV
  refine (lgreat15 (ops_one hh (HU.out.below (below_on HB6.out hbv)))).mono ?_; rintro _ w7 ⟨gb2, rfl, hb, _⟩
  have HB7 := Lib.hid (below_on HB6.out (below_on hbv hb))
  clear hV hh hbv hb o0 p1 p2 p3 p4 HG6 HB6
  cases gb2 with
  | true =>
    go_wp2_with fail
    refine (lives15_calls _).mono ?_; rintro _ w8 ⟨rfl, hb⟩
    go_wp2_with fail
    (try go_ret)
    rw [HQ.out]
    exact ⟨rfl, below_on HB0.out (below_on HB7.out hb)⟩
  | false =>
  go_wp2_with fail
  refine (fnew w7 U.heap.size HB7.out.size).mono ?_; rintro _ w8 ⟨rfl, ht, hb2⟩
  obtain ⟨q, hq⟩ : ∃ q, q = w7.heap.size := ⟨_, rfl⟩
  rw [← hq] at ht ⊢
  have HT := Lib.hid ht
  have HB := Lib.hid (below_on HB7.out hb2)
  clear ht hb2 hq HB7
  go_upto_region 11 with fail
  generalize hV : World.alloc _ _ = V
  obtain ⟨hh, hbv⟩ := heapnewE hV
  obtain ⟨X, hX⟩ : ∃ X, X = w8.heap.size := ⟨_, rfl⟩
  rw [← hX] at hh ⊢
  have hXB : Blk 33 V X 15 (xF T0 (.slice none 0 0) (.slice none 0 0) (.slice none 0 0)) := hh
  have HXB := Lib.hid hXB
  have HTV := Lib.hid (HT.out.below hbv); have HBV := Lib.hid (below_on HB.out hbv)
  have HXW := Lib.hid (show U.heap.size ≤ X by have := HB.out.size; omega)
  clear hV hh hbv hX hXB HT HB
  go_wp2_with fail
  go_loopw [10] (fun iv wr => ∃ i : Nat, i ≤ n ∧ iv = .int .i64 i ∧ ∃ (T : Td) (p : Nat → Nat) (fv rv sv fv' rv' sv' : Value), Hid (Bd i T) ∧ Hid (T.ss = ss0) ∧ Hid (ThA wr U.heap.size q T p fv rv sv) ∧ Hid (XR wr T fv' rv' sv') ∧ Hid (Blk 33 wr X 15 (xF T fv' rv' sv')) ∧ Hid (∀ j, sv'.ownBlock = some j → sv.ownBlock ≠ some j) ∧ Hid (Below U.heap.size U wr))
    (fun iv _ => n - (intOf iv).toNat)
  case atStart => exact ⟨0, Nat.zero_le _, rfl, T0, _, _, _, _, _, _, _, Lib.hid ⟨Nat.le_refl _, Nat.le_refl _, Nat.le_refl _, (by decide : riseB [] = true)⟩, Lib.hid rfl, HTV, Lib.hid (xr0 _), HXB, Lib.hid (fun j e => by cases e), HBV⟩
  case round =>
    clear HTV HBV HXB
    obtain ⟨i, hi, rfl, T, p, fv, rv, sv, fv', rv', sv', HBD, HSS, HT, HX, HXB, HSP, HB⟩ := hrel
    rcases (by omega : i < n ∨ i = n) with hlt | heq
    · obtain ⟨g, off, rfl, hc0⟩ := HO.out i hlt
      have hc := hc0.below HB.out
      have HC0 := Lib.hid hc0
      obtain ⟨oo, hoo⟩ : ∃ x, x = O i := ⟨_, rfl⟩
      rw [← hoo] at hc HC0
      clear hoo hc0
      obtain ⟨o0, o1', o2, o3, o4, hu⟩ := hc
      have C := ldo HT.out oo hu HB.out.size HBD.out (by omega)
      have HBD2 := Lib.hid (HBD.out.do oo)
      obtain ⟨ma, mc, hle, _, _⟩ := hu.slice
      rw [hle] at o2 C
      unfold opV at C
      have C := Lib.hid C
      have hii : (i : Int) < n := by omega
      have HLE := Lib.hid hle
      clear hu hle
      go_wp2_with fail
      refine C.out.mono ?_; rintro _ w4 ⟨rfl, ⟨p', fv2, rv2, sv2, ht, hs2⟩, kd⟩
      have HT4 := Lib.hid ht; have HB4 := Lib.hid (kd.below HB.out (Nat.le_refl _))
      have HX4 := Lib.hid (HX.out.kd kd HSP.out)
      have HXB4 := Lib.hid (HXB.out.kd kd)
      have HSP4 := Lib.hid (show ∀ j, sv'.ownBlock = some j → sv2.ownBlock ≠ some j from fun j e e2 => by
        rcases hs2 j e2 with e3 | e3
        · exact HSP.out j e e3
        · have := HX.out.s.lt e; omega)
      obtain ⟨p0, p1, p2, p3, p4, hu⟩ := HC0.out.below HB4.out
      clear ht kd o0 o1' o2 o3 o4 C HT HX HXB HSP HB hs2
      rw [HLE.out] at p2 hu
      go_upto_region 15 with fail
      obtain ⟨b1, b2, b3, b4⟩ := HBD.out
      have HU4 := Lib.hid hu
      obtain ⟨d, hdu, hdr⟩ := uX
      have HDU := Lib.hid hdu; have HDR := Lib.hid hdr
      obtain ⟨XV, hXV⟩ : ∃ XV, XV = xV T fv' rv' sv' := ⟨_, rfl⟩
      have HXV := Lib.hid hXV
      have HLX := Lib.hid (show ∀ y : Ext w4, (Instr.loadAt 33 (.pointer (some ⟨X, 0, none⟩))).run Try.prog y.w = .ok XV y.w from fun y => by
        have hr := (HXB4.out.below y.h).range 0 15 (by omega)
        simp only [Nat.zero_add] at hr
        rw [hXV]; exact run_loadAt_mid (P := Try.prog) y.w X 0 33 _ d hr hdu hdr (by first | (rw [xC_len]; exact infoX) | (rw [List.length_map, List.length_range]; exact infoX)))
      obtain ⟨OV, hOV⟩ : ∃ OV : Value, OV = .agg #[.int .i64 oo.kind, .int .i64 oo.fn, .slice ma oo.n mc, .int .i64 oo.pk, .int .i64 oo.pv] := ⟨_, rfl⟩
      have HOV := Lib.hid hOV
      have HLO := Lib.hid (show ∀ y : Ext w4, (Instr.loadAt 39 (.pointer (some ⟨g, off + i * 5, none⟩))).run Try.prog y.w = .ok OV y.w from fun y => by
        have q0 := Ext.use (Ext.cells p0) y.h; have q1 := Ext.use (Ext.cells p1) y.h; have q2 := Ext.use (Ext.cells p2) y.h; have q3 := Ext.use (Ext.cells p3) y.h; have q4 := Ext.use (Ext.cells p4) y.h
        rw [hOV]
        clear p0 p1 p2 p3 p4
        go_simp)
      clear hu hdu hdr hXV hOV p0 p1 p2 p3 p4
      refine wp_region_K (fun w' => ∃ y : Ext w4, w' = y.w) 10 (by decide +kernel) ?_
      generalize hwd : World.drew w4 = wd
      have hbd : Below w4.heap.size w4 wd := by rw [← hwd]; exact (Below.refl _ _).drew
      clear hwd
      (refine wpAnyK_take (i := 0) (v := XV) [5, 6, 7, 8, 9, 10] rfl (by decide +kernel) (by decide +kernel) (by decide +kernel) (by decide +kernel) (fun _ _ _ h => h) (yields_loadK rfl 33 (.tmp 9) rfl rfl (by rintro _ ⟨y, rfl⟩; exact HLX.out y)) ⟨⟨wd, hbd⟩, rfl⟩ ?_)
      simp only [List.getElem_toArray, List.getElem_cons_succ, List.getElem_cons_zero, Act.put, List.setIfInBounds_toArray, List.set_cons_succ, List.set_cons_zero]
      (refine wpAnyK_takeY (i := 1) (v := ?_) rfl (by decide +kernel) (by decide +kernel) (by decide +kernel) (by decide) (fun _ _ _ h => h) (Or.inl ⟨by rfl, ?_⟩) (.inr ⟨⟨wd, hbd⟩, rfl⟩) ?_; rotate_left; (intro w; go_simp); (try with_reducible rfl))
      simp only [List.getElem_toArray, List.getElem_cons_succ, List.getElem_cons_zero, Act.put, List.setIfInBounds_toArray, List.set_cons_succ, List.set_cons_zero]
      (refine wpAnyK_takeY (i := 2) (v := ?_) rfl (by decide +kernel) (by decide +kernel) (by decide +kernel) (by decide) (fun _ _ _ h => h) (Or.inl ⟨by rfl, ?_⟩) (.inr ⟨⟨wd, hbd⟩, rfl⟩) ?_; rotate_left; (intro w; go_simp); (try with_reducible rfl))
      simp only [List.getElem_toArray, List.getElem_cons_succ, List.getElem_cons_zero, Act.put, List.setIfInBounds_toArray, List.set_cons_succ, List.set_cons_zero]
      (refine wpAnyK_takeY (i := 3) (v := ?_) rfl (by decide +kernel) (by decide +kernel) (by decide +kernel) (by decide) (fun _ _ _ h => h) (Or.inl ⟨by rfl, ?_⟩) (.inr ⟨⟨wd, hbd⟩, rfl⟩) ?_; rotate_left; (intro w; go_simp); (try with_reducible rfl))
      simp only [List.getElem_toArray, List.getElem_cons_succ, List.getElem_cons_zero, Act.put, List.setIfInBounds_toArray, List.set_cons_succ, List.set_cons_zero]
      (refine wpAnyK_take (i := 4) (v := OV) [5, 6, 7, 8, 9, 10] rfl (by decide +kernel) (by decide +kernel) (by decide +kernel) (by decide +kernel) (fun _ _ _ h => h) (yields_loadK rfl 39 (.tmp 77) rfl rfl (by rintro _ ⟨y, rfl⟩; exact HLO.out y)) ⟨⟨wd, hbd⟩, rfl⟩ ?_)
      simp only [List.getElem_toArray, List.getElem_cons_succ, List.getElem_cons_zero, Act.put, List.setIfInBounds_toArray, List.set_cons_succ, List.set_cons_zero]
      (refine wpAnyK_ready (rs := [5]) (by decide +kernel) (by simp) ?_; refine AllReadyK.cons rfl (fun K hK => ?_) AllReadyK.nil; refine step_of rfl ?_)
      have D := rdo15 (HX4.out.below hbd) oo (HU4.out.below hbd) (by omega) (by omega) (by omega)
      rw [← HXV.out] at D
      unfold opV at D
      rw [← HOV.out] at D
      have D := Lib.hid D
      go_step
      refine D.out.mono ?_; rintro _ w5 ⟨f3, r3, s3, rfl, hx5, hb5, hs5⟩
      obtain ⟨YV, hYV⟩ : ∃ YV, YV = xV (doT T oo) f3 r3 s3 := ⟨_, rfl⟩
      rw [← hYV]
      have HYV := Lib.hid hYV
      have hb5 := below_on hbd hb5
      refine hK _ _ (.inr ⟨⟨w5, hb5⟩, rfl⟩) ?_
      clear hK K D hYV
      (refine wpAnyK_takeY (i := 6) (v := ?_) rfl (by decide +kernel) (by decide +kernel) (by decide +kernel) (by decide) (fun _ _ _ h => h) (Or.inl ⟨by rfl, ?_⟩) (.inr ⟨⟨w5, hb5⟩, rfl⟩) ?_; rotate_left; (intro w; go_simp); (try with_reducible rfl))
      simp only [List.getElem_toArray, List.getElem_cons_succ, List.getElem_cons_zero, Act.put, List.setIfInBounds_toArray, List.set_cons_succ, List.set_cons_zero]
      (refine wpAnyK_takeY (i := 7) (v := ?_) rfl (by decide +kernel) (by decide +kernel) (by decide +kernel) (by decide) (fun _ _ _ h => h) (Or.inl ⟨by rfl, ?_⟩) (.inr ⟨⟨w5, hb5⟩, rfl⟩) ?_; rotate_left; (intro w; go_simp); (try with_reducible rfl))
      simp only [List.getElem_toArray, List.getElem_cons_succ, List.getElem_cons_zero, Act.put, List.setIfInBounds_toArray, List.set_cons_succ, List.set_cons_zero]
      (refine wpAnyK_takeY (i := 8) (v := ?_) rfl (by decide +kernel) (by decide +kernel) (by decide +kernel) (by decide) (fun _ _ _ h => h) (Or.inl ⟨by rfl, ?_⟩) (.inr ⟨⟨w5, hb5⟩, rfl⟩) ?_; rotate_left; (intro w; go_simp); (try with_reducible rfl))
      simp only [List.getElem_toArray, List.getElem_cons_succ, List.getElem_cons_zero, Act.put, List.setIfInBounds_toArray, List.set_cons_succ, List.set_cons_zero]
      (refine wpAnyK_takeY (i := 9) (v := ?_) rfl (by decide +kernel) (by decide +kernel) (by decide +kernel) (by decide) (fun _ _ _ h => h) (Or.inl ⟨by rfl, ?_⟩) (.inr ⟨⟨w5, hb5⟩, rfl⟩) ?_; rotate_left; (intro w; go_simp); (try with_reducible rfl))
      simp only [List.getElem_toArray, List.getElem_cons_succ, List.getElem_cons_zero, Act.put, List.setIfInBounds_toArray, List.set_cons_succ, List.set_cons_zero]
      obtain ⟨fa3, fc3, rfl, _, _⟩ := hx5.f.slice
      obtain ⟨ra3, rc3, rfl, _, _⟩ := hx5.r.1.slice
      obtain ⟨sa3, sc3, rfl, _, _⟩ := hx5.s.slice
      have hX5 := HXB4.out.below hb5
      have HTH := Lib.hid (hX5.there 0 15 (by omega))
      (refine wpAnyK_ready (rs := [10]) (by decide +kernel) (by simp) ?_; refine AllReadyK.cons rfl (fun K hK => ?_) AllReadyK.nil; refine step_of rfl ?_)
      refine wp_store_mid 33 (.tmp 9) (.tmp 80) rfl X 0 (xC (doT T oo) (.slice fa3 (doT T oo).nf fc3) (.slice ra3 (doT T oo).row.length rc3) (.slice sa3 (doT T oo).ns sc3)).toArray rfl (show YV = _ from HYV.out) (by rw [List.size_toArray, xC_len]; exact HTH.out) (by rw [List.size_toArray, xC_len]; exact infoX) (all_oneCell_toArray xC_one) ?_
      refine hK _ _ (.inl rfl) ?_
      clear hK K
      refine wpAnyK_done (by decide +kernel) ?_ _
      generalize hV : World.setCells _ _ _ _ = V
      have kx : KS (fun j => j = X) w5 V := by rw [← hV]; exact KS.setCells w5 X 0 _
      have hbV : Blk 33 V X 15 (xF (doT T oo) (.slice fa3 (doT T oo).nf fc3) (.slice ra3 (doT T oo).row.length rc3) (.slice sa3 (doT T oo).ns sc3)) := by rw [← hV]; exact (hX5.setCells _ 0).congr fun j hj => put_xC _ _ _ _ _ hj
      have HT5 := HT4.out.below hb5
      have HTV := Lib.hid (HT5.ksT hX5 (by decide) (by decide) (by decide) (by decide) (by decide) kx)
      have HXV5 := Lib.hid (hx5.ks hX5 (by decide) (by decide) (by decide) kx)
      have hB5 := below_on HB4.out hb5
      have HBV := Lib.hid (show Below U.heap.size U V from ⟨kx.os.trans hB5.os, kx.tape.trans hB5.tape, kx.output.trans hB5.output, Nat.le_trans hB5.size kx.size, fun j hj => (kx.block j (Nat.lt_of_lt_of_le hj hB5.size) (by have := HXW.out; omega)).trans (hB5.block j hj)⟩)
      have HXBV := Lib.hid hbV
      have HSPV := Lib.hid (show ∀ j, (Value.slice sa3 (doT T oo).ns sc3).ownBlock = some j → sv2.ownBlock ≠ some j from fun j e e2 => by
        rcases hs5 j e with e3 | e3
        · exact HSP4.out j e3 e2
        · have h7 := (HT4.out.so.blk e2).2.1
          have := hbd.size; omega)
      have HSS2 := Lib.hid ((doT_ss T oo).trans HSS.out)
      clear hV kx hbV HT5 hB5 hX5 hx5 hb5 hs5 hbd HTH HLX HLO HT4 HB4 HX4 HXB4 HSP4 HU4
      go_wp2_with fail
      go_roundw
      case rel => exact ⟨i + 1, by omega, by go_num, _, _, _, _, _, _, _, _, HBD2, HSS2, HTV, HXV5, HXBV, HSPV, HBV⟩
      case measure => simp [intOf]; omega
    subst heq
    have c22 : wr.cell? ⟨q, 22, none⟩ = some (.int .i64 0) := by
      have h := HT.out.blk.get (i := 22) (by omega)
      rw [h]; show some (T.ss 10) = _; rw [HSS.out]; rfl
    have cfr : ∀ k, wr.frozen? ⟨q, k, none⟩ = false := HT.out.blk.fr
    go_upto_region 17 with fail
    have hput := HT.out.put (T' := { T with ss := ss7 }) (fv' := fv) (rv' := rv) (sv' := sv) (KS.set wr q 22 (.int .i64 7)) ((HT.out.blk.set 22 _).congr fun j hj => th_ss7 T _ _ _ HSS.out j hj) HT.out.fo (fun k hk => ⟨hk, rfl⟩) HT.out.rw HT.out.so ss7_one
    have kx := KS.set wr q 22 (.int .i64 7)
    generalize hV : World.setCell _ _ _ = V
    rw [hV] at hput kx
    have hqb : wr.heap[q]? = some (.cells _ 51 (0, 0)) := HT.out.blk
    have hxb : Blk 33 V X 15 (xF { T with ss := ss7 } fv' rv' sv') := (kx.block X (blk_lt HXB.out) (ne_ty HXB.out hqb (by decide))).trans HXB.out
    have hxr := (HX.out.ks hqb (by decide) (by decide) (by decide) kx).ss7
    obtain ⟨T2, hT2⟩ : ∃ T2 : Td, T2 = { T with ss := ss7 } := ⟨_, rfl⟩
    have hbd2 : Bd i T2 := by rw [hT2]; exact HBD.out
    have hss2 : T2.ss = ss7 := by rw [hT2]
    rw [← hT2] at hput hxb hxr
    have HTV := Lib.hid hput.1
    have HBV := Lib.hid (hput.2.below HT.out HB.out (Nat.le_refl _))
    have HXV := Lib.hid hxr; have HXBV := Lib.hid hxb; have HBD2 := Lib.hid hbd2; have HSS2 := Lib.hid hss2
    obtain ⟨b1, b2, b3, b4⟩ := hbd2
    have HB1 := Lib.hid b1; have HB2 := Lib.hid b2; have HB3 := Lib.hid b3
    clear hV hput kx hqb hxb hxr hT2 hss2 c22 cfr HT HX HXB HSS HB HBD HSP b1 b2 b3 b4
    go_wp2_with fail
    refine (fclone HTV.out (by have := HB1.out; omega) (by have := HB2.out; omega) (by have := HB3.out; omega)).mono ?_; rintro _ wc ⟨q', pc, fvc, rvc, svc, rfl, htc, hbc⟩
    have HTC := Lib.hid htc
    have HTT := Lib.hid (HTV.out.below hbc)
    have HXC := Lib.hid (HXV.out.below hbc); have HXBC := Lib.hid (HXBV.out.below hbc); have HBC := Lib.hid hbc
    clear htc hbc
    go_upto_region 18 with fail
    obtain ⟨d, hdu, hdr⟩ := uX
    have HDU := Lib.hid hdu; have HDR := Lib.hid hdr
    obtain ⟨XV, hXV⟩ : ∃ XV, XV = xV T2 fv' rv' sv' := ⟨_, rfl⟩
    have HXE := Lib.hid hXV
    have hlx : ∀ y : Ext wc, (Instr.loadAt 33 (.pointer (some ⟨X, 0, none⟩))).run Try.prog y.w = .ok XV y.w := fun y => by
      have hr := (HXBC.out.below y.h).range 0 15 (by omega)
      simp only [Nat.zero_add] at hr
      rw [hXV]; exact run_loadAt_mid (P := Try.prog) y.w X 0 33 _ d hr hdu hdr (by first | (rw [xC_len]; exact infoX) | (rw [List.length_map, List.length_range]; exact infoX))
    obtain ⟨SV, hSV⟩ : ∃ SV, SV = sesV := ⟨_, rfl⟩
    have hlc : ∀ y : Ext wc, (Instr.loadAt 48 (.pointer (some ⟨q', 12, none⟩))).run Try.prog y.w = .ok SV y.w := fun y => by
      obtain ⟨dF, hdF, hdr⟩ := uSes
      have hr := (HTC.out.blk.below y.h).range 12 12 (by omega)
      rw [th_ss, HSS2.out] at hr
      rw [hSV]; exact run_loadAt_mid (P := Try.prog) y.w q' 12 48 _ dF hr hdF hdr (by rw [List.length_map, List.length_range]; exact infoSes)
    have hlt : ∀ y : Ext wc, (Instr.loadAt 48 (.pointer (some ⟨q, 12, none⟩))).run Try.prog y.w = .ok SV y.w := fun y => by
      obtain ⟨dF, hdF, hdr⟩ := uSes
      have hr := (HTT.out.blk.below y.h).range 12 12 (by omega)
      rw [th_ss, HSS2.out] at hr
      rw [hSV]; exact run_loadAt_mid (P := Try.prog) y.w q 12 48 _ dF hr hdF hdr (by rw [List.length_map, List.length_range]; exact infoSes)
    have hse : ∀ w : World, (binOp .neq 48 SV SV).run Try.prog w = .ok (.bool false) w := fun w => by rw [hSV]; exact sesV_eq w
    have hsg : ∀ (w : World) (x y : Operand), (eqGuard .neq 48 x y SV SV).run Try.prog w = .ok () w := fun w x y => by rw [hSV]; exact sesV_guard w x y
    clear hdu hdr hXV hSV
    (with_reducible refine wp_region_mix (fun w' => ∃ y : Ext wc, w' = y.w) ?_ ?_ ?_ ?_; kernel_rfl; kernel_rfl; exact ⟨⟨wc.drew, (Below.refl _ _).drew⟩, rfl⟩)
    obtain ⟨y0, hy0⟩ : ∃ y : Ext wc, y.w = wc.drew := ⟨⟨wc.drew, (Below.refl _ _).drew⟩, rfl⟩
    rw [← hy0]
    clear hy0
    repeat (first | ((with_reducible refine mix_plain (by kernel_rfl) ?_); go_big_quiet_want; (refine quiet_load 33 (.tmp 9) (by rfl) (by rfl) (by rintro w8 ⟨y, rfl⟩; exact hlx y) ?_); simp only [Act.put, List.setIfInBounds_toArray, List.set_cons_succ, List.set_cons_zero]; go_big_quiet_on; (with_reducible refine mix_on ?_)) | ((with_reducible refine mix_plain (by kernel_rfl) ?_); (first | go_big_quiet_skip | (go_big_quiet_want; go_big_quiet_op; go_big_quiet_on)); (with_reducible refine mix_on ?_)) | ((with_reducible refine mix_skip (by kernel_rfl) ?_); go_big_quiet_skip; (with_reducible refine mix_on ?_)))
    ((with_reducible refine wpMix_chain (by kernel_rfl) (by kernel_rfl) (fun K HK => ?_)); go_step)
    have C := lsame (HTC.out.below y0.h) (HXC.out.below y0.h) (by have := HB1.out; omega) (by have := HB3.out; omega)
    rw [← HXE.out] at C
    refine C.mono ?_; rintro _ w9 ⟨rfl, hb9⟩
    have hb9 := below_on y0.h hb9
    refine HK.out _ _ ⟨⟨w9, hb9⟩, rfl⟩ ?_
    clear HK K C
    repeat (first | ((with_reducible refine mix_plain (by kernel_rfl) ?_); go_big_quiet_want; (refine quiet_load 48 (.tmp 96) (by rfl) (by rfl) (by rintro w8 ⟨y, rfl⟩; exact hlc y) ?_); simp only [Act.put, List.setIfInBounds_toArray, List.set_cons_succ, List.set_cons_zero]; go_big_quiet_on; (with_reducible refine mix_on ?_)) | ((with_reducible refine mix_plain (by kernel_rfl) ?_); go_big_quiet_want; (refine quiet_load 48 (.tmp 100) (by rfl) (by rfl) (by rintro w8 ⟨y, rfl⟩; exact hlt y) ?_); simp only [Act.put, List.setIfInBounds_toArray, List.set_cons_succ, List.set_cons_zero]; go_big_quiet_on; (with_reducible refine mix_on ?_)) | ((with_reducible refine mix_plain (by kernel_rfl) ?_); go_big_quiet_want; (refine quiet_neq 48 _ (.tmp 97) (.tmp 101) (by rfl) (by rfl) (by rfl) (fun w => hsg w _ _) hse ?_); simp only [Act.put, List.setIfInBounds_toArray, List.set_cons_succ, List.set_cons_zero]; go_big_quiet_on; (with_reducible refine mix_on ?_)) | ((with_reducible refine mix_plain (by kernel_rfl) ?_); (first | go_big_quiet_skip | (go_big_quiet_want; go_big_quiet_op; go_big_quiet_on)); (with_reducible refine mix_on ?_)) | ((with_reducible refine mix_skip (by kernel_rfl) ?_); go_big_quiet_skip; (with_reducible refine mix_on ?_)))
    refine wpMix_nil ?_
    have HTC9 := Lib.hid (HTC.out.below hb9); have HTT9 := Lib.hid (HTT.out.below hb9); have HX9 := Lib.hid (HXC.out.below hb9); have HXB9 := Lib.hid (HXBC.out.below hb9); have HB9 := Lib.hid (below_on HBC.out hb9)
    clear hlx hlc hlt hse hsg hb9 HTC HTT HXC HXBC HBC
    have HBU9 := Lib.hid (below_on HBV.out HB9.out)
    have HG9 := Lib.hid (up HBU9.out HG.out)
    have o0 := newcell HG9.out 0 _ rfl; have p1 := newcell HG9.out 1 _ rfl; have p2 := newcell HG9.out 2 _ rfl; have p3 := newcell HG9.out 3 _ rfl; have p4 := newcell HG9.out 4 _ rfl
    have HRX := Lib.hid (show w9.rangeAt X 0 (xC T2 fv' rv' sv') from by have := HXB9.out.range 0 15 (by omega); simpa [xC] using this)
    have D := rdo15 HX9.out o1 (HU.out.below HBU9.out) (by have := HB1.out; omega) (by have := HB2.out; omega) (by have := HB3.out; omega)
    unfold opV at D
    have D := Lib.hid D
    go_wp2_with (first | (refine wpList_load_mid rfl 33 (.tmp 9) rfl X 0 rfl (xC T2 fv' rv' sv') d HRX.out HDU.out HDR.out (by rw [xC_len]; exact infoX) ?_))
    refine D.out.mono ?_; rintro _ w10 ⟨f3, r3, s3, rfl, hx10, hb10, hs10⟩
    obtain ⟨fa3, fc3, rfl, _, _⟩ := hx10.f.slice
    obtain ⟨ra3, rc3, rfl, _, _⟩ := hx10.r.1.slice
    obtain ⟨sa3, sc3, rfl, _, _⟩ := hx10.s.slice
    obtain ⟨YV, hYV⟩ : ∃ YV, YV = xV (doT T2 o1) (.slice fa3 (doT T2 o1).nf fc3) (.slice ra3 (doT T2 o1).row.length rc3) (.slice sa3 (doT T2 o1).ns sc3) := ⟨_, rfl⟩
    rw [← hYV]
    have HYV := Lib.hid hYV
    have HX10 := Lib.hid hx10; have HB10 := Lib.hid hb10; have HS10 := Lib.hid hs10
    clear hYV hx10 hb10 hs10 D HRX o0 p1 p2 p3 p4
    go_upto_region 21 with (refine wpList_store_row (by rfl) 33 (.tmp 12) (.tmp 108) (by rfl) w10.heap.size (xC (doT T2 o1) (.slice fa3 (doT T2 o1).nf fc3) (.slice ra3 (doT T2 o1).row.length rc3) (.slice sa3 (doT T2 o1).ns sc3)).toArray (by rfl) (show YV = _ from HYV.out) 33 _ (heap_alloc_new _ _) (by rw [List.size_toArray, xC_len]; exact infoX) (Eq.trans (b := 15) (by rfl) (by rw [List.size_toArray, xC_len])) (all_oneCell_toArray xC_one) ?_)
    generalize hW : World.setRow _ _ _ = W
    obtain ⟨hh, hbw, _⟩ := setrowE hW
    obtain ⟨Z, hZ⟩ : ∃ Z, Z = w10.heap.size := ⟨_, rfl⟩
    rw [← hZ] at hh ⊢
    have HZB := Lib.hid (show Blk 33 W Z 15 (xF (doT T2 o1) (.slice fa3 (doT T2 o1).nf fc3) (.slice ra3 (doT T2 o1).row.length rc3) (.slice sa3 (doT T2 o1).ns sc3)) from hh)
    have HBW9 := Lib.hid (below_on HB10.out hbw)
    have HXW2 := Lib.hid (HX10.out.below hbw)
    clear hW hh hbw hZ HX10
    have HTCW := Lib.hid (HTC9.out.below HBW9.out)
    have HBVW := Lib.hid (below_on HB9.out HBW9.out)
    have HBUW := Lib.hid (below_on HBV.out HBVW.out)
    have HGW := Lib.hid (up HBUW.out HG.out)
    have o0 := newcell HGW.out 0 _ rfl; have p1 := newcell HGW.out 1 _ rfl; have p2 := newcell HGW.out 2 _ rfl; have p3 := newcell HGW.out 3 _ rfl; have p4 := newcell HGW.out 4 _ rfl
    have C := ldo HTCW.out o1 (HU.out.below HBUW.out) HBVW.out.size HBD2.out (by omega)
    unfold opV at C
    have C := Lib.hid C
    go_wp2_with fail
    refine C.out.mono ?_; rintro _ w11 ⟨rfl, ⟨p11, fv11, rv11, sv11, ht11, _⟩, kd⟩
    have HT11 := Lib.hid ht11
    have HBV11 := Lib.hid (kd.below HBVW.out (Nat.le_refl _))
    have HY11 := Lib.hid (HXW2.out.kd kd fun j e e2 => by
      rcases HS10.out j e with e3 | e3
      · have h1 := HXV.out.s.lt e3
        have h2 := (HTC9.out.so.blk e2).1
        omega
      · have h2 := (HTC9.out.so.blk e2).2.1
        omega)
    have HZ11 := Lib.hid (HZB.out.kd kd)
    clear ht11 kd C o0 p1 p2 p3 p4 HTCW HXW2 HZB
    have HBD3 := Lib.hid (HBD2.out.do o1)
    obtain ⟨bb1, bb2, bb3, bb4⟩ := HBD3.out
    have c0 : w11.cell? ⟨Z, 0, none⟩ = some (.int .u64 ((doT T2 o1).ret 0)) := HZ11.out.get (i := 0) (by omega)
    have c1 : w11.cell? ⟨Z, 1, none⟩ = some (.int .u64 ((doT T2 o1).ret 1)) := HZ11.out.get (i := 1) (by omega)
    have c2 : w11.cell? ⟨Z, 2, none⟩ = some (.int .u64 ((doT T2 o1).ret 2)) := HZ11.out.get (i := 2) (by omega)
    have c3 : w11.cell? ⟨Z, 3, none⟩ = some (.int .u64 ((doT T2 o1).ret 3)) := HZ11.out.get (i := 3) (by omega)
    have c4 : w11.cell? ⟨Z, 4, none⟩ = some (.int .u64 ((doT T2 o1).ret 4)) := HZ11.out.get (i := 4) (by omega)
    have c5 : w11.cell? ⟨Z, 5, none⟩ = some (.int .u64 ((doT T2 o1).ret 5)) := HZ11.out.get (i := 5) (by omega)
    have c6 : w11.cell? ⟨Z, 6, none⟩ = some (.int .u64 ((doT T2 o1).ret 6)) := HZ11.out.get (i := 6) (by omega)
    have c7 : w11.cell? ⟨Z, 7, none⟩ = some (.int .u64 ((doT T2 o1).ret 7)) := HZ11.out.get (i := 7) (by omega)
    have c8 : w11.cell? ⟨Z, 8, none⟩ = some (.int .u64 ((doT T2 o1).ret 8)) := HZ11.out.get (i := 8) (by omega)
    have c9 : w11.cell? ⟨Z, 9, none⟩ = some (.int .u64 ((doT T2 o1).ret 9)) := HZ11.out.get (i := 9) (by omega)
    have c10 : w11.cell? ⟨Z, 10, none⟩ = some (.int .u64 ((doT T2 o1).ret 10)) := HZ11.out.get (i := 10) (by omega)
    have c11 : w11.cell? ⟨Z, 11, none⟩ = some (.int .u64 ((doT T2 o1).ret 11)) := HZ11.out.get (i := 11) (by omega)
    have c12 : w11.cell? ⟨Z, 12, none⟩ = some (.slice fa3 (doT T2 o1).nf fc3) := HZ11.out.get (i := 12) (by omega)
    have c13 : w11.cell? ⟨Z, 13, none⟩ = some (.slice ra3 (doT T2 o1).row.length rc3) := HZ11.out.get (i := 13) (by omega)
    have c14 : w11.cell? ⟨Z, 14, none⟩ = some (.slice sa3 (doT T2 o1).ns sc3) := HZ11.out.get (i := 14) (by omega)
    have C := lsame HT11.out HY11.out (by omega) (by omega)
    rw [xV_lit] at C
    have C := Lib.hid C
    go_wp2_with fail
    refine C.out.mono ?_; rintro _ w12 ⟨rfl, hb12⟩
    clear C c0 c1 c2 c3 c4 c5 c6 c7 c8 c9 c10 c11 c12 c13 c14
    have HBV12 := Lib.hid (below_on HBV11.out hb12)
    have HXB12 := Lib.hid (HXBV.out.below HBV12.out)
    have HTT12 := Lib.hid (HTV.out.below HBV12.out); have HXR12 := Lib.hid (HXV.out.below HBV12.out)
    clear hb12
    have a1 := HB1.out; have a2 := HB2.out; have a3 := HB3.out
    obtain ⟨fa4, fc4, hf4, _, _⟩ := HXV.out.f.slice
    obtain ⟨ra4, rc4, hr4, _, _⟩ := HXV.out.r.1.slice
    obtain ⟨sa4, sc4, hs4, _, _⟩ := HXV.out.s.slice
    have c0 : w12.cell? ⟨X, 0, none⟩ = some (.int .u64 ((T2).ret 0)) := HXB12.out.get (i := 0) (by omega)
    have c1 : w12.cell? ⟨X, 1, none⟩ = some (.int .u64 ((T2).ret 1)) := HXB12.out.get (i := 1) (by omega)
    have c2 : w12.cell? ⟨X, 2, none⟩ = some (.int .u64 ((T2).ret 2)) := HXB12.out.get (i := 2) (by omega)
    have c3 : w12.cell? ⟨X, 3, none⟩ = some (.int .u64 ((T2).ret 3)) := HXB12.out.get (i := 3) (by omega)
    have c4 : w12.cell? ⟨X, 4, none⟩ = some (.int .u64 ((T2).ret 4)) := HXB12.out.get (i := 4) (by omega)
    have c5 : w12.cell? ⟨X, 5, none⟩ = some (.int .u64 ((T2).ret 5)) := HXB12.out.get (i := 5) (by omega)
    have c6 : w12.cell? ⟨X, 6, none⟩ = some (.int .u64 ((T2).ret 6)) := HXB12.out.get (i := 6) (by omega)
    have c7 : w12.cell? ⟨X, 7, none⟩ = some (.int .u64 ((T2).ret 7)) := HXB12.out.get (i := 7) (by omega)
    have c8 : w12.cell? ⟨X, 8, none⟩ = some (.int .u64 ((T2).ret 8)) := HXB12.out.get (i := 8) (by omega)
    have c9 : w12.cell? ⟨X, 9, none⟩ = some (.int .u64 ((T2).ret 9)) := HXB12.out.get (i := 9) (by omega)
    have c10 : w12.cell? ⟨X, 10, none⟩ = some (.int .u64 ((T2).ret 10)) := HXB12.out.get (i := 10) (by omega)
    have c11 : w12.cell? ⟨X, 11, none⟩ = some (.int .u64 ((T2).ret 11)) := HXB12.out.get (i := 11) (by omega)
    have c12 : w12.cell? ⟨X, 12, none⟩ = some (fv') := HXB12.out.get (i := 12) (by omega)
    have c13 : w12.cell? ⟨X, 13, none⟩ = some (rv') := HXB12.out.get (i := 13) (by omega)
    have c14 : w12.cell? ⟨X, 14, none⟩ = some (sv') := HXB12.out.get (i := 14) (by omega)
    have C := lsame HTT12.out HXR12.out (by omega) (by omega)
    rw [xV_lit] at C
    rw [hf4] at C c12; rw [hr4] at C c13; rw [hs4] at C c14
    have C := Lib.hid C
    clear hf4 hr4 hs4
    go_wp2_with fail
    refine C.out.mono ?_; rintro _ w13 ⟨rfl, hb13⟩
    clear C c0 c1 c2 c3 c4 c5 c6 c7 c8 c9 c10 c11 c12 c13 c14
    have HBV13 := Lib.hid (below_on HBV12.out hb13)
    clear hb13
    go_wp2_with fail
    refine (lives15_calls _).mono ?_; rintro _ w14 ⟨rfl, hb14⟩
    go_wp2_with fail
    (try go_ret)
    rw [HQ.out]
    exact ⟨by simp, below_on HB0.out (below_on (below_on HBV.out HBV13.out) hb14)⟩
end Go.Proofs.Ytdnjconfmaiegaa
