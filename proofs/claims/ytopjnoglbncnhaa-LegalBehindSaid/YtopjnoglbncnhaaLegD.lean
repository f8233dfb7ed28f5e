/- Layer 12: the state behind an order: the reference. -/
import Derived.Test.YtopjnoglbncnhaaLegC
namespace Go.Proofs.Ytopjnoglbncnhaa
open Go.RowKit
set_option linter.unusedVariables false
set_option linter.unusedSimpArgs false
set_option maxRecDepth 16000 in
set_option maxHeartbeats 4000000 in
theorem rbehind {w : World} {ov rv : Value} {n m : Nat} {O : Nat → Op13} {fv : Nat → Value} {ord : Nat → Int} (hO : OpR w ov n O fv) (hr : OrdR w rv m ord) (hk : ∀ i, i < n → (-9223372036854775808 ≤ (O i).c.key ∧ (O i).c.key ≤ 9223372036854775807) ∧ (O i).a.ps.length ≤ 1500) (hn : n ≤ 50) (hm : m ≤ 60) (t : Int) :
    Calls Try.prog 7 #[ov, rv, .int .i64 t] w (BehP w (behN O n ord (clampN t) m)) := by
  refine Calls.veil fun Q HQ => ?_
  obtain ⟨t0, ht0⟩ : ∃ n, n = clampN t := ⟨_, rfl⟩
  have HN6 := Lib.hid (show t0 ≤ 6 by rw [ht0]; exact clamp6 t)
  rw [← ht0] at HQ
  have HT0 := Lib.hid ht0
  clear ht0
  obtain ⟨oa, ocap, rfl, oc1, oc2, hO⟩ := hO
  obtain ⟨ra, rcap, rfl, rc1, rc2, hr⟩ := hr
  have HO := Lib.hid hO; have HR := Lib.hid hr; have HKK := Lib.hid hk
  clear hO hr hk
  go_enter Try.func7, Try.ntmps7
  go_upto_region 1 with fail
  generalize hU : World.alloc _ _ = U
  have u0 : U.heap[w.heap.size]? = some (.cells #[.slice none 0 0, .slice none 0 0] 34) := by rw [← hU]; exact heap_alloc_new w _
  have hbu : Below w.heap.size w U := by rw [← hU]; exact below_new (Below.refl _ _) _
  clear hU
  obtain ⟨B, hB⟩ : ∃ B, B = w.heap.size := ⟨_, rfl⟩
  rw [← hB] at u0 ⊢
  have HU0 := Lib.hid u0; have HBU := Lib.hid hbu
  have HWB := Lib.hid (show w.heap.size ≤ B by rw [hB]; exact Nat.le_refl _)
  clear u0 hbu hB
  go_wp2_with fail
  refine (rnew10 t _).mono ?_; rintro _ w1 ⟨tv, rfl, ht, hb1⟩
  rw [← HT0.out] at ht
  have HT1 := Lib.hid ht
  have HB1 := Lib.hid (below_on HBU.out hb1)
  have HZ := Lib.hid (up hb1 HU0.out)
  have HBL := Lib.hid (blk_lt HZ.out)
  obtain ⟨q, d, rfl, _, _, _⟩ := ht.slice
  clear ht hb1 HBU HU0
  go_upto_region 2 with fail
  generalize hV : World.alloc _ _ = V
  have v0 : V.heap[w1.heap.size]? = some (.cells #[.slice none 0 0, .slice q t0 d] 34) := by rw [← hV]; exact heap_alloc_new w1 _
  have hbv : Below w1.heap.size w1 V := by rw [← hV]; exact below_new (Below.refl _ _) _
  have HV0 := Lib.hid v0
  have HT1 := Lib.hid (HT1.out.below hbv)
  have HZ := Lib.hid (up hbv HZ.out)
  have HX := Lib.hid (show w.heap.size ≤ w1.heap.size ∧ B ≠ w1.heap.size from ⟨HB1.out.size, by have := HBL.out; omega⟩)
  have HB1 := Lib.hid (below_on HB1.out hbv)
  clear hV v0 hbv
  generalize w1.heap.size = X at *
  go_wp2_with fail
  go_loopw [9] (fun iv wr => ∃ i : Nat, i ≤ m ∧ iv = .int .i64 i ∧ ∃ (st : Sm) (mv tv : Value), Hid (behN O n ord t0 i = some st) ∧ Hid (OkN i st) ∧ Hid (wr.heap[X]? = some (.cells #[mv, tv] 34 (0, 0))) ∧ Hid (wr.heap[B]? = some (.cells #[.slice none 0 0, .slice none 0 0] 34 (0, 0))) ∧ Hid (PO wr mv st.mp) ∧ Hid (TR wr tv st.n st.th) ∧ Hid (Below w.heap.size w wr))
    (fun iv _ => m - (intOf iv).toNat)
  case atStart => exact ⟨0, Nat.zero_le _, rfl, ⟨[], t0, fun _ => s0⟩, _, _, Lib.hid rfl, Lib.hid (OkN.new t0 HN6.out), HV0, HZ, Lib.hid (PO.nil _), HT1, HB1⟩
  case round =>
    clear HV0 HZ HT1 HB1
    obtain ⟨i, hi, rfl, st, mv, tv, HBE, HOK, HXB, HZB, HP, HT, HB⟩ := hrel
    obtain ⟨p, pc, rfl, _, _⟩ := HP.out.1.slice
    obtain ⟨q2, qc, rfl, _, _, _⟩ := HT.out.slice
    have z0 := newcell HZB.out 0 _ rfl; have z1 := newcell HZB.out 1 _ rfl; have zf := newfree HZB.out
    rcases (by omega : i < m ∨ i = m) with hlt | heq
    · obtain ⟨g, off, rfl, hc⟩ := HR.out i hlt
      have hc := Ext.use (Ext.cells hc) HB.out
      have hii : (i : Int) < m := by omega
      obtain ⟨pl, hpl⟩ : ∃ x, x = ord i := ⟨_, rfl⟩
      have HPL := Lib.hid hpl
      rw [← hpl] at hc
      clear hpl
      rcases (by omega : pl < 0 ∨ (0 ≤ pl ∧ (n : Int) ≤ pl) ∨ (0 ≤ pl ∧ pl < n)) with hh | ⟨hh, hh'⟩ | ⟨hh, hh'⟩
      · have HE := Lib.hid (show behN O n ord t0 m = none from behN_none (behN_out (by rw [← HPL.out]; omega)) hlt)
        go_wp2_with fail
        refine bodyPost_ret (v := .tuple #[.agg #[.slice none 0 0, .slice none 0 0], .bool false]) (by simp [results, Try.results7, go_sem, z0, z1, World.cell?_setCell_same, World.cell?_setCell_other]) rfl ?_
        rw [HQ.out, HE.out]
        obtain ⟨x1, x2, x3⟩ := st_ret (w := w) (T := 34) (by decide) HZB.out (by have := HWB.out; omega) HB.out (PO.nil _) (TR.nil (fun _ => s0))
        exact ⟨_, _, rfl, x1, x2, x3⟩
      · have HE := Lib.hid (show behN O n ord t0 m = none from behN_none (behN_out (by rw [← HPL.out]; omega)) hlt)
        go_wp2_with fail
        refine bodyPost_ret (v := .tuple #[.agg #[.slice none 0 0, .slice none 0 0], .bool false]) (by simp [results, Try.results7, go_sem, z0, z1, World.cell?_setCell_same, World.cell?_setCell_other]) rfl ?_
        rw [HQ.out, HE.out]
        obtain ⟨x1, x2, x3⟩ := st_ret (w := w) (T := 34) (by decide) HZB.out (by have := HWB.out; omega) HB.out (PO.nil _) (TR.nil (fun _ => s0))
        exact ⟨_, _, rfl, x1, x2, x3⟩
      obtain ⟨j, rfl⟩ : ∃ j : Nat, pl = (j : Int) := ⟨pl.toNat, by omega⟩
      have hj : j < n := by omega
      obtain ⟨og, ooff, rfl, hoc⟩ := HO.out j hj
      have hoc := hoc.below HB.out
      obtain ⟨ww, hww⟩ : ∃ x, x = O j := ⟨_, rfl⟩
      have HWW := Lib.hid hww
      have hkk := HKK.out j hj
      rw [← hww] at hoc hkk
      have HAL := Lib.hid (show ww.a.ps.length ≤ 2000 by omega)
      have HOKN := Lib.hid (HOK.out.aft ww hkk.1)
      have HAF := Lib.hid (show aftA st (O (ord i).toNat) = aftA st ww by rw [← HPL.out, Int.toNat_natCast, ← HWW.out])
      have HRG := Lib.hid (show 0 ≤ ord i ∧ ord i < n by rw [← HPL.out]; omega)
      obtain ⟨th, ⟨op, key, val, hi2, lim⟩, ⟨ak, aky, avl, an, aps⟩, fr, tt⟩ := ww
      obtain ⟨⟨⟨o0, o1, o2, o3, o4, o5, r0, r1⟩, o6, o7, o8, o9, o10, hpr⟩, o11, o12⟩ := hoc
      have HPR := Lib.hid hpr
      obtain ⟨r, rc, hrv, _, _⟩ := hpr.slice
      rw [hrv] at o10 HPR
      simp only at o0 o1 o2 o3 o4 o5 o6 o7 o8 o9 o10 o11 o12 HOKN HAF HPR HAL
      clear hww hkk hpr hrv r0 r1
      go_upto_region 8 with fail
      generalize hV : World.alloc _ _ = V
      have hbv : Below wr.heap.size wr V := by rw [← hV]; exact below_new (Below.refl _ _) _
      have vn : V.heap[wr.heap.size]? = some (.cells #[.int .i64 th, .int .i64 op, .int .i64 key, .int .i64 val, .int .i64 hi2, .int .i64 lim, .int .i64 ak, .int .i64 aky, .int .i64 avl, .int .i64 an, .slice r aps.length rc, .int .i64 fr, .int .i64 tt] 47) := by rw [← hV]; exact heap_alloc_new wr _
      have VN := Lib.hid vn
      have HP := Lib.hid (HP.out.below hbv); have HT := Lib.hid (HT.out.below hbv); have HPR := Lib.hid (HPR.out.below hbv)
      have HXB := Lib.hid (up hbv HXB.out); have HZB := Lib.hid (up hbv HZB.out); have HB := Lib.hid (below_on HB.out hbv)
      clear o0 o1 o2 o3 o4 o5 o6 o7 o8 o9 o10 o11 o12 hV hc z0 z1 zf
      have hXY : X ≠ wr.heap.size := by have := blk_lt HXB.out; intro e; have h := HXB.out; rw [e, vn] at h; simp at h
      have HXY := Lib.hid hXY
      clear hXY hbv
      generalize wr.heap.size = Y at *
      have o0 := newcell vn 0 _ rfl; have o1 := newcell vn 1 _ rfl; have o2 := newcell vn 2 _ rfl; have o3 := newcell vn 3 _ rfl; have o4 := newcell vn 4 _ rfl; have o5 := newcell vn 5 _ rfl; have o6 := newcell vn 6 _ rfl; have o7 := newcell vn 7 _ rfl; have o8 := newcell vn 8 _ rfl; have o9 := newcell vn 9 _ rfl; have o10 := newcell vn 10 _ rfl; have o12 := newcell vn 12 _ rfl
      have x0 := newcell HXB.out 0 _ rfl; have x1 := newcell HXB.out 1 _ rfl
      have RD := rtold HP.out HT.out (HOK.out.ok (by omega)) th ⟨op, key, val, hi2, lim⟩ ⟨ak, aky, avl, an, aps⟩ HPR.out HAL.out
      obtain ⟨xx, hxx⟩ : ∃ x, x = toldA st th ⟨op, key, val, hi2, lim⟩ ⟨ak, aky, avl, an, aps⟩ := ⟨_, rfl⟩
      rw [← hxx] at RD
      obtain ⟨st', bo⟩ := xx
      have HTO := Lib.hid hxx
      simp only [caV, anV, ToP] at RD
      clear hxx vn
      have RD := Lib.hid RD
      have hxl := blk_lt HXB.out; have hzl := blk_lt HZB.out; have hwl := HB.out.size
      go_wp2_with fail
      refine RD.out.mono ?_; rintro _ w2 ⟨mv2, tv2, rfl, hp2, ht2, hb2⟩
      have HXL := Lib.hid (show X < w2.heap.size ∧ B < w2.heap.size ∧ w.heap.size ≤ w2.heap.size by have := hb2.size; omega)
      clear hxl hzl hwl
      obtain ⟨p2, pc2, rfl, _, _⟩ := hp2.1.slice
      obtain ⟨q3, qc2, rfl, _, _, _⟩ := ht2.slice
      simp only
      clear RD o0 o1 o2 o3 o4 o5 o6 o7 o8 o9 o10 o12 x0 x1
      go_upto_region 9 with fail
      generalize hV : World.alloc _ _ = V2
      have hbv : Below w2.heap.size w2 V2 := by rw [← hV]; exact below_new (Below.refl _ _) _
      have vn : V2.heap[w2.heap.size]? = some (.cells #[.slice p2 st'.mp.length pc2, .slice q3 st'.n qc2] 34) := by rw [← hV]; exact heap_alloc_new w2 _
      have hbb := below_on hb2 hbv
      have HTN := Lib.hid vn
      have HP2 := Lib.hid (hp2.below hbv); have HT2 := Lib.hid (ht2.below hbv)
      have HP := Lib.hid (HP.out.below hbb); have HT := Lib.hid (HT.out.below hbb)
      have HXB := Lib.hid (up hbb HXB.out); have HZB := Lib.hid (up hbb HZB.out); have HB := Lib.hid (below_on HB.out hbb)
      have VN := Lib.hid (up hbb VN.out)
      clear hbb hbv hp2 ht2 hb2 vn hV
      have HR0 := Lib.hid (show X ≠ w2.heap.size ∧ B ≠ w2.heap.size ∧ w.heap.size ≤ w2.heap.size by have := HXL.out; omega)
      generalize w2.heap.size = R at *
      have vn := VN.out
      have o0 := newcell vn 0 _ rfl; have o1 := newcell vn 1 _ rfl; have o2 := newcell vn 2 _ rfl; have o3 := newcell vn 3 _ rfl; have o4 := newcell vn 4 _ rfl; have o5 := newcell vn 5 _ rfl; have o12 := newcell vn 12 _ rfl
      clear vn
      rcases (by omega : tt < 0 ∨ 0 ≤ tt) with hto | hto
      · have HAF2 := Lib.hid (show aftA st (O (ord i).toNat) = ((doA st th ⟨op, key, val, hi2, lim⟩).1, true) by rw [HAF.out]; unfold aftA; rw [if_pos hto])
        rw [← HAF.out, HAF2.out] at HOKN
        simp only at HOKN
        have x0 := newcell HXB.out 0 _ rfl; have x1 := newcell HXB.out 1 _ rfl
        have RD := rdo HP.out HT.out (HOK.out.ok (by omega)) th ⟨op, key, val, hi2, lim⟩
        obtain ⟨xx, hxx⟩ : ∃ x, x = doA st th ⟨op, key, val, hi2, lim⟩ := ⟨_, rfl⟩
        rw [← hxx] at RD HAF2 HOKN
        obtain ⟨st3, a3⟩ := xx
        simp only [caV, DoP] at RD
        simp only at HAF2 HOKN
        clear hxx
        have RD := Lib.hid RD
        go_wp2_with fail
        refine RD.out.mono ?_; rintro _ w4 ⟨mv4, tv4, av4, rfl, hp4, ht4, ha4, hb4⟩
        obtain ⟨p4, pc4, rfl, _, _⟩ := hp4.1.slice
        obtain ⟨q4, qc4, rfl, _, _, _⟩ := ht4.slice
        obtain ⟨r4, rc4, rfl, _, _⟩ := ha4.1.slice
        unfold anV
        simp only
        have HP4 := Lib.hid hp4; have HT4 := Lib.hid ht4
        have HXB := Lib.hid (up hb4 HXB.out); have HZB := Lib.hid (up hb4 HZB.out); have HB := Lib.hid (below_on HB.out hb4)
        have HTN := Lib.hid (up hb4 HTN.out)
        have f0 := newcell HTN.out 0 _ rfl; have f1 := newcell HTN.out 1 _ rfl; have ff := newfree HTN.out
        clear hp4 ht4 ha4 hb4 RD x0 x1 o0 o1 o2 o3 o4 o5 o12 hto
        go_upto_region 11 with fail
        generalize hW : World.setCell _ _ _ = W
        obtain ⟨B2, X2, NP2, L2, TR2⟩ := set2e (T := 34) (by decide) HB.out HR0.out.2.2 HTN.out hW
        have HB := Lib.hid B2; have HTN := Lib.hid X2
        have HXB := Lib.hid ((L2 X HR0.out.1).trans HXB.out); have HZB := Lib.hid ((L2 B HR0.out.2.1).trans HZB.out)
        have HP4 := Lib.hid (HP4.out.np NP2); have HT4 := Lib.hid (TR2 _ _ _ HT4.out)
        clear hW B2 X2 NP2 L2 TR2 f0 f1 ff
        have HE := Lib.hid (behN_yes HBE.out HRG.out HAF2.out)
        have f0 := newcell HTN.out 0 _ rfl; have f1 := newcell HTN.out 1 _ rfl
        have y0 := newcell HXB.out 0 _ rfl; have y1 := newcell HXB.out 1 _ rfl; have yf := newfree HXB.out
        go_upto_region 4 with fail
        generalize hW : World.setCell _ _ _ = W2
        obtain ⟨B2, X2, NP2, L2, TR2⟩ := set2e (T := 34) (by decide) HB.out HX.out.1 HXB.out hW
        have HB2 := Lib.hid B2; have HX2 := Lib.hid X2; have HZ2 := Lib.hid ((L2 B HX.out.2).trans HZB.out)
        have HP2 := Lib.hid (HP4.out.np NP2); have HT2 := Lib.hid (TR2 _ _ _ HT4.out)
        clear hW B2 X2 NP2 L2 TR2 f0 f1 y0 y1 yf
        go_wp2_with fail
        go_roundw
        case rel => exact ⟨i + 1, by omega, by go_num, st3, _, _, HE, HOKN, HX2, HZ2, HP2, HT2, HB2⟩
        case measure => simp [intOf]; omega
      · have HAF2 := Lib.hid (show aftA st (O (ord i).toNat) = (st', bo) by rw [HAF.out]; unfold aftA; rw [if_neg (by simpa using hto), HTO.out])
        rw [← HAF.out, HAF2.out] at HOKN
        simp only at HOKN
        clear o0 o1 o2 o3 o4 o5
        have f0 := newcell HTN.out 0 _ rfl; have f1 := newcell HTN.out 1 _ rfl
        have z0 := newcell HZB.out 0 _ rfl; have z1 := newcell HZB.out 1 _ rfl; have zf := newfree HZB.out
        have y0 := newcell HXB.out 0 _ rfl; have y1 := newcell HXB.out 1 _ rfl; have yf := newfree HXB.out
        cases bo with
        | false =>
          have HE := Lib.hid (show behN O n ord t0 m = none from behN_none (behN_no HBE.out HRG.out HAF2.out) hlt)
          go_wp2_with fail
          refine bodyPost_ret (v := .tuple #[.agg #[.slice none 0 0, .slice none 0 0], .bool false]) (by simp [results, Try.results7, go_sem, z0, z1, World.cell?_setCell_same, World.cell?_setCell_other]) rfl ?_
          rw [HQ.out, HE.out]
          obtain ⟨x1, x2, x3⟩ := st_ret (w := w) (T := 34) (by decide) HZB.out (by have := HWB.out; omega) HB.out (PO.nil _) (TR.nil (fun _ => s0))
          exact ⟨_, _, rfl, x1, x2, x3⟩
        | true =>
          have HE := Lib.hid (behN_yes HBE.out HRG.out HAF2.out)
          go_upto_region 4 with fail
          generalize hW : World.setCell _ _ _ = W2
          obtain ⟨B2, X2, NP3, L2, TR2⟩ := set2e (T := 34) (by decide) HB.out HX.out.1 HXB.out hW
          have HB2 := Lib.hid B2; have HX2 := Lib.hid X2; have HZ2 := Lib.hid ((L2 B HX.out.2).trans HZB.out)
          have HP3 := Lib.hid (HP2.out.np NP3); have HT3 := Lib.hid (TR2 _ _ _ HT2.out)
          clear hW B2 X2 NP3 L2 TR2 f0 f1 y0 y1 yf z0 z1 zf
          go_wp2_with fail
          go_roundw
          case rel => exact ⟨i + 1, by omega, by go_num, st', _, _, HE, HOKN, HX2, HZ2, HP3, HT3, HB2⟩
          case measure => simp [intOf]; omega
    · subst heq
      have x0 := newcell HXB.out 0 _ rfl; have x1 := newcell HXB.out 1 _ rfl
      go_wp2_with fail
      refine bodyPost_ret (v := .tuple #[.agg #[.slice p st.mp.length pc, .slice q2 st.n qc], .bool true]) (by simp [results, Try.results7, go_sem, z0, z1, World.cell?_setCell_same, World.cell?_setCell_other]) rfl ?_
      rw [HQ.out, HBE.out]
      obtain ⟨x1, x2, x3⟩ := st_ret (w := w) (T := 34) (by decide) HZB.out (by have := HWB.out; omega) HB.out HP.out HT.out
      exact ⟨_, _, rfl, x1, x2, x3⟩
end Go.Proofs.Ytopjnoglbncnhaa
