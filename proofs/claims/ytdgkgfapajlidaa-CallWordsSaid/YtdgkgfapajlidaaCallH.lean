/- Layer 9: the walk of CallOnes. (gen_callh.py) -/
import Derived.Test.YtdgkgfapajlidaaCallG
namespace Go.Proofs.Ytdgkgfapajlidaa
open Go.RowKit
set_option linter.unusedVariables false
set_option linter.unusedSimpArgs false

theorem wordS_in (a : Nat) (h : a < 15) : wordS (a : Int) = wordAt a := by unfold wordS; rw [if_pos (by omega)]; rfl
theorem wordS_out {i : Int} (h : ¬ (0 ≤ i ∧ i ≤ 14)) : wordS i = ByteArray.empty := if_neg h
theorem wordS_ne {a : Nat} (ha : a < 15) {j : Int} (h : (a : Int) ≠ j) : wordAt a ≠ wordS j := by
  by_cases hj : 0 ≤ j ∧ j ≤ 14
  · obtain ⟨b, rfl⟩ := Int.eq_ofNat_of_zero_le hj.1
    rw [wordS_in b (by omega)]
    intro e
    have := word_one ha (by omega) e
    omega
  · rw [wordS_out hj]; exact word_ne a ha
theorem fits_bad8 (op key hi limit : Int) : fitsB op key hi limit 8 0 0 0 [] = true := by
  unfold fitsB
  rw [show toldB 8 0 0 0 [] = true by decide]; rfl
theorem fits_may (op key hi limit k ak av n : Int) (l : PL) (hm : mayB op key hi limit = false) (h8 : k ≠ 8) : fitsB op key hi limit k ak av n l = false := by
  unfold fitsB
  rw [hm, decide_eq_false h8]; simp
theorem reads_changes {i : Int} (h : readsB i = true) : changesB i = false := by
  unfold readsB at h
  have := of_decide_eq_true h
  exact decide_eq_false (by omega)
structure Cells5 (w : World) (b : Nat) (x0 x1 x2 x3 x4 : Value) : Prop where
  c0 : w.cell? ⟨b, 0, none⟩ = some x0
  c1 : w.cell? ⟨b, 1, none⟩ = some x1
  c2 : w.cell? ⟨b, 2, none⟩ = some x2
  c3 : w.cell? ⟨b, 3, none⟩ = some x3
  c4 : w.cell? ⟨b, 4, none⟩ = some x4
theorem Cells5.below {w w' : World} {b : Nat} {x0 x1 x2 x3 x4 : Value} (h : Cells5 w b x0 x1 x2 x3 x4) (k : Below w.heap.size w w') : Cells5 w' b x0 x1 x2 x3 x4 :=
  ⟨Ext.cell ⟨w', k⟩ h.c0, Ext.cell ⟨w', k⟩ h.c1, Ext.cell ⟨w', k⟩ h.c2, Ext.cell ⟨w', k⟩ h.c3, Ext.cell ⟨w', k⟩ h.c4⟩
theorem Cells5.made {w W : World} {x0 x1 x2 x3 x4 : Value} {T : TypeId} (hW : w.alloc (.cells #[x0, x1, x2, x3, x4] T) = W) : Cells5 W w.heap.size x0 x1 x2 x3 x4 :=
  ⟨Ext.made_in hW (Below.refl _ _) 0 _ rfl, Ext.made_in hW (Below.refl _ _) 1 _ rfl, Ext.made_in hW (Below.refl _ _) 2 _ rfl, Ext.made_in hW (Below.refl _ _) 3 _ rfl, Ext.made_in hW (Below.refl _ _) 4 _ rfl⟩
set_option maxHeartbeats 8000000 in
set_option maxRecDepth 100000 in
theorem callOnes_walk (v0 v1 v2 : Value) (w : World) (s0 : Fr.okN w [.int .i64, .int .i64] v0) (s1 : Fr.okN w [.int .i64, .int .i64, .int .i64, .int .i64, .int .i64] v1) (s2 : Fr.okN w [.int .i64, .int .i64, .int .i64, .int .i64, .slice [.int .i64, .int .i64]] v2) :
    Calls Try.prog 5 #[v0, v1, v2] w fun e w' => e = .returned (.bool true) ∧ Below w.heap.size w w' := by
  obtain ⟨is, rfl, his⟩ := s0
  obtain ⟨i, j, rfl⟩ := pair_cells his
  obtain ⟨cs, rfl, hcs⟩ := s1
  obtain ⟨op, key, val, hi, limit, rfl⟩ := call_open hcs
  obtain ⟨as1, rfl, has⟩ := s2
  obtain ⟨k, ak, av, n, va, l, rfl, hP⟩ := ans_open has
  have HP := Lib.hid hP
  obtain ⟨p, c, rfl, _, _⟩ := hP.slice
  clear his hcs has hP
  show Calls Try.prog _ #[.agg #[.int .i64 i, .int .i64 j], callV op key val hi limit, ansV k ak av n (.slice p l.length c)] w _
  refine Calls.veil fun Q HQ => ?_
  have hll : l.length ≤ 1500 ∨ 1500 < l.length := by omega
  have HLL := Lib.hid hll
  clear hll
  go_enter Try.func5, Try.ntmps5
  go_wp2_with fail
  generalize hU0 : World.alloc w _ = U0
  generalize hU1 : World.alloc U0 _ = U1
  generalize hW : World.alloc U1 _ = W
  have hB0 : Below w.heap.size w U0 := by rw [← hU0]; (repeat (first | exact Below.refl _ _ | assumption | refine below_new ?_ _ | refine Below.drew ?_ | refine below_drewN ?_ _ | refine below_on ?_ (by assumption)))
  have hB1 : Below U0.heap.size U0 U1 := by rw [← hU1]; (repeat (first | exact Below.refl _ _ | assumption | refine below_new ?_ _ | refine Below.drew ?_ | refine below_drewN ?_ _ | refine below_on ?_ (by assumption)))
  have hB2 : Below U1.heap.size U1 W := by rw [← hW]; (repeat (first | exact Below.refl _ _ | assumption | refine below_new ?_ _ | refine Below.drew ?_ | refine below_drewN ?_ _ | refine below_on ?_ (by assumption)))
  have hs0 : U0.heap.size = w.heap.size + 1 := by rw [← hU0]; simp
  have hs1 : U1.heap.size = w.heap.size + 2 := by rw [← hU1]; simp [hs0]
  have HI := Lib.hid (show Cell2 W w.heap.size i j by rw [← hU0] at hB1; exact ((show Cell2 U0 w.heap.size i j by rw [← hU0]; exact Cell2.new w i j _).below (by rw [← hU0]; exact hB1)).below hB2)
  have HC : Hid (Cells5 W (w.heap.size + 1) (.int .i64 op) (.int .i64 key) (.int .i64 val) (.int .i64 hi) (.int .i64 limit)) := by rw [← hs0]; exact Lib.hid ((Cells5.made hU1).below hB2)
  have HA : Hid (Cells5 W (w.heap.size + 2) (.int .i64 k) (.int .i64 ak) (.int .i64 av) (.int .i64 n) (.slice p l.length c)) := by rw [← hs1]; exact Lib.hid (Cells5.made hW)
  have HB := Lib.hid (below_on (below_on hB0 hB1) hB2)
  have i0 := HI.out.c0; have i1 := HI.out.c1
  clear hU0 hU1 hW hB0 hB1 hB2 hs0 hs1
  go_wp2_with fail
  go_quiet (fail)
  have HB := Lib.hid (below_drewN HB.out nq)
  have HC := Lib.hid (show Cells5 (W.drewN nq) _ _ _ _ _ _ from HC.out.below (below_drewN (Below.refl _ _) nq))
  have HA := Lib.hid (show Cells5 (W.drewN nq) _ _ _ _ _ _ from HA.out.below (below_drewN (Below.refl _ _) nq))
  clear i0 i1 HI
  generalize W.drewN nq = V at *
  skip
  by_cases hin : 0 ≤ i ∧ i ≤ 14
  · obtain ⟨a, rfl⟩ := Int.eq_ofNat_of_zero_le hin.1
    have ha : a < 15 := by omega
    have HWA := Lib.hid (wordS_in a ha)
    have HWN := Lib.hid (word_ne a ha)
    have HAL := Lib.hid ha
    clear hin ha
    generalize hwa : wordAt a = wa at HWA HWN
    have HWE := Lib.hid hwa
    clear hwa
    have t1 : (wa.toList == ([] : List UInt8)) = false := by
      rw [beq_eq_false_iff_ne]; intro e; exact HWN.out (str_inj (e.trans (by rw [ByteArray.toList_eq]; rfl)))
    have t2 : wa.toList.isEmpty = false := by
      cases hh : wa.toList with
      | nil => rw [hh] at t1; simp at t1
      | cons _ _ => rfl
    have t3 : wa.toList ≠ [] := by intro e; rw [e] at t1; simp at t1
    have T := Lib.hid (And.intro t1 (And.intro t2 t3))
    by_cases hj : (a : Int) = j
    · subst hj
      have hw : (wa.toList == wa.toList) = true := by simp
      go_wp2_with fail
      refine (cword a V).mono ?_; rintro _ w1 ⟨rfl, hb⟩
      rw [HWA.out]
      have HB1 := Lib.hid (below_on HB.out hb)
      have HX := Lib.hid hb
      clear hb
      go_wp2_with fail
      refine (cword a w1).mono ?_; rintro _ w2 ⟨rfl, hb⟩
      rw [HWA.out]
      have HX := Lib.hid (below_on HX.out hb)
      clear hb
      go_wp2_with fail
      refine (cword a w2).mono ?_; rintro _ w3 ⟨rfl, hb⟩
      rw [HWA.out]
      have HX := Lib.hid (below_on HX.out hb)
      clear hb
      go_wp2_with fail
      refine (cword a w3).mono ?_; rintro _ w4 ⟨rfl, hb⟩
      rw [HWA.out]
      have HX := Lib.hid (below_on HX.out hb)
      clear hb
      go_wp2_with fail
      refine (cword a w4).mono ?_; rintro _ w5 ⟨rfl, hb⟩
      rw [HWA.out]
      have HX := Lib.hid (below_on HX.out hb)
      clear hb
      go_wp2_with fail
      refine (cop wa w5).mono ?_; rintro _ w6 ⟨rfl, hb⟩
      rw [op_at HAL.out HWE.out]
      have HX := Lib.hid (below_on HX.out hb)
      clear hb t1 t2 t3
      have HBx := Lib.hid (below_on HB.out HX.out)
      have HCx := Lib.hid (HC.out.below HX.out); have HAx := Lib.hid (HA.out.below HX.out)
      simp only [Option.getD_some, Option.isSome_some]
      obtain ⟨c0, c1, c2, c3, c4⟩ := HCx.out
      obtain ⟨a0, a1, a2, a3, a4⟩ := HAx.out
      rcases HLL.out with hll | hll
      · go_wp2_with fail
        refine (cfits op key val hi limit 8 0 0 0 _ [] _ .nil (by decide)).mono ?_; rintro _ wt ⟨rfl, hbt⟩
        rw [fits_bad8]
        have HBt := Lib.hid (below_on HBx.out hbt)
        have HCt := Lib.hid (HCx.out.below hbt); have HAt := Lib.hid (HAx.out.below hbt)
        clear hbt c0 c1 c2 c3 c4 a0 a1 a2 a3 a4
        obtain ⟨c0, c1, c2, c3, c4⟩ := HCt.out
        obtain ⟨a0, a1, a2, a3, a4⟩ := HAt.out
        go_wp2_with fail
        refine (cmay op key val hi limit wt).mono ?_; rintro _ wm ⟨rfl, hbm⟩
        have HBm := Lib.hid (below_on HBt.out hbm)
        have HCm := Lib.hid (HCt.out.below hbm); have HAm := Lib.hid (HAt.out.below hbm)
        clear hbm c0 c1 c2 c3 c4 a0 a1 a2 a3 a4
        obtain ⟨c0, c1, c2, c3, c4⟩ := HCm.out
        obtain ⟨a0, a1, a2, a3, a4⟩ := HAm.out
        cases hm : mayB op key hi limit
        · have HM := Lib.hid hm
          clear hm
          by_cases h8 : k = 8
          · subst h8
            have HBc := HBm
            cases hr : readsB a
            · have HR := Lib.hid hr
              clear hr
              go_wp2_with fail
              refine (creads a _).mono ?_; rintro _ wr ⟨rfl, hbr⟩
              rw [HR.out]
              have HBc := Lib.hid (below_on HBc.out hbr)
              clear hbr
              go_wp2_with fail
              refine (lives9_calls _).mono ?_; rintro _ wz ⟨rfl, hbz⟩
              have HBz := Lib.hid (below_on HBc.out hbz)
              clear hbz
              go_wp2_with fail
              (try go_ret)
              rw [HQ.out]
              exact ⟨ret_bool rfl, HBz.out⟩
            · have HR := Lib.hid hr
              clear hr
              go_wp2_with fail
              refine (creads a _).mono ?_; rintro _ wr ⟨rfl, hbr⟩
              rw [HR.out]
              have HBc := Lib.hid (below_on HBc.out hbr)
              clear hbr
              go_wp2_with fail
              refine (cchanges a _).mono ?_; rintro _ wr ⟨rfl, hbr⟩
              rw [reads_changes HR.out]
              have HBc := Lib.hid (below_on HBc.out hbr)
              clear hbr
              go_wp2_with fail
              refine (lives9_calls _).mono ?_; rintro _ wz ⟨rfl, hbz⟩
              have HBz := Lib.hid (below_on HBc.out hbz)
              clear hbz
              go_wp2_with fail
              (try go_ret)
              rw [HQ.out]
              exact ⟨ret_bool rfl, HBz.out⟩
          · have z8 := neq_b h8
            have H8 := Lib.hid h8
            clear h8
            go_wp2_with fail
            refine (cfits op key val hi limit k ak av n _ l wm (HP.out.below HBm.out) (by omega)).mono ?_; rintro _ wf ⟨rfl, hbf⟩
            rw [fits_may _ _ _ _ _ _ _ _ _ HM.out H8.out]
            have HBc := Lib.hid (below_on HBm.out hbf)
            clear hbf c0 c1 c2 c3 c4 a0 a1 a2 a3 a4
            cases hr : readsB a
            · have HR := Lib.hid hr
              clear hr
              go_wp2_with fail
              refine (creads a _).mono ?_; rintro _ wr ⟨rfl, hbr⟩
              rw [HR.out]
              have HBc := Lib.hid (below_on HBc.out hbr)
              clear hbr
              go_wp2_with fail
              refine (lives9_calls _).mono ?_; rintro _ wz ⟨rfl, hbz⟩
              have HBz := Lib.hid (below_on HBc.out hbz)
              clear hbz
              go_wp2_with fail
              (try go_ret)
              rw [HQ.out]
              exact ⟨ret_bool rfl, HBz.out⟩
            · have HR := Lib.hid hr
              clear hr
              go_wp2_with fail
              refine (creads a _).mono ?_; rintro _ wr ⟨rfl, hbr⟩
              rw [HR.out]
              have HBc := Lib.hid (below_on HBc.out hbr)
              clear hbr
              go_wp2_with fail
              refine (cchanges a _).mono ?_; rintro _ wr ⟨rfl, hbr⟩
              rw [reads_changes HR.out]
              have HBc := Lib.hid (below_on HBc.out hbr)
              clear hbr
              go_wp2_with fail
              refine (lives9_calls _).mono ?_; rintro _ wz ⟨rfl, hbz⟩
              have HBz := Lib.hid (below_on HBc.out hbz)
              clear hbz
              go_wp2_with fail
              (try go_ret)
              rw [HQ.out]
              exact ⟨ret_bool rfl, HBz.out⟩
        · have HM := Lib.hid hm
          clear hm
          have HBc := HBm
          cases hr : readsB a
          · have HR := Lib.hid hr
            clear hr
            go_wp2_with fail
            refine (creads a _).mono ?_; rintro _ wr ⟨rfl, hbr⟩
            rw [HR.out]
            have HBc := Lib.hid (below_on HBc.out hbr)
            clear hbr
            go_wp2_with fail
            refine (lives9_calls _).mono ?_; rintro _ wz ⟨rfl, hbz⟩
            have HBz := Lib.hid (below_on HBc.out hbz)
            clear hbz
            go_wp2_with fail
            (try go_ret)
            rw [HQ.out]
            exact ⟨ret_bool rfl, HBz.out⟩
          · have HR := Lib.hid hr
            clear hr
            go_wp2_with fail
            refine (creads a _).mono ?_; rintro _ wr ⟨rfl, hbr⟩
            rw [HR.out]
            have HBc := Lib.hid (below_on HBc.out hbr)
            clear hbr
            go_wp2_with fail
            refine (cchanges a _).mono ?_; rintro _ wr ⟨rfl, hbr⟩
            rw [reads_changes HR.out]
            have HBc := Lib.hid (below_on HBc.out hbr)
            clear hbr
            go_wp2_with fail
            refine (lives9_calls _).mono ?_; rintro _ wz ⟨rfl, hbz⟩
            have HBz := Lib.hid (below_on HBc.out hbz)
            clear hbz
            go_wp2_with fail
            (try go_ret)
            rw [HQ.out]
            exact ⟨ret_bool rfl, HBz.out⟩
      · have HBc := HBx
        go_wp2_with fail
        refine (lives9_calls _).mono ?_; rintro _ wz ⟨rfl, hbz⟩
        have HBz := Lib.hid (below_on HBc.out hbz)
        clear hbz
        go_wp2_with fail
        (try go_ret)
        rw [HQ.out]
        exact ⟨ret_bool rfl, HBz.out⟩
    · have hj' := neq_b hj
      have HJ := Lib.hid (show wa ≠ wordS j by rw [← HWE.out]; exact wordS_ne HAL.out hj)
      generalize hwj : wordS j = wj at HJ
      have HWJ := Lib.hid hwj
      clear hwj
      have hw := str_f HJ.out
      clear hj
      go_wp2_with fail
      refine (cword a V).mono ?_; rintro _ w1 ⟨rfl, hb⟩
      rw [HWA.out]
      have HX := Lib.hid hb
      clear hb
      go_wp2_with fail
      refine (cword a w1).mono ?_; rintro _ w2 ⟨rfl, hb⟩
      rw [HWA.out]
      have HX := Lib.hid (below_on HX.out hb)
      clear hb
      go_wp2_with fail
      refine (cword j w2).mono ?_; rintro _ w3 ⟨rfl, hb⟩
      rw [HWJ.out]
      have HX := Lib.hid (below_on HX.out hb)
      clear hb
      go_wp2_with fail
      refine (cword a w3).mono ?_; rintro _ w4 ⟨rfl, hb⟩
      rw [HWA.out]
      have HX := Lib.hid (below_on HX.out hb)
      clear hb
      go_wp2_with fail
      refine (cword a w4).mono ?_; rintro _ w5 ⟨rfl, hb⟩
      rw [HWA.out]
      have HX := Lib.hid (below_on HX.out hb)
      clear hb
      go_wp2_with fail
      refine (cop wa w5).mono ?_; rintro _ w6 ⟨rfl, hb⟩
      rw [op_at HAL.out HWE.out]
      have HX := Lib.hid (below_on HX.out hb)
      clear hb t1 t2 t3
      have HBx := Lib.hid (below_on HB.out HX.out)
      have HCx := Lib.hid (HC.out.below HX.out); have HAx := Lib.hid (HA.out.below HX.out)
      simp only [Option.getD_some, Option.isSome_some]
      obtain ⟨c0, c1, c2, c3, c4⟩ := HCx.out
      obtain ⟨a0, a1, a2, a3, a4⟩ := HAx.out
      rcases HLL.out with hll | hll
      · go_wp2_with fail
        refine (cfits op key val hi limit 8 0 0 0 _ [] _ .nil (by decide)).mono ?_; rintro _ wt ⟨rfl, hbt⟩
        rw [fits_bad8]
        have HBt := Lib.hid (below_on HBx.out hbt)
        have HCt := Lib.hid (HCx.out.below hbt); have HAt := Lib.hid (HAx.out.below hbt)
        clear hbt c0 c1 c2 c3 c4 a0 a1 a2 a3 a4
        obtain ⟨c0, c1, c2, c3, c4⟩ := HCt.out
        obtain ⟨a0, a1, a2, a3, a4⟩ := HAt.out
        go_wp2_with fail
        refine (cmay op key val hi limit wt).mono ?_; rintro _ wm ⟨rfl, hbm⟩
        have HBm := Lib.hid (below_on HBt.out hbm)
        have HCm := Lib.hid (HCt.out.below hbm); have HAm := Lib.hid (HAt.out.below hbm)
        clear hbm c0 c1 c2 c3 c4 a0 a1 a2 a3 a4
        obtain ⟨c0, c1, c2, c3, c4⟩ := HCm.out
        obtain ⟨a0, a1, a2, a3, a4⟩ := HAm.out
        cases hm : mayB op key hi limit
        · have HM := Lib.hid hm
          clear hm
          by_cases h8 : k = 8
          · subst h8
            have HBc := HBm
            cases hr : readsB a
            · have HR := Lib.hid hr
              clear hr
              go_wp2_with fail
              refine (creads a _).mono ?_; rintro _ wr ⟨rfl, hbr⟩
              rw [HR.out]
              have HBc := Lib.hid (below_on HBc.out hbr)
              clear hbr
              go_wp2_with fail
              refine (lives9_calls _).mono ?_; rintro _ wz ⟨rfl, hbz⟩
              have HBz := Lib.hid (below_on HBc.out hbz)
              clear hbz
              go_wp2_with fail
              (try go_ret)
              rw [HQ.out]
              exact ⟨ret_bool rfl, HBz.out⟩
            · have HR := Lib.hid hr
              clear hr
              go_wp2_with fail
              refine (creads a _).mono ?_; rintro _ wr ⟨rfl, hbr⟩
              rw [HR.out]
              have HBc := Lib.hid (below_on HBc.out hbr)
              clear hbr
              go_wp2_with fail
              refine (cchanges a _).mono ?_; rintro _ wr ⟨rfl, hbr⟩
              rw [reads_changes HR.out]
              have HBc := Lib.hid (below_on HBc.out hbr)
              clear hbr
              go_wp2_with fail
              refine (lives9_calls _).mono ?_; rintro _ wz ⟨rfl, hbz⟩
              have HBz := Lib.hid (below_on HBc.out hbz)
              clear hbz
              go_wp2_with fail
              (try go_ret)
              rw [HQ.out]
              exact ⟨ret_bool rfl, HBz.out⟩
          · have z8 := neq_b h8
            have H8 := Lib.hid h8
            clear h8
            go_wp2_with fail
            refine (cfits op key val hi limit k ak av n _ l wm (HP.out.below HBm.out) (by omega)).mono ?_; rintro _ wf ⟨rfl, hbf⟩
            rw [fits_may _ _ _ _ _ _ _ _ _ HM.out H8.out]
            have HBc := Lib.hid (below_on HBm.out hbf)
            clear hbf c0 c1 c2 c3 c4 a0 a1 a2 a3 a4
            cases hr : readsB a
            · have HR := Lib.hid hr
              clear hr
              go_wp2_with fail
              refine (creads a _).mono ?_; rintro _ wr ⟨rfl, hbr⟩
              rw [HR.out]
              have HBc := Lib.hid (below_on HBc.out hbr)
              clear hbr
              go_wp2_with fail
              refine (lives9_calls _).mono ?_; rintro _ wz ⟨rfl, hbz⟩
              have HBz := Lib.hid (below_on HBc.out hbz)
              clear hbz
              go_wp2_with fail
              (try go_ret)
              rw [HQ.out]
              exact ⟨ret_bool rfl, HBz.out⟩
            · have HR := Lib.hid hr
              clear hr
              go_wp2_with fail
              refine (creads a _).mono ?_; rintro _ wr ⟨rfl, hbr⟩
              rw [HR.out]
              have HBc := Lib.hid (below_on HBc.out hbr)
              clear hbr
              go_wp2_with fail
              refine (cchanges a _).mono ?_; rintro _ wr ⟨rfl, hbr⟩
              rw [reads_changes HR.out]
              have HBc := Lib.hid (below_on HBc.out hbr)
              clear hbr
              go_wp2_with fail
              refine (lives9_calls _).mono ?_; rintro _ wz ⟨rfl, hbz⟩
              have HBz := Lib.hid (below_on HBc.out hbz)
              clear hbz
              go_wp2_with fail
              (try go_ret)
              rw [HQ.out]
              exact ⟨ret_bool rfl, HBz.out⟩
        · have HM := Lib.hid hm
          clear hm
          have HBc := HBm
          cases hr : readsB a
          · have HR := Lib.hid hr
            clear hr
            go_wp2_with fail
            refine (creads a _).mono ?_; rintro _ wr ⟨rfl, hbr⟩
            rw [HR.out]
            have HBc := Lib.hid (below_on HBc.out hbr)
            clear hbr
            go_wp2_with fail
            refine (lives9_calls _).mono ?_; rintro _ wz ⟨rfl, hbz⟩
            have HBz := Lib.hid (below_on HBc.out hbz)
            clear hbz
            go_wp2_with fail
            (try go_ret)
            rw [HQ.out]
            exact ⟨ret_bool rfl, HBz.out⟩
          · have HR := Lib.hid hr
            clear hr
            go_wp2_with fail
            refine (creads a _).mono ?_; rintro _ wr ⟨rfl, hbr⟩
            rw [HR.out]
            have HBc := Lib.hid (below_on HBc.out hbr)
            clear hbr
            go_wp2_with fail
            refine (cchanges a _).mono ?_; rintro _ wr ⟨rfl, hbr⟩
            rw [reads_changes HR.out]
            have HBc := Lib.hid (below_on HBc.out hbr)
            clear hbr
            go_wp2_with fail
            refine (lives9_calls _).mono ?_; rintro _ wz ⟨rfl, hbz⟩
            have HBz := Lib.hid (below_on HBc.out hbz)
            clear hbz
            go_wp2_with fail
            (try go_ret)
            rw [HQ.out]
            exact ⟨ret_bool rfl, HBz.out⟩
      · have HBc := HBx
        go_wp2_with fail
        refine (lives9_calls _).mono ?_; rintro _ wz ⟨rfl, hbz⟩
        have HBz := Lib.hid (below_on HBc.out hbz)
        clear hbz
        go_wp2_with fail
        (try go_ret)
        rw [HQ.out]
        exact ⟨ret_bool rfl, HBz.out⟩
  · have HWA := Lib.hid (wordS_out hin)
    clear hin
    go_wp2_with fail
    refine (cword i V).mono ?_; rintro _ w1 ⟨rfl, hb⟩
    rw [HWA.out]
    have HX := Lib.hid hb
    clear hb
    go_wp2_with fail
    refine (cword i w1).mono ?_; rintro _ w2 ⟨rfl, hb⟩
    rw [HWA.out]
    have HX := Lib.hid (below_on HX.out hb)
    clear hb
    have HBx := Lib.hid (below_on HB.out HX.out)
    have HCx := Lib.hid (HC.out.below HX.out); have HAx := Lib.hid (HA.out.below HX.out)
    obtain ⟨c0, c1, c2, c3, c4⟩ := HCx.out
    obtain ⟨a0, a1, a2, a3, a4⟩ := HAx.out
    rcases HLL.out with hll | hll
    · go_wp2_with fail
      refine (cfits op key val hi limit 8 0 0 0 _ [] _ .nil (by decide)).mono ?_; rintro _ wt ⟨rfl, hbt⟩
      rw [fits_bad8]
      have HBt := Lib.hid (below_on HBx.out hbt)
      have HCt := Lib.hid (HCx.out.below hbt); have HAt := Lib.hid (HAx.out.below hbt)
      clear hbt c0 c1 c2 c3 c4 a0 a1 a2 a3 a4
      obtain ⟨c0, c1, c2, c3, c4⟩ := HCt.out
      obtain ⟨a0, a1, a2, a3, a4⟩ := HAt.out
      go_wp2_with fail
      refine (cmay op key val hi limit wt).mono ?_; rintro _ wm ⟨rfl, hbm⟩
      have HBm := Lib.hid (below_on HBt.out hbm)
      have HCm := Lib.hid (HCt.out.below hbm); have HAm := Lib.hid (HAt.out.below hbm)
      clear hbm c0 c1 c2 c3 c4 a0 a1 a2 a3 a4
      obtain ⟨c0, c1, c2, c3, c4⟩ := HCm.out
      obtain ⟨a0, a1, a2, a3, a4⟩ := HAm.out
      cases hm : mayB op key hi limit
      · have HM := Lib.hid hm
        clear hm
        by_cases h8 : k = 8
        · subst h8
          have HBc := HBm
          cases hr : readsB i
          · have HR := Lib.hid hr
            clear hr
            go_wp2_with fail
            refine (creads i _).mono ?_; rintro _ wr ⟨rfl, hbr⟩
            rw [HR.out]
            have HBc := Lib.hid (below_on HBc.out hbr)
            clear hbr
            go_wp2_with fail
            refine (lives9_calls _).mono ?_; rintro _ wz ⟨rfl, hbz⟩
            have HBz := Lib.hid (below_on HBc.out hbz)
            clear hbz
            go_wp2_with fail
            (try go_ret)
            rw [HQ.out]
            exact ⟨ret_bool rfl, HBz.out⟩
          · have HR := Lib.hid hr
            clear hr
            go_wp2_with fail
            refine (creads i _).mono ?_; rintro _ wr ⟨rfl, hbr⟩
            rw [HR.out]
            have HBc := Lib.hid (below_on HBc.out hbr)
            clear hbr
            go_wp2_with fail
            refine (cchanges i _).mono ?_; rintro _ wr ⟨rfl, hbr⟩
            rw [reads_changes HR.out]
            have HBc := Lib.hid (below_on HBc.out hbr)
            clear hbr
            go_wp2_with fail
            refine (lives9_calls _).mono ?_; rintro _ wz ⟨rfl, hbz⟩
            have HBz := Lib.hid (below_on HBc.out hbz)
            clear hbz
            go_wp2_with fail
            (try go_ret)
            rw [HQ.out]
            exact ⟨ret_bool rfl, HBz.out⟩
        · have z8 := neq_b h8
          have H8 := Lib.hid h8
          clear h8
          go_wp2_with fail
          refine (cfits op key val hi limit k ak av n _ l wm (HP.out.below HBm.out) (by omega)).mono ?_; rintro _ wf ⟨rfl, hbf⟩
          rw [fits_may _ _ _ _ _ _ _ _ _ HM.out H8.out]
          have HBc := Lib.hid (below_on HBm.out hbf)
          clear hbf c0 c1 c2 c3 c4 a0 a1 a2 a3 a4
          cases hr : readsB i
          · have HR := Lib.hid hr
            clear hr
            go_wp2_with fail
            refine (creads i _).mono ?_; rintro _ wr ⟨rfl, hbr⟩
            rw [HR.out]
            have HBc := Lib.hid (below_on HBc.out hbr)
            clear hbr
            go_wp2_with fail
            refine (lives9_calls _).mono ?_; rintro _ wz ⟨rfl, hbz⟩
            have HBz := Lib.hid (below_on HBc.out hbz)
            clear hbz
            go_wp2_with fail
            (try go_ret)
            rw [HQ.out]
            exact ⟨ret_bool rfl, HBz.out⟩
          · have HR := Lib.hid hr
            clear hr
            go_wp2_with fail
            refine (creads i _).mono ?_; rintro _ wr ⟨rfl, hbr⟩
            rw [HR.out]
            have HBc := Lib.hid (below_on HBc.out hbr)
            clear hbr
            go_wp2_with fail
            refine (cchanges i _).mono ?_; rintro _ wr ⟨rfl, hbr⟩
            rw [reads_changes HR.out]
            have HBc := Lib.hid (below_on HBc.out hbr)
            clear hbr
            go_wp2_with fail
            refine (lives9_calls _).mono ?_; rintro _ wz ⟨rfl, hbz⟩
            have HBz := Lib.hid (below_on HBc.out hbz)
            clear hbz
            go_wp2_with fail
            (try go_ret)
            rw [HQ.out]
            exact ⟨ret_bool rfl, HBz.out⟩
      · have HM := Lib.hid hm
        clear hm
        have HBc := HBm
        cases hr : readsB i
        · have HR := Lib.hid hr
          clear hr
          go_wp2_with fail
          refine (creads i _).mono ?_; rintro _ wr ⟨rfl, hbr⟩
          rw [HR.out]
          have HBc := Lib.hid (below_on HBc.out hbr)
          clear hbr
          go_wp2_with fail
          refine (lives9_calls _).mono ?_; rintro _ wz ⟨rfl, hbz⟩
          have HBz := Lib.hid (below_on HBc.out hbz)
          clear hbz
          go_wp2_with fail
          (try go_ret)
          rw [HQ.out]
          exact ⟨ret_bool rfl, HBz.out⟩
        · have HR := Lib.hid hr
          clear hr
          go_wp2_with fail
          refine (creads i _).mono ?_; rintro _ wr ⟨rfl, hbr⟩
          rw [HR.out]
          have HBc := Lib.hid (below_on HBc.out hbr)
          clear hbr
          go_wp2_with fail
          refine (cchanges i _).mono ?_; rintro _ wr ⟨rfl, hbr⟩
          rw [reads_changes HR.out]
          have HBc := Lib.hid (below_on HBc.out hbr)
          clear hbr
          go_wp2_with fail
          refine (lives9_calls _).mono ?_; rintro _ wz ⟨rfl, hbz⟩
          have HBz := Lib.hid (below_on HBc.out hbz)
          clear hbz
          go_wp2_with fail
          (try go_ret)
          rw [HQ.out]
          exact ⟨ret_bool rfl, HBz.out⟩
    · have HBc := HBx
      go_wp2_with fail
      refine (lives9_calls _).mono ?_; rintro _ wz ⟨rfl, hbz⟩
      have HBz := Lib.hid (below_on HBc.out hbz)
      clear hbz
      go_wp2_with fail
      (try go_ret)
      rw [HQ.out]
      exact ⟨ret_bool rfl, HBz.out⟩
end Go.Proofs.Ytdgkgfapajlidaa
