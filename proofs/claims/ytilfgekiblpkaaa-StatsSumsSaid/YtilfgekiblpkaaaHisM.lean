/- Layer 11: the reference's Opers. -/
import Derived.Test.YtilfgekiblpkaaaHisK
import Derived.Test.YtilfgekiblpkaaaHisL
import Derived.Test.YtilfgekiblpkaaaHisN
import Derived.Test.YtilfgekiblpkaaaMix
namespace Go.Proofs.Ytilfgekiblpkaaa
open Go.RowKit
set_option linter.unusedVariables false
set_option linter.unusedSimpArgs false
theorem Fst.hit' {L : Nat → Ev} {t : Int} {k n : Nat} {a : An} {z : Int} (h : Fst L t k n a z) (hk : k < n) (h0 : 0 < k) (hm : (L k).th = t) (hb : (L k).bk = true) : Fst L t (k - 1) n (L k).an (k : Int) := by
  obtain ⟨j, rfl⟩ : ∃ j, k = j + 1 := ⟨k - 1, by omega⟩
  exact h.hit hk ⟨hm, hb⟩
theorem Fst.miss' {L : Nat → Ev} {t : Int} {k n : Nat} {a : An} {z : Int} (h : Fst L t k n a z) (h0 : 0 < k) (hm : ¬ ((L k).th = t ∧ (L k).bk = true)) : Fst L t (k - 1) n a z := by
  obtain ⟨j, rfl⟩ : ∃ j, k = j + 1 := ⟨k - 1, by omega⟩
  exact h.miss hm
set_option maxHeartbeats 8000000 in
theorem ropers (n : Nat) (L : Nat → Ev) (v : Value) (w : World) (h : VR w v n L) (hn : n ≤ 1000) (hm : mayH L n = true) : Calls Try.prog 9 #[v] w fun e w' => ∃ (v' : Value) (l : List (Opr × Value)), e = .returned v' ∧ l.map (·.1) = (stO L n).1 ∧ OwnO w' w.heap.size v' l ∧ (∀ x ∈ l, PR w x.2 x.1.an.ps) ∧ Below w.heap.size w w' := by
  refine Calls.veil fun Q HQ => ?_
  have HV := Lib.hid h
  obtain ⟨p, c, rfl, a1, a2, A3⟩ := h.parts
  clear h
  have HNN := Lib.hid hn
  have RM := Lib.hid (rmay11 n L _ w HV.out hn)
  rw [hm] at RM
  have HREF := Lib.hid (oref hm n (Nat.le_refl _))
  have HM := Lib.hid hm
  have HCS := Lib.hid (stO_cnt L)
  have HCE := Lib.hid (show (stO L n).1.length ≤ n from stO_len L n)
  have HCI := Lib.hid (show ∀ i, (stO L i).1.length ≤ i from stO_len L)
  clear hm hn
  go_enter Try.func9, Try.ntmps9
  go_wp2_with fail
  refine RM.out.mono ?_; rintro _ w1 ⟨rfl, hb1⟩
  have HB1 := Lib.hid hb1
  clear hb1 RM
  go_wp2_with fail
  go_loopw [3, 4] (fun ov iv wr => ∃ i : Nat, i ≤ n ∧ iv = .int .i64 i ∧ ∃ l : List (Opr × Value), Hid (l.map (·.1) = (stO L n).1.take (stO L i).1.length) ∧ Hid (l.length ≤ i) ∧ Hid (OwnO wr w.heap.size ov l) ∧ Hid (∀ x ∈ l, PR w x.2 x.1.an.ps) ∧ Below w.heap.size w wr)
    (fun _ iv _ => n - (intOf iv).toNat)
  case atStart => exact ⟨0, by omega, rfl, [], Lib.hid rfl, Lib.hid (Nat.le_refl _), Lib.hid ⟨rfl, .inl ⟨rfl, rfl⟩⟩, Lib.hid (by simp), HB1.out⟩
  case round =>
    obtain ⟨i, hi, rfl, l, HL, HLL, HO, HP, hbx⟩ := hrel
    have HX := Lib.hid hbx
    clear hbx
    rcases (by omega : i < n ∨ i = n) with hlt | heq
    · obtain ⟨g, o, rfl, hA⟩ := A3.out (by omega)
      have HA := Lib.hid hA
      obtain ⟨pv, hC, hPR⟩ := (hA.below HX.out).cells i hlt
      clear hPR hA
      have HRI := Lib.hid (HREF.out i hlt)
      have HCN := Lib.hid (HCS.out i)
      have y0 := hC.c0; have y1 := hC.c1; have y2 := hC.c2; have y3 := hC.c3; have y4 := hC.c4; have y5 := hC.c5; have y6 := hC.c6
      clear hC
      generalize hth : (L i).th = th at *
      generalize hca : (L i).ca = ca at *
      generalize hbk : (L i).bk = bk at *
      obtain ⟨op, key, val, hi2, lim⟩ := ca
      simp only at y2 y3 y4 y5 y6
      have HTC := Lib.hid (And.intro hth (And.intro hca hbk))
      clear hth hca hbk
      cases bk
      · have y0 := Ext.cells y0; have y2 := Ext.cells y2; have y3 := Ext.cells y3; have y4 := Ext.cells y4; have y5 := Ext.cells y5; have y6 := Ext.cells y6
        go_upto_region 8 with fail
        (with_reducible refine wp_region_mix (fun w' => ∃ y : Ext wr, w' = y.w) ?_ ?_ ?_ ?_; kernel_rfl; kernel_rfl; exact ⟨⟨wr.drew, (Below.refl _ _).drew⟩, rfl⟩)
        repeat (first | ((with_reducible refine mix_skip (by kernel_rfl) ?_); go_big_quiet_skip; (with_reducible refine mix_on ?_)) | ((with_reducible refine mix_plain (by kernel_rfl) ?_); (first | go_big_quiet_skip | (go_big_quiet_want; go_big_quiet_op; go_big_quiet_on)); (with_reducible refine mix_on ?_)))
        ((with_reducible refine wpMix_chain (by kernel_rfl) (by kernel_rfl) (fun K HK => ?_)); go_step)
        generalize hV : World.drew _ = V
        have HVN := Lib.hid (show R13 V wr.heap.size o0 (.slice none 0 0) by rw [← hV]; exact heap_alloc_new wr _)
        have HVB := Lib.hid (show Below wr.heap.size wr V by rw [← hV]; exact ((Below.refl _ _).alloc (Nat.le_refl _) _).drew)
        clear hV
        refine HK.out _ _ ⟨⟨V, HVB.out⟩, rfl⟩ ?_
        clear HK K
        obtain ⟨e0, e1, e2, e3, e4, e5, e6, e7, e8, e9, e10, e11, e12⟩ := HVN.out.cells
        simp only [o0, Nat.zero_add] at e0 e1 e2 e3 e4 e5 e6 e7 e8 e9 e10 e11 e12
        have ff := HVN.out.free
        obtain ⟨q, hq⟩ : ∃ q, q = wr.heap.size := ⟨_, rfl⟩
        rw [← hq] at HVN e0 e1 e2 e3 e4 e5 e6 e7 e8 e9 e10 e11 e12 ff ⊢
        have HQE := Lib.hid hq
        clear hq
        repeat (first | ((with_reducible refine mix_skip (by kernel_rfl) ?_); go_big_quiet_skip; (with_reducible refine mix_on ?_)) | ((with_reducible refine mix_plain (by kernel_rfl) ?_); (first | go_big_quiet_skip | (go_big_quiet_want; go_big_quiet_op; go_big_quiet_on)); (with_reducible refine mix_on ?_)))
        ((with_reducible refine wpMix_chain (by kernel_rfl) (by kernel_rfl) (fun K HK => ?_)); go_step)
        generalize hU : World.setCell _ _ _ = U
        have HR := Lib.hid (show R13 U q ⟨th, ⟨op, key, val, hi2, lim⟩, an0, (i : Int), -1⟩ (.slice none 0 0) by rw [← hU]; exact HVN.out.full ⟨th, ⟨op, key, val, hi2, lim⟩, an0, (i : Int), -1⟩ _)
        have HUB := Lib.hid (show Below wr.heap.size wr U by
          have hqq : wr.heap.size ≤ q := Nat.le_of_eq HQE.out.symm
          rw [← hU]; exact (((((((((((((HVB.out.setCell (p := ⟨q, 0, none⟩) hqq _).setCell (p := ⟨q, 1, none⟩) hqq _).setCell (p := ⟨q, 2, none⟩) hqq _).setCell (p := ⟨q, 3, none⟩) hqq _).setCell (p := ⟨q, 4, none⟩) hqq _).setCell (p := ⟨q, 5, none⟩) hqq _).setCell (p := ⟨q, 6, none⟩) hqq _).setCell (p := ⟨q, 7, none⟩) hqq _).setCell (p := ⟨q, 8, none⟩) hqq _).setCell (p := ⟨q, 9, none⟩) hqq _).setCell (p := ⟨q, 10, none⟩) hqq _).setCell (p := ⟨q, 11, none⟩) hqq _).setCell (p := ⟨q, 12, none⟩) hqq _))
        clear hU
        refine HK.out _ _ ⟨⟨U, HUB.out⟩, rfl⟩ ?_
        clear HK K e0 e1 e2 e3 e4 e5 e6 e7 e8 e9 e10 e11 e12 ff y0 y2 y3 y4 y5 y6
        repeat (first | ((with_reducible refine mix_skip (by kernel_rfl) ?_); go_big_quiet_skip; (with_reducible refine mix_on ?_)) | ((with_reducible refine mix_plain (by kernel_rfl) ?_); (first | go_big_quiet_skip | (go_big_quiet_want; go_big_quiet_op; go_big_quiet_on)); (with_reducible refine mix_on ?_)))
        refine wpMix_nil ?_
        have HSZ := Lib.hid (show wr.heap.size = wr.heap.size from rfl)
        obtain ⟨W0, hW0⟩ : ∃ W0, W0 = wr := ⟨_, rfl⟩
        rw [← hW0] at HUB HO HX HQE
        clear hW0 HSZ HVN HVB
        go_wp2_with fail
        go_loopw [6] (fun kv wr => ∃ k : Nat, i ≤ k ∧ k ≤ n - 1 ∧ kv = .int .i64 k ∧ ∃ (a : An) (tz : Int) (pv : Value), Hid (Fst L th k n a tz) ∧ Hid (R13 wr q ⟨th, ⟨op, key, val, hi2, lim⟩, a, (i : Int), tz⟩ pv) ∧ Hid (PR w pv a.ps) ∧ Below W0.heap.size W0 wr)
          (fun kv _ => (intOf kv).toNat - i)
        case atStart => exact ⟨n - 1, by omega, by omega, by congr 1; omega, an0, -1, .slice none 0 0, Lib.hid (Fst.start L th n), HR, Lib.hid .nil, HUB.out⟩
        case round =>
          obtain ⟨k, hk1, hk2, rfl, a, tz, pv, HF, HRR, HPV, hbx⟩ := hrel
          have HY := Lib.hid hbx
          have HWY := Lib.hid (show Below w.heap.size w wr from HX.out.trans (hbx.mono HX.out.size))
          clear hbx HUB HR
          have hk3 : k < n := by omega
          clear hk2
          have q0 : wr.cell? ⟨q, 0, none⟩ = some (.int .i64 th) := HRR.out.cells.c0
          rcases (by omega : i < k ∨ k = i) with hik | hEQ
          · obtain ⟨pv2, hCk, hPk⟩ := (HA.out.below HWY.out).cells k hk3
            obtain ⟨pv3, hCw, hPw⟩ := HA.out.cells k hk3
            have epv : pv3 = pv2 := by
              have := (Ext.cell ⟨wr, HWY.out⟩ hCw.c11).symm.trans hCk.c11
              exact Option.some.inj this
            subst epv
            have HPW := Lib.hid hPw
            have hgq : g ≠ q := by
              have h1 := World.block_lt_of_cell? w ⟨g, _, none⟩ hCw.c0
              have h2 := HX.out.size
              have h3 := HQE.out
              simp only at h1
              omega
            have HHIT := Lib.hid (fun h1 h2 => HF.out.hit' hk3 (by omega) h1 h2)
            have HMISS := Lib.hid (fun h => HF.out.miss' (by omega) h)
            clear hPk hCw
            obtain ⟨x0, x1, _, _, _, _, _, x7, x8, x9, x10, x11⟩ := hCk
            generalize (L k).th = tk at *
            generalize (L k).bk = bk2 at *
            generalize (L k).an = ak at *
            obtain ⟨kind, akey, aval, an, ps⟩ := ak
            obtain ⟨pp, pc, rfl, _, _⟩ := hPw.slice
            simp only at x0 x1 x7 x8 x9 x10 x11 hPw
            clear hPw
            obtain ⟨e0, e1, e2, e3, e4, e5, e6, e7, e8, e9, e10, e11, e12⟩ := HRR.out.cells
            simp only [Nat.zero_add] at e0 e1 e2 e3 e4 e5 e6 e7 e8 e9 e10 e11 e12
            have ff := HRR.out.free
            clear e0 e1 e2 e3 e4 e5 e11
            have q0 := Ext.drewN q0
            have x0 := Ext.drewN x0; have x1 := Ext.drewN x1; have x7 := Ext.drewN x7; have x8 := Ext.drewN x8; have x9 := Ext.drewN x9; have x10 := Ext.drewN x10; have x11 := Ext.drewN x11
            have e6 := Ext.drewN e6; have e7 := Ext.drewN e7; have e8 := Ext.drewN e8; have e9 := Ext.drewN e9; have e10 := Ext.drewN e10; have e12 := Ext.drewN e12
            by_cases hte : tk = th
            · have hb2 : (tk == th) = true := by rw [hte]; exact beq_self_eq_true _
              have HTE := Lib.hid hte
              clear hte
              cases bk2
              · go_upto_region 12 with fail
                go_quiet (fail)
                have HYN := Lib.hid (below_drewN HY.out nq)
                have HRN := Lib.hid (show R13 (wr.drewN nq) q _ _ from HRR.out)
                generalize wr.drewN nq = W at *
                go_wp2_with fail
                go_roundw
                case rel => exact ⟨k - 1, by omega, by omega, by congr 1; omega, a, tz, pv, Lib.hid (HMISS.out (fun h => by cases h.2)), HRN, HPV, HYN.out⟩
                case measure => simp [intOf]; omega
              · go_upto_region 12 with fail
                go_quiet (fail)
                have x0 := x0 nq; have x1 := x1 nq; have x7 := x7 nq; have x8 := x8 nq; have x9 := x9 nq; have x10 := x10 nq; have x11 := x11 nq
                have e6 := e6 nq; have e7 := e7 nq; have e8 := e8 nq; have e9 := e9 nq; have e10 := e10 nq; have e12 := e12 nq
                have HYN := Lib.hid (below_drewN HY.out nq)
                have HRN := Lib.hid (show R13 (wr.drewN nq) q _ _ from HRR.out)
                have ff := HRN.out.free
                generalize wr.drewN nq = W at *
                go_wp2_with fail
                go_roundw
                case rel =>
                  have hq0 : W0.heap.size ≤ q := Nat.le_of_eq HQE.out.symm
                  exact ⟨k - 1, by omega, by omega, by congr 1; omega, ⟨kind, akey, aval, an, ps⟩, (k : Int), .slice pp ps.length pc, Lib.hid (HHIT.out HTE.out rfl), Lib.hid ((HRN.out.to (k : Int)).answer ⟨kind, akey, aval, an, ps⟩ _), HPW, (((((HYN.out.setCell (p := ⟨q, 12, none⟩) hq0 _).setCell (p := ⟨q, 6, none⟩) hq0 _).setCell (p := ⟨q, 7, none⟩) hq0 _).setCell (p := ⟨q, 8, none⟩) hq0 _).setCell (p := ⟨q, 9, none⟩) hq0 _).setCell (p := ⟨q, 10, none⟩) hq0 _⟩
                case measure => simp [intOf]; omega
            · have hb2 : (tk == th) = false := by rw [beq_eq_false_iff_ne]; exact hte
              have HTE := Lib.hid hte
              clear hte
              go_upto_region 12 with fail
              go_quiet (fail)
              have HYN := Lib.hid (below_drewN HY.out nq)
              have HRN := Lib.hid (show R13 (wr.drewN nq) q _ _ from HRR.out)
              generalize wr.drewN nq = W at *
              go_wp2_with fail
              go_roundw
              case rel => exact ⟨k - 1, by omega, by omega, by congr 1; omega, a, tz, pv, Lib.hid (HMISS.out (fun h => HTE.out h.1)), HRN, HPV, HYN.out⟩
              case measure => simp [intOf]; omega
          · have hnk : ¬ i < k := by omega
            subst hEQ
            have HOW := Lib.hid (own_keptO HO.out HY.out)
            obtain ⟨pp, pc, rfl, _, _⟩ := HPV.out.slice
            obtain ⟨e0, e1, e2, e3, e4, e5, e6, e7, e8, e9, e10, e11, e12⟩ := HRR.out.cells
            simp only [Nat.zero_add] at e0 e1 e2 e3 e4 e5 e6 e7 e8 e9 e10 e11 e12
            obtain ⟨kind, akey, aval, an, ps⟩ := a
            simp only at e6 e7 e8 e9 e10
            clear hk1 q0
            have hll : l.length ≤ 1000 := by have := HLL.out; have := HNN.out; omega
            go_wp2_with (at_builtin; refine wpList_append_o1 rfl (.tmp 65) (.tmp 67) rfl w.heap.size _ l (⟨th, ⟨op, key, val, hi2, lim⟩, ⟨kind, akey, aval, an, ps⟩, (k : Int), tz⟩, .slice pp ps.length pc) rfl (own_keptO HOW.out ((Below.refl _ _).alloc (Nat.le_refl _) _)) _ _ rfl (fun j u hu => by rw [addP, Nat.zero_add, cell_of_row _ _ _ _ _ (0, 0) (heap_alloc_new wr _)]; simpa [ocells, cacells, ancells] using hu) rfl (by omega) (by have := HWY.out.size; simp; omega) ?_)
            intro v1 w2 hown hg
            have hna := own_keptO HOW.out ((Below.refl _ _).alloc (Nat.le_refl _) (.cells #[.int .i64 th, .int .i64 op, .int .i64 key, .int .i64 val, .int .i64 hi2, .int .i64 lim, .int .i64 kind, .int .i64 akey, .int .i64 aval, .int .i64 an, .slice pp ps.length pc, .int .i64 (k : Int), .int .i64 tz] 41))
            have HX2 := Lib.hid (show Below w.heap.size w w2 from (HWY.out.alloc HWY.out.size _).grown hg (by have := HWY.out.size; simp; omega) (fun j hj => own_geO hna _ hj))
            have HO2 := Lib.hid hown
            clear hna hown hg e0 e1 e2 e3 e4 e5 e6 e7 e8 e9 e10 e11 e12
            go_wp2_with fail
            go_roundw
            case rel =>
              obtain ⟨x, hx1, hx2, hx3, hx4, hx5⟩ := HRI.out (by trivial)
              obtain ⟨ea, et⟩ := hx5.uniq HF.out
              have ex : x = ⟨th, ⟨op, key, val, hi2, lim⟩, ⟨kind, akey, aval, an, ps⟩, (k : Int), tz⟩ := by
                obtain ⟨x1, x2, x3, x4, x5⟩ := x
                simp only at hx2 hx3 hx4 ea et
                rw [hx2, hx3, hx4, ea, et]
              refine ⟨k + 1, by omega, by go_num, l ++ [(⟨th, ⟨op, key, val, hi2, lim⟩, ⟨kind, akey, aval, an, ps⟩, (k : Int), tz⟩, .slice pp ps.length pc)], Lib.hid ?_, Lib.hid (by rw [List.length_append]; have := HLL.out; simp; omega), HO2, Lib.hid ?_, HX2.out⟩
              · have e : (stO L (k + 1)).1.length = (stO L k).1.length + 1 := HCN.out
                rw [e, List.take_add_one, hx1, List.map_append, HL.out, ex]; rfl
              · intro y hy
                rcases List.mem_append.1 hy with hy | hy
                · exact HP.out y hy
                · rw [List.mem_singleton.1 hy]; exact HPV.out
            case measure => simp [intOf]; omega
      · go_wp2_with fail
        go_roundw
        case rel => exact ⟨i + 1, by omega, by go_num, l, Lib.hid (by rw [HCN.out]; exact HL.out), Lib.hid (by have := HLL.out; omega), HO, HP, HX.out⟩
        case measure => simp [intOf]; omega
    · have hge : ¬ i < n := by omega
      have HE := Lib.hid (show l.map (·.1) = (stO L n).1 by rw [HL.out, heq, List.take_length])
      clear heq hi
      go_wp2_with fail
      (try go_ret)
      rw [HQ.out]
      exact ⟨_, l, rfl, HE.out, HO.out, HP.out, HX.out⟩
end Go.Proofs.Ytilfgekiblpkaaa
