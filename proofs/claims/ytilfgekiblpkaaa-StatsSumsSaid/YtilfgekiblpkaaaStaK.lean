/- Layer 38: StatsCalls. -/
import Derived.Test.YtilfgekiblpkaaaStaJ
import Derived.Deep.RegionLaw
import Derived.Deep.AppendLies
namespace Go.Proofs.Ytilfgekiblpkaaa
open Go.RowKit
set_option linter.unusedVariables false
set_option linter.unusedSimpArgs false
set_option maxRecDepth 8000 in
set_option maxHeartbeats 16000000 in
theorem scallsLaw (n : Nat) (L : Nat → Ev) (v : Value) (G : Nat → Int) (op till : Int) (w : World) (h : VR w v n L) : Calls Try.prog 4 #[v, .agg (c42 G).toArray, .agg #[.int .i64 op, .int .i64 till]] w fun e w' => e = .returned (.bool true) ∧ Below w.heap.size w w' := by
  refine Calls.veil fun Q HQ => ?_
  obtain ⟨p, c, rfl, a1, a2, A3⟩ := h.parts
  have HV := Lib.hid h
  clear h
  go_enter Try.func4, Try.ntmps4
  go_upto_region 1 with fail
  generalize hV : World.alloc (World.alloc w _) _ = V
  have HSV := Lib.hid (show R42 V w.heap.size 29 G by rw [← hV]; unfold R42; rw [Below.heap_alloc _ _ _ (by simp)]; exact heap_alloc_new w _)
  have HVB := Lib.hid (show Below w.heap.size w V by rw [← hV]; exact below_new (below_new (Below.refl _ _) _) _)
  have hsv : V.heap.size = w.heap.size + 2 := by rw [← hV]; simp
  have hx0 : V.cell? ⟨w.heap.size + 1, 0, none⟩ = some (.int .i64 op) := by
    rw [← hV]
    have := heap_alloc_new (w.alloc (.cells (c42 G).toArray 29)) (.cells #[.int .i64 op, .int .i64 till] 32)
    rw [World.size_alloc] at this
    rw [cell_of_row _ _ _ _ _ (0, 0) this]; rfl
  have hx1 : V.cell? ⟨w.heap.size + 1, 1, none⟩ = some (.int .i64 till) := by
    rw [← hV]
    have := heap_alloc_new (w.alloc (.cells (c42 G).toArray 29)) (.cells #[.int .i64 op, .int .i64 till] 32)
    rw [World.size_alloc] at this
    rw [cell_of_row _ _ _ _ _ (0, 0) this]; rfl
  clear hV
  have hx0 := Ext.cells hx0; have hx1 := Ext.cells hx1
  (with_reducible refine wp_region_mix (fun w' => ∃ y : Ext V, w' = y.w) ?_ ?_ ?_ ?_; kernel_rfl; kernel_rfl; exact ⟨⟨V.drew, (Below.refl _ _).drew⟩, rfl⟩)
  repeat (first | ((with_reducible refine mix_skip (by kernel_rfl) ?_); go_big_quiet_skip; (with_reducible refine mix_on ?_)) | ((with_reducible refine mix_plain (by kernel_rfl) ?_); (first | go_big_quiet_skip | (go_big_quiet_want; go_big_quiet_op; go_big_quiet_on)); (with_reducible refine mix_on ?_)))
  ((with_reducible refine wpMix_chain (by kernel_rfl) (by kernel_rfl) (fun K HK => ?_)); go_step)
  generalize hY : World.drew (World.alloc V _) = Y
  have HYB := Lib.hid (show Below V.heap.size V Y by rw [← hY]; exact (below_new (Below.refl _ _) _).drew)
  have hyb : Boxed Y V.heap.size 3 (.int .i64 0) := by rw [← hY]; exact (show Boxed (World.alloc V _) V.heap.size 3 (.int .i64 0) from Boxed.new V _ _)
  rw [hsv] at hyb
  have HBY := Lib.hid hyb
  have yc := hyb.cell
  have yf := hyb.frozen
  clear hY hyb
  obtain ⟨tb, htb⟩ : ∃ tb, tb = w.heap.size + 2 := ⟨_, rfl⟩
  rw [← htb] at yc yf HBY hsv ⊢
  have HTB := Lib.hid (show w.heap.size + 1 < tb by omega)
  have HTV := Lib.hid hsv
  clear htb hsv
  refine HK.out _ _ ⟨⟨Y, HYB.out⟩, rfl⟩ ?_
  clear HK K
  repeat (first | ((with_reducible refine mix_skip (by kernel_rfl) ?_); go_big_quiet_skip; (with_reducible refine mix_on ?_)) | ((with_reducible refine mix_plain (by kernel_rfl) ?_); (first | go_big_quiet_skip | (go_big_quiet_want; go_big_quiet_op; go_big_quiet_on)); (with_reducible refine mix_on ?_)))
  ((with_reducible refine wpMix_chain (by kernel_rfl) (by kernel_rfl) (fun K HK => ?_)); go_step)
  generalize hV0 : World.setCell _ _ _ = V0
  have HV0V := Lib.hid (show Below V.heap.size V V0 by rw [← hV0]; exact HYB.out.setCell (p := ⟨tb, 0, none⟩) (Nat.le_of_eq HTV.out) _)
  have HB0 := Lib.hid (show Boxed V0 tb 3 (.int .i64 till) by rw [← hV0]; exact HBY.out.set _)
  clear hV0 yc yf hx0 hx1
  refine HK.out _ _ ⟨⟨V0, HV0V.out⟩, rfl⟩ ?_
  clear HK K
  refine wpMix_nil ?_
  have HV0 := Lib.hid (below_on HVB.out HV0V.out)
  have HS0 := Lib.hid (show R42 V0 w.heap.size 29 G from (HV0V.out.block _ HSV.out.lt).trans HSV.out)
  go_wp2_with fail
  refine (hgreat38 n L _ _ (HV.out.below HV0.out)).mono ?_; rintro _ z1 ⟨b, rfl, hg, hb1⟩
  have HZ1 := Lib.hid (below_on HV0.out hb1)
  have HB1 := Lib.hid (show Boxed z1 tb 3 (.int .i64 till) from (hb1.block _ HB0.out.lt).trans HB0.out)
  have HS1 := Lib.hid (show R42 z1 w.heap.size 29 G from (hb1.block _ HS0.out.lt).trans HS0.out)
  clear hb1
  cases b with
  | true =>
    clear hg
    go_wp2_with fail
    refine (lives38_calls _).mono ?_; rintro _ z2 ⟨rfl, hb2⟩
    have HF := Lib.hid (below_on HZ1.out hb2)
    clear hb2
    go_wp2_with fail
    (try go_ret)
    rw [HQ.out]
    exact ⟨rfl, HF.out⟩
  | false =>
    obtain ⟨hn, hps⟩ := hg rfl
    have HN := Lib.hid hn
    have HPS := Lib.hid hps
    clear hg hn hps
    go_wp2_with fail
    refine (ropersA n L _ _ (HV.out.below HZ1.out) (by have := HN.out; omega)).mono ?_; rintro _ z3 ⟨v2, l2, rfl, hl2, ho2, hp2, hb2⟩
    have HB3 := Lib.hid (show Boxed z3 tb 3 (.int .i64 till) from (hb2.block _ HB1.out.lt).trans HB1.out)
    have HS3 := Lib.hid (show R42 z3 w.heap.size 29 G from (hb2.block _ HS1.out.lt).trans HS1.out)
    have HZ3 := Lib.hid (below_on HZ1.out hb2)
    obtain ⟨p2, c2, rfl, f1, f2, F3⟩ := own_partsP ho2 (fun x hx => (hp2 x hx).below hb2) hl2
    clear ho2 hp2 hl2 hb2
    have HAP := Lib.hid (show ∀ x ∈ allO L n, x.an.ps.length ≤ 1500 from allO_ps HPS.out)
    have HAL := Lib.hid (allO_len L n)
    obtain ⟨O, hO⟩ : ∃ O, O = allO L n := ⟨_, rfl⟩
    rw [← hO] at f1 F3 HAP HAL
    rw [← hO]
    have HO := Lib.hid hO
    clear hO
    obtain ⟨m, hm⟩ : ∃ m, m = O.length := ⟨_, rfl⟩
    rw [← hm] at f1 F3 HAL
    have HOM := Lib.hid hm
    rw [← hm]
    clear hm
    have hm2 : m ≤ 150 := by have := HAL.out; have := HN.out; omega
    go_upto_region 6 with fail
    generalize hV : World.alloc z3 _ = Y
    have HYB := Lib.hid (show Below z3.heap.size z3 Y by rw [← hV]; exact below_new (Below.refl _ _) _)
    have HYX := Lib.hid (show Boxed Y z3.heap.size 33 (.slice none 0 0) by rw [← hV]; exact Boxed.new z3 _ _)
    clear hV
    go_wp2_with fail
    go_loopw [11] (fun iv wr => ∃ i : Nat, i ≤ m ∧ iv = .int .i64 i ∧ ∃ (lx : List (Opr × Value)) (vx : Value), Hid (lx.map (·.1) = opO op (O.take i)) ∧ Hid (Boxed wr z3.heap.size 33 vx) ∧ Hid (OwnO wr z3.heap.size vx lx) ∧ Hid (∀ y ∈ lx, PR z3 y.2 y.1.an.ps) ∧ Below z3.heap.size z3 wr)
      (fun iv _ => m - (intOf iv).toNat)
    case atStart => exact ⟨0, by omega, rfl, [], _, Lib.hid (by simp [opO]), HYX, Lib.hid ⟨rfl, .inl ⟨rfl, rfl⟩⟩, Lib.hid (by simp), HYB.out⟩
    case round =>
      obtain ⟨i, hi, rfl, lx, vx, HLX, HBX, HOX, HPP, hbx⟩ := hrel
      have HX := Lib.hid hbx
      have HLL := Lib.hid (show lx.length ≤ i by
        have h1 := congrArg List.length HLX.out
        rw [List.length_map] at h1
        have := opO_take_len op O i
        omega)
      clear hbx
      rcases (by omega : i < m ∨ i = m) with hlt | hEQ
      · obtain ⟨g, rfl, hD⟩ := F3.out (by omega)
        obtain ⟨x, hx⟩ : ∃ x, O[i]? = some x := ⟨_, List.getElem?_eq_getElem (by have := HOM.out; omega)⟩
        obtain ⟨u, hC, hPu⟩ := hD i x hx
        have hC := hC.below HX.out
        have HPX := Lib.hid hPu
        have HTK := Lib.hid (opO_succ op O i x hx)
        clear hPu hD hx
        obtain ⟨px, cx, rfl, _, _⟩ := HPX.out.slice
        obtain ⟨x0, x1, x2, x3, x4, x5, x6, x7, x8, x9, x10, x11, x12⟩ := hC
        by_cases hte : x.ca.op = op
        · rw [if_pos hte] at HTK
          have HTE := Lib.hid hte
          go_upto_region 10 with fail
          clear hte
          obtain ⟨pv, cv, rfl, _, _⟩ := own_sliceQ HOX.out
          have bc := HBX.out.cell
          have bcn : ∀ o, (wr.alloc o).cell? ⟨z3.heap.size, 0, none⟩ = _ := Ext.on bc
          have hll : lx.length ≤ 150 := by have := HLL.out; omega
          have HOD := Lib.hid (fun y : Ext wr => own_keptO HOX.out y.h)
          have HBD := Lib.hid (fun y : Ext wr => (show Boxed y.w z3.heap.size 33 _ from (y.h.block _ HBX.out.lt).trans HBX.out))
          have HSD := Lib.hid (fun y : Ext wr => Nat.le_trans HX.out.size y.h.size)
          go_region_law ((refine step_append_ob (by rfl) (.tmp 41) (.tmp 46) (by rfl) z3.heap.size _ lx (x, .slice px x.an.ps.length cx) (by rfl) (HOD.out ⟨_, by (repeat (first | exact Below.refl _ _ | assumption | refine below_new ?_ _ | refine Below.drew ?_ | refine below_drewN ?_ _ | refine below_on ?_ (by assumption)))⟩) _ _ (by rfl) (fun j u hu => World.news_of_block (heap_alloc_new _ _) j u (by simpa [ocells, cacells, ancells] using hu)) rfl (by omega) (HSD.out ⟨_, by (repeat (first | exact Below.refl _ _ | assumption | refine below_new ?_ _ | refine Below.drew ?_ | refine below_drewN ?_ _ | refine below_on ?_ (by assumption)))⟩) z3.heap.size _ (HBD.out ⟨_, by (repeat (first | exact Below.refl _ _ | assumption | refine below_new ?_ _ | refine Below.drew ?_ | refine below_drewN ?_ _ | refine below_on ?_ (by assumption)))⟩) (by decide) ?_; intro g1 cap1 w2 hown hgrow hbx2 hbc hbf))
          all_goals
            obtain ⟨_, hv2, hr2, _, hb2⟩ := HBX.out.appended (by decide) HOX.out HX.out.size (Nat.le_refl _) hown ⟨hgrow.os, hgrow.tape, hgrow.output, hgrow.size, hgrow.block⟩
            have HV2 := Lib.hid hv2
            have HR2 := Lib.hid hr2
            have HB2 := Lib.hid hb2
            clear hv2 hr2 hb2 hown hgrow hbx2 hbc hbf bc bcn x0 x1 x2 x3 x4 x5 x6 x7 x8 x9 x10 x11 x12
            go_wp2_with fail
            go_roundw
            case rel =>
              refine ⟨i + 1, by omega, by go_num, lx ++ [(x, .slice px x.an.ps.length cx)], _, Lib.hid (by rw [HTK.out, List.map_append, HLX.out]; rfl), HV2, HR2, Lib.hid (fun y hy => ?_), HX.out.trans HB2.out⟩
              rcases List.mem_append.1 hy with hy | hy
              · exact HPP.out y hy
              · rw [List.mem_singleton.1 hy]; exact HPX.out
            case measure => simp [intOf]; omega
        · rw [if_neg hte, List.append_nil] at HTK
          clear x0 x2 x3 x4 x5 x6 x7 x8 x9 x10 x11 x12
          go_wp2_with fail
          go_roundw
          case rel => exact ⟨i + 1, by omega, by go_num, lx, vx, Lib.hid (by rw [HTK.out]; exact HLX.out), HBX, HOX, HPP, HX.out⟩
          case measure => simp [intOf]; omega
      · have hge : ¬ i < m := by omega
        have HLE := Lib.hid (show lx.map (·.1) = opO op O by rw [HLX.out, hEQ, HOM.out, List.take_length])
        clear hEQ HLX
        have HWX := Lib.hid (show Below w.heap.size w wr from HZ3.out.trans (HX.out.mono HZ3.out.size))
        have HTX := Lib.hid (show Boxed wr tb 3 (.int .i64 till) from (HX.out.block _ HB3.out.lt).trans HB3.out)
        have HSX := Lib.hid (show R42 wr w.heap.size 29 G from (HX.out.block _ HS3.out.lt).trans HS3.out)
        go_wp2_with fail
        refine (scalls n L op _ wr (HV.out.below HWX.out) (by have := HN.out; omega) (fun i hi => by have := HPS.out i hi; omega)).mono ?_
        rintro _ z ⟨b, q, ov, lo, rfl, hcq, hcb, _, hqlt, _, hblt, hl, ho, hp, hb1⟩
        rw [← HO.out] at hl
        obtain ⟨p4, c4, rfl, d1, d2, D3⟩ := own_partsP ho (fun x hx => (hp x hx).1) hl
        have HZX := Lib.hid (show Below w.heap.size w z from below_on HWX.out hb1)
        have HTZ := Lib.hid (show Boxed z tb 3 (.int .i64 till) from (hb1.block _ HTX.out.lt).trans HTX.out)
        have HSZ := Lib.hid (show R42 z w.heap.size 29 G from (hb1.block _ HSX.out.lt).trans HSX.out)
        have HBZ := Lib.hid (show Boxed z z3.heap.size 33 vx from (hb1.block _ HBX.out.lt).trans HBX.out)
        have HOZ := Lib.hid (own_keptO HOX.out hb1)
        obtain ⟨p5, c5, rfl, g1, g2, G3⟩ := own_partsP HOZ.out (fun y hy => (HPP.out y hy).below (below_on HX.out hb1)) HLE.out
        rw [← HOM.out] at d1 D3
        have HCQ := Lib.hid hcq
        have HCB := Lib.hid hcb
        rw [← HOM.out] at HCB
        clear hcq hcb hqlt hblt hl ho hp hb1
        obtain ⟨mx, hmx⟩ : ∃ mx, mx = (opO op O).length := ⟨_, rfl⟩
        rw [← hmx] at g1 G3 HBZ
        have HMX := Lib.hid hmx
        have HMX2 := Lib.hid (show mx ≤ 150 by rw [hmx]; have := opO_take_len op O m; rw [HOM.out, List.take_length] at this; have := HOM.out; omega)
        clear hmx
        have qs := qSeq
        go_upto_region 16 with fail
        clear qs
        generalize hV : World.alloc (World.alloc z _) _ = Z
        have HJ0 := Lib.hid (show CB z 0 Z by
          rw [← hV]
          refine ⟨(Boxed.new z 3 (.int .i64 0)).alloc (.cells #[.bool true] 4), ?_, below_new (below_new (Below.refl _ _) _) _⟩
          have := Boxed.new (z.alloc (.cells #[.int .i64 0] 3)) 4 (.bool true)
          rwa [World.size_alloc] at this)
        clear hV
        go_wp2_with fail
        refine (siter_fn _ _ _ _ b q c4 m op till O z p4 HOM.out HCB.out HCQ.out d1 d2 (by omega) D3 (Lib.hid (fun x hx => by have := HAP.out x hx; omega)) (CB z) Z (Lib.hid HJ0.out.bel) (Lib.hid (fun i A B hA hb => hA.below hb)) (Lib.hid (fun i A hA => hA.bel))
          (Lib.hid (fun j x px cx W1 hJ hx hP => hcb z z3.heap.size tb till (opO op O) p5 c5 mx HMX.out HBZ.out.cell HTZ.out.cell g1 g2 G3 (by have := HMX2.out; omega) j x px cx W1 hJ hx hP (HAP.out x (by have := List.mem_of_getElem? hx; unfold opO at this; exact (List.mem_filter.1 this).1)))) HJ0).mono ?_
        rintro _ z9 ⟨⟨rv, rfl⟩, k, hJk, hend⟩
        have HJK := Lib.hid hJk
        have c8 := (show z9.cell? ⟨z3.heap.size, 0, none⟩ = _ from Ext.cell ⟨z9, hJk.bel⟩ HBZ.out.cell)
        have HS9 := Lib.hid (show R42 z9 w.heap.size 29 G from (hJk.bel.block _ HSZ.out.lt).trans HSZ.out)
        have c5' := (show z9.cell? ⟨tb, 0, none⟩ = _ from Ext.cell ⟨z9, hJk.bel⟩ HTZ.out.cell)
        have cf := hJk.fine.cell
        have ci := hJk.cnt.cell
        have HE := Lib.hid (show (till ≤ 0 ∧ k = mx) ∨ (0 < till ∧ till < mx ∧ (k : Int) = till) ∨ (0 < till ∧ (mx : Int) ≤ till ∧ k = mx) by
          have hm := HMX.out
          rcases hend with ⟨h1, h2⟩ | ⟨h1, h2, h3⟩
          · by_cases h0 : till ≤ 0
            · exact .inl ⟨h0, by omega⟩
            · have h4 := h2 till.toNat
              by_cases h5 : (mx : Int) ≤ till
              · exact .inr (.inr ⟨by omega, h5, by omega⟩)
              · exact absurd (by omega) (h4 (by omega) (by omega))
          · by_cases h5 : (mx : Int) ≤ till
            · exact .inr (.inr ⟨by omega, h5, by omega⟩)
            · exact .inr (.inl ⟨by omega, by omega, h3⟩))
        have HF9 := Lib.hid (show Below w.heap.size w z9 from below_on HZX.out hJk.bel)
        clear hJk hend
        rcases HE.out with ⟨e1, rfl⟩ | ⟨e1, e2, rfl⟩ | ⟨e1, e2, rfl⟩
        · have hle : ¬ 0 < till := by omega
          go_upto_region 20 with fail
          clear hle e1
          clear c8 c5'
          obtain ⟨d, hdu, hdr⟩ := uSum
          go_wp2_with (refine wpList_load_mid rfl 29 (.tmp 4) rfl w.heap.size 0 rfl (c42 G) d HS9.out.range hdu hdr (by rw [c42_len]; exact infoSum) ?_)
          refine (srate G op z9).mono ?_; rintro _ za ⟨r, ok, rfl, hr1, hr2, hb⟩
          have HR1 := Lib.hid hr1
          have HR2 := Lib.hid hr2
          have HJA := Lib.hid (HJK.out.below hb)
          have HSA := Lib.hid (show R42 za w.heap.size 29 G from (hb.block _ HS9.out.lt).trans HS9.out)
          have HFA := Lib.hid (below_on HF9.out hb)
          clear hr1 hr2 hb cf ci hdu hdr
          have cf := HJA.out.fine.cell
          have ci := HJA.out.cnt.cell
          by_cases h1 : 0 ≤ op
          · by_cases h2 : op ≤ 14
            · obtain ⟨j, rfl⟩ : ∃ j : Nat, op = j := ⟨op.toNat, by omega⟩
              have hj : j < 15 := by omega
              have hji : (j : Int) < 15 := by omega
              have c0 := HSA.out.cell (i := j) (by omega)
              have c1 := HSA.out.cell (i := 15 + j) (by omega)
              rw [Int.toNat_natCast] at HR1 HR2
              clear h1
              by_cases h3 : G j = 0
              · clear c1
                obtain ⟨rfl, rfl⟩ := HR1.out (.inr (.inr (by omega)))
                go_wp2_with fail
                refine (lives38_calls _).mono ?_; rintro _ zb ⟨rfl, hb2⟩
                have HF := Lib.hid (below_on HFA.out hb2)
                clear hb2
                go_wp2_with fail
                (try go_ret)
                rw [HQ.out]
                exact ⟨rfl, HF.out⟩
              · by_cases h4 : G j < 0
                · have hd1 : decide (G j < 0) = true := decide_eq_true (by omega)
                  have H2 := Lib.hid h2
                  have H3 := Lib.hid h3
                  have h3b : (G j == 0) = false := by rw [beq_eq_false_iff_ne]; exact h3
                  clear h4
                  go_upto_region 23 with fail
                  have c0 := Ext.drewN' c0; have c1 := Ext.drewN' c1
                  go_quiet (fail)
                  have c0 := c0 nq; have c1 := c1 nq
                  have HJA := Lib.hid (HJA.out.below (below_drewN (Below.refl _ _) nq))
                  have HSA := Lib.hid (show R42 (za.drewN nq) w.heap.size 29 G from HSA.out)
                  have HFA := Lib.hid (below_drewN HFA.out nq)
                  have cf := HJA.out.fine.cell
                  have ci := HJA.out.cnt.cell
                  clear c0 c1 hd1
                  generalize za.drewN nq = W at *
                  go_wp2_with fail
                  refine (lives38_calls _).mono ?_; rintro _ zb ⟨rfl, hb2⟩
                  have HF := Lib.hid (below_on HFA.out hb2)
                  clear hb2
                  go_wp2_with fail
                  (try go_ret)
                  rw [HQ.out]
                  exact ⟨rfl, HF.out⟩
                · by_cases h5 : (1000000 : Int) < G j
                  · have hd1 : decide (G j < 0) = false := decide_eq_false (by omega)
                    have hd2 : decide ((1000000 : Int) < G j) = true := decide_eq_true (by omega)
                    have H2 := Lib.hid h2
                    have H3 := Lib.hid h3
                    have h3b : (G j == 0) = false := by rw [beq_eq_false_iff_ne]; exact h3
                    clear h4 h5
                    go_upto_region 23 with fail
                    have c0 := Ext.drewN' c0; have c1 := Ext.drewN' c1
                    go_quiet (fail)
                    have c0 := c0 nq; have c1 := c1 nq
                    have HJA := Lib.hid (HJA.out.below (below_drewN (Below.refl _ _) nq))
                    have HSA := Lib.hid (show R42 (za.drewN nq) w.heap.size 29 G from HSA.out)
                    have HFA := Lib.hid (below_drewN HFA.out nq)
                    have cf := HJA.out.fine.cell
                    have ci := HJA.out.cnt.cell
                    clear c0 c1 hd1 hd2
                    generalize za.drewN nq = W at *
                    go_wp2_with fail
                    refine (lives38_calls _).mono ?_; rintro _ zb ⟨rfl, hb2⟩
                    have HF := Lib.hid (below_on HFA.out hb2)
                    clear hb2
                    go_wp2_with fail
                    (try go_ret)
                    rw [HQ.out]
                    exact ⟨rfl, HF.out⟩
                  · by_cases h6 : G (15 + j) < 0
                    · have hd1 : decide (G j < 0) = false := decide_eq_false (by omega)
                      have hd2 : decide ((1000000 : Int) < G j) = false := decide_eq_false (by omega)
                      have hd3 : decide (G (15 + j) < 0) = true := decide_eq_true (by omega)
                      have H2 := Lib.hid h2
                      have H3 := Lib.hid h3
                      have h3b : (G j == 0) = false := by rw [beq_eq_false_iff_ne]; exact h3
                      clear h4 h5 h6
                      go_upto_region 23 with fail
                      have c0 := Ext.drewN' c0; have c1 := Ext.drewN' c1
                      go_quiet (fail)
                      have c0 := c0 nq; have c1 := c1 nq
                      have HJA := Lib.hid (HJA.out.below (below_drewN (Below.refl _ _) nq))
                      have HSA := Lib.hid (show R42 (za.drewN nq) w.heap.size 29 G from HSA.out)
                      have HFA := Lib.hid (below_drewN HFA.out nq)
                      have cf := HJA.out.fine.cell
                      have ci := HJA.out.cnt.cell
                      clear c0 c1 hd1 hd2 hd3
                      generalize za.drewN nq = W at *
                      go_wp2_with fail
                      refine (lives38_calls _).mono ?_; rintro _ zb ⟨rfl, hb2⟩
                      have HF := Lib.hid (below_on HFA.out hb2)
                      clear hb2
                      go_wp2_with fail
                      (try go_ret)
                      rw [HQ.out]
                      exact ⟨rfl, HF.out⟩
                    · by_cases h7 : G j < G (15 + j)
                      · have hd1 : decide (G j < 0) = false := decide_eq_false (by omega)
                        have hd2 : decide ((1000000 : Int) < G j) = false := decide_eq_false (by omega)
                        have hd3 : decide (G (15 + j) < 0) = false := decide_eq_false (by omega)
                        have hd4 : decide (G j < G (15 + j)) = true := decide_eq_true (by omega)
                        have H2 := Lib.hid h2
                        have H3 := Lib.hid h3
                        have h3b : (G j == 0) = false := by rw [beq_eq_false_iff_ne]; exact h3
                        clear h4 h5 h6 h7
                        go_upto_region 23 with fail
                        have c0 := Ext.drewN' c0; have c1 := Ext.drewN' c1
                        go_quiet (fail)
                        have c0 := c0 nq; have c1 := c1 nq
                        have HJA := Lib.hid (HJA.out.below (below_drewN (Below.refl _ _) nq))
                        have HSA := Lib.hid (show R42 (za.drewN nq) w.heap.size 29 G from HSA.out)
                        have HFA := Lib.hid (below_drewN HFA.out nq)
                        have cf := HJA.out.fine.cell
                        have ci := HJA.out.cnt.cell
                        clear c0 c1 hd1 hd2 hd3 hd4
                        generalize za.drewN nq = W at *
                        go_wp2_with fail
                        refine (lives38_calls _).mono ?_; rintro _ zb ⟨rfl, hb2⟩
                        have HF := Lib.hid (below_on HFA.out hb2)
                        clear hb2
                        go_wp2_with fail
                        (try go_ret)
                        rw [HQ.out]
                        exact ⟨rfl, HF.out⟩
                      · have hd1 : decide (G j < 0) = false := decide_eq_false (by omega)
                        have hd2 : decide ((1000000 : Int) < G j) = false := decide_eq_false (by omega)
                        have hd3 : decide (G (15 + j) < 0) = false := decide_eq_false (by omega)
                        have hd4 : decide (G j < G (15 + j)) = false := decide_eq_false (by omega)
                        have H2 := Lib.hid h2
                        have H3 := Lib.hid h3
                        have h3b : (G j == 0) = false := by rw [beq_eq_false_iff_ne]; exact h3
                        obtain ⟨rfl, rfl⟩ := HR2.out ⟨by omega, by omega, by omega⟩
                        unfold rateI
                        clear h4 h5 h6 h7
                        go_upto_region 23 with fail
                        have c0 := Ext.drewN' c0; have c1 := Ext.drewN' c1
                        go_quiet (fail)
                        have c0 := c0 nq; have c1 := c1 nq
                        have HJA := Lib.hid (HJA.out.below (below_drewN (Below.refl _ _) nq))
                        have HSA := Lib.hid (show R42 (za.drewN nq) w.heap.size 29 G from HSA.out)
                        have HFA := Lib.hid (below_drewN HFA.out nq)
                        have cf := HJA.out.fine.cell
                        have ci := HJA.out.cnt.cell
                        clear hd1 hd2 hd3 hd4
                        obtain ⟨W, hW⟩ : ∃ W, W = za.drewN nq := ⟨_, rfl⟩
                        rw [← hW] at c0 c1 cf ci HFA ⊢
                        clear hW HJA HSA
                        have hne : ¬ G j = 0 := H3.out
                        go_upto_region 25 with fail
                        have c0 := Ext.cells c0; have c1 := Ext.cells c1; have cf := Ext.cells cf; have ci := Ext.cells ci
                        (with_reducible refine wp_region_mix (fun w' => ∃ y : Ext W, w' = y.w) ?_ ?_ ?_ ?_; kernel_rfl; kernel_rfl; exact ⟨⟨W.drew, (Below.refl _ _).drew⟩, rfl⟩)
                        repeat (first | ((with_reducible refine mix_skip (by kernel_rfl) ?_); go_big_quiet_skip; (with_reducible refine mix_on ?_)) | ((with_reducible refine mix_plain (by kernel_rfl) ?_); (first | go_big_quiet_skip | (go_big_quiet_want; go_big_quiet_op; go_big_quiet_on)); (with_reducible refine mix_on ?_)))
                        ((with_reducible refine wpMix_chain (by kernel_rfl) (by kernel_rfl) (fun K HK => ?_)); go_step)
                        refine (lives38_calls _).mono ?_; rintro _ zb ⟨rfl, hb2⟩
                        have hzb : Below W.heap.size W zb := below_on (Below.refl _ _).drew hb2
                        refine HK.out _ _ ⟨⟨zb, hzb⟩, rfl⟩ ?_
                        clear HK K hb2
                        repeat (first | ((with_reducible refine mix_skip (by kernel_rfl) ?_); go_big_quiet_skip; (with_reducible refine mix_on ?_)) | ((with_reducible refine mix_plain (by kernel_rfl) ?_); (first | go_big_quiet_skip | (go_big_quiet_want; go_big_quiet_op; go_big_quiet_on)); (with_reducible refine mix_on ?_)))
                        refine wpMix_nil ?_
                        have HF := Lib.hid (below_on HFA.out hzb)
                        clear hzb c0 c1 cf ci
                        go_wp2_with fail
                        (try go_ret)
                        rw [HQ.out]
                        exact ⟨rfl, HF.out⟩
            · obtain ⟨rfl, rfl⟩ := HR1.out (.inr (.inl (by omega)))
              go_wp2_with fail
              refine (lives38_calls _).mono ?_; rintro _ zb ⟨rfl, hb2⟩
              have HF := Lib.hid (below_on HFA.out hb2)
              clear hb2
              go_wp2_with fail
              (try go_ret)
              rw [HQ.out]
              exact ⟨rfl, HF.out⟩
          · obtain ⟨rfl, rfl⟩ := HR1.out (.inl (by omega))
            go_wp2_with fail
            refine (lives38_calls _).mono ?_; rintro _ zb ⟨rfl, hb2⟩
            have HF := Lib.hid (below_on HFA.out hb2)
            clear hb2
            go_wp2_with fail
            (try go_ret)
            rw [HQ.out]
            exact ⟨rfl, HF.out⟩
        · go_upto_region 20 with fail
          clear e1 e2
          clear c8 c5'
          obtain ⟨d, hdu, hdr⟩ := uSum
          go_wp2_with (refine wpList_load_mid rfl 29 (.tmp 4) rfl w.heap.size 0 rfl (c42 G) d HS9.out.range hdu hdr (by rw [c42_len]; exact infoSum) ?_)
          refine (srate G op z9).mono ?_; rintro _ za ⟨r, ok, rfl, hr1, hr2, hb⟩
          have HR1 := Lib.hid hr1
          have HR2 := Lib.hid hr2
          have HJA := Lib.hid (HJK.out.below hb)
          have HSA := Lib.hid (show R42 za w.heap.size 29 G from (hb.block _ HS9.out.lt).trans HS9.out)
          have HFA := Lib.hid (below_on HF9.out hb)
          clear hr1 hr2 hb cf ci hdu hdr
          have cf := HJA.out.fine.cell
          have ci := HJA.out.cnt.cell
          by_cases h1 : 0 ≤ op
          · by_cases h2 : op ≤ 14
            · obtain ⟨j, rfl⟩ : ∃ j : Nat, op = j := ⟨op.toNat, by omega⟩
              have hj : j < 15 := by omega
              have hji : (j : Int) < 15 := by omega
              have c0 := HSA.out.cell (i := j) (by omega)
              have c1 := HSA.out.cell (i := 15 + j) (by omega)
              rw [Int.toNat_natCast] at HR1 HR2
              clear h1
              by_cases h3 : G j = 0
              · clear c1
                obtain ⟨rfl, rfl⟩ := HR1.out (.inr (.inr (by omega)))
                go_wp2_with fail
                refine (lives38_calls _).mono ?_; rintro _ zb ⟨rfl, hb2⟩
                have HF := Lib.hid (below_on HFA.out hb2)
                clear hb2
                go_wp2_with fail
                (try go_ret)
                rw [HQ.out]
                exact ⟨rfl, HF.out⟩
              · by_cases h4 : G j < 0
                · have hd1 : decide (G j < 0) = true := decide_eq_true (by omega)
                  have H2 := Lib.hid h2
                  have H3 := Lib.hid h3
                  have h3b : (G j == 0) = false := by rw [beq_eq_false_iff_ne]; exact h3
                  clear h4
                  go_upto_region 23 with fail
                  have c0 := Ext.drewN' c0; have c1 := Ext.drewN' c1
                  go_quiet (fail)
                  have c0 := c0 nq; have c1 := c1 nq
                  have HJA := Lib.hid (HJA.out.below (below_drewN (Below.refl _ _) nq))
                  have HSA := Lib.hid (show R42 (za.drewN nq) w.heap.size 29 G from HSA.out)
                  have HFA := Lib.hid (below_drewN HFA.out nq)
                  have cf := HJA.out.fine.cell
                  have ci := HJA.out.cnt.cell
                  clear c0 c1 hd1
                  generalize za.drewN nq = W at *
                  go_wp2_with fail
                  refine (lives38_calls _).mono ?_; rintro _ zb ⟨rfl, hb2⟩
                  have HF := Lib.hid (below_on HFA.out hb2)
                  clear hb2
                  go_wp2_with fail
                  (try go_ret)
                  rw [HQ.out]
                  exact ⟨rfl, HF.out⟩
                · by_cases h5 : (1000000 : Int) < G j
                  · have hd1 : decide (G j < 0) = false := decide_eq_false (by omega)
                    have hd2 : decide ((1000000 : Int) < G j) = true := decide_eq_true (by omega)
                    have H2 := Lib.hid h2
                    have H3 := Lib.hid h3
                    have h3b : (G j == 0) = false := by rw [beq_eq_false_iff_ne]; exact h3
                    clear h4 h5
                    go_upto_region 23 with fail
                    have c0 := Ext.drewN' c0; have c1 := Ext.drewN' c1
                    go_quiet (fail)
                    have c0 := c0 nq; have c1 := c1 nq
                    have HJA := Lib.hid (HJA.out.below (below_drewN (Below.refl _ _) nq))
                    have HSA := Lib.hid (show R42 (za.drewN nq) w.heap.size 29 G from HSA.out)
                    have HFA := Lib.hid (below_drewN HFA.out nq)
                    have cf := HJA.out.fine.cell
                    have ci := HJA.out.cnt.cell
                    clear c0 c1 hd1 hd2
                    generalize za.drewN nq = W at *
                    go_wp2_with fail
                    refine (lives38_calls _).mono ?_; rintro _ zb ⟨rfl, hb2⟩
                    have HF := Lib.hid (below_on HFA.out hb2)
                    clear hb2
                    go_wp2_with fail
                    (try go_ret)
                    rw [HQ.out]
                    exact ⟨rfl, HF.out⟩
                  · by_cases h6 : G (15 + j) < 0
                    · have hd1 : decide (G j < 0) = false := decide_eq_false (by omega)
                      have hd2 : decide ((1000000 : Int) < G j) = false := decide_eq_false (by omega)
                      have hd3 : decide (G (15 + j) < 0) = true := decide_eq_true (by omega)
                      have H2 := Lib.hid h2
                      have H3 := Lib.hid h3
                      have h3b : (G j == 0) = false := by rw [beq_eq_false_iff_ne]; exact h3
                      clear h4 h5 h6
                      go_upto_region 23 with fail
                      have c0 := Ext.drewN' c0; have c1 := Ext.drewN' c1
                      go_quiet (fail)
                      have c0 := c0 nq; have c1 := c1 nq
                      have HJA := Lib.hid (HJA.out.below (below_drewN (Below.refl _ _) nq))
                      have HSA := Lib.hid (show R42 (za.drewN nq) w.heap.size 29 G from HSA.out)
                      have HFA := Lib.hid (below_drewN HFA.out nq)
                      have cf := HJA.out.fine.cell
                      have ci := HJA.out.cnt.cell
                      clear c0 c1 hd1 hd2 hd3
                      generalize za.drewN nq = W at *
                      go_wp2_with fail
                      refine (lives38_calls _).mono ?_; rintro _ zb ⟨rfl, hb2⟩
                      have HF := Lib.hid (below_on HFA.out hb2)
                      clear hb2
                      go_wp2_with fail
                      (try go_ret)
                      rw [HQ.out]
                      exact ⟨rfl, HF.out⟩
                    · by_cases h7 : G j < G (15 + j)
                      · have hd1 : decide (G j < 0) = false := decide_eq_false (by omega)
                        have hd2 : decide ((1000000 : Int) < G j) = false := decide_eq_false (by omega)
                        have hd3 : decide (G (15 + j) < 0) = false := decide_eq_false (by omega)
                        have hd4 : decide (G j < G (15 + j)) = true := decide_eq_true (by omega)
                        have H2 := Lib.hid h2
                        have H3 := Lib.hid h3
                        have h3b : (G j == 0) = false := by rw [beq_eq_false_iff_ne]; exact h3
                        clear h4 h5 h6 h7
                        go_upto_region 23 with fail
                        have c0 := Ext.drewN' c0; have c1 := Ext.drewN' c1
                        go_quiet (fail)
                        have c0 := c0 nq; have c1 := c1 nq
                        have HJA := Lib.hid (HJA.out.below (below_drewN (Below.refl _ _) nq))
                        have HSA := Lib.hid (show R42 (za.drewN nq) w.heap.size 29 G from HSA.out)
                        have HFA := Lib.hid (below_drewN HFA.out nq)
                        have cf := HJA.out.fine.cell
                        have ci := HJA.out.cnt.cell
                        clear c0 c1 hd1 hd2 hd3 hd4
                        generalize za.drewN nq = W at *
                        go_wp2_with fail
                        refine (lives38_calls _).mono ?_; rintro _ zb ⟨rfl, hb2⟩
                        have HF := Lib.hid (below_on HFA.out hb2)
                        clear hb2
                        go_wp2_with fail
                        (try go_ret)
                        rw [HQ.out]
                        exact ⟨rfl, HF.out⟩
                      · have hd1 : decide (G j < 0) = false := decide_eq_false (by omega)
                        have hd2 : decide ((1000000 : Int) < G j) = false := decide_eq_false (by omega)
                        have hd3 : decide (G (15 + j) < 0) = false := decide_eq_false (by omega)
                        have hd4 : decide (G j < G (15 + j)) = false := decide_eq_false (by omega)
                        have H2 := Lib.hid h2
                        have H3 := Lib.hid h3
                        have h3b : (G j == 0) = false := by rw [beq_eq_false_iff_ne]; exact h3
                        obtain ⟨rfl, rfl⟩ := HR2.out ⟨by omega, by omega, by omega⟩
                        unfold rateI
                        clear h4 h5 h6 h7
                        go_upto_region 23 with fail
                        have c0 := Ext.drewN' c0; have c1 := Ext.drewN' c1
                        go_quiet (fail)
                        have c0 := c0 nq; have c1 := c1 nq
                        have HJA := Lib.hid (HJA.out.below (below_drewN (Below.refl _ _) nq))
                        have HSA := Lib.hid (show R42 (za.drewN nq) w.heap.size 29 G from HSA.out)
                        have HFA := Lib.hid (below_drewN HFA.out nq)
                        have cf := HJA.out.fine.cell
                        have ci := HJA.out.cnt.cell
                        clear hd1 hd2 hd3 hd4
                        obtain ⟨W, hW⟩ : ∃ W, W = za.drewN nq := ⟨_, rfl⟩
                        rw [← hW] at c0 c1 cf ci HFA ⊢
                        clear hW HJA HSA
                        have hne : ¬ G j = 0 := H3.out
                        go_upto_region 25 with fail
                        have c0 := Ext.cells c0; have c1 := Ext.cells c1; have cf := Ext.cells cf; have ci := Ext.cells ci
                        (with_reducible refine wp_region_mix (fun w' => ∃ y : Ext W, w' = y.w) ?_ ?_ ?_ ?_; kernel_rfl; kernel_rfl; exact ⟨⟨W.drew, (Below.refl _ _).drew⟩, rfl⟩)
                        repeat (first | ((with_reducible refine mix_skip (by kernel_rfl) ?_); go_big_quiet_skip; (with_reducible refine mix_on ?_)) | ((with_reducible refine mix_plain (by kernel_rfl) ?_); (first | go_big_quiet_skip | (go_big_quiet_want; go_big_quiet_op; go_big_quiet_on)); (with_reducible refine mix_on ?_)))
                        ((with_reducible refine wpMix_chain (by kernel_rfl) (by kernel_rfl) (fun K HK => ?_)); go_step)
                        refine (lives38_calls _).mono ?_; rintro _ zb ⟨rfl, hb2⟩
                        have hzb : Below W.heap.size W zb := below_on (Below.refl _ _).drew hb2
                        refine HK.out _ _ ⟨⟨zb, hzb⟩, rfl⟩ ?_
                        clear HK K hb2
                        repeat (first | ((with_reducible refine mix_skip (by kernel_rfl) ?_); go_big_quiet_skip; (with_reducible refine mix_on ?_)) | ((with_reducible refine mix_plain (by kernel_rfl) ?_); (first | go_big_quiet_skip | (go_big_quiet_want; go_big_quiet_op; go_big_quiet_on)); (with_reducible refine mix_on ?_)))
                        refine wpMix_nil ?_
                        have HF := Lib.hid (below_on HFA.out hzb)
                        clear hzb c0 c1 cf ci
                        go_wp2_with fail
                        (try go_ret)
                        rw [HQ.out]
                        exact ⟨rfl, HF.out⟩
            · obtain ⟨rfl, rfl⟩ := HR1.out (.inr (.inl (by omega)))
              go_wp2_with fail
              refine (lives38_calls _).mono ?_; rintro _ zb ⟨rfl, hb2⟩
              have HF := Lib.hid (below_on HFA.out hb2)
              clear hb2
              go_wp2_with fail
              (try go_ret)
              rw [HQ.out]
              exact ⟨rfl, HF.out⟩
          · obtain ⟨rfl, rfl⟩ := HR1.out (.inl (by omega))
            go_wp2_with fail
            refine (lives38_calls _).mono ?_; rintro _ zb ⟨rfl, hb2⟩
            have HF := Lib.hid (below_on HFA.out hb2)
            clear hb2
            go_wp2_with fail
            (try go_ret)
            rw [HQ.out]
            exact ⟨rfl, HF.out⟩
        · have hle : ¬ till < (k : Int) := by omega
          go_upto_region 20 with fail
          clear hle e1 e2
          clear c8 c5'
          obtain ⟨d, hdu, hdr⟩ := uSum
          go_wp2_with (refine wpList_load_mid rfl 29 (.tmp 4) rfl w.heap.size 0 rfl (c42 G) d HS9.out.range hdu hdr (by rw [c42_len]; exact infoSum) ?_)
          refine (srate G op z9).mono ?_; rintro _ za ⟨r, ok, rfl, hr1, hr2, hb⟩
          have HR1 := Lib.hid hr1
          have HR2 := Lib.hid hr2
          have HJA := Lib.hid (HJK.out.below hb)
          have HSA := Lib.hid (show R42 za w.heap.size 29 G from (hb.block _ HS9.out.lt).trans HS9.out)
          have HFA := Lib.hid (below_on HF9.out hb)
          clear hr1 hr2 hb cf ci hdu hdr
          have cf := HJA.out.fine.cell
          have ci := HJA.out.cnt.cell
          by_cases h1 : 0 ≤ op
          · by_cases h2 : op ≤ 14
            · obtain ⟨j, rfl⟩ : ∃ j : Nat, op = j := ⟨op.toNat, by omega⟩
              have hj : j < 15 := by omega
              have hji : (j : Int) < 15 := by omega
              have c0 := HSA.out.cell (i := j) (by omega)
              have c1 := HSA.out.cell (i := 15 + j) (by omega)
              rw [Int.toNat_natCast] at HR1 HR2
              clear h1
              by_cases h3 : G j = 0
              · clear c1
                obtain ⟨rfl, rfl⟩ := HR1.out (.inr (.inr (by omega)))
                go_wp2_with fail
                refine (lives38_calls _).mono ?_; rintro _ zb ⟨rfl, hb2⟩
                have HF := Lib.hid (below_on HFA.out hb2)
                clear hb2
                go_wp2_with fail
                (try go_ret)
                rw [HQ.out]
                exact ⟨rfl, HF.out⟩
              · by_cases h4 : G j < 0
                · have hd1 : decide (G j < 0) = true := decide_eq_true (by omega)
                  have H2 := Lib.hid h2
                  have H3 := Lib.hid h3
                  have h3b : (G j == 0) = false := by rw [beq_eq_false_iff_ne]; exact h3
                  clear h4
                  go_upto_region 23 with fail
                  have c0 := Ext.drewN' c0; have c1 := Ext.drewN' c1
                  go_quiet (fail)
                  have c0 := c0 nq; have c1 := c1 nq
                  have HJA := Lib.hid (HJA.out.below (below_drewN (Below.refl _ _) nq))
                  have HSA := Lib.hid (show R42 (za.drewN nq) w.heap.size 29 G from HSA.out)
                  have HFA := Lib.hid (below_drewN HFA.out nq)
                  have cf := HJA.out.fine.cell
                  have ci := HJA.out.cnt.cell
                  clear c0 c1 hd1
                  generalize za.drewN nq = W at *
                  go_wp2_with fail
                  refine (lives38_calls _).mono ?_; rintro _ zb ⟨rfl, hb2⟩
                  have HF := Lib.hid (below_on HFA.out hb2)
                  clear hb2
                  go_wp2_with fail
                  (try go_ret)
                  rw [HQ.out]
                  exact ⟨rfl, HF.out⟩
                · by_cases h5 : (1000000 : Int) < G j
                  · have hd1 : decide (G j < 0) = false := decide_eq_false (by omega)
                    have hd2 : decide ((1000000 : Int) < G j) = true := decide_eq_true (by omega)
                    have H2 := Lib.hid h2
                    have H3 := Lib.hid h3
                    have h3b : (G j == 0) = false := by rw [beq_eq_false_iff_ne]; exact h3
                    clear h4 h5
                    go_upto_region 23 with fail
                    have c0 := Ext.drewN' c0; have c1 := Ext.drewN' c1
                    go_quiet (fail)
                    have c0 := c0 nq; have c1 := c1 nq
                    have HJA := Lib.hid (HJA.out.below (below_drewN (Below.refl _ _) nq))
                    have HSA := Lib.hid (show R42 (za.drewN nq) w.heap.size 29 G from HSA.out)
                    have HFA := Lib.hid (below_drewN HFA.out nq)
                    have cf := HJA.out.fine.cell
                    have ci := HJA.out.cnt.cell
                    clear c0 c1 hd1 hd2
                    generalize za.drewN nq = W at *
                    go_wp2_with fail
                    refine (lives38_calls _).mono ?_; rintro _ zb ⟨rfl, hb2⟩
                    have HF := Lib.hid (below_on HFA.out hb2)
                    clear hb2
                    go_wp2_with fail
                    (try go_ret)
                    rw [HQ.out]
                    exact ⟨rfl, HF.out⟩
                  · by_cases h6 : G (15 + j) < 0
                    · have hd1 : decide (G j < 0) = false := decide_eq_false (by omega)
                      have hd2 : decide ((1000000 : Int) < G j) = false := decide_eq_false (by omega)
                      have hd3 : decide (G (15 + j) < 0) = true := decide_eq_true (by omega)
                      have H2 := Lib.hid h2
                      have H3 := Lib.hid h3
                      have h3b : (G j == 0) = false := by rw [beq_eq_false_iff_ne]; exact h3
                      clear h4 h5 h6
                      go_upto_region 23 with fail
                      have c0 := Ext.drewN' c0; have c1 := Ext.drewN' c1
                      go_quiet (fail)
                      have c0 := c0 nq; have c1 := c1 nq
                      have HJA := Lib.hid (HJA.out.below (below_drewN (Below.refl _ _) nq))
                      have HSA := Lib.hid (show R42 (za.drewN nq) w.heap.size 29 G from HSA.out)
                      have HFA := Lib.hid (below_drewN HFA.out nq)
                      have cf := HJA.out.fine.cell
                      have ci := HJA.out.cnt.cell
                      clear c0 c1 hd1 hd2 hd3
                      generalize za.drewN nq = W at *
                      go_wp2_with fail
                      refine (lives38_calls _).mono ?_; rintro _ zb ⟨rfl, hb2⟩
                      have HF := Lib.hid (below_on HFA.out hb2)
                      clear hb2
                      go_wp2_with fail
                      (try go_ret)
                      rw [HQ.out]
                      exact ⟨rfl, HF.out⟩
                    · by_cases h7 : G j < G (15 + j)
                      · have hd1 : decide (G j < 0) = false := decide_eq_false (by omega)
                        have hd2 : decide ((1000000 : Int) < G j) = false := decide_eq_false (by omega)
                        have hd3 : decide (G (15 + j) < 0) = false := decide_eq_false (by omega)
                        have hd4 : decide (G j < G (15 + j)) = true := decide_eq_true (by omega)
                        have H2 := Lib.hid h2
                        have H3 := Lib.hid h3
                        have h3b : (G j == 0) = false := by rw [beq_eq_false_iff_ne]; exact h3
                        clear h4 h5 h6 h7
                        go_upto_region 23 with fail
                        have c0 := Ext.drewN' c0; have c1 := Ext.drewN' c1
                        go_quiet (fail)
                        have c0 := c0 nq; have c1 := c1 nq
                        have HJA := Lib.hid (HJA.out.below (below_drewN (Below.refl _ _) nq))
                        have HSA := Lib.hid (show R42 (za.drewN nq) w.heap.size 29 G from HSA.out)
                        have HFA := Lib.hid (below_drewN HFA.out nq)
                        have cf := HJA.out.fine.cell
                        have ci := HJA.out.cnt.cell
                        clear c0 c1 hd1 hd2 hd3 hd4
                        generalize za.drewN nq = W at *
                        go_wp2_with fail
                        refine (lives38_calls _).mono ?_; rintro _ zb ⟨rfl, hb2⟩
                        have HF := Lib.hid (below_on HFA.out hb2)
                        clear hb2
                        go_wp2_with fail
                        (try go_ret)
                        rw [HQ.out]
                        exact ⟨rfl, HF.out⟩
                      · have hd1 : decide (G j < 0) = false := decide_eq_false (by omega)
                        have hd2 : decide ((1000000 : Int) < G j) = false := decide_eq_false (by omega)
                        have hd3 : decide (G (15 + j) < 0) = false := decide_eq_false (by omega)
                        have hd4 : decide (G j < G (15 + j)) = false := decide_eq_false (by omega)
                        have H2 := Lib.hid h2
                        have H3 := Lib.hid h3
                        have h3b : (G j == 0) = false := by rw [beq_eq_false_iff_ne]; exact h3
                        obtain ⟨rfl, rfl⟩ := HR2.out ⟨by omega, by omega, by omega⟩
                        unfold rateI
                        clear h4 h5 h6 h7
                        go_upto_region 23 with fail
                        have c0 := Ext.drewN' c0; have c1 := Ext.drewN' c1
                        go_quiet (fail)
                        have c0 := c0 nq; have c1 := c1 nq
                        have HJA := Lib.hid (HJA.out.below (below_drewN (Below.refl _ _) nq))
                        have HSA := Lib.hid (show R42 (za.drewN nq) w.heap.size 29 G from HSA.out)
                        have HFA := Lib.hid (below_drewN HFA.out nq)
                        have cf := HJA.out.fine.cell
                        have ci := HJA.out.cnt.cell
                        clear hd1 hd2 hd3 hd4
                        obtain ⟨W, hW⟩ : ∃ W, W = za.drewN nq := ⟨_, rfl⟩
                        rw [← hW] at c0 c1 cf ci HFA ⊢
                        clear hW HJA HSA
                        have hne : ¬ G j = 0 := H3.out
                        go_upto_region 25 with fail
                        have c0 := Ext.cells c0; have c1 := Ext.cells c1; have cf := Ext.cells cf; have ci := Ext.cells ci
                        (with_reducible refine wp_region_mix (fun w' => ∃ y : Ext W, w' = y.w) ?_ ?_ ?_ ?_; kernel_rfl; kernel_rfl; exact ⟨⟨W.drew, (Below.refl _ _).drew⟩, rfl⟩)
                        repeat (first | ((with_reducible refine mix_skip (by kernel_rfl) ?_); go_big_quiet_skip; (with_reducible refine mix_on ?_)) | ((with_reducible refine mix_plain (by kernel_rfl) ?_); (first | go_big_quiet_skip | (go_big_quiet_want; go_big_quiet_op; go_big_quiet_on)); (with_reducible refine mix_on ?_)))
                        ((with_reducible refine wpMix_chain (by kernel_rfl) (by kernel_rfl) (fun K HK => ?_)); go_step)
                        refine (lives38_calls _).mono ?_; rintro _ zb ⟨rfl, hb2⟩
                        have hzb : Below W.heap.size W zb := below_on (Below.refl _ _).drew hb2
                        refine HK.out _ _ ⟨⟨zb, hzb⟩, rfl⟩ ?_
                        clear HK K hb2
                        repeat (first | ((with_reducible refine mix_skip (by kernel_rfl) ?_); go_big_quiet_skip; (with_reducible refine mix_on ?_)) | ((with_reducible refine mix_plain (by kernel_rfl) ?_); (first | go_big_quiet_skip | (go_big_quiet_want; go_big_quiet_op; go_big_quiet_on)); (with_reducible refine mix_on ?_)))
                        refine wpMix_nil ?_
                        have HF := Lib.hid (below_on HFA.out hzb)
                        clear hzb c0 c1 cf ci
                        go_wp2_with fail
                        (try go_ret)
                        rw [HQ.out]
                        exact ⟨rfl, HF.out⟩
            · obtain ⟨rfl, rfl⟩ := HR1.out (.inr (.inl (by omega)))
              go_wp2_with fail
              refine (lives38_calls _).mono ?_; rintro _ zb ⟨rfl, hb2⟩
              have HF := Lib.hid (below_on HFA.out hb2)
              clear hb2
              go_wp2_with fail
              (try go_ret)
              rw [HQ.out]
              exact ⟨rfl, HF.out⟩
          · obtain ⟨rfl, rfl⟩ := HR1.out (.inl (by omega))
            go_wp2_with fail
            refine (lives38_calls _).mono ?_; rintro _ zb ⟨rfl, hb2⟩
            have HF := Lib.hid (below_on HFA.out hb2)
            clear hb2
            go_wp2_with fail
            (try go_ret)
            rw [HQ.out]
            exact ⟨rfl, HF.out⟩
end Go.Proofs.Ytilfgekiblpkaaa
