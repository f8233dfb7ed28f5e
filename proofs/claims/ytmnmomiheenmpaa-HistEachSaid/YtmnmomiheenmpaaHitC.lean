/- Layer 11: HistEach. -/
import Derived.Test.YtmnmomiheenmpaaHitB
import Derived.Deep.RegionLaw
import Derived.Deep.AppendLies
namespace Go.Proofs.Ytmnmomiheenmpaa
open Go.RowKit
set_option linter.unusedVariables false
set_option linter.unusedSimpArgs false
theorem ropersA (n : Nat) (L : Nat → Ev) (v : Value) (w : World) (h : VR w v n L) (hn : n ≤ 1000) : Calls Try.prog 9 #[v] w fun e w' => ∃ (v' : Value) (l : List (Opr × Value)), e = .returned v' ∧ l.map (·.1) = allO L n ∧ OwnO w' w.heap.size v' l ∧ (∀ x ∈ l, PR w x.2 x.1.an.ps) ∧ Below w.heap.size w w' := by
  cases hm : mayH L n with
  | true =>
    refine (ropers n L v w h hn hm).mono ?_
    rintro _ w' ⟨v', l, rfl, h1, h2⟩
    exact ⟨v', l, rfl, by unfold allO; rw [hm]; exact h1, h2⟩
  | false =>
    refine (ropers0 n L v w h hn hm).mono ?_
    rintro _ w' ⟨rfl, hb⟩
    exact ⟨_, [], rfl, by unfold allO; rw [hm]; rfl, ⟨rfl, .inl ⟨rfl, rfl⟩⟩, by simp, hb⟩
theorem qSeq (fid : FuncId) (caps : Array Value) : ∀ w : World, (binOp BinOp.eql 37 (.func (.func fid) #[] caps) .nilFunc).run Try.prog w = .ok (.bool false) w := fun _ => by kernel_rfl
/-- A boxed row of opers gets one more, at a step of a region that draws. -/
theorem step_append_ob {ops : Array Oper} {o : Oper} {a : Act} {w : World} {K : Act → World → Prop} {Q : Exit → Act → World → Prop} {E : Prop} (hgd : o.guard = none) (s x : Operand)
    (ho : o.op = .call { callee := .builtin .append, args := #[s, x], argTypes := #[25, 25] })
    (B : Nat) (v : Value) (l : List (Opr × Value)) (e : Opr × Value) (hs : a.eval s = v) (hown : OwnO w B v l) (ad : Addr) (c : Nat) (hx : a.eval x = .slice (some ad) 1 c) (hc : ∀ j u, (ocells e.1 e.2)[j]? = some u → w.cell? (ad.add j) = some u) (h1 : e.2.oneCell' = true) (hlen : l.length ≤ 1000000) (hB : B ≤ w.heap.size)
    (bx : Nat) (T : TypeId) (hbx : Boxed w bx T v) (hT : T ≠ 35)
    (h : ∀ g cap w', OwnO w' B (.slice (some ⟨g, 0, none⟩) (l.length + 1) cap) (l ++ [e]) → w.grownBy w' v.ownBlock → Boxed w' bx T v → w'.cell? ⟨bx, 0, none⟩ = some v → w'.frozen? ⟨bx, 0, none⟩ = false → K (a.put o.dst (.slice (some ⟨g, 0, none⟩) (l.length + 1) cap)) w') :
    if Region.wanted o (yielded ops a.tmps) = true then Oper.wp Try.prog o a w K Q else E := by
  obtain ⟨i0, z, hi, hz0, hzs, hz1, hz2⟩ := info_opr
  refine step_append_lies w hgd s x 25 ho B 35 i0 z 13 120 uOL hi hz0 hz1 hz2 hzs (by decide) v l.length (ocs l) hs hown ad 1 c (ocells e.1 e.2) hx rfl hc ?_ (by decide) (by unfold maxLen; omega) (by omega) hB _ rfl ?_
  · intro u hu
    simp only [ocells, cacells, ancells, List.mem_cons, List.mem_append, List.not_mem_nil, or_false] at hu
    rcases hu with rfl | ((rfl | rfl | rfl | rfl | rfl) | ((rfl | rfl | rfl | rfl | rfl) | (rfl | rfl))) <;> first | rfl | exact h1
  · intro g cap w' h4 h5 _ _
    have hb : Boxed w' bx T v := hbx.kept h5 (hbx.not_row hT hown)
    refine h g cap w' ?_ h5 hb hb.cell hb.frozen
    unfold OwnO
    rw [List.length_append, ocs_app]
    have e1 : ocs [e] = ocells e.1 e.2 := by simp [ocs]
    rw [e1]
    exact h4
set_option maxRecDepth 8000 in
set_option maxHeartbeats 16000000 in
theorem heachLaw (n : Nat) (L : Nat → Ev) (v : Value) (th till : Int) (w : World) (h : VR w v n L) : Calls Try.prog 4 #[v, .int .i64 th, .int .i64 till] w fun e w' => e = .returned (.bool true) ∧ Below w.heap.size w w' := by
  refine Calls.veil fun Q HQ => ?_
  obtain ⟨p, c, rfl, a1, a2, A3⟩ := h.parts
  have HV := Lib.hid h
  clear h
  go_enter Try.func4, Try.ntmps4
  go_upto_region 1 with fail
  generalize hV : World.alloc w _ = V0
  have HV0 := Lib.hid (show Below w.heap.size w V0 by rw [← hV]; exact below_new (Below.refl _ _) _)
  have HB0 := Lib.hid (show Boxed V0 w.heap.size 3 (.int .i64 till) by rw [← hV]; exact Boxed.new w _ _)
  clear hV
  go_wp2_with fail
  refine (hgreat n L _ _ (HV.out.below HV0.out)).mono ?_; rintro _ z1 ⟨b, rfl, hg, hb1⟩
  have HZ1 := Lib.hid (below_on HV0.out hb1)
  have HB1 := Lib.hid (show Boxed z1 w.heap.size 3 (.int .i64 till) from (hb1.block _ HB0.out.lt).trans HB0.out)
  clear hb1
  cases b with
  | true =>
    clear hg
    go_wp2_with fail
    refine (lives11_calls _).mono ?_; rintro _ z2 ⟨rfl, hb2⟩
    have HF := Lib.hid (below_on HZ1.out hb2)
    clear hb2
    go_wp2_with fail
    (try go_ret)
    rw [HQ.out]
    exact ⟨rfl, HF.out⟩
  | false =>
    obtain ⟨hn, hps⟩ := hg rfl
    have HN := Lib.hid hn
    have HPS := Lib.hid hps
    clear hg hn hps
    go_wp2_with fail
    refine (ropersA n L _ _ (HV.out.below HZ1.out) (by have := HN.out; omega)).mono ?_; rintro _ z3 ⟨v2, l2, rfl, hl2, ho2, hp2, hb2⟩
    have HB3 := Lib.hid (show Boxed z3 w.heap.size 3 (.int .i64 till) from (hb2.block _ HB1.out.lt).trans HB1.out)
    have HZ3 := Lib.hid (below_on HZ1.out hb2)
    obtain ⟨p2, c2, rfl, f1, f2, F3⟩ := own_partsP ho2 (fun x hx => (hp2 x hx).below hb2) hl2
    clear ho2 hp2 hl2 hb2
    have HAP := Lib.hid (show ∀ x ∈ allO L n, x.an.ps.length ≤ 1500 from allO_ps HPS.out)
    have HAL := Lib.hid (allO_len L n)
    obtain ⟨O, hO⟩ : ∃ O, O = allO L n := ⟨_, rfl⟩
    rw [← hO] at f1 F3 HAP HAL
    rw [← hO]
    have HO := Lib.hid hO
    clear hO
    obtain ⟨m, hm⟩ : ∃ m, m = O.length := ⟨_, rfl⟩
    rw [← hm] at f1 F3 HAL
    have HOM := Lib.hid hm
    rw [← hm]
    clear hm
    have hm2 : m ≤ 120 := by have := HAL.out; have := HN.out; omega
    go_upto_region 5 with fail
    generalize hV : World.alloc z3 _ = Y
    have HYB := Lib.hid (show Below z3.heap.size z3 Y by rw [← hV]; exact below_new (Below.refl _ _) _)
    have HYX := Lib.hid (show Boxed Y z3.heap.size 25 (.slice none 0 0) by rw [← hV]; exact Boxed.new z3 _ _)
    clear hV
    go_wp2_with fail
    go_loopw [9] (fun iv wr => ∃ i : Nat, i ≤ m ∧ iv = .int .i64 i ∧ ∃ (lx : List (Opr × Value)) (vx : Value), Hid (lx.map (·.1) = thO th (O.take i)) ∧ Hid (Boxed wr z3.heap.size 25 vx) ∧ Hid (OwnO wr z3.heap.size vx lx) ∧ Hid (∀ y ∈ lx, PR z3 y.2 y.1.an.ps) ∧ Below z3.heap.size z3 wr)
      (fun iv _ => m - (intOf iv).toNat)
    case atStart => exact ⟨0, by omega, rfl, [], _, Lib.hid (by simp [thO]), HYX, Lib.hid ⟨rfl, .inl ⟨rfl, rfl⟩⟩, Lib.hid (by simp), HYB.out⟩
    case round =>
      obtain ⟨i, hi, rfl, lx, vx, HLX, HBX, HOX, HPP, hbx⟩ := hrel
      have HX := Lib.hid hbx
      have HLL := Lib.hid (show lx.length ≤ i by
        have h1 := congrArg List.length HLX.out
        rw [List.length_map] at h1
        have := thO_take_len th O i
        omega)
      clear hbx
      rcases (by omega : i < m ∨ i = m) with hlt | hEQ
      · obtain ⟨g, rfl, hD⟩ := F3.out (by omega)
        obtain ⟨x, hx⟩ : ∃ x, O[i]? = some x := ⟨_, List.getElem?_eq_getElem (by have := HOM.out; omega)⟩
        obtain ⟨u, hC, hPu⟩ := hD i x hx
        have hC := hC.below HX.out
        have HPX := Lib.hid hPu
        have HTK := Lib.hid (thO_succ th O i x hx)
        clear hPu hD hx
        obtain ⟨px, cx, rfl, _, _⟩ := HPX.out.slice
        obtain ⟨x0, x1, x2, x3, x4, x5, x6, x7, x8, x9, x10, x11, x12⟩ := hC
        by_cases hte : x.th = th
        · rw [if_pos hte] at HTK
          have HTE := Lib.hid hte
          go_upto_region 9 with fail
          clear hte
          obtain ⟨pv, cv, rfl, _, _⟩ := own_sliceQ HOX.out
          have bc := HBX.out.cell
          have bcn : ∀ o, (wr.alloc o).cell? ⟨z3.heap.size, 0, none⟩ = _ := Ext.on bc
          have hll : lx.length ≤ 120 := by have := HLL.out; omega
          have HOD := Lib.hid (fun y : Ext wr => own_keptO HOX.out y.h)
          have HBD := Lib.hid (fun y : Ext wr => (show Boxed y.w z3.heap.size 25 _ from (y.h.block _ HBX.out.lt).trans HBX.out))
          have HSD := Lib.hid (fun y : Ext wr => Nat.le_trans HX.out.size y.h.size)
          go_region_law ((refine step_append_ob (by rfl) (.tmp 32) (.tmp 37) (by rfl) z3.heap.size _ lx (x, .slice px x.an.ps.length cx) (by rfl) (HOD.out ⟨_, by (repeat (first | exact Below.refl _ _ | assumption | refine below_new ?_ _ | refine Below.drew ?_ | refine below_drewN ?_ _ | refine below_on ?_ (by assumption)))⟩) _ _ (by rfl) (fun j u hu => World.news_of_block (heap_alloc_new _ _) j u (by simpa [ocells, cacells, ancells] using hu)) rfl (by omega) (HSD.out ⟨_, by (repeat (first | exact Below.refl _ _ | assumption | refine below_new ?_ _ | refine Below.drew ?_ | refine below_drewN ?_ _ | refine below_on ?_ (by assumption)))⟩) z3.heap.size _ (HBD.out ⟨_, by (repeat (first | exact Below.refl _ _ | assumption | refine below_new ?_ _ | refine Below.drew ?_ | refine below_drewN ?_ _ | refine below_on ?_ (by assumption)))⟩) (by decide) ?_; intro g1 cap1 w2 hown hgrow hbx2 hbc hbf))
          all_goals
            obtain ⟨_, hv2, hr2, _, hb2⟩ := HBX.out.appended (by decide) HOX.out HX.out.size (Nat.le_refl _) hown ⟨hgrow.os, hgrow.tape, hgrow.output, hgrow.size, hgrow.block⟩
            have HV2 := Lib.hid hv2
            have HR2 := Lib.hid hr2
            have HB2 := Lib.hid hb2
            clear hv2 hr2 hb2 hown hgrow hbx2 hbc hbf bc bcn x0 x1 x2 x3 x4 x5 x6 x7 x8 x9 x10 x11 x12
            go_wp2_with fail
            go_roundw
            case rel =>
              refine ⟨i + 1, by omega, by go_num, lx ++ [(x, .slice px x.an.ps.length cx)], _, Lib.hid (by rw [HTK.out, List.map_append, HLX.out]; rfl), HV2, HR2, Lib.hid (fun y hy => ?_), HX.out.trans HB2.out⟩
              rcases List.mem_append.1 hy with hy | hy
              · exact HPP.out y hy
              · rw [List.mem_singleton.1 hy]; exact HPX.out
            case measure => simp [intOf]; omega
        · rw [if_neg hte, List.append_nil] at HTK
          clear x1 x2 x3 x4 x5 x6 x7 x8 x9 x10 x11 x12
          go_wp2_with fail
          go_roundw
          case rel => exact ⟨i + 1, by omega, by go_num, lx, vx, Lib.hid (by rw [HTK.out]; exact HLX.out), HBX, HOX, HPP, HX.out⟩
          case measure => simp [intOf]; omega
      · have hge : ¬ i < m := by omega
        have HLE := Lib.hid (show lx.map (·.1) = thO th O by rw [HLX.out, hEQ, HOM.out, List.take_length])
        clear hEQ HLX
        have HWX := Lib.hid (show Below w.heap.size w wr from HZ3.out.trans (HX.out.mono HZ3.out.size))
        have HTX := Lib.hid (show Boxed wr w.heap.size 3 (.int .i64 till) from (HX.out.block _ HB3.out.lt).trans HB3.out)
        go_wp2_with fail
        refine (heach n L th _ wr (HV.out.below HWX.out) (by have := HN.out; omega) (fun i hi => by have := HPS.out i hi; omega)).mono ?_
        rintro _ z ⟨b, q, ov, lo, rfl, hcq, hcb, _, hqlt, _, hblt, hl, ho, hp, hb1⟩
        rw [← HO.out] at hl
        obtain ⟨p4, c4, rfl, d1, d2, D3⟩ := own_partsP ho (fun x hx => (hp x hx).1) hl
        have HZX := Lib.hid (show Below w.heap.size w z from below_on HWX.out hb1)
        have HTZ := Lib.hid (show Boxed z w.heap.size 3 (.int .i64 till) from (hb1.block _ HTX.out.lt).trans HTX.out)
        have HBZ := Lib.hid (show Boxed z z3.heap.size 25 vx from (hb1.block _ HBX.out.lt).trans HBX.out)
        have HOZ := Lib.hid (own_keptO HOX.out hb1)
        obtain ⟨p5, c5, rfl, g1, g2, G3⟩ := own_partsP HOZ.out (fun y hy => (HPP.out y hy).below (below_on HX.out hb1)) HLE.out
        rw [← HOM.out] at d1 D3
        have HCQ := Lib.hid hcq
        have HCB := Lib.hid hcb
        rw [← HOM.out] at HCB
        clear hcq hcb hqlt hblt hl ho hp hb1
        obtain ⟨mx, hmx⟩ : ∃ mx, mx = (thO th O).length := ⟨_, rfl⟩
        rw [← hmx] at g1 G3 HBZ
        have HMX := Lib.hid hmx
        have HMX2 := Lib.hid (show mx ≤ 120 by rw [hmx]; have := thO_take_len th O m; rw [HOM.out, List.take_length] at this; have := HOM.out; omega)
        clear hmx
        have qs := qSeq
        go_upto_region 15 with fail
        clear qs
        generalize hV : World.alloc (World.alloc z _) _ = Z
        have HJ0 := Lib.hid (show CB z 0 Z by
          rw [← hV]
          refine ⟨(Boxed.new z 3 (.int .i64 0)).alloc (.cells #[.bool true] 4), ?_, below_new (below_new (Below.refl _ _) _) _⟩
          have := Boxed.new (z.alloc (.cells #[.int .i64 0] 3)) 4 (.bool true)
          rwa [World.size_alloc] at this)
        clear hV
        go_wp2_with fail
        refine (hiter_fn _ _ _ _ b q c4 m th till O z p4 HOM.out HCB.out HCQ.out d1 d2 (by omega) D3 (Lib.hid (fun x hx => by have := HAP.out x hx; omega)) (CB z) Z (Lib.hid HJ0.out.bel) (Lib.hid (fun i A B hA hb => hA.below hb)) (Lib.hid (fun i A hA => hA.bel))
          (Lib.hid (fun j x px cx W1 hJ hx hP => hcb z z3.heap.size w.heap.size till (thO th O) p5 c5 mx HMX.out HBZ.out.cell HTZ.out.cell g1 g2 G3 (by have := HMX2.out; omega) j x px cx W1 hJ hx hP (HAP.out x (by have := List.mem_of_getElem? hx; unfold thO at this; exact (List.mem_filter.1 this).1)))) HJ0).mono ?_
        rintro _ z9 ⟨⟨rv, rfl⟩, k, hJk, hend⟩
        have HJK := Lib.hid hJk
        have c8 := (show z9.cell? ⟨z3.heap.size, 0, none⟩ = _ from Ext.cell ⟨z9, hJk.bel⟩ HBZ.out.cell)
        have c5' := (show z9.cell? ⟨w.heap.size, 0, none⟩ = _ from Ext.cell ⟨z9, hJk.bel⟩ HTZ.out.cell)
        have cf := hJk.fine.cell
        have ci := hJk.cnt.cell
        have HE := Lib.hid (show (till ≤ 0 ∧ k = mx) ∨ (0 < till ∧ till < mx ∧ (k : Int) = till) ∨ (0 < till ∧ (mx : Int) ≤ till ∧ k = mx) by
          have hm := HMX.out
          rcases hend with ⟨h1, h2⟩ | ⟨h1, h2, h3⟩
          · by_cases h0 : till ≤ 0
            · exact .inl ⟨h0, by omega⟩
            · have h4 := h2 till.toNat
              by_cases h5 : (mx : Int) ≤ till
              · exact .inr (.inr ⟨by omega, h5, by omega⟩)
              · exact absurd (by omega) (h4 (by omega) (by omega))
          · by_cases h5 : (mx : Int) ≤ till
            · exact .inr (.inr ⟨by omega, h5, by omega⟩)
            · exact .inr (.inl ⟨by omega, by omega, h3⟩))
        have HF9 := Lib.hid (show Below w.heap.size w z9 from below_on HZX.out hJk.bel)
        clear hJk hend
        rcases HE.out with ⟨e1, rfl⟩ | ⟨e1, e2, rfl⟩ | ⟨e1, e2, rfl⟩
        · have hle : ¬ 0 < till := by omega
          go_wp2_with fail
          refine (lives11_calls _).mono ?_; rintro _ za ⟨rfl, hb2⟩
          have HF := Lib.hid (below_on HF9.out hb2)
          clear hb2
          go_wp2_with fail
          (try go_ret)
          rw [HQ.out]
          exact ⟨rfl, HF.out⟩
        · go_wp2_with fail
          refine (lives11_calls _).mono ?_; rintro _ za ⟨rfl, hb2⟩
          have HF := Lib.hid (below_on HF9.out hb2)
          clear hb2
          go_wp2_with fail
          (try go_ret)
          rw [HQ.out]
          exact ⟨rfl, HF.out⟩
        · have hle : ¬ till < (k : Int) := by omega
          go_wp2_with fail
          refine (lives11_calls _).mono ?_; rintro _ za ⟨rfl, hb2⟩
          have HF := Lib.hid (below_on HF9.out hb2)
          clear hb2
          go_wp2_with fail
          (try go_ret)
          rw [HQ.out]
          exact ⟨rfl, HF.out⟩
end Go.Proofs.Ytmnmomiheenmpaa
