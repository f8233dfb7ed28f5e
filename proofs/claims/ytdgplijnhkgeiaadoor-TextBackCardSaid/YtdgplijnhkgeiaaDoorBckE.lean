/- Layer 35: the walk of TextBack, VAR=O. (By gen_bckc.py.) -/
import Derived.Test.YtdgplijnhkgeiaaDoorBckC
namespace Go.Proofs.YtdgplijnhkgeiaaDoor
open Go.RowKit
open Go.Lib (itoa)
set_option linter.unusedVariables false
set_option linter.unusedSimpArgs false
set_option maxRecDepth 16000 in
set_option maxHeartbeats 8000000 in
theorem textBack_O (n : Nat) (L : Nat → Ev) (v0 : Value) (l : List UInt8) (w : World) (hv : VR w v0 n L) (he : ∀ i, i < n → EvI (L i)) (hn : n ≤ 60) (hl : l.length ≤ 4000) (hT : VB w.heap.size w) (m : List Ev) (hh : histL (splitL 10 l) = .ok m) :
    Calls Tryd.prog 5 #[v0, tx l] w fun e w' => e = .returned (.bool true) ∧ Below w.heap.size w w' := by
  refine Calls.veil fun Q HQ => ?_
  obtain ⟨p, c, rfl, hc1, hc2, HA⟩ := hv.parts
  have HT := Lib.hid hT
  have HE := Lib.hid he
  have hsz : (⟨l.toArray⟩ : ByteArray).size = l.length := by show l.toArray.size = _; simp
  have HTH := Lib.hid (treadhist l w hl hT)
  have h0 : ¬ (60 : Int) < (n : Int) := by omega
  have h1 : ¬ (4000 : Int) < (l.length : Int) := by omega
  have HN := Lib.hid hn
  have hl4 := hl
  rw [hh] at HTH
  clear hv he hT hl hn
  obtain ⟨b1, b2, b3, b4⟩ := back_bounds hl4 hh
  have HTH : Hid (Calls Tryd.prog 13 #[tx l] w fun e w' => ∃ v, e = .returned (.tuple #[v, .int .i64 0]) ∧ VL w' v m ∧ Below w.heap.size w w') := HTH
  have HBD := Lib.hid (And.intro b1 (And.intro b2 (And.intro b3 b4)))
  clear hh hl4 b1 b2 b3 b4
  go_enter Tryd.func5, Tryd.ntmps5
  go_wp2_with fail
  refine HTH.out.mono ?_; rintro _ w1 ⟨v, rfl, hvl, hb⟩
  have TH := thist (w := w1) (v := v) (n := m.length) (L := fun i => m.getD i zeroE) hvl HBD.out.1 HBD.out.2.1 HBD.out.2.2.1 (HT.out.pw hb)
  rw [HBD.out.2.2.2] at TH
  have TH := Lib.hid TH
  have HB0 := Lib.hid hb
  clear hb hvl
  go_wp2_with fail
  refine TH.out.mono ?_; rintro _ w2 ⟨rfl, hb⟩
  have HB1 := Lib.hid (below_on HB0.out hb)
  clear hb TH HB0
  obtain ⟨w1, hw1⟩ : ∃ x, x = w2 := ⟨_, rfl⟩
  rw [← hw1] at HB1 ⊢
  clear hw1
  go_wp2_with fail
  have h9 : n ≤ 60 := HN.out
  clear h9
  go_loopw [7] (fun iv wr => ∃ i : Nat, i ≤ n ∧ iv = .int .i64 i ∧ Hid (Below w.heap.size w wr)) (fun iv _ => n - (intOf iv).toNat)
  case atStart => exact ⟨0, Nat.zero_le _, rfl, HB1⟩
  case round =>
    obtain ⟨i, hi, rfl, HW⟩ := hrel
    rcases or_lt hi with hlt | heq
    · obtain ⟨g, o, rfl, hat0⟩ := HA.out (Nat.lt_of_le_of_lt (Nat.zero_le _) hlt)
      obtain ⟨fv, hc, hpr⟩ := hat0.cells i hlt
      have HEI := Lib.hid (HE.out i hlt)
      have hc := evc_below hc HW.out
      have HPR := Lib.hid (hpr.below HW.out)
      obtain ⟨fp, fc, rfl, _, _⟩ := hpr.slice
      clear hpr hat0
      generalize L i = e at hc HPR HEI
      obtain ⟨th, bk, ⟨cop, ckey, cval, chi, clim⟩, ⟨ak, akey, aval, an, ps⟩⟩ := e
      have HCI := Lib.hid (show ∀ p, I64 (partI ⟨cop, ckey, cval, chi, clim⟩ p) from HEI.out.part)
      have HAI := Lib.hid (show AnI ⟨ak, akey, aval, an, ps⟩ from ⟨HEI.out.ps, HEI.out.ak, HEI.out.av, HEI.out.an⟩)
      obtain ⟨mp, hmp⟩ : ∃ m, m = ps.length := ⟨_, rfl⟩
      have HMP := Lib.hid hmp
      simp only at hc HPR
      rw [← hmp] at hc HPR
      have hii : (i : Int) < (n : Int) := by omega
      have hw1 : wrap64 ((i : Int) + 1) = (i : Int) + 1 := wrap_id ⟨by omega, by have := HN.out; omega⟩
      have hw2 : IntKind.i64.wrap ((i : Int) + 1) = (i : Int) + 1 := wrapi_id ⟨by omega, by have := HN.out; omega⟩
      clear hmp HEI
      have x7 := hc.c7; have x8 := hc.c8; have x9 := hc.c9; have x10 := hc.c10; have x11 := hc.c11
      simp only at x7 x8 x9 x10 x11
      by_cases hp2 : 200 < mp
      · have k1 : (200 : Int) < (mp : Int) := by omega
        clear hp2
        go_wp2_with fail
        refine (lives35_calls (HT.out.pw HW.out)).mono ?_; rintro _ z9 ⟨rfl, hb⟩
        go_wp2_with fail
        (try go_ret)
        rw [HQ.out]
        exact ⟨rfl, below_on HW.out hb⟩
      have k1 : ¬ (200 : Int) < (mp : Int) := by omega
      have HP2 := Lib.hid (show ps.length ≤ 200 by have := HMP.out; omega)
      clear hp2
      go_upto_region 12 with fail
      obtain ⟨AB, hAB⟩ : ∃ C, C = wr.heap.size := ⟨_, rfl⟩
      rw [← hAB]
      generalize hU : World.alloc wr _ = V5
      have G5 := Lib.hid (show Below w.heap.size w V5 ∧ Below wr.heap.size wr V5 ∧ V5.heap[AB]? = some (.cells (ancells ⟨ak, akey, aval, an, ps⟩ (.slice fp mp fc)).toArray 33 (0, 0)) by
        rw [← hU, hAB]; exact ⟨below_new HW.out _, below_new (Below.refl _ _) _, heap_alloc_new wr _⟩)
      clear hU hAB x7 x8 x9 x10 x11
      have HPR5 := Lib.hid (HPR.out.below G5.out.2.1)
      have HTA := Lib.hid (fun (W : World) (k : Below w.heap.size w W) (kp : PR W (.slice fp mp fc) ps) => tanswer ⟨ak, akey, aval, an, ps⟩ (av := .slice fp mp fc) kp HAI.out.ps (by have := HP2.out; show ps.length ≤ 4001; omega) HAI.out.ak HAI.out.av HAI.out.an (HT.out.pw k))
      have HAR := Lib.hid (ans_round HAI.out)
      have HAL := Lib.hid (answerT_200 _ HAI.out HP2.out)
      obtain ⟨at', hat'⟩ : ∃ x, x = answerT ⟨ak, akey, aval, an, ps⟩ := ⟨_, rfl⟩
      rw [← hat'] at HTA HAR HAL
      clear hat'
      simp only at HTA
      have u0 : V5.cell? ⟨AB, 0, none⟩ = some (.int .i64 ak) := rowc G5.out.2.2 _ rfl
      have u1 : V5.cell? ⟨AB, 1, none⟩ = some (.int .i64 akey) := rowc G5.out.2.2 _ rfl
      have u2 : V5.cell? ⟨AB, 2, none⟩ = some (.int .i64 aval) := rowc G5.out.2.2 _ rfl
      have u3 : V5.cell? ⟨AB, 3, none⟩ = some (.int .i64 an) := rowc G5.out.2.2 _ rfl
      have u4 : V5.cell? ⟨AB, 4, none⟩ = some (.slice fp mp fc) := rowc G5.out.2.2 _ rfl
      go_wp2_with fail
      refine (HTA.out V5 G5.out.1 HPR5.out).mono ?_; rintro _ V6 ⟨rfl, hb⟩
      have G6 := Lib.hid (show Below w.heap.size w V6 ∧ Below wr.heap.size wr V6 ∧ V6.heap[AB]? = some (.cells (ancells ⟨ak, akey, aval, an, ps⟩ (.slice fp mp fc)).toArray 33 (0, 0)) ∧ PR V6 (.slice fp mp fc) ps from ⟨below_on G5.out.1 hb, below_on G5.out.2.1 hb, upk hb G5.out.2.2, HPR5.out.below hb⟩)
      clear hb u0 u1 u2 u3 u4 G5 HPR5
      by_cases hat : at' = []
      · subst hat
        have hcu := evc_below hc G6.out.2.1
        have HBU := Lib.hid G6.out.1
        clear hc HTA HAR HAL
        obtain ⟨UU, hUU⟩ : ∃ x, x = V6 := ⟨_, rfl⟩
        rw [← hUU] at hcu HBU ⊢
        clear hUU G6
        have x2 := hcu.c2; have x3 := hcu.c3; have x4 := hcu.c4; have x5 := hcu.c5; have x6 := hcu.c6
        simp only at x2 x3 x4 x5 x6
        go_upto_region 17 with fail
        obtain ⟨CB, hCB⟩ : ∃ C, C = UU.heap.size := ⟨_, rfl⟩
        rw [← hCB]
        generalize hU : World.alloc UU _ = U5
        have F5 := Lib.hid (show Below w.heap.size w U5 ∧ U5.heap[CB]? = some (.cells (cacells ⟨cop, ckey, cval, chi, clim⟩).toArray 26 (0, 0)) by
          rw [← hU, hCB]; exact ⟨below_new HBU.out _, heap_alloc_new UU _⟩)
        clear hU hCB hcu x2 x3 x4 x5 x6 HBU
        have y0 : U5.cell? ⟨CB, 0, none⟩ = some (.int .i64 cop) := rowc F5.out.2 _ rfl
        have y1 : U5.cell? ⟨CB, 1, none⟩ = some (.int .i64 ckey) := rowc F5.out.2 _ rfl
        have y2 : U5.cell? ⟨CB, 2, none⟩ = some (.int .i64 cval) := rowc F5.out.2 _ rfl
        have y3 : U5.cell? ⟨CB, 3, none⟩ = some (.int .i64 chi) := rowc F5.out.2 _ rfl
        have y4 : U5.cell? ⟨CB, 4, none⟩ = some (.int .i64 clim) := rowc F5.out.2 _ rfl
        go_wp2_with fail
        refine (tcall ⟨cop, ckey, cval, chi, clim⟩ HCI.out (HT.out.pw F5.out.1)).mono ?_; rintro _ U6 ⟨rfl, hb⟩
        have F6 := Lib.hid (show Below w.heap.size w U6 ∧ U6.heap[CB]? = some (.cells (cacells ⟨cop, ckey, cval, chi, clim⟩).toArray 26 (0, 0)) from ⟨below_on F5.out.1 hb, upk hb F5.out.2⟩)
        clear hb y0 y1 y2 y3 y4 F5
        have HCR := Lib.hid (call_round (c := ⟨cop, ckey, cval, chi, clim⟩) HCI.out)
        have HCL := Lib.hid (callT_len ⟨cop, ckey, cval, chi, clim⟩ HCI.out)
        have HTC := Lib.hid (fun (W : World) (k : Below w.heap.size w W) => tcall ⟨cop, ckey, cval, chi, clim⟩ HCI.out (HT.out.pw k))
        obtain ⟨ct, hct⟩ : ∃ x, x = callT ⟨cop, ckey, cval, chi, clim⟩ := ⟨_, rfl⟩
        rw [← hct] at HCR HCL HTC ⊢
        clear hct
        by_cases hct : ct = []
        · subst hct
          go_wp2_with fail
          go_roundw
          case rel => exact ⟨i + 1, rel_le hlt, by go_num, Lib.hid F6.out.1⟩
          case measure => exact meas1 hlt
        · have k5 : (ct == []) = false := beq_eq_false_iff_ne.2 hct
          have k6 : ¬ ct = [] := hct
          obtain ⟨c', r1, r2, r3, r4⟩ := HCR.out hct
          have HRC := Lib.hid (fun (W : World) (k : Below w.heap.size w W) => treadcall_ok ct W (by have := HCL.out; omega) (HT.out.on k) c' r1)
          have HTC' := Lib.hid (fun (W : World) (k : Below w.heap.size w W) => tcall c' r4 (HT.out.pw k))
          rw [r3] at HTC'
          obtain ⟨cop', ckey', cval', chi', clim'⟩ := c'
          have r2 : cop' = cop := r2
          subst r2
          clear r1 r3 r4 hct HCR
          have y0 : U6.cell? ⟨CB, 0, none⟩ = some (.int .i64 cop') := rowc F6.out.2 _ rfl
          have y1 : U6.cell? ⟨CB, 1, none⟩ = some (.int .i64 ckey) := rowc F6.out.2 _ rfl
          have y2 : U6.cell? ⟨CB, 2, none⟩ = some (.int .i64 cval) := rowc F6.out.2 _ rfl
          have y3 : U6.cell? ⟨CB, 3, none⟩ = some (.int .i64 chi) := rowc F6.out.2 _ rfl
          have y4 : U6.cell? ⟨CB, 4, none⟩ = some (.int .i64 clim) := rowc F6.out.2 _ rfl
          go_wp2_with fail
          refine (HTC.out U6 F6.out.1).mono ?_; rintro _ U7 ⟨rfl, hb⟩
          have F7 := Lib.hid (show Below w.heap.size w U7 ∧ U7.heap[CB]? = some (.cells (cacells ⟨cop', ckey, cval, chi, clim⟩).toArray 26 (0, 0)) from ⟨below_on F6.out.1 hb, upk hb F6.out.2⟩)
          clear hb y0 y1 y2 y3 y4 F6
          go_wp2_with fail
          refine (HRC.out U7 F7.out.1).mono ?_; rintro _ U8 ⟨rfl, hb⟩
          have F8 := Lib.hid (show Below w.heap.size w U8 ∧ U8.heap[CB]? = some (.cells (cacells ⟨cop', ckey, cval, chi, clim⟩).toArray 26 (0, 0)) from ⟨below_on F7.out.1 hb, upk hb F7.out.2⟩)
          clear hb F7 HRC
          go_upto_region 19 with fail
          obtain ⟨CX, hCX⟩ : ∃ C, C = U8.heap.size := ⟨_, rfl⟩
          rw [← hCX]
          generalize hU : World.alloc U8 _ = U9
          have F9 := Lib.hid (show Below w.heap.size w U9 ∧ U9.heap[CB]? = some (.cells (cacells ⟨cop', ckey, cval, chi, clim⟩).toArray 26 (0, 0)) ∧ U9.heap[CX]? = some (.cells (cacells ⟨cop', ckey', cval', chi', clim'⟩).toArray 26 (0, 0)) by
            rw [← hU, hCX]; exact ⟨below_new F8.out.1 _, upk (below_new (Below.refl _ _) _) F8.out.2, heap_alloc_new U8 _⟩)
          clear hU hCX F8
          have y0 := Ext.cells (show U9.cell? ⟨CB, 0, none⟩ = some (.int .i64 cop') from rowc F9.out.2.1 _ rfl)
          have y1 := Ext.cells (show U9.cell? ⟨CB, 1, none⟩ = some (.int .i64 ckey) from rowc F9.out.2.1 _ rfl)
          have y2 := Ext.cells (show U9.cell? ⟨CB, 2, none⟩ = some (.int .i64 cval) from rowc F9.out.2.1 _ rfl)
          have y3 := Ext.cells (show U9.cell? ⟨CB, 3, none⟩ = some (.int .i64 chi) from rowc F9.out.2.1 _ rfl)
          have y4 := Ext.cells (show U9.cell? ⟨CB, 4, none⟩ = some (.int .i64 clim) from rowc F9.out.2.1 _ rfl)
          have z0 := Ext.cells (show U9.cell? ⟨CX, 0, none⟩ = some (.int .i64 cop') from rowc F9.out.2.2 _ rfl)
          have z1 := Ext.cells (show U9.cell? ⟨CX, 1, none⟩ = some (.int .i64 ckey') from rowc F9.out.2.2 _ rfl)
          have z2 := Ext.cells (show U9.cell? ⟨CX, 2, none⟩ = some (.int .i64 cval') from rowc F9.out.2.2 _ rfl)
          have z3 := Ext.cells (show U9.cell? ⟨CX, 3, none⟩ = some (.int .i64 chi') from rowc F9.out.2.2 _ rfl)
          have z4 := Ext.cells (show U9.cell? ⟨CX, 4, none⟩ = some (.int .i64 clim') from rowc F9.out.2.2 _ rfl)
          (with_reducible refine wp_region_mix (fun w' => ∃ y : Ext U9, w' = y.w) ?_ ?_ ?_ ?_; kernel_rfl; kernel_rfl; exact ⟨⟨U9.drew, (Below.refl _ _).drew⟩, rfl⟩)
          repeat (first | ((with_reducible refine mix_skip (by kernel_rfl) ?_); go_big_quiet_skip; (with_reducible refine mix_on ?_)) | ((with_reducible refine mix_plain (by kernel_rfl) ?_); (first | go_big_quiet_skip | (go_big_quiet_want; go_big_quiet_op; go_big_quiet_on)); (with_reducible refine mix_on ?_)))
          ((with_reducible refine wpMix_chain (by kernel_rfl) (by kernel_rfl) (fun K HK => ?_)); go_step)
          refine (HTC'.out _ (below_on F9.out.1 (Below.refl _ _).drew)).mono ?_; rintro _ X1 ⟨rfl, hb1⟩
          have HX1 := Lib.hid (below_on (Below.refl U9.heap.size U9).drew hb1)
          refine HK.out _ _ ⟨⟨X1, HX1.out⟩, rfl⟩ ?_
          clear HK K hb1
          repeat (first | ((with_reducible refine mix_skip (by kernel_rfl) ?_); go_big_quiet_skip; (with_reducible refine mix_on ?_)) | ((with_reducible refine mix_plain (by kernel_rfl) ?_); (first | go_big_quiet_skip | (go_big_quiet_want; go_big_quiet_op; go_big_quiet_on)); (with_reducible refine mix_on ?_)))
          ((with_reducible refine wpMix_chain (by kernel_rfl) (by kernel_rfl) (fun K HK => ?_)); go_step)
          refine (HTC.out _ (below_on F9.out.1 HX1.out)).mono ?_; rintro _ X2 ⟨rfl, hb1⟩
          have HX2 := Lib.hid (below_on HX1.out hb1)
          refine HK.out _ _ ⟨⟨X2, HX2.out⟩, rfl⟩ ?_
          clear HK K hb1
          repeat (first | ((with_reducible refine mix_skip (by kernel_rfl) ?_); go_big_quiet_skip; (with_reducible refine mix_on ?_)) | ((with_reducible refine mix_plain (by kernel_rfl) ?_); (first | go_big_quiet_skip | (go_big_quiet_want; go_big_quiet_op; go_big_quiet_on)); (with_reducible refine mix_on ?_)))
          refine wpMix_nil ?_
          go_wp2_with fail
          go_roundw
          case rel => exact ⟨i + 1, rel_le hlt, by go_num, Lib.hid (below_on F9.out.1 HX2.out)⟩
          case measure => exact meas1 hlt
      · have k5 : (at' == []) = false := beq_eq_false_iff_ne.2 hat
        have k6 : ¬ at' = [] := hat
        obtain ⟨a', r1, r2, r3, r4, r5⟩ := HAR.out hat
        have HRA := Lib.hid (fun (W : World) (k : Below w.heap.size w W) => treadanswer_ok at' W (by have := HAL.out; omega) (HT.out.on k) a' r1)
        have HTA' := Lib.hid (fun (W : World) (av : Value) (k : Below w.heap.size w W) (kp : PR W av a'.ps) => tanswer a' kp r4.ps (by have := HP2.out; have h : a'.ps.length ≤ ps.length := r5; omega) r4.ak r4.av r4.an (HT.out.pw k))
        rw [r3] at HTA'
        obtain ⟨bk', bkey, bval, bn, bps⟩ := a'
        have r2 : bk' = ak := r2
        subst r2
        simp only [ancells] at HRA
        simp only at HTA'
        clear r1 r3 r4 r5 hat HAR
        have u0 : V6.cell? ⟨AB, 0, none⟩ = some (.int .i64 bk') := rowc G6.out.2.2.1 _ rfl
        have u1 : V6.cell? ⟨AB, 1, none⟩ = some (.int .i64 akey) := rowc G6.out.2.2.1 _ rfl
        have u2 : V6.cell? ⟨AB, 2, none⟩ = some (.int .i64 aval) := rowc G6.out.2.2.1 _ rfl
        have u3 : V6.cell? ⟨AB, 3, none⟩ = some (.int .i64 an) := rowc G6.out.2.2.1 _ rfl
        have u4 : V6.cell? ⟨AB, 4, none⟩ = some (.slice fp mp fc) := rowc G6.out.2.2.1 _ rfl
        go_wp2_with fail
        refine (HTA.out V6 G6.out.1 G6.out.2.2.2).mono ?_; rintro _ V7 ⟨rfl, hb⟩
        have G7 := Lib.hid (show Below w.heap.size w V7 ∧ Below wr.heap.size wr V7 ∧ V7.heap[AB]? = some (.cells (ancells ⟨bk', akey, aval, an, ps⟩ (.slice fp mp fc)).toArray 33 (0, 0)) ∧ PR V7 (.slice fp mp fc) ps from ⟨below_on G6.out.1 hb, below_on G6.out.2.1 hb, upk hb G6.out.2.2.1, G6.out.2.2.2.below hb⟩)
        clear hb u0 u1 u2 u3 u4 G6
        go_wp2_with fail
        refine (HRA.out V7 G7.out.1).mono ?_; rintro _ V8 ⟨xv, rfl, hxp, hb⟩
        have HXP := Lib.hid hxp
        obtain ⟨xp, xc, rfl, _, _⟩ := hxp.slice
        have G8 := Lib.hid (show Below w.heap.size w V8 ∧ Below wr.heap.size wr V8 ∧ V8.heap[AB]? = some (.cells (ancells ⟨bk', akey, aval, an, ps⟩ (.slice fp mp fc)).toArray 33 (0, 0)) ∧ PR V8 (.slice fp mp fc) ps from ⟨below_on G7.out.1 hb, below_on G7.out.2.1 hb, upk hb G7.out.2.2.1, G7.out.2.2.2.below hb⟩)
        clear hb G7 HRA hxp
        go_upto_region 14 with fail
        obtain ⟨AX, hAX⟩ : ∃ C, C = V8.heap.size := ⟨_, rfl⟩
        rw [← hAX]
        generalize hU : World.alloc V8 _ = V9
        have G9 := Lib.hid (show Below w.heap.size w V9 ∧ Below wr.heap.size wr V9 ∧ V9.heap[AB]? = some (.cells (ancells ⟨bk', akey, aval, an, ps⟩ (.slice fp mp fc)).toArray 33 (0, 0)) ∧ PR V9 (.slice fp mp fc) ps ∧ V9.heap[AX]? = some (.cells (ancells ⟨bk', bkey, bval, bn, bps⟩ (.slice xp bps.length xc)).toArray 33 (0, 0)) ∧ PR V9 (.slice xp bps.length xc) bps by
          rw [← hU, hAX]
          have hk : Below V8.heap.size V8 (V8.alloc (.cells #[.int .i64 bk', .int .i64 bkey, .int .i64 bval, .int .i64 bn, .slice xp bps.length xc] 33)) := below_new (Below.refl _ _) _
          exact ⟨below_new G8.out.1 _, below_on G8.out.2.1 hk, upk hk G8.out.2.2.1, G8.out.2.2.2.below hk, heap_alloc_new V8 _, HXP.out.below hk⟩)
        clear hU hAX G8 HXP
        have u0 := Ext.cells (show V9.cell? ⟨AB, 0, none⟩ = some (.int .i64 bk') from rowc G9.out.2.2.1 _ rfl)
        have u1 := Ext.cells (show V9.cell? ⟨AB, 1, none⟩ = some (.int .i64 akey) from rowc G9.out.2.2.1 _ rfl)
        have u2 := Ext.cells (show V9.cell? ⟨AB, 2, none⟩ = some (.int .i64 aval) from rowc G9.out.2.2.1 _ rfl)
        have u3 := Ext.cells (show V9.cell? ⟨AB, 3, none⟩ = some (.int .i64 an) from rowc G9.out.2.2.1 _ rfl)
        have u4 := Ext.cells (show V9.cell? ⟨AB, 4, none⟩ = some (.slice fp mp fc) from rowc G9.out.2.2.1 _ rfl)
        have t0 := Ext.cells (show V9.cell? ⟨AX, 0, none⟩ = some (.int .i64 bk') from rowc G9.out.2.2.2.2.1 _ rfl)
        have t1 := Ext.cells (show V9.cell? ⟨AX, 1, none⟩ = some (.int .i64 bkey) from rowc G9.out.2.2.2.2.1 _ rfl)
        have t2 := Ext.cells (show V9.cell? ⟨AX, 2, none⟩ = some (.int .i64 bval) from rowc G9.out.2.2.2.2.1 _ rfl)
        have t3 := Ext.cells (show V9.cell? ⟨AX, 3, none⟩ = some (.int .i64 bn) from rowc G9.out.2.2.2.2.1 _ rfl)
        have t4 := Ext.cells (show V9.cell? ⟨AX, 4, none⟩ = some (.slice xp bps.length xc) from rowc G9.out.2.2.2.2.1 _ rfl)
        (with_reducible refine wp_region_mix (fun w' => ∃ y : Ext V9, w' = y.w) ?_ ?_ ?_ ?_; kernel_rfl; kernel_rfl; exact ⟨⟨V9.drew, (Below.refl _ _).drew⟩, rfl⟩)
        repeat (first | ((with_reducible refine mix_skip (by kernel_rfl) ?_); go_big_quiet_skip; (with_reducible refine mix_on ?_)) | ((with_reducible refine mix_plain (by kernel_rfl) ?_); (first | go_big_quiet_skip | (go_big_quiet_want; go_big_quiet_op; go_big_quiet_on)); (with_reducible refine mix_on ?_)))
        ((with_reducible refine wpMix_chain (by kernel_rfl) (by kernel_rfl) (fun K HK => ?_)); go_step)
        refine (HTA'.out _ _ (below_on G9.out.1 (Below.refl _ _).drew) (G9.out.2.2.2.2.2.below (Below.refl _ _).drew)).mono ?_; rintro _ X1 ⟨rfl, hb1⟩
        have HX1 := Lib.hid (below_on (Below.refl V9.heap.size V9).drew hb1)
        refine HK.out _ _ ⟨⟨X1, HX1.out⟩, rfl⟩ ?_
        clear HK K hb1
        repeat (first | ((with_reducible refine mix_skip (by kernel_rfl) ?_); go_big_quiet_skip; (with_reducible refine mix_on ?_)) | ((with_reducible refine mix_plain (by kernel_rfl) ?_); (first | go_big_quiet_skip | (go_big_quiet_want; go_big_quiet_op; go_big_quiet_on)); (with_reducible refine mix_on ?_)))
        ((with_reducible refine wpMix_chain (by kernel_rfl) (by kernel_rfl) (fun K HK => ?_)); go_step)
        refine (HTA.out _ (below_on G9.out.1 HX1.out) (G9.out.2.2.2.1.below HX1.out)).mono ?_; rintro _ X2 ⟨rfl, hb1⟩
        have HX2 := Lib.hid (below_on HX1.out hb1)
        refine HK.out _ _ ⟨⟨X2, HX2.out⟩, rfl⟩ ?_
        clear HK K hb1
        repeat (first | ((with_reducible refine mix_skip (by kernel_rfl) ?_); go_big_quiet_skip; (with_reducible refine mix_on ?_)) | ((with_reducible refine mix_plain (by kernel_rfl) ?_); (first | go_big_quiet_skip | (go_big_quiet_want; go_big_quiet_op; go_big_quiet_on)); (with_reducible refine mix_on ?_)))
        refine wpMix_nil ?_
        have hcu := evc_below hc (below_on G9.out.2.1 HX2.out)
        have HBU := Lib.hid (below_on G9.out.1 HX2.out)
        clear hc HTA HTA' HAL u0 u1 u2 u3 u4 t0 t1 t2 t3 t4
        obtain ⟨UU, hUU⟩ : ∃ x, x = X2 := ⟨_, rfl⟩
        rw [← hUU] at hcu HBU ⊢
        clear hUU
        have x2 := hcu.c2; have x3 := hcu.c3; have x4 := hcu.c4; have x5 := hcu.c5; have x6 := hcu.c6
        simp only at x2 x3 x4 x5 x6
        go_upto_region 17 with fail
        obtain ⟨CB, hCB⟩ : ∃ C, C = UU.heap.size := ⟨_, rfl⟩
        rw [← hCB]
        generalize hU : World.alloc UU _ = U5
        have F5 := Lib.hid (show Below w.heap.size w U5 ∧ U5.heap[CB]? = some (.cells (cacells ⟨cop, ckey, cval, chi, clim⟩).toArray 26 (0, 0)) by
          rw [← hU, hCB]; exact ⟨below_new HBU.out _, heap_alloc_new UU _⟩)
        clear hU hCB hcu x2 x3 x4 x5 x6 HBU
        have y0 : U5.cell? ⟨CB, 0, none⟩ = some (.int .i64 cop) := rowc F5.out.2 _ rfl
        have y1 : U5.cell? ⟨CB, 1, none⟩ = some (.int .i64 ckey) := rowc F5.out.2 _ rfl
        have y2 : U5.cell? ⟨CB, 2, none⟩ = some (.int .i64 cval) := rowc F5.out.2 _ rfl
        have y3 : U5.cell? ⟨CB, 3, none⟩ = some (.int .i64 chi) := rowc F5.out.2 _ rfl
        have y4 : U5.cell? ⟨CB, 4, none⟩ = some (.int .i64 clim) := rowc F5.out.2 _ rfl
        go_wp2_with fail
        refine (tcall ⟨cop, ckey, cval, chi, clim⟩ HCI.out (HT.out.pw F5.out.1)).mono ?_; rintro _ U6 ⟨rfl, hb⟩
        have F6 := Lib.hid (show Below w.heap.size w U6 ∧ U6.heap[CB]? = some (.cells (cacells ⟨cop, ckey, cval, chi, clim⟩).toArray 26 (0, 0)) from ⟨below_on F5.out.1 hb, upk hb F5.out.2⟩)
        clear hb y0 y1 y2 y3 y4 F5
        have HCR := Lib.hid (call_round (c := ⟨cop, ckey, cval, chi, clim⟩) HCI.out)
        have HCL := Lib.hid (callT_len ⟨cop, ckey, cval, chi, clim⟩ HCI.out)
        have HTC := Lib.hid (fun (W : World) (k : Below w.heap.size w W) => tcall ⟨cop, ckey, cval, chi, clim⟩ HCI.out (HT.out.pw k))
        obtain ⟨ct, hct⟩ : ∃ x, x = callT ⟨cop, ckey, cval, chi, clim⟩ := ⟨_, rfl⟩
        rw [← hct] at HCR HCL HTC ⊢
        clear hct
        by_cases hct : ct = []
        · subst hct
          go_wp2_with fail
          go_roundw
          case rel => exact ⟨i + 1, rel_le hlt, by go_num, Lib.hid F6.out.1⟩
          case measure => exact meas1 hlt
        · have k5 : (ct == []) = false := beq_eq_false_iff_ne.2 hct
          have k6 : ¬ ct = [] := hct
          obtain ⟨c', r1, r2, r3, r4⟩ := HCR.out hct
          have HRC := Lib.hid (fun (W : World) (k : Below w.heap.size w W) => treadcall_ok ct W (by have := HCL.out; omega) (HT.out.on k) c' r1)
          have HTC' := Lib.hid (fun (W : World) (k : Below w.heap.size w W) => tcall c' r4 (HT.out.pw k))
          rw [r3] at HTC'
          obtain ⟨cop', ckey', cval', chi', clim'⟩ := c'
          have r2 : cop' = cop := r2
          subst r2
          clear r1 r3 r4 hct HCR
          have y0 : U6.cell? ⟨CB, 0, none⟩ = some (.int .i64 cop') := rowc F6.out.2 _ rfl
          have y1 : U6.cell? ⟨CB, 1, none⟩ = some (.int .i64 ckey) := rowc F6.out.2 _ rfl
          have y2 : U6.cell? ⟨CB, 2, none⟩ = some (.int .i64 cval) := rowc F6.out.2 _ rfl
          have y3 : U6.cell? ⟨CB, 3, none⟩ = some (.int .i64 chi) := rowc F6.out.2 _ rfl
          have y4 : U6.cell? ⟨CB, 4, none⟩ = some (.int .i64 clim) := rowc F6.out.2 _ rfl
          go_wp2_with fail
          refine (HTC.out U6 F6.out.1).mono ?_; rintro _ U7 ⟨rfl, hb⟩
          have F7 := Lib.hid (show Below w.heap.size w U7 ∧ U7.heap[CB]? = some (.cells (cacells ⟨cop', ckey, cval, chi, clim⟩).toArray 26 (0, 0)) from ⟨below_on F6.out.1 hb, upk hb F6.out.2⟩)
          clear hb y0 y1 y2 y3 y4 F6
          go_wp2_with fail
          refine (HRC.out U7 F7.out.1).mono ?_; rintro _ U8 ⟨rfl, hb⟩
          have F8 := Lib.hid (show Below w.heap.size w U8 ∧ U8.heap[CB]? = some (.cells (cacells ⟨cop', ckey, cval, chi, clim⟩).toArray 26 (0, 0)) from ⟨below_on F7.out.1 hb, upk hb F7.out.2⟩)
          clear hb F7 HRC
          go_upto_region 19 with fail
          obtain ⟨CX, hCX⟩ : ∃ C, C = U8.heap.size := ⟨_, rfl⟩
          rw [← hCX]
          generalize hU : World.alloc U8 _ = U9
          have F9 := Lib.hid (show Below w.heap.size w U9 ∧ U9.heap[CB]? = some (.cells (cacells ⟨cop', ckey, cval, chi, clim⟩).toArray 26 (0, 0)) ∧ U9.heap[CX]? = some (.cells (cacells ⟨cop', ckey', cval', chi', clim'⟩).toArray 26 (0, 0)) by
            rw [← hU, hCX]; exact ⟨below_new F8.out.1 _, upk (below_new (Below.refl _ _) _) F8.out.2, heap_alloc_new U8 _⟩)
          clear hU hCX F8
          have y0 := Ext.cells (show U9.cell? ⟨CB, 0, none⟩ = some (.int .i64 cop') from rowc F9.out.2.1 _ rfl)
          have y1 := Ext.cells (show U9.cell? ⟨CB, 1, none⟩ = some (.int .i64 ckey) from rowc F9.out.2.1 _ rfl)
          have y2 := Ext.cells (show U9.cell? ⟨CB, 2, none⟩ = some (.int .i64 cval) from rowc F9.out.2.1 _ rfl)
          have y3 := Ext.cells (show U9.cell? ⟨CB, 3, none⟩ = some (.int .i64 chi) from rowc F9.out.2.1 _ rfl)
          have y4 := Ext.cells (show U9.cell? ⟨CB, 4, none⟩ = some (.int .i64 clim) from rowc F9.out.2.1 _ rfl)
          have z0 := Ext.cells (show U9.cell? ⟨CX, 0, none⟩ = some (.int .i64 cop') from rowc F9.out.2.2 _ rfl)
          have z1 := Ext.cells (show U9.cell? ⟨CX, 1, none⟩ = some (.int .i64 ckey') from rowc F9.out.2.2 _ rfl)
          have z2 := Ext.cells (show U9.cell? ⟨CX, 2, none⟩ = some (.int .i64 cval') from rowc F9.out.2.2 _ rfl)
          have z3 := Ext.cells (show U9.cell? ⟨CX, 3, none⟩ = some (.int .i64 chi') from rowc F9.out.2.2 _ rfl)
          have z4 := Ext.cells (show U9.cell? ⟨CX, 4, none⟩ = some (.int .i64 clim') from rowc F9.out.2.2 _ rfl)
          (with_reducible refine wp_region_mix (fun w' => ∃ y : Ext U9, w' = y.w) ?_ ?_ ?_ ?_; kernel_rfl; kernel_rfl; exact ⟨⟨U9.drew, (Below.refl _ _).drew⟩, rfl⟩)
          repeat (first | ((with_reducible refine mix_skip (by kernel_rfl) ?_); go_big_quiet_skip; (with_reducible refine mix_on ?_)) | ((with_reducible refine mix_plain (by kernel_rfl) ?_); (first | go_big_quiet_skip | (go_big_quiet_want; go_big_quiet_op; go_big_quiet_on)); (with_reducible refine mix_on ?_)))
          ((with_reducible refine wpMix_chain (by kernel_rfl) (by kernel_rfl) (fun K HK => ?_)); go_step)
          refine (HTC'.out _ (below_on F9.out.1 (Below.refl _ _).drew)).mono ?_; rintro _ X1 ⟨rfl, hb1⟩
          have HX1 := Lib.hid (below_on (Below.refl U9.heap.size U9).drew hb1)
          refine HK.out _ _ ⟨⟨X1, HX1.out⟩, rfl⟩ ?_
          clear HK K hb1
          repeat (first | ((with_reducible refine mix_skip (by kernel_rfl) ?_); go_big_quiet_skip; (with_reducible refine mix_on ?_)) | ((with_reducible refine mix_plain (by kernel_rfl) ?_); (first | go_big_quiet_skip | (go_big_quiet_want; go_big_quiet_op; go_big_quiet_on)); (with_reducible refine mix_on ?_)))
          ((with_reducible refine wpMix_chain (by kernel_rfl) (by kernel_rfl) (fun K HK => ?_)); go_step)
          refine (HTC.out _ (below_on F9.out.1 HX1.out)).mono ?_; rintro _ X2 ⟨rfl, hb1⟩
          have HX2 := Lib.hid (below_on HX1.out hb1)
          refine HK.out _ _ ⟨⟨X2, HX2.out⟩, rfl⟩ ?_
          clear HK K hb1
          repeat (first | ((with_reducible refine mix_skip (by kernel_rfl) ?_); go_big_quiet_skip; (with_reducible refine mix_on ?_)) | ((with_reducible refine mix_plain (by kernel_rfl) ?_); (first | go_big_quiet_skip | (go_big_quiet_want; go_big_quiet_op; go_big_quiet_on)); (with_reducible refine mix_on ?_)))
          refine wpMix_nil ?_
          go_wp2_with fail
          go_roundw
          case rel => exact ⟨i + 1, rel_le hlt, by go_num, Lib.hid (below_on F9.out.1 HX2.out)⟩
          case measure => exact meas1 hlt
    · have hge : ¬ (i : Int) < (n : Int) := by omega
      clear heq
      go_wp2_with fail
      refine (lives35_calls (HT.out.pw HW.out)).mono ?_; rintro _ z9 ⟨rfl, hb⟩
      go_wp2_with fail
      (try go_ret)
      rw [HQ.out]
      exact ⟨rfl, below_on HW.out hb⟩
end Go.Proofs.YtdgplijnhkgeiaaDoor
