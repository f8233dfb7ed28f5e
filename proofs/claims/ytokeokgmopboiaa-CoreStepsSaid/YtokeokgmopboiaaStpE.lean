/- Layer 16: the walk of CoreSteps. -/
import Derived.Test.YtokeokgmopboiaaStpD
import Derived.Test.YtokeokgmopboiaaFrame
import Derived.Deep.CutRange
namespace Go.Proofs.Ytokeokgmopboiaa
open Go.RowKit WordM EdgeM
set_option linter.unusedVariables false
set_option linter.unusedSimpArgs false
theorem int_cells {w : World} {cs : List Value} (h : Fr.Sh.oks w [.int .i64] cs) : ∃ x : Int, cs = [.int .i64 x] := by
  obtain ⟨_, _, rfl, k0, h⟩ := Fr.get_cons h
  obtain rfl := Fr.get_nil h
  obtain ⟨x, rfl, _⟩ := Fr.get_int k0
  exact ⟨x, rfl⟩
theorem il_open {w : World} {v : Value} (h : Fr.ok1 w (.slice [.int .i64]) v) : ∃ ao len cap, v = .slice ao len cap ∧ len ≤ cap ∧ cap ≤ 9223372036854775807 ∧ ∀ i, i < len → ∃ g off, ao = some ⟨g, off, none⟩ ∧ ∃ x : Int, w.cell? ⟨g, off + i, none⟩ = some (.int .i64 x) := by
  rcases Fr.get_slice h with rfl | ⟨a, len, cap, rfl, h1, h2, h3⟩
  · exact ⟨none, 0, 0, rfl, Nat.le_refl _, by decide, fun i hi => by omega⟩
  · refine ⟨some a, len, cap, rfl, h1, h2, fun i hi => ?_⟩
    obtain ⟨cs0, h5, h6⟩ := h3 0 (by omega)
    obtain ⟨x, rfl⟩ := int_cells h6
    have hs : a.spot = none := by
      have h7 := (World.cells?_some h5).2.2 0 (by decide)
      exact World.cell?_spot (by simpa [Addr.add] using h7)
    obtain ⟨g, off, spot⟩ := a
    simp only at hs
    subst hs
    obtain ⟨cs, h5, h6⟩ := h3 i (by omega)
    obtain ⟨x, rfl⟩ := int_cells h6
    obtain ⟨_, _, h7⟩ := World.cells?_some h5
    have e : ((⟨g, off, none⟩ : Addr).add (i * [Fr.Sh.int .i64].length)) = ⟨g, off + i, none⟩ := by
      simp [Addr.add] <;> (intro hh; subst hh; rfl)
    rw [e] at h7
    exact ⟨g, off, rfl, x, by simpa [Addr.add] using h7 0 (by decide)⟩
theorem may95 {T : Int} (h : mayC T 9 5 = false) : T < 1 ∨ 6 < T := by
  unfold mayC at h
  simp at h
  omega
theorem infoI3 : (Try.prog.info? 3).map (fun i => (i.zero, i.size, i.bytes)) = some (some (.int .i64 0), 1, 8) := by kernel_rfl
theorem made_int (n : Nat) : madeCells #[.int .i64 0] n = ((List.range n).map fun _ => Value.int .i64 0).toArray := by
  apply Array.toList_inj.1
  simp [madeCells]
  intro a _; rw [Nat.mod_one]; rfl
theorem run_ints (n : Nat) (hn : n ≤ 250) (w : World) : (Instr.makeSlice 22 (.int .i64 n) (.int .i64 n)).run Try.prog w = .ok (.slice (some ⟨w.heap.size, 0, none⟩) n n) (w.alloc (.cells ((List.range n).map fun _ => Value.int .i64 0).toArray 3)) := by
  obtain ⟨i, hi, hz, hs, hb⟩ := info_parts infoI3
  rw [run_makeSlice w 22 3 i _ (by kernel_rfl) hi hz .i64 .i64 n n (by omega) (by omega) (by rw [hs]; omega) (by rw [hb]; omega) (by omega)]
  rw [hs, ← made_int]
  simp [Value.cells]
theorem d_step {d : Nat → Nat} {i : Nat} (h : ∀ j, d j = if j < i then 2 else 0) (j : Nat) : (if j = i then 0 + 1 + 1 else if j = i then 0 + 1 else d j) = if j < i + 1 then 2 else 0 := by
  have := h j
  by_cases e : j = i
  · subst e; rw [if_pos rfl, if_pos (by omega)]
  · rw [if_neg e, if_neg e, this]
    by_cases e2 : j < i
    · rw [if_pos e2, if_pos (by omega)]
    · rw [if_neg e2, if_neg (by omega)]
theorem below_kq {w0 w w' : World} {b : Nat} {fv : Value} (h : Below w0.heap.size w0 w) (k : Th.KQ w w' b fv (.slice none 0 0)) (hb : w0.heap.size ≤ b) (hf : ∀ j, fv.ownBlock = some j → w0.heap.size ≤ j) : Below w0.heap.size w0 w' :=
  ⟨k.os.trans h.os, k.tape.trans h.tape, k.output.trans h.output, Nat.le_trans h.size k.size, fun j hj => (k.block j (Nat.lt_of_lt_of_le hj h.size) (by omega) (fun e => by have := hf j e; omega) (fun e => by cases e)).trans (h.block j hj)⟩
set_option maxRecDepth 16000 in
set_option maxHeartbeats 8000000 in
theorem coreSteps_walk (v0 v1 v2 : Value) (w : World) (s0 : Fr.ok1 w (.int .i64) v0) (s1 : Fr.ok1 w (.slice [.int .i64]) v1) (s2 : Fr.ok1 w (.slice [.int .i64]) v2) :
    Calls Try.prog 3 #[v0, v1, v2] w fun e w' => e = .returned (.bool true) ∧ Below w.heap.size w w' := by
  obtain ⟨T, rfl, wT⟩ := Fr.get_int s0
  obtain ⟨pa, pn, pc, rfl, p1, p2, hp⟩ := il_open s1
  obtain ⟨ma, mn, mc, rfl, m1, m2, hm⟩ := il_open s2
  have HP := Lib.hid hp; have HMN := Lib.hid hm
  clear s0 s1 s2 hp hm wT
  refine Calls.veil fun Q HQ => ?_
  cases hmay : mayC T 9 5 with
  | false =>
    have HM := Lib.hid hmay
    have hT := may95 hmay
    clear hmay
    rcases hT with h1 | h1
    · go_enter Try.func3, Try.ntmps3
      go_wp2_with fail
      refine (cnew_no _ _ _ _ HM.out).mono ?_; rintro _ w1 ⟨rfl, hb⟩
      have HB1 := Lib.hid hb; clear hb
      go_wp2_with fail
      refine (lives16_calls _).mono ?_; rintro _ w2 ⟨rfl, hb2⟩
      go_wp2_with fail
      (try go_ret)
      rw [HQ.out]
      exact ⟨rfl, below_on HB1.out hb2⟩
    · have h0 : ¬ T < 1 := by omega
      go_enter Try.func3, Try.ntmps3
      go_wp2_with fail
      refine (cnew_no _ _ _ _ HM.out).mono ?_; rintro _ w1 ⟨rfl, hb⟩
      have HB1 := Lib.hid hb; clear hb
      go_wp2_with fail
      refine (lives16_calls _).mono ?_; rintro _ w2 ⟨rfl, hb2⟩
      go_wp2_with fail
      (try go_ret)
      rw [HQ.out]
      exact ⟨rfl, below_on HB1.out hb2⟩
  | true =>
  have hm := mayC_true hmay
  obtain ⟨t, rfl⟩ : ∃ t : Nat, T = t := ⟨T.toNat, by omega⟩
  have HM := Lib.hid hmay
  have t1 : 1 ≤ t := by omega
  have t6 : t ≤ 6 := by omega
  clear hmay hm
  go_enter Try.func3, Try.ntmps3
  go_wp2_with fail
  refine (cnewI (t := t) (s := 9) _ HM.out).mono ?_; rintro _ w1 ⟨q, pl, mb, mg, C, gq, gg, gm, fv, tq, rfl, hmi, hb, hin⟩
  have HM1 := Lib.hid hmi.mc; have HT1 := Lib.hid (TS.init hmi hin); have HB1 := Lib.hid hb
  have HMQ := Lib.hid (show w.heap.size ≤ mb ∧ w.heap.size ≤ mg ∧ w.heap.size ≤ q from by have h1 := hmi.o1; have h2 := hmi.o2; have h3 := hmi.o3; have h4 := hmi.o4; have h5 := hmi.o5; omega)
  clear hmi hb hin
  by_cases hpn : 60 < pn
  · have hp2 : (60 : Int) < pn := by omega
    go_wp2_with fail
    refine (lives16_calls _).mono ?_; rintro _ w2 ⟨rfl, hb2⟩
    go_wp2_with fail
    (try go_ret)
    rw [HQ.out]
    exact ⟨rfl, below_on HB1.out hb2⟩
  have hp2 : ¬ (60 : Int) < pn := by omega
  go_wp2_with fail
  go_loopw [9] (fun iv wr => ∃ i : Nat, i ≤ t ∧ iv = .int .i64 i ∧ ∃ (d : Nat → Nat) (fvs : Nat → Value), Hid (MC wr w.heap.size q pl mb mg C gq gg gm fv tq t 9 5 (partF t 3 9) 0 false (fun i => decide (i < 5)) (fun _ => 0) 0 0 false) ∧ Hid (TS wr q t tq d fvs) ∧ Hid (∀ j, d j = if j < i then 2 else 0) ∧ Hid (Below w.heap.size w wr))
    (fun iv _ => t - (intOf iv).toNat)
  case atStart => exact ⟨0, Nat.zero_le _, rfl, fun _ => 0, _, HM1, HT1, Lib.hid (fun j => by simp), HB1⟩
  case round =>
    clear HM1 HT1 HB1
    obtain ⟨i, hi, rfl, d, fvs, HM2, HT2, HD2, HB2⟩ := hrel
    rcases (by omega : i < t ∨ i = t) with hlt | heq
    · have hii : (i : Int) < t := by omega
      go_wp2_with fail
      refine (cThread_yes HM2.out i hlt).mono ?_; rintro _ wa ⟨rfl, hba⟩
      have HMa := Lib.hid (HM2.out.below hba); have HTa := Lib.hid (HT2.out.below hba); have HBa := Lib.hid (below_on HB2.out hba)
      clear hba HM2 HT2 HB2
      have hth := HTa.out.th i hlt
      rw [show d i = 0 from by rw [HD2.out]; simp] at hth
      have HTH := Lib.hid hth
      clear hth
      go_wp2_with fail
      refine (tcall HTH.out (i : Int) (fun _ => rfl) (by omega) (by have := HMa.out.qlt; omega)).mono ?_; rintro _ wb ⟨rfl, ⟨fv1, hth1, hof1⟩, kq1⟩
      have HMb := Lib.hid (HMa.out.kq HTa.out hlt kq1); have HTb := Lib.hid (HTa.out.one hlt hth1 kq1 hof1)
      have HBb := Lib.hid (below_kq HBa.out kq1 (by have := HMa.out.tlo i hlt; have := HMQ.out; omega) fun j hj => by have := ((HTa.out.th i hlt).own hj).1; have := HMQ.out; omega)
      clear hth1 hof1 kq1 HMa HTa HBa HTH
      go_wp2_with fail
      refine (cThread_yes HMb.out i hlt).mono ?_; rintro _ wa ⟨rfl, hba⟩
      have HMa := Lib.hid (HMb.out.below hba); have HTa := Lib.hid (HTb.out.below hba); have HBa := Lib.hid (below_on HBb.out hba)
      clear hba HMb HTb HBb
      have hth := HTa.out.th i hlt
      rw [if_pos rfl, if_pos rfl] at hth
      have HTH := Lib.hid hth
      clear hth
      go_wp2_with fail
      refine (tcall HTH.out 7 (fun h => absurd h (by decide)) (by omega) (by have := HMa.out.qlt; omega)).mono ?_; rintro _ wb ⟨rfl, ⟨fv2, hth1, hof1⟩, kq1⟩
      have hof1 : ∀ j, fv2.ownBlock = some j → ((fun k => if k = i then fv1 else fvs k) i).ownBlock = some j ∨ wa.heap.size ≤ j := by (simp only [if_pos rfl]; exact hof1)
      have kq1 : Th.KQ wa wb (tq i) ((fun k => if k = i then fv1 else fvs k) i) (.slice none 0 0) := by (simp only [if_pos rfl]; exact kq1)
      have HMb := Lib.hid (HMa.out.kq HTa.out hlt kq1); have HTb := Lib.hid (HTa.out.one hlt hth1 kq1 hof1)
      have HBb := Lib.hid (below_kq HBa.out kq1 (by have := HMa.out.tlo i hlt; have := HMQ.out; omega) fun j hj => by have := ((HTa.out.th i hlt).own hj).1; have := HMQ.out; omega)
      clear hth1 hof1 kq1 HMa HTa HBa HTH
      go_wp2_with fail
      go_roundw
      case rel => exact ⟨i + 1, by omega, by go_num, _, _, HMb, HTb, Lib.hid (d_step HD2.out), HBb⟩
      case measure => simp [intOf]; omega
    · have heq := heq.symm
      subst heq
      have hii : ¬ (t : Int) < t := by omega
      have hms := run_ints t (by omega)
      go_upto_region 13 with fail
      clear hms hii
      generalize hV : World.alloc _ _ = V
      obtain ⟨hx, hbv⟩ := Th.heapnewE hV
      obtain ⟨N, hN⟩ : ∃ N, N = wr.heap.size := ⟨_, rfl⟩
      rw [← hN] at hx ⊢
      have hx : Th.Blk 3 V N t (fun _ => .int .i64 0) := hx
      have HDB := Lib.hid (show Th.Blk 3 V N t (fun j => .int .i64 (2 - ((d j : Nat) : Int))) from hx.congr fun j hj => by rw [HD2.out, if_pos hj]; rfl)
      have HMB := Lib.hid (show MB w.heap.size N q mb mg t tq fvs from ⟨⟨HMQ.out.1, HMQ.out.2.1⟩, by have := HM2.out.qlt; omega, fun i hi => by have := (HT2.out.th i hi).lt; omega, fun i hi b hb => by have := ((HT2.out.th i hi).own hb).2.1; omega⟩)
      have HDL := Lib.hid (show ∀ j, d j ≤ 2 from fun j => by rw [HD2.out]; split <;> omega)
      have HMV := Lib.hid (HM2.out.below hbv); have HTV := Lib.hid (HT2.out.below hbv); have HBV := Lib.hid (below_on HB2.out hbv)
      have HWN := Lib.hid (show w.heap.size ≤ N from by have := HB2.out.size; omega)
      clear hV hx hbv hN HM2 HT2 HD2 HB2
      go_wp2_with fail
      go_loopw [10, 12, 13] (fun sv ov iv wr => ∃ i : Nat, i ≤ pn ∧ iv = .int .i64 i ∧ ∃ (d : Nat → Nat) (fvs : Nat → Value) (acc : Int) (st : Nat) (odd : Bool), sv = .int .i64 st ∧ ov = .bool odd ∧ Hid (MC wr w.heap.size q pl mb mg C gq gg gm fv tq t 9 5 (partF t 3 9) acc false (fun i => decide (i < 5)) (fun _ => 0) 0 (st : Int) odd) ∧ Hid (TS wr q t tq d fvs) ∧ Hid (MB w.heap.size N q mb mg t tq fvs) ∧ Hid (∀ j, d j ≤ 2) ∧ Hid (0 ≤ acc ∧ acc ≤ 8 * i ∧ st ≤ i) ∧ Hid (Th.Blk 3 wr N t (fun j => .int .i64 (2 - ((d j : Nat) : Int)))) ∧ Hid (Below w.heap.size w wr))
        (fun _ _ iv _ => pn - (intOf iv).toNat)
      case atStart => exact ⟨0, Nat.zero_le _, rfl, d, fvs, 0, 0, false, rfl, rfl, HMV, HTV, HMB, HDL, Lib.hid ⟨by omega, by omega, by omega⟩, HDB, HBV⟩
      case round =>
        clear HMV HTV HMB HDL HDB HBV d fvs
        obtain ⟨i, hi, rfl, d, fvs, acc, st, odd, rfl, rfl, HM3, HT3, HMB, HDL, HA, HDB3, HB3⟩ := hrel
        have hst : st ≤ i := by have := HA.out; omega
        rcases (by omega : i < pn ∨ i = pn) with hlt | heq
        · obtain ⟨pg, po, rfl, k, hk⟩ := HP.out i hlt
          have pcell : wr.cell? ⟨pg, po + i, none⟩ = some (.int .i64 k) := Ext.use (Ext.cells hk) HB3.out
          have hii : (i : Int) < pn := by omega
          clear hk
          go_upto_region 19 with fail
          clear pcell
          generalize hV : World.alloc _ _ = V
          obtain ⟨hx, hbv⟩ := Th.heapnewE hV
          obtain ⟨nb, hnb⟩ : ∃ nb, nb = wr.heap.size := ⟨_, rfl⟩
          rw [← hnb] at hx ⊢
          have HX := Lib.hid hx; have HBV := Lib.hid hbv; have HNB := Lib.hid hnb
          clear hV hx hbv hnb
          go_cut [86] from 59 to 180 (fun c wc => ∃ b : Bool, c = .bool b ∧ Hid (b = true → i < mn ∧ ∃ g o x, ma = some ⟨g, o, none⟩ ∧ w.cell? ⟨g, o + i, none⟩ = some (.int .i64 x) ∧ 0 < x ∧ x < 9) ∧ wc = V)
          case first =>
            by_cases hmn : i < mn
            · obtain ⟨mg', mo, rfl, x, hx⟩ := HMN.out i hmn
              have mcell : V.cell? ⟨mg', mo + i, none⟩ = some (.int .i64 x) := Ext.use (Ext.cells hx) (below_on HB3.out HBV.out)
              have him : (i : Int) < mn := by omega
              have HX3 := Lib.hid hx
              clear hx
              by_cases hx0 : 0 < x
              · by_cases hx9 : x < 9
                · go_wp2_with fail
                  go_meet
                  case rel => exact ⟨true, rfl, Lib.hid (fun _ => ⟨hmn, _, _, x, rfl, HX3.out, hx0, hx9⟩), rfl⟩
                · go_wp2_with fail
                  go_meet
                  case rel => exact ⟨false, rfl, Lib.hid (fun h => by cases h), rfl⟩
              · go_wp2_with fail
                go_meet
                case rel => exact ⟨false, rfl, Lib.hid (fun h => by cases h), rfl⟩
            · have him : ¬ (i : Int) < mn := by omega
              go_wp2_with fail
              go_meet
              case rel => exact ⟨false, rfl, Lib.hid (fun h => by cases h), rfl⟩
          case rest =>
          obtain ⟨b, rfl, HBX, rfl⟩ := hcut
          go_upto_if 86 with fail
          go_cut [] from 59 to 180 (fun wc2 => ∃ n : Nat, n ≤ 8 ∧ Hid (wc2.heap[nb]? = some (.cells #[.int .i64 n] 3 (0, 0))) ∧ Hid (Below wr.heap.size wr wc2))
          case first =>
            cases b with
            | false =>
              go_wp2_with fail
              go_meet
              case rel => exact ⟨0, by omega, HX, HBV⟩
            | true =>
              obtain ⟨hmn, mg', mo, x, rfl, hx, hx0, hx9⟩ := HBX.out rfl
              have mcell := Ext.use (Ext.cells hx) (below_on HB3.out HBV.out)
              have him : (i : Int) < mn := by omega
              have ncell := Th.newcell HX.out 0 _ rfl
              have nf : ∀ j, wc.frozen? ⟨nb, j, none⟩ = false := fun j => frozen_of_row _ _ _ _ _ HX.out
              clear hx
              go_wp2_with fail
              go_meet
              case rel => exact ⟨x.toNat, by omega, Lib.hid (by rw [show ((x.toNat : Nat) : Int) = x by omega]; exact heap_setCell_same _ nb 0 _ _ _ HX.out), Lib.hid (below_set HBV.out (Nat.le_of_eq HNB.out.symm) _)⟩
          case rest =>
          obtain ⟨n, n8, HN, HBC⟩ := hcut
          clear HBX HX HBV
          have HNN := Lib.hid (show (nb ≠ q ∧ nb ≠ mb ∧ nb ≠ mg) ∧ N < nb ∧ nb < wc.heap.size from by have h1 := Th.blk_lt HDB3.out; have h2 := HMB.out.bq; have h3 := HM3.out.qlt; have h4 := HNB.out; have h5 := Th.blk_lt HN.out; omega)
          have HM4 := Lib.hid (HM3.out.below HBC.out); have HT4 := Lib.hid (HT3.out.below HBC.out); have HD4 := Lib.hid (HDB3.out.below HBC.out); have HB4 := Lib.hid (below_on HB3.out HBC.out)
          clear HM3 HT3 HDB3 HB3 HBC HNB
          by_cases hk : 0 ≤ k ∧ k < t
          · obtain ⟨kk, rfl⟩ : ∃ kk : Nat, k = kk := ⟨k.toNat, by omega⟩
            have hkt : kk < t := by omega
            have hk0 : ¬ (kk : Int) < 0 := by omega
            have hk1 : ¬ (t : Int) ≤ kk := by omega
            have hk2 : (kk : Int) < t := by omega
            clear hk
            have hdl := HDL.out kk
            rcases (by omega : d kk = 0 ∨ 1 ≤ d kk) with hd | hd
            · clear hdl
              go_wp2_with fail
              refine (step_zero HM4.out HT4.out hkt hd _).mono ?_; rintro _ wd ⟨rfl, hbd⟩
              have HMd := Lib.hid (HM4.out.below hbd); have HTd := Lib.hid (HT4.out.below hbd); have HDd := Lib.hid (HD4.out.below hbd); have HBd := Lib.hid (below_on HB4.out hbd)
              have dcell : wd.cell? ⟨N, kk, none⟩ = some (.int .i64 2) := by rw [HDd.out.get hkt, hd]; rfl
              clear hbd HM4 HT4 HD4 HB4 hd
              go_wp2_with fail
              refine (cSteps HMd.out).mono ?_; rintro _ _ ⟨rfl, rfl⟩
              go_wp2_with fail
              go_roundw
              case rel => exact ⟨i + 1, by omega, by go_num, d, fvs, acc, st, odd, rfl, rfl, HMd, HTd, HMB, HDL, Lib.hid (by have := HA.out; omega), HDd, HBd⟩
              case measure => simp [intOf]; omega
            · obtain ⟨e, hde⟩ : ∃ e, d kk = e + 1 := ⟨d kk - 1, by omega⟩
              have he1 : e ≤ 1 := by omega
              obtain ⟨dv, hdv⟩ : ∃ dv : Int, dv = 1 - (e : Int) := ⟨_, rfl⟩
              have hdv0 : 0 ≤ dv ∧ dv ≤ 1 := by omega
              have hdv2 : ¬ dv = 2 := by omega
              have hdvb : (dv == 2) = false := by simp [hdv2]
              clear hd hdl
              go_upto_region 21 with fail
              have ncl := Th.newcell HN.out 0 _ rfl
              go_wp2_with fail
              refine (step_yes HM4.out HT4.out HMB.out hkt (e := e) hde (by omega) (Th.newcell HN.out 0 _ rfl) HNN.out.1.1 HNN.out.1.2.1 HNN.out.1.2.2 n8 HA.out.1 (by have := HA.out; omega) (by omega) (by have := HA.out; omega)).mono ?_; rintro _ wd ⟨rfl, hmd, ⟨fv', htd, hof⟩, hkn⟩
              obtain ⟨lb, hlb⟩ : ∃ lb, lb = decide (0 < e) := ⟨_, rfl⟩
              rw [← hlb]
              have HMd := Lib.hid hmd; have HTd := Lib.hid htd; have HOF := Lib.hid hof
              have HDd := Lib.hid (HD4.out.of (hkn.block N (Th.blk_lt HD4.out) (fun h => by omega)))
              have HNd := Lib.hid ((hkn.block nb HNN.out.2.2 (fun h => by have := HNN.out; omega)).trans HN.out)
              have HBd := Lib.hid (show Below w.heap.size w wd from ⟨hkn.os.trans HB4.out.os, hkn.tape.trans HB4.out.tape, hkn.output.trans HB4.out.output, Nat.le_trans HB4.out.size hkn.size, fun j hj => (hkn.block j (Nat.lt_of_lt_of_le hj HB4.out.size) (fun h => by omega)).trans (HB4.out.block j hj)⟩)
              have dcell : wd.cell? ⟨N, kk, none⟩ = some (.int .i64 dv) := by rw [HDd.out.get hkt, hde, show dv = 2 - (((e + 1 : Nat)) : Int) by omega]
              have df : ∀ j, wd.frozen? ⟨N, j, none⟩ = false := fun j => HDd.out.fr j
              clear hmd htd hof hkn HM4 HT4 HD4 HB4 HN ncl
              have HLB := Lib.hid hlb; have HDV := Lib.hid hdv
              clear hlb hdv
              go_upto_region 27 with fail
              generalize hV : World.setCell _ _ _ = wz
              have hz : Th.Blk 3 wz N t (Th.upF (fun j => .int .i64 (2 - ((d j : Nat) : Int))) kk (.int .i64 (dv + 1))) := by rw [← hV]; exact HDd.out.set kk _
              have hzo : ∀ j, j ≠ N → wz.heap[j]? = wd.heap[j]? := fun j hj => by rw [← hV]; exact Below.heap_setCell _ _ _ _ hj
              have hzs : wz.heap.size = wd.heap.size := by rw [← hV]; simp [World.setCell]
              have hzt : wz.os = wd.os ∧ wz.tape = wd.tape ∧ wz.output = wd.output := by rw [← hV]; exact ⟨rfl, rfl, rfl⟩
              obtain ⟨d2, hd2⟩ : ∃ d2, d2 = fun i => if i = kk then e else d i := ⟨_, rfl⟩
              obtain ⟨fvs2, hf2⟩ : ∃ f2, f2 = fun i => if i = kk then fv' else fvs i := ⟨_, rfl⟩
              have HD2E := Lib.hid hd2
              have HDz := Lib.hid (show Th.Blk 3 wz N t (fun j => .int .i64 (2 - ((d2 j : Nat) : Int))) from hz.congr fun j hj => by
                unfold Th.upF; rw [hd2]; dsimp only
                by_cases ej : j = kk
                · rw [if_pos ej, if_pos ej, show dv + 1 = 2 - (e : Int) by have := HDV.out; omega]
                · rw [if_neg ej, if_neg ej])
              obtain ⟨ob, hob⟩ : ∃ ob, ob = (odd || decide (1 < n)) := ⟨_, rfl⟩
              have hmz := HMd.out.setT HDd.out (by have := HMB.out.bq; omega) (by decide) (by omega) hzo
              rw [← hob] at hmz
              have HMz := Lib.hid hmz
              have HOB := Lib.hid hob
              have HTz := Lib.hid (show TS wz q t tq d2 fvs2 from by rw [hd2, hf2]; exact HTd.out.setT HDd.out (by decide) (by decide) (by decide) (by omega) hzo)
              have HMB2 := Lib.hid (show MB w.heap.size N q mb mg t tq fvs2 from ⟨HMB.out.bm, HMB.out.bq, HMB.out.bt, fun i hi b hb => by
                rw [hf2] at hb; dsimp only at hb
                by_cases ej : i = kk
                · rw [if_pos ej] at hb; exact HMB.out.bf kk hkt b (HOF.out b hb)
                · rw [if_neg ej] at hb; exact HMB.out.bf i hi b hb⟩)
              have HBz := Lib.hid (show Below w.heap.size w wz from ⟨hzt.1.trans HBd.out.os, hzt.2.1.trans HBd.out.tape, hzt.2.2.trans HBd.out.output, by have := HBd.out.size; omega, fun j hj => (hzo j (by have := HWN.out; omega)).trans (HBd.out.block j hj)⟩)
              have HNz := Lib.hid ((hzo nb (by have := HNN.out; omega)).trans HNd.out)
              have HDS := Lib.hid (show ∀ j, d2 j ≤ 2 from fun j => by have := HDL.out j; rw [hd2]; dsimp only; split <;> omega)
              clear hV hz hzo hzs hzt hd2 hf2 hob hmz HMd HTd HDd HBd HNd HOF dcell df
              go_cut [12] from 59 to 180 (fun v wc => v = .bool ob ∧ wc = wz)
              case first =>
                have ncell := Th.newcell HNz.out 0 _ rfl
                cases odd with
                | true =>
                  have hob : ob = true := by rw [HOB.out]; rfl
                  go_wp2_with fail
                  go_meet
                  case rel => exact ⟨by rw [hob], rfl⟩
                | false =>
                  by_cases hn1 : 1 < n
                  · have hn2 : (1 : Int) < n := by omega
                    have hob : ob = true := by rw [HOB.out, decide_eq_true hn1]; rfl
                    go_wp2_with fail
                    go_meet
                    case rel => exact ⟨by rw [hob], rfl⟩
                  · have hn2 : ¬ (1 : Int) < n := by omega
                    have hob : ob = false := by rw [HOB.out, decide_eq_false hn1]; rfl
                    go_wp2_with fail
                    go_meet
                    case rel => exact ⟨by rw [hob], rfl⟩
              case rest =>
              obtain ⟨rfl, hw⟩ := hcut
              rw [hw]
              clear hw
              go_upto_region 28 with fail
              go_cut [147] from 59 to 180 (fun c wc => c = .bool false ∧ Hid (Below wz.heap.size wz wc))
              case first =>
                have zcell : wz.cell? ⟨N, kk, none⟩ = some (.int .i64 (dv + 1)) := by rw [HDz.out.get hkt, HD2E.out]; dsimp only; rw [if_pos rfl, show dv + 1 = 2 - (e : Int) by have := HDV.out; omega]
                rcases (by omega : e = 0 ∨ e = 1) with he | he
                · have hl2 : lb = false := by rw [HLB.out, he]; rfl
                  have hv2 : dv + 1 = 2 := by have := HDV.out; omega
                  rw [hv2] at zcell
                  subst hl2
                  cases ob with
                  | true =>
                    go_wp2_with fail
                    refine (cSteps HMz.out).mono ?_; rintro _ _ ⟨rfl, rfl⟩
                    go_wp2_with fail
                    refine (cFault HMz.out).mono ?_; rintro _ wy ⟨rfl, hby⟩
                    go_wp2_with fail
                    go_meet
                    case rel => exact ⟨rfl, Lib.hid hby⟩
                  | false =>
                    go_wp2_with fail
                    refine (cSteps HMz.out).mono ?_; rintro _ _ ⟨rfl, rfl⟩
                    go_wp2_with fail
                    refine (cFault HMz.out).mono ?_; rintro _ wy ⟨rfl, hby⟩
                    go_wp2_with fail
                    go_meet
                    case rel => exact ⟨rfl, Lib.hid hby⟩
                · have hl2 : lb = true := by rw [HLB.out, he]; rfl
                  have hv2 : dv + 1 = 1 := by have := HDV.out; omega
                  rw [hv2] at zcell
                  subst hl2
                  cases ob with
                  | true =>
                    go_wp2_with fail
                    refine (cSteps HMz.out).mono ?_; rintro _ _ ⟨rfl, rfl⟩
                    go_wp2_with fail
                    refine (cFault HMz.out).mono ?_; rintro _ wy ⟨rfl, hby⟩
                    go_wp2_with fail
                    go_meet
                    case rel => exact ⟨rfl, Lib.hid hby⟩
                  | false =>
                    go_wp2_with fail
                    refine (cSteps HMz.out).mono ?_; rintro _ _ ⟨rfl, rfl⟩
                    go_wp2_with fail
                    refine (cFault HMz.out).mono ?_; rintro _ wy ⟨rfl, hby⟩
                    go_wp2_with fail
                    go_meet
                    case rel => exact ⟨rfl, Lib.hid hby⟩
              case rest =>
              obtain ⟨rfl, HBc⟩ := hcut
              rename World => wb
              have HMy := Lib.hid (HMz.out.below HBc.out); have HTy := Lib.hid (HTz.out.below HBc.out); have HDy := Lib.hid (HDz.out.below HBc.out); have HBy := Lib.hid (below_on HBz.out HBc.out)
              clear HMz HTz HDz HBz HNz HBc
              go_wp2_with fail
              go_loopw [17] (fun jv wr => ∃ j : Nat, j ≤ t ∧ jv = .int .i64 j ∧ Hid (Below wb.heap.size wb wr))
                (fun jv _ => t - (intOf jv).toNat)
              case atStart => exact ⟨0, Nat.zero_le _, rfl, Lib.hid (Below.refl _ _)⟩
              case round =>
                obtain ⟨j, hj, rfl, HBI⟩ := hrel
                rcases (by omega : j < t ∨ j = t) with hjlt | hjeq
                · have hjj : (j : Int) < t := by omega
                  go_upto_region 33 with fail
                  go_cut [180] from 148 to 180 (fun c wc => c = .bool false ∧ Hid (Below wr.heap.size wr wc))
                  case first =>
                    have HMI := Lib.hid (HMy.out.below HBI.out); have HTI := Lib.hid (HTy.out.below HBI.out)
                    have dc : ∀ y : Ext wr, y.w.cell? ⟨N, j, none⟩ = some (.int .i64 (2 - ((d2 j : Nat) : Int))) := Ext.cells ((HDy.out.below HBI.out).get hjlt)
                    have hdl := HDS.out j
                    have hth := HTI.out.th j hjlt
                    rcases (by omega : d2 j = 0 ∨ d2 j = 1 ∨ d2 j = 2) with hdj | hdj | hdj
                    · rw [hdj] at dc hth
                      rw [show (2 : Int) - ((0 : Nat) : Int) = 2 from rfl] at dc
                      have HTHJ := Lib.hid hth
                      clear hth hdl
                      (with_reducible refine wp_region_mix (fun w' => ∃ y : Ext wr, w' = y.w) ?_ ?_ ?_ ?_; kernel_rfl; kernel_rfl; exact ⟨⟨wr.drew, (Below.refl _ _).drew⟩, rfl⟩)
                      obtain ⟨y0, hy0⟩ : ∃ y : Ext wr, y.w = wr.drew := ⟨⟨wr.drew, (Below.refl _ _).drew⟩, rfl⟩
                      rw [← hy0]
                      clear hy0
                      repeat (first | ((with_reducible refine mix_skip (by kernel_rfl) ?_); go_big_quiet_skip; (with_reducible refine mix_on ?_)) | ((with_reducible refine mix_plain (by kernel_rfl) ?_); (first | go_big_quiet_skip | (go_big_quiet_want; go_big_quiet_op; go_big_quiet_on)); (with_reducible refine mix_on ?_)))
                      ((with_reducible refine wpMix_chain (by kernel_rfl) (by kernel_rfl) (fun K HK => ?_)); go_step)
                      refine (cThread_yes (HMI.out.below y0.h) j hjlt).mono ?_; rintro _ w5 ⟨rfl, hb5⟩
                      have hb5 := below_on y0.h hb5
                      obtain ⟨y1, hy1⟩ : ∃ y : Ext wr, y.w = w5 := ⟨⟨w5, hb5⟩, rfl⟩
                      rw [← hy1]
                      refine HK.out _ _ ⟨y1, rfl⟩ ?_
                      clear HK K hb5 hy1
                      repeat (first | ((with_reducible refine mix_skip (by kernel_rfl) ?_); go_big_quiet_skip; (with_reducible refine mix_on ?_)) | ((with_reducible refine mix_plain (by kernel_rfl) ?_); (first | go_big_quiet_skip | (go_big_quiet_want; go_big_quiet_op; go_big_quiet_on)); (with_reducible refine mix_on ?_)))
                      ((with_reducible refine wpMix_chain (by kernel_rfl) (by kernel_rfl) (fun K HK => ?_)); go_step)
                      refine (tdepth (HTHJ.out.keep y1.h.size fun j hj _ _ => y1.h.block j hj)).mono ?_; rintro _ w6 ⟨rfl, hw6⟩
                      rw [← hw6]
                      refine HK.out _ _ ⟨y1, rfl⟩ ?_
                      clear HK K hw6
                      repeat (first | ((with_reducible refine mix_skip (by kernel_rfl) ?_); go_big_quiet_skip; (with_reducible refine mix_on ?_)) | ((with_reducible refine mix_plain (by kernel_rfl) ?_); (first | go_big_quiet_skip | (go_big_quiet_want; go_big_quiet_op; go_big_quiet_on)); (with_reducible refine mix_on ?_)))
                      refine wpMix_nil ?_
                      have HBX := Lib.hid y1.h
                      go_wp2_with fail
                      go_meet
                      case rel => exact ⟨rfl, HBX⟩
                    · rw [hdj] at dc hth
                      rw [show (2 : Int) - ((1 : Nat) : Int) = 1 from rfl] at dc
                      have HTHJ := Lib.hid hth
                      obtain ⟨fg, hfg, htop⟩ := ttopx hth
                      have fc : ∀ y : Ext wr, y.w.cell? ⟨fg, 0, none⟩ = some (.int .i64 j) := Ext.cells hfg
                      have HTOP := Lib.hid htop
                      clear hth hdl hfg htop
                      (with_reducible refine wp_region_mix (fun w' => ∃ y : Ext wr, w' = y.w) ?_ ?_ ?_ ?_; kernel_rfl; kernel_rfl; exact ⟨⟨wr.drew, (Below.refl _ _).drew⟩, rfl⟩)
                      obtain ⟨y0, hy0⟩ : ∃ y : Ext wr, y.w = wr.drew := ⟨⟨wr.drew, (Below.refl _ _).drew⟩, rfl⟩
                      rw [← hy0]
                      clear hy0
                      repeat (first | ((with_reducible refine mix_skip (by kernel_rfl) ?_); go_big_quiet_skip; (with_reducible refine mix_on ?_)) | ((with_reducible refine mix_plain (by kernel_rfl) ?_); (first | go_big_quiet_skip | (go_big_quiet_want; go_big_quiet_op; go_big_quiet_on)); (with_reducible refine mix_on ?_)))
                      ((with_reducible refine wpMix_chain (by kernel_rfl) (by kernel_rfl) (fun K HK => ?_)); go_step)
                      refine (cThread_yes (HMI.out.below y0.h) j hjlt).mono ?_; rintro _ w5 ⟨rfl, hb5⟩
                      have hb5 := below_on y0.h hb5
                      obtain ⟨y1, hy1⟩ : ∃ y : Ext wr, y.w = w5 := ⟨⟨w5, hb5⟩, rfl⟩
                      rw [← hy1]
                      refine HK.out _ _ ⟨y1, rfl⟩ ?_
                      clear HK K hb5 hy1
                      repeat (first | ((with_reducible refine mix_skip (by kernel_rfl) ?_); go_big_quiet_skip; (with_reducible refine mix_on ?_)) | ((with_reducible refine mix_plain (by kernel_rfl) ?_); (first | go_big_quiet_skip | (go_big_quiet_want; go_big_quiet_op; go_big_quiet_on)); (with_reducible refine mix_on ?_)))
                      ((with_reducible refine wpMix_chain (by kernel_rfl) (by kernel_rfl) (fun K HK => ?_)); go_step)
                      refine (tdepth (HTHJ.out.keep y1.h.size fun j hj _ _ => y1.h.block j hj)).mono ?_; rintro _ w6 ⟨rfl, hw6⟩
                      rw [← hw6]
                      refine HK.out _ _ ⟨y1, rfl⟩ ?_
                      clear HK K hw6
                      repeat (first | ((with_reducible refine mix_skip (by kernel_rfl) ?_); go_big_quiet_skip; (with_reducible refine mix_on ?_)) | ((with_reducible refine mix_plain (by kernel_rfl) ?_); (first | go_big_quiet_skip | (go_big_quiet_want; go_big_quiet_op; go_big_quiet_on)); (with_reducible refine mix_on ?_)))
                      ((with_reducible refine wpMix_chain (by kernel_rfl) (by kernel_rfl) (fun K HK => ?_)); go_step)
                      refine (cThread_yes (HMI.out.below y1.h) j hjlt).mono ?_; rintro _ w5 ⟨rfl, hb5⟩
                      have hb5 := below_on y1.h hb5
                      obtain ⟨y2, hy2⟩ : ∃ y : Ext wr, y.w = w5 := ⟨⟨w5, hb5⟩, rfl⟩
                      rw [← hy2]
                      refine HK.out _ _ ⟨y2, rfl⟩ ?_
                      clear HK K hb5 hy2
                      repeat (first | ((with_reducible refine mix_skip (by kernel_rfl) ?_); go_big_quiet_skip; (with_reducible refine mix_on ?_)) | ((with_reducible refine mix_plain (by kernel_rfl) ?_); (first | go_big_quiet_skip | (go_big_quiet_want; go_big_quiet_op; go_big_quiet_on)); (with_reducible refine mix_on ?_)))
                      ((with_reducible refine wpMix_chain (by kernel_rfl) (by kernel_rfl) (fun K HK => ?_)); go_step)
                      refine (HTOP.out y2.w y2.h).mono ?_; rintro _ w7 ⟨rfl, hb7⟩
                      have hb7 := below_on y2.h hb7
                      obtain ⟨y1, hy1⟩ : ∃ y : Ext wr, y.w = w7 := ⟨⟨w7, hb7⟩, rfl⟩
                      rw [← hy1]
                      refine HK.out _ _ ⟨y1, rfl⟩ ?_
                      clear HK K hb7 hy1
                      repeat (first | ((with_reducible refine mix_skip (by kernel_rfl) ?_); go_big_quiet_skip; (with_reducible refine mix_on ?_)) | ((with_reducible refine mix_plain (by kernel_rfl) ?_); (first | go_big_quiet_skip | (go_big_quiet_want; go_big_quiet_op; go_big_quiet_on)); (with_reducible refine mix_on ?_)))
                      refine wpMix_nil ?_
                      have HBX := Lib.hid y1.h
                      go_wp2_with fail
                      go_meet
                      case rel => exact ⟨rfl, HBX⟩
                    · rw [hdj] at dc hth
                      rw [show (2 : Int) - ((2 : Nat) : Int) = 0 from rfl] at dc
                      have HTHJ := Lib.hid hth
                      clear hth hdl
                      (with_reducible refine wp_region_mix (fun w' => ∃ y : Ext wr, w' = y.w) ?_ ?_ ?_ ?_; kernel_rfl; kernel_rfl; exact ⟨⟨wr.drew, (Below.refl _ _).drew⟩, rfl⟩)
                      obtain ⟨y0, hy0⟩ : ∃ y : Ext wr, y.w = wr.drew := ⟨⟨wr.drew, (Below.refl _ _).drew⟩, rfl⟩
                      rw [← hy0]
                      clear hy0
                      repeat (first | ((with_reducible refine mix_skip (by kernel_rfl) ?_); go_big_quiet_skip; (with_reducible refine mix_on ?_)) | ((with_reducible refine mix_plain (by kernel_rfl) ?_); (first | go_big_quiet_skip | (go_big_quiet_want; go_big_quiet_op; go_big_quiet_on)); (with_reducible refine mix_on ?_)))
                      ((with_reducible refine wpMix_chain (by kernel_rfl) (by kernel_rfl) (fun K HK => ?_)); go_step)
                      refine (cThread_yes (HMI.out.below y0.h) j hjlt).mono ?_; rintro _ w5 ⟨rfl, hb5⟩
                      have hb5 := below_on y0.h hb5
                      obtain ⟨y1, hy1⟩ : ∃ y : Ext wr, y.w = w5 := ⟨⟨w5, hb5⟩, rfl⟩
                      rw [← hy1]
                      refine HK.out _ _ ⟨y1, rfl⟩ ?_
                      clear HK K hb5 hy1
                      repeat (first | ((with_reducible refine mix_skip (by kernel_rfl) ?_); go_big_quiet_skip; (with_reducible refine mix_on ?_)) | ((with_reducible refine mix_plain (by kernel_rfl) ?_); (first | go_big_quiet_skip | (go_big_quiet_want; go_big_quiet_op; go_big_quiet_on)); (with_reducible refine mix_on ?_)))
                      ((with_reducible refine wpMix_chain (by kernel_rfl) (by kernel_rfl) (fun K HK => ?_)); go_step)
                      refine (tdepth (HTHJ.out.keep y1.h.size fun j hj _ _ => y1.h.block j hj)).mono ?_; rintro _ w6 ⟨rfl, hw6⟩
                      rw [← hw6]
                      refine HK.out _ _ ⟨y1, rfl⟩ ?_
                      clear HK K hw6
                      repeat (first | ((with_reducible refine mix_skip (by kernel_rfl) ?_); go_big_quiet_skip; (with_reducible refine mix_on ?_)) | ((with_reducible refine mix_plain (by kernel_rfl) ?_); (first | go_big_quiet_skip | (go_big_quiet_want; go_big_quiet_op; go_big_quiet_on)); (with_reducible refine mix_on ?_)))
                      refine wpMix_nil ?_
                      have HBX := Lib.hid y1.h
                      go_wp2_with fail
                      go_meet
                      case rel => exact ⟨rfl, HBX⟩
                  case rest =>
                  obtain ⟨rfl, HBX⟩ := hcut
                  go_wp2_with fail
                  go_roundw
                  case rel => exact ⟨j + 1, by omega, by go_num, Lib.hid (below_on HBI.out HBX.out)⟩
                  case measure => simp [intOf]; omega
                · have hjeq := hjeq.symm
                  subst hjeq
                  have hjj : ¬ (t : Int) < t := by omega
                  go_wp2_with fail
                  go_roundw
                  case rel => exact ⟨i + 1, by omega, by go_num, d2, fvs2, acc + n, st + 1, ob, by go_num, rfl, by have := HMy.out.below HBI.out; exact Lib.hid (by rw [show ((st + 1 : Nat) : Int) = (st : Int) + 1 by omega]; exact this), Lib.hid (HTy.out.below HBI.out), HMB2, HDS, Lib.hid (by have := HA.out; omega), Lib.hid (HDy.out.below HBI.out), Lib.hid (below_on HBy.out HBI.out)⟩
                  case measure => simp [intOf]; omega
          · have hk' : k < 0 ∨ (¬ k < 0 ∧ (t : Int) ≤ k) := by omega
            have HK := Lib.hid hk
            clear hk
            rcases hk' with h1 | ⟨h1, h2⟩
            · go_wp2_with fail
              refine (step_none HM4.out k HK.out _).mono ?_; rintro _ wd ⟨rfl, hbd⟩
              have HMd := Lib.hid (HM4.out.below hbd); have HTd := Lib.hid (HT4.out.below hbd); have HDd := Lib.hid (HD4.out.below hbd); have HBd := Lib.hid (below_on HB4.out hbd)
              clear hbd HM4 HT4 HD4 HB4
              go_wp2_with fail
              refine (cSteps HMd.out).mono ?_; rintro _ _ ⟨rfl, rfl⟩
              go_wp2_with fail
              go_roundw
              case rel => exact ⟨i + 1, by omega, by go_num, d, fvs, acc, st, odd, rfl, rfl, HMd, HTd, HMB, HDL, Lib.hid (by have := HA.out; omega), HDd, HBd⟩
              case measure => simp [intOf]; omega
            · go_wp2_with fail
              refine (step_none HM4.out k HK.out _).mono ?_; rintro _ wd ⟨rfl, hbd⟩
              have HMd := Lib.hid (HM4.out.below hbd); have HTd := Lib.hid (HT4.out.below hbd); have HDd := Lib.hid (HD4.out.below hbd); have HBd := Lib.hid (below_on HB4.out hbd)
              clear hbd HM4 HT4 HD4 HB4
              go_wp2_with fail
              refine (cSteps HMd.out).mono ?_; rintro _ _ ⟨rfl, rfl⟩
              go_wp2_with fail
              go_roundw
              case rel => exact ⟨i + 1, by omega, by go_num, d, fvs, acc, st, odd, rfl, rfl, HMd, HTd, HMB, HDL, Lib.hid (by have := HA.out; omega), HDd, HBd⟩
              case measure => simp [intOf]; omega
        · have heq := heq.symm
          subst heq
          have hii : ¬ (pn : Int) < pn := by omega
          go_wp2_with fail
          refine (step_nil HM3.out HT3.out (k := 0) (by omega)).mono ?_; rintro _ wd ⟨rfl, hbd⟩
          have HMd := Lib.hid (HM3.out.below hbd); have HBd := Lib.hid (below_on HB3.out hbd)
          clear hbd
          go_wp2_with fail
          refine (cSteps HMd.out).mono ?_; rintro _ _ ⟨rfl, rfl⟩
          go_wp2_with fail
          refine (lives16_calls _).mono ?_; rintro _ w2 ⟨rfl, hb2⟩
          go_wp2_with fail
          (try go_ret)
          rw [HQ.out]
          exact ⟨rfl, below_on HBd.out hb2⟩
end Go.Proofs.Ytokeokgmopboiaa
