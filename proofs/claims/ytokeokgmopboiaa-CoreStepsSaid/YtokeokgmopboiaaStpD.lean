/- Layer 16: Step. -/
import Derived.Test.YtokeokgmopboiaaStpC
namespace Go.Proofs.Ytokeokgmopboiaa
open Go.RowKit WordM EdgeM
set_option linter.unusedVariables false
set_option linter.unusedSimpArgs false
theorem qRN : ∀ w : World, (binOp BinOp.eql 70 .nilFunc .nilFunc).run Try.prog w = .ok (.bool true) w := fun _ => by kernel_rfl
theorem qRF (fid : FuncId) (caps : Array Value) : ∀ w : World, (binOp BinOp.eql 70 (.func (.func fid) #[] caps) .nilFunc).run Try.prog w = .ok (.bool false) w := fun _ => by kernel_rfl
section
variable {w : World} {B q pl mb mg C gq gg gm : Nat} {fv : Value} {tq : Nat → Nat} {t s : Nat} {K : Int} {f : Nat → Int} {acc : Int} {flt : Bool} {H : Nat → Bool} {G : Nat → Int} {sl steps : Int} {odd : Bool}
set_option maxHeartbeats 1000000 in
theorem step_none (h : MC w B q pl mb mg C gq gg gm fv tq t s K f acc flt H G sl steps odd) (k : Int) (hk : ¬ (0 ≤ k ∧ k < t)) (v : Value) :
    Calls Try.prog 8 #[.pointer (some ⟨q, 0, none⟩), .int .i64 k, v] w fun e w' => e = .returned (.bool false) ∧ Below w.heap.size w w' := by
  refine Calls.veil fun Q HQ => ?_
  have HT := Lib.hid (cThread_no h k hk)
  clear h hk
  go_enter Try.func8, Try.ntmps8
  go_wp2_with fail
  refine HT.out.mono ?_; rintro _ w1 ⟨rfl, hb1⟩
  have HB1 := Lib.hid hb1; clear hb1
  go_wp2_with fail
  refine (z_depth _).mono ?_; rintro _ w2 ⟨rfl, hb2⟩
  have HB2 := Lib.hid (below_on HB1.out hb2); clear hb2
  go_wp2_with fail
  (try go_ret)
  rw [HQ.out]
  exact ⟨rfl, HB2.out⟩
set_option maxHeartbeats 1000000 in
theorem step_zero (h : MC w B q pl mb mg C gq gg gm fv tq t s K f acc flt H G sl steps odd) {d : Nat → Nat} {fvs : Nat → Value} (ts : TS w q t tq d fvs) {k : Nat} (hk : k < t) (hd : d k = 0) (v : Value) :
    Calls Try.prog 8 #[.pointer (some ⟨q, 0, none⟩), .int .i64 k, v] w fun e w' => e = .returned (.bool false) ∧ Below w.heap.size w w' := by
  refine Calls.veil fun Q HQ => ?_
  have HT := Lib.hid (cThread_yes h k hk)
  have hth := ts.th k hk
  rw [hd] at hth
  have HH := Lib.hid hth
  clear h hth ts hd
  go_enter Try.func8, Try.ntmps8
  go_wp2_with fail
  refine HT.out.mono ?_; rintro _ w1 ⟨rfl, hb1⟩
  have HB1 := Lib.hid hb1; clear hb1
  go_wp2_with fail
  refine (tdepth (HH.out.keep HB1.out.size fun j hj _ _ => HB1.out.block j hj)).mono ?_; rintro _ _ ⟨rfl, rfl⟩
  go_wp2_with fail
  (try go_ret)
  rw [HQ.out]
  exact ⟨rfl, HB1.out⟩
set_option maxRecDepth 8000 in
set_option maxHeartbeats 1000000 in
theorem step_nil (h : MC w B q pl mb mg C gq gg gm fv tq t s K f acc flt H G sl steps odd) {d : Nat → Nat} {fvs : Nat → Value} (ts : TS w q t tq d fvs) {k : Nat} (hk : k < t) :
    Calls Try.prog 8 #[.pointer (some ⟨q, 0, none⟩), .int .i64 k, .nilFunc] w fun e w' => e = .returned (.bool false) ∧ Below w.heap.size w w' := by
  by_cases hd : d k = 0
  · exact step_zero h ts hk hd _
  refine Calls.veil fun Q HQ => ?_
  have HT := Lib.hid (cThread_yes h k hk)
  have HH := Lib.hid (ts.th k hk)
  obtain ⟨dk, hdk⟩ : ∃ dk, dk = d k := ⟨_, rfl⟩
  rw [← hdk] at HH hd
  have hd2 : ¬ (dk : Int) = 0 := by omega
  have qn := qRN
  clear h ts hdk hd
  go_enter Try.func8, Try.ntmps8
  go_wp2_with fail
  refine HT.out.mono ?_; rintro _ w1 ⟨rfl, hb1⟩
  have HB1 := Lib.hid hb1; clear hb1
  go_wp2_with fail
  refine (tdepth (HH.out.keep HB1.out.size fun j hj _ _ => HB1.out.block j hj)).mono ?_; rintro _ _ ⟨rfl, rfl⟩
  go_wp2_with fail
  (try go_ret)
  rw [HQ.out]
  exact ⟨rfl, HB1.out⟩
end
set_option maxRecDepth 8000 in
set_option maxHeartbeats 2000000 in
theorem step_yes {w : World} {B q pl mb mg C gq gg gm : Nat} {fv : Value} {tq : Nat → Nat} {t s : Nat} {K : Int} {f : Nat → Int} {acc : Int} {H : Nat → Bool} {G : Nat → Int} {sl steps : Int} {odd : Bool} (h : MC w B q pl mb mg C gq gg gm fv tq t s K f acc false H G sl steps odd)
    {d : Nat → Nat} {fvs : Nat → Value} (ts : TS w q t tq d fvs) {M N : Nat} (hb : MB M N q mb mg t tq fvs) {k e : Nat} (hk : k < t) (hd : d k = e + 1) (he : e ≤ 1000) {nb n : Nat} (hn : w.cell? ⟨nb, 0, none⟩ = some (.int .i64 n)) (n0 : nb ≠ q) (n1 : nb ≠ mb) (n2 : nb ≠ mg) (n8 : n ≤ 8) (a0 : 0 ≤ acc) (a1 : acc < 1000000) (s0 : 0 ≤ steps) (s1 : steps < 1000000) :
    Calls Try.prog 8 #[.pointer (some ⟨q, 0, none⟩), .int .i64 k, .func (Fn.func 9) #[] #[.pointer (some ⟨nb, 0, none⟩)]] w fun x w' => x = .returned (.bool (decide (0 < e))) ∧ MC w' B q pl mb mg C gq gg gm fv tq t s K f (acc + n) false H G sl (steps + 1) (odd || decide (1 < n)) ∧
      (∃ fv', TS w' q t tq (fun i => if i = k then e else d i) (fun i => if i = k then fv' else fvs i) ∧ ∀ j, fv'.ownBlock = some j → (fvs k).ownBlock = some j) ∧ KN M N w w' := by
  refine Calls.veil fun Q HQ => ?_
  have HH := Lib.hid h; have HT := Lib.hid ts; have HB := Lib.hid hb; have HN := Lib.hid hn
  have HD := Lib.hid hd
  have hth := ts.th k hk
  rw [hd] at hth
  have HTH := Lib.hid hth
  have he1 : ¬ (e : Int) + 1 = 0 := by omega
  have qn := qRF 9 #[.pointer (some ⟨nb, 0, none⟩)]
  clear h ts hb hd hn hth
  go_enter Try.func8, Try.ntmps8
  go_wp2_with fail
  refine (cThread_yes HH.out k hk).mono ?_; rintro _ w1 ⟨rfl, hb1⟩
  have HB1 := Lib.hid hb1
  have HM1 := Lib.hid (HH.out.below hb1)
  clear hb1
  go_wp2_with fail
  refine (tdepth (HTH.out.keep HB1.out.size fun j hj _ _ => HB1.out.block j hj)).mono ?_; rintro _ _ ⟨rfl, rfl⟩
  have c1 := HM1.out.c1
  go_wp2_with fail
  refine (Mm.maccs _ _ _ _ _ _ _ _ HM1.out.mem).mono ?_; rintro _ _ ⟨rfl, rfl⟩
  have c4 := HM1.out.c4
  have cf : ∀ i, w1.frozen? ⟨q, i, none⟩ = false := fun i => frozen_of_row _ _ _ _ _ HM1.out.blk
  go_upto_region 6 with fail
  generalize hV : World.setCell _ _ _ = V
  have hvq : V.heap[q]? = some (.cells (machC pl mb gq fv (steps + 1) odd) 57 (0, 0)) := by rw [← hV]; exact heap_setCell_same _ q 4 _ _ _ HM1.out.blk
  have hvo : ∀ j, j ≠ q → V.heap[j]? = w1.heap[j]? := fun j hj => by rw [← hV]; exact Below.heap_setCell _ _ _ _ hj
  have hvs : V.heap.size = w1.heap.size := by rw [← hV]; simp [World.setCell]
  have hos : V.os = w1.os ∧ V.tape = w1.tape ∧ V.output = w1.output := by rw [← hV]; exact ⟨rfl, rfl, rfl⟩
  have HMV := Lib.hid (HM1.out.setq hvq (by omega) hvo)
  have HTV := Lib.hid ((HT.out.below HB1.out).hi (by omega) fun j _ hj => hvo j (by omega))
  have HMQ := Lib.hid (show M ≤ q ∧ q < N from ⟨by have := HB.out.bm; have := HM1.out.qlt; omega, HB.out.bq⟩)
  have HKV := Lib.hid (show KN M N w V from (KN.of_below HB1.out : KN M N w w1).trans ⟨hos.1, hos.2.1, hos.2.2, by omega, fun j hj hx => hvo j (fun e => hx (e ▸ HMQ.out))⟩)
  have HNV := Lib.hid (show V.cell? ⟨nb, 0, none⟩ = some (.int .i64 n) from (World.cell?_of_block (a := ⟨nb, 0, none⟩) (hvo nb n0)).trans (Ext.use (Ext.cells HN.out) HB1.out))
  clear hV hvq hvo hvs hos HM1 HB1 HTH c1 c4 cf qn
  go_wp2_with fail
  refine (cback HMV.out HTV.out HB.out hk HD.out he HNV.out n1 n2 n8 a0 a1).mono ?_; rintro _ w5 ⟨rfl, hm5, ⟨fv', ht5, hof⟩, hk5⟩
  have HM5 := Lib.hid hm5; have HT5 := Lib.hid ht5; have HOF := Lib.hid hof; have HK5 := Lib.hid (HKV.out.trans hk5)
  clear hm5 ht5 hof hk5 HMV HTV HKV HNV
  have c1 := HM5.out.c1
  go_wp2_with fail
  refine (Mm.maccs _ _ _ _ _ _ _ _ HM5.out.mem).mono ?_; rintro _ _ ⟨rfl, rfl⟩
  by_cases hn1 : 1 < n
  · have hc : (1 : Int) < acc + n - acc := by omega
    have c5 := HM5.out.c5
    have cf : ∀ i, w5.frozen? ⟨q, i, none⟩ = false := fun i => frozen_of_row _ _ _ _ _ HM5.out.blk
    go_upto_region 9 with fail
    generalize hV : World.setCell _ _ _ = V
    have hvq : V.heap[q]? = some (.cells (machC pl mb gq fv (steps + 1) true) 57 (0, 0)) := by rw [← hV]; exact heap_setCell_same _ q 5 _ _ _ HM5.out.blk
    have hvo : ∀ j, j ≠ q → V.heap[j]? = w5.heap[j]? := fun j hj => by rw [← hV]; exact Below.heap_setCell _ _ _ _ hj
    have hvs : V.heap.size = w5.heap.size := by rw [← hV]; simp [World.setCell]
    have hos : V.os = w5.os ∧ V.tape = w5.tape ∧ V.output = w5.output := by rw [← hV]; exact ⟨rfl, rfl, rfl⟩
    have HM6 := Lib.hid (HM5.out.setq hvq (by omega) hvo)
    have HT6 := Lib.hid (HT5.out.hi (by omega) fun j _ hj => hvo j (by omega))
    have HK6 := Lib.hid (HK5.out.trans ⟨hos.1, hos.2.1, hos.2.2, by omega, fun j hj hx => hvo j (fun e => hx (e ▸ HMQ.out))⟩)
    clear hV hvq hvo hvs hos c1 c5 cf HM5 HT5 HK5
    have hth5 := HT6.out.th k hk
    rw [if_pos rfl, if_pos rfl] at hth5
    have HTH5 := Lib.hid hth5
    clear hth5
    go_wp2_with fail
    refine (tdepth HTH5.out).mono ?_; rintro _ _ ⟨rfl, rfl⟩
    go_wp2_with fail
    (try go_ret)
    rw [HQ.out]
    refine ⟨by simp, ?_, ⟨fv', HT6.out, HOF.out⟩, HK6.out⟩
    rw [decide_eq_true hn1, Bool.or_true]; exact HM6.out
  · have hc : ¬ (1 : Int) < acc + n - acc := by omega
    go_upto_region 9 with fail
    clear c1
    have hth5 := HT5.out.th k hk
    rw [if_pos rfl, if_pos rfl] at hth5
    have HTH5 := Lib.hid hth5
    clear hth5
    go_wp2_with fail
    refine (tdepth HTH5.out).mono ?_; rintro _ _ ⟨rfl, rfl⟩
    go_wp2_with fail
    (try go_ret)
    rw [HQ.out]
    refine ⟨by simp, ?_, ⟨fv', HT5.out, HOF.out⟩, HK5.out⟩
    rw [decide_eq_false hn1, Bool.or_false]; exact HM5.out
end Go.Proofs.Ytokeokgmopboiaa
