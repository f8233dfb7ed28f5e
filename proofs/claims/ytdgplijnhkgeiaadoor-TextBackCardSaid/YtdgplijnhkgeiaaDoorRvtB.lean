/- Layer 35, histories: an event, read. (By gen_rvtb.py.) -/
import Derived.Test.YtdgplijnhkgeiaaDoorRvtA
namespace Go.Proofs.YtdgplijnhkgeiaaDoor
open Go.RowKit
open Go.Lib (cut itoa)
set_option linter.unusedVariables false
set_option linter.unusedSimpArgs false
/-- An event that is returned, with its pairs' row. -/
def EvE (B : Nat) (r : Except Int Ev) (e : Ending) (w' : World) : Prop :=
  match r with
  | .ok a => ∃ v, e = .returned (.agg (evcells a v).toArray) ∧ OwnQ w' B v a.an.ps
  | .error y => e = wrP y
theorem putRow_own {C B : Nat} {v : Value} {l : PL} (hC : C < B) : ∀ (r : List Value) (i : Nat) {W : World}, OwnQ W B v l → OwnQ (putRow C i r W) B v l
  | [], _, _, h => h
  | u :: r, i, W, h => putRow_own hC r (i + 1) (ownsRow_setCell_below h (a := ⟨C, i, none⟩) hC _)
set_option maxRecDepth 16000 in
set_option maxHeartbeats 4000000 in
theorem toevent (s : List UInt8) (w : World) (hs : s.length ≤ 5000) (hv : VB w.heap.size w) :
    Calls Tryd.prog 31 #[tx s] w fun e w' => EvE w.heap.size (eventW (splitL 32 s)) e w' ∧ Below w.heap.size w w' := by
  refine Calls.veil fun Q HQ => ?_
  have HC1 := Lib.hid (fun W => tcut s 32 W (by omega))
  have HS1 := cut_split 32 s
  have HN1 := cut_words 32 s
  have HC2 := Lib.hid (fun W => tcut (cut s [32]).2.1 32 W (by omega))
  have HS2 := cut_split 32 (cut s [32]).2.1
  have HN2 := cut_words 32 (cut s [32]).2.1
  obtain ⟨f, hf⟩ : ∃ f, f = (cut s [32]).1 := ⟨_, rfl⟩
  obtain ⟨ok, hok⟩ : ∃ f, f = (cut s [32]).2.2 := ⟨_, rfl⟩
  rw [← hf, ← hok] at HS1 HC1
  rw [← hf] at HN1
  clear hf hok
  generalize (cut s [32]).2.1 = b1 at *
  obtain ⟨f2, hf⟩ : ∃ f, f = (cut b1 [32]).1 := ⟨_, rfl⟩
  obtain ⟨ok2, hok⟩ : ∃ f, f = (cut b1 [32]).2.2 := ⟨_, rfl⟩
  obtain ⟨b2, hb2⟩ : ∃ f, f = (cut b1 [32]).2.1 := ⟨_, rfl⟩
  rw [← hf, ← hok, ← hb2] at HS2 HC2
  rw [← hf, ← hb2] at HN2
  clear hf hok hb2
  have HL := Lib.hid (show f2.length ≤ 5000 ∧ b2.length ≤ 5000 by omega)
  have HS1 := Lib.hid HS1
  have HS2 := Lib.hid HS2
  have HV := Lib.hid hv
  clear HN1 HN2 hs hv
  go_enter Tryd.func31, Tryd.ntmps31
  go_upto_region 1 with fail
  generalize hV : World.alloc w _ = V
  have F0 := Lib.hid (show Below w.heap.size w V ∧ V.heap.size = w.heap.size + 1 ∧ V.heap[w.heap.size]? = some (.cells (evcells zeroE (.slice none 0 0)).toArray 45 (0, 0)) by
    rw [← hV]; exact ⟨below_new (Below.refl _ _) _, by simp, heap_alloc_new w _⟩)
  clear hV
  go_wp2_with fail
  refine (HC1.out V).mono ?_; rintro _ w1 ⟨rfl, hb⟩
  have HB1 := Lib.hid (below_on F0.out.1 hb)
  have HR1 := Lib.hid (upk hb F0.out.2.2)
  clear hb
  go_wp2_with fail
  refine (HC2.out w1).mono ?_; rintro _ w2 ⟨rfl, hb⟩
  have HB2 := Lib.hid (below_on HB1.out hb)
  have HR2 := Lib.hid (upk hb HR1.out)
  clear hb HB1 HR1 F0 HC1 HC2
  cases ok with
  | false =>
    have HE := Lib.hid (show eventW (splitL 32 s) = .error 4 from eventW_short (by rw [HS1.out]; simp))
    go_wp2_with fail
    rw [HQ.out, HE.out]
    exact ⟨rfl, rfl, HB2.out⟩
  | true =>
  cases ok2 with
  | false =>
    have HE := Lib.hid (show eventW (splitL 32 s) = .error 4 from eventW_short (by rw [HS1.out, HS2.out]; simp))
    go_wp2_with fail
    rw [HQ.out, HE.out]
    exact ⟨rfl, rfl, HB2.out⟩
  | true =>
  obtain ⟨r, rr, hws⟩ := List.exists_cons_of_ne_nil (splitL_ne 32 b2)
  have HWS := Lib.hid (show splitL 32 s = f :: f2 :: r :: rr by rw [HS1.out, HS2.out, ← hws]; rfl)
  have HTA := Lib.hid (fun (W : World) (k : Below w.heap.size w W) => toanswer b2 W (Nat.le_trans HL.out.2 (by decide)) ((HV.out.below k).up k.size))
  have HTC := Lib.hid (fun (W : World) (k : Below w.heap.size w W) => tocall b2 W (Nat.le_trans HL.out.2 (by decide)) ((HV.out.below k).up k.size))
  rw [hws] at HTA HTC
  clear hws HS1 HS2
  by_cases h1 : f = begW
  case neg =>
    by_cases h2 : f = bakW
    case neg =>
      have HE := Lib.hid (show eventW (splitL 32 s) = .error 4 by rw [HWS.out]; exact eventW_word h1 h2)
      have k1 : ¬ f = [98, 101, 103, 105, 110] := h1
      have k2 : ¬ f = [98, 97, 99, 107] := h2
      have k3 : (f == [98, 101, 103, 105, 110]) = false := beq_eq_false_iff_ne.2 k1
      have k4 : (f == [98, 97, 99, 107]) = false := beq_eq_false_iff_ne.2 k2
      clear h1 h2
      go_wp2_with fail
      rw [HQ.out, HE.out]
      exact ⟨rfl, rfl, HB2.out⟩
    case pos =>
      subst h2
      unfold bakW at *
      cases hn : numOf f2 with
      | none =>
        have HE := Lib.hid (show eventW (splitL 32 s) = .error 4 by rw [HWS.out]; exact eventW_num hn)
        go_wp2_with fail
        refine (tnumber_no f2 w.heap.size w2 (numOf_not hn) (by have := HL.out.1; omega) (HV.out.below HB2.out) HB2.out.size).mono ?_; rintro _ w3 ⟨rfl, hb⟩
        have HB3 := Lib.hid (below_on HB2.out hb)
        clear hb hn
        go_wp2_with fail
        rw [HQ.out, HE.out]
        exact ⟨rfl, rfl, HB3.out⟩
      | some t =>
        have HN := Lib.hid hn
        have HNI := Lib.hid (numOf_is hn)
        have TN := Lib.hid (tnumber f2 t w.heap.size w2 (numOf_is hn) (by have := HL.out.1; omega) (HV.out.below HB2.out) HB2.out.size)
        have hw1 : wrap64 t = t := wrap_id (numOf_is hn).1
        have hw2 : IntKind.i64.wrap t = t := wrapi_id (numOf_is hn).1
        clear hn
        go_wp2_with fail
        refine TN.out.mono ?_; rintro _ w3 ⟨rfl, hb⟩
        have HB3 := Lib.hid (below_on HB2.out hb)
        have HR3 := Lib.hid (upk hb HR2.out)
        clear hb TN
        go_upto_region 6 with fail
        obtain ⟨C, hC⟩ : ∃ C, C = w3.heap.size := ⟨_, rfl⟩
        rw [← hC]
        generalize hU : World.alloc w3 _ = U
        have FU := Lib.hid (show Below w.heap.size w U ∧ w.heap.size < C ∧ C < U.heap.size ∧ U.heap[w.heap.size]? = some (.cells (evcells zeroE (.slice none 0 0)).toArray 45 (0, 0)) ∧ U.heap[C]? = some (.cells (evcells ⟨t, true, ⟨0, 0, 0, 0, 0⟩, ⟨0, 0, 0, 0, []⟩⟩ (.slice none 0 0)).toArray 45 (0, 0)) by
          rw [← hU, hC]
          exact ⟨below_new HB3.out _, (Array.getElem?_eq_some_iff.1 HR3.out).1, by simp, upk (below_new (Below.refl _ _) _) HR3.out, heap_alloc_new w3 _⟩)
        clear hU hC HB2 HR2 HB3 HR3
        have xb : U.cell? ⟨C, 1, none⟩ = some (.bool true) := rowc FU.out.2.2.2.2 _ rfl
        go_wp2_with fail
        cases ha : answerR (r :: rr) with
        | error y =>
          have HE := Lib.hid (show eventW (splitL 32 s) = .error y by rw [HWS.out]; exact (eventW_back HN.out).trans (by rw [ha]))
          have TA := HTA.out U FU.out.1
          rw [ha] at TA
          refine TA.mono ?_; rintro _ w5 ⟨hx, hb⟩
          have hx : _ = wrP y := hx
          subst hx
          have HB5 := Lib.hid (below_on FU.out.1 hb)
          clear hb ha TA
          go_wp2_with fail
          rw [HQ.out, HE.out]
          exact ⟨rfl, rfl, HB5.out⟩
        | ok a =>
          have TA := HTA.out U FU.out.1
          rw [ha] at TA
          obtain ⟨ak, akey, aval, an, ps⟩ := a
          have HE := Lib.hid (show eventW (splitL 32 s) = .ok ⟨t, true, ⟨0, 0, 0, 0, 0⟩, ⟨ak, akey, aval, an, ps⟩⟩ by rw [HWS.out]; exact (eventW_back HN.out).trans (by rw [ha]))
          refine TA.mono ?_; rintro _ w5 ⟨⟨v, hx, hown⟩, hb⟩
          have hx : _ = Ending.returned (.agg #[.int .i64 ak, .int .i64 akey, .int .i64 aval, .int .i64 an, v]) := hx
          subst hx
          obtain ⟨q, qc, rfl⟩ := ownQ_slice hown
          have HO := Lib.hid hown
          have HB5 := Lib.hid (below_on FU.out.1 hb)
          have HC5 := Lib.hid (upk hb FU.out.2.2.2.2)
          have HR5 := Lib.hid (upk hb FU.out.2.2.2.1)
          have HSZ := Lib.hid (show U.heap.size ≤ w5.heap.size from hb.size)
          clear hb ha TA xb
          have x0 : w5.cell? ⟨C, 0, none⟩ = some (.int .i64 t) := rowc HC5.out _ rfl
          have x1 : w5.cell? ⟨C, 1, none⟩ = some (.bool true) := rowc HC5.out _ rfl
          have x2 : w5.cell? ⟨C, 2, none⟩ = some (.int .i64 0) := rowc HC5.out _ rfl
          have x3 : w5.cell? ⟨C, 3, none⟩ = some (.int .i64 0) := rowc HC5.out _ rfl
          have x4 : w5.cell? ⟨C, 4, none⟩ = some (.int .i64 0) := rowc HC5.out _ rfl
          have x5 : w5.cell? ⟨C, 5, none⟩ = some (.int .i64 0) := rowc HC5.out _ rfl
          have x6 : w5.cell? ⟨C, 6, none⟩ = some (.int .i64 0) := rowc HC5.out _ rfl
          have x7 : w5.cell? ⟨C, 7, none⟩ = some (.int .i64 0) := rowc HC5.out _ rfl
          have x8 : w5.cell? ⟨C, 8, none⟩ = some (.int .i64 0) := rowc HC5.out _ rfl
          have x9 : w5.cell? ⟨C, 9, none⟩ = some (.int .i64 0) := rowc HC5.out _ rfl
          have x10 : w5.cell? ⟨C, 10, none⟩ = some (.int .i64 0) := rowc HC5.out _ rfl
          have x11 : w5.cell? ⟨C, 11, none⟩ = some (.slice none 0 0) := rowc HC5.out _ rfl
          have xf : ∀ i, w5.frozen? ⟨C, i, none⟩ = false := fun i => frozen_of_row _ _ _ _ _ HC5.out
          go_upto_region 9 with fail
          generalize hW6 : World.setCell _ _ _ = w6
          have H6 := Lib.hid (show w6 = putRow C 7 (ancells ⟨ak, akey, aval, an, ps⟩ (.slice q ps.length qc)) w5 by rw [← hW6]; rfl)
          clear hW6 x0 x1 x2 x3 x4 x5 x6 x7 x8 x9 x10 x11 xf
          have HC6 := Lib.hid (show w6.heap[C]? = some (.cells (evcells ⟨t, true, ⟨0, 0, 0, 0, 0⟩, ⟨ak, akey, aval, an, ps⟩⟩ (.slice q ps.length qc)).toArray 45 (0, 0)) by
            rw [H6.out]; exact putRow_at C (ancells ⟨ak, akey, aval, an, ps⟩ (.slice q ps.length qc)) 7 w5 _ HC5.out (of_decide_eq_true rfl))
          have HR6 := Lib.hid (show w6.heap[w.heap.size]? = some (.cells (evcells zeroE (.slice none 0 0)).toArray 45 (0, 0)) by
            rw [H6.out]; exact (putRow_other C _ _ _ (Nat.ne_of_lt FU.out.2.1)).trans HR5.out)
          have HB6 := Lib.hid (show Below w.heap.size w w6 by rw [H6.out]; exact HB5.out.trans (putRow_below C (Nat.le_of_lt FU.out.2.1) _ _ _))
          have x0 : w6.cell? ⟨C, 0, none⟩ = some (.int .i64 t) := rowc HC6.out _ rfl
          have x1 : w6.cell? ⟨C, 1, none⟩ = some (.bool true) := rowc HC6.out _ rfl
          have x2 : w6.cell? ⟨C, 2, none⟩ = some (.int .i64 0) := rowc HC6.out _ rfl
          have x3 : w6.cell? ⟨C, 3, none⟩ = some (.int .i64 0) := rowc HC6.out _ rfl
          have x4 : w6.cell? ⟨C, 4, none⟩ = some (.int .i64 0) := rowc HC6.out _ rfl
          have x5 : w6.cell? ⟨C, 5, none⟩ = some (.int .i64 0) := rowc HC6.out _ rfl
          have x6 : w6.cell? ⟨C, 6, none⟩ = some (.int .i64 0) := rowc HC6.out _ rfl
          have x7 : w6.cell? ⟨C, 7, none⟩ = some (.int .i64 ak) := rowc HC6.out _ rfl
          have x8 : w6.cell? ⟨C, 8, none⟩ = some (.int .i64 akey) := rowc HC6.out _ rfl
          have x9 : w6.cell? ⟨C, 9, none⟩ = some (.int .i64 aval) := rowc HC6.out _ rfl
          have x10 : w6.cell? ⟨C, 10, none⟩ = some (.int .i64 an) := rowc HC6.out _ rfl
          have x11 : w6.cell? ⟨C, 11, none⟩ = some (.slice q ps.length qc) := rowc HC6.out _ rfl
          have y0 : w6.cell? ⟨w.heap.size, 0, none⟩ = some (.int .i64 0) := rowc HR6.out _ rfl
          have y1 : w6.cell? ⟨w.heap.size, 1, none⟩ = some (.bool false) := rowc HR6.out _ rfl
          have y2 : w6.cell? ⟨w.heap.size, 2, none⟩ = some (.int .i64 0) := rowc HR6.out _ rfl
          have y3 : w6.cell? ⟨w.heap.size, 3, none⟩ = some (.int .i64 0) := rowc HR6.out _ rfl
          have y4 : w6.cell? ⟨w.heap.size, 4, none⟩ = some (.int .i64 0) := rowc HR6.out _ rfl
          have y5 : w6.cell? ⟨w.heap.size, 5, none⟩ = some (.int .i64 0) := rowc HR6.out _ rfl
          have y6 : w6.cell? ⟨w.heap.size, 6, none⟩ = some (.int .i64 0) := rowc HR6.out _ rfl
          have y7 : w6.cell? ⟨w.heap.size, 7, none⟩ = some (.int .i64 0) := rowc HR6.out _ rfl
          have y8 : w6.cell? ⟨w.heap.size, 8, none⟩ = some (.int .i64 0) := rowc HR6.out _ rfl
          have y9 : w6.cell? ⟨w.heap.size, 9, none⟩ = some (.int .i64 0) := rowc HR6.out _ rfl
          have y10 : w6.cell? ⟨w.heap.size, 10, none⟩ = some (.int .i64 0) := rowc HR6.out _ rfl
          have y11 : w6.cell? ⟨w.heap.size, 11, none⟩ = some (.slice none 0 0) := rowc HR6.out _ rfl
          have yf : ∀ i, w6.frozen? ⟨w.heap.size, i, none⟩ = false := fun i => frozen_of_row _ _ _ _ _ HR6.out
          go_wp2_with fail
          generalize hW7 : World.setCell _ _ _ = w7
          have H7 := Lib.hid (show w7 = putRow w.heap.size 0 (evcells ⟨t, true, ⟨0, 0, 0, 0, 0⟩, ⟨ak, akey, aval, an, ps⟩⟩ (.slice q ps.length qc)) w6 by rw [← hW7]; rfl)
          clear hW7
          have h7 : w7.heap[w.heap.size]? = some (.cells (evcells ⟨t, true, ⟨0, 0, 0, 0, 0⟩, ⟨ak, akey, aval, an, ps⟩⟩ (.slice q ps.length qc)).toArray 45 (0, 0)) := by
            rw [H7.out]; exact putRow_full _ _ _ _ HR6.out rfl
          have z0 : w7.cell? ⟨w.heap.size, 0, none⟩ = some (.int .i64 t) := rowc h7 _ rfl
          have z1 : w7.cell? ⟨w.heap.size, 1, none⟩ = some (.bool true) := rowc h7 _ rfl
          have z2 : w7.cell? ⟨w.heap.size, 2, none⟩ = some (.int .i64 0) := rowc h7 _ rfl
          have z3 : w7.cell? ⟨w.heap.size, 3, none⟩ = some (.int .i64 0) := rowc h7 _ rfl
          have z4 : w7.cell? ⟨w.heap.size, 4, none⟩ = some (.int .i64 0) := rowc h7 _ rfl
          have z5 : w7.cell? ⟨w.heap.size, 5, none⟩ = some (.int .i64 0) := rowc h7 _ rfl
          have z6 : w7.cell? ⟨w.heap.size, 6, none⟩ = some (.int .i64 0) := rowc h7 _ rfl
          have z7 : w7.cell? ⟨w.heap.size, 7, none⟩ = some (.int .i64 ak) := rowc h7 _ rfl
          have z8 : w7.cell? ⟨w.heap.size, 8, none⟩ = some (.int .i64 akey) := rowc h7 _ rfl
          have z9 : w7.cell? ⟨w.heap.size, 9, none⟩ = some (.int .i64 aval) := rowc h7 _ rfl
          have z10 : w7.cell? ⟨w.heap.size, 10, none⟩ = some (.int .i64 an) := rowc h7 _ rfl
          have z11 : w7.cell? ⟨w.heap.size, 11, none⟩ = some (.slice q ps.length qc) := rowc h7 _ rfl
          refine bodyPost_ret (v := .agg #[.int .i64 t, .bool true, .int .i64 0, .int .i64 0, .int .i64 0, .int .i64 0, .int .i64 0, .int .i64 ak, .int .i64 akey, .int .i64 aval, .int .i64 an, .slice q ps.length qc]) (by simp [results, Tryd.results31, go_sem, z0, z1, z2, z3, z4, z5, z6, z7, z8, z9, z10, z11]) rfl ?_
          rw [HQ.out, HE.out]
          refine ⟨⟨_, rfl, ?_⟩, by rw [H7.out]; exact HB6.out.trans (putRow_below _ (Nat.le_refl _) _ _ _)⟩
          rw [H7.out, H6.out]
          exact ownQ_mono (putRow_own (Nat.lt_trans FU.out.2.1 FU.out.2.2.1) _ _ (putRow_own FU.out.2.2.1 _ _ HO.out)) FU.out.1.size
  case pos =>
    subst h1
    unfold begW at *
    cases hn : numOf f2 with
    | none =>
      have HE := Lib.hid (show eventW (splitL 32 s) = .error 4 by rw [HWS.out]; exact eventW_num hn)
      go_wp2_with fail
      refine (tnumber_no f2 w.heap.size w2 (numOf_not hn) (by have := HL.out.1; omega) (HV.out.below HB2.out) HB2.out.size).mono ?_; rintro _ w3 ⟨rfl, hb⟩
      have HB3 := Lib.hid (below_on HB2.out hb)
      clear hb hn
      go_wp2_with fail
      rw [HQ.out, HE.out]
      exact ⟨rfl, rfl, HB3.out⟩
    | some t =>
      have HN := Lib.hid hn
      have HNI := Lib.hid (numOf_is hn)
      have TN := Lib.hid (tnumber f2 t w.heap.size w2 (numOf_is hn) (by have := HL.out.1; omega) (HV.out.below HB2.out) HB2.out.size)
      have hw1 : wrap64 t = t := wrap_id (numOf_is hn).1
      have hw2 : IntKind.i64.wrap t = t := wrapi_id (numOf_is hn).1
      clear hn
      go_wp2_with fail
      refine TN.out.mono ?_; rintro _ w3 ⟨rfl, hb⟩
      have HB3 := Lib.hid (below_on HB2.out hb)
      have HR3 := Lib.hid (upk hb HR2.out)
      clear hb TN
      go_upto_region 6 with fail
      obtain ⟨C, hC⟩ : ∃ C, C = w3.heap.size := ⟨_, rfl⟩
      rw [← hC]
      generalize hU : World.alloc w3 _ = U
      have FU := Lib.hid (show Below w.heap.size w U ∧ w.heap.size < C ∧ C < U.heap.size ∧ U.heap[w.heap.size]? = some (.cells (evcells zeroE (.slice none 0 0)).toArray 45 (0, 0)) ∧ U.heap[C]? = some (.cells (evcells ⟨t, false, ⟨0, 0, 0, 0, 0⟩, ⟨0, 0, 0, 0, []⟩⟩ (.slice none 0 0)).toArray 45 (0, 0)) by
        rw [← hU, hC]
        exact ⟨below_new HB3.out _, (Array.getElem?_eq_some_iff.1 HR3.out).1, by simp, upk (below_new (Below.refl _ _) _) HR3.out, heap_alloc_new w3 _⟩)
      clear hU hC HB2 HR2 HB3 HR3
      have xb : U.cell? ⟨C, 1, none⟩ = some (.bool false) := rowc FU.out.2.2.2.2 _ rfl
      go_wp2_with fail
      cases ha : callR (r :: rr) with
      | error y =>
        have HE := Lib.hid (show eventW (splitL 32 s) = .error y by rw [HWS.out]; exact (eventW_beg HN.out).trans (by rw [ha]))
        have TA := HTC.out U FU.out.1
        rw [ha] at TA
        refine TA.mono ?_; rintro _ w5 ⟨hx, hb⟩
        have hx : _ = wrP y := hx
        subst hx
        have HB5 := Lib.hid (below_on FU.out.1 hb)
        clear hb ha TA
        go_wp2_with fail
        rw [HQ.out, HE.out]
        exact ⟨rfl, rfl, HB5.out⟩
      | ok a =>
        have TA := HTC.out U FU.out.1
        rw [ha] at TA
        obtain ⟨op, key, val, hi, lim⟩ := a
        have HE := Lib.hid (show eventW (splitL 32 s) = .ok ⟨t, false, ⟨op, key, val, hi, lim⟩, ⟨0, 0, 0, 0, []⟩⟩ by rw [HWS.out]; exact (eventW_beg HN.out).trans (by rw [ha]))
        refine TA.mono ?_; rintro _ w5 ⟨hx, hb⟩
        have hx : _ = Ending.returned (.agg #[.int .i64 op, .int .i64 key, .int .i64 val, .int .i64 hi, .int .i64 lim]) := hx
        subst hx
        have HB5 := Lib.hid (below_on FU.out.1 hb)
        have HC5 := Lib.hid (upk hb FU.out.2.2.2.2)
        have HR5 := Lib.hid (upk hb FU.out.2.2.2.1)
        have HSZ := Lib.hid (show U.heap.size ≤ w5.heap.size from hb.size)
        clear hb ha TA xb
        have x0 : w5.cell? ⟨C, 0, none⟩ = some (.int .i64 t) := rowc HC5.out _ rfl
        have x1 : w5.cell? ⟨C, 1, none⟩ = some (.bool false) := rowc HC5.out _ rfl
        have x2 : w5.cell? ⟨C, 2, none⟩ = some (.int .i64 0) := rowc HC5.out _ rfl
        have x3 : w5.cell? ⟨C, 3, none⟩ = some (.int .i64 0) := rowc HC5.out _ rfl
        have x4 : w5.cell? ⟨C, 4, none⟩ = some (.int .i64 0) := rowc HC5.out _ rfl
        have x5 : w5.cell? ⟨C, 5, none⟩ = some (.int .i64 0) := rowc HC5.out _ rfl
        have x6 : w5.cell? ⟨C, 6, none⟩ = some (.int .i64 0) := rowc HC5.out _ rfl
        have x7 : w5.cell? ⟨C, 7, none⟩ = some (.int .i64 0) := rowc HC5.out _ rfl
        have x8 : w5.cell? ⟨C, 8, none⟩ = some (.int .i64 0) := rowc HC5.out _ rfl
        have x9 : w5.cell? ⟨C, 9, none⟩ = some (.int .i64 0) := rowc HC5.out _ rfl
        have x10 : w5.cell? ⟨C, 10, none⟩ = some (.int .i64 0) := rowc HC5.out _ rfl
        have x11 : w5.cell? ⟨C, 11, none⟩ = some (.slice none 0 0) := rowc HC5.out _ rfl
        have xf : ∀ i, w5.frozen? ⟨C, i, none⟩ = false := fun i => frozen_of_row _ _ _ _ _ HC5.out
        go_upto_region 9 with fail
        generalize hW6 : World.setCell _ _ _ = w6
        have H6 := Lib.hid (show w6 = putRow C 2 (cacells ⟨op, key, val, hi, lim⟩) w5 by rw [← hW6]; rfl)
        clear hW6 x0 x1 x2 x3 x4 x5 x6 x7 x8 x9 x10 x11 xf
        have HC6 := Lib.hid (show w6.heap[C]? = some (.cells (evcells ⟨t, false, ⟨op, key, val, hi, lim⟩, ⟨0, 0, 0, 0, []⟩⟩ (.slice none 0 0)).toArray 45 (0, 0)) by
          rw [H6.out]; exact putRow_at C (cacells ⟨op, key, val, hi, lim⟩) 2 w5 _ HC5.out (of_decide_eq_true rfl))
        have HR6 := Lib.hid (show w6.heap[w.heap.size]? = some (.cells (evcells zeroE (.slice none 0 0)).toArray 45 (0, 0)) by
          rw [H6.out]; exact (putRow_other C _ _ _ (Nat.ne_of_lt FU.out.2.1)).trans HR5.out)
        have HB6 := Lib.hid (show Below w.heap.size w w6 by rw [H6.out]; exact HB5.out.trans (putRow_below C (Nat.le_of_lt FU.out.2.1) _ _ _))
        have x0 : w6.cell? ⟨C, 0, none⟩ = some (.int .i64 t) := rowc HC6.out _ rfl
        have x1 : w6.cell? ⟨C, 1, none⟩ = some (.bool false) := rowc HC6.out _ rfl
        have x2 : w6.cell? ⟨C, 2, none⟩ = some (.int .i64 op) := rowc HC6.out _ rfl
        have x3 : w6.cell? ⟨C, 3, none⟩ = some (.int .i64 key) := rowc HC6.out _ rfl
        have x4 : w6.cell? ⟨C, 4, none⟩ = some (.int .i64 val) := rowc HC6.out _ rfl
        have x5 : w6.cell? ⟨C, 5, none⟩ = some (.int .i64 hi) := rowc HC6.out _ rfl
        have x6 : w6.cell? ⟨C, 6, none⟩ = some (.int .i64 lim) := rowc HC6.out _ rfl
        have x7 : w6.cell? ⟨C, 7, none⟩ = some (.int .i64 0) := rowc HC6.out _ rfl
        have x8 : w6.cell? ⟨C, 8, none⟩ = some (.int .i64 0) := rowc HC6.out _ rfl
        have x9 : w6.cell? ⟨C, 9, none⟩ = some (.int .i64 0) := rowc HC6.out _ rfl
        have x10 : w6.cell? ⟨C, 10, none⟩ = some (.int .i64 0) := rowc HC6.out _ rfl
        have x11 : w6.cell? ⟨C, 11, none⟩ = some (.slice none 0 0) := rowc HC6.out _ rfl
        have y0 : w6.cell? ⟨w.heap.size, 0, none⟩ = some (.int .i64 0) := rowc HR6.out _ rfl
        have y1 : w6.cell? ⟨w.heap.size, 1, none⟩ = some (.bool false) := rowc HR6.out _ rfl
        have y2 : w6.cell? ⟨w.heap.size, 2, none⟩ = some (.int .i64 0) := rowc HR6.out _ rfl
        have y3 : w6.cell? ⟨w.heap.size, 3, none⟩ = some (.int .i64 0) := rowc HR6.out _ rfl
        have y4 : w6.cell? ⟨w.heap.size, 4, none⟩ = some (.int .i64 0) := rowc HR6.out _ rfl
        have y5 : w6.cell? ⟨w.heap.size, 5, none⟩ = some (.int .i64 0) := rowc HR6.out _ rfl
        have y6 : w6.cell? ⟨w.heap.size, 6, none⟩ = some (.int .i64 0) := rowc HR6.out _ rfl
        have y7 : w6.cell? ⟨w.heap.size, 7, none⟩ = some (.int .i64 0) := rowc HR6.out _ rfl
        have y8 : w6.cell? ⟨w.heap.size, 8, none⟩ = some (.int .i64 0) := rowc HR6.out _ rfl
        have y9 : w6.cell? ⟨w.heap.size, 9, none⟩ = some (.int .i64 0) := rowc HR6.out _ rfl
        have y10 : w6.cell? ⟨w.heap.size, 10, none⟩ = some (.int .i64 0) := rowc HR6.out _ rfl
        have y11 : w6.cell? ⟨w.heap.size, 11, none⟩ = some (.slice none 0 0) := rowc HR6.out _ rfl
        have yf : ∀ i, w6.frozen? ⟨w.heap.size, i, none⟩ = false := fun i => frozen_of_row _ _ _ _ _ HR6.out
        go_wp2_with fail
        generalize hW7 : World.setCell _ _ _ = w7
        have H7 := Lib.hid (show w7 = putRow w.heap.size 0 (evcells ⟨t, false, ⟨op, key, val, hi, lim⟩, ⟨0, 0, 0, 0, []⟩⟩ (.slice none 0 0)) w6 by rw [← hW7]; rfl)
        clear hW7
        have h7 : w7.heap[w.heap.size]? = some (.cells (evcells ⟨t, false, ⟨op, key, val, hi, lim⟩, ⟨0, 0, 0, 0, []⟩⟩ (.slice none 0 0)).toArray 45 (0, 0)) := by
          rw [H7.out]; exact putRow_full _ _ _ _ HR6.out rfl
        have z0 : w7.cell? ⟨w.heap.size, 0, none⟩ = some (.int .i64 t) := rowc h7 _ rfl
        have z1 : w7.cell? ⟨w.heap.size, 1, none⟩ = some (.bool false) := rowc h7 _ rfl
        have z2 : w7.cell? ⟨w.heap.size, 2, none⟩ = some (.int .i64 op) := rowc h7 _ rfl
        have z3 : w7.cell? ⟨w.heap.size, 3, none⟩ = some (.int .i64 key) := rowc h7 _ rfl
        have z4 : w7.cell? ⟨w.heap.size, 4, none⟩ = some (.int .i64 val) := rowc h7 _ rfl
        have z5 : w7.cell? ⟨w.heap.size, 5, none⟩ = some (.int .i64 hi) := rowc h7 _ rfl
        have z6 : w7.cell? ⟨w.heap.size, 6, none⟩ = some (.int .i64 lim) := rowc h7 _ rfl
        have z7 : w7.cell? ⟨w.heap.size, 7, none⟩ = some (.int .i64 0) := rowc h7 _ rfl
        have z8 : w7.cell? ⟨w.heap.size, 8, none⟩ = some (.int .i64 0) := rowc h7 _ rfl
        have z9 : w7.cell? ⟨w.heap.size, 9, none⟩ = some (.int .i64 0) := rowc h7 _ rfl
        have z10 : w7.cell? ⟨w.heap.size, 10, none⟩ = some (.int .i64 0) := rowc h7 _ rfl
        have z11 : w7.cell? ⟨w.heap.size, 11, none⟩ = some (.slice none 0 0) := rowc h7 _ rfl
        refine bodyPost_ret (v := .agg #[.int .i64 t, .bool false, .int .i64 op, .int .i64 key, .int .i64 val, .int .i64 hi, .int .i64 lim, .int .i64 0, .int .i64 0, .int .i64 0, .int .i64 0, .slice none 0 0]) (by simp [results, Tryd.results31, go_sem, z0, z1, z2, z3, z4, z5, z6, z7, z8, z9, z10, z11]) rfl ?_
        rw [HQ.out, HE.out]
        exact ⟨⟨_, rfl, ownQ_nil _ _⟩, by rw [H7.out]; exact HB6.out.trans (putRow_below _ (Nat.le_refl _) _ _ _)⟩
end Go.Proofs.YtdgplijnhkgeiaaDoor
