/- Layer 11: hist.Each's iterator, as a range over it asks. -/
import Derived.Test.YtmnmomiheenmpaaHisU
import Derived.Test.YtmnmomiheenmpaaHisR
import Derived.Test.YtmnmomiheenmpaaHisN
import Derived.RangeFuncNested
import Derived.RangeFuncBound
import Derived.RangeFuncCalls
import Derived.RangeFuncLeaves
import Derived.Shelf.Abstract
import Derived.Shelf.RegionOpen
import Derived.OwnWalkIn
import Derived.TacticsInMore
import Derived.LoopNIn
import Derived.LoopIn
namespace Go.Proofs.Ytmnmomiheenmpaa
open Go.RowKit
set_option linter.unusedVariables false
set_option linter.unusedSimpArgs false
theorem CallsIn.veil {F : Fence} {n : Nat} {P : Program} {f : FuncId} {args : Array Value} {w : World} {R : Ending → World → Prop} (h : ∀ Q : Ending → World → Prop, Hid (Q = R) → CallsIn F n P f args w Q) : CallsIn F n P f args w R := h R rfl
def thO (th : Int) (O : List Opr) : List Opr := O.filter fun x => decide (x.th = th)
abbrev Told := Opr × Option Addr × Nat
def tv (x : Told) : Value := .agg #[.int .i64 x.1.th, .int .i64 x.1.ca.op, .int .i64 x.1.ca.key, .int .i64 x.1.ca.val, .int .i64 x.1.ca.hi, .int .i64 x.1.ca.lim, .int .i64 x.1.an.kind, .int .i64 x.1.an.key, .int .i64 x.1.an.val, .int .i64 x.1.an.n, .slice x.2.1 x.1.an.ps.length x.2.2, .int .i64 x.1.fr, .int .i64 x.1.to]
theorem thO_succ (th : Int) (O : List Opr) (i : Nat) (x : Opr) (hx : O[i]? = some x) : thO th (O.take (i + 1)) = thO th (O.take i) ++ (if x.th = th then [x] else []) := by
  rw [List.take_add_one, hx]
  unfold thO
  rw [List.filter_append]
  by_cases h : x.th = th <;> simp [h]
theorem thO_take_len (th : Int) (O : List Opr) (i : Nat) : (thO th (O.take i)).length ≤ i := by
  unfold thO
  exact Nat.le_trans (List.length_filter_le _ _) (by rw [List.length_take]; omega)
theorem thO_pre (th : Int) (O : List Opr) (i : Nat) : ∃ k, k ≤ (thO th O).length ∧ thO th (O.take i) = (thO th O).take k := by
  have h : thO th O = thO th (O.take i) ++ thO th (O.drop i) := by
    unfold thO; rw [← List.filter_append, List.take_append_drop]
  refine ⟨(thO th (O.take i)).length, by rw [h, List.length_append]; omega, by rw [h, List.take_left]⟩
theorem R13.below {w w' : World} {q : Nat} {x : Opr} {v : Value} (h : R13 w q x v) (k : Below w.heap.size w w') : R13 w' q x v := (k.block _ (Array.getElem?_eq_some_iff.1 h).1).trans h
theorem grown_of_below {w w' : World} (h : Below w.heap.size w w') : w.grownBy w' none := ⟨h.os, h.tape, h.output, h.size, fun k hk _ => h.block k hk⟩
set_option maxHeartbeats 8000000 in
theorem hiter_in (nn : Nat) (hnn : 1 ≤ nn) (l b q c m : Nat) (th : Int) (O : List Opr) (W0 : World) (p : Option Addr)
    (hm : m = O.length) (hb : W0.cell? ⟨b, 0, none⟩ = some (.slice p m c)) (hq : W0.cell? ⟨q, 0, none⟩ = some (.int .i64 th)) (hc1 : m ≤ c) (hc2 : c ≤ 9223372036854775807) (hO : m ≤ 1000)
    (HR : Hid (0 < m → ∃ g, p = some ⟨g, 0, none⟩ ∧ ∀ (i : Nat) (x : Opr), O[i]? = some x → ∃ u, OpC W0 g (i * 13) x u ∧ PR W0 u x.an.ps))
    (HP : Hid (∀ x ∈ O, x.an.ps.length ≤ 100000))
    (J Jx : List Told → World → Prop) (W : World) (HB : Hid (Below W0.heap.size W0 W)) (HJ : Hid (AbidesFrom W.heap.size J))
    (HY : Hid (∀ pre x W1, J pre W1 → pre.length < m → YieldAt Fence.wide (nn - 1) Try.prog l #[tv x] W1 fun e W' => (e = .returned (.bool true) ∧ J (pre ++ [x]) W' ∧ Below W0.heap.size W1 W') ∨ (e = .returned (.bool false) ∧ Jx (pre ++ [x]) W')))
    (H0 : Hid (J [] W)) :
    CallsIn Fence.wide nn Try.prog 21 #[.func (.yield l) #[] #[], .pointer (some ⟨b, 0, none⟩), .pointer (some ⟨q, 0, none⟩)] W fun e W' => (∃ v, e = .returned v) ∧
      ((∃ xs : List Told, xs.map (·.1) = thO th O ∧ J xs W') ∨ (∃ pre : List Told, (∃ k, k ≤ (thO th O).length ∧ pre.map (·.1) = (thO th O).take k) ∧ Jx pre W')) := by
  refine CallsIn.veil fun Q HQ => ?_
  have HM := Lib.hid hm
  clear hm
  refine callsIn_of_wp Try.func21 rfl trivial ?_ rfl
  simp only [Try.ntmps21, List.size_toArray, List.length_cons, List.length_nil, Nat.reduceAdd, Nat.reduceSub, Array.replicate_succ, Array.replicate_zero, List.push_toArray, List.append_toArray, List.nil_append, List.cons_append]
  refine wpIn_wide.2 ?_
  have kb : W.cell? ⟨b, 0, none⟩ = some (.slice p m c) := Ext.cell ⟨W, HB.out⟩ hb
  go_wp2_with fail
  clear kb hb
  go_loopw [8] (fun iv wr => ∃ i : Nat, i ≤ m ∧ iv = .int .i64 i ∧ ∃ pre : List Told, Hid (pre.map (·.1) = thO th (O.take i)) ∧ Hid (J pre wr) ∧ Below W0.heap.size W0 wr ∧ W.heap.size ≤ wr.heap.size)
    (fun iv _ => m - (intOf iv).toNat)
  case atStart => exact ⟨0, by omega, rfl, [], Lib.hid (by simp [thO]), H0, HB.out, Nat.le_refl _⟩
  case round =>
    obtain ⟨i, hi, rfl, pre, HPRE, HJ1, hbx, hsz⟩ := hrel
    have HX := Lib.hid hbx
    have HSZ := Lib.hid hsz
    clear hbx hsz
    rcases (by omega : i < m ∨ i = m) with hlt | hEQ
    · obtain ⟨g, rfl, hD⟩ := HR.out (by omega)
      obtain ⟨x, hx⟩ : ∃ x, O[i]? = some x := ⟨_, List.getElem?_eq_getElem (by have := HM.out; omega)⟩
      obtain ⟨u, hC, hPu⟩ := hD i x hx
      have hC := hC.below HX.out
      have HPX := Lib.hid (hPu.below HX.out)
      have HXP := Lib.hid (HP.out x (List.mem_of_getElem? hx))
      have HTK := Lib.hid (thO_succ th O i x hx)
      have HTP := Lib.hid (thO_pre th O (i + 1))
      have HLEN := Lib.hid (show pre.length < m by
        have h1 := congrArg List.length HPRE.out
        rw [List.length_map] at h1
        have := thO_take_len th O i
        omega)
      clear hPu hD hx
      obtain ⟨px, cx, rfl, _, _⟩ := HPX.out.slice
      have kq : wr.cell? ⟨q, 0, none⟩ = some (.int .i64 th) := Ext.cell ⟨wr, HX.out⟩ hq
      obtain ⟨x0, x1, x2, x3, x4, x5, x6, x7, x8, x9, x10, x11, x12⟩ := hC
      go_upto_region 3 with fail
      generalize hU : World.alloc wr _ = U
      obtain ⟨Z, hZ⟩ : ∃ Z, Z = wr.heap.size := ⟨_, rfl⟩
      rw [← hZ]
      have HRU := Lib.hid (show R13 U Z x (.slice px x.an.ps.length cx) by
        rw [← hU, hZ]
        exact heap_alloc_new wr _)
      have HUB := Lib.hid (show Below wr.heap.size wr U by
        rw [← hU]; exact below_new (Below.refl _ _) _)
      clear hU x0 x1 x2 x3 x4 x5 x6 x7 x8 x9 x10 x11 x12
      have HZ := Lib.hid hZ
      clear hZ
      have kq : U.cell? ⟨q, 0, none⟩ = some (.int .i64 th) := Ext.cell ⟨U, HUB.out⟩ kq
      obtain ⟨e0, e1, e2, e3, e4, e5, e6, e7, e8, e9, e10, e11, e12⟩ := HRU.out.cells
      simp only [Nat.zero_add] at e0 e1 e2 e3 e4 e5 e6 e7 e8 e9 e10 e11 e12
      by_cases hte : x.th = th
      · have HTE := Lib.hid hte
        rw [if_pos hte] at HTK
        clear e1 e2 e3 e4 e5 e11 e12
        go_upto_region 4 with fail
        clear kq e0 hte
        go_wp2_with fail
        refine (hcopied x.an _ _ (HPX.out.below HUB.out) (by have := HXP.out; omega)).mono ?_; rintro _ z1 ⟨v1, rfl, hp1, hb1⟩
        have HZ1 := Lib.hid (below_on HUB.out hb1)
        have HRZ := Lib.hid (HRU.out.below hb1)
        obtain ⟨p1, c1, rfl, _, _⟩ := hp1.1.slice
        clear e6 e7 e8 e9 e10 hp1 hb1
        obtain ⟨e0, e1, e2, e3, e4, e5, e6, e7, e8, e9, e10, e11, e12⟩ := HRZ.out.cells
        simp only [Nat.zero_add] at e0 e1 e2 e3 e4 e5 e6 e7 e8 e9 e10 e11 e12
        have ff := HRZ.out.free
        go_upto_region 5 with fail
        generalize hV : World.setCell _ _ _ = V
        have HRV := Lib.hid (show R13 V Z x (.slice p1 x.an.ps.length c1) by
          rw [← hV]; exact HRZ.out.answer x.an _)
        have HVB := Lib.hid (show Below wr.heap.size wr V by
          have hqq : wr.heap.size ≤ Z := Nat.le_of_eq HZ.out.symm
          rw [← hV]; exact (((((HZ1.out.setCell (p := ⟨Z, 6, none⟩) hqq _).setCell (p := ⟨Z, 7, none⟩) hqq _).setCell (p := ⟨Z, 8, none⟩) hqq _).setCell (p := ⟨Z, 9, none⟩) hqq _).setCell (p := ⟨Z, 10, none⟩) hqq _))
        clear hV e0 e1 e2 e3 e4 e5 e6 e7 e8 e9 e10 e11 e12 ff
        obtain ⟨e0, e1, e2, e3, e4, e5, e6, e7, e8, e9, e10, e11, e12⟩ := HRV.out.cells
        simp only [Nat.zero_add] at e0 e1 e2 e3 e4 e5 e6 e7 e8 e9 e10 e11 e12
        have HXV := Lib.hid (show Below W0.heap.size W0 V from HX.out.trans (HVB.out.mono HX.out.size))
        obtain ⟨fn, tmps, assign, body, hy, hR⟩ := HY.out pre (x, p1, c1) V (HJ.out pre wr V none HJ1.out (grown_of_below HVB.out) (fun r e => by cases e)) HLEN.out
        dsimp only [tv] at hy
        refine (wpIn_wide (n := nn)).1 ?_
        gi_wp2
        refine hR.mono ?_
        rintro e W3 (⟨rfl, hJ3, hk3⟩ | ⟨rfl, hJx3⟩)
        · have HJ3 := Lib.hid hJ3
          have HB3 := Lib.hid (HXV.out.trans hk3)
          have HS3 := Lib.hid (show W.heap.size ≤ W3.heap.size from Nat.le_trans HSZ.out (Nat.le_trans HVB.out.size hk3.size))
          clear hy hR hJ3 hk3 e0 e1 e2 e3 e4 e5 e6 e7 e8 e9 e10 e11 e12
          gi_wp2
          go_wp2_with fail
          go_roundw
          case rel => exact ⟨i + 1, by omega, by go_num, pre ++ [(x, p1, c1)], Lib.hid (by rw [List.map_append, HPRE.out, HTK.out]; rfl), HJ3, HB3.out, HS3.out⟩
          case measure => simp [intOf]; omega
        · have HJ3 := Lib.hid hJx3
          clear hy hR hJx3 e0 e1 e2 e3 e4 e5 e6 e7 e8 e9 e10 e11 e12
          gi_wp2
          go_wp2_with fail
          refine bodyPost_ret (results_none rfl _ _ _) rfl ?_
          rw [HQ.out]
          refine ⟨⟨_, rfl⟩, .inr ⟨pre ++ [(x, p1, c1)], ?_, HJ3.out⟩⟩
          obtain ⟨k, hk, e⟩ := HTP.out
          exact ⟨k, hk, by rw [← e, HTK.out, List.map_append, HPRE.out]; rfl⟩
      · rw [if_neg hte, List.append_nil] at HTK
        clear e1 e2 e3 e4 e5 e6 e7 e8 e9 e10 e11 e12
        go_wp2_with fail
        go_roundw
        case rel => exact ⟨i + 1, by omega, by go_num, pre, Lib.hid (by rw [HTK.out]; exact HPRE.out), Lib.hid (HJ.out pre wr U none HJ1.out (grown_of_below HUB.out) (fun r e => by cases e)), HX.out.trans (HUB.out.mono HX.out.size), Nat.le_trans HSZ.out HUB.out.size⟩
        case measure => simp [intOf]; omega
    · have hge : ¬ i < m := by omega
      have HE := Lib.hid (show thO th (O.take i) = thO th O by rw [hEQ, HM.out, List.take_length])
      clear hEQ
      go_wp2_with fail
      go_end0
      rw [HQ.out]
      exact ⟨⟨_, rfl⟩, .inl ⟨pre, by rw [HPRE.out, HE.out], HJ1.out⟩⟩
end Go.Proofs.Ytmnmomiheenmpaa
