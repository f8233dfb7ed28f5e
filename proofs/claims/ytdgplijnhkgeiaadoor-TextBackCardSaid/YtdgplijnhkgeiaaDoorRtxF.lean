/- Layer 35, reading: the words' iterator, as a range over it asks. -/
import Derived.Test.YtdgplijnhkgeiaaDoorRtxE
import Derived.RangeFuncNested
import Derived.RangeFuncBound
import Derived.RangeFuncCalls
import Derived.RangeFuncLeaves
import Derived.Shelf.Abstract
import Derived.Shelf.RegionOpen
import Derived.OwnWalkIn
import Derived.TacticsInMore
import Derived.LoopNIn
import Derived.LoopIn
namespace Go.Proofs.YtdgplijnhkgeiaaDoor
open Go.RowKit
open Go.Lib (cut)
set_option linter.unusedVariables false
set_option linter.unusedSimpArgs false
theorem CallsIn.veil {F : Fence} {n : Nat} {P : Program} {f : FuncId} {args : Array Value} {w : World} {R : Ending → World → Prop} (h : ∀ Q : Ending → World → Prop, Hid (Q = R) → CallsIn F n P f args w Q) : CallsIn F n P f args w R := h R rfl
theorem grown_of_below {w w' : World} (h : Below w.heap.size w w') : w.grownBy w' none := ⟨h.os, h.tape, h.output, h.size, fun k hk _ => h.block k hk⟩
def msrW (lv mv : Value) : Nat := match mv with
  | .bool true => (match lv with | .string s => s.size + 1 | _ => 0)
  | _ => 0
theorem msrW_t (l : List UInt8) : msrW (tx l) (.bool true) = l.length + 1 := by simp [msrW, ByteArray.size]
theorem msrW_f (v : Value) : msrW v (.bool false) = 0 := rfl
theorem cutL_le (c : UInt8) : ∀ l, (cut l [c]).2.1.length ≤ l.length
  | [] => by rw [cut_nil]; exact Nat.le_refl _
  | x :: r => by
    rw [cut_cons]
    have := cutL_le c r
    by_cases hx : x = c
    · rw [if_pos hx]; simp
    · rw [if_neg hx]; simp only [List.length_cons]; omega
set_option maxHeartbeats 8000000 in
theorem witer_in (nn : Nat) (hnn : 1 ≤ nn) (l b : Nat) (s : List UInt8) (hs : s.length ≤ 10000)
    (J Jx : List (List UInt8) → World → Prop) (W : World) (hb : W.cell? ⟨b, 0, none⟩ = some (tx s)) (HJ : Hid (AbidesFrom W.heap.size J))
    (HY : Hid (∀ pre x W1, J pre W1 → pre.length < (splitL 32 s).length → YieldAt Fence.wide (nn - 1) Tryd.prog l #[tx x] W1 fun e W' => (e = .returned (.bool true) ∧ J (pre ++ [x]) W' ∧ W1.heap.size ≤ W'.heap.size) ∨ (e = .returned (.bool false) ∧ Jx (pre ++ [x]) W')))
    (H0 : Hid (J [] W)) :
    CallsIn Fence.wide nn Tryd.prog 56 #[.func (.yield l) #[] #[], .pointer (some ⟨b, 0, none⟩)] W fun e W' => (∃ v, e = .returned v) ∧
      ((∃ xs : List (List UInt8), xs = splitL 32 s ∧ J xs W') ∨ (∃ pre : List (List UInt8), True ∧ Jx pre W')) := by
  refine CallsIn.veil fun Q HQ => ?_
  have HSL := Lib.hid hs
  clear hs
  refine callsIn_of_wp Tryd.func56 rfl trivial ?_ rfl
  simp only [Tryd.ntmps56, List.size_toArray, List.length_cons, List.length_nil, Nat.reduceAdd, Nat.reduceSub, Array.replicate_succ, Array.replicate_zero, List.push_toArray, List.append_toArray, List.nil_append, List.cons_append]
  refine wpIn_wide.2 ?_
  go_wp2_with fail
  clear hb
  go_loopw [3, 4] (fun lv mv wr => ∃ (more : Bool) (left : List UInt8) (pre : List (List UInt8)), mv = .bool more ∧ lv = tx left ∧ Hid (left.length ≤ 10000) ∧ Hid ((more = true → splitL 32 s = pre ++ splitL 32 left) ∧ (more = false → pre = splitL 32 s)) ∧ Hid (J pre wr) ∧ W.heap.size ≤ wr.heap.size)
    (fun lv mv _ => msrW lv mv)
  case atStart => exact ⟨true, s, [], rfl, rfl, HSL, Lib.hid ⟨fun _ => rfl, fun h => by cases h⟩, H0, Nat.le_refl _⟩
  case round =>
    obtain ⟨more, left, pre, rfl, rfl, HLL, HP, HJ1, hsz⟩ := hrel
    have HSZ := Lib.hid hsz
    clear hsz
    cases more
    · have HE := Lib.hid (HP.out.2 rfl)
      go_wp2_with fail
      go_end0
      rw [HQ.out]
      exact ⟨⟨_, rfl⟩, .inl ⟨pre, HE.out, HJ1.out⟩⟩
    · have HE := Lib.hid (HP.out.1 rfl)
      have HCS := Lib.hid (cut_split 32 left)
      have HCL := Lib.hid (cutL_len 32 left)
      have HLE := Lib.hid (show (cut left [32]).2.1.length ≤ 10000 from Nat.le_trans (cutL_le 32 left) HLL.out)
      have TC := Lib.hid (fun V => tcut left 32 V (by have := HLL.out; omega))
      have HLEN := Lib.hid (show pre.length < (splitL 32 s).length by
        rw [HE.out, List.length_append]
        have := List.length_pos_iff.2 (splitL_ne 32 left)
        omega)
      generalize (cut left [32]).1 = x at *
      generalize (cut left [32]).2.1 = lf at *
      generalize (cut left [32]).2.2 = fd at *
      go_wp2_with fail
      refine (TC.out wr).mono ?_; rintro _ V ⟨rfl, hVb⟩
      have HVB := Lib.hid hVb
      obtain ⟨fn, tmps, assign, body, hy, hR⟩ := HY.out pre x V (HJ.out pre wr V none HJ1.out (grown_of_below hVb) (fun r e => by cases e)) HLEN.out
      clear hVb
      go_upto_region 5 with fail
      refine (wpIn_wide (n := nn)).1 ?_
      gi_wp2
      refine hR.mono ?_
      rintro e W3 (⟨rfl, hJ3, hk3⟩ | ⟨rfl, hJx3⟩)
      · have HJ3 := Lib.hid hJ3
        have HS3 := Lib.hid (show W.heap.size ≤ W3.heap.size from Nat.le_trans HSZ.out (Nat.le_trans HVB.out.size hk3))
        clear hy hR hJ3 hk3
        gi_wp2
        go_wp2_with fail
        go_roundw
        case rel =>
          refine ⟨fd, lf, pre ++ [x], rfl, rfl, Lib.hid ?_, Lib.hid ⟨fun h => ?_, fun h => ?_⟩, HJ3, HS3.out⟩
          · exact HLE.out
          · have h1 := HCS.out
            rw [h, if_pos rfl] at h1
            rw [HE.out, h1]; simp
          · have h1 := HCS.out
            rw [h] at h1
            rw [HE.out, h1]; simp
        case measure =>
          cases fd
          · rw [msrW_f, msrW_t]; omega
          · have := HCL.out rfl
            rw [msrW_t, msrW_t]; omega
      · have HJ3 := Lib.hid hJx3
        clear hy hR hJx3
        gi_wp2
        go_wp2_with fail
        refine bodyPost_ret (results_none rfl _ _ _) rfl ?_
        rw [HQ.out]
        exact ⟨⟨_, rfl⟩, .inr ⟨_, trivial, HJ3.out⟩⟩
end Go.Proofs.YtdgplijnhkgeiaaDoor
