/- Layer 35: a call as text, of the reference. -/
import Derived.Test.YtdgplijnhkgeiaaDoorTxwA
namespace Go.Proofs.YtdgplijnhkgeiaaDoor
open Go.RowKit
set_option linter.unusedVariables false
set_option linter.unusedSimpArgs false
open Go.Lib (itoa)
theorem strE {a b : ByteArray} (h : a.data.toList = b.data.toList) : Value.string a = Value.string b := by
  obtain ⟨⟨a⟩⟩ := a; obtain ⟨⟨b⟩⟩ := b; simp at h; rw [h]
def hasN (op : Int) (i : Nat) : Bool := decide ((i : Int) ∈ partsL op)
def refA (c : Ca) : Nat → List UInt8
  | 0 => []
  | i + 1 => refA c i ++ (if hasN c.op i = true then 32 :: itoa (partI c i) else [])
theorem refA_len (c : Ca) (h : ∀ p, I64 (partI c p)) : ∀ i : Nat, (refA c i).length ≤ 22 * i
  | 0 => by simp [refA]
  | i + 1 => by
    have h1 := refA_len c h i
    have h2 := Lib.itoa_length_le (partI c i) (h i).1 (h i).2
    rw [refA, List.length_append]
    split
    · rw [List.length_cons]; omega
    · simp; omega
theorem refA_4 (c : Ca) : refA c 4 = argT c (partsL c.op) := by
  obtain ⟨op, key, val, hi, lim⟩ := c
  rcases op_ways op with rfl | rfl | rfl | rfl | rfl | rfl | rfl | rfl | rfl | hh
  case inr.inr.inr.inr.inr.inr.inr.inr.inr =>
    have hN := partsL_none hh
    simp [refA, hasN, argT, hN]
  all_goals simp [refA, hasN, partsL, argT, partI]
set_option maxHeartbeats 1000000 in
theorem rhas (op : Int) (w : World) :
    Calls Tryd.prog 23 #[.int .i64 op] w fun e w' => e = .returned (.agg #[.bool (hasN op 0), .bool (hasN op 1), .bool (hasN op 2), .bool (hasN op 3)]) ∧ Below w.heap.size w w' := by
  refine Calls.veil fun Q HQ => ?_
  rcases op_ways op with rfl | rfl | rfl | rfl | rfl | rfl | rfl | rfl | rfl | hh
  case inr.inr.inr.inr.inr.inr.inr.inr.inr =>
    obtain ⟨h0, h1, h2, h3, h4, h7, h8, h9, h11⟩ := hh
    have HN := Lib.hid (partsL_none ⟨h0, h1, h2, h3, h4, h7, h8, h9, h11⟩)
    have h0 := neq_b h0; have h1 := neq_b h1; have h2 := neq_b h2; have h3 := neq_b h3; have h4 := neq_b h4; have h7 := neq_b h7; have h8 := neq_b h8; have h9 := neq_b h9; have h11 := neq_b h11
    go_enter Tryd.func23, Tryd.ntmps23
    go_wp2_with fail
    refine bodyPost_ret (v := .agg #[.bool false, .bool false, .bool false, .bool false]) (by simp [results, Tryd.results23, go_sem]) rfl ?_
    rw [HQ.out]
    unfold hasN
    rw [HN.out]
    exact ⟨rfl, by (repeat (first | exact Below.refl _ _ | assumption | refine below_new ?_ _ | refine Below.drew ?_ | refine below_drewN ?_ _ | refine below_on ?_ (by assumption)))⟩
  · go_enter Tryd.func23, Tryd.ntmps23
    go_wp2_with fail
    refine bodyPost_ret (v := .agg #[.bool true, .bool true, .bool false, .bool false]) (by simp [results, Tryd.results23, go_sem]) rfl ?_
    rw [HQ.out]
    exact ⟨by simp [hasN, partsL], by (repeat (first | exact Below.refl _ _ | assumption | refine below_new ?_ _ | refine Below.drew ?_ | refine below_drewN ?_ _ | refine below_on ?_ (by assumption)))⟩
  · go_enter Tryd.func23, Tryd.ntmps23
    go_wp2_with fail
    refine bodyPost_ret (v := .agg #[.bool true, .bool false, .bool false, .bool false]) (by simp [results, Tryd.results23, go_sem]) rfl ?_
    rw [HQ.out]
    exact ⟨by simp [hasN, partsL], by (repeat (first | exact Below.refl _ _ | assumption | refine below_new ?_ _ | refine Below.drew ?_ | refine below_drewN ?_ _ | refine below_on ?_ (by assumption)))⟩
  · go_enter Tryd.func23, Tryd.ntmps23
    go_wp2_with fail
    refine bodyPost_ret (v := .agg #[.bool true, .bool false, .bool false, .bool false]) (by simp [results, Tryd.results23, go_sem]) rfl ?_
    rw [HQ.out]
    exact ⟨by simp [hasN, partsL], by (repeat (first | exact Below.refl _ _ | assumption | refine below_new ?_ _ | refine Below.drew ?_ | refine below_drewN ?_ _ | refine below_on ?_ (by assumption)))⟩
  · go_enter Tryd.func23, Tryd.ntmps23
    go_wp2_with fail
    refine bodyPost_ret (v := .agg #[.bool true, .bool false, .bool true, .bool true]) (by simp [results, Tryd.results23, go_sem]) rfl ?_
    rw [HQ.out]
    exact ⟨by simp [hasN, partsL], by (repeat (first | exact Below.refl _ _ | assumption | refine below_new ?_ _ | refine Below.drew ?_ | refine below_drewN ?_ _ | refine below_on ?_ (by assumption)))⟩
  · go_enter Tryd.func23, Tryd.ntmps23
    go_wp2_with fail
    refine bodyPost_ret (v := .agg #[.bool true, .bool false, .bool true, .bool false]) (by simp [results, Tryd.results23, go_sem]) rfl ?_
    rw [HQ.out]
    exact ⟨by simp [hasN, partsL], by (repeat (first | exact Below.refl _ _ | assumption | refine below_new ?_ _ | refine Below.drew ?_ | refine below_drewN ?_ _ | refine below_on ?_ (by assumption)))⟩
  · go_enter Tryd.func23, Tryd.ntmps23
    go_wp2_with fail
    refine bodyPost_ret (v := .agg #[.bool true, .bool false, .bool false, .bool false]) (by simp [results, Tryd.results23, go_sem]) rfl ?_
    rw [HQ.out]
    exact ⟨by simp [hasN, partsL], by (repeat (first | exact Below.refl _ _ | assumption | refine below_new ?_ _ | refine Below.drew ?_ | refine below_drewN ?_ _ | refine below_on ?_ (by assumption)))⟩
  · go_enter Tryd.func23, Tryd.ntmps23
    go_wp2_with fail
    refine bodyPost_ret (v := .agg #[.bool true, .bool false, .bool false, .bool false]) (by simp [results, Tryd.results23, go_sem]) rfl ?_
    rw [HQ.out]
    exact ⟨by simp [hasN, partsL], by (repeat (first | exact Below.refl _ _ | assumption | refine below_new ?_ _ | refine Below.drew ?_ | refine below_drewN ?_ _ | refine below_on ?_ (by assumption)))⟩
  · go_enter Tryd.func23, Tryd.ntmps23
    go_wp2_with fail
    refine bodyPost_ret (v := .agg #[.bool true, .bool false, .bool true, .bool false]) (by simp [results, Tryd.results23, go_sem]) rfl ?_
    rw [HQ.out]
    exact ⟨by simp [hasN, partsL], by (repeat (first | exact Below.refl _ _ | assumption | refine below_new ?_ _ | refine Below.drew ?_ | refine below_drewN ?_ _ | refine below_on ?_ (by assumption)))⟩
  · go_enter Tryd.func23, Tryd.ntmps23
    go_wp2_with fail
    refine bodyPost_ret (v := .agg #[.bool true, .bool false, .bool false, .bool false]) (by simp [results, Tryd.results23, go_sem]) rfl ?_
    rw [HQ.out]
    exact ⟨by simp [hasN, partsL], by (repeat (first | exact Below.refl _ _ | assumption | refine below_new ?_ _ | refine Below.drew ?_ | refine below_drewN ?_ _ | refine below_on ?_ (by assumption)))⟩
end Go.Proofs.YtdgplijnhkgeiaaDoor
