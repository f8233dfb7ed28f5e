/- Layer 35: a call as text, of the reference. -/
import Derived.Test.YtgamkbinajilgaaDoorTxwA
namespace Go.Proofs.YtgamkbinajilgaaDoor
open Go.RowKit
set_option linter.unusedVariables false
set_option linter.unusedSimpArgs false
open Go.Lib (itoa)
theorem strE {a b : ByteArray} (h : a.data.toList = b.data.toList) : Value.string a = Value.string b := by
  obtain ⟨⟨a⟩⟩ := a; obtain ⟨⟨b⟩⟩ := b; simp at h; rw [h]
def hasN (op : Int) (i : Nat) : Bool := decide ((i : Int) ∈ partsL op)
def refA (c : Ca) : Nat → List UInt8
  | 0 => []
  | i + 1 => refA c i ++ (if hasN c.op i = true then 32 :: itoa (partI c i) else [])
theorem refA_len (c : Ca) (h : ∀ p, I64 (partI c p)) : ∀ i : Nat, (refA c i).length ≤ 22 * i
  | 0 => by simp [refA]
  | i + 1 => by
    have h1 := refA_len c h i
    have h2 := Lib.itoa_length_le (partI c i) (h i).1 (h i).2
    rw [refA, List.length_append]
    split
    · rw [List.length_cons]; omega
    · simp; omega
theorem refA_4 (c : Ca) : refA c 4 = argT c (partsL c.op) := by
  obtain ⟨op, key, val, hi, lim⟩ := c
  rcases op_ways op with rfl | rfl | rfl | rfl | rfl | rfl | rfl | rfl | rfl | hh
  case inr.inr.inr.inr.inr.inr.inr.inr.inr =>
    have hN := partsL_none hh
    simp [refA, hasN, argT, hN]
  all_goals simp [refA, hasN, partsL, argT, partI]
set_option maxHeartbeats 1000000 in
theorem rhas (op : Int) (w : World) :
    Calls Tryd.prog 18 #[.int .i64 op] w fun e w' => e = .returned (.agg #[.bool (hasN op 0), .bool (hasN op 1), .bool (hasN op 2), .bool (hasN op 3)]) ∧ Below w.heap.size w w' := by
  refine Calls.veil fun Q HQ => ?_
  rcases op_ways op with rfl | rfl | rfl | rfl | rfl | rfl | rfl | rfl | rfl | hh
  case inr.inr.inr.inr.inr.inr.inr.inr.inr =>
    obtain ⟨h0, h1, h2, h3, h4, h7, h8, h9, h11⟩ := hh
    have HN := Lib.hid (partsL_none ⟨h0, h1, h2, h3, h4, h7, h8, h9, h11⟩)
    have h0 := neq_b h0; have h1 := neq_b h1; have h2 := neq_b h2; have h3 := neq_b h3; have h4 := neq_b h4; have h7 := neq_b h7; have h8 := neq_b h8; have h9 := neq_b h9; have h11 := neq_b h11
    go_enter Tryd.func18, Tryd.ntmps18
    go_wp2_with fail
    refine bodyPost_ret (v := .agg #[.bool false, .bool false, .bool false, .bool false]) (by simp [results, Tryd.results18, go_sem]) rfl ?_
    rw [HQ.out]
    unfold hasN
    rw [HN.out]
    exact ⟨rfl, by (repeat (first | exact Below.refl _ _ | assumption | refine below_new ?_ _ | refine Below.drew ?_ | refine below_drewN ?_ _ | refine below_on ?_ (by assumption)))⟩
  · go_enter Tryd.func18, Tryd.ntmps18
    go_wp2_with fail
    refine bodyPost_ret (v := .agg #[.bool true, .bool true, .bool false, .bool false]) (by simp [results, Tryd.results18, go_sem]) rfl ?_
    rw [HQ.out]
    exact ⟨by simp [hasN, partsL], by (repeat (first | exact Below.refl _ _ | assumption | refine below_new ?_ _ | refine Below.drew ?_ | refine below_drewN ?_ _ | refine below_on ?_ (by assumption)))⟩
  · go_enter Tryd.func18, Tryd.ntmps18
    go_wp2_with fail
    refine bodyPost_ret (v := .agg #[.bool true, .bool false, .bool false, .bool false]) (by simp [results, Tryd.results18, go_sem]) rfl ?_
    rw [HQ.out]
    exact ⟨by simp [hasN, partsL], by (repeat (first | exact Below.refl _ _ | assumption | refine below_new ?_ _ | refine Below.drew ?_ | refine below_drewN ?_ _ | refine below_on ?_ (by assumption)))⟩
  · go_enter Tryd.func18, Tryd.ntmps18
    go_wp2_with fail
    refine bodyPost_ret (v := .agg #[.bool true, .bool false, .bool false, .bool false]) (by simp [results, Tryd.results18, go_sem]) rfl ?_
    rw [HQ.out]
    exact ⟨by simp [hasN, partsL], by (repeat (first | exact Below.refl _ _ | assumption | refine below_new ?_ _ | refine Below.drew ?_ | refine below_drewN ?_ _ | refine below_on ?_ (by assumption)))⟩
  · go_enter Tryd.func18, Tryd.ntmps18
    go_wp2_with fail
    refine bodyPost_ret (v := .agg #[.bool true, .bool false, .bool true, .bool true]) (by simp [results, Tryd.results18, go_sem]) rfl ?_
    rw [HQ.out]
    exact ⟨by simp [hasN, partsL], by (repeat (first | exact Below.refl _ _ | assumption | refine below_new ?_ _ | refine Below.drew ?_ | refine below_drewN ?_ _ | refine below_on ?_ (by assumption)))⟩
  · go_enter Tryd.func18, Tryd.ntmps18
    go_wp2_with fail
    refine bodyPost_ret (v := .agg #[.bool true, .bool false, .bool true, .bool false]) (by simp [results, Tryd.results18, go_sem]) rfl ?_
    rw [HQ.out]
    exact ⟨by simp [hasN, partsL], by (repeat (first | exact Below.refl _ _ | assumption | refine below_new ?_ _ | refine Below.drew ?_ | refine below_drewN ?_ _ | refine below_on ?_ (by assumption)))⟩
  · go_enter Tryd.func18, Tryd.ntmps18
    go_wp2_with fail
    refine bodyPost_ret (v := .agg #[.bool true, .bool false, .bool false, .bool false]) (by simp [results, Tryd.results18, go_sem]) rfl ?_
    rw [HQ.out]
    exact ⟨by simp [hasN, partsL], by (repeat (first | exact Below.refl _ _ | assumption | refine below_new ?_ _ | refine Below.drew ?_ | refine below_drewN ?_ _ | refine below_on ?_ (by assumption)))⟩
  · go_enter Tryd.func18, Tryd.ntmps18
    go_wp2_with fail
    refine bodyPost_ret (v := .agg #[.bool true, .bool false, .bool false, .bool false]) (by simp [results, Tryd.results18, go_sem]) rfl ?_
    rw [HQ.out]
    exact ⟨by simp [hasN, partsL], by (repeat (first | exact Below.refl _ _ | assumption | refine below_new ?_ _ | refine Below.drew ?_ | refine below_drewN ?_ _ | refine below_on ?_ (by assumption)))⟩
  · go_enter Tryd.func18, Tryd.ntmps18
    go_wp2_with fail
    refine bodyPost_ret (v := .agg #[.bool true, .bool false, .bool true, .bool false]) (by simp [results, Tryd.results18, go_sem]) rfl ?_
    rw [HQ.out]
    exact ⟨by simp [hasN, partsL], by (repeat (first | exact Below.refl _ _ | assumption | refine below_new ?_ _ | refine Below.drew ?_ | refine below_drewN ?_ _ | refine below_on ?_ (by assumption)))⟩
  · go_enter Tryd.func18, Tryd.ntmps18
    go_wp2_with fail
    refine bodyPost_ret (v := .agg #[.bool true, .bool false, .bool false, .bool false]) (by simp [results, Tryd.results18, go_sem]) rfl ?_
    rw [HQ.out]
    exact ⟨by simp [hasN, partsL], by (repeat (first | exact Below.refl _ _ | assumption | refine below_new ?_ _ | refine Below.drew ?_ | refine below_drewN ?_ _ | refine below_on ?_ (by assumption)))⟩
set_option maxRecDepth 8000 in
set_option maxHeartbeats 2000000 in
theorem rcall {w : World} (c : Ca) (hp : ∀ p, I64 (partI c p)) :
    Calls Tryd.prog 7 #[.agg #[.int .i64 c.op, .int .i64 c.key, .int .i64 c.val, .int .i64 c.hi, .int .i64 c.lim]] w fun e w' => e = .returned (.string ⟨(callT c).toArray⟩) ∧ Below w.heap.size w w' := by
  refine Calls.veil fun Q HQ => ?_
  have HP := Lib.hid hp
  clear hp
  have HR0 := Lib.hid (show refA c 0 = [] from rfl)
  have HRS := Lib.hid (show ∀ i, refA c (i + 1) = refA c i ++ (if hasN c.op i = true then 32 :: itoa (partI c i) else []) from fun i => rfl)
  have HRL := Lib.hid (refA_len c HP.out)
  have HCT := Lib.hid (show callT c = wS c.op ++ refA c 4 by rw [refA_4]; rfl)
  have HI := Lib.hid (show partI c 0 = c.key ∧ partI c 1 = c.val ∧ partI c 2 = c.hi ∧ partI c 3 = c.lim from ⟨rfl, rfl, rfl, rfl⟩)
  obtain ⟨R, hR⟩ : ∃ R, R = refA c := ⟨_, rfl⟩
  obtain ⟨I, hI⟩ : ∃ I, I = partI c := ⟨_, rfl⟩
  obtain ⟨CT, hC⟩ : ∃ x, x = callT c := ⟨_, rfl⟩
  have HN := Lib.hid (show ¬ (0 ≤ c.op ∧ c.op ≤ 14) → callT c = [] from fun h => by
    have h1 := op_ways c.op
    unfold callT
    rw [wS_none h, partsL_none (by omega)]; rfl)
  rw [← hR] at HR0 HRS HRL; rw [← hR, ← hC] at HCT; rw [← hI] at HRS HI HP; rw [← hC] at HQ HN
  clear hR hI hC
  obtain ⟨op, key, val, hi, lim⟩ := c
  simp only at HRS HCT HI HN ⊢
  by_cases hop : 0 ≤ op ∧ op ≤ 14
  case neg =>
    have HWN := Lib.hid (show wordS op = ⟨#[]⟩ from if_neg hop)
    have HN := Lib.hid (HN.out hop)
    clear hop
    go_enter Tryd.func7, Tryd.ntmps7
    go_upto_region 1 with fail
    generalize hV : World.alloc w _ = V
    have hbV : Below w.heap.size w V := by rw [← hV]; exact below_new (Below.refl _ _) _
    have x0 : V.cell? ⟨w.heap.size, 0, none⟩ = some (.int .i64 op) := by rw [← hV]; exact Ext.made rfl 0 _ rfl ⟨_, Below.refl _ _⟩
    have HBV := Lib.hid hbV
    clear hV hbV
    go_wp2_with fail
    refine (rword op _).mono ?_; rintro _ z1 ⟨rfl, hb1⟩
    rw [HWN.out]
    go_wp2_with fail
    (try go_ret)
    rw [HQ.out, HN.out]
    exact ⟨rfl, below_on HBV.out hb1⟩
  case pos =>
  have HWS := Lib.hid (wS_some hop)
  clear hop HN
  go_enter Tryd.func7, Tryd.ntmps7
  go_upto_region 1 with fail
  generalize hV : World.alloc w _ = V
  have hbV : Below w.heap.size w V := by rw [← hV]; exact below_new (Below.refl _ _) _
  have x0 : V.cell? ⟨w.heap.size, 0, none⟩ = some (.int .i64 op) := by rw [← hV]; exact Ext.made rfl 0 _ rfl ⟨_, Below.refl _ _⟩
  have x1 : V.cell? ⟨w.heap.size, 1, none⟩ = some (.int .i64 key) := by rw [← hV]; exact Ext.made rfl 1 _ rfl ⟨_, Below.refl _ _⟩
  have x2 : V.cell? ⟨w.heap.size, 2, none⟩ = some (.int .i64 val) := by rw [← hV]; exact Ext.made rfl 2 _ rfl ⟨_, Below.refl _ _⟩
  have x3 : V.cell? ⟨w.heap.size, 3, none⟩ = some (.int .i64 hi) := by rw [← hV]; exact Ext.made rfl 3 _ rfl ⟨_, Below.refl _ _⟩
  have x4 : V.cell? ⟨w.heap.size, 4, none⟩ = some (.int .i64 lim) := by rw [← hV]; exact Ext.made rfl 4 _ rfl ⟨_, Below.refl _ _⟩
  have HBV := Lib.hid hbV
  have HX := Lib.hid (And.intro x0 (And.intro x1 (And.intro x2 (And.intro x3 x4))))
  generalize w.heap.size = X at x0 x1 x2 x3 x4 HX ⊢
  clear hV hbV x1 x2 x3 x4
  go_wp2_with fail
  refine (rword op _).mono ?_; rintro _ z1 ⟨rfl, hb1⟩
  rw [wS_eq]
  have HZ1 := Lib.hid hb1
  have x0 := Ext.cell ⟨z1, hb1⟩ HX.out.1
  simp only at x0
  have HWL := Lib.hid (wS_len op)
  generalize wS op = ws at HCT HWL HWS ⊢
  have hw1 : (ws == []) = false := by cases ws with
    | nil => exact absurd rfl HWS.out
    | cons a b => rfl
  clear hb1
  go_wp2_with fail
  refine (rhas op _).mono ?_; rintro _ z2 ⟨rfl, hb1⟩
  have HZ2 := Lib.hid (below_on HZ1.out hb1)
  have x1 := Ext.cell ⟨z2, HZ2.out⟩ HX.out.2.1; have x2 := Ext.cell ⟨z2, HZ2.out⟩ HX.out.2.2.1; have x3 := Ext.cell ⟨z2, HZ2.out⟩ HX.out.2.2.2.1; have x4 := Ext.cell ⟨z2, HZ2.out⟩ HX.out.2.2.2.2
  simp only at x1 x2 x3 x4
  have y1 := fun o => Ext.on x1 o; have y2 := fun o => Ext.on x2 o; have y3 := fun o => Ext.on x3 o; have y4 := fun o => Ext.on x4 o
  obtain ⟨h, hh⟩ : ∃ h, h = hasN op := ⟨_, rfl⟩
  rw [← hh] at HRS ⊢
  clear hh hb1 x0 x1 x2 x3 x4
  go_upto_region 6 with fail
  generalize hU : World.alloc (World.alloc z2 _) _ = U
  have hbU : Below z2.heap.size z2 U := by rw [← hU]; (repeat (first | exact Below.refl _ _ | assumption | refine below_new ?_ _ | refine Below.drew ?_ | refine below_drewN ?_ _ | refine below_on ?_ (by assumption)))
  have e : z2.heap.size + 1 = (z2.alloc (.cells #[.bool (h 0), .bool (h 1), .bool (h 2), .bool (h 3)] 43)).heap.size := by simp
  have hc : ∀ i, i < 4 → U.cell? ⟨z2.heap.size, i, none⟩ = some (.bool (h i)) := by
    intro i hj
    rcases (by omega : i = 0 ∨ i = 1 ∨ i = 2 ∨ i = 3) with rfl | rfl | rfl | rfl
    · rw [← hU]; exact Ext.made1 rfl 0 _ rfl ⟨_, Below.refl _ _⟩
    · rw [← hU]; exact Ext.made1 rfl 1 _ rfl ⟨_, Below.refl _ _⟩
    · rw [← hU]; exact Ext.made1 rfl 2 _ rfl ⟨_, Below.refl _ _⟩
    · rw [← hU]; exact Ext.made1 rfl 3 _ rfl ⟨_, Below.refl _ _⟩
  have hi4 : ∀ i : Nat, i < 4 → U.cell? ⟨z2.heap.size + 1, i, none⟩ = some (.int .i64 (I i)) := by
    intro i hj
    rcases (by omega : i = 0 ∨ i = 1 ∨ i = 2 ∨ i = 3) with rfl | rfl | rfl | rfl
    · rw [← hU, e]; refine Ext.made rfl 0 _ ?_ ⟨_, Below.refl _ _⟩; rw [show I ((0 : Nat) : Int) = key from HI.out.1]; rfl
    · rw [← hU, e]; refine Ext.made rfl 1 _ ?_ ⟨_, Below.refl _ _⟩; rw [show I ((1 : Nat) : Int) = val from HI.out.2.1]; rfl
    · rw [← hU, e]; refine Ext.made rfl 2 _ ?_ ⟨_, Below.refl _ _⟩; rw [show I ((2 : Nat) : Int) = hi from HI.out.2.2.1]; rfl
    · rw [← hU, e]; refine Ext.made rfl 3 _ ?_ ⟨_, Below.refl _ _⟩; rw [show I ((3 : Nat) : Int) = lim from HI.out.2.2.2]; rfl
  have HC := Lib.hid hc; have HI4 := Lib.hid hi4
  have HU := Lib.hid (below_on HZ2.out hbU)
  generalize z2.heap.size + 1 = Q1 at *
  clear hU hbU e hc hi4 y1 y2 y3 y4
  generalize z2.heap.size = Q0 at *
  go_wp2_with fail
  go_loopw [3, 6] (fun sv iv wr => ∃ i : Nat, i ≤ 4 ∧ iv = .int .i64 i ∧ sv = .string ⟨(ws ++ R i).toArray⟩ ∧ Hid (Below U.heap.size U wr)) (fun _ iv _ => 4 - (intOf iv).toNat)
  case atStart => exact ⟨0, by omega, rfl, by rw [HR0.out, List.append_nil], Lib.hid (Below.refl _ _)⟩
  case round =>
    obtain ⟨i, hi, rfl, rfl, HW⟩ := hrel
    rcases (by omega : i < 4 ∨ i = 4) with hlt | heq
    · have c0 := Ext.cell ⟨wr, HW.out⟩ (HC.out i hlt)
      have c1 := Ext.cell ⟨wr, HW.out⟩ (HI4.out i hlt)
      have HE := Lib.hid (HRS.out i)
      have HLT := Lib.hid (show (R i).length ≤ 88 by have := HRL.out i; omega)
      simp only at c0 c1
      have hii : (i : Int) < 4 := by omega
      generalize h i = hb at c0 HE
      generalize R i = ta at HE HLT ⊢
      cases hb with
      | false =>
        go_wp2_with fail
        go_roundw
        case rel => exact ⟨i + 1, by omega, by go_num, by rw [HE.out]; simp, HW⟩
        case measure => simp [intOf]; omega
      | true =>
        have q1 : ¬ 9223372036854775807 < ws.length + ta.length + 1 := by have h2 := HWL.out; have h3 := HLT.out; omega
        go_wp2_with fail
        refine (rnum (I i) (HP.out i) _).mono ?_; rintro _ z4 ⟨rfl, hb4⟩
        have HZ4 := Lib.hid hb4
        have HIT := Lib.hid (Lib.itoa_length_le (I i) (HP.out i).1 (HP.out i).2)
        generalize itoa (I i) = is at HE HIT ⊢
        have q2 : ¬ 9223372036854775807 < ws.length + ta.length + 1 + is.length := by have h1 := HIT.out; have h2 := HWL.out; have h3 := HLT.out; omega
        clear hb4 c0 c1
        go_wp2_with fail
        go_roundw
        case rel => exact ⟨i + 1, by omega, by go_num, by rw [HE.out]; exact strE (by simp), Lib.hid (below_on HW.out HZ4.out)⟩
        case measure => simp [intOf]; omega
    · subst heq
      go_wp2_with fail
      (try go_ret)
      rw [HQ.out, HCT.out]
      exact ⟨rfl, below_on HBV.out (below_on HU.out HW.out)⟩
end Go.Proofs.YtgamkbinajilgaaDoor
