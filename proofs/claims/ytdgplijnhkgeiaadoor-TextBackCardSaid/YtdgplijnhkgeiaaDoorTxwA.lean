/- Layer 35: a call as text. -/
import Derived.Test.YtdgplijnhkgeiaaDoorNumA
import Derived.Deep.CutRange
namespace Go.Proofs.YtdgplijnhkgeiaaDoor
open Go.RowKit
set_option linter.unusedVariables false
set_option linter.unusedSimpArgs false
open Go.Lib (itoa)
theorem twrite {B : Nat} {w : World} (n : Int) (hn : I64 n) (ht : Pow B w) :
    Calls Tryd.prog 35 #[.int .i64 n] w fun e w' => e = .returned (.string ⟨(itoa n).toArray⟩) ∧ Below w.heap.size w w' := by
  have F := Lib.hid (fmt10 n hn.1 hn.2 ht)
  clear hn
  go_enter Tryd.func35, Tryd.ntmps35
  go_wp2_with fail
  refine (F.out).mono ?_; rintro _ z ⟨rfl, hb⟩
  go_wp2_with fail
  (try go_ret)
  exact ⟨rfl, hb⟩
def partsL (op : Int) : List Int := if op = 0 then [0, 1] else if op = 1 ∨ op = 2 ∨ op = 7 ∨ op = 8 ∨ op = 11 then [0] else if op = 3 then [0, 2, 3] else if op = 4 ∨ op = 9 then [0, 2] else []
def partI (c : Ca) (p : Int) : Int := if p = 0 then c.key else if p = 1 then c.val else if p = 2 then c.hi else c.lim
def argT (c : Ca) (l : List Int) : List UInt8 := l.flatMap fun p => 32 :: itoa (partI c p)
def callT (c : Ca) : List UInt8 := wS c.op ++ argT c (partsL c.op)
/-- A slice of numbers. -/
def IRow (w : World) (v : Value) (l : List Int) : Prop := ∃ p k, v = .slice p l.length k ∧ l.length ≤ k ∧ k ≤ 9223372036854775807 ∧ ∀ i x, l[i]? = some x → ∃ g, p = some ⟨g, 0, none⟩ ∧ w.cell? ⟨g, i, none⟩ = some (.int .i64 x)
theorem IRow.below {w w' : World} {v : Value} {l : List Int} (h : IRow w v l) (k : Below w.heap.size w w') : IRow w' v l := by
  obtain ⟨p, c, h1, h2, h3, h4⟩ := h
  refine ⟨p, c, h1, h2, h3, fun i x hx => ?_⟩
  obtain ⟨g, h5, h6⟩ := h4 i x hx
  exact ⟨g, h5, Ext.cell ⟨w', k⟩ h6⟩
theorem IRow.nil (w : World) : IRow w (.slice none 0 0) [] := ⟨_, _, rfl, Nat.le_refl _, by decide, fun i x hx => by simp at hx⟩
theorem irow1 {w : World} {T : TypeId} (a : Int) : IRow (w.alloc (.cells #[.int .i64 a] T)) (.slice (some ⟨w.heap.size, 0, none⟩) 1 1) [a] := by
  refine ⟨_, _, rfl, Nat.le_refl _, by decide, fun i x hx => ⟨_, rfl, ?_⟩⟩
  obtain ⟨h1, rfl⟩ := List.getElem?_eq_some_iff.1 hx
  simp at h1
  subst h1
  exact Ext.made_in rfl (Below.refl _ _) 0 _ rfl
theorem irow2 {w : World} {T : TypeId} (a b : Int) : IRow (w.alloc (.cells #[.int .i64 a, .int .i64 b] T)) (.slice (some ⟨w.heap.size, 0, none⟩) 2 2) [a, b] := by
  refine ⟨_, _, rfl, Nat.le_refl _, by decide, fun i x hx => ⟨_, rfl, ?_⟩⟩
  obtain ⟨h1, rfl⟩ := List.getElem?_eq_some_iff.1 hx
  simp at h1
  rcases (by omega : i = 0 ∨ i = 1) with rfl | rfl
  · exact Ext.made_in rfl (Below.refl _ _) 0 _ rfl
  · exact Ext.made_in rfl (Below.refl _ _) 1 _ rfl
theorem irow3 {w : World} {T : TypeId} (a b c : Int) : IRow (w.alloc (.cells #[.int .i64 a, .int .i64 b, .int .i64 c] T)) (.slice (some ⟨w.heap.size, 0, none⟩) 3 3) [a, b, c] := by
  refine ⟨_, _, rfl, Nat.le_refl _, by decide, fun i x hx => ⟨_, rfl, ?_⟩⟩
  obtain ⟨h1, rfl⟩ := List.getElem?_eq_some_iff.1 hx
  simp at h1
  rcases (by omega : i = 0 ∨ i = 1 ∨ i = 2) with rfl | rfl | rfl
  · exact Ext.made_in rfl (Below.refl _ _) 0 _ rfl
  · exact Ext.made_in rfl (Below.refl _ _) 1 _ rfl
  · exact Ext.made_in rfl (Below.refl _ _) 2 _ rfl
theorem op_ways (op : Int) : op = 0 ∨ op = 1 ∨ op = 2 ∨ op = 3 ∨ op = 4 ∨ op = 7 ∨ op = 8 ∨ op = 9 ∨ op = 11 ∨ (op ≠ 0 ∧ op ≠ 1 ∧ op ≠ 2 ∧ op ≠ 3 ∧ op ≠ 4 ∧ op ≠ 7 ∧ op ≠ 8 ∧ op ≠ 9 ∧ op ≠ 11) := by omega
theorem neq_b {a b : Int} (h : a ≠ b) : (a == b) = false := by rw [beq_eq_false_iff_ne]; exact h
theorem partsL_none {op : Int} (h : op ≠ 0 ∧ op ≠ 1 ∧ op ≠ 2 ∧ op ≠ 3 ∧ op ≠ 4 ∧ op ≠ 7 ∧ op ≠ 8 ∧ op ≠ 9 ∧ op ≠ 11) : partsL op = [] := by
  unfold partsL
  rw [if_neg (by omega), if_neg (by omega), if_neg (by omega), if_neg (by omega)]
set_option maxHeartbeats 1000000 in
theorem tparts (op : Int) (w : World) :
    Calls Tryd.prog 37 #[.int .i64 op] w fun e w' => ∃ v, e = .returned v ∧ IRow w' v (partsL op) ∧ Below w.heap.size w w' := by
  refine Calls.veil fun Q HQ => ?_
  rcases op_ways op with rfl | rfl | rfl | rfl | rfl | rfl | rfl | rfl | rfl | hh
  case inr.inr.inr.inr.inr.inr.inr.inr.inr =>
    obtain ⟨h0, h1, h2, h3, h4, h7, h8, h9, h11⟩ := hh
    have HN := Lib.hid (partsL_none ⟨h0, h1, h2, h3, h4, h7, h8, h9, h11⟩)
    have h0 := neq_b h0; have h1 := neq_b h1; have h2 := neq_b h2; have h3 := neq_b h3; have h4 := neq_b h4; have h7 := neq_b h7; have h8 := neq_b h8; have h9 := neq_b h9; have h11 := neq_b h11
    go_enter Tryd.func37, Tryd.ntmps37
    go_wp2_with fail
    (try go_ret)
    rw [HQ.out, HN.out]
    exact ⟨_, rfl, IRow.nil _, Below.refl _ _⟩
  all_goals
    go_enter Tryd.func37, Tryd.ntmps37
    go_wp2_with fail
    (try go_ret)
    rw [HQ.out]
    first
      | exact ⟨_, rfl, irow2 0 1, by (repeat (first | exact Below.refl _ _ | assumption | refine below_new ?_ _ | refine Below.drew ?_ | refine below_drewN ?_ _ | refine below_on ?_ (by assumption)))⟩
      | exact ⟨_, rfl, irow1 0, by (repeat (first | exact Below.refl _ _ | assumption | refine below_new ?_ _ | refine Below.drew ?_ | refine below_drewN ?_ _ | refine below_on ?_ (by assumption)))⟩
      | exact ⟨_, rfl, irow3 0 2 3, by (repeat (first | exact Below.refl _ _ | assumption | refine below_new ?_ _ | refine Below.drew ?_ | refine below_drewN ?_ _ | refine below_on ?_ (by assumption)))⟩
      | exact ⟨_, rfl, irow2 0 2, by (repeat (first | exact Below.refl _ _ | assumption | refine below_new ?_ _ | refine Below.drew ?_ | refine below_drewN ?_ _ | refine below_on ?_ (by assumption)))⟩
set_option maxHeartbeats 1000000 in
theorem tpart (c : Ca) (p : Int) (w : World) :
    Calls Tryd.prog 38 #[.agg #[.int .i64 c.op, .int .i64 c.key, .int .i64 c.val, .int .i64 c.hi, .int .i64 c.lim], .int .i64 p] w fun e w' => e = .returned (.int .i64 (partI c p)) ∧ Below w.heap.size w w' := by
  refine Calls.veil fun Q HQ => ?_
  obtain ⟨op, key, val, hi, lim⟩ := c
  rcases (by omega : p = 0 ∨ p = 1 ∨ p = 2 ∨ (p ≠ 0 ∧ p ≠ 1 ∧ p ≠ 2)) with rfl | rfl | rfl | ⟨h0, h1, h2⟩
  case inr.inr.inr =>
    have HN := Lib.hid (show partI ⟨op, key, val, hi, lim⟩ p = lim by unfold partI; rw [if_neg h0, if_neg h1, if_neg h2])
    have h0 := neq_b h0; have h1 := neq_b h1; have h2 := neq_b h2
    go_enter Tryd.func38, Tryd.ntmps38
    go_wp2_with fail
    (try go_ret)
    rw [HQ.out, HN.out]
    exact ⟨rfl, by (repeat (first | exact Below.refl _ _ | assumption | refine below_new ?_ _ | refine Below.drew ?_ | refine below_drewN ?_ _ | refine below_on ?_ (by assumption)))⟩
  all_goals
    go_enter Tryd.func38, Tryd.ntmps38
    go_wp2_with fail
    (try go_ret)
    rw [HQ.out]
    exact ⟨rfl, by (repeat (first | exact Below.refl _ _ | assumption | refine below_new ?_ _ | refine Below.drew ?_ | refine below_drewN ?_ _ | refine below_on ?_ (by assumption)))⟩
theorem argT_len (c : Ca) (h : ∀ p, I64 (partI c p)) : ∀ l : List Int, (argT c l).length ≤ 22 * l.length
  | [] => by simp [argT]
  | p :: l => by
    have h1 := argT_len c h l
    have h2 := Lib.itoa_length_le (partI c p) (h p).1 (h p).2
    have h3 : (argT c (p :: l)).length = (itoa (partI c p)).length + 1 + (argT c l).length := by unfold argT; simp; omega
    rw [h3, List.length_cons]; omega
theorem argT_take (c : Ca) {l : List Int} {i : Nat} {x : Int} (h : l[i]? = some x) : argT c (l.take (i + 1)) = argT c (l.take i) ++ 32 :: itoa (partI c x) := by
  obtain ⟨h1, rfl⟩ := List.getElem?_eq_some_iff.1 h
  rw [List.take_succ_eq_append_getElem h1]; unfold argT; rw [List.flatMap_append]; simp
theorem partsL_len (op : Int) : (partsL op).length ≤ 3 := by
  unfold partsL
  repeat' split
  all_goals simp
set_option maxRecDepth 8000 in
set_option maxHeartbeats 2000000 in
theorem tcall {w : World} (c : Ca) (hp : ∀ p, I64 (partI c p)) (ht : Pow w.heap.size w) :
    Calls Tryd.prog 18 #[.agg #[.int .i64 c.op, .int .i64 c.key, .int .i64 c.val, .int .i64 c.hi, .int .i64 c.lim]] w fun e w' => e = .returned (.string ⟨(callT c).toArray⟩) ∧ Below w.heap.size w w' := by
  refine Calls.veil fun Q HQ => ?_
  have HP := Lib.hid hp; have HT := Lib.hid ht
  clear hp ht
  have HTP := Lib.hid (fun p W => tpart c p W)
  have HCT := Lib.hid (show callT c = wS c.op ++ argT c (partsL c.op) from rfl)
  have HAT := Lib.hid (show ∀ (l : List Int) (i : Nat) (x : Int), l[i]? = some x → argT c (l.take (i + 1)) = argT c (l.take i) ++ 32 :: itoa (partI c x) from fun l i x h => argT_take c h)
  have HAL := Lib.hid (argT_len c HP.out)
  obtain ⟨T, hT⟩ : ∃ T, T = argT c := ⟨_, rfl⟩
  obtain ⟨I, hI⟩ : ∃ I, I = partI c := ⟨_, rfl⟩
  obtain ⟨CT, hC⟩ : ∃ x, x = callT c := ⟨_, rfl⟩
  have HT0 := Lib.hid (show T [] = [] by rw [hT]; rfl)
  rw [← hT, ← hC] at HCT; rw [← hT, ← hI] at HAT; rw [← hT] at HAL; rw [← hI] at HTP HP; rw [← hC] at HQ
  clear hT hI hC
  obtain ⟨op, key, val, hi, lim⟩ := c
  simp only at HTP HCT ⊢
  go_enter Tryd.func18, Tryd.ntmps18
  go_upto_region 1 with fail
  generalize hV : World.alloc w _ = V
  have hbV : Below w.heap.size w V := by rw [← hV]; exact below_new (Below.refl _ _) _
  have x0 : V.cell? ⟨w.heap.size, 0, none⟩ = some (.int .i64 op) := by rw [← hV]; exact Ext.made rfl 0 _ rfl ⟨_, Below.refl _ _⟩
  have x1 : V.cell? ⟨w.heap.size, 1, none⟩ = some (.int .i64 key) := by rw [← hV]; exact Ext.made rfl 1 _ rfl ⟨_, Below.refl _ _⟩
  have x2 : V.cell? ⟨w.heap.size, 2, none⟩ = some (.int .i64 val) := by rw [← hV]; exact Ext.made rfl 2 _ rfl ⟨_, Below.refl _ _⟩
  have x3 : V.cell? ⟨w.heap.size, 3, none⟩ = some (.int .i64 hi) := by rw [← hV]; exact Ext.made rfl 3 _ rfl ⟨_, Below.refl _ _⟩
  have x4 : V.cell? ⟨w.heap.size, 4, none⟩ = some (.int .i64 lim) := by rw [← hV]; exact Ext.made rfl 4 _ rfl ⟨_, Below.refl _ _⟩
  have HBV := Lib.hid hbV
  have HX := Lib.hid (And.intro x0 (And.intro x1 (And.intro x2 (And.intro x3 x4))))
  generalize w.heap.size = X at x0 x1 x2 x3 x4 HX ⊢
  clear hV hbV x1 x2 x3 x4
  go_wp2_with fail
  refine (cword op _).mono ?_; rintro _ z1 ⟨rfl, hb1⟩
  rw [wS_eq]
  have HZ1 := Lib.hid hb1
  have x0 := Ext.cell ⟨z1, hb1⟩ HX.out.1
  simp only at x0
  clear hb1
  go_wp2_with fail
  refine (tparts op _).mono ?_; rintro _ z2 ⟨v, rfl, hr, hb1⟩
  have HL3 := Lib.hid (partsL_len op)
  have HWL := Lib.hid (wS_len op)
  generalize partsL op = l at hr HCT HL3
  generalize wS op = ws at HCT HWL ⊢
  obtain ⟨p, k, rfl, hk1, hk2, hr⟩ := hr
  have HR := Lib.hid hr
  have HZ2 := Lib.hid (below_on HZ1.out hb1)
  obtain ⟨n, hn⟩ : ∃ n, n = l.length := ⟨_, rfl⟩
  rw [← hn] at hk1 ⊢
  have HN := Lib.hid hn
  have hn3 : n ≤ 3 := by have := HL3.out; omega
  clear hr hb1 x0 hn
  go_wp2_with fail
  go_loopw [3, 13] (fun sv iv wr => ∃ i : Nat, i ≤ n ∧ iv = .int .i64 i ∧ sv = .string ⟨(ws ++ T (l.take i)).toArray⟩ ∧ Hid (Below z2.heap.size z2 wr)) (fun _ iv _ => n - (intOf iv).toNat)
  case atStart => exact ⟨0, Nat.zero_le _, rfl, by rw [List.take_zero, HT0.out, List.append_nil], Lib.hid (Below.refl _ _)⟩
  case round =>
    obtain ⟨i, hi, rfl, rfl, HW⟩ := hrel
    rcases (by omega : i < n ∨ i = n) with hlt | heq
    · obtain ⟨x, hx⟩ : ∃ x, l[i]? = some x := ⟨l[i]'(by have := HN.out; omega), List.getElem?_eq_getElem _⟩
      obtain ⟨g, rfl, c0⟩ := HR.out i x hx
      have HE := Lib.hid (HAT.out _ _ _ hx)
      have c0 := Ext.cell ⟨wr, HW.out⟩ c0
      have hbv := below_on HZ2.out HW.out
      have HVW := Lib.hid hbv
      have y0 := Ext.cell ⟨wr, hbv⟩ HX.out.1; have y1 := Ext.cell ⟨wr, hbv⟩ HX.out.2.1; have y2 := Ext.cell ⟨wr, hbv⟩ HX.out.2.2.1; have y3 := Ext.cell ⟨wr, hbv⟩ HX.out.2.2.2.1; have y4 := Ext.cell ⟨wr, hbv⟩ HX.out.2.2.2.2
      simp only at c0 y0 y1 y2 y3 y4
      have hii : (i : Int) < n := by omega
      have HLT := Lib.hid (show (T (l.take i)).length ≤ 66 by have h1 := HAL.out (l.take i); have h2 := HL3.out; simp at h1; omega)
      generalize T (l.take i) = ta at HE HLT ⊢
      clear hx hbv
      go_wp2_with fail
      refine (HTP.out x _).mono ?_; rintro _ z3 ⟨rfl, hb3⟩
      have HZ3 := Lib.hid hb3
      have hit := Lib.itoa_length_le (I x) (HP.out x).1 (HP.out x).2
      have HIT := Lib.hid hit
      clear hit hb3
      go_wp2_with fail
      refine (twrite (I x) (HP.out x) (HT.out.on (below_on (below_on HBV.out HVW.out) HZ3.out))).mono ?_; rintro _ z4 ⟨rfl, hb4⟩
      have HZ4 := Lib.hid (below_on HZ3.out hb4)
      generalize itoa (I x) = is at HE HIT ⊢
      have q1 : ¬ 9223372036854775807 < 1 + is.length := by have := HIT.out; omega
      have q2 : ¬ 9223372036854775807 < ws.length + ta.length + (1 + is.length) := by have h1 := HIT.out; have h2 := HWL.out; have h3 := HLT.out; omega
      clear hb4 c0 y0 y1 y2 y3 y4
      go_wp2_with fail
      go_roundw
      case rel => exact ⟨i + 1, by omega, by go_num, by rw [HE.out, str_con, str_app, List.append_assoc], Lib.hid (below_on HW.out HZ4.out)⟩
      case measure => simp [intOf]; omega
    · have hge : ¬ (i : Int) < n := by omega
      subst heq
      have HE := Lib.hid (show l.take i = l by rw [List.take_of_length_le (by have := HN.out; omega)])
      go_wp2_with fail
      (try go_ret)
      rw [HQ.out, HE.out, HCT.out]
      exact ⟨rfl, below_on HBV.out (below_on HZ2.out HW.out)⟩
end Go.Proofs.YtdgplijnhkgeiaaDoor
