/- Layer 36: the law's walk: no schedules. -/
import Derived.Test.YtminbfingjbbbaaTurnD
import Derived.Test.YtminbfingjbbbaaXplR
namespace Go.Proofs.Ytminbfingjbbbaa
open Go.RowKit
set_option linter.unusedVariables false
set_option linter.unusedSimpArgs false
theorem qSeq (fid : FuncId) (caps : Array Value) : ∀ w : World, (binOp BinOp.eql 28 (.func (.func fid) #[] caps) .nilFunc).run Try.prog w = .ok (.bool false) w := fun _ => by kernel_rfl
/-- What stands when all schedules are made. -/
structure QA (w V : World) (B ab : Nat) (t m k till : Int) (av : Value) : Prop where
  a : V.heap[B]? = some (.cells #[.int .i64 t, .int .i64 m, .int .i64 k] 22 (0, 0))
  n : V.heap[B + 1]? = some (.cells #[.int .i64 till] 3 (0, 0))
  al : V.heap[ab]? = some (.cells #[av] 25 (0, 0))
  b : Below w.heap.size w V
  s : V.heap.size = ab + 1
  l : B + 2 ≤ ab
  e : B = w.heap.size
/-- Each's boxes. -/
structure Q3 (V w3 : World) (ab : Nat) (t m k : Int) : Prop where
  t : w3.heap[ab + 1]? = some (.cells #[.int .i64 t] 3 (0, 0))
  m : w3.heap[ab + 1 + 1]? = some (.cells #[.int .i64 m] 3 (0, 0))
  k : w3.heap[ab + 1 + 1 + 1]? = some (.cells #[.int .i64 k] 3 (0, 0))
  b : Below V.heap.size V w3
  s : w3.heap.size = ab + 1 + 3
/-- The law's own boxes. -/
structure Q4 (w3 V : World) (ib : Nat) : Prop where
  i : V.heap[ib]? = some (.cells #[.int .i64 0] 3 (0, 0))
  f : V.heap[ib + 1]? = some (.cells #[.bool true] 4 (0, 0))
  b : Below w3.heap.size w3 V
  s : V.heap.size = ib + 2
  e : ib = w3.heap.size
/-- All of it. -/
structure QF (w V : World) (B ab ib : Nat) (t m k till : Int) (av : Value) : Prop where
  a : V.heap[B]? = some (.cells #[.int .i64 t, .int .i64 m, .int .i64 k] 22 (0, 0))
  n : V.heap[B + 1]? = some (.cells #[.int .i64 till] 3 (0, 0))
  al : V.heap[ab]? = some (.cells #[av] 25 (0, 0))
  t : V.heap[ab + 1]? = some (.cells #[.int .i64 t] 3 (0, 0))
  m : V.heap[ab + 1 + 1]? = some (.cells #[.int .i64 m] 3 (0, 0))
  k : V.heap[ab + 1 + 1 + 1]? = some (.cells #[.int .i64 k] 3 (0, 0))
  i : V.heap[ib]? = some (.cells #[.int .i64 0] 3 (0, 0))
  f : V.heap[ib + 1]? = some (.cells #[.bool true] 4 (0, 0))
  b : Below w.heap.size w V
  s : V.heap.size = ib + 2
  eb : B = w.heap.size
  ei : ib = ab + 1 + 3
  l : B + 2 ≤ ab
theorem Q4.join {w V2 w3 V4 : World} {B ab ib : Nat} {t m k till : Int} {av : Value} (h2 : QA w V2 B ab t m k till av) (h3 : Q3 V2 w3 ab t m k) (h4 : Q4 w3 V4 ib) (e : ib = ab + 1 + 3) : QF w V4 B ab ib t m k till av := by
  have s2 := h2.s
  have s3 := h3.s
  have l2 := h2.l
  have e2 := h2.e
  have hb : Below V2.heap.size V2 V4 := h3.b.trans (h4.b.mono (by omega))
  exact ⟨upk hb h2.a, upk hb h2.n, upk hb h2.al, upk h4.b h3.t, upk h4.b h3.m, upk h4.b h3.k, h4.i, h4.f, h2.b.trans (hb.mono (by omega)), h4.s, e2, e, l2⟩
set_option maxHeartbeats 2000000 in
theorem law_no (t m k : Int) (n till : Int) (w : World) (hM : ¬ MayX t m k) :
    Calls Try.prog 3 #[.agg #[.int .i64 t, .int .i64 m, .int .i64 k], .int .i64 n, .int .i64 till] w fun e w' => e = .returned (.bool true) ∧ Below w.heap.size w w' := by
  refine Calls.veil fun Q HQ => ?_
  go_enter Try.func3, Try.ntmps3
  go_upto_region 1 with fail
  generalize hV : World.alloc _ _ = V
  obtain ⟨B, hB⟩ : ∃ b, b = w.heap.size := ⟨_, rfl⟩
  have HV := Lib.hid (show QB w V B t m k till by
    rw [← hV, hB]
    obtain ⟨h1, h2, h3, h4⟩ := boxes2 w (.cells #[.int .i64 t, .int .i64 m, .int .i64 k] 22) (.cells #[.int .i64 till] 3)
    exact ⟨h1, h2, h3, h4, rfl⟩)
  rw [← hB]
  clear hV hB
  have a0 : V.cell? ⟨B, 0, none⟩ = some (.int .i64 t) := by rw [cell_of_row _ _ _ _ _ (0, 0) HV.out.a]; rfl
  have a1 : V.cell? ⟨B, 1, none⟩ = some (.int .i64 m) := by rw [cell_of_row _ _ _ _ _ (0, 0) HV.out.a]; rfl
  have a2 : V.cell? ⟨B, 2, none⟩ = some (.int .i64 k) := by rw [cell_of_row _ _ _ _ _ (0, 0) HV.out.a]; rfl
  have x0 := Ext.on a0
  have x1 := Ext.on a1
  have x2 := Ext.on a2
  have HM := Lib.hid hM
  clear hM
  go_upto_region 2 with fail
  refine (rmany_no t m k _ HM.out).mono ?_; rintro _ w1 ⟨rfl, hw1⟩
  rw [hw1]
  clear hw1
  go_upto_region 3 with fail
  refine (xcount_no t m k _ HM.out).mono ?_; rintro _ w1 ⟨rfl, hw1⟩
  rw [hw1]
  clear hw1
  go_upto_region 7 with fail
  refine (rall_no t m k _ HM.out).mono ?_; rintro _ w1 ⟨rfl, hw1⟩
  have HW1 := Lib.hid hw1
  clear hw1 x0 x1 x2
  go_upto_region 7 with fail
  generalize hV2 : World.alloc _ _ = V2
  obtain ⟨ab, hab⟩ : ∃ b, b = w1.heap.size := ⟨_, rfl⟩
  have hABB : B + 2 ≤ ab := by rw [hab]; exact Nat.le_trans (Nat.le_of_eq HV.out.s.symm) HW1.out.size
  have HV2 := Lib.hid (show QA w V2 B ab t m k till (.slice none 0 0) by
    rw [← hV2]
    have hbn : Below V.heap.size V (w1.alloc (.cells #[.slice none 0 0] 25)) := below_new HW1.out _
    exact ⟨upk hbn HV.out.a, upk hbn HV.out.n, by rw [hab]; exact heap_alloc_new _ _, HV.out.b.trans (hbn.mono (by have := HV.out.s; have := HV.out.e; omega)), by rw [hab]; simp, hABB, HV.out.e⟩)
  rw [← hab]
  have HAB := Lib.hid hABB
  clear hV2 hab hABB HV a0 a1 a2
  have a0 : V2.cell? ⟨B, 0, none⟩ = some (.int .i64 t) := by rw [cell_of_row _ _ _ _ _ (0, 0) HV2.out.a]; rfl
  have a1 : V2.cell? ⟨B, 1, none⟩ = some (.int .i64 m) := by rw [cell_of_row _ _ _ _ _ (0, 0) HV2.out.a]; rfl
  have a2 : V2.cell? ⟨B, 2, none⟩ = some (.int .i64 k) := by rw [cell_of_row _ _ _ _ _ (0, 0) HV2.out.a]; rfl
  have x0 := Ext.on a0
  have x1 := Ext.on a1
  have x2 := Ext.on a2
  go_upto_region 8 with fail
  refine (xeach t m k _).mono ?_; rintro _ w3 ⟨rfl, he1, he2, he3, he4, he5⟩
  rw [HV2.out.s] at he1 he2 he3 he4 he5 ⊢
  have H3 := Lib.hid (show Q3 V2 w3 ab t m k from ⟨he1, he2, he3, by rw [HV2.out.s]; exact he4, by omega⟩)
  clear he1 he2 he3 he4 he5 x0 x1 x2 a0 a1 a2
  have b0 : w3.cell? ⟨ab, 0, none⟩ = some (.slice none 0 0) := by rw [cell_of_row _ _ _ _ _ (0, 0) (upk H3.out.b HV2.out.al)]; rfl
  have hqs := qSeq 14 #[.pointer (some ⟨ab + 1, 0, none⟩), .pointer (some ⟨ab + 1 + 1, 0, none⟩), .pointer (some ⟨ab + 1 + 1 + 1, 0, none⟩)]
  go_upto_region 12 with fail
  generalize hV4 : World.alloc _ _ = V4
  obtain ⟨ib, hib⟩ : ∃ b, b = w3.heap.size := ⟨_, rfl⟩
  have H4 := Lib.hid (show Q4 w3 V4 ib by
    rw [← hV4, hib]
    obtain ⟨h1, h2, h3, h4⟩ := boxes2 w3 (.cells #[.int .i64 0] 3) (.cells #[.bool true] 4)
    exact ⟨h1, h2, h3, h4, rfl⟩)
  rw [← hib]
  have HIB := Lib.hid (show ib = ab + 1 + 3 by rw [hib]; exact H3.out.s)
  clear hV4 hib b0 hqs
  have HQ4 := Lib.hid (show QF w V4 B ab ib t m k till (.slice none 0 0) from Q4.join HV2.out H3.out H4.out HIB.out)

  have c0 : V4.cell? ⟨ab + 1, 0, none⟩ = some (.int .i64 t) := by rw [cell_of_row _ _ _ _ _ (0, 0) HQ4.out.t]; rfl
  have c1 : V4.cell? ⟨ab + 1 + 1, 0, none⟩ = some (.int .i64 m) := by rw [cell_of_row _ _ _ _ _ (0, 0) HQ4.out.m]; rfl
  have c2 : V4.cell? ⟨ab + 1 + 1 + 1, 0, none⟩ = some (.int .i64 k) := by rw [cell_of_row _ _ _ _ _ (0, 0) HQ4.out.k]; rfl
  go_upto_region 13 with fail
  refine (xeach1_no V4 (ib + 1) ib (ab + 1 + 1 + 1) (ab + 1) (ab + 1 + 1) ab (B + 1) t m k HM.out c2 c0 c1).mono ?_; rintro _ w5 ⟨rfl, hw5⟩
  have H5 := Lib.hid hw5
  clear hw5 c0 c1 c2
  have d0 : w5.cell? ⟨ab, 0, none⟩ = some (.slice none 0 0) := by rw [cell_of_row _ _ _ _ _ (0, 0) (upk H5.out HQ4.out.al)]; rfl
  have d1 : w5.cell? ⟨B + 1, 0, none⟩ = some (.int .i64 till) := by rw [cell_of_row _ _ _ _ _ (0, 0) (upk H5.out HQ4.out.n)]; rfl
  have e0 : w5.cell? ⟨B, 0, none⟩ = some (.int .i64 t) := by rw [cell_of_row _ _ _ _ _ (0, 0) (upk H5.out HQ4.out.a)]; rfl
  have x0 := Ext.on e0
  have e1 : w5.cell? ⟨B, 1, none⟩ = some (.int .i64 m) := by rw [cell_of_row _ _ _ _ _ (0, 0) (upk H5.out HQ4.out.a)]; rfl
  have x1 := Ext.on e1
  have e2 : w5.cell? ⟨B, 2, none⟩ = some (.int .i64 k) := by rw [cell_of_row _ _ _ _ _ (0, 0) (upk H5.out HQ4.out.a)]; rfl
  have x2 := Ext.on e2
  have d2 : w5.cell? ⟨ib, 0, none⟩ = some (.int .i64 0) := by rw [cell_of_row _ _ _ _ _ (0, 0) (upk H5.out HQ4.out.i)]; rfl
  have d3 : w5.cell? ⟨ib + 1, 0, none⟩ = some (.bool true) := by rw [cell_of_row _ _ _ _ _ (0, 0) (upk H5.out HQ4.out.f)]; rfl
  by_cases ht : 0 < till
  · have ht2 : ¬ till < 0 := by omega
    by_cases hn : n < 0
    · go_upto_region 17 with fail
      refine (xat_neg t m k n _ hn).mono ?_; rintro _ w6 ⟨rfl, hw6⟩
      rw [← hw6]
      clear hw6 x0 x1 x2 e0 e1 e2
      go_wp2_with fail
      refine (lives36_calls _).mono ?_; rintro _ w7 ⟨rfl, hw7⟩
      have H7 := Lib.hid hw7
      clear hw7
      go_wp2_with fail
      (try go_ret)
      rw [HQ.out]
      have hs := HQ4.out.s
      have hl := HQ4.out.l
      have he := HQ4.out.ei
      have heb := HQ4.out.eb
      exact ⟨rfl, HQ4.out.b.trans ((H5.out.mono (by omega)).trans (H7.out.mono (by have := H5.out.size; omega)))⟩
    · have hn0 : 0 ≤ n := by omega
      go_upto_region 17 with fail
      refine (xat_far t m k n 0 _ (fun W => xcount_no t m k W HM.out) (by omega) (by omega)).mono ?_; rintro _ w6 ⟨rfl, hw6⟩
      rw [← hw6]
      clear hw6 x0 x1 x2 e0 e1 e2
      go_wp2_with fail
      refine (lives36_calls _).mono ?_; rintro _ w7 ⟨rfl, hw7⟩
      have H7 := Lib.hid hw7
      clear hw7
      go_wp2_with fail
      (try go_ret)
      rw [HQ.out]
      have hs := HQ4.out.s
      have hl := HQ4.out.l
      have he := HQ4.out.ei
      have heb := HQ4.out.eb
      exact ⟨rfl, HQ4.out.b.trans ((H5.out.mono (by omega)).trans (H7.out.mono (by have := H5.out.size; omega)))⟩
  · have ht2 : till ≤ 0 := by omega
    by_cases hn : n < 0
    · go_upto_region 17 with fail
      refine (xat_neg t m k n _ hn).mono ?_; rintro _ w6 ⟨rfl, hw6⟩
      rw [← hw6]
      clear hw6 x0 x1 x2 e0 e1 e2
      go_wp2_with fail
      refine (lives36_calls _).mono ?_; rintro _ w7 ⟨rfl, hw7⟩
      have H7 := Lib.hid hw7
      clear hw7
      go_wp2_with fail
      (try go_ret)
      rw [HQ.out]
      have hs := HQ4.out.s
      have hl := HQ4.out.l
      have he := HQ4.out.ei
      have heb := HQ4.out.eb
      exact ⟨rfl, HQ4.out.b.trans ((H5.out.mono (by omega)).trans (H7.out.mono (by have := H5.out.size; omega)))⟩
    · have hn0 : 0 ≤ n := by omega
      go_upto_region 17 with fail
      refine (xat_far t m k n 0 _ (fun W => xcount_no t m k W HM.out) (by omega) (by omega)).mono ?_; rintro _ w6 ⟨rfl, hw6⟩
      rw [← hw6]
      clear hw6 x0 x1 x2 e0 e1 e2
      go_wp2_with fail
      refine (lives36_calls _).mono ?_; rintro _ w7 ⟨rfl, hw7⟩
      have H7 := Lib.hid hw7
      clear hw7
      go_wp2_with fail
      (try go_ret)
      rw [HQ.out]
      have hs := HQ4.out.s
      have hl := HQ4.out.l
      have he := HQ4.out.ei
      have heb := HQ4.out.eb
      exact ⟨rfl, HQ4.out.b.trans ((H5.out.mono (by omega)).trans (H7.out.mono (by have := H5.out.size; omega)))⟩


end Go.Proofs.Ytminbfingjbbbaa
