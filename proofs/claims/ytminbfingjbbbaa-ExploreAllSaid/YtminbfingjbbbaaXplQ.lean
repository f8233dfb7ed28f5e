/- Layer 36: all schedules are told; Each. -/
import Derived.Test.YtminbfingjbbbaaXplP
import Derived.Laws.EntriesVeiled
namespace Go.Proofs.Ytminbfingjbbbaa
open Go.RowKit
set_option linter.unusedVariables false
set_option linter.unusedSimpArgs false
theorem tellAll (W : World) (B lb fb ib kb yb tb mb sb ab nb g n c t m k : Nat) (till : Int) (A : List PL) (HEnv : Env W B lb fb ib kb yb tb mb sb ab nb g n c t m k till A) : ∀ d, Tell W B lb fb ib kb yb tb mb sb t m k till A d
  | 0 => tell0 W B lb fb ib kb yb tb mb sb ab nb g n c t m k till A HEnv
  | d + 1 => by
    have ih := tellAll W B lb fb ib kb yb tb mb sb ab nb g n c t m k till A HEnv d
    intro p pre post v w hA hpk hp hs
    rcases hp with hp | hp
    · exact tellSN W B lb fb ib kb yb tb mb sb ab nb g n c t m k till A HEnv d ih p pre post v w hA hpk hp hs
    · exact tellSL W B lb fb ib kb yb tb mb sb ab nb g n c t m k till A HEnv d ih p pre post v w hA hpk hp hs
/-- Behind the boxes that Each$1 makes. -/
theorem Kb.down {w W w' : World} {lb fb ib B : Nat} (h : Below w.heap.size w W) (k : Kb B [lb, fb, ib] W w') (hl : w.heap.size ≤ lb) (hB : w.heap.size ≤ B) : Kb w.heap.size [fb, ib] w w' :=
  ⟨k.os.trans h.os, k.tape.trans h.tape, k.output.trans h.output, Nat.le_trans h.size k.size, fun q hq hs => (k.block q (Nat.lt_of_lt_of_le hq hB) (by simp at hs ⊢; exact ⟨by omega, hs⟩)).trans (h.block q hq)⟩
/-- What stands when the telling begins. -/
structure Est (w : World) (fb ib kb tb mb ab nb g n c t m k : Nat) (till : Int) (A : List PL) : Prop where
  f : w.heap[fb]? = some (.cells #[.bool true] 4 (0, 0))
  i : w.heap[ib]? = some (.cells #[.int .i64 0] 3 (0, 0))
  ne : fb ≠ ib ∧ nb ≠ fb ∧ nb ≠ ib
  con : ∀ w', Kb w.heap.size [fb, ib] w w' → w'.cell? ⟨kb, 0, none⟩ = some (.int .i64 k) ∧ w'.cell? ⟨tb, 0, none⟩ = some (.int .i64 t) ∧ w'.cell? ⟨mb, 0, none⟩ = some (.int .i64 m) ∧ (0 < n → w'.cell? ⟨ab, 0, none⟩ = some (.slice (some ⟨g, 0, none⟩) n c)) ∧ w'.cell? ⟨nb, 0, none⟩ = some (.int .i64 till)
  row : ∀ w', Kb w.heap.size [fb, ib] w w' → ∀ (j : Nat) (q : PL), A[j]? = some q → ∃ rv, w'.cell? ⟨g, j, none⟩ = some rv ∧ PR w' rv q
  nA : n = A.length ∧ n ≤ 6000
theorem boxes3 (w : World) (o1 o2 o3 : Obj) : (((w.alloc o1).alloc o2).alloc o3).heap[w.heap.size]? = some o1 ∧ (((w.alloc o1).alloc o2).alloc o3).heap[w.heap.size + 1]? = some o2 ∧ (((w.alloc o1).alloc o2).alloc o3).heap[w.heap.size + 1 + 1]? = some o3 ∧ Below w.heap.size w (((w.alloc o1).alloc o2).alloc o3) ∧ (((w.alloc o1).alloc o2).alloc o3).heap.size = w.heap.size + 3 := by
  refine ⟨?_, ?_, ?_, below_new (below_new (below_new (Below.refl _ _) _) _) _, by simp⟩
  · rw [Below.heap_alloc _ _ _ (by simp; omega), Below.heap_alloc _ _ _ (by simp), heap_alloc_new]
  · rw [Below.heap_alloc _ _ _ (by simp)]
    have h := heap_alloc_new (w.alloc o1) o2
    simpa using h
  · have h := heap_alloc_new ((w.alloc o1).alloc o2) o3
    simpa using h
theorem stk_ne (w : World) {b : Nat} (h : b < w.heap.size) : ¬ b = w.heap.size := by omega
set_option maxHeartbeats 1000000 in
theorem xeach1 (w : World) (fb ib kb tb mb ab nb g n c t m k : Nat) (till : Int) (ht : 1 ≤ t ∧ t ≤ 6) (hm : 1 ≤ m ∧ m ≤ 1000) (hk : k ≤ 4) (h : Est w fb ib kb tb mb ab nb g n c t m k till (itL t m k)) :
    Calls Try.prog 14 #[.func (.func 9) #[] #[.pointer (some ⟨fb, 0, none⟩), .pointer (some ⟨ib, 0, none⟩), .pointer (some ⟨ab, 0, none⟩), .pointer (some ⟨nb, 0, none⟩)], .pointer (some ⟨tb, 0, none⟩), .pointer (some ⟨mb, 0, none⟩), .pointer (some ⟨kb, 0, none⟩)] w fun e w' =>
      ∃ i' : Int, e = .returned (.tuple #[]) ∧ w'.heap[fb]? = some (.cells #[.bool true] 4 (0, 0)) ∧ w'.heap[ib]? = some (.cells #[.int .i64 i'] 3 (0, 0)) ∧ Kb w.heap.size [fb, ib] w w' ∧ ((i' = till ∧ Stp till 0 n) ∨ (i' = n ∧ ¬ Stp till 0 n)) := by
  refine Calls.veil fun Q HQ => ?_
  have HM := Lib.hid (show MayX t m k from ⟨⟨by omega, by omega⟩, ⟨by omega, by omega⟩, by omega, by omega⟩)
  have HH := Lib.hid h
  have HTM := Lib.hid (And.intro ht (And.intro hm hk))
  obtain ⟨a0, a1, a2, a3, a4⟩ := h.con w (Kb.refl _ _ _)
  have hfl : fb < w.heap.size := (Array.getElem?_eq_some_iff.1 h.f).1
  have hil : ib < w.heap.size := (Array.getElem?_eq_some_iff.1 h.i).1
  have HL := Lib.hid (And.intro hfl hil)
  have x0 := Ext.on a0
  have x1 := Ext.on a1
  have x2 := Ext.on a2
  clear ht hm hk h a0 a1 a2 a3 a4 hfl hil
  go_enter Try.func14, Try.ntmps14
  go_wp2_with fail
  refine (xmay _ _ _ _ HM.out).mono ?_; rintro _ w1 ⟨rfl, hw1⟩
  rw [hw1]
  clear hw1 x0 x1 x2
  go_upto_region 4 with fail
  generalize hV : World.alloc _ _ = V
  obtain ⟨yb, hyb⟩ : ∃ b, b = w.heap.size := ⟨_, rfl⟩
  have HB3 := Lib.hid (below_new (below_new (below_new (Below.refl w.heap.size w) (.cells #[.func (.func 9) #[] #[.pointer (some ⟨fb, 0, none⟩), .pointer (some ⟨ib, 0, none⟩), .pointer (some ⟨ab, 0, none⟩), .pointer (some ⟨nb, 0, none⟩)]] 33)) (.cells #[.slice none 0 0] 30)) (.cells #[.nilFunc] 24))
  have HV := Lib.hid (show V.heap[yb]? = some (.cells #[.func (.func 9) #[] #[.pointer (some ⟨fb, 0, none⟩), .pointer (some ⟨ib, 0, none⟩), .pointer (some ⟨ab, 0, none⟩), .pointer (some ⟨nb, 0, none⟩)]] 33 (0, 0)) ∧ V.heap[yb + 1]? = some (.cells #[.slice none 0 0] 30 (0, 0)) ∧ V.heap[yb + 1 + 1]? = some (.cells #[.nilFunc] 24 (0, 0)) ∧ Below w.heap.size w V ∧ V.heap.size = yb + 3 by
    rw [← hV, hyb]
    exact boxes3 w _ _ _)
  rw [← hyb]
  have HYB := Lib.hid hyb
  clear hV hyb HB3
  have k0 : V.cell? ⟨yb + 1 + 1, 0, none⟩ = some .nilFunc := by rw [cell_of_row _ _ _ _ _ (0, 0) HV.out.2.2.1]; rfl
  have r0 : V.frozen? ⟨yb + 1 + 1, 0, none⟩ = false := frozen_of_row _ _ _ _ _ HV.out.2.2.1
  go_upto_region 5 with fail
  generalize hW : World.setCell _ _ _ = W
  have hb1 : Below w.heap.size w W := by rw [← hW]; exact HV.out.2.2.2.1.setCell (p := ⟨yb + 1 + 1, 0, none⟩) (by show w.heap.size ≤ yb + 1 + 1; have := HYB.out; omega) _
  have hb2 := (heap_setCell_other V ⟨yb + 1 + 1, 0, none⟩ yb (.func (.func 15) #[] #[.pointer (some ⟨yb + 1, 0, none⟩), .pointer (some ⟨kb, 0, none⟩), .pointer (some ⟨yb, 0, none⟩), .pointer (some ⟨tb, 0, none⟩), .pointer (some ⟨mb, 0, none⟩), .pointer (some ⟨yb + 1 + 1, 0, none⟩)]) (by show yb ≠ yb + 1 + 1; omega)).trans HV.out.1
  have hb3 := (heap_setCell_other V ⟨yb + 1 + 1, 0, none⟩ (yb + 1) (.func (.func 15) #[] #[.pointer (some ⟨yb + 1, 0, none⟩), .pointer (some ⟨kb, 0, none⟩), .pointer (some ⟨yb, 0, none⟩), .pointer (some ⟨tb, 0, none⟩), .pointer (some ⟨mb, 0, none⟩), .pointer (some ⟨yb + 1 + 1, 0, none⟩)]) (by show yb + 1 ≠ yb + 1 + 1; omega)).trans HV.out.2.1
  have hb4 := heap_setCell_same V (yb + 1 + 1) 0 _ _ (.func (.func 15) #[] #[.pointer (some ⟨yb + 1, 0, none⟩), .pointer (some ⟨kb, 0, none⟩), .pointer (some ⟨yb, 0, none⟩), .pointer (some ⟨tb, 0, none⟩), .pointer (some ⟨mb, 0, none⟩), .pointer (some ⟨yb + 1 + 1, 0, none⟩)]) HV.out.2.2.1
  rw [hW] at hb2 hb3 hb4
  have hb5 : W.heap.size = yb + 3 := by rw [← hW]; simp [World.setCell]; exact HV.out.2.2.2.2
  have HW := Lib.hid (And.intro hb1 (And.intro hb2 (And.intro hb3 (And.intro hb4 hb5))))
  clear hW hb1 hb2 hb3 hb4 hb5 HV k0 r0
  have HEnv := Lib.hid (show Env W (yb + 3) (yb + 1) fb ib kb yb tb mb (yb + 1 + 1) ab nb g n c t m k till (itL t m k) from by
    have hy := HYB.out
    obtain ⟨l1, l2⟩ := HL.out
    obtain ⟨e1, e2, e3⟩ := HH.out.ne
    have hd : ∀ w', Kb (yb + 3) [yb + 1, fb, ib] W w' → Kb w.heap.size [fb, ib] w w' := fun w' kk => Kb.down HW.out.1 kk (by omega) (by omega)
    refine ⟨⟨by omega, by omega, by omega⟩, ⟨by omega, by omega, e1, e2, e3⟩, fun w' kk => ?_, fun w' kk => HH.out.row w' (hd w' kk), HH.out.nA, HTM.out⟩
    obtain ⟨a0, a1, a2, a3, a4⟩ := HH.out.con w' (hd w' kk)
    refine ⟨a0, kk.cell (by rw [cell_of_row _ _ _ _ _ (0, 0) HW.out.2.1]; rfl) (by omega) (by simp; omega), a1, a2, kk.cell (by rw [cell_of_row _ _ _ _ _ (0, 0) HW.out.2.2.2.1]; rfl) (by omega) (by simp; omega), a3, a4⟩)
  have HTS := Lib.hid (show TS W (yb + 3) (yb + 1) fb ib W [] ((([] : List PL).length : Nat) : Int) (.slice none 0 0) from
    ⟨HW.out.2.2.1, upk HW.out.1 HH.out.f, upk HW.out.1 HH.out.i, own_nil _ _, Kb.refl _ _ _, Nat.le_of_eq HW.out.2.2.2.2.symm⟩)
  have k0 : W.cell? ⟨yb + 1 + 1, 0, none⟩ = some (.func (.func 15) #[] #[.pointer (some ⟨yb + 1, 0, none⟩), .pointer (some ⟨kb, 0, none⟩), .pointer (some ⟨yb, 0, none⟩), .pointer (some ⟨tb, 0, none⟩), .pointer (some ⟨mb, 0, none⟩), .pointer (some ⟨yb + 1 + 1, 0, none⟩)]) := by rw [cell_of_row _ _ _ _ _ (0, 0) HW.out.2.2.2.1]; rfl
  go_wp2_with fail
  refine (tellAll W (yb + 3) (yb + 1) fb ib kb yb tb mb (yb + 1 + 1) ab nb g n c t m k till (itL t m k) HEnv.out k [] [] [] (.slice none 0 0) W (by rw [leaves_all]; simp) (by simp) (.inl rfl) HTS.out).mono ?_
  rintro _ w5 ⟨b, v5, p5, i5, rfl, h5, h6, h7⟩
  have H5 := Lib.hid h5
  have H6 := Lib.hid (And.intro h6 h7)
  clear h5 h6 h7 k0
  go_wp2_with fail
  rw [HQ.out]
  refine ⟨rfl, .tuple #[], by simp [results, Try.results14, go_sem], ?_⟩
  have hy := HYB.out
  have hnl : (leavesL t m k []).length = n := by rw [leaves_all, HH.out.nA.1]
  refine ⟨i5, rfl, H5.out.f, H5.out.i, Kb.down HW.out.1 H5.out.k (by omega) (by omega), ?_⟩
  have h6 := H6.out
  rw [hnl] at h6
  cases b with
  | true => exact .inr ⟨by rw [(h6.1 rfl).2.1]; simp, (h6.1 rfl).2.2⟩
  | false => exact .inl (h6.2 rfl)
theorem xeach1_no (w : World) (fb ib kb tb mb ab nb : Nat) (t m k : Int) (h : ¬ MayX t m k) (a0 : w.cell? ⟨kb, 0, none⟩ = some (.int .i64 k)) (a1 : w.cell? ⟨tb, 0, none⟩ = some (.int .i64 t)) (a2 : w.cell? ⟨mb, 0, none⟩ = some (.int .i64 m)) :
    Calls Try.prog 14 #[.func (.func 9) #[] #[.pointer (some ⟨fb, 0, none⟩), .pointer (some ⟨ib, 0, none⟩), .pointer (some ⟨ab, 0, none⟩), .pointer (some ⟨nb, 0, none⟩)], .pointer (some ⟨tb, 0, none⟩), .pointer (some ⟨mb, 0, none⟩), .pointer (some ⟨kb, 0, none⟩)] w fun e w' =>
      e = .returned (.tuple #[]) ∧ Below w.heap.size w w' := by
  refine Calls.veil fun Q HQ => ?_
  have HM := Lib.hid h
  have x0 := Ext.on a0
  have x1 := Ext.on a1
  have x2 := Ext.on a2
  have HB := Lib.hid (below_new (Below.refl w.heap.size w) (.cells #[.func (.func 9) #[] #[.pointer (some ⟨fb, 0, none⟩), .pointer (some ⟨ib, 0, none⟩), .pointer (some ⟨ab, 0, none⟩), .pointer (some ⟨nb, 0, none⟩)]] 33))
  clear a0 a1 a2 h
  go_enter Try.func14, Try.ntmps14
  go_wp2_with fail
  refine (xmay_no _ _ _ _ HM.out).mono ?_; rintro _ w1 ⟨rfl, hw1⟩
  rw [hw1]
  clear hw1 x0 x1 x2
  go_wp2_with fail
  rw [HQ.out]
  refine ⟨rfl, .tuple #[], by simp [results, Try.results14, go_sem], rfl, HB.out⟩
/-- Each: the iterator that it makes. -/
theorem xeach (t m k : Int) (w : World) : Calls Try.prog 8 #[.int .i64 t, .int .i64 m, .int .i64 k] w fun e w' => e = .returned (.func (.func 14) #[] #[.pointer (some ⟨w.heap.size, 0, none⟩), .pointer (some ⟨w.heap.size + 1, 0, none⟩), .pointer (some ⟨w.heap.size + 1 + 1, 0, none⟩)]) ∧
    w'.heap[w.heap.size]? = some (.cells #[.int .i64 t] 3 (0, 0)) ∧ w'.heap[w.heap.size + 1]? = some (.cells #[.int .i64 m] 3 (0, 0)) ∧ w'.heap[w.heap.size + 1 + 1]? = some (.cells #[.int .i64 k] 3 (0, 0)) ∧ Below w.heap.size w w' ∧ w'.heap.size = w.heap.size + 3 := by
  refine Calls.veil fun Q HQ => ?_
  have HB := Lib.hid (boxes3 w (.cells #[.int .i64 t] 3) (.cells #[.int .i64 m] 3) (.cells #[.int .i64 k] 3))
  go_enter Try.func8, Try.ntmps8
  go_wp2_with fail
  (try go_ret)
  rw [HQ.out]
  exact ⟨rfl, HB.out⟩
end Go.Proofs.Ytminbfingjbbbaa
