/- Layer 11: which events may be a history. -/
import Derived.Test.YtilfgekiblpkaaaHisA
namespace Go.Proofs.Ytilfgekiblpkaaa
open Go.RowKit
set_option linter.unusedVariables false
set_option linter.unusedSimpArgs false
/-- Who is within a call, ahead of event i. -/
def inF (L : Nat → Ev) : Nat → Int → Bool
  | 0, _ => false
  | i + 1, t => if t = (L i).th then !(L i).bk else inF L i t
def okE (L : Nat → Ev) (i : Nat) : Bool := decide (0 ≤ (L i).th ∧ (L i).th < 6) && ((L i).bk == inF L i (L i).th)
def mayH (L : Nat → Ev) (n : Nat) : Bool := (List.range n).all fun i => okE L i
theorem mayH_succ (L : Nat → Ev) (n : Nat) : mayH L (n + 1) = (mayH L n && okE L n) := by simp [mayH, List.range_succ, List.all_append]
theorem mayH_not (L : Nat → Ev) (n i : Nat) (hi : i < n) (h : okE L i = false) : mayH L n = false := by
  unfold mayH
  rw [List.all_eq_false]
  exact ⟨i, by simpa using hi, by simp [h]⟩
theorem mayH_at {L : Nat → Ev} {n i : Nat} (h : mayH L n = true) (hi : i < n) : 0 ≤ (L i).th ∧ (L i).th < 6 ∧ (L i).bk = inF L i (L i).th := by
  unfold mayH at h
  rw [List.all_eq_true] at h
  have := h i (by simpa using hi)
  unfold okE at this
  rw [Bool.and_eq_true] at this
  exact ⟨(of_decide_eq_true this.1).1, (of_decide_eq_true this.1).2, by simpa using this.2⟩
theorem Ext.drewN {w : World} {g o : Nat} {v : Value} (h : w.cell? ⟨g, o, none⟩ = some v) : ∀ n, (w.drewN n).cell? ⟨g, o, none⟩ = some v := fun n => by
  have := Ext.cell ⟨w.drewN n, below_drewN (Below.refl _ _) n⟩ h
  exact this
/-- A block of six. -/
def R6 (w : World) (b : Nat) (T : TypeId) (g : Nat → Value) : Prop := w.heap[b]? = some (.cells #[g 0, g 1, g 2, g 3, g 4, g 5] T (0, 0))
theorem R6.get {w : World} {b : Nat} {T : TypeId} {g : Nat → Value} (h : R6 w b T g) (k : Nat) (hk : k < 6) : w.cell? ⟨b, k, none⟩ = some (g k) := by
  rw [cell_of_row _ _ _ _ _ (0, 0) h]
  rcases (by omega : k = 0 ∨ k = 1 ∨ k = 2 ∨ k = 3 ∨ k = 4 ∨ k = 5) with rfl | rfl | rfl | rfl | rfl | rfl <;> rfl
theorem R6.free {w : World} {b : Nat} {T : TypeId} {g : Nat → Value} (h : R6 w b T g) (k : Nat) : w.frozen? ⟨b, k, none⟩ = false := frozen_of_row _ _ _ _ _ h
theorem R6.set {w : World} {b : Nat} {T : TypeId} {g : Nat → Value} (h : R6 w b T g) (k : Nat) (hk : k < 6) (v : Value) : R6 (w.setCell ⟨b, k, none⟩ v) b T (fun j => if j = k then v else g j) := by
  unfold R6
  rw [heap_setCell_same w b k _ _ v h]
  rcases (by omega : k = 0 ∨ k = 1 ∨ k = 2 ∨ k = 3 ∨ k = 4 ∨ k = 5) with rfl | rfl | rfl | rfl | rfl | rfl <;> rfl
theorem R6.below {w w' : World} {b : Nat} {T : TypeId} {g : Nat → Value} (h : R6 w b T g) (k : Below w.heap.size w w') : R6 w' b T g := by
  unfold R6
  rw [k.block b (Array.getElem?_eq_some_iff.1 h).1]; exact h
theorem R6.lt {w : World} {b : Nat} {T : TypeId} {g : Nat → Value} (h : R6 w b T g) : b < w.heap.size := (Array.getElem?_eq_some_iff.1 h).1
set_option maxHeartbeats 4000000 in
theorem hmay (n : Nat) (L : Nat → Ev) (v : Value) (w : World) (h : VR w v n L) (hn : n ≤ 1000) : Calls Try.prog 14 #[v] w fun e w' => e = .returned (.bool (mayH L n)) ∧ Below w.heap.size w w' := by
  refine Calls.veil fun Q HQ => ?_
  obtain ⟨p, c, rfl, a1, a2, A3⟩ := h.parts
  clear h
  obtain ⟨r, hr⟩ : ∃ r, r = mayH L n := ⟨_, rfl⟩
  rw [← hr] at HQ
  have HR := Lib.hid hr
  clear hr
  go_enter Try.func14, Try.ntmps14
  go_wp2_with fail
  generalize hV : World.alloc w _ = V
  have HR6 := Lib.hid (show R6 V w.heap.size 59 (fun k => .bool (inF L 0 (k : Int))) by rw [← hV]; exact heap_alloc_new w _)
  have HBV := Lib.hid (show Below w.heap.size w V ∧ w.heap.size < V.heap.size by rw [← hV]; exact ⟨by (repeat (first | exact Below.refl _ _ | assumption | refine below_new ?_ _ | refine Below.drew ?_ | refine below_drewN ?_ _ | refine below_on ?_ (by assumption))), by simp⟩)
  clear hV
  obtain ⟨bw, hbw⟩ : ∃ bw, bw = w.heap.size := ⟨_, rfl⟩
  have HBW := Lib.hid (show w.heap.size ≤ bw by omega)
  rw [← hbw]
  rw [← hbw] at HR6
  go_loopw [8] (fun iv wr => ∃ i : Nat, i ≤ n ∧ iv = .int .i64 i ∧ Hid (mayH L i = true) ∧ Hid (R6 wr bw 59 (fun k => .bool (inF L i (k : Int)))) ∧ Below w.heap.size w wr)
    (fun iv _ => n - (intOf iv).toNat)
  case atStart => exact ⟨0, by omega, rfl, Lib.hid rfl, HR6, HBV.out.1⟩
  case round =>
    obtain ⟨i, hi, rfl, HM0, HW, hbx⟩ := hrel
    clear HR6 hbw
    have HX := Lib.hid hbx
    rcases (by omega : i < n ∨ i = n) with hlt | heq
    · obtain ⟨g, o, rfl, hA⟩ := A3.out (by omega)
      obtain ⟨pv, hC, hPR⟩ := (hA.below hbx).cells i hlt
      obtain ⟨pp, pc, rfl, _, _⟩ := hPR.slice
      clear hPR
      generalize (L i).an.ps.length = pn at hC
      clear hbx
      have HMS := Lib.hid (mayH_succ L i)
      have HMN := Lib.hid (fun h => HR.out.trans (mayH_not L n i hlt h))
      have HIN := Lib.hid (fun t : Int => show inF L (i + 1) t = if t = (L i).th then !(L i).bk else inF L i t from rfl)
      have HOK := Lib.hid (show okE L i = (decide (0 ≤ (L i).th ∧ (L i).th < 6) && ((L i).bk == inF L i (L i).th)) from rfl)
      generalize L i = e at hC HIN HOK
      obtain ⟨th, bk, ⟨op, key, val, hi2, lim⟩, ⟨kind, akey, aval, an, ps⟩⟩ := e
      obtain ⟨x0, x1, x2, x3, x4, x5, x6, x7, x8, x9, x10, x11⟩ := hC
      simp only at x0 x1 x2 x3 x4 x5 x6 x7 x8 x9 x10 x11 HIN HOK
      rcases (by omega : th < 0 ∨ 6 ≤ th ∨ (0 ≤ th ∧ th < 6)) with ht | ht | ⟨ht, ht'⟩
      · have HM := Lib.hid (HMN.out (by rw [HOK.out, decide_eq_false (by omega)]; rfl))
        clear HMS HIN HOK HMN
        go_upto_region 5 with fail
        generalize hU : World.alloc wr _ = U
        have HU := Lib.hid (show Below w.heap.size w U by rw [← hU]; exact HX.out.alloc HX.out.size _)
        have y0 := Ext.drewN (Ext.made hU 0 _ rfl ⟨U, Below.refl _ _⟩ : U.cell? ⟨wr.heap.size, 0, none⟩ = some (.int .i64 th))
        have y1 := Ext.drewN (Ext.made hU 1 _ rfl ⟨U, Below.refl _ _⟩ : U.cell? ⟨wr.heap.size, 1, none⟩ = some (.bool bk))
        clear hU
        generalize wr.heap.size = q at *
        go_quiet (fail)
        go_wp2_with fail
        (try go_ret)
        rw [HQ.out, HM.out]
        exact ⟨rfl, below_drewN HU.out nq⟩
      · have HM := Lib.hid (HMN.out (by rw [HOK.out, decide_eq_false (by omega)]; rfl))
        have ht0 : 0 ≤ th := by omega
        clear HMS HIN HOK HMN
        go_upto_region 5 with fail
        generalize hU : World.alloc wr _ = U
        have HU := Lib.hid (show Below w.heap.size w U by rw [← hU]; exact HX.out.alloc HX.out.size _)
        have y0 := Ext.drewN (Ext.made hU 0 _ rfl ⟨U, Below.refl _ _⟩ : U.cell? ⟨wr.heap.size, 0, none⟩ = some (.int .i64 th))
        have y1 := Ext.drewN (Ext.made hU 1 _ rfl ⟨U, Below.refl _ _⟩ : U.cell? ⟨wr.heap.size, 1, none⟩ = some (.bool bk))
        clear hU
        generalize wr.heap.size = q at *
        go_quiet (fail)
        go_wp2_with fail
        (try go_ret)
        rw [HQ.out, HM.out]
        exact ⟨rfl, below_drewN HU.out nq⟩
      · obtain ⟨k, rfl⟩ := Int.eq_ofNat_of_zero_le ht
        have hk : k < 6 := by omega
        go_upto_region 5 with fail
        generalize hU : World.alloc wr _ = U
        have HU := Lib.hid (show Below w.heap.size w U by rw [← hU]; exact HX.out.alloc HX.out.size _)
        have HWU := Lib.hid (show R6 U bw 59 (fun k => .bool (inF L i (k : Int))) by rw [← hU]; exact HW.out.below ((Below.refl _ _).alloc (Nat.le_refl _) _))
        have y0 := Ext.drewN (Ext.made hU 0 _ rfl ⟨U, Below.refl _ _⟩ : U.cell? ⟨wr.heap.size, 0, none⟩ = some (.int .i64 (k : Int)))
        have y1 := Ext.drewN (Ext.made hU 1 _ rfl ⟨U, Below.refl _ _⟩ : U.cell? ⟨wr.heap.size, 1, none⟩ = some (.bool bk))
        have z0 := Ext.drewN (HWU.out.get k hk)
        have hne : bw ≠ wr.heap.size := by have := HW.out.lt; omega
        clear hU x0 x1 x2 x3 x4 x5 x6 x7 x8 x9 x10 x11
        generalize wr.heap.size = q at *
        by_cases hb : bk = inF L i (k : Int)
        · have HM := Lib.hid (show mayH L (i + 1) = true by rw [HMS.out, HM0.out, HOK.out, decide_eq_true (by omega), hb]; simp)
          clear HMS HOK HMN
          rw [← hb] at z0
          clear hb
          go_quiet (fail)
          have f0 : (U.drewN nq).frozen? ⟨bw, k, none⟩ = false := HWU.out.free k
          have y0 := y0 nq; have y1 := y1 nq; have z0 := z0 nq
          have HWN := Lib.hid (show R6 (U.drewN nq) bw 59 (fun k => .bool (inF L i (k : Int))) from HWU.out)
          have HUN := Lib.hid (below_drewN HU.out nq)
          generalize U.drewN nq = Y at *
          go_wp2_with fail
          go_roundw
          case rel =>
            refine ⟨i + 1, by omega, by go_num, HM, ?_, HUN.out.setCell (p := ⟨bw, k, none⟩) HBW.out _⟩
            have h1 := HWN.out.set k hk (.bool (!bk))
            have e : (fun j : Nat => if j = k then Value.bool (!bk) else .bool (inF L i (j : Int))) = fun j : Nat => .bool (inF L (i + 1) (j : Int)) := by
              funext j
              rw [HIN.out]
              by_cases hj : j = k
              · subst hj; simp
              · rw [if_neg hj, if_neg (by omega)]
            rw [← e]
            exact Lib.hid h1
          case measure => simp [intOf]; omega
        · have HM := Lib.hid (HMN.out (by rw [HOK.out]; simp [hb]))
          clear HMS HIN HOK HMN
          obtain ⟨b2, hb2⟩ : ∃ b2, b2 = inF L i (k : Int) := ⟨_, rfl⟩
          rw [← hb2] at z0 hb
          clear hb2
          have hb3 : (bk == b2) = false := by simpa using hb
          go_quiet (fail)
          go_wp2_with fail
          (try go_ret)
          rw [HQ.out, HM.out]
          exact ⟨rfl, below_drewN HU.out nq⟩
    · have HM : Hid (r = true) := by rw [HR.out, ← heq]; exact HM0
      have hge : n ≤ i := by omega
      clear heq hbx
      go_wp2_with fail
      (try go_ret)
      rw [HQ.out, HM.out]
      exact ⟨rfl, HX.out⟩
end Go.Proofs.Ytilfgekiblpkaaa
