/- Layer 38: a sum's cells; count. -/
import Derived.Test.YtilfgekiblpkaaaStaA
import Derived.StillTailTactics
namespace Go.Proofs.Ytilfgekiblpkaaa
open Go.RowKit
set_option linter.unusedVariables false
set_option linter.unusedSimpArgs false
def upd (f : Nat → Int) (a : Nat) (v : Int) : Nat → Int := fun i => if i = a then v else f i
def c42 (F : Nat → Int) : List Value := (List.range 42).map fun i => .int .i64 (F i)
theorem c42_get {F : Nat → Int} {i : Nat} (h : i < 42) : (c42 F)[i]? = some (.int .i64 (F i)) := by simp [c42, List.getElem?_range h]
theorem c42_set (F : Nat → Int) {i : Nat} (h : i < 42) (x : Int) : (c42 F).set i (.int .i64 x) = c42 (upd F i x) := by
  apply List.ext_getElem?
  intro j
  rw [List.getElem?_set]
  by_cases hj : j < 42
  · rw [c42_get hj, c42_get hj]
    by_cases e : i = j
    · subst e; simp [upd, c42, h]
    · rw [if_neg e]; simp [upd, Ne.symm e]
  · have h5 : ∀ G : Nat → Int, (c42 G)[j]? = none := fun G => by rw [List.getElem?_eq_none (by simp [c42]; omega)]
    rw [h5, h5, if_neg (by omega : ¬ i = j)]
def R42 (w : World) (q : Nat) (T : TypeId) (F : Nat → Int) : Prop := w.heap[q]? = some (.cells (c42 F).toArray T (0, 0))
theorem R42.lt {w : World} {q : Nat} {T : TypeId} {F : Nat → Int} (h : R42 w q T F) : q < w.heap.size := (Array.getElem?_eq_some_iff.1 h).1
theorem R42.cell {w : World} {q : Nat} {T : TypeId} {F : Nat → Int} (h : R42 w q T F) {i : Nat} (hi : i < 42) : w.cell? ⟨q, i, none⟩ = some (.int .i64 (F i)) := by
  rw [cell_of_row _ _ _ _ _ (0, 0) h]; simpa using c42_get hi
theorem R42.free {w : World} {q : Nat} {T : TypeId} {F : Nat → Int} (h : R42 w q T F) (i : Nat) : w.frozen? ⟨q, i, none⟩ = false := frozen_of_row _ _ _ _ _ h
theorem R42.set {w : World} {q : Nat} {T : TypeId} {F : Nat → Int} (h : R42 w q T F) {i : Nat} (hi : i < 42) (x : Int) : R42 (w.setCell ⟨q, i, none⟩ (.int .i64 x)) q T (upd F i x) := by
  unfold R42; rw [heap_setCell_same w q i _ _ _ h, ← c42_set F hi x]; simp
theorem R42.kept {w w' : World} {q : Nat} {T : TypeId} {F : Nat → Int} (h : R42 w q T F) {row : Option Nat} (hg : w.grownBy w' row) (hne : some q ≠ row) : R42 w' q T F := (hg.block q h.lt hne).trans h
theorem R42.drew {w : World} {q : Nat} {T : TypeId} {F : Nat → Int} (h : R42 w q T F) : R42 w.drew q T F := h
theorem R13.keptN {w w' : World} {q : Nat} {x : Opr} {v : Value} (h : R13 w q x v) {row : Option Nat} (hg : w.grownBy w' row) (hne : some q ≠ row) : R13 w' q x v := (hg.block q (Array.getElem?_eq_some_iff.1 h).1 hne).trans h
theorem grown_set {V W : World} {q : Nat} (hg : V.grownBy W (some q)) (i : Nat) (v : Value) : V.grownBy (W.setCell ⟨q, i, none⟩ v) (some q) :=
  ⟨hg.os, hg.tape, hg.output, by simpa using hg.size, fun k hk hne => by rw [Below.heap_setCell _ _ _ _ (by intro e; exact hne (by rw [e]))]; exact hg.block k hk hne⟩
theorem grown_drew {V W : World} {q : Nat} (hg : V.grownBy W (some q)) : V.grownBy W.drew (some q) := ⟨hg.os, hg.tape, hg.output, hg.size, hg.block⟩
theorem grown_refl (V : World) (q : Nat) : V.grownBy V (some q) := ⟨rfl, rfl, rfl, Nat.le_refl _, fun _ _ _ => rfl⟩
def known (x : Opr) : Bool := decide (0 ≤ x.ca.op ∧ x.ca.op < 15)
def kOk (x : Opr) : Bool := decide (0 ≤ x.an.kind ∧ x.an.kind < 9)
def cnA (F : Nat → Int) (x : Opr) : Nat → Int := if known x = true then upd F x.ca.op.toNat (F x.ca.op.toNat + 1) else F
def cnB (F : Nat → Int) (x : Opr) : Nat → Int := if known x = true then upd F (15 + x.ca.op.toNat) (F (15 + x.ca.op.toNat) + 1) else F
def cnC (F : Nat → Int) (x : Opr) : Nat → Int := if kOk x = true then upd F (30 + x.an.kind.toNat) (F (30 + x.an.kind.toNat) + 1) else F
def cnD (F : Nat → Int) (x : Opr) : Nat → Int := if x.an.kind = 3 then upd F 40 (F 40 + x.an.ps.length) else F
def cnt1 (F : Nat → Int) (x : Opr) : Nat → Int := if x.to < 0 then cnB (cnA F x) x else cnD (cnC (cnA F x) x) x
theorem upd_le {F : Nat → Int} {B C : Int} (h : ∀ i, 0 ≤ F i ∧ F i ≤ B) (hC : B ≤ C) {a : Nat} {v : Int} (h0 : 0 ≤ v) (h1 : v ≤ C) : ∀ i, 0 ≤ upd F a v i ∧ upd F a v i ≤ C := fun i => by
  unfold upd; split
  · exact ⟨h0, h1⟩
  · have := h i; omega
theorem cnA_le {F : Nat → Int} {B : Int} (x : Opr) (h : ∀ i, 0 ≤ F i ∧ F i ≤ B) : ∀ i, 0 ≤ cnA F x i ∧ cnA F x i ≤ B + 1 := by
  unfold cnA; split
  · exact upd_le h (by omega) (by have := h x.ca.op.toNat; omega) (by have := h x.ca.op.toNat; omega)
  · intro i; have := h i; omega
theorem cnB_le {F : Nat → Int} {B : Int} (x : Opr) (h : ∀ i, 0 ≤ F i ∧ F i ≤ B) : ∀ i, 0 ≤ cnB F x i ∧ cnB F x i ≤ B + 1 := by
  unfold cnB; split
  · exact upd_le h (by omega) (by have := h (15 + x.ca.op.toNat); omega) (by have := h (15 + x.ca.op.toNat); omega)
  · intro i; have := h i; omega
theorem cnC_le {F : Nat → Int} {B : Int} (x : Opr) (h : ∀ i, 0 ≤ F i ∧ F i ≤ B) : ∀ i, 0 ≤ cnC F x i ∧ cnC F x i ≤ B + 1 := by
  unfold cnC; split
  · exact upd_le h (by omega) (by have := h (30 + x.an.kind.toNat); omega) (by have := h (30 + x.an.kind.toNat); omega)
  · intro i; have := h i; omega
theorem cnD_le {F : Nat → Int} {B : Int} (x : Opr) (h : ∀ i, 0 ≤ F i ∧ F i ≤ B) (hp : x.an.ps.length ≤ 100000) : ∀ i, 0 ≤ cnD F x i ∧ cnD F x i ≤ B + 100000 := by
  unfold cnD; split
  · exact upd_le h (by omega) (by have := h 40; omega) (by have := h 40; omega)
  · intro i; have := h i; omega
theorem cnt1_le {F : Nat → Int} {B : Int} (x : Opr) (h : ∀ i, 0 ≤ F i ∧ F i ≤ B) (hp : x.an.ps.length ≤ 100000) : ∀ i, 0 ≤ cnt1 F x i ∧ cnt1 F x i ≤ B + 100002 := by
  unfold cnt1; split
  · intro i; have := cnB_le x (cnA_le x h) i; omega
  · intro i; have := cnD_le x (cnC_le x (cnA_le x h)) hp i; omega
set_option maxRecDepth 8000 in
set_option maxHeartbeats 8000000 in
theorem scount (q : Nat) (F : Nat → Int) (x : Opr) (v : Value) (w : World) (h : R42 w q 29 F) (hF : ∀ i, 0 ≤ F i ∧ F i ≤ 100000000) (hp : x.an.ps.length ≤ 100000) (hv : PR w v x.an.ps) :
    Calls Try.prog 16 #[.pointer (some ⟨q, 0, none⟩), .agg #[.int .i64 x.th, .int .i64 x.ca.op, .int .i64 x.ca.key, .int .i64 x.ca.val, .int .i64 x.ca.hi, .int .i64 x.ca.lim, .int .i64 x.an.kind, .int .i64 x.an.key, .int .i64 x.an.val, .int .i64 x.an.n, v, .int .i64 x.fr, .int .i64 x.to]] w fun e w' => (∃ u, e = .returned u) ∧ R42 w' q 29 (cnt1 F x) ∧ w.grownBy w' (some q) := by
  refine Calls.veil fun Q HQ => ?_
  have HF := Lib.hid hF
  have HP := Lib.hid hp
  obtain ⟨pv, cv, rfl, _, _⟩ := hv.slice
  clear hv hF hp
  have HQ0 := Lib.hid h
  clear h
  go_enter Try.func16, Try.ntmps16
  go_upto_region 1 with fail
  generalize hV : World.alloc w _ = V
  obtain ⟨Z, hZ⟩ : ∃ Z, Z = w.heap.size := ⟨_, rfl⟩
  rw [← hZ]
  have HO := Lib.hid (show R13 V Z x (.slice pv x.an.ps.length cv) by rw [← hV, hZ]; exact heap_alloc_new w _)
  have HVB := Lib.hid (show Below w.heap.size w V by rw [← hV]; exact below_new (Below.refl _ _) _)
  clear hV
  have HNE := Lib.hid (show Z ≠ q by have := HQ0.out.lt; omega)
  clear hZ
  have HR := Lib.hid (show R42 V q 29 F from (HVB.out.block _ HQ0.out.lt).trans HQ0.out)
  have HGW := Lib.hid (show w.grownBy V (some q) from ⟨HVB.out.os, HVB.out.tape, HVB.out.output, HVB.out.size, fun k hk _ => HVB.out.block k hk⟩)
  clear HQ0
  obtain ⟨e0, e1, e2, e3, e4, e5, e6, e7, e8, e9, e10, e11, e12⟩ := HO.out.cells
  simp only [Nat.zero_add] at e0 e1 e2 e3 e4 e5 e6 e7 e8 e9 e10 e11 e12
  clear e0 e2 e3 e4 e5 e7 e8 e9 e11
  obtain ⟨F0, hF0⟩ : ∃ G, G = F := ⟨_, rfl⟩
  rw [← hF0] at HR HF
  have HF0 : Hid (∀ i, 0 ≤ F0 i ∧ F0 i ≤ 100000000) := HF
  have HFB0 := Lib.hid hF0
  clear hF0 HF
  cases hka : known x with
  | true =>
    have HKA := Lib.hid hka
    clear hka
    obtain ⟨j, hj⟩ : ∃ j : Nat, x.ca.op = j := ⟨(x.ca.op).toNat, by have := of_decide_eq_true HKA.out; omega⟩
    have hj15 : j < 15 := by have := of_decide_eq_true HKA.out; omega
    have hj15i : (j : Int) < 15 := by omega
    rw [hj] at e1
    have HJA := Lib.hid hj
    clear hj
    have c0 := HR.out.cell (i := j) (by omega)
    have ff := HR.out.free
    have hb0 : 0 ≤ F0 (j) := (HF0.out (j)).1
    have hb1 : F0 (j) ≤ 100000000 := (HF0.out (j)).2
    go_upto_region 3 with fail
    go_still_tail 12, (by kernel_rfl)
    go_upto_region 4 with fail
    generalize hU : World.drew (World.setCell _ _ _) = U1
    have HRN := Lib.hid (show R42 U1 q 29 (cnA F0 x) by
      rw [← hU, show cnA F0 x = upd F0 (j) (F0 (j) + 1) by unfold cnA; rw [if_pos HKA.out, HJA.out, Int.toNat_natCast]]
      exact (HR.out.set (by omega) _).drew)
    have HON := Lib.hid (show R13 U1 Z x (.slice pv x.an.ps.length cv) by rw [← hU]; exact HO.out.keptN (grown_drew (grown_set (grown_refl _ q) _ _)) (by intro e; cases e; exact HNE.out rfl))
    have HGN := Lib.hid (show w.grownBy U1 (some q) by rw [← hU]; exact grown_drew (grown_set HGW.out _ _))
    clear hU c0 ff hb0 hb1 HR HO HGW hj15 hj15i
    have HR := HRN; have HO := HON; have HGW := HGN
    clear HRN HON HGN
    obtain ⟨F1, hFB⟩ : ∃ G, G = cnA F0 x := ⟨_, rfl⟩
    rw [← hFB] at HR
    have HFB1 := Lib.hid hFB
    have HF1 := Lib.hid (show ∀ i, 0 ≤ F1 i ∧ F1 i ≤ 100000001 from fun i => by rw [hFB]; have := cnA_le x (B := 100000000) HF0.out i; omega)
    clear hFB e1 e6 e10 e12
    obtain ⟨e0, e1, e2, e3, e4, e5, e6, e7, e8, e9, e10, e11, e12⟩ := HO.out.cells
    simp only [Nat.zero_add] at e0 e1 e2 e3 e4 e5 e6 e7 e8 e9 e10 e11 e12
    clear e0 e2 e3 e4 e5 e7 e8 e9 e11
    by_cases hto : x.to < 0
    · have HTO := Lib.hid hto
      obtain ⟨j, hj⟩ : ∃ j : Nat, x.ca.op = j := ⟨(x.ca.op).toNat, by have := of_decide_eq_true HKA.out; omega⟩
      have hj15 : j < 15 := by have := of_decide_eq_true HKA.out; omega
      have hj15i : (j : Int) < 15 := by omega
      rw [hj] at e1
      have HJA := Lib.hid hj
      clear hj
      have c0 := HR.out.cell (i := 15 + j) (by omega)
      have ff := HR.out.free
      have hb0 : 0 ≤ F1 (15 + j) := (HF1.out (15 + j)).1
      have hb1 : F1 (15 + j) ≤ 100000001 := (HF1.out (15 + j)).2
      go_upto_region 6 with fail
      go_still_tail 12, (by kernel_rfl)
      go_wp2_with fail
      generalize hU : World.drew (World.setCell _ _ _) = U2
      have HRN := Lib.hid (show R42 U2 q 29 (cnB F1 x) by
        rw [← hU, show cnB F1 x = upd F1 (15 + j) (F1 (15 + j) + 1) by unfold cnB; rw [if_pos HKA.out, HJA.out, Int.toNat_natCast]]
        exact (HR.out.set (by omega) _).drew)
      have HON := Lib.hid (show R13 U2 Z x (.slice pv x.an.ps.length cv) by rw [← hU]; exact HO.out.keptN (grown_drew (grown_set (grown_refl _ q) _ _)) (by intro e; cases e; exact HNE.out rfl))
      have HGN := Lib.hid (show w.grownBy U2 (some q) by rw [← hU]; exact grown_drew (grown_set HGW.out _ _))
      clear hU c0 ff hb0 hb1 HR HO HGW hj15 hj15i
      have HR := HRN; have HO := HON; have HGW := HGN
      clear HRN HON HGN
      (try go_ret)
      (try go_end0)
      rw [HQ.out]
      refine ⟨⟨_, rfl⟩, ?_, HGW.out⟩
      rw [← HFB0.out]
      unfold cnt1
      rw [if_pos (by have := HTO.out; omega), ← HFB1.out]
      exact HR.out
    · have HTO := Lib.hid hto
      cases hkk : kOk x with
      | true =>
        have HKK := Lib.hid hkk
        clear hkk
        obtain ⟨j, hj⟩ : ∃ j : Nat, x.an.kind = j := ⟨(x.an.kind).toNat, by have := of_decide_eq_true HKK.out; omega⟩
        have hj15 : j < 9 := by have := of_decide_eq_true HKK.out; omega
        have hj15i : (j : Int) < 9 := by omega
        rw [hj] at e6
        have HJK := Lib.hid hj
        clear hj
        have c0 := HR.out.cell (i := 30 + j) (by omega)
        have ff := HR.out.free
        have hb0 : 0 ≤ F1 (30 + j) := (HF1.out (30 + j)).1
        have hb1 : F1 (30 + j) ≤ 100000001 := (HF1.out (30 + j)).2
        go_upto_region 9 with fail
        go_still_tail 10, (by kernel_rfl)
        go_upto_region 10 with fail
        generalize hU : World.drew (World.setCell _ _ _) = U2
        have HRN := Lib.hid (show R42 U2 q 29 (cnC F1 x) by
          rw [← hU, show cnC F1 x = upd F1 (30 + j) (F1 (30 + j) + 1) by unfold cnC; rw [if_pos HKK.out, HJK.out, Int.toNat_natCast]]
          exact (HR.out.set (by omega) _).drew)
        have HON := Lib.hid (show R13 U2 Z x (.slice pv x.an.ps.length cv) by rw [← hU]; exact HO.out.keptN (grown_drew (grown_set (grown_refl _ q) _ _)) (by intro e; cases e; exact HNE.out rfl))
        have HGN := Lib.hid (show w.grownBy U2 (some q) by rw [← hU]; exact grown_drew (grown_set HGW.out _ _))
        clear hU c0 ff hb0 hb1 HR HO HGW hj15 hj15i
        have HR := HRN; have HO := HON; have HGW := HGN
        clear HRN HON HGN
        obtain ⟨F2, hFB⟩ : ∃ G, G = cnC F1 x := ⟨_, rfl⟩
        rw [← hFB] at HR
        have HFB2 := Lib.hid hFB
        have HF2 := Lib.hid (show ∀ i, 0 ≤ F2 i ∧ F2 i ≤ 100000002 from fun i => by rw [hFB]; have := cnC_le x (B := 100000001) HF1.out i; omega)
        clear hFB e1 e6 e10 e12
        obtain ⟨e0, e1, e2, e3, e4, e5, e6, e7, e8, e9, e10, e11, e12⟩ := HO.out.cells
        simp only [Nat.zero_add] at e0 e1 e2 e3 e4 e5 e6 e7 e8 e9 e10 e11 e12
        clear e0 e2 e3 e4 e5 e7 e8 e9 e11
        by_cases h3 : x.an.kind = 3
        · have H3 := Lib.hid h3
          clear h3
          have h3j : j = 3 := by have := HJK.out; have := H3.out; omega
          subst h3j
          have c0 := HR.out.cell (i := 40) (by omega)
          have ff := HR.out.free
          have hb0 : 0 ≤ F2 40 := (HF2.out 40).1
          have hb1 : F2 40 ≤ 100000002 := (HF2.out 40).2
          have hpl := HP.out
          go_upto_region 11 with fail
          go_still_tail 11, (by kernel_rfl)
          go_wp2_with fail
          generalize hU : World.drew (World.setCell _ _ _) = U3
          have HRN := Lib.hid (show R42 U3 q 29 (cnD F2 x) by
            rw [← hU, show cnD F2 x = upd F2 40 (F2 40 + x.an.ps.length) by unfold cnD; rw [if_pos (by have := H3.out; omega)]]
            exact (HR.out.set (by omega) _).drew)
          have HGN := Lib.hid (show w.grownBy U3 (some q) by rw [← hU]; exact grown_drew (grown_set HGW.out _ _))
          clear hU c0 ff hb0 hb1 HR HO HGW
          have HR := HRN; have HGW := HGN
          clear HRN HGN
          (try go_ret)
          (try go_end0)
          rw [HQ.out]
          refine ⟨⟨_, rfl⟩, ?_, HGW.out⟩
          rw [← HFB0.out]
          unfold cnt1
          rw [if_neg (by have := HTO.out; omega), ← HFB1.out, ← HFB2.out]
          exact HR.out
        · have H3 := Lib.hid h3
          have hj3 : ¬ j = 3 := by have := HJK.out; omega
          clear h3
          go_wp2_with fail
          have HR := Lib.hid (show R42 _ q 29 (cnD F2 x) by rw [show cnD F2 x = F2 by unfold cnD; rw [if_neg (by have := H3.out; omega)]]; exact HR.out)
          (try go_ret)
          (try go_end0)
          rw [HQ.out]
          refine ⟨⟨_, rfl⟩, ?_, HGW.out⟩
          rw [← HFB0.out]
          unfold cnt1
          rw [if_neg (by have := HTO.out; omega), ← HFB1.out, ← HFB2.out]
          exact HR.out
      | false =>
        have HKK := Lib.hid hkk
        clear hkk
        have hno : ¬ (0 ≤ x.an.kind ∧ x.an.kind < 9) := of_decide_eq_false HKK.out
        have h3 : ¬ x.an.kind = 3 := by omega
        have H3 := Lib.hid h3
        rcases (by omega : ¬ 0 ≤ x.an.kind ∨ (0 ≤ x.an.kind ∧ ¬ x.an.kind < 9)) with hx | ⟨hx, hx2⟩
        · clear hno
          go_wp2_with fail
          have HR := Lib.hid (show R42 _ q 29 (cnC F1 x) by rw [show cnC F1 x = F1 by unfold cnC; rw [if_neg (by rw [HKK.out]; decide)]]; exact HR.out)
          have HR := Lib.hid (show R42 _ q 29 (cnD (cnC F1 x) x) by rw [show cnD (cnC F1 x) x = cnC F1 x by unfold cnD; rw [if_neg (by have := H3.out; omega)]]; exact HR.out)
          (try go_ret)
          (try go_end0)
          rw [HQ.out]
          refine ⟨⟨_, rfl⟩, ?_, HGW.out⟩
          rw [← HFB0.out]
          unfold cnt1
          rw [if_neg (by have := HTO.out; omega), ← HFB1.out]
          exact HR.out
        · clear hno
          go_wp2_with fail
          have HR := Lib.hid (show R42 _ q 29 (cnC F1 x) by rw [show cnC F1 x = F1 by unfold cnC; rw [if_neg (by rw [HKK.out]; decide)]]; exact HR.out)
          have HR := Lib.hid (show R42 _ q 29 (cnD (cnC F1 x) x) by rw [show cnD (cnC F1 x) x = cnC F1 x by unfold cnD; rw [if_neg (by have := H3.out; omega)]]; exact HR.out)
          (try go_ret)
          (try go_end0)
          rw [HQ.out]
          refine ⟨⟨_, rfl⟩, ?_, HGW.out⟩
          rw [← HFB0.out]
          unfold cnt1
          rw [if_neg (by have := HTO.out; omega), ← HFB1.out]
          exact HR.out
  | false =>
    have HKA := Lib.hid hka
    clear hka
    have hno : ¬ (0 ≤ x.ca.op ∧ x.ca.op < 15) := of_decide_eq_false HKA.out
    rcases (by omega : ¬ 0 ≤ x.ca.op ∨ (0 ≤ x.ca.op ∧ ¬ x.ca.op < 15)) with hx | ⟨hx, hx2⟩
    · clear hno
      go_upto_region 4 with fail
      have HR := Lib.hid (show R42 _ q 29 (cnA F0 x) by rw [show cnA F0 x = F0 by unfold cnA; rw [if_neg (by rw [HKA.out]; decide)]]; exact HR.out)
      obtain ⟨F1, hFB⟩ : ∃ G, G = cnA F0 x := ⟨_, rfl⟩
      rw [← hFB] at HR
      have HFB1 := Lib.hid hFB
      have HF1 := Lib.hid (show ∀ i, 0 ≤ F1 i ∧ F1 i ≤ 100000001 from fun i => by rw [hFB]; have := cnA_le x (B := 100000000) HF0.out i; omega)
      clear hFB e1 e6 e10 e12
      obtain ⟨e0, e1, e2, e3, e4, e5, e6, e7, e8, e9, e10, e11, e12⟩ := HO.out.cells
      simp only [Nat.zero_add] at e0 e1 e2 e3 e4 e5 e6 e7 e8 e9 e10 e11 e12
      clear e0 e2 e3 e4 e5 e7 e8 e9 e11
      by_cases hto : x.to < 0
      · have HTO := Lib.hid hto
        go_wp2_with fail
        have HR := Lib.hid (show R42 _ q 29 (cnB F1 x) by rw [show cnB F1 x = F1 by unfold cnB; rw [if_neg (by rw [HKA.out]; decide)]]; exact HR.out)
        (try go_ret)
        (try go_end0)
        rw [HQ.out]
        refine ⟨⟨_, rfl⟩, ?_, HGW.out⟩
        rw [← HFB0.out]
        unfold cnt1
        rw [if_pos (by have := HTO.out; omega), ← HFB1.out]
        exact HR.out
      · have HTO := Lib.hid hto
        cases hkk : kOk x with
        | true =>
          have HKK := Lib.hid hkk
          clear hkk
          obtain ⟨j, hj⟩ : ∃ j : Nat, x.an.kind = j := ⟨(x.an.kind).toNat, by have := of_decide_eq_true HKK.out; omega⟩
          have hj15 : j < 9 := by have := of_decide_eq_true HKK.out; omega
          have hj15i : (j : Int) < 9 := by omega
          rw [hj] at e6
          have HJK := Lib.hid hj
          clear hj
          have c0 := HR.out.cell (i := 30 + j) (by omega)
          have ff := HR.out.free
          have hb0 : 0 ≤ F1 (30 + j) := (HF1.out (30 + j)).1
          have hb1 : F1 (30 + j) ≤ 100000001 := (HF1.out (30 + j)).2
          go_upto_region 9 with fail
          go_still_tail 10, (by kernel_rfl)
          go_upto_region 10 with fail
          generalize hU : World.drew (World.setCell _ _ _) = U2
          have HRN := Lib.hid (show R42 U2 q 29 (cnC F1 x) by
            rw [← hU, show cnC F1 x = upd F1 (30 + j) (F1 (30 + j) + 1) by unfold cnC; rw [if_pos HKK.out, HJK.out, Int.toNat_natCast]]
            exact (HR.out.set (by omega) _).drew)
          have HON := Lib.hid (show R13 U2 Z x (.slice pv x.an.ps.length cv) by rw [← hU]; exact HO.out.keptN (grown_drew (grown_set (grown_refl _ q) _ _)) (by intro e; cases e; exact HNE.out rfl))
          have HGN := Lib.hid (show w.grownBy U2 (some q) by rw [← hU]; exact grown_drew (grown_set HGW.out _ _))
          clear hU c0 ff hb0 hb1 HR HO HGW hj15 hj15i
          have HR := HRN; have HO := HON; have HGW := HGN
          clear HRN HON HGN
          obtain ⟨F2, hFB⟩ : ∃ G, G = cnC F1 x := ⟨_, rfl⟩
          rw [← hFB] at HR
          have HFB2 := Lib.hid hFB
          have HF2 := Lib.hid (show ∀ i, 0 ≤ F2 i ∧ F2 i ≤ 100000002 from fun i => by rw [hFB]; have := cnC_le x (B := 100000001) HF1.out i; omega)
          clear hFB e1 e6 e10 e12
          obtain ⟨e0, e1, e2, e3, e4, e5, e6, e7, e8, e9, e10, e11, e12⟩ := HO.out.cells
          simp only [Nat.zero_add] at e0 e1 e2 e3 e4 e5 e6 e7 e8 e9 e10 e11 e12
          clear e0 e2 e3 e4 e5 e7 e8 e9 e11
          by_cases h3 : x.an.kind = 3
          · have H3 := Lib.hid h3
            clear h3
            have h3j : j = 3 := by have := HJK.out; have := H3.out; omega
            subst h3j
            have c0 := HR.out.cell (i := 40) (by omega)
            have ff := HR.out.free
            have hb0 : 0 ≤ F2 40 := (HF2.out 40).1
            have hb1 : F2 40 ≤ 100000002 := (HF2.out 40).2
            have hpl := HP.out
            go_upto_region 11 with fail
            go_still_tail 11, (by kernel_rfl)
            go_wp2_with fail
            generalize hU : World.drew (World.setCell _ _ _) = U3
            have HRN := Lib.hid (show R42 U3 q 29 (cnD F2 x) by
              rw [← hU, show cnD F2 x = upd F2 40 (F2 40 + x.an.ps.length) by unfold cnD; rw [if_pos (by have := H3.out; omega)]]
              exact (HR.out.set (by omega) _).drew)
            have HGN := Lib.hid (show w.grownBy U3 (some q) by rw [← hU]; exact grown_drew (grown_set HGW.out _ _))
            clear hU c0 ff hb0 hb1 HR HO HGW
            have HR := HRN; have HGW := HGN
            clear HRN HGN
            (try go_ret)
            (try go_end0)
            rw [HQ.out]
            refine ⟨⟨_, rfl⟩, ?_, HGW.out⟩
            rw [← HFB0.out]
            unfold cnt1
            rw [if_neg (by have := HTO.out; omega), ← HFB1.out, ← HFB2.out]
            exact HR.out
          · have H3 := Lib.hid h3
            have hj3 : ¬ j = 3 := by have := HJK.out; omega
            clear h3
            go_wp2_with fail
            have HR := Lib.hid (show R42 _ q 29 (cnD F2 x) by rw [show cnD F2 x = F2 by unfold cnD; rw [if_neg (by have := H3.out; omega)]]; exact HR.out)
            (try go_ret)
            (try go_end0)
            rw [HQ.out]
            refine ⟨⟨_, rfl⟩, ?_, HGW.out⟩
            rw [← HFB0.out]
            unfold cnt1
            rw [if_neg (by have := HTO.out; omega), ← HFB1.out, ← HFB2.out]
            exact HR.out
        | false =>
          have HKK := Lib.hid hkk
          clear hkk
          have hno : ¬ (0 ≤ x.an.kind ∧ x.an.kind < 9) := of_decide_eq_false HKK.out
          have h3 : ¬ x.an.kind = 3 := by omega
          have H3 := Lib.hid h3
          rcases (by omega : ¬ 0 ≤ x.an.kind ∨ (0 ≤ x.an.kind ∧ ¬ x.an.kind < 9)) with hx | ⟨hx, hx2⟩
          · clear hno
            go_wp2_with fail
            have HR := Lib.hid (show R42 _ q 29 (cnC F1 x) by rw [show cnC F1 x = F1 by unfold cnC; rw [if_neg (by rw [HKK.out]; decide)]]; exact HR.out)
            have HR := Lib.hid (show R42 _ q 29 (cnD (cnC F1 x) x) by rw [show cnD (cnC F1 x) x = cnC F1 x by unfold cnD; rw [if_neg (by have := H3.out; omega)]]; exact HR.out)
            (try go_ret)
            (try go_end0)
            rw [HQ.out]
            refine ⟨⟨_, rfl⟩, ?_, HGW.out⟩
            rw [← HFB0.out]
            unfold cnt1
            rw [if_neg (by have := HTO.out; omega), ← HFB1.out]
            exact HR.out
          · clear hno
            go_wp2_with fail
            have HR := Lib.hid (show R42 _ q 29 (cnC F1 x) by rw [show cnC F1 x = F1 by unfold cnC; rw [if_neg (by rw [HKK.out]; decide)]]; exact HR.out)
            have HR := Lib.hid (show R42 _ q 29 (cnD (cnC F1 x) x) by rw [show cnD (cnC F1 x) x = cnC F1 x by unfold cnD; rw [if_neg (by have := H3.out; omega)]]; exact HR.out)
            (try go_ret)
            (try go_end0)
            rw [HQ.out]
            refine ⟨⟨_, rfl⟩, ?_, HGW.out⟩
            rw [← HFB0.out]
            unfold cnt1
            rw [if_neg (by have := HTO.out; omega), ← HFB1.out]
            exact HR.out
    · clear hno
      go_upto_region 4 with fail
      have HR := Lib.hid (show R42 _ q 29 (cnA F0 x) by rw [show cnA F0 x = F0 by unfold cnA; rw [if_neg (by rw [HKA.out]; decide)]]; exact HR.out)
      obtain ⟨F1, hFB⟩ : ∃ G, G = cnA F0 x := ⟨_, rfl⟩
      rw [← hFB] at HR
      have HFB1 := Lib.hid hFB
      have HF1 := Lib.hid (show ∀ i, 0 ≤ F1 i ∧ F1 i ≤ 100000001 from fun i => by rw [hFB]; have := cnA_le x (B := 100000000) HF0.out i; omega)
      clear hFB e1 e6 e10 e12
      obtain ⟨e0, e1, e2, e3, e4, e5, e6, e7, e8, e9, e10, e11, e12⟩ := HO.out.cells
      simp only [Nat.zero_add] at e0 e1 e2 e3 e4 e5 e6 e7 e8 e9 e10 e11 e12
      clear e0 e2 e3 e4 e5 e7 e8 e9 e11
      by_cases hto : x.to < 0
      · have HTO := Lib.hid hto
        go_wp2_with fail
        have HR := Lib.hid (show R42 _ q 29 (cnB F1 x) by rw [show cnB F1 x = F1 by unfold cnB; rw [if_neg (by rw [HKA.out]; decide)]]; exact HR.out)
        (try go_ret)
        (try go_end0)
        rw [HQ.out]
        refine ⟨⟨_, rfl⟩, ?_, HGW.out⟩
        rw [← HFB0.out]
        unfold cnt1
        rw [if_pos (by have := HTO.out; omega), ← HFB1.out]
        exact HR.out
      · have HTO := Lib.hid hto
        cases hkk : kOk x with
        | true =>
          have HKK := Lib.hid hkk
          clear hkk
          obtain ⟨j, hj⟩ : ∃ j : Nat, x.an.kind = j := ⟨(x.an.kind).toNat, by have := of_decide_eq_true HKK.out; omega⟩
          have hj15 : j < 9 := by have := of_decide_eq_true HKK.out; omega
          have hj15i : (j : Int) < 9 := by omega
          rw [hj] at e6
          have HJK := Lib.hid hj
          clear hj
          have c0 := HR.out.cell (i := 30 + j) (by omega)
          have ff := HR.out.free
          have hb0 : 0 ≤ F1 (30 + j) := (HF1.out (30 + j)).1
          have hb1 : F1 (30 + j) ≤ 100000001 := (HF1.out (30 + j)).2
          go_upto_region 9 with fail
          go_still_tail 10, (by kernel_rfl)
          go_upto_region 10 with fail
          generalize hU : World.drew (World.setCell _ _ _) = U2
          have HRN := Lib.hid (show R42 U2 q 29 (cnC F1 x) by
            rw [← hU, show cnC F1 x = upd F1 (30 + j) (F1 (30 + j) + 1) by unfold cnC; rw [if_pos HKK.out, HJK.out, Int.toNat_natCast]]
            exact (HR.out.set (by omega) _).drew)
          have HON := Lib.hid (show R13 U2 Z x (.slice pv x.an.ps.length cv) by rw [← hU]; exact HO.out.keptN (grown_drew (grown_set (grown_refl _ q) _ _)) (by intro e; cases e; exact HNE.out rfl))
          have HGN := Lib.hid (show w.grownBy U2 (some q) by rw [← hU]; exact grown_drew (grown_set HGW.out _ _))
          clear hU c0 ff hb0 hb1 HR HO HGW hj15 hj15i
          have HR := HRN; have HO := HON; have HGW := HGN
          clear HRN HON HGN
          obtain ⟨F2, hFB⟩ : ∃ G, G = cnC F1 x := ⟨_, rfl⟩
          rw [← hFB] at HR
          have HFB2 := Lib.hid hFB
          have HF2 := Lib.hid (show ∀ i, 0 ≤ F2 i ∧ F2 i ≤ 100000002 from fun i => by rw [hFB]; have := cnC_le x (B := 100000001) HF1.out i; omega)
          clear hFB e1 e6 e10 e12
          obtain ⟨e0, e1, e2, e3, e4, e5, e6, e7, e8, e9, e10, e11, e12⟩ := HO.out.cells
          simp only [Nat.zero_add] at e0 e1 e2 e3 e4 e5 e6 e7 e8 e9 e10 e11 e12
          clear e0 e2 e3 e4 e5 e7 e8 e9 e11
          by_cases h3 : x.an.kind = 3
          · have H3 := Lib.hid h3
            clear h3
            have h3j : j = 3 := by have := HJK.out; have := H3.out; omega
            subst h3j
            have c0 := HR.out.cell (i := 40) (by omega)
            have ff := HR.out.free
            have hb0 : 0 ≤ F2 40 := (HF2.out 40).1
            have hb1 : F2 40 ≤ 100000002 := (HF2.out 40).2
            have hpl := HP.out
            go_upto_region 11 with fail
            go_still_tail 11, (by kernel_rfl)
            go_wp2_with fail
            generalize hU : World.drew (World.setCell _ _ _) = U3
            have HRN := Lib.hid (show R42 U3 q 29 (cnD F2 x) by
              rw [← hU, show cnD F2 x = upd F2 40 (F2 40 + x.an.ps.length) by unfold cnD; rw [if_pos (by have := H3.out; omega)]]
              exact (HR.out.set (by omega) _).drew)
            have HGN := Lib.hid (show w.grownBy U3 (some q) by rw [← hU]; exact grown_drew (grown_set HGW.out _ _))
            clear hU c0 ff hb0 hb1 HR HO HGW
            have HR := HRN; have HGW := HGN
            clear HRN HGN
            (try go_ret)
            (try go_end0)
            rw [HQ.out]
            refine ⟨⟨_, rfl⟩, ?_, HGW.out⟩
            rw [← HFB0.out]
            unfold cnt1
            rw [if_neg (by have := HTO.out; omega), ← HFB1.out, ← HFB2.out]
            exact HR.out
          · have H3 := Lib.hid h3
            have hj3 : ¬ j = 3 := by have := HJK.out; omega
            clear h3
            go_wp2_with fail
            have HR := Lib.hid (show R42 _ q 29 (cnD F2 x) by rw [show cnD F2 x = F2 by unfold cnD; rw [if_neg (by have := H3.out; omega)]]; exact HR.out)
            (try go_ret)
            (try go_end0)
            rw [HQ.out]
            refine ⟨⟨_, rfl⟩, ?_, HGW.out⟩
            rw [← HFB0.out]
            unfold cnt1
            rw [if_neg (by have := HTO.out; omega), ← HFB1.out, ← HFB2.out]
            exact HR.out
        | false =>
          have HKK := Lib.hid hkk
          clear hkk
          have hno : ¬ (0 ≤ x.an.kind ∧ x.an.kind < 9) := of_decide_eq_false HKK.out
          have h3 : ¬ x.an.kind = 3 := by omega
          have H3 := Lib.hid h3
          rcases (by omega : ¬ 0 ≤ x.an.kind ∨ (0 ≤ x.an.kind ∧ ¬ x.an.kind < 9)) with hx | ⟨hx, hx2⟩
          · clear hno
            go_wp2_with fail
            have HR := Lib.hid (show R42 _ q 29 (cnC F1 x) by rw [show cnC F1 x = F1 by unfold cnC; rw [if_neg (by rw [HKK.out]; decide)]]; exact HR.out)
            have HR := Lib.hid (show R42 _ q 29 (cnD (cnC F1 x) x) by rw [show cnD (cnC F1 x) x = cnC F1 x by unfold cnD; rw [if_neg (by have := H3.out; omega)]]; exact HR.out)
            (try go_ret)
            (try go_end0)
            rw [HQ.out]
            refine ⟨⟨_, rfl⟩, ?_, HGW.out⟩
            rw [← HFB0.out]
            unfold cnt1
            rw [if_neg (by have := HTO.out; omega), ← HFB1.out]
            exact HR.out
          · clear hno
            go_wp2_with fail
            have HR := Lib.hid (show R42 _ q 29 (cnC F1 x) by rw [show cnC F1 x = F1 by unfold cnC; rw [if_neg (by rw [HKK.out]; decide)]]; exact HR.out)
            have HR := Lib.hid (show R42 _ q 29 (cnD (cnC F1 x) x) by rw [show cnD (cnC F1 x) x = cnC F1 x by unfold cnD; rw [if_neg (by have := H3.out; omega)]]; exact HR.out)
            (try go_ret)
            (try go_end0)
            rw [HQ.out]
            refine ⟨⟨_, rfl⟩, ?_, HGW.out⟩
            rw [← HFB0.out]
            unfold cnt1
            rw [if_neg (by have := HTO.out; omega), ← HFB1.out]
            exact HR.out
end Go.Proofs.Ytilfgekiblpkaaa
