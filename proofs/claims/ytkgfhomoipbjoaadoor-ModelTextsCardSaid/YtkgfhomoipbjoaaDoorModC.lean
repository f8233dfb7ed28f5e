/- Layer 10: found, at, one. -/
import Derived.Test.YtkgfhomoipbjoaaDoorModA
import Derived.Deep.CutRange
import Derived.Deep.RegionWith
namespace Go.Proofs.YtkgfhomoipbjoaaDoor
open Go.RowKit
set_option linter.unusedVariables false
set_option linter.unusedSimpArgs false
structure KX (X : List Nat) (w w' : World) : Prop where
  os : w'.os = w.os
  tape : w'.tape = w.tape
  output : w'.output = w.output
  size : w.heap.size ≤ w'.heap.size
  block : ∀ k, k < w.heap.size → k ∉ X → w'.heap[k]? = w.heap[k]?
theorem KX.trans {X : List Nat} {w w1 w2 : World} (h : KX X w w1) (k : KX X w1 w2) : KX X w w2 :=
  ⟨k.os.trans h.os, k.tape.trans h.tape, k.output.trans h.output, Nat.le_trans h.size k.size, fun j hj a => (k.block j (Nat.lt_of_lt_of_le hj h.size) a).trans (h.block j hj a)⟩
theorem KX.of_below {X : List Nat} {w w' : World} (h : Below w.heap.size w w') : KX X w w' := ⟨h.os, h.tape, h.output, h.size, fun k hk _ => h.block k hk⟩
theorem KX.set {w : World} {X : List Nat} {b i : Nat} {v : Value} (hb : b ∈ X) : KX X w (w.setCell ⟨b, i, none⟩ v) :=
  ⟨rfl, rfl, rfl, by simp [World.setCell], fun k hk ha => Below.heap_setCell _ _ _ _ (by rintro rfl; exact ha hb)⟩
theorem KX.below {w W V : World} {X : List Nat} (h : Below w.heap.size w W) (k : KX X W V) (hX : ∀ x ∈ X, w.heap.size ≤ x) : Below w.heap.size w V :=
  ⟨k.os.trans h.os, k.tape.trans h.tape, k.output.trans h.output, Nat.le_trans h.size k.size, fun j hj => (k.block j (Nat.lt_of_lt_of_le hj h.size) (fun hx => by have := hX j hx; omega)).trans (h.block j hj)⟩
structure E4 (W : World) (X : List Nat) where
  w : World
  h : KX X W w
instance (W : World) (X : List Nat) : Nonempty (E4 W X) := ⟨⟨W, .of_below (Below.refl _ _)⟩⟩
theorem KX.cell {W w : World} {X : List Nat} (x : KX X W w) {b o : Nat} {v : Value} (h : W.cell? ⟨b, o, none⟩ = some v) (hb : b ∉ X) : w.cell? ⟨b, o, none⟩ = some v :=
  (World.cell?_of_block (a := ⟨b, o, none⟩) (x.block b (World.block_lt_of_cell? W ⟨b, o, none⟩ h) hb)).trans h
theorem E4.cells {W : World} {X : List Nat} {b o : Nat} {v : Value} (h : W.cell? ⟨b, o, none⟩ = some v) (hb : b ∉ X) : ∀ x : E4 W X, x.w.cell? ⟨b, o, none⟩ = some v := fun x => x.h.cell h hb
/-- The answer of a pair, if there is one. -/
def foundA : Option (Int × Int) → An
  | none => ⟨4, 0, 0, 0, []⟩
  | some p => ⟨1, p.1, p.2, 0, []⟩
def fA (o : Option (Int × Int)) : Value := anV (foundA o) (.slice none 0 0)
def atL (l : PL) (key : Int) : Option (Int × Int) := if hereB l key = true then some (ky l (lbN l key), vl l (lbN l key)) else none
theorem mfound (o : Option (Int × Int)) (w : World) :
    Calls Tryd.prog 46 #[.agg #[.int .i64 (opt o).1, .int .i64 (opt o).2], .bool o.isSome] w fun e w' => e = .returned (fA o) ∧ Below w.heap.size w w' := by
  cases o with
  | none =>
    show Calls Tryd.prog _ #[.agg #[.int .i64 0, .int .i64 0], .bool false] w _
    go_enter Tryd.func46, Tryd.ntmps46
    go_wp2
    exact bodyPost_ret (v := .agg #[.int .i64 4, .int .i64 0, .int .i64 0, .int .i64 0, .slice none 0 0]) (by simp [results, Tryd.results46, go_sem]) rfl ⟨rfl, by (repeat (first | exact Below.refl _ _ | assumption | refine below_new ?_ _ | refine Below.drew ?_ | refine below_drewN ?_ _ | refine below_on ?_ (by assumption)))⟩
  | some p =>
    obtain ⟨k, x⟩ := p
    show Calls Tryd.prog _ #[.agg #[.int .i64 k, .int .i64 x], .bool true] w _
    go_enter Tryd.func46, Tryd.ntmps46
    go_wp2
    exact bodyPost_ret (v := .agg #[.int .i64 1, .int .i64 k, .int .i64 x, .int .i64 0, .slice none 0 0]) (by simp [results, Tryd.results46, go_sem]) rfl ⟨rfl, by (repeat (first | exact Below.refl _ _ | assumption | refine below_new ?_ _ | refine Below.drew ?_ | refine below_drewN ?_ _ | refine below_on ?_ (by assumption)))⟩
theorem mfound_at (k x : Int) (w : World) :
    Calls Tryd.prog 46 #[.agg #[.int .i64 k, .int .i64 x], .bool true] w fun e w' => e = .returned (.agg #[.int .i64 1, .int .i64 k, .int .i64 x, .int .i64 0, .slice none 0 0]) ∧ Below w.heap.size w w' := mfound (some (k, x)) w
theorem mfound_no (w : World) :
    Calls Tryd.prog 46 #[.agg #[.int .i64 0, .int .i64 0], .bool false] w fun e w' => e = .returned (.agg #[.int .i64 4, .int .i64 0, .int .i64 0, .int .i64 0, .slice none 0 0]) ∧ Below w.heap.size w w' := mfound none w
set_option maxHeartbeats 1000000 in
theorem mat (l : PL) (v : Value) (key : Int) (w : World) (h : PR w v l) (hr : riseB l = true) (hn : l.length ≤ 100000) :
    Calls Tryd.prog 49 #[v, .int .i64 key] w fun e w' => e = .returned (fA (atL l key)) ∧ Below w.heap.size w w' := by
  refine Calls.veil fun Q HQ => ?_
  have H := Lib.hid h
  have HR := Lib.hid hr
  have hle := lbN_le l key
  have hh := here_at hr key
  obtain ⟨p, c, rfl, h1, h2, H3⟩ := h.parts
  clear h hr
  go_enter Tryd.func49, Tryd.ntmps49
  go_upto_region 1 with fail
  generalize hU : World.alloc _ _ = U
  have HBU := Lib.hid (show Below w.heap.size w U by rw [← hU]; (repeat (first | exact Below.refl _ _ | assumption | refine below_new ?_ _ | refine Below.drew ?_ | refine below_drewN ?_ _ | refine below_on ?_ (by assumption))))
  obtain ⟨R, hRR⟩ : ∃ R, R = w.heap.size := ⟨_, rfl⟩
  have HU := Lib.hid (show U.heap[R]? = some (.cells #[.int .i64 0, .int .i64 0, .int .i64 0, .int .i64 0, .slice none 0 0] 34 (0, 0)) by rw [← hU, hRR]; exact heap_alloc_new _ _)
  have HRR := Lib.hid hRR
  rw [← hRR]
  clear hU hRR
  go_wp2_with fail
  refine (pfind _ _ key U (H.out.below HBU.out) HR.out hn).mono ?_; rintro _ w1 ⟨rfl, hb1⟩
  have HB1 := Lib.hid hb1
  have HU1 := Lib.hid ((hb1.block _ (Array.getElem?_eq_some_iff.1 HU.out).1).trans HU.out)
  have q0 : w1.cell? ⟨R, 0, none⟩ = some (.int .i64 0) := by rw [cell_of_row _ _ _ _ _ (0, 0) HU1.out]; rfl
  have q1 : w1.cell? ⟨R, 1, none⟩ = some (.int .i64 0) := by rw [cell_of_row _ _ _ _ _ (0, 0) HU1.out]; rfl
  have q2 : w1.cell? ⟨R, 2, none⟩ = some (.int .i64 0) := by rw [cell_of_row _ _ _ _ _ (0, 0) HU1.out]; rfl
  have q3 : w1.cell? ⟨R, 3, none⟩ = some (.int .i64 0) := by rw [cell_of_row _ _ _ _ _ (0, 0) HU1.out]; rfl
  have q4 : w1.cell? ⟨R, 4, none⟩ = some (.slice none 0 0) := by rw [cell_of_row _ _ _ _ _ (0, 0) HU1.out]; rfl
  have qf : ∀ i, w1.frozen? ⟨R, i, none⟩ = false := fun i => frozen_of_row _ _ _ _ _ HU1.out
  have HBT := Lib.hid (show Below w.heap.size w w1 from HBU.out.trans (hb1.mono HBU.out.size))
  have HRL := Lib.hid (show w.heap.size ≤ R by rw [HRR.out]; exact Nat.le_refl _)
  clear hb1
  cases hb : hereB l key with
  | false =>
    have HA := Lib.hid (show atL l key = none by unfold atL; rw [hb]; rfl)
    clear hh hb
    go_wp2_with fail
    refine bodyPost_ret (v := .agg #[.int .i64 4, .int .i64 0, .int .i64 0, .int .i64 0, .slice none 0 0]) (by simp [results, Tryd.results49, go_sem, q0, q1, q2, q3, q4, World.cell?_setCell_same, World.cell?_setCell_other]) rfl ?_
    rw [HQ.out, HA.out]
    exact ⟨rfl, by repeat' (first | exact HBT.out | refine below_setB ?_ HRL.out)⟩
  | true =>
    have HA := Lib.hid (show atL l key = some (ky l (lbN l key), vl l (lbN l key)) by unfold atL; rw [hb]; rfl)
    rw [hb] at hh
    generalize lbN l key = r at *
    have hrl : r < l.length := by
      have := hh.symm
      rw [Bool.and_eq_true, decide_eq_true_eq] at this
      exact this.1
    obtain ⟨g, o, rfl, c0, c1⟩ := H3.out r hrl
    have c0 := Ext.use (Ext.cells c0) HBT.out
    have c1 := Ext.use (Ext.cells c1) HBT.out
    have hii : (r : Int) < l.length := by omega
    generalize ky l r = kk at *
    generalize vl l r = vv at *
    clear hh hb
    go_wp2_with fail
    refine (mfound_at kk vv w1).mono ?_; rintro _ w2 ⟨rfl, hb2⟩
    have HU2 := Lib.hid ((hb2.block _ (Array.getElem?_eq_some_iff.1 HU1.out).1).trans HU1.out)
    have q0 : w2.cell? ⟨R, 0, none⟩ = some (.int .i64 0) := by rw [cell_of_row _ _ _ _ _ (0, 0) HU2.out]; rfl
    have q1 : w2.cell? ⟨R, 1, none⟩ = some (.int .i64 0) := by rw [cell_of_row _ _ _ _ _ (0, 0) HU2.out]; rfl
    have q2 : w2.cell? ⟨R, 2, none⟩ = some (.int .i64 0) := by rw [cell_of_row _ _ _ _ _ (0, 0) HU2.out]; rfl
    have q3 : w2.cell? ⟨R, 3, none⟩ = some (.int .i64 0) := by rw [cell_of_row _ _ _ _ _ (0, 0) HU2.out]; rfl
    have q4 : w2.cell? ⟨R, 4, none⟩ = some (.slice none 0 0) := by rw [cell_of_row _ _ _ _ _ (0, 0) HU2.out]; rfl
    have qf : ∀ i, w2.frozen? ⟨R, i, none⟩ = false := fun i => frozen_of_row _ _ _ _ _ HU2.out
    have HBT := Lib.hid (HBT.out.trans (hb2.mono HBT.out.size))
    clear hb2
    go_wp2_with fail
    refine bodyPost_ret (v := .agg #[.int .i64 1, .int .i64 kk, .int .i64 vv, .int .i64 0, .slice none 0 0]) (by simp [results, Tryd.results49, go_sem, q0, q1, q2, q3, q4, World.cell?_setCell_same, World.cell?_setCell_other]) rfl ?_
    rw [HQ.out, HA.out]
    exact ⟨rfl, by repeat' (first | exact HBT.out | refine below_setB ?_ HRL.out)⟩
end Go.Proofs.YtkgfhomoipbjoaaDoor
