/- Layer 35, reading: a pair, read. -/
import Derived.Test.YtdgplijnhkgeiaaDoorRtxI
namespace Go.Proofs.YtdgplijnhkgeiaaDoor
open Go.RowKit
open Go.Lib (cut itoa)
set_option linter.unusedVariables false
set_option linter.unusedSimpArgs false
/-- The pair that a text is, or none. -/
noncomputable def pairOf (l : List UInt8) : Option (Int × Int) :=
  match numOf (cut l [58]).1, numOf (cut l [58]).2.1 with
  | some a, some b => some (a, b)
  | _, _ => none
theorem pairOf_ok {l : List UInt8} {a b : Int} (h1 : numOf (cut l [58]).1 = some a) (h2 : numOf (cut l [58]).2.1 = some b) : pairOf l = some (a, b) := by unfold pairOf; rw [h1, h2]
theorem pairOf_no1 {l : List UInt8} (h1 : numOf (cut l [58]).1 = none) : pairOf l = none := by unfold pairOf; rw [h1]
theorem pairOf_no2 {l : List UInt8} (h1 : numOf (cut l [58]).2.1 = none) : pairOf l = none := by unfold pairOf; rw [h1]; cases numOf (cut l [58]).1 <;> rfl
def prE : Option (Int × Int) → Ending
  | some p => .returned (.agg #[.int .i64 p.1, .int .i64 p.2])
  | none => wrP 4
theorem cut_words (c : UInt8) (l : List UInt8) : (cut l [c]).1.length ≤ l.length ∧ (cut l [c]).2.1.length ≤ l.length := by
  induction l with
  | nil => rw [cut_nil]; simp
  | cons x r ih =>
    rw [cut_cons]
    split
    · simp
    · simp; omega
theorem numOf_not {l : List UInt8} (h : numOf l = none) : ∀ n, ¬ IsNum l n := fun n k => by rw [numOf_some k] at h; cases h
set_option maxHeartbeats 1000000 in
theorem topair (l : List UInt8) (w : World) {B : Nat} (hl : l.length ≤ 10000) (hv : VB B w) (hB : B ≤ w.heap.size) :
    Calls Tryd.prog 46 #[tx l] w fun e w' => e = prE (pairOf l) ∧ Below w.heap.size w w' := by
  refine Calls.veil fun Q HQ => ?_
  have HL := Lib.hid (cut_words 58 l)
  have HV := Lib.hid hv
  have HB := Lib.hid hB
  have HC := Lib.hid (fun W => tcut l 58 W (by omega))
  have HP := Lib.hid (And.intro (@pairOf_ok l) (And.intro (@pairOf_no1 l) (@pairOf_no2 l)))
  have HLL := Lib.hid hl
  clear hl hv hB
  generalize (cut l [58]).2.2 = bb at *
  generalize (cut l [58]).2.1 = l2 at *
  generalize (cut l [58]).1 = l1 at *
  go_enter Tryd.func46, Tryd.ntmps46
  go_wp2_with fail
  generalize hVV : World.alloc w _ = V
  have HBV := Lib.hid (show Below w.heap.size w V ∧ V.heap[w.heap.size]? = some (.cells #[.int .i64 0, .int .i64 0] 51 (0, 0)) from ⟨by rw [← hVV]; exact below_new (Below.refl _ _) _, by rw [← hVV]; exact World.alloc_heap_new w _⟩)
  clear hVV
  refine (HC.out V).mono ?_; rintro _ w1 ⟨rfl, hb⟩
  have HB1 := Lib.hid (below_on HBV.out.1 hb)
  have HX1 := Lib.hid (upk hb HBV.out.2)
  clear hb
  go_wp2_with fail
  cases h1 : numOf l1 with
  | none =>
    have HE := Lib.hid (HP.out.2.1 h1)
    refine (tnumber_no l1 B w1 (numOf_not h1) (by have := HL.out; have := HLL.out; omega) (HV.out.below (HB1.out.mono HB.out)) (Nat.le_trans HB.out HB1.out.size)).mono ?_; rintro _ w2 ⟨rfl, hb⟩
    have HB2 := Lib.hid (below_on HB1.out hb)
    clear hb h1
    go_wp2_with fail
    rw [HQ.out, HE.out]
    exact ⟨rfl, rfl, HB2.out⟩
  | some a =>
    refine (tnumber l1 a B w1 (numOf_is h1) (by have := HL.out; have := HLL.out; omega) (HV.out.below (HB1.out.mono HB.out)) (Nat.le_trans HB.out HB1.out.size)).mono ?_; rintro _ w2 ⟨rfl, hb⟩
    have HB2 := Lib.hid (below_on HB1.out hb)
    have HX2 := Lib.hid (upk hb HX1.out)
    have H1 := Lib.hid h1
    clear hb h1
    go_wp2_with fail
    cases h1 : numOf l2 with
    | none =>
      have HE := Lib.hid (HP.out.2.2 h1)
      refine (tnumber_no l2 B w2 (numOf_not h1) (by have := HL.out; have := HLL.out; omega) (HV.out.below (HB2.out.mono HB.out)) (Nat.le_trans HB.out HB2.out.size)).mono ?_; rintro _ w3 ⟨rfl, hb⟩
      have HB3 := Lib.hid (below_on HB2.out hb)
      clear hb h1
      go_wp2_with fail
      rw [HQ.out, HE.out]
      exact ⟨rfl, rfl, HB3.out⟩
    | some b =>
      refine (tnumber l2 b B w2 (numOf_is h1) (by have := HL.out; have := HLL.out; omega) (HV.out.below (HB2.out.mono HB.out)) (Nat.le_trans HB.out HB2.out.size)).mono ?_; rintro _ w3 ⟨rfl, hb⟩
      have HB3 := Lib.hid (below_on HB2.out hb)
      have HX3 := Lib.hid (upk hb HX2.out)
      have HE := Lib.hid (HP.out.1 H1.out h1)
      have hr := HX3.out
      have y0 : w3.cell? ⟨w.heap.size, 0, none⟩ = some (.int .i64 0) := by simp [World.cell?, hr]
      have y1 : w3.cell? ⟨w.heap.size, 1, none⟩ = some (.int .i64 0) := by simp [World.cell?, hr]
      have f0 : w3.frozen? ⟨w.heap.size, 0, none⟩ = false := by simp [World.frozen?, hr]
      have f1 : w3.frozen? ⟨w.heap.size, 1, none⟩ = false := by simp [World.frozen?, hr]
      clear hb h1 hr
      go_wp2_with fail
      generalize hW6 : World.setCell _ _ _ = w6
      have h6 : w6.heap[w.heap.size]? = some (.cells #[.int .i64 a, .int .i64 b] 51 (0, 0)) := by
        rw [← hW6]; exact heap_setCell_same _ _ 1 _ _ _ (heap_setCell_same _ _ 0 _ _ _ HX3.out)
      have hb6 : Below w.heap.size w w6 := by
        rw [← hW6]; exact (HB3.out.setCell (p := ⟨w.heap.size, 0, none⟩) (Nat.le_refl _) _).setCell (p := ⟨w.heap.size, 1, none⟩) (Nat.le_refl _) _
      have z0 : w6.cell? ⟨w.heap.size, 0, none⟩ = some (.int .i64 a) := by simp [World.cell?, h6]
      have z1 : w6.cell? ⟨w.heap.size, 1, none⟩ = some (.int .i64 b) := by simp [World.cell?, h6]
      refine bodyPost_ret (v := .agg #[.int .i64 a, .int .i64 b]) (by simp [results, Tryd.results46, go_sem, z0, z1]) rfl ?_
      rw [HQ.out, HE.out]
      exact ⟨rfl, hb6⟩
end Go.Proofs.YtdgplijnhkgeiaaDoor
