/- Layer 38: the laws' lives; great. -/
import Derived.Test.YtilfgekiblpkaaaStaG
import Derived.Deep.WholeRow
namespace Go.Proofs.Ytilfgekiblpkaaa
open Go.RowKit
set_option linter.unusedVariables false
set_option linter.unusedSimpArgs false
def L2 : Nat → Ev := fun i => if i = 0 then ev0 else { ev0 with bk := true }
theorem L2_VR (w : World) (T : TypeId) : VR (w.alloc (.cells #[.int .i64 0, .bool false, .int .i64 0, .int .i64 0, .int .i64 0, .int .i64 0, .int .i64 0, .int .i64 0, .int .i64 0, .int .i64 0, .int .i64 0, .slice none 0 0, .int .i64 0, .bool true, .int .i64 0, .int .i64 0, .int .i64 0, .int .i64 0, .int .i64 0, .int .i64 0, .int .i64 0, .int .i64 0, .int .i64 0, .slice none 0 0] T)) (.slice (some ⟨w.heap.size, 0, none⟩) 2 2) 2 L2 := by
  refine .row _ 0 2 2 _ (Nat.le_refl _) (by decide) fun i hi => ⟨.slice none 0 0, fun j hj => ?_, ?_⟩
  · rw [cell_of_row _ _ _ _ _ (0, 0) (heap_alloc_new w _)]
    rcases (by omega : i = 0 ∨ i = 1) with rfl | rfl <;> rcases (by omega : j = 0 ∨ j = 1 ∨ j = 2 ∨ j = 3 ∨ j = 4 ∨ j = 5 ∨ j = 6 ∨ j = 7 ∨ j = 8 ∨ j = 9 ∨ j = 10 ∨ j = 11) with rfl | rfl | rfl | rfl | rfl | rfl | rfl | rfl | rfl | rfl | rfl | rfl <;> rfl
  · rcases (by omega : i = 0 ∨ i = 1) with rfl | rfl <;> exact .nil
theorem L2_sum : sumF L2 2 0 = 1 ∧ sumF L2 2 15 = 0 ∧ sumF L2 2 30 = 1 ∧ sumF L2 2 39 = 0 ∧ sumF L2 2 41 = 1 := by decide +kernel
set_option maxRecDepth 8000 in
set_option maxHeartbeats 4000000 in
theorem lives38_calls (w : World) : Calls Try.prog 6 #[] w fun e w' => e = .returned (.bool true) ∧ Below w.heap.size w w' := by
  refine Calls.veil fun Q HQ => ?_
  have S := Lib.hid (fun (v : Value) (W : World) (h : VR W v 2 L2) => sof 2 L2 v W h (by omega) (fun i hi => by rcases (by omega : i = 0 ∨ i = 1) with rfl | rfl <;> simp [L2, ev0]))
  obtain ⟨d, hdu, hdr⟩ := uSum
  have G0 := L2_sum
  generalize sumF L2 2 = G at S G0
  obtain ⟨g0, g15, g30, g39, g41⟩ := G0
  have HG := Lib.hid (And.intro g0 (And.intro g15 (And.intro g30 (And.intro g39 g41))))
  clear g0 g15 g30 g39 g41 hdu hdr
  go_enter Try.func6, Try.ntmps6
  go_wp2_with fail
  generalize hV : World.alloc w _ = V
  have HVR := Lib.hid (show VR V (.slice (some ⟨w.heap.size, 0, none⟩) 2 2) 2 L2 by rw [← hV]; exact L2_VR w _)
  have HB := Lib.hid (show Below w.heap.size w V by rw [← hV]; exact below_new (Below.refl _ _) _)
  clear hV
  refine (S.out _ V HVR.out).mono ?_; rintro _ z1 ⟨rfl, hb1⟩
  have HB1 := Lib.hid (below_on HB.out hb1)
  clear hb1
  have hst : ∀ c : Array Value, c.size = 42 → (storeCells ⟨z1.heap.size, 0, none⟩ (c42 G)).run Try.prog (z1.alloc (.cells c 29)) = .ok () (z1.alloc (.cells (c42 G).toArray 29)) := fun c hc => by
    have := run_storeCells_new (P := Try.prog) z1 29 c (c42 G).toArray (by rw [List.size_toArray, c42_len]; exact infoSum) (by simp only [List.size_toArray, c42_len]; exact hc) (c42_one _)
    simpa using this
  go_upto_region 2 with fail
  generalize hU : World.alloc z1 _ = U
  have HRU := Lib.hid (show R42 U z1.heap.size 29 G by rw [← hU]; exact heap_alloc_new z1 _)
  have HF := Lib.hid (show Below w.heap.size w U by rw [← hU]; exact below_new HB1.out _)
  clear hU hst
  have c0 := HRU.out.cell (i := 0) (by omega)
  have c15 := HRU.out.cell (i := 15) (by omega)
  have c30 := HRU.out.cell (i := 30) (by omega)
  have c39 := HRU.out.cell (i := 39) (by omega)
  have c41 := HRU.out.cell (i := 41) (by omega)
  obtain ⟨g0, g15, g30, g39, g41⟩ := HG.out
  rw [g0] at c0; rw [g15] at c15; rw [g30] at c30; rw [g39] at c39; rw [g41] at c41
  clear g0 g15 g30 g39 g41
  go_wp2_with fail
  (try go_ret)
  rw [HQ.out]
  exact ⟨rfl, HF.out⟩
set_option maxHeartbeats 2000000 in
theorem hgreat38 (n : Nat) (L : Nat → Ev) (v : Value) (w : World) (h : VR w v n L) : Calls Try.prog 5 #[v] w fun e w' => ∃ b, e = .returned (.bool b) ∧ (b = false → n ≤ 150 ∧ ∀ i, i < n → (L i).an.ps.length ≤ 1500) ∧ Below w.heap.size w w' := by
  refine Calls.veil fun Q HQ => ?_
  obtain ⟨p, c, rfl, a1, a2, A3⟩ := h.parts
  clear h
  go_enter Try.func5, Try.ntmps5
  go_wp2_with fail
  go_loopw [3] (fun iv wr => ∃ i : Nat, i ≤ n ∧ i ≤ 200 ∧ iv = .int .i64 i ∧ Hid (∀ j, j < i → (L j).an.ps.length ≤ 1500) ∧ wr = w)
    (fun iv _ => n - (intOf iv).toNat)
  case atStart => exact ⟨0, by omega, by omega, rfl, Lib.hid (by omega), rfl⟩
  case round =>
    obtain ⟨i, hi, hi2, rfl, HS, rfl⟩ := hrel
    rcases (by omega : (i < n ∧ i < 200) ∨ (i < n ∧ i = 200) ∨ i = n) with ⟨hlt, hlt2⟩ | ⟨hlt, h200⟩ | hEQ
    · obtain ⟨g, o, rfl, hA⟩ := A3.out (by omega)
      obtain ⟨pv, hC, hPR⟩ := hA.cells i hlt
      obtain ⟨pp, pc, rfl, b1, b2⟩ := hPR.slice
      have c11 := hC.c11
      have hd2 : decide ((i : Int) < 200) = true := decide_eq_true (by omega)
      have H200 := Lib.hid (And.intro hi2 hlt2)
      clear hi2 hlt2
      clear hPR hC
      generalize hl : (L i).an.ps.length = t at *
      by_cases ht : t ≤ 1500
      · have hd : decide ((1500 : Int) < (t : Int)) = false := decide_eq_false (by omega)
        have HT := Lib.hid ht
        clear ht
        go_wp2_with fail
        go_roundw
        case rel =>
          have := H200.out
          refine ⟨i + 1, by omega, by omega, by go_num, Lib.hid ?_, by trivial⟩
          intro j hj
          rcases (by omega : j < i ∨ j = i) with h1 | rfl
          · exact HS.out j h1
          · rw [hl]; exact HT.out
        case measure => simp [intOf]; omega
      · have hd : decide ((1500 : Int) < (t : Int)) = true := decide_eq_true (by omega)
        clear ht
        go_wp2_with fail
        (try go_ret)
        rw [HQ.out]
        exact ⟨true, rfl, by simp, Below.refl _ _⟩
    · have h2 : decide ((i : Int) < 200) = false := decide_eq_false (by omega)
      have h4 : decide ((150 : Int) < (n : Int)) = true := decide_eq_true (by omega)
      have HLT := Lib.hid (And.intro hlt h200)
      clear hi2 h200
      go_wp2_with fail
      (try go_ret)
      rw [HQ.out]
      exact ⟨true, rfl, (fun h => by cases h), Below.refl _ _⟩
    · have hge : ¬ i < n := by omega
      have hn2 : n ≤ 200 := by omega
      have HSN : Hid (∀ j, j < n → (L j).an.ps.length ≤ 1500) := by rw [← hEQ]; exact HS
      clear hEQ hi
      clear hn2
      by_cases h3 : 150 < n
      · have h4 : decide ((150 : Int) < (n : Int)) = true := decide_eq_true (by omega)
        clear h3
        go_wp2_with fail
        (try go_ret)
        rw [HQ.out]
        exact ⟨true, rfl, (fun h => by cases h), Below.refl _ _⟩
      · have h4 : decide ((150 : Int) < (n : Int)) = false := decide_eq_false (by omega)
        have H3 := Lib.hid h3
        clear h3
        go_wp2_with fail
        (try go_ret)
        rw [HQ.out]
        exact ⟨false, rfl, fun _ => ⟨by have := H3.out; omega, HSN.out⟩, Below.refl _ _⟩
end Go.Proofs.Ytilfgekiblpkaaa
