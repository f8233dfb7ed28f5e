/- Layer 11: hist.Each: the iterator that it makes. -/
import Derived.Test.YtmnmomiheenmpaaHisO
namespace Go.Proofs.Ytmnmomiheenmpaa
open Go.RowKit
set_option linter.unusedVariables false
set_option linter.unusedSimpArgs false
def allO (L : Nat → Ev) (n : Nat) : List Opr := if mayH L n then (stO L n).1 else []
theorem hopersA (n : Nat) (L : Nat → Ev) (v : Value) (w : World) (h : VR w v n L) (hn : n ≤ 1000) (hpl : ∀ i, i < n → (L i).an.ps.length ≤ 100000) : Calls Try.prog 8 #[v] w fun e w' => ∃ (v' : Value) (l : List (Opr × Value)), e = .returned v' ∧ l.map (·.1) = allO L n ∧ OwnO w' w.heap.size v' l ∧ (∀ x ∈ l, PO w' x.2 x.1.an.ps) ∧ Below w.heap.size w w' := by
  cases hm : mayH L n with
  | true =>
    refine (hopers n L v w h hn hpl hm).mono ?_
    rintro _ w' ⟨v', l, rfl, h1, h2⟩
    exact ⟨v', l, rfl, by unfold allO; rw [hm]; exact h1, h2⟩
  | false =>
    refine (hopers0 n L v w h hn hm).mono ?_
    rintro _ w' ⟨rfl, hb⟩
    exact ⟨_, [], rfl, by unfold allO; rw [hm]; rfl, ⟨rfl, .inl ⟨rfl, rfl⟩⟩, by simp, hb⟩
set_option maxHeartbeats 1000000 in
theorem heach (n : Nat) (L : Nat → Ev) (th : Int) (v : Value) (w : World) (h : VR w v n L) (hn : n ≤ 1000) (hpl : ∀ i, i < n → (L i).an.ps.length ≤ 100000) : Calls Try.prog 16 #[v, .int .i64 th] w fun e w' => ∃ (b q : Nat) (ov : Value) (l : List (Opr × Value)), e = .returned (.func (.func 21) #[] #[.pointer (some ⟨b, 0, none⟩), .pointer (some ⟨q, 0, none⟩)]) ∧ w'.cell? ⟨q, 0, none⟩ = some (.int .i64 th) ∧ w'.cell? ⟨b, 0, none⟩ = some ov ∧ w.heap.size ≤ q ∧ q < w'.heap.size ∧ w.heap.size ≤ b ∧ b < w'.heap.size ∧ l.map (·.1) = allO L n ∧ OwnO w' w.heap.size ov l ∧ (∀ x ∈ l, PO w' x.2 x.1.an.ps) ∧ Below w.heap.size w w' := by
  refine Calls.veil fun Q HQ => ?_
  have HV := Lib.hid h
  obtain ⟨p, c, rfl, a1, a2, A3⟩ := h.parts
  have HO := Lib.hid (fun W (hb : Below w.heap.size w W) => hopersA n L _ W (HV.out.below hb) hn hpl)
  clear h hn hpl
  go_enter Try.func16, Try.ntmps16
  go_upto_region 1 with fail
  generalize hV : World.alloc w _ = V
  have HBV := Lib.hid (show Below w.heap.size w V by rw [← hV]; (repeat (first | exact Below.refl _ _ | assumption | refine below_new ?_ _ | refine Below.drew ?_ | refine below_drewN ?_ _ | refine below_on ?_ (by assumption))))
  have HSV := Lib.hid (show V.heap.size = w.heap.size + 1 by rw [← hV]; simp)
  have y0 : V.cell? ⟨w.heap.size, 0, none⟩ = some (.int .i64 th) := Ext.made hV 0 _ rfl ⟨V, Below.refl _ _⟩
  clear hV
  go_wp2_with fail
  refine (HO.out _ HBV.out).mono ?_; rintro _ w1 ⟨ov, l, rfl, hl, ho, hp, hb⟩
  have HB := Lib.hid hb
  have HB1 := Lib.hid (below_on HBV.out hb)
  have y1 := Ext.cell ⟨w1, hb⟩ y0
  simp only at y1
  have HL := Lib.hid hl
  have HOW := Lib.hid ho
  have HP := Lib.hid hp
  obtain ⟨p1, c1, rfl, d1, d2⟩ := own_sliceQ ho
  clear hb hl ho hp y0
  go_wp2_with fail
  (try go_ret)
  rw [HQ.out]
  refine ⟨_, _, _, l, rfl, Ext.on y1 _, ?_, Nat.le_refl _, ?_, ?_, ?_, HL.out, own_lowO (own_keptO HOW.out ((Below.refl _ _).alloc (Nat.le_refl _) _)) (by have := HSV.out; omega), fun x hx => (HP.out x hx).np (NP.alloc _ _), HB1.out.alloc HB1.out.size _⟩
  · rw [cell_of_row _ _ _ _ _ (0, 0) (heap_alloc_new w1 _)]; rfl
  · have := HSV.out; have := HB.out.size; simp; omega
  · exact HB1.out.size
  · simp
end Go.Proofs.Ytmnmomiheenmpaa
