/- Layer 10: whether two states are the same, of the program. -/
import Derived.Test.YtkgfhomoipbjoaaDoorTxtD
namespace Go.Proofs.YtkgfhomoipbjoaaDoor
open Go.RowKit
set_option linter.unusedVariables false
set_option linter.unusedSimpArgs false
theorem eqSe_j {s t : Se} (h : s.j ≠ t.j) : eqSe s t = false := by
  cases e : eqSe s t
  · rfl
  · exact absurd (by rw [(eqSe_iff s t).1 e]) h
theorem eqSe_o {s t : Se} (h : s.o ≠ t.o) : eqSe s t = false := by
  cases e : eqSe s t
  · rfl
  · exact absurd (by rw [(eqSe_iff s t).1 e]) h
theorem eqSe_p {s t : Se} (h : s.pt ≠ t.pt) : eqSe s t = false := by
  cases e : eqSe s t
  · rfl
  · exact absurd (by rw [(eqSe_iff s t).1 e]) h
theorem eqSe_f (j o : Bool) (pt : Int) (f g : PL) : eqSe ⟨j, o, f, pt⟩ ⟨j, o, g, pt⟩ = sameB f g := by unfold eqSe; simp
def eqT (n m : Nat) (L M : Nat → Se) : Bool := decide (n = m) && (List.range n).all fun i => eqSe (L i) (M i)
theorem eqT_len {n m : Nat} (L M : Nat → Se) (h : n ≠ m) : eqT n m L M = false := by unfold eqT; simp [h]
theorem eqT_all {n : Nat} {L M : Nat → Se} (h : ∀ i, i < n → eqSe (L i) (M i) = true) : eqT n n L M = true := by
  unfold eqT; simp only [decide_true, Bool.true_and, List.all_eq_true, List.mem_range]; exact h
theorem eqT_not {n i : Nat} {L M : Nat → Se} (hi : i < n) (h : eqSe (L i) (M i) = false) : eqT n n L M = false := by
  cases e : eqT n n L M
  · rfl
  · unfold eqT at e
    simp only [decide_true, Bool.true_and, List.all_eq_true, List.mem_range] at e
    rw [e i hi] at h; cases h
theorem eqS_T (a b : Sm) : eqS a b = (sameB a.mp b.mp && eqT a.n b.n a.th b.th) := rfl
set_option maxHeartbeats 1000000 in
theorem msess (s t : Se) (fa fb : Value) (w : World) (ha : PR w fa s.fz) (hb : PR w fb t.fz) (hn : s.fz.length ≤ 90000) :
    Calls Tryd.prog 22 #[.agg #[.bool s.j, .bool s.o, fa, .int .i64 s.pt], .agg #[.bool t.j, .bool t.o, fb, .int .i64 t.pt]] w fun e w' => e = .returned (.bool (eqSe s t)) ∧ Below w.heap.size w w' := by
  refine Calls.veil fun Q HQ => ?_
  obtain ⟨p, c, rfl, _, _⟩ := ha.slice
  obtain ⟨q, d, rfl, _, _⟩ := hb.slice
  have HA := Lib.hid ha; have HB := Lib.hid hb; have HN := Lib.hid hn
  obtain ⟨j, o, f, x⟩ := s
  obtain ⟨k, u, g, y⟩ := t
  simp only at HA HB HN ⊢
  clear ha hb hn
  by_cases h1 : j = k
  · subst h1
    by_cases h2 : o = u
    · subst h2
      by_cases h3 : x = y
      · subst h3
        have HE := Lib.hid (eqSe_f j o x f g)
        go_enter Tryd.func22, Tryd.ntmps22
        go_upto_region 1 with fail
        generalize hV : World.alloc (World.alloc w _) _ = V
        have hbV : Below w.heap.size w V := by rw [← hV]; (repeat (first | exact Below.refl _ _ | assumption | refine below_new ?_ _ | refine Below.drew ?_ | refine below_drewN ?_ _ | refine below_on ?_ (by assumption)))
        have HBV := Lib.hid hbV
        have e : w.heap.size + 1 = (w.alloc (.cells #[.bool j, .bool o, .slice p f.length c, .int .i64 x] 60)).heap.size := by simp
        have x0 : V.cell? ⟨w.heap.size, 0, none⟩ = some (.bool j) := by rw [← hV]; exact Ext.made1 rfl 0 _ rfl ⟨_, Below.refl _ _⟩
        have x1 : V.cell? ⟨w.heap.size, 1, none⟩ = some (.bool o) := by rw [← hV]; exact Ext.made1 rfl 1 _ rfl ⟨_, Below.refl _ _⟩
        have x2 : V.cell? ⟨w.heap.size, 2, none⟩ = some (.slice p f.length c) := by rw [← hV]; exact Ext.made1 rfl 2 _ rfl ⟨_, Below.refl _ _⟩
        have x3 : V.cell? ⟨w.heap.size, 3, none⟩ = some (.int .i64 x) := by rw [← hV]; exact Ext.made1 rfl 3 _ rfl ⟨_, Below.refl _ _⟩
        have y0 : V.cell? ⟨w.heap.size + 1, 0, none⟩ = some (.bool j) := by rw [← hV, e]; exact Ext.made rfl 0 _ rfl ⟨_, Below.refl _ _⟩
        have y1 : V.cell? ⟨w.heap.size + 1, 1, none⟩ = some (.bool o) := by rw [← hV, e]; exact Ext.made rfl 1 _ rfl ⟨_, Below.refl _ _⟩
        have y2 : V.cell? ⟨w.heap.size + 1, 2, none⟩ = some (.slice q g.length d) := by rw [← hV, e]; exact Ext.made rfl 2 _ rfl ⟨_, Below.refl _ _⟩
        have y3 : V.cell? ⟨w.heap.size + 1, 3, none⟩ = some (.int .i64 x) := by rw [← hV, e]; exact Ext.made rfl 3 _ rfl ⟨_, Below.refl _ _⟩
        clear hV hbV e
        generalize w.heap.size + 1 = Q1 at *
        go_wp2_with fail
        refine (psame f g _ _ _ (HA.out.below HBV.out) (HB.out.below HBV.out) (by have := HN.out; omega)).mono ?_; rintro _ z ⟨rfl, hz⟩
        have HZ := Lib.hid (below_on HBV.out hz)
        clear hz
        go_wp2_with fail
        (try go_ret)
        rw [HQ.out, HE.out]
        exact ⟨rfl, HZ.out⟩
      · have HE := Lib.hid (eqSe_p (s := ⟨j, o, f, x⟩) (t := ⟨j, o, g, y⟩) h3)
        have h3' : (x == y) = false := by simpa using h3
        go_enter Tryd.func22, Tryd.ntmps22
        go_wp2_with fail
        (try go_ret)
        rw [HQ.out, HE.out]
        exact ⟨rfl, by (repeat (first | exact Below.refl _ _ | assumption | refine below_new ?_ _ | refine Below.drew ?_ | refine below_drewN ?_ _ | refine below_on ?_ (by assumption)))⟩
    · have HE := Lib.hid (eqSe_o (s := ⟨j, o, f, x⟩) (t := ⟨j, u, g, y⟩) h2)
      have h2' : (o == u) = false := by simpa using h2
      go_enter Tryd.func22, Tryd.ntmps22
      go_wp2_with fail
      (try go_ret)
      rw [HQ.out, HE.out]
      exact ⟨rfl, by (repeat (first | exact Below.refl _ _ | assumption | refine below_new ?_ _ | refine Below.drew ?_ | refine below_drewN ?_ _ | refine below_on ?_ (by assumption)))⟩
  · have HE := Lib.hid (eqSe_j (s := ⟨j, o, f, x⟩) (t := ⟨k, u, g, y⟩) h1)
    have h1' : (j == k) = false := by simpa using h1
    go_enter Tryd.func22, Tryd.ntmps22
    go_wp2_with fail
    (try go_ret)
    rw [HQ.out, HE.out]
    exact ⟨rfl, by (repeat (first | exact Below.refl _ _ | assumption | refine below_new ?_ _ | refine Below.drew ?_ | refine below_drewN ?_ _ | refine below_on ?_ (by assumption)))⟩
end Go.Proofs.YtkgfhomoipbjoaaDoor
