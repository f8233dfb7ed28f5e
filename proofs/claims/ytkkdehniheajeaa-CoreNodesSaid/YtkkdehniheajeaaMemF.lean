/- Layer 6: the reference's Do. -/
import Derived.Test.YtkkdehniheajeaaMemK
namespace Go.Proofs.Ytkkdehniheajeaa.Mm
open Go.RowKit
set_option linter.unusedVariables false
set_option linter.unusedSimpArgs false
theorem fault_facts {n : Nat} {f : Nat → Int} {k a c is old x : Int} (h : okD n k a c = false) : toldD n f k a = 0 ∧ doneD n f k a c is old = false ∧ nextD n f k a c is old x = f := by
  refine ⟨?_, ?_, by unfold nextD; rw [h]; simp⟩
  · unfold toldD
    split
    · rename_i hk
      unfold okD at h
      rw [if_pos (by omega)] at h
      unfold ldI; rw [h]; simp
    · rfl
  · unfold doneD
    unfold okD at h
    split
    · rename_i hk
      rw [if_pos hk] at h
      rw [h]; simp
    · rename_i hk
      rw [if_neg hk] at h
      rw [h]; simp
theorem fault_ways {n : Nat} {k a c : Int} (hO : okD n k a c = false) : (0 ≤ k ∧ k ≤ 4 ∧ a < 0) ∨ (0 ≤ k ∧ k ≤ 4 ∧ 0 ≤ a ∧ (n : Int) ≤ a) ∨ (k < 0 ∧ a < 0) ∨ (k < 0 ∧ 0 ≤ a ∧ (n : Int) ≤ a) ∨ (k < 0 ∧ 0 ≤ a ∧ a < n ∧ c < 0) ∨ (k < 0 ∧ 0 ≤ a ∧ a < n ∧ 0 ≤ c ∧ (n : Int) ≤ c) ∨
        (4 < k ∧ a < 0) ∨ (4 < k ∧ 0 ≤ a ∧ (n : Int) ≤ a) ∨ (4 < k ∧ 0 ≤ a ∧ a < n ∧ c < 0) ∨ (4 < k ∧ 0 ≤ a ∧ a < n ∧ 0 ≤ c ∧ (n : Int) ≤ c) := by
  unfold okD okA at hO
  have ha : a < 0 ∨ (0 ≤ a ∧ (n : Int) ≤ a) ∨ (0 ≤ a ∧ a < n) := by omega
  have hc : c < 0 ∨ (0 ≤ c ∧ (n : Int) ≤ c) ∨ (0 ≤ c ∧ c < n) := by omega
  by_cases hk : 0 ≤ k ∧ k ≤ 4
  · rw [if_pos hk] at hO
    have := of_decide_eq_false hO
    rcases ha with h | ⟨h, h'⟩ | ⟨h, h'⟩
    · exact .inl ⟨hk.1, hk.2, h⟩
    · exact .inr (.inl ⟨hk.1, hk.2, h, h'⟩)
    · exact absurd ⟨h, h'⟩ this
  · rw [if_neg hk] at hO
    have hh : ¬ ((0 ≤ c ∧ c < n) ∧ (0 ≤ a ∧ a < n)) := by
      rintro ⟨h1, h2⟩
      rw [decide_eq_true h1, decide_eq_true h2] at hO
      cases hO
    rcases (by omega : k < 0 ∨ 4 < k) with k0 | k0
    · rcases ha with h | ⟨h, h'⟩ | ⟨h, h'⟩
      · exact .inr (.inr (.inl ⟨k0, h⟩))
      · exact .inr (.inr (.inr (.inl ⟨k0, h, h'⟩)))
      · rcases hc with j | ⟨j, j'⟩ | ⟨j, j'⟩
        · exact .inr (.inr (.inr (.inr (.inl ⟨k0, h, h', j⟩))))
        · exact .inr (.inr (.inr (.inr (.inr (.inl ⟨k0, h, h', j, j'⟩)))))
        · exact absurd ⟨⟨j, j'⟩, ⟨h, h'⟩⟩ hh
    · rcases ha with h | ⟨h, h'⟩ | ⟨h, h'⟩
      · exact .inr (.inr (.inr (.inr (.inr (.inr (.inl ⟨k0, h⟩))))))
      · exact .inr (.inr (.inr (.inr (.inr (.inr (.inr (.inl ⟨k0, h, h'⟩)))))))
      · rcases hc with j | ⟨j, j'⟩ | ⟨j, j'⟩
        · exact .inr (.inr (.inr (.inr (.inr (.inr (.inr (.inr (.inl ⟨k0, h, h', j⟩))))))))
        · exact .inr (.inr (.inr (.inr (.inr (.inr (.inr (.inr (.inr ⟨k0, h, h', j, j'⟩))))))))
        · exact absurd ⟨⟨j, j'⟩, ⟨h, h'⟩⟩ hh
def RdoPost (w : World) (g n : Nat) (nf : Nat → Int) (acc : Int) (flt : Bool) (tv : Int) (dv : Bool) (e : Ending) (w' : World) : Prop :=
  ∃ g' C', (g' = g ∨ w.heap.size ≤ g') ∧ e = .returned (.tuple #[.agg #[.slice (some ⟨g', 0, none⟩) n C', .int .i64 acc, .bool flt], .int .u64 tv, .bool dv]) ∧ RowAt w' g' n nf ∧ n ≤ C' ∧ C' ≤ 9223372036854775807 ∧ Below w.heap.size w w'
theorem below_setB {B : Nat} {w W : World} (h : Below B w W) {b i : Nat} (hb : B ≤ b) (v : Value) : Below B w (W.setCell ⟨b, i, none⟩ v) := h.setCell (p := ⟨b, i, none⟩) hb v
theorem RowAt.setOther {w : World} {g n b i : Nat} {f : Nat → Int} (h : RowAt w g n f) (hb : g ≠ b) (v : Value) : RowAt (w.setCell ⟨b, i, none⟩ v) g n f :=
  h.keep (by simp [World.setCell]) (Below.heap_setCell _ _ _ _ hb)
theorem RowAt.store {w : World} {g n : Nat} {f : Nat → Int} (h : RowAt w g n f) {a : Nat} (ha : a < n) (x : Int) : RowAt (w.setCell ⟨g, a, none⟩ (.int .u64 x)) g n (upd f a x) where
  row i hi := by
    unfold upd
    by_cases e : i = a
    · subst e; rw [if_pos rfl]; exact scS (h.row _ hi)
    · rw [if_neg e]; exact scO (h.row i hi) (by simp <;> omega)
  fr i := scF (h.fr i)
  lt := by simpa [World.setCell] using h.lt

set_option maxHeartbeats 40000000 in
set_option maxRecDepth 100000 in
theorem rdoF (g n C : Nat) (f nf : Nat → Int) (acc k a c is old x tv : Int) (flt fv dv : Bool) (w : World) (h : RowAt w g n f) (n1 : 1 ≤ n) (n2 : n ≤ 4096) (nC : n ≤ C) (cC : C ≤ 9223372036854775807) (c0 : 0 ≤ acc) (c1 : acc < 4611686018427387904)
    (rng : ∀ i, i < n → 0 ≤ f i ∧ f i < 18446744073709551616) (x0 : 0 ≤ x) (x1 : x < 18446744073709551616) (HT : Hid (tv = toldD n f k a ∧ dv = doneD n f k a c is old ∧ nf = nextD n f k a c is old x ∧ fv = (flt || !okD n k a c))) (hO : okD n k a c = false) :
    Calls Try.prog 59 #[.agg #[.slice (some ⟨g, 0, none⟩) n C, .int .i64 acc, .bool flt], .agg #[.int .i64 k, .int .i64 a, .int .i64 c, .int .u64 is, .int .u64 old, .int .u64 x]] w (RdoPost w g n nf (acc + 1) fv tv dv) := by
  obtain ⟨i0, hi, hz0, hz1, hz2⟩ := info_parts info64
  have HR := Lib.hid rng
  clear rng
  go_enter Try.func59, Try.ntmps59
  go_upto_region 1 with (fail)
  generalize hU : World.alloc _ _ = U
  have hBU : Below w.heap.size w U := by rw [← hU]; (repeat (first | exact Below.refl _ _ | assumption | refine below_new ?_ _ | refine Below.drew ?_ | refine below_drewN ?_ _ | refine below_on ?_ (by assumption)))
  have hs : U.heap.size = w.heap.size + 1 + 1 + 1 := by rw [← hU]; simp
  have b1 : Below (w.heap.size + 1) (w.alloc (.cells #[.slice (some ⟨g, 0, none⟩) n C, .int .i64 acc, .bool flt] 46)) U := by
    rw [← hU, show w.heap.size + 1 = (w.alloc (.cells #[.slice (some ⟨g, 0, none⟩) n C, .int .i64 acc, .bool flt] 46)).heap.size by simp]; (repeat (first | exact Below.refl _ _ | assumption | refine below_new ?_ _ | refine Below.drew ?_ | refine below_drewN ?_ _ | refine below_on ?_ (by assumption)))
  have b2 : Below (w.heap.size + 1 + 1) ((w.alloc (.cells #[.slice (some ⟨g, 0, none⟩) n C, .int .i64 acc, .bool flt] 46)).alloc (.cells #[.int .i64 k, .int .i64 a, .int .i64 c, .int .u64 is, .int .u64 old, .int .u64 x] 118)) U := by
    rw [← hU]; exact (Below.refl _ _).alloc (by simp) _
  have e1 : (w.alloc (.cells #[.slice (some ⟨g, 0, none⟩) n C, .int .i64 acc, .bool flt] 46)).heap.size = w.heap.size + 1 := by simp
  have e2 : ((w.alloc (.cells #[.slice (some ⟨g, 0, none⟩) n C, .int .i64 acc, .bool flt] 46)).alloc (.cells #[.int .i64 k, .int .i64 a, .int .i64 c, .int .u64 is, .int .u64 old, .int .u64 x] 118)).heap.size = w.heap.size + 1 + 1 := by simp
  have m0 : U.cell? ⟨w.heap.size, 0, none⟩ = some (.slice (some ⟨g, 0, none⟩) n C) := Ext.made_in rfl (by rw [e1]; exact b1) 0 _ rfl
  have m1 : U.cell? ⟨w.heap.size, 1, none⟩ = some (.int .i64 acc) := Ext.made_in rfl (by rw [e1]; exact b1) 1 _ rfl
  have m2 : U.cell? ⟨w.heap.size, 2, none⟩ = some (.bool flt) := Ext.made_in rfl (by rw [e1]; exact b1) 2 _ rfl
  have mf : ∀ i, U.frozen? ⟨w.heap.size, i, none⟩ = false := Ext.made_fr rfl (by rw [e1]; exact b1)
  have p0 : U.cell? ⟨w.heap.size + 1, 0, none⟩ = some (.int .i64 k) := by rw [← e1]; exact Ext.made_in rfl (by rw [e2]; exact b2) 0 _ rfl
  have p1 : U.cell? ⟨w.heap.size + 1, 1, none⟩ = some (.int .i64 a) := by rw [← e1]; exact Ext.made_in rfl (by rw [e2]; exact b2) 1 _ rfl
  have p2 : U.cell? ⟨w.heap.size + 1, 2, none⟩ = some (.int .i64 c) := by rw [← e1]; exact Ext.made_in rfl (by rw [e2]; exact b2) 2 _ rfl
  have p3 : U.cell? ⟨w.heap.size + 1, 3, none⟩ = some (.int .u64 is) := by rw [← e1]; exact Ext.made_in rfl (by rw [e2]; exact b2) 3 _ rfl
  have p4 : U.cell? ⟨w.heap.size + 1, 4, none⟩ = some (.int .u64 old) := by rw [← e1]; exact Ext.made_in rfl (by rw [e2]; exact b2) 4 _ rfl
  have p5 : U.cell? ⟨w.heap.size + 1, 5, none⟩ = some (.int .u64 x) := by rw [← e1]; exact Ext.made_in rfl (by rw [e2]; exact b2) 5 _ rfl
  have q0 : U.cell? ⟨w.heap.size + 1 + 1, 0, none⟩ = some (.slice none 0 0) := by rw [← e2]; exact Ext.made_in hU (Below.refl _ _) 0 _ rfl
  have q1 : U.cell? ⟨w.heap.size + 1 + 1, 1, none⟩ = some (.int .i64 0) := by rw [← e2]; exact Ext.made_in hU (Below.refl _ _) 1 _ rfl
  have q2 : U.cell? ⟨w.heap.size + 1 + 1, 2, none⟩ = some (.bool false) := by rw [← e2]; exact Ext.made_in hU (Below.refl _ _) 2 _ rfl
  have qf : ∀ i, U.frozen? ⟨w.heap.size + 1 + 1, i, none⟩ = false := by rw [← e2]; exact Ext.made_fr hU (Below.refl _ _)
  have hg : g < w.heap.size := h.lt
  have hRU : RowAt U g n f := h.below hBU
  have hgB : g ≠ w.heap.size := Nat.ne_of_lt hg
  have hgB1 : g ≠ w.heap.size + 1 := Nat.ne_of_lt (Nat.lt_succ_of_lt hg)
  have hgB2 : g ≠ w.heap.size + 1 + 1 := Nat.ne_of_lt (Nat.lt_succ_of_lt (Nat.lt_succ_of_lt hg))
  have hBB2 : w.heap.size ≤ w.heap.size + 1 + 1 := Nat.le_add_right _ 2
  clear hU b1 b2 e1 e2 h
  generalize hB : w.heap.size = B at *
  have HS := Lib.hid hs; have HBw := Lib.hid hB
  have HRU := Lib.hid hRU
  clear hs hB hRU
  · obtain ⟨t1, t2, t3⟩ := fault_facts (f := f) (is := is) (old := old) (x := x) hO
    have HF := Lib.hid (And.intro t1 (And.intro t2 (And.intro t3 hO)))
    have hways := fault_ways hO
    clear t1 t2 t3 hO
    rcases hways with ⟨j1, j2, j3⟩ | ⟨j1, j2, j3, j4⟩ | ⟨j1, j2⟩ | ⟨j1, j2, j3⟩ | ⟨j1, j2, j3, j4⟩ | ⟨j1, j2, j3, j4, j5⟩ | ⟨j1, j2⟩ | ⟨j1, j2, j3⟩ | ⟨j1, j2, j3, j4⟩ | ⟨j1, j2, j3, j4, j5⟩
    all_goals
      go_wp2_with fail
      refine bodyPost_ret (v := .tuple #[.agg #[.slice (some ⟨g, 0, none⟩) n C, .int .i64 (acc + 1), .bool true], .int .u64 0, .bool false]) (by simp [results, Try.results59, go_sem, m0, m1, m2, q0, q1, q2, World.cell?_setCell_same, World.cell?_setCell_other]) rfl ?_
      obtain ⟨t1, t2, t3, t4⟩ := HF.out
      obtain ⟨r1, r2, r3, r4⟩ := HT.out
      subst r1; subst r2; subst r3; subst r4
      have hbw := HBw.out
      refine ⟨g, C, .inl rfl, by rw [t1, t2, t4]; simp, ?_, nC, cC, ?_⟩
      · rw [t3]
        repeat' (first | with_reducible exact HRU.out | with_reducible refine RowAt.setOther ?_ hgB _ | with_reducible refine RowAt.setOther ?_ hgB2 _)
      · rw [hbw]
        repeat' (first | with_reducible exact hBU | with_reducible refine below_setB ?_ (Nat.le_refl _) _ | with_reducible refine below_setB ?_ hBB2 _)
end Go.Proofs.Ytkkdehniheajeaa.Mm
