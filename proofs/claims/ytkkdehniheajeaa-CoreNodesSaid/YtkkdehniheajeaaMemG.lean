/- Layer 6: the reference's Do, in place. -/
import Derived.Test.YtkkdehniheajeaaMemF
namespace Go.Proofs.Ytkkdehniheajeaa.Mm
open Go.RowKit
set_option linter.unusedVariables false
set_option linter.unusedSimpArgs false

theorem Ext.mono_h {W : World} {B : Nat} (x : Ext W) (h : B ≤ W.heap.size) : Below B W x.w := x.h.mono h
set_option maxHeartbeats 40000000 in
set_option maxRecDepth 100000 in
theorem rdoK (g n C : Nat) (f nf : Nat → Int) (acc k a c is old x tv : Int) (flt fv dv : Bool) (w : World) (h : RowAt w g n f) (n1 : 1 ≤ n) (n2 : n ≤ 4096) (nC : n ≤ C) (cC : C ≤ 9223372036854775807) (c0 : 0 ≤ acc) (c1 : acc < 4611686018427387904)
    (rng : ∀ i, i < n → 0 ≤ f i ∧ f i < 18446744073709551616) (x0 : 0 ≤ x) (x1 : x < 18446744073709551616) (HT : Hid (tv = toldD n f k a ∧ dv = doneD n f k a c is old ∧ nf = nextD n f k a c is old x ∧ fv = (flt || !okD n k a c))) (hO : okD n k a c = true) :
    Calls Try.prog 59 #[.agg #[.slice (some ⟨g, 0, none⟩) n C, .int .i64 acc, .bool flt], .agg #[.int .i64 k, .int .i64 a, .int .i64 c, .int .u64 is, .int .u64 old, .int .u64 x]] w (RdoPost w g n nf (acc + 1) fv tv dv) := by
  obtain ⟨i0, hi, hz0, hz1, hz2⟩ := info_parts info64
  have HR := Lib.hid rng
  clear rng
  go_enter Try.func59, Try.ntmps59
  go_upto_region 1 with (fail)
  generalize hU : World.alloc _ _ = U
  have hBU : Below w.heap.size w U := by rw [← hU]; (repeat (first | exact Below.refl _ _ | assumption | refine below_new ?_ _ | refine Below.drew ?_ | refine below_drewN ?_ _ | refine below_on ?_ (by assumption)))
  have hs : U.heap.size = w.heap.size + 1 + 1 + 1 := by rw [← hU]; simp
  have b1 : Below (w.heap.size + 1) (w.alloc (.cells #[.slice (some ⟨g, 0, none⟩) n C, .int .i64 acc, .bool flt] 46)) U := by
    rw [← hU, show w.heap.size + 1 = (w.alloc (.cells #[.slice (some ⟨g, 0, none⟩) n C, .int .i64 acc, .bool flt] 46)).heap.size by simp]; (repeat (first | exact Below.refl _ _ | assumption | refine below_new ?_ _ | refine Below.drew ?_ | refine below_drewN ?_ _ | refine below_on ?_ (by assumption)))
  have b2 : Below (w.heap.size + 1 + 1) ((w.alloc (.cells #[.slice (some ⟨g, 0, none⟩) n C, .int .i64 acc, .bool flt] 46)).alloc (.cells #[.int .i64 k, .int .i64 a, .int .i64 c, .int .u64 is, .int .u64 old, .int .u64 x] 118)) U := by
    rw [← hU]; exact (Below.refl _ _).alloc (by simp) _
  have e1 : (w.alloc (.cells #[.slice (some ⟨g, 0, none⟩) n C, .int .i64 acc, .bool flt] 46)).heap.size = w.heap.size + 1 := by simp
  have e2 : ((w.alloc (.cells #[.slice (some ⟨g, 0, none⟩) n C, .int .i64 acc, .bool flt] 46)).alloc (.cells #[.int .i64 k, .int .i64 a, .int .i64 c, .int .u64 is, .int .u64 old, .int .u64 x] 118)).heap.size = w.heap.size + 1 + 1 := by simp
  have m0 : U.cell? ⟨w.heap.size, 0, none⟩ = some (.slice (some ⟨g, 0, none⟩) n C) := Ext.made_in rfl (by rw [e1]; exact b1) 0 _ rfl
  have m1 : U.cell? ⟨w.heap.size, 1, none⟩ = some (.int .i64 acc) := Ext.made_in rfl (by rw [e1]; exact b1) 1 _ rfl
  have m2 : U.cell? ⟨w.heap.size, 2, none⟩ = some (.bool flt) := Ext.made_in rfl (by rw [e1]; exact b1) 2 _ rfl
  have mf : ∀ i, U.frozen? ⟨w.heap.size, i, none⟩ = false := Ext.made_fr rfl (by rw [e1]; exact b1)
  have p0 : U.cell? ⟨w.heap.size + 1, 0, none⟩ = some (.int .i64 k) := by rw [← e1]; exact Ext.made_in rfl (by rw [e2]; exact b2) 0 _ rfl
  have p1 : U.cell? ⟨w.heap.size + 1, 1, none⟩ = some (.int .i64 a) := by rw [← e1]; exact Ext.made_in rfl (by rw [e2]; exact b2) 1 _ rfl
  have p2 : U.cell? ⟨w.heap.size + 1, 2, none⟩ = some (.int .i64 c) := by rw [← e1]; exact Ext.made_in rfl (by rw [e2]; exact b2) 2 _ rfl
  have p3 : U.cell? ⟨w.heap.size + 1, 3, none⟩ = some (.int .u64 is) := by rw [← e1]; exact Ext.made_in rfl (by rw [e2]; exact b2) 3 _ rfl
  have p4 : U.cell? ⟨w.heap.size + 1, 4, none⟩ = some (.int .u64 old) := by rw [← e1]; exact Ext.made_in rfl (by rw [e2]; exact b2) 4 _ rfl
  have p5 : U.cell? ⟨w.heap.size + 1, 5, none⟩ = some (.int .u64 x) := by rw [← e1]; exact Ext.made_in rfl (by rw [e2]; exact b2) 5 _ rfl
  have q0 : U.cell? ⟨w.heap.size + 1 + 1, 0, none⟩ = some (.slice none 0 0) := by rw [← e2]; exact Ext.made_in hU (Below.refl _ _) 0 _ rfl
  have q1 : U.cell? ⟨w.heap.size + 1 + 1, 1, none⟩ = some (.int .i64 0) := by rw [← e2]; exact Ext.made_in hU (Below.refl _ _) 1 _ rfl
  have q2 : U.cell? ⟨w.heap.size + 1 + 1, 2, none⟩ = some (.bool false) := by rw [← e2]; exact Ext.made_in hU (Below.refl _ _) 2 _ rfl
  have qf : ∀ i, U.frozen? ⟨w.heap.size + 1 + 1, i, none⟩ = false := by rw [← e2]; exact Ext.made_fr hU (Below.refl _ _)
  have hg : g < w.heap.size := h.lt
  have hRU : RowAt U g n f := h.below hBU
  have hgB : g ≠ w.heap.size := Nat.ne_of_lt hg
  have hgB1 : g ≠ w.heap.size + 1 := Nat.ne_of_lt (Nat.lt_succ_of_lt hg)
  have hgB2 : g ≠ w.heap.size + 1 + 1 := Nat.ne_of_lt (Nat.lt_succ_of_lt (Nat.lt_succ_of_lt hg))
  have hBB2 : w.heap.size ≤ w.heap.size + 1 + 1 := Nat.le_add_right _ 2
  clear hU b1 b2 e1 e2 h
  generalize hB : w.heap.size = B at *
  have HS := Lib.hid hs; have HBw := Lib.hid hB
  have HRU := Lib.hid hRU
  clear hs hB hRU
  rcases (by omega : k = 0 ∨ k = 1 ∨ k = 2 ∨ k = 3 ∨ k = 4 ∨ k < 0 ∨ 4 < k) with rfl | rfl | rfl | rfl | rfl | hk | hk
  · have hk1 : okA n a = true := by simpa [okD] using hO
    obtain ⟨j1, j2⟩ := okA_true hk1
    obtain ⟨aa, rfl⟩ := Int.eq_ofNat_of_zero_le j1
    have ha : aa < n := by omega
    have HO := Lib.hid hO; have HK1 := Lib.hid hk1
    clear hO hk1 j1
    go_upto_region 6 with (fail)
    generalize hU1 : World.setCell U _ _ = U1
    have m0 : U1.cell? ⟨B, 0, none⟩ = some (.slice (some ⟨g, 0, none⟩) n C) := by rw [← hU1]; exact scO m0 (by simp)
    have m1 : U1.cell? ⟨B, 1, none⟩ = some (.int .i64 (acc + 1)) := by rw [← hU1]; exact scS m1
    have m2 : U1.cell? ⟨B, 2, none⟩ = some (.bool flt) := by rw [← hU1]; exact scO m2 (by simp)
    have mf : ∀ i, U1.frozen? ⟨B, i, none⟩ = false := fun i => by rw [← hU1]; exact scF (mf i)
    have p0 : U1.cell? ⟨B + 1, 0, none⟩ = some (.int .i64 0) := by rw [← hU1]; exact scO p0 (by simp)
    have p1 : U1.cell? ⟨B + 1, 1, none⟩ = some (.int .i64 aa) := by rw [← hU1]; exact scO p1 (by simp)
    have p2 : U1.cell? ⟨B + 1, 2, none⟩ = some (.int .i64 c) := by rw [← hU1]; exact scO p2 (by simp)
    have p3 : U1.cell? ⟨B + 1, 3, none⟩ = some (.int .u64 is) := by rw [← hU1]; exact scO p3 (by simp)
    have p4 : U1.cell? ⟨B + 1, 4, none⟩ = some (.int .u64 old) := by rw [← hU1]; exact scO p4 (by simp)
    have p5 : U1.cell? ⟨B + 1, 5, none⟩ = some (.int .u64 x) := by rw [← hU1]; exact scO p5 (by simp)
    have q0 : U1.cell? ⟨B + 1 + 1, 0, none⟩ = some (.slice none 0 0) := by rw [← hU1]; exact scO q0 (by simp)
    have q1 : U1.cell? ⟨B + 1 + 1, 1, none⟩ = some (.int .i64 0) := by rw [← hU1]; exact scO q1 (by simp)
    have q2 : U1.cell? ⟨B + 1 + 1, 2, none⟩ = some (.bool false) := by rw [← hU1]; exact scO q2 (by simp)
    have qf : ∀ i, U1.frozen? ⟨B + 1 + 1, i, none⟩ = false := fun i => by rw [← hU1]; exact scF (qf i)
    have hs1 : U1.heap.size = B + 1 + 1 + 1 := by rw [← hU1, ← HS.out]; simp [World.setCell]
    have hB1 : Below B w U1 := by rw [← hU1]; exact below_setB hBU (Nat.le_refl _) _
    have hR1 : RowAt U1 g n f := by rw [← hU1]; exact HRU.out.setOther hgB _
    have h' : ∀ i, i < n → (U1.alloc (.cells #[] 22)).cell? ⟨g, i, none⟩ = some (.int .u64 (f i)) := fun i hi => Ext.on (hR1.row i hi) _
    have hBl : B < U1.heap.size := by omega
    have H' := Lib.hid h'; have HS1 := Lib.hid hs1
    clear hU1 h' hs1 hR1 HRU HS hBU
    go_wp2_with (at_builtin; refine wpList_append_own _ rfl (.tmp 52) (.tmp 54) 44 rfl U1.heap.size 22 i0 _ 1 8 u64s hi hz0 hz1 hz2 rfl (by decide) _ _ _ rfl (own_none U1) ⟨g, 0, none⟩ n C (wordsL n f) rfl (by rw [wordsL_len]; omega) (news_words H'.out) (one_words n f) (by unfold maxLen; omega) (by omega) (by simp) ?_)
    intro v1 w1 hown hgrow _
    try simp only [Nat.zero_add, List.nil_append] at hown
    have hb := grow0 hgrow
    obtain ⟨g', C', rfl, hge, hnC, hC, hR⟩ := own_words hown n1
    clear hown hgrow hBl
    have m0 := Ext.use (Ext.cells m0) hb
    have m1 := Ext.use (Ext.cells m1) hb
    have m2 := Ext.use (Ext.cells m2) hb
    have p0 := Ext.use (Ext.cells p0) hb
    have p1 := Ext.use (Ext.cells p1) hb
    have p2 := Ext.use (Ext.cells p2) hb
    have p3 := Ext.use (Ext.cells p3) hb
    have p4 := Ext.use (Ext.cells p4) hb
    have p5 := Ext.use (Ext.cells p5) hb
    have q0 := Ext.use (Ext.cells q0) hb
    have q1 := Ext.use (Ext.cells q1) hb
    have q2 := Ext.use (Ext.cells q2) hb
    have mf : ∀ i, w1.frozen? ⟨B, i, none⟩ = false := fun i => (hb.frozen (p := ⟨B, i, none⟩) (by have := HS1.out; simp; omega)).trans (mf i)
    have qf : ∀ i, w1.frozen? ⟨B + 1 + 1, i, none⟩ = false := fun i => (hb.frozen (p := ⟨B + 1 + 1, i, none⟩) (by have := HS1.out; simp; omega)).trans (qf i)
    have hBw1 : Below B w w1 := hB1.trans (hb.mono (by have := HS1.out; omega))
    have gB : g' ≠ B := by have := HS1.out; omega
    have gB1 : g' ≠ B + 1 := by have := HS1.out; omega
    have gB2 : g' ≠ B + 1 + 1 := by have := HS1.out; omega
    have gBB : B ≤ g' := by have := HS1.out; omega
    have gB' := gB.symm; have gB1' := gB1.symm; have gB2' := gB2.symm
    have ra := hR.row aa ha; have gf := hR.fr
    have HRR := Lib.hid hR
    clear hb hB1 hR hge
    · go_wp2_with fail
      refine bodyPost_ret (v := .tuple #[.agg #[.slice (some ⟨g', 0, none⟩) n C', .int .i64 (acc + 1), .bool flt], .int .u64 (f aa), .bool (false)]) (by simp [results, Try.results59, go_sem, m0, m1, m2, q0, q1, q2, World.cell?_setCell_same, World.cell?_setCell_other, gB, gB1, gB2, gB', gB1', gB2']) rfl ?_
      obtain ⟨r1, r2, r3, r4⟩ := HT.out
      subst r1; subst r2; subst r3; subst r4
      have hbw := HBw.out
      refine ⟨g', C', .inr (by rw [hbw]; exact gBB), by rw [HO.out]; simp [toldD, doneD, ldI, HK1.out], ?_, hnC, hC, ?_⟩
      · have hn : nextD n f 0 aa c is old x = f := by simp [nextD, HO.out, doneD, HK1.out]
        rw [hn]
        repeat' (first | with_reducible refine RowAt.setOther ?_ gB _ | with_reducible refine RowAt.setOther ?_ gB2 _)
        exact HRR.out
      · rw [hbw]
        repeat' (first | with_reducible exact hBw1 | with_reducible refine below_setB ?_ (Nat.le_refl _) _ | with_reducible refine below_setB ?_ hBB2 _ | with_reducible refine below_setB ?_ gBB _)
  · have hk1 : okA n a = true := by simpa [okD] using hO
    obtain ⟨j1, j2⟩ := okA_true hk1
    obtain ⟨aa, rfl⟩ := Int.eq_ofNat_of_zero_le j1
    have ha : aa < n := by omega
    have HO := Lib.hid hO; have HK1 := Lib.hid hk1
    clear hO hk1 j1
    go_upto_region 6 with (fail)
    generalize hU1 : World.setCell U _ _ = U1
    have m0 : U1.cell? ⟨B, 0, none⟩ = some (.slice (some ⟨g, 0, none⟩) n C) := by rw [← hU1]; exact scO m0 (by simp)
    have m1 : U1.cell? ⟨B, 1, none⟩ = some (.int .i64 (acc + 1)) := by rw [← hU1]; exact scS m1
    have m2 : U1.cell? ⟨B, 2, none⟩ = some (.bool flt) := by rw [← hU1]; exact scO m2 (by simp)
    have mf : ∀ i, U1.frozen? ⟨B, i, none⟩ = false := fun i => by rw [← hU1]; exact scF (mf i)
    have p0 : U1.cell? ⟨B + 1, 0, none⟩ = some (.int .i64 1) := by rw [← hU1]; exact scO p0 (by simp)
    have p1 : U1.cell? ⟨B + 1, 1, none⟩ = some (.int .i64 aa) := by rw [← hU1]; exact scO p1 (by simp)
    have p2 : U1.cell? ⟨B + 1, 2, none⟩ = some (.int .i64 c) := by rw [← hU1]; exact scO p2 (by simp)
    have p3 : U1.cell? ⟨B + 1, 3, none⟩ = some (.int .u64 is) := by rw [← hU1]; exact scO p3 (by simp)
    have p4 : U1.cell? ⟨B + 1, 4, none⟩ = some (.int .u64 old) := by rw [← hU1]; exact scO p4 (by simp)
    have p5 : U1.cell? ⟨B + 1, 5, none⟩ = some (.int .u64 x) := by rw [← hU1]; exact scO p5 (by simp)
    have q0 : U1.cell? ⟨B + 1 + 1, 0, none⟩ = some (.slice none 0 0) := by rw [← hU1]; exact scO q0 (by simp)
    have q1 : U1.cell? ⟨B + 1 + 1, 1, none⟩ = some (.int .i64 0) := by rw [← hU1]; exact scO q1 (by simp)
    have q2 : U1.cell? ⟨B + 1 + 1, 2, none⟩ = some (.bool false) := by rw [← hU1]; exact scO q2 (by simp)
    have qf : ∀ i, U1.frozen? ⟨B + 1 + 1, i, none⟩ = false := fun i => by rw [← hU1]; exact scF (qf i)
    have hs1 : U1.heap.size = B + 1 + 1 + 1 := by rw [← hU1, ← HS.out]; simp [World.setCell]
    have hB1 : Below B w U1 := by rw [← hU1]; exact below_setB hBU (Nat.le_refl _) _
    have hR1 : RowAt U1 g n f := by rw [← hU1]; exact HRU.out.setOther hgB _
    have h' : ∀ i, i < n → (U1.alloc (.cells #[] 22)).cell? ⟨g, i, none⟩ = some (.int .u64 (f i)) := fun i hi => Ext.on (hR1.row i hi) _
    have hBl : B < U1.heap.size := by omega
    have H' := Lib.hid h'; have HS1 := Lib.hid hs1
    clear hU1 h' hs1 hR1 HRU HS hBU
    go_wp2_with (at_builtin; refine wpList_append_own _ rfl (.tmp 52) (.tmp 54) 44 rfl U1.heap.size 22 i0 _ 1 8 u64s hi hz0 hz1 hz2 rfl (by decide) _ _ _ rfl (own_none U1) ⟨g, 0, none⟩ n C (wordsL n f) rfl (by rw [wordsL_len]; omega) (news_words H'.out) (one_words n f) (by unfold maxLen; omega) (by omega) (by simp) ?_)
    intro v1 w1 hown hgrow _
    try simp only [Nat.zero_add, List.nil_append] at hown
    have hb := grow0 hgrow
    obtain ⟨g', C', rfl, hge, hnC, hC, hR⟩ := own_words hown n1
    clear hown hgrow hBl
    have m0 := Ext.use (Ext.cells m0) hb
    have m1 := Ext.use (Ext.cells m1) hb
    have m2 := Ext.use (Ext.cells m2) hb
    have p0 := Ext.use (Ext.cells p0) hb
    have p1 := Ext.use (Ext.cells p1) hb
    have p2 := Ext.use (Ext.cells p2) hb
    have p3 := Ext.use (Ext.cells p3) hb
    have p4 := Ext.use (Ext.cells p4) hb
    have p5 := Ext.use (Ext.cells p5) hb
    have q0 := Ext.use (Ext.cells q0) hb
    have q1 := Ext.use (Ext.cells q1) hb
    have q2 := Ext.use (Ext.cells q2) hb
    have mf : ∀ i, w1.frozen? ⟨B, i, none⟩ = false := fun i => (hb.frozen (p := ⟨B, i, none⟩) (by have := HS1.out; simp; omega)).trans (mf i)
    have qf : ∀ i, w1.frozen? ⟨B + 1 + 1, i, none⟩ = false := fun i => (hb.frozen (p := ⟨B + 1 + 1, i, none⟩) (by have := HS1.out; simp; omega)).trans (qf i)
    have hBw1 : Below B w w1 := hB1.trans (hb.mono (by have := HS1.out; omega))
    have gB : g' ≠ B := by have := HS1.out; omega
    have gB1 : g' ≠ B + 1 := by have := HS1.out; omega
    have gB2 : g' ≠ B + 1 + 1 := by have := HS1.out; omega
    have gBB : B ≤ g' := by have := HS1.out; omega
    have gB' := gB.symm; have gB1' := gB1.symm; have gB2' := gB2.symm
    have ra := hR.row aa ha; have gf := hR.fr
    have HRR := Lib.hid hR
    clear hb hB1 hR hge
    · go_wp2_with fail
      refine bodyPost_ret (v := .tuple #[.agg #[.slice (some ⟨g', 0, none⟩) n C', .int .i64 (acc + 1), .bool flt], .int .u64 (0), .bool (false)]) (by simp [results, Try.results59, go_sem, m0, m1, m2, q0, q1, q2, World.cell?_setCell_same, World.cell?_setCell_other, gB, gB1, gB2, gB', gB1', gB2']) rfl ?_
      obtain ⟨r1, r2, r3, r4⟩ := HT.out
      subst r1; subst r2; subst r3; subst r4
      have hbw := HBw.out
      refine ⟨g', C', .inr (by rw [hbw]; exact gBB), by rw [HO.out]; simp [toldD, doneD, ldI, HK1.out], ?_, hnC, hC, ?_⟩
      · have hn : nextD n f 1 aa c is old x = upd f aa x := by simp [nextD, HO.out, doneD, HK1.out]
        rw [hn]
        repeat' (first | with_reducible refine RowAt.setOther ?_ gB _ | with_reducible refine RowAt.setOther ?_ gB2 _)
        exact HRR.out.store ha _
      · rw [hbw]
        repeat' (first | with_reducible exact hBw1 | with_reducible refine below_setB ?_ (Nat.le_refl _) _ | with_reducible refine below_setB ?_ hBB2 _ | with_reducible refine below_setB ?_ gBB _)
  · have hk1 : okA n a = true := by simpa [okD] using hO
    obtain ⟨j1, j2⟩ := okA_true hk1
    obtain ⟨aa, rfl⟩ := Int.eq_ofNat_of_zero_le j1
    have ha : aa < n := by omega
    have HO := Lib.hid hO; have HK1 := Lib.hid hk1
    clear hO hk1 j1
    go_upto_region 6 with (fail)
    generalize hU1 : World.setCell U _ _ = U1
    have m0 : U1.cell? ⟨B, 0, none⟩ = some (.slice (some ⟨g, 0, none⟩) n C) := by rw [← hU1]; exact scO m0 (by simp)
    have m1 : U1.cell? ⟨B, 1, none⟩ = some (.int .i64 (acc + 1)) := by rw [← hU1]; exact scS m1
    have m2 : U1.cell? ⟨B, 2, none⟩ = some (.bool flt) := by rw [← hU1]; exact scO m2 (by simp)
    have mf : ∀ i, U1.frozen? ⟨B, i, none⟩ = false := fun i => by rw [← hU1]; exact scF (mf i)
    have p0 : U1.cell? ⟨B + 1, 0, none⟩ = some (.int .i64 2) := by rw [← hU1]; exact scO p0 (by simp)
    have p1 : U1.cell? ⟨B + 1, 1, none⟩ = some (.int .i64 aa) := by rw [← hU1]; exact scO p1 (by simp)
    have p2 : U1.cell? ⟨B + 1, 2, none⟩ = some (.int .i64 c) := by rw [← hU1]; exact scO p2 (by simp)
    have p3 : U1.cell? ⟨B + 1, 3, none⟩ = some (.int .u64 is) := by rw [← hU1]; exact scO p3 (by simp)
    have p4 : U1.cell? ⟨B + 1, 4, none⟩ = some (.int .u64 old) := by rw [← hU1]; exact scO p4 (by simp)
    have p5 : U1.cell? ⟨B + 1, 5, none⟩ = some (.int .u64 x) := by rw [← hU1]; exact scO p5 (by simp)
    have q0 : U1.cell? ⟨B + 1 + 1, 0, none⟩ = some (.slice none 0 0) := by rw [← hU1]; exact scO q0 (by simp)
    have q1 : U1.cell? ⟨B + 1 + 1, 1, none⟩ = some (.int .i64 0) := by rw [← hU1]; exact scO q1 (by simp)
    have q2 : U1.cell? ⟨B + 1 + 1, 2, none⟩ = some (.bool false) := by rw [← hU1]; exact scO q2 (by simp)
    have qf : ∀ i, U1.frozen? ⟨B + 1 + 1, i, none⟩ = false := fun i => by rw [← hU1]; exact scF (qf i)
    have hs1 : U1.heap.size = B + 1 + 1 + 1 := by rw [← hU1, ← HS.out]; simp [World.setCell]
    have hB1 : Below B w U1 := by rw [← hU1]; exact below_setB hBU (Nat.le_refl _) _
    have hR1 : RowAt U1 g n f := by rw [← hU1]; exact HRU.out.setOther hgB _
    have h' : ∀ i, i < n → (U1.alloc (.cells #[] 22)).cell? ⟨g, i, none⟩ = some (.int .u64 (f i)) := fun i hi => Ext.on (hR1.row i hi) _
    have hBl : B < U1.heap.size := by omega
    have H' := Lib.hid h'; have HS1 := Lib.hid hs1
    clear hU1 h' hs1 hR1 HRU HS hBU
    go_wp2_with (at_builtin; refine wpList_append_own _ rfl (.tmp 52) (.tmp 54) 44 rfl U1.heap.size 22 i0 _ 1 8 u64s hi hz0 hz1 hz2 rfl (by decide) _ _ _ rfl (own_none U1) ⟨g, 0, none⟩ n C (wordsL n f) rfl (by rw [wordsL_len]; omega) (news_words H'.out) (one_words n f) (by unfold maxLen; omega) (by omega) (by simp) ?_)
    intro v1 w1 hown hgrow _
    try simp only [Nat.zero_add, List.nil_append] at hown
    have hb := grow0 hgrow
    obtain ⟨g', C', rfl, hge, hnC, hC, hR⟩ := own_words hown n1
    clear hown hgrow hBl
    have m0 := Ext.use (Ext.cells m0) hb
    have m1 := Ext.use (Ext.cells m1) hb
    have m2 := Ext.use (Ext.cells m2) hb
    have p0 := Ext.use (Ext.cells p0) hb
    have p1 := Ext.use (Ext.cells p1) hb
    have p2 := Ext.use (Ext.cells p2) hb
    have p3 := Ext.use (Ext.cells p3) hb
    have p4 := Ext.use (Ext.cells p4) hb
    have p5 := Ext.use (Ext.cells p5) hb
    have q0 := Ext.use (Ext.cells q0) hb
    have q1 := Ext.use (Ext.cells q1) hb
    have q2 := Ext.use (Ext.cells q2) hb
    have mf : ∀ i, w1.frozen? ⟨B, i, none⟩ = false := fun i => (hb.frozen (p := ⟨B, i, none⟩) (by have := HS1.out; simp; omega)).trans (mf i)
    have qf : ∀ i, w1.frozen? ⟨B + 1 + 1, i, none⟩ = false := fun i => (hb.frozen (p := ⟨B + 1 + 1, i, none⟩) (by have := HS1.out; simp; omega)).trans (qf i)
    have hBw1 : Below B w w1 := hB1.trans (hb.mono (by have := HS1.out; omega))
    have gB : g' ≠ B := by have := HS1.out; omega
    have gB1 : g' ≠ B + 1 := by have := HS1.out; omega
    have gB2 : g' ≠ B + 1 + 1 := by have := HS1.out; omega
    have gBB : B ≤ g' := by have := HS1.out; omega
    have gB' := gB.symm; have gB1' := gB1.symm; have gB2' := gB2.symm
    have ra := hR.row aa ha; have gf := hR.fr
    have HRR := Lib.hid hR
    clear hb hB1 hR hge
    cases he : f aa == old
    · have HE := Lib.hid he
      go_wp2_with fail
      refine bodyPost_ret (v := .tuple #[.agg #[.slice (some ⟨g', 0, none⟩) n C', .int .i64 (acc + 1), .bool flt], .int .u64 (0), .bool (false)]) (by simp [results, Try.results59, go_sem, m0, m1, m2, q0, q1, q2, World.cell?_setCell_same, World.cell?_setCell_other, gB, gB1, gB2, gB', gB1', gB2']) rfl ?_
      obtain ⟨r1, r2, r3, r4⟩ := HT.out
      subst r1; subst r2; subst r3; subst r4
      have hbw := HBw.out
      refine ⟨g', C', .inr (by rw [hbw]; exact gBB), by rw [HO.out]; simp [toldD, doneD, ldI, HK1.out, HE.out], ?_, hnC, hC, ?_⟩
      · have hn : nextD n f 2 aa c is old x = f := by simp [nextD, HO.out, doneD, HK1.out, HE.out]
        rw [hn]
        repeat' (first | with_reducible refine RowAt.setOther ?_ gB _ | with_reducible refine RowAt.setOther ?_ gB2 _)
        exact HRR.out
      · rw [hbw]
        repeat' (first | with_reducible exact hBw1 | with_reducible refine below_setB ?_ (Nat.le_refl _) _ | with_reducible refine below_setB ?_ hBB2 _ | with_reducible refine below_setB ?_ gBB _)
    · have HE := Lib.hid he
      go_wp2_with fail
      refine bodyPost_ret (v := .tuple #[.agg #[.slice (some ⟨g', 0, none⟩) n C', .int .i64 (acc + 1), .bool flt], .int .u64 (0), .bool (true)]) (by simp [results, Try.results59, go_sem, m0, m1, m2, q0, q1, q2, World.cell?_setCell_same, World.cell?_setCell_other, gB, gB1, gB2, gB', gB1', gB2']) rfl ?_
      obtain ⟨r1, r2, r3, r4⟩ := HT.out
      subst r1; subst r2; subst r3; subst r4
      have hbw := HBw.out
      refine ⟨g', C', .inr (by rw [hbw]; exact gBB), by rw [HO.out]; simp [toldD, doneD, ldI, HK1.out, HE.out], ?_, hnC, hC, ?_⟩
      · have hn : nextD n f 2 aa c is old x = upd f aa x := by simp [nextD, HO.out, doneD, HK1.out, HE.out]
        rw [hn]
        repeat' (first | with_reducible refine RowAt.setOther ?_ gB _ | with_reducible refine RowAt.setOther ?_ gB2 _)
        exact HRR.out.store ha _
      · rw [hbw]
        repeat' (first | with_reducible exact hBw1 | with_reducible refine below_setB ?_ (Nat.le_refl _) _ | with_reducible refine below_setB ?_ hBB2 _ | with_reducible refine below_setB ?_ gBB _)
  · have hk1 : okA n a = true := by simpa [okD] using hO
    obtain ⟨j1, j2⟩ := okA_true hk1
    obtain ⟨aa, rfl⟩ := Int.eq_ofNat_of_zero_le j1
    have ha : aa < n := by omega
    have HO := Lib.hid hO; have HK1 := Lib.hid hk1
    clear hO hk1 j1
    go_upto_region 6 with (fail)
    generalize hU1 : World.setCell U _ _ = U1
    have m0 : U1.cell? ⟨B, 0, none⟩ = some (.slice (some ⟨g, 0, none⟩) n C) := by rw [← hU1]; exact scO m0 (by simp)
    have m1 : U1.cell? ⟨B, 1, none⟩ = some (.int .i64 (acc + 1)) := by rw [← hU1]; exact scS m1
    have m2 : U1.cell? ⟨B, 2, none⟩ = some (.bool flt) := by rw [← hU1]; exact scO m2 (by simp)
    have mf : ∀ i, U1.frozen? ⟨B, i, none⟩ = false := fun i => by rw [← hU1]; exact scF (mf i)
    have p0 : U1.cell? ⟨B + 1, 0, none⟩ = some (.int .i64 3) := by rw [← hU1]; exact scO p0 (by simp)
    have p1 : U1.cell? ⟨B + 1, 1, none⟩ = some (.int .i64 aa) := by rw [← hU1]; exact scO p1 (by simp)
    have p2 : U1.cell? ⟨B + 1, 2, none⟩ = some (.int .i64 c) := by rw [← hU1]; exact scO p2 (by simp)
    have p3 : U1.cell? ⟨B + 1, 3, none⟩ = some (.int .u64 is) := by rw [← hU1]; exact scO p3 (by simp)
    have p4 : U1.cell? ⟨B + 1, 4, none⟩ = some (.int .u64 old) := by rw [← hU1]; exact scO p4 (by simp)
    have p5 : U1.cell? ⟨B + 1, 5, none⟩ = some (.int .u64 x) := by rw [← hU1]; exact scO p5 (by simp)
    have q0 : U1.cell? ⟨B + 1 + 1, 0, none⟩ = some (.slice none 0 0) := by rw [← hU1]; exact scO q0 (by simp)
    have q1 : U1.cell? ⟨B + 1 + 1, 1, none⟩ = some (.int .i64 0) := by rw [← hU1]; exact scO q1 (by simp)
    have q2 : U1.cell? ⟨B + 1 + 1, 2, none⟩ = some (.bool false) := by rw [← hU1]; exact scO q2 (by simp)
    have qf : ∀ i, U1.frozen? ⟨B + 1 + 1, i, none⟩ = false := fun i => by rw [← hU1]; exact scF (qf i)
    have hs1 : U1.heap.size = B + 1 + 1 + 1 := by rw [← hU1, ← HS.out]; simp [World.setCell]
    have hB1 : Below B w U1 := by rw [← hU1]; exact below_setB hBU (Nat.le_refl _) _
    have hR1 : RowAt U1 g n f := by rw [← hU1]; exact HRU.out.setOther hgB _
    have h' : ∀ i, i < n → (U1.alloc (.cells #[] 22)).cell? ⟨g, i, none⟩ = some (.int .u64 (f i)) := fun i hi => Ext.on (hR1.row i hi) _
    have hBl : B < U1.heap.size := by omega
    have H' := Lib.hid h'; have HS1 := Lib.hid hs1
    clear hU1 h' hs1 hR1 HRU HS hBU
    go_wp2_with (at_builtin; refine wpList_append_own _ rfl (.tmp 52) (.tmp 54) 44 rfl U1.heap.size 22 i0 _ 1 8 u64s hi hz0 hz1 hz2 rfl (by decide) _ _ _ rfl (own_none U1) ⟨g, 0, none⟩ n C (wordsL n f) rfl (by rw [wordsL_len]; omega) (news_words H'.out) (one_words n f) (by unfold maxLen; omega) (by omega) (by simp) ?_)
    intro v1 w1 hown hgrow _
    try simp only [Nat.zero_add, List.nil_append] at hown
    have hb := grow0 hgrow
    obtain ⟨g', C', rfl, hge, hnC, hC, hR⟩ := own_words hown n1
    clear hown hgrow hBl
    have m0 := Ext.use (Ext.cells m0) hb
    have m1 := Ext.use (Ext.cells m1) hb
    have m2 := Ext.use (Ext.cells m2) hb
    have p0 := Ext.use (Ext.cells p0) hb
    have p1 := Ext.use (Ext.cells p1) hb
    have p2 := Ext.use (Ext.cells p2) hb
    have p3 := Ext.use (Ext.cells p3) hb
    have p4 := Ext.use (Ext.cells p4) hb
    have p5 := Ext.use (Ext.cells p5) hb
    have q0 := Ext.use (Ext.cells q0) hb
    have q1 := Ext.use (Ext.cells q1) hb
    have q2 := Ext.use (Ext.cells q2) hb
    have mf : ∀ i, w1.frozen? ⟨B, i, none⟩ = false := fun i => (hb.frozen (p := ⟨B, i, none⟩) (by have := HS1.out; simp; omega)).trans (mf i)
    have qf : ∀ i, w1.frozen? ⟨B + 1 + 1, i, none⟩ = false := fun i => (hb.frozen (p := ⟨B + 1 + 1, i, none⟩) (by have := HS1.out; simp; omega)).trans (qf i)
    have hBw1 : Below B w w1 := hB1.trans (hb.mono (by have := HS1.out; omega))
    have gB : g' ≠ B := by have := HS1.out; omega
    have gB1 : g' ≠ B + 1 := by have := HS1.out; omega
    have gB2 : g' ≠ B + 1 + 1 := by have := HS1.out; omega
    have gBB : B ≤ g' := by have := HS1.out; omega
    have gB' := gB.symm; have gB1' := gB1.symm; have gB2' := gB2.symm
    have ra := hR.row aa ha; have gf := hR.fr
    have HRR := Lib.hid hR
    clear hb hB1 hR hge
    · go_wp2_with fail
      refine bodyPost_ret (v := .tuple #[.agg #[.slice (some ⟨g', 0, none⟩) n C', .int .i64 (acc + 1), .bool flt], .int .u64 (f aa), .bool (false)]) (by simp [results, Try.results59, go_sem, m0, m1, m2, q0, q1, q2, World.cell?_setCell_same, World.cell?_setCell_other, gB, gB1, gB2, gB', gB1', gB2']) rfl ?_
      obtain ⟨r1, r2, r3, r4⟩ := HT.out
      subst r1; subst r2; subst r3; subst r4
      have hbw := HBw.out
      refine ⟨g', C', .inr (by rw [hbw]; exact gBB), by rw [HO.out]; simp [toldD, doneD, ldI, HK1.out], ?_, hnC, hC, ?_⟩
      · have hn : nextD n f 3 aa c is old x = upd f aa (orI (f aa) x) := by simp [nextD, HO.out, doneD, HK1.out]
        rw [hn]
        repeat' (first | with_reducible refine RowAt.setOther ?_ gB _ | with_reducible refine RowAt.setOther ?_ gB2 _)
        exact HRR.out.store ha _
      · rw [hbw]
        repeat' (first | with_reducible exact hBw1 | with_reducible refine below_setB ?_ (Nat.le_refl _) _ | with_reducible refine below_setB ?_ hBB2 _ | with_reducible refine below_setB ?_ gBB _)
  · have hk1 : okA n a = true := by simpa [okD] using hO
    obtain ⟨j1, j2⟩ := okA_true hk1
    obtain ⟨aa, rfl⟩ := Int.eq_ofNat_of_zero_le j1
    have ha : aa < n := by omega
    have HO := Lib.hid hO; have HK1 := Lib.hid hk1
    clear hO hk1 j1
    go_upto_region 6 with (fail)
    generalize hU1 : World.setCell U _ _ = U1
    have m0 : U1.cell? ⟨B, 0, none⟩ = some (.slice (some ⟨g, 0, none⟩) n C) := by rw [← hU1]; exact scO m0 (by simp)
    have m1 : U1.cell? ⟨B, 1, none⟩ = some (.int .i64 (acc + 1)) := by rw [← hU1]; exact scS m1
    have m2 : U1.cell? ⟨B, 2, none⟩ = some (.bool flt) := by rw [← hU1]; exact scO m2 (by simp)
    have mf : ∀ i, U1.frozen? ⟨B, i, none⟩ = false := fun i => by rw [← hU1]; exact scF (mf i)
    have p0 : U1.cell? ⟨B + 1, 0, none⟩ = some (.int .i64 4) := by rw [← hU1]; exact scO p0 (by simp)
    have p1 : U1.cell? ⟨B + 1, 1, none⟩ = some (.int .i64 aa) := by rw [← hU1]; exact scO p1 (by simp)
    have p2 : U1.cell? ⟨B + 1, 2, none⟩ = some (.int .i64 c) := by rw [← hU1]; exact scO p2 (by simp)
    have p3 : U1.cell? ⟨B + 1, 3, none⟩ = some (.int .u64 is) := by rw [← hU1]; exact scO p3 (by simp)
    have p4 : U1.cell? ⟨B + 1, 4, none⟩ = some (.int .u64 old) := by rw [← hU1]; exact scO p4 (by simp)
    have p5 : U1.cell? ⟨B + 1, 5, none⟩ = some (.int .u64 x) := by rw [← hU1]; exact scO p5 (by simp)
    have q0 : U1.cell? ⟨B + 1 + 1, 0, none⟩ = some (.slice none 0 0) := by rw [← hU1]; exact scO q0 (by simp)
    have q1 : U1.cell? ⟨B + 1 + 1, 1, none⟩ = some (.int .i64 0) := by rw [← hU1]; exact scO q1 (by simp)
    have q2 : U1.cell? ⟨B + 1 + 1, 2, none⟩ = some (.bool false) := by rw [← hU1]; exact scO q2 (by simp)
    have qf : ∀ i, U1.frozen? ⟨B + 1 + 1, i, none⟩ = false := fun i => by rw [← hU1]; exact scF (qf i)
    have hs1 : U1.heap.size = B + 1 + 1 + 1 := by rw [← hU1, ← HS.out]; simp [World.setCell]
    have hB1 : Below B w U1 := by rw [← hU1]; exact below_setB hBU (Nat.le_refl _) _
    have hR1 : RowAt U1 g n f := by rw [← hU1]; exact HRU.out.setOther hgB _
    have h' : ∀ i, i < n → (U1.alloc (.cells #[] 22)).cell? ⟨g, i, none⟩ = some (.int .u64 (f i)) := fun i hi => Ext.on (hR1.row i hi) _
    have hBl : B < U1.heap.size := by omega
    have H' := Lib.hid h'; have HS1 := Lib.hid hs1
    clear hU1 h' hs1 hR1 HRU HS hBU
    go_wp2_with (at_builtin; refine wpList_append_own _ rfl (.tmp 52) (.tmp 54) 44 rfl U1.heap.size 22 i0 _ 1 8 u64s hi hz0 hz1 hz2 rfl (by decide) _ _ _ rfl (own_none U1) ⟨g, 0, none⟩ n C (wordsL n f) rfl (by rw [wordsL_len]; omega) (news_words H'.out) (one_words n f) (by unfold maxLen; omega) (by omega) (by simp) ?_)
    intro v1 w1 hown hgrow _
    try simp only [Nat.zero_add, List.nil_append] at hown
    have hb := grow0 hgrow
    obtain ⟨g', C', rfl, hge, hnC, hC, hR⟩ := own_words hown n1
    clear hown hgrow hBl
    have m0 := Ext.use (Ext.cells m0) hb
    have m1 := Ext.use (Ext.cells m1) hb
    have m2 := Ext.use (Ext.cells m2) hb
    have p0 := Ext.use (Ext.cells p0) hb
    have p1 := Ext.use (Ext.cells p1) hb
    have p2 := Ext.use (Ext.cells p2) hb
    have p3 := Ext.use (Ext.cells p3) hb
    have p4 := Ext.use (Ext.cells p4) hb
    have p5 := Ext.use (Ext.cells p5) hb
    have q0 := Ext.use (Ext.cells q0) hb
    have q1 := Ext.use (Ext.cells q1) hb
    have q2 := Ext.use (Ext.cells q2) hb
    have mf : ∀ i, w1.frozen? ⟨B, i, none⟩ = false := fun i => (hb.frozen (p := ⟨B, i, none⟩) (by have := HS1.out; simp; omega)).trans (mf i)
    have qf : ∀ i, w1.frozen? ⟨B + 1 + 1, i, none⟩ = false := fun i => (hb.frozen (p := ⟨B + 1 + 1, i, none⟩) (by have := HS1.out; simp; omega)).trans (qf i)
    have hBw1 : Below B w w1 := hB1.trans (hb.mono (by have := HS1.out; omega))
    have gB : g' ≠ B := by have := HS1.out; omega
    have gB1 : g' ≠ B + 1 := by have := HS1.out; omega
    have gB2 : g' ≠ B + 1 + 1 := by have := HS1.out; omega
    have gBB : B ≤ g' := by have := HS1.out; omega
    have gB' := gB.symm; have gB1' := gB1.symm; have gB2' := gB2.symm
    have ra := hR.row aa ha; have gf := hR.fr
    have HRR := Lib.hid hR
    clear hb hB1 hR hge
    · go_wp2_with fail
      refine bodyPost_ret (v := .tuple #[.agg #[.slice (some ⟨g', 0, none⟩) n C', .int .i64 (acc + 1), .bool flt], .int .u64 (f aa), .bool (false)]) (by simp [results, Try.results59, go_sem, m0, m1, m2, q0, q1, q2, World.cell?_setCell_same, World.cell?_setCell_other, gB, gB1, gB2, gB', gB1', gB2']) rfl ?_
      obtain ⟨r1, r2, r3, r4⟩ := HT.out
      subst r1; subst r2; subst r3; subst r4
      have hbw := HBw.out
      refine ⟨g', C', .inr (by rw [hbw]; exact gBB), by rw [HO.out]; simp [toldD, doneD, ldI, HK1.out], ?_, hnC, hC, ?_⟩
      · have hn : nextD n f 4 aa c is old x = upd f aa (addI (f aa) x) := by simp [nextD, HO.out, doneD, HK1.out]
        rw [hn]
        repeat' (first | with_reducible refine RowAt.setOther ?_ gB _ | with_reducible refine RowAt.setOther ?_ gB2 _)
        exact HRR.out.store ha _
      · rw [hbw]
        repeat' (first | with_reducible exact hBw1 | with_reducible refine below_setB ?_ (Nat.le_refl _) _ | with_reducible refine below_setB ?_ hBB2 _ | with_reducible refine below_setB ?_ gBB _)
  · have hk0 : ¬ (0 ≤ k ∧ k ≤ 4) := by omega
    obtain ⟨hk2, hk1⟩ : okA n c = true ∧ okA n a = true := by simpa [okD, hk0] using hO
    obtain ⟨j1, j2⟩ := okA_true hk1
    obtain ⟨i1, i2⟩ := okA_true hk2
    obtain ⟨aa, rfl⟩ := Int.eq_ofNat_of_zero_le j1
    obtain ⟨cc, rfl⟩ := Int.eq_ofNat_of_zero_le i1
    have ha : aa < n := by omega
    have hc : cc < n := by omega
    have z0 : (k == 0) = false := by rw [beq_eq_false_iff_ne]; omega
    have z1 : (k == 1) = false := by rw [beq_eq_false_iff_ne]; omega
    have z2 : (k == 2) = false := by rw [beq_eq_false_iff_ne]; omega
    have z3 : (k == 3) = false := by rw [beq_eq_false_iff_ne]; omega
    have z4 : (k == 4) = false := by rw [beq_eq_false_iff_ne]; omega
    have HO := Lib.hid hO; have HK1 := Lib.hid hk1; have HK2 := Lib.hid hk2; have HK0 := Lib.hid hk0
    clear hO hk1 hk2 j1 i1 hk0
    go_upto_region 6 with (fail)
    generalize hU1 : World.setCell U _ _ = U1
    have m0 : U1.cell? ⟨B, 0, none⟩ = some (.slice (some ⟨g, 0, none⟩) n C) := by rw [← hU1]; exact scO m0 (by simp)
    have m1 : U1.cell? ⟨B, 1, none⟩ = some (.int .i64 (acc + 1)) := by rw [← hU1]; exact scS m1
    have m2 : U1.cell? ⟨B, 2, none⟩ = some (.bool flt) := by rw [← hU1]; exact scO m2 (by simp)
    have mf : ∀ i, U1.frozen? ⟨B, i, none⟩ = false := fun i => by rw [← hU1]; exact scF (mf i)
    have p0 : U1.cell? ⟨B + 1, 0, none⟩ = some (.int .i64 k) := by rw [← hU1]; exact scO p0 (by simp)
    have p1 : U1.cell? ⟨B + 1, 1, none⟩ = some (.int .i64 aa) := by rw [← hU1]; exact scO p1 (by simp)
    have p2 : U1.cell? ⟨B + 1, 2, none⟩ = some (.int .i64 cc) := by rw [← hU1]; exact scO p2 (by simp)
    have p3 : U1.cell? ⟨B + 1, 3, none⟩ = some (.int .u64 is) := by rw [← hU1]; exact scO p3 (by simp)
    have p4 : U1.cell? ⟨B + 1, 4, none⟩ = some (.int .u64 old) := by rw [← hU1]; exact scO p4 (by simp)
    have p5 : U1.cell? ⟨B + 1, 5, none⟩ = some (.int .u64 x) := by rw [← hU1]; exact scO p5 (by simp)
    have q0 : U1.cell? ⟨B + 1 + 1, 0, none⟩ = some (.slice none 0 0) := by rw [← hU1]; exact scO q0 (by simp)
    have q1 : U1.cell? ⟨B + 1 + 1, 1, none⟩ = some (.int .i64 0) := by rw [← hU1]; exact scO q1 (by simp)
    have q2 : U1.cell? ⟨B + 1 + 1, 2, none⟩ = some (.bool false) := by rw [← hU1]; exact scO q2 (by simp)
    have qf : ∀ i, U1.frozen? ⟨B + 1 + 1, i, none⟩ = false := fun i => by rw [← hU1]; exact scF (qf i)
    have hs1 : U1.heap.size = B + 1 + 1 + 1 := by rw [← hU1, ← HS.out]; simp [World.setCell]
    have hB1 : Below B w U1 := by rw [← hU1]; exact below_setB hBU (Nat.le_refl _) _
    have hR1 : RowAt U1 g n f := by rw [← hU1]; exact HRU.out.setOther hgB _
    have h' : ∀ i, i < n → (U1.alloc (.cells #[] 22)).cell? ⟨g, i, none⟩ = some (.int .u64 (f i)) := fun i hi => Ext.on (hR1.row i hi) _
    have hBl : B < U1.heap.size := by omega
    have H' := Lib.hid h'; have HS1 := Lib.hid hs1
    clear hU1 h' hs1 hR1 HRU HS hBU
    go_wp2_with (at_builtin; refine wpList_append_own _ rfl (.tmp 52) (.tmp 54) 44 rfl U1.heap.size 22 i0 _ 1 8 u64s hi hz0 hz1 hz2 rfl (by decide) _ _ _ rfl (own_none U1) ⟨g, 0, none⟩ n C (wordsL n f) rfl (by rw [wordsL_len]; omega) (news_words H'.out) (one_words n f) (by unfold maxLen; omega) (by omega) (by simp) ?_)
    intro v1 w1 hown hgrow _
    try simp only [Nat.zero_add, List.nil_append] at hown
    have hb := grow0 hgrow
    obtain ⟨g', C', rfl, hge, hnC, hC, hR⟩ := own_words hown n1
    clear hown hgrow hBl
    have m0 := Ext.use (Ext.cells m0) hb
    have m1 := Ext.use (Ext.cells m1) hb
    have m2 := Ext.use (Ext.cells m2) hb
    have p0 := Ext.use (Ext.cells p0) hb
    have p1 := Ext.use (Ext.cells p1) hb
    have p2 := Ext.use (Ext.cells p2) hb
    have p3 := Ext.use (Ext.cells p3) hb
    have p4 := Ext.use (Ext.cells p4) hb
    have p5 := Ext.use (Ext.cells p5) hb
    have q0 := Ext.use (Ext.cells q0) hb
    have q1 := Ext.use (Ext.cells q1) hb
    have q2 := Ext.use (Ext.cells q2) hb
    have mf : ∀ i, w1.frozen? ⟨B, i, none⟩ = false := fun i => (hb.frozen (p := ⟨B, i, none⟩) (by have := HS1.out; simp; omega)).trans (mf i)
    have qf : ∀ i, w1.frozen? ⟨B + 1 + 1, i, none⟩ = false := fun i => (hb.frozen (p := ⟨B + 1 + 1, i, none⟩) (by have := HS1.out; simp; omega)).trans (qf i)
    have hBw1 : Below B w w1 := hB1.trans (hb.mono (by have := HS1.out; omega))
    have gB : g' ≠ B := by have := HS1.out; omega
    have gB1 : g' ≠ B + 1 := by have := HS1.out; omega
    have gB2 : g' ≠ B + 1 + 1 := by have := HS1.out; omega
    have gBB : B ≤ g' := by have := HS1.out; omega
    have gB' := gB.symm; have gB1' := gB1.symm; have gB2' := gB2.symm
    have ra := hR.row aa ha; have rc := hR.row cc hc; have gf := hR.fr
    have HRR := Lib.hid hR
    clear hb hB1 hR hge
    have m0 := Ext.cells m0
    have m1 := Ext.cells m1
    have m2 := Ext.cells m2
    have p0 := Ext.cells p0
    have p1 := Ext.cells p1
    have p2 := Ext.cells p2
    have p3 := Ext.cells p3
    have p4 := Ext.cells p4
    have p5 := Ext.cells p5
    have q0 := Ext.cells q0
    have q1 := Ext.cells q1
    have q2 := Ext.cells q2
    have ra := Ext.cells ra
    have rc := Ext.cells rc
    have hlt : B + 1 + 1 < w1.heap.size ∧ g' < w1.heap.size := ⟨World.block_lt_of_cell? w1 ⟨B + 1 + 1, 0, none⟩ (q0 ⟨w1, Below.refl _ _⟩), HRR.out.lt⟩
    have mf : ∀ (y : Ext w1) (i : Nat), y.w.frozen? ⟨B, i, none⟩ = false := fun y i => (y.h.frozen (p := ⟨B, i, none⟩) (by simp; omega)).trans (mf i)
    have qf : ∀ (y : Ext w1) (i : Nat), y.w.frozen? ⟨B + 1 + 1, i, none⟩ = false := fun y i => (y.h.frozen (p := ⟨B + 1 + 1, i, none⟩) (by simp; omega)).trans (qf i)
    have gf : ∀ (y : Ext w1) (i : Nat), y.w.frozen? ⟨g', i, none⟩ = false := fun y i => (y.h.frozen (p := ⟨g', i, none⟩) (by simp; omega)).trans (gf i)
    have hBs : B ≤ w1.heap.size := by omega
    clear hlt
    obtain ⟨y, hy⟩ : ∃ y : Ext w1, y.w = w1 := ⟨⟨w1, Below.refl _ _⟩, rfl⟩
    rw [← hy]; clear hy
    cases he : f aa == old
    · have HE := Lib.hid he
      go_wp2_with (first | (with_reducible refine ext_region _ ?_ ?_ ?_; kernel_rfl; kernel_rfl; (repeat (go_big_quiet_step (fail))); refine wpQuiet_nil ?_; rintro _ ⟨_, rfl⟩))
      refine bodyPost_ret (v := .tuple #[.agg #[.slice (some ⟨g', 0, none⟩) n C', .int .i64 (acc + 1), .bool flt], .int .u64 (0), .bool (false)]) (by simp [results, Try.results59, go_sem, m0, m1, m2, q0, q1, q2, World.cell?_setCell_same, World.cell?_setCell_other, gB, gB1, gB2, gB', gB1', gB2']) rfl ?_
      obtain ⟨r1, r2, r3, r4⟩ := HT.out
      subst r1; subst r2; subst r3; subst r4
      have hbw := HBw.out
      refine ⟨g', C', .inr (by rw [hbw]; exact gBB), by have hk0 := HK0.out; rw [HO.out]; unfold toldD doneD; rw [if_neg hk0, if_neg (show ¬ (k = 0 ∨ k = 3 ∨ k = 4) by omega), HK1.out, HK2.out]; simp [HE.out], ?_, hnC, hC, ?_⟩
      · have hn : nextD n f k aa cc is old x = f := by
          have hk0 := HK0.out
          unfold nextD doneD
          rw [HO.out, HK1.out, HK2.out]
          simp only [if_neg hk0, if_neg (show ¬ k = 0 by omega), if_neg (show ¬ k = 1 by omega), if_neg (show ¬ k = 3 by omega), if_neg (show ¬ k = 4 by omega)]
          simp [HE.out]
        rw [hn]
        repeat' (first | with_reducible refine RowAt.setOther ?_ gB _ | with_reducible refine RowAt.setOther ?_ gB2 _)
        exact HRR.out.below (Ext.h _)
      · rw [hbw]
        repeat' (first | with_reducible exact hBw1.trans (Ext.mono_h _ hBs) | with_reducible refine below_setB ?_ (Nat.le_refl _) _ | with_reducible refine below_setB ?_ hBB2 _ | with_reducible refine below_setB ?_ gBB _)
    · have HE := Lib.hid he
      cases hi' : f cc == is
      · have HI := Lib.hid hi'
        go_wp2_with (first | (with_reducible refine ext_region _ ?_ ?_ ?_; kernel_rfl; kernel_rfl; (repeat (go_big_quiet_step (fail))); refine wpQuiet_nil ?_; rintro _ ⟨_, rfl⟩))
        refine bodyPost_ret (v := .tuple #[.agg #[.slice (some ⟨g', 0, none⟩) n C', .int .i64 (acc + 1), .bool flt], .int .u64 (0), .bool (false)]) (by simp [results, Try.results59, go_sem, m0, m1, m2, q0, q1, q2, World.cell?_setCell_same, World.cell?_setCell_other, gB, gB1, gB2, gB', gB1', gB2']) rfl ?_
        obtain ⟨r1, r2, r3, r4⟩ := HT.out
        subst r1; subst r2; subst r3; subst r4
        have hbw := HBw.out
        refine ⟨g', C', .inr (by rw [hbw]; exact gBB), by have hk0 := HK0.out; rw [HO.out]; unfold toldD doneD; rw [if_neg hk0, if_neg (show ¬ (k = 0 ∨ k = 3 ∨ k = 4) by omega), HK1.out, HK2.out]; simp [HE.out, HI.out], ?_, hnC, hC, ?_⟩
        · have hn : nextD n f k aa cc is old x = f := by
            have hk0 := HK0.out
            unfold nextD doneD
            rw [HO.out, HK1.out, HK2.out]
            simp only [if_neg hk0, if_neg (show ¬ k = 0 by omega), if_neg (show ¬ k = 1 by omega), if_neg (show ¬ k = 3 by omega), if_neg (show ¬ k = 4 by omega)]
            simp [HE.out, HI.out]
          rw [hn]
          repeat' (first | with_reducible refine RowAt.setOther ?_ gB _ | with_reducible refine RowAt.setOther ?_ gB2 _)
          exact HRR.out.below (Ext.h _)
        · rw [hbw]
          repeat' (first | with_reducible exact hBw1.trans (Ext.mono_h _ hBs) | with_reducible refine below_setB ?_ (Nat.le_refl _) _ | with_reducible refine below_setB ?_ hBB2 _ | with_reducible refine below_setB ?_ gBB _)
      · have HI := Lib.hid hi'
        go_wp2_with (first | (with_reducible refine ext_region _ ?_ ?_ ?_; kernel_rfl; kernel_rfl; (repeat (go_big_quiet_step (fail))); refine wpQuiet_nil ?_; rintro _ ⟨_, rfl⟩))
        refine bodyPost_ret (v := .tuple #[.agg #[.slice (some ⟨g', 0, none⟩) n C', .int .i64 (acc + 1), .bool flt], .int .u64 (0), .bool (true)]) (by simp [results, Try.results59, go_sem, m0, m1, m2, q0, q1, q2, World.cell?_setCell_same, World.cell?_setCell_other, gB, gB1, gB2, gB', gB1', gB2']) rfl ?_
        obtain ⟨r1, r2, r3, r4⟩ := HT.out
        subst r1; subst r2; subst r3; subst r4
        have hbw := HBw.out
        refine ⟨g', C', .inr (by rw [hbw]; exact gBB), by have hk0 := HK0.out; rw [HO.out]; unfold toldD doneD; rw [if_neg hk0, if_neg (show ¬ (k = 0 ∨ k = 3 ∨ k = 4) by omega), HK1.out, HK2.out]; simp [HE.out, HI.out], ?_, hnC, hC, ?_⟩
        · have hn : nextD n f k aa cc is old x = upd f aa x := by
            have hk0 := HK0.out
            unfold nextD doneD
            rw [HO.out, HK1.out, HK2.out]
            simp only [if_neg hk0, if_neg (show ¬ k = 0 by omega), if_neg (show ¬ k = 1 by omega), if_neg (show ¬ k = 3 by omega), if_neg (show ¬ k = 4 by omega)]
            simp [HE.out, HI.out]
          rw [hn]
          repeat' (first | with_reducible refine RowAt.setOther ?_ gB _ | with_reducible refine RowAt.setOther ?_ gB2 _)
          exact (HRR.out.below (Ext.h _)).store ha _
        · rw [hbw]
          repeat' (first | with_reducible exact hBw1.trans (Ext.mono_h _ hBs) | with_reducible refine below_setB ?_ (Nat.le_refl _) _ | with_reducible refine below_setB ?_ hBB2 _ | with_reducible refine below_setB ?_ gBB _)
  · have hk0 : ¬ (0 ≤ k ∧ k ≤ 4) := by omega
    obtain ⟨hk2, hk1⟩ : okA n c = true ∧ okA n a = true := by simpa [okD, hk0] using hO
    obtain ⟨j1, j2⟩ := okA_true hk1
    obtain ⟨i1, i2⟩ := okA_true hk2
    obtain ⟨aa, rfl⟩ := Int.eq_ofNat_of_zero_le j1
    obtain ⟨cc, rfl⟩ := Int.eq_ofNat_of_zero_le i1
    have ha : aa < n := by omega
    have hc : cc < n := by omega
    have z0 : (k == 0) = false := by rw [beq_eq_false_iff_ne]; omega
    have z1 : (k == 1) = false := by rw [beq_eq_false_iff_ne]; omega
    have z2 : (k == 2) = false := by rw [beq_eq_false_iff_ne]; omega
    have z3 : (k == 3) = false := by rw [beq_eq_false_iff_ne]; omega
    have z4 : (k == 4) = false := by rw [beq_eq_false_iff_ne]; omega
    have HO := Lib.hid hO; have HK1 := Lib.hid hk1; have HK2 := Lib.hid hk2; have HK0 := Lib.hid hk0
    clear hO hk1 hk2 j1 i1 hk0
    go_upto_region 6 with (fail)
    generalize hU1 : World.setCell U _ _ = U1
    have m0 : U1.cell? ⟨B, 0, none⟩ = some (.slice (some ⟨g, 0, none⟩) n C) := by rw [← hU1]; exact scO m0 (by simp)
    have m1 : U1.cell? ⟨B, 1, none⟩ = some (.int .i64 (acc + 1)) := by rw [← hU1]; exact scS m1
    have m2 : U1.cell? ⟨B, 2, none⟩ = some (.bool flt) := by rw [← hU1]; exact scO m2 (by simp)
    have mf : ∀ i, U1.frozen? ⟨B, i, none⟩ = false := fun i => by rw [← hU1]; exact scF (mf i)
    have p0 : U1.cell? ⟨B + 1, 0, none⟩ = some (.int .i64 k) := by rw [← hU1]; exact scO p0 (by simp)
    have p1 : U1.cell? ⟨B + 1, 1, none⟩ = some (.int .i64 aa) := by rw [← hU1]; exact scO p1 (by simp)
    have p2 : U1.cell? ⟨B + 1, 2, none⟩ = some (.int .i64 cc) := by rw [← hU1]; exact scO p2 (by simp)
    have p3 : U1.cell? ⟨B + 1, 3, none⟩ = some (.int .u64 is) := by rw [← hU1]; exact scO p3 (by simp)
    have p4 : U1.cell? ⟨B + 1, 4, none⟩ = some (.int .u64 old) := by rw [← hU1]; exact scO p4 (by simp)
    have p5 : U1.cell? ⟨B + 1, 5, none⟩ = some (.int .u64 x) := by rw [← hU1]; exact scO p5 (by simp)
    have q0 : U1.cell? ⟨B + 1 + 1, 0, none⟩ = some (.slice none 0 0) := by rw [← hU1]; exact scO q0 (by simp)
    have q1 : U1.cell? ⟨B + 1 + 1, 1, none⟩ = some (.int .i64 0) := by rw [← hU1]; exact scO q1 (by simp)
    have q2 : U1.cell? ⟨B + 1 + 1, 2, none⟩ = some (.bool false) := by rw [← hU1]; exact scO q2 (by simp)
    have qf : ∀ i, U1.frozen? ⟨B + 1 + 1, i, none⟩ = false := fun i => by rw [← hU1]; exact scF (qf i)
    have hs1 : U1.heap.size = B + 1 + 1 + 1 := by rw [← hU1, ← HS.out]; simp [World.setCell]
    have hB1 : Below B w U1 := by rw [← hU1]; exact below_setB hBU (Nat.le_refl _) _
    have hR1 : RowAt U1 g n f := by rw [← hU1]; exact HRU.out.setOther hgB _
    have h' : ∀ i, i < n → (U1.alloc (.cells #[] 22)).cell? ⟨g, i, none⟩ = some (.int .u64 (f i)) := fun i hi => Ext.on (hR1.row i hi) _
    have hBl : B < U1.heap.size := by omega
    have H' := Lib.hid h'; have HS1 := Lib.hid hs1
    clear hU1 h' hs1 hR1 HRU HS hBU
    go_wp2_with (at_builtin; refine wpList_append_own _ rfl (.tmp 52) (.tmp 54) 44 rfl U1.heap.size 22 i0 _ 1 8 u64s hi hz0 hz1 hz2 rfl (by decide) _ _ _ rfl (own_none U1) ⟨g, 0, none⟩ n C (wordsL n f) rfl (by rw [wordsL_len]; omega) (news_words H'.out) (one_words n f) (by unfold maxLen; omega) (by omega) (by simp) ?_)
    intro v1 w1 hown hgrow _
    try simp only [Nat.zero_add, List.nil_append] at hown
    have hb := grow0 hgrow
    obtain ⟨g', C', rfl, hge, hnC, hC, hR⟩ := own_words hown n1
    clear hown hgrow hBl
    have m0 := Ext.use (Ext.cells m0) hb
    have m1 := Ext.use (Ext.cells m1) hb
    have m2 := Ext.use (Ext.cells m2) hb
    have p0 := Ext.use (Ext.cells p0) hb
    have p1 := Ext.use (Ext.cells p1) hb
    have p2 := Ext.use (Ext.cells p2) hb
    have p3 := Ext.use (Ext.cells p3) hb
    have p4 := Ext.use (Ext.cells p4) hb
    have p5 := Ext.use (Ext.cells p5) hb
    have q0 := Ext.use (Ext.cells q0) hb
    have q1 := Ext.use (Ext.cells q1) hb
    have q2 := Ext.use (Ext.cells q2) hb
    have mf : ∀ i, w1.frozen? ⟨B, i, none⟩ = false := fun i => (hb.frozen (p := ⟨B, i, none⟩) (by have := HS1.out; simp; omega)).trans (mf i)
    have qf : ∀ i, w1.frozen? ⟨B + 1 + 1, i, none⟩ = false := fun i => (hb.frozen (p := ⟨B + 1 + 1, i, none⟩) (by have := HS1.out; simp; omega)).trans (qf i)
    have hBw1 : Below B w w1 := hB1.trans (hb.mono (by have := HS1.out; omega))
    have gB : g' ≠ B := by have := HS1.out; omega
    have gB1 : g' ≠ B + 1 := by have := HS1.out; omega
    have gB2 : g' ≠ B + 1 + 1 := by have := HS1.out; omega
    have gBB : B ≤ g' := by have := HS1.out; omega
    have gB' := gB.symm; have gB1' := gB1.symm; have gB2' := gB2.symm
    have ra := hR.row aa ha; have rc := hR.row cc hc; have gf := hR.fr
    have HRR := Lib.hid hR
    clear hb hB1 hR hge
    have m0 := Ext.cells m0
    have m1 := Ext.cells m1
    have m2 := Ext.cells m2
    have p0 := Ext.cells p0
    have p1 := Ext.cells p1
    have p2 := Ext.cells p2
    have p3 := Ext.cells p3
    have p4 := Ext.cells p4
    have p5 := Ext.cells p5
    have q0 := Ext.cells q0
    have q1 := Ext.cells q1
    have q2 := Ext.cells q2
    have ra := Ext.cells ra
    have rc := Ext.cells rc
    have hlt : B + 1 + 1 < w1.heap.size ∧ g' < w1.heap.size := ⟨World.block_lt_of_cell? w1 ⟨B + 1 + 1, 0, none⟩ (q0 ⟨w1, Below.refl _ _⟩), HRR.out.lt⟩
    have mf : ∀ (y : Ext w1) (i : Nat), y.w.frozen? ⟨B, i, none⟩ = false := fun y i => (y.h.frozen (p := ⟨B, i, none⟩) (by simp; omega)).trans (mf i)
    have qf : ∀ (y : Ext w1) (i : Nat), y.w.frozen? ⟨B + 1 + 1, i, none⟩ = false := fun y i => (y.h.frozen (p := ⟨B + 1 + 1, i, none⟩) (by simp; omega)).trans (qf i)
    have gf : ∀ (y : Ext w1) (i : Nat), y.w.frozen? ⟨g', i, none⟩ = false := fun y i => (y.h.frozen (p := ⟨g', i, none⟩) (by simp; omega)).trans (gf i)
    have hBs : B ≤ w1.heap.size := by omega
    clear hlt
    obtain ⟨y, hy⟩ : ∃ y : Ext w1, y.w = w1 := ⟨⟨w1, Below.refl _ _⟩, rfl⟩
    rw [← hy]; clear hy
    cases he : f aa == old
    · have HE := Lib.hid he
      go_wp2_with (first | (with_reducible refine ext_region _ ?_ ?_ ?_; kernel_rfl; kernel_rfl; (repeat (go_big_quiet_step (fail))); refine wpQuiet_nil ?_; rintro _ ⟨_, rfl⟩))
      refine bodyPost_ret (v := .tuple #[.agg #[.slice (some ⟨g', 0, none⟩) n C', .int .i64 (acc + 1), .bool flt], .int .u64 (0), .bool (false)]) (by simp [results, Try.results59, go_sem, m0, m1, m2, q0, q1, q2, World.cell?_setCell_same, World.cell?_setCell_other, gB, gB1, gB2, gB', gB1', gB2']) rfl ?_
      obtain ⟨r1, r2, r3, r4⟩ := HT.out
      subst r1; subst r2; subst r3; subst r4
      have hbw := HBw.out
      refine ⟨g', C', .inr (by rw [hbw]; exact gBB), by have hk0 := HK0.out; rw [HO.out]; unfold toldD doneD; rw [if_neg hk0, if_neg (show ¬ (k = 0 ∨ k = 3 ∨ k = 4) by omega), HK1.out, HK2.out]; simp [HE.out], ?_, hnC, hC, ?_⟩
      · have hn : nextD n f k aa cc is old x = f := by
          have hk0 := HK0.out
          unfold nextD doneD
          rw [HO.out, HK1.out, HK2.out]
          simp only [if_neg hk0, if_neg (show ¬ k = 0 by omega), if_neg (show ¬ k = 1 by omega), if_neg (show ¬ k = 3 by omega), if_neg (show ¬ k = 4 by omega)]
          simp [HE.out]
        rw [hn]
        repeat' (first | with_reducible refine RowAt.setOther ?_ gB _ | with_reducible refine RowAt.setOther ?_ gB2 _)
        exact HRR.out.below (Ext.h _)
      · rw [hbw]
        repeat' (first | with_reducible exact hBw1.trans (Ext.mono_h _ hBs) | with_reducible refine below_setB ?_ (Nat.le_refl _) _ | with_reducible refine below_setB ?_ hBB2 _ | with_reducible refine below_setB ?_ gBB _)
    · have HE := Lib.hid he
      cases hi' : f cc == is
      · have HI := Lib.hid hi'
        go_wp2_with (first | (with_reducible refine ext_region _ ?_ ?_ ?_; kernel_rfl; kernel_rfl; (repeat (go_big_quiet_step (fail))); refine wpQuiet_nil ?_; rintro _ ⟨_, rfl⟩))
        refine bodyPost_ret (v := .tuple #[.agg #[.slice (some ⟨g', 0, none⟩) n C', .int .i64 (acc + 1), .bool flt], .int .u64 (0), .bool (false)]) (by simp [results, Try.results59, go_sem, m0, m1, m2, q0, q1, q2, World.cell?_setCell_same, World.cell?_setCell_other, gB, gB1, gB2, gB', gB1', gB2']) rfl ?_
        obtain ⟨r1, r2, r3, r4⟩ := HT.out
        subst r1; subst r2; subst r3; subst r4
        have hbw := HBw.out
        refine ⟨g', C', .inr (by rw [hbw]; exact gBB), by have hk0 := HK0.out; rw [HO.out]; unfold toldD doneD; rw [if_neg hk0, if_neg (show ¬ (k = 0 ∨ k = 3 ∨ k = 4) by omega), HK1.out, HK2.out]; simp [HE.out, HI.out], ?_, hnC, hC, ?_⟩
        · have hn : nextD n f k aa cc is old x = f := by
            have hk0 := HK0.out
            unfold nextD doneD
            rw [HO.out, HK1.out, HK2.out]
            simp only [if_neg hk0, if_neg (show ¬ k = 0 by omega), if_neg (show ¬ k = 1 by omega), if_neg (show ¬ k = 3 by omega), if_neg (show ¬ k = 4 by omega)]
            simp [HE.out, HI.out]
          rw [hn]
          repeat' (first | with_reducible refine RowAt.setOther ?_ gB _ | with_reducible refine RowAt.setOther ?_ gB2 _)
          exact HRR.out.below (Ext.h _)
        · rw [hbw]
          repeat' (first | with_reducible exact hBw1.trans (Ext.mono_h _ hBs) | with_reducible refine below_setB ?_ (Nat.le_refl _) _ | with_reducible refine below_setB ?_ hBB2 _ | with_reducible refine below_setB ?_ gBB _)
      · have HI := Lib.hid hi'
        go_wp2_with (first | (with_reducible refine ext_region _ ?_ ?_ ?_; kernel_rfl; kernel_rfl; (repeat (go_big_quiet_step (fail))); refine wpQuiet_nil ?_; rintro _ ⟨_, rfl⟩))
        refine bodyPost_ret (v := .tuple #[.agg #[.slice (some ⟨g', 0, none⟩) n C', .int .i64 (acc + 1), .bool flt], .int .u64 (0), .bool (true)]) (by simp [results, Try.results59, go_sem, m0, m1, m2, q0, q1, q2, World.cell?_setCell_same, World.cell?_setCell_other, gB, gB1, gB2, gB', gB1', gB2']) rfl ?_
        obtain ⟨r1, r2, r3, r4⟩ := HT.out
        subst r1; subst r2; subst r3; subst r4
        have hbw := HBw.out
        refine ⟨g', C', .inr (by rw [hbw]; exact gBB), by have hk0 := HK0.out; rw [HO.out]; unfold toldD doneD; rw [if_neg hk0, if_neg (show ¬ (k = 0 ∨ k = 3 ∨ k = 4) by omega), HK1.out, HK2.out]; simp [HE.out, HI.out], ?_, hnC, hC, ?_⟩
        · have hn : nextD n f k aa cc is old x = upd f aa x := by
            have hk0 := HK0.out
            unfold nextD doneD
            rw [HO.out, HK1.out, HK2.out]
            simp only [if_neg hk0, if_neg (show ¬ k = 0 by omega), if_neg (show ¬ k = 1 by omega), if_neg (show ¬ k = 3 by omega), if_neg (show ¬ k = 4 by omega)]
            simp [HE.out, HI.out]
          rw [hn]
          repeat' (first | with_reducible refine RowAt.setOther ?_ gB _ | with_reducible refine RowAt.setOther ?_ gB2 _)
          exact (HRR.out.below (Ext.h _)).store ha _
        · rw [hbw]
          repeat' (first | with_reducible exact hBw1.trans (Ext.mono_h _ hBs) | with_reducible refine below_setB ?_ (Nat.le_refl _) _ | with_reducible refine below_setB ?_ hBB2 _ | with_reducible refine below_setB ?_ gBB _)
theorem rdo (g n C : Nat) (f : Nat → Int) (acc k a c is old x : Int) (flt : Bool) (w : World) (h : RowAt w g n f) (n1 : 1 ≤ n) (n2 : n ≤ 4096) (nC : n ≤ C) (cC : C ≤ 9223372036854775807) (c0 : 0 ≤ acc) (c1 : acc < 4611686018427387904)
    (rng : ∀ i, i < n → 0 ≤ f i ∧ f i < 18446744073709551616) (x0 : 0 ≤ x) (x1 : x < 18446744073709551616) :
    Calls Try.prog 59 #[.agg #[.slice (some ⟨g, 0, none⟩) n C, .int .i64 acc, .bool flt], .agg #[.int .i64 k, .int .i64 a, .int .i64 c, .int .u64 is, .int .u64 old, .int .u64 x]] w (RdoPost w g n (nextD n f k a c is old x) (acc + 1) (flt || !okD n k a c) (toldD n f k a) (doneD n f k a c is old)) := by
  cases hO : okD n k a c
  · rw [← hO]; exact rdoF g n C f _ acc k a c is old x _ flt _ _ w h n1 n2 nC cC c0 c1 rng x0 x1 ⟨rfl, rfl, rfl, rfl⟩ hO
  · rw [← hO]; exact rdoK g n C f _ acc k a c is old x _ flt _ _ w h n1 n2 nC cC c0 c1 rng x0 x1 ⟨rfl, rfl, rfl, rfl⟩ hO
end Go.Proofs.Ytkkdehniheajeaa.Mm
