/- Layer 36: the law's walk: the schedules. -/
import Derived.Test.YtminbfingjbbbaaTurnD
import Derived.Test.YtminbfingjbbbaaXplS
namespace Go.Proofs.Ytminbfingjbbbaa
open Go.RowKit
set_option linter.unusedVariables false
set_option linter.unusedSimpArgs false
theorem Kb.below {B0 B : Nat} {S : List Nat} {V w' : World} (k : Kb B S V w') (h0 : B0 ≤ B) (hs : ∀ x ∈ S, B0 ≤ x) : Below B0 V w' :=
  ⟨k.os, k.tape, k.output, k.size, fun q hq => k.block q (Nat.lt_of_lt_of_le hq h0) (fun h => absurd (hs q h) (Nat.not_le.2 hq))⟩
theorem ownO_some {w : World} {B m c : Nat} {q : Option Addr} {L : List (PL × Value)} (h : OwnO w B (.slice q m c) L) : ∃ g, 0 < L.length → q = some ⟨g, 0, none⟩ := by
  by_cases h0 : 0 < L.length
  · obtain ⟨u, hu⟩ := get_of h0
    obtain ⟨g, hg, _⟩ := ownO_cell h hu
    exact ⟨g, fun _ => hg⟩
  · exact ⟨0, fun h => absurd h h0⟩
/-- The rows of all schedules, later on. -/
theorem rows_of {w' : World} {Bo N c g : Nat} {L : List (PL × Value)} {Z : List PL} (h : OwnO w' Bo (.slice (some ⟨g, 0, none⟩) N c) L) (hL : L.map Prod.fst = Z) {j : Nat} {q : PL} (hq : Z[j]? = some q) : ∃ rv, w'.cell? ⟨g, j, none⟩ = some rv ∧ PR w' rv q := by
  have hj : j < L.length := by rw [map_len hL]; exact (List.getElem?_eq_some_iff.1 hq).1
  obtain ⟨u, hu⟩ := get_of hj
  have h1 := map_get hL hu
  rw [hq] at h1
  injection h1 with h1
  refine ⟨u.2, ownO_cell' h hu, ?_⟩
  rw [h1]
  exact ownR_PR (h.2 u (List.mem_of_getElem? hu))
theorem est_of {w V2 w3 V4 : World} {B ab ib Bo N c g t m k : Nat} {q : Option Addr} {till : Int} {L : List (PL × Value)} (h2 : QA w V2 B ab t m k till (.slice q N c)) (h3 : Q3 V2 w3 ab t m k) (h4 : Q4 w3 V4 ib)
    (hF : QF w V4 B ab ib t m k till (.slice q N c)) (hO : OwnO V2 Bo (.slice q N c) L) (hL : L.map Prod.fst = itL t m k) (hN : L.length = N) (h6 : N ≤ 6000) (hg : 0 < L.length → q = some ⟨g, 0, none⟩) :
    Est V4 (ib + 1) ib (ab + 1 + 1 + 1) (ab + 1) (ab + 1 + 1) ab (B + 1) g N c t m k till (itL t m k) := by
  have hs := hF.s
  have hei := hF.ei
  have hl := hF.l
  refine ⟨hF.f, hF.i, ⟨by omega, by omega, by omega⟩, fun w' kk => ⟨?_, ?_, ?_, fun h0 => ?_, ?_⟩, fun w' kk j p hp => ?_, ⟨by rw [← hN, map_len hL], h6⟩⟩
  · exact kk.cell (by rw [cell_of_row _ _ _ _ _ (0, 0) hF.k]; rfl) (by omega) (by simp; omega)
  · exact kk.cell (by rw [cell_of_row _ _ _ _ _ (0, 0) hF.t]; rfl) (by omega) (by simp; omega)
  · exact kk.cell (by rw [cell_of_row _ _ _ _ _ (0, 0) hF.m]; rfl) (by omega) (by simp; omega)
  · rw [← hg (by omega)]
    exact kk.cell (by rw [cell_of_row _ _ _ _ _ (0, 0) hF.al]; rfl) (by omega) (by simp; omega)
  · exact kk.cell (by rw [cell_of_row _ _ _ _ _ (0, 0) hF.n]; rfl) (by omega) (by simp; omega)
  · have hj : 0 < L.length := by rw [map_len hL]; exact Nat.lt_of_le_of_lt (Nat.zero_le _) (List.getElem?_eq_some_iff.1 hp).1
    have e4 := h4.e
    have hb : Below w3.heap.size w3 w' := h4.b.trans (kk.below (by omega) (by simp; omega))
    have hO' := (hO.on h3.b).on hb
    rw [hg hj] at hO'
    exact rows_of hO' hL hp
theorem no_big {M : Nat} (h : M ≤ 3000) : ¬ (3000 : Int) < (M : Nat) := by omega
theorem same_int (N : Nat) : ((N : Int) != (N : Int)) = false := by simp
/-- When all are told. -/
structure Q5 (w w5 : World) (B ab ib : Nat) (t m k till : Int) (av : Value) (i : Int) : Prop where
  a : w5.heap[B]? = some (.cells #[.int .i64 t, .int .i64 m, .int .i64 k] 22 (0, 0))
  n : w5.heap[B + 1]? = some (.cells #[.int .i64 till] 3 (0, 0))
  al : w5.heap[ab]? = some (.cells #[av] 25 (0, 0))
  f : w5.heap[ib + 1]? = some (.cells #[.bool true] 4 (0, 0))
  i : w5.heap[ib]? = some (.cells #[.int .i64 i] 3 (0, 0))
  b : Below w.heap.size w w5
theorem go5 {w V4 w5 : World} {B ab ib : Nat} {t m k till i : Int} {av : Value} (h : QF w V4 B ab ib t m k till av) (kk : Kb V4.heap.size [ib + 1, ib] V4 w5) (hf : w5.heap[ib + 1]? = some (.cells #[.bool true] 4 (0, 0))) (hi : w5.heap[ib]? = some (.cells #[.int .i64 i] 3 (0, 0))) : Q5 w w5 B ab ib t m k till av i := by
  have hs := h.s
  have hl := h.l
  have he := h.ei
  have hb := h.eb
  exact ⟨kk.upk h.a (by simp; omega), kk.upk h.n (by simp; omega), kk.upk h.al (by simp; omega), hf, hi, h.b.trans (kk.below (by omega) (by simp; omega))⟩
theorem want_a {i till : Int} {N : Nat} (h : i = till ∧ Stp till 0 N ∨ i = N ∧ ¬ Stp till 0 N) (h0 : ¬ 0 < till) : i = N := by unfold Stp at h; omega
theorem want_b {i till : Int} {N : Nat} (h : i = till ∧ Stp till 0 N ∨ i = N ∧ ¬ Stp till 0 N) (h0 : 0 < till) (hl : till < N) : i = till := by unfold Stp at h; omega
theorem want_c {i till : Int} {N : Nat} (h : i = till ∧ Stp till 0 N ∨ i = N ∧ ¬ Stp till 0 N) (hl : ¬ till < N) : i = N := by unfold Stp at h; omega
theorem not_neg {n : Int} (h : ¬ n < 0) : 0 ≤ n := by omega
theorem to_nat {n : Int} (h : ¬ n < 0) : n = (n.toNat : Nat) := by omega
theorem nle_nat {N j : Nat} (h : ¬ (N : Int) ≤ (j : Int)) : j < N := by omega
set_option maxHeartbeats 2000000 in
theorem law_go (t m k : Nat) (n till : Int) (w : World) (ht : 1 ≤ t ∧ t ≤ 6) (hm : 1 ≤ m ∧ m ≤ 1000) (hk : k ≤ 4) (hs : manyL t m k ≤ 3000) :
    Calls Try.prog 3 #[.agg #[.int .i64 t, .int .i64 m, .int .i64 k], .int .i64 n, .int .i64 till] w fun e w' => e = .returned (.bool true) ∧ Below w.heap.size w w' := by
  refine Calls.veil fun Q HQ => ?_
  go_enter Try.func3, Try.ntmps3
  go_upto_region 1 with fail
  generalize hV : World.alloc _ _ = V
  obtain ⟨B, hB⟩ : ∃ b, b = w.heap.size := ⟨_, rfl⟩
  have HV := Lib.hid (show QB w V B t m k till by
    rw [← hV, hB]
    obtain ⟨h1, h2, h3, h4⟩ := boxes2 w (.cells #[.int .i64 t, .int .i64 m, .int .i64 k] 22) (.cells #[.int .i64 till] 3)
    exact ⟨h1, h2, h3, h4, rfl⟩)
  rw [← hB]
  clear hV hB
  have a0 : V.cell? ⟨B, 0, none⟩ = some (.int .i64 t) := by rw [cell_of_row _ _ _ _ _ (0, 0) HV.out.a]; rfl
  have a1 : V.cell? ⟨B, 1, none⟩ = some (.int .i64 m) := by rw [cell_of_row _ _ _ _ _ (0, 0) HV.out.a]; rfl
  have a2 : V.cell? ⟨B, 2, none⟩ = some (.int .i64 k) := by rw [cell_of_row _ _ _ _ _ (0, 0) HV.out.a]; rfl
  have x0 := Ext.on a0
  have x1 := Ext.on a1
  have x2 := Ext.on a2
  have HX := Lib.hid (And.intro ht (And.intro hm hk))
  have HS := Lib.hid hs
  obtain ⟨N, hN⟩ : ∃ N, N = manyL t m k := ⟨_, rfl⟩
  rw [← hN] at hs
  have hbi := no_big hs
  have hnn := same_int N
  have HN := Lib.hid hN
  have HN3 := Lib.hid hs
  clear ht hm hk hs
  go_upto_region 2 with fail
  refine (rmany t m k _ HX.out.1 HX.out.2.1 HX.out.2.2).mono ?_; rintro _ w1 ⟨rfl, hw1⟩
  rw [hw1, ← HN.out]
  clear hw1
  go_upto_region 3 with fail
  refine (xcount t m k _ HX.out.1 HX.out.2.1 HX.out.2.2).mono ?_; rintro _ w1 ⟨rfl, hw1⟩
  rw [hw1, ← HN.out]
  clear hw1 hN
  go_upto_region 7 with fail
  refine (rall t m k _ HX.out.1 HX.out.2.1 HX.out.2.2 HS.out).mono ?_; rintro _ w1 ⟨ov, L, rfl, ho1, ho2, hw1⟩
  have HW1 := Lib.hid hw1
  have HL := Lib.hid ho2
  have hLN : L.length = N := by rw [map_len ho2, it_many, HN.out]
  have HLN := Lib.hid hLN
  obtain ⟨q, c, rfl⟩ := ownO_slice ho1
  rw [hLN] at ho1
  rw [hLN]
  have HO1 := Lib.hid ho1
  clear ho1 ho2 hLN
  clear hw1 x0 x1 x2
  go_upto_region 7 with fail
  generalize hV2 : World.alloc _ _ = V2
  obtain ⟨ab, hab⟩ : ∃ b, b = w1.heap.size := ⟨_, rfl⟩
  have hABB : B + 2 ≤ ab := by rw [hab]; exact Nat.le_trans (Nat.le_of_eq HV.out.s.symm) HW1.out.size
  have HV2 := Lib.hid (show QA w V2 B ab t m k till (.slice q N c) by
    rw [← hV2]
    have hbn : Below V.heap.size V (w1.alloc (.cells #[.slice q N c] 25)) := below_new HW1.out _
    exact ⟨upk hbn HV.out.a, upk hbn HV.out.n, by rw [hab]; exact heap_alloc_new _ _, HV.out.b.trans (hbn.mono (by have := HV.out.s; have := HV.out.e; omega)), by rw [hab]; simp, hABB, HV.out.e⟩)
  have HO2 := Lib.hid (show OwnO V2 V.heap.size (.slice q N c) L by rw [← hV2]; exact HO1.out.on (below_new (Below.refl _ _) _))
  rw [← hab]
  have HAB := Lib.hid hABB
  clear hV2 hab hABB HV a0 a1 a2
  have a0 : V2.cell? ⟨B, 0, none⟩ = some (.int .i64 t) := by rw [cell_of_row _ _ _ _ _ (0, 0) HV2.out.a]; rfl
  have a1 : V2.cell? ⟨B, 1, none⟩ = some (.int .i64 m) := by rw [cell_of_row _ _ _ _ _ (0, 0) HV2.out.a]; rfl
  have a2 : V2.cell? ⟨B, 2, none⟩ = some (.int .i64 k) := by rw [cell_of_row _ _ _ _ _ (0, 0) HV2.out.a]; rfl
  have x0 := Ext.on a0
  have x1 := Ext.on a1
  have x2 := Ext.on a2
  go_upto_region 8 with fail
  refine (xeach t m k _).mono ?_; rintro _ w3 ⟨rfl, he1, he2, he3, he4, he5⟩
  rw [HV2.out.s] at he1 he2 he3 he4 he5 ⊢
  have H3 := Lib.hid (show Q3 V2 w3 ab t m k from ⟨he1, he2, he3, by rw [HV2.out.s]; exact he4, by omega⟩)
  clear he1 he2 he3 he4 he5 x0 x1 x2 a0 a1 a2
  have b0 : w3.cell? ⟨ab, 0, none⟩ = some (.slice q N c) := by rw [cell_of_row _ _ _ _ _ (0, 0) (upk H3.out.b HV2.out.al)]; rfl
  have hqs := qSeq 14 #[.pointer (some ⟨ab + 1, 0, none⟩), .pointer (some ⟨ab + 1 + 1, 0, none⟩), .pointer (some ⟨ab + 1 + 1 + 1, 0, none⟩)]
  go_upto_region 12 with fail
  generalize hV4 : World.alloc _ _ = V4
  obtain ⟨ib, hib⟩ : ∃ b, b = w3.heap.size := ⟨_, rfl⟩
  have H4 := Lib.hid (show Q4 w3 V4 ib by
    rw [← hV4, hib]
    obtain ⟨h1, h2, h3, h4⟩ := boxes2 w3 (.cells #[.int .i64 0] 3) (.cells #[.bool true] 4)
    exact ⟨h1, h2, h3, h4, rfl⟩)
  rw [← hib]
  have HIB := Lib.hid (show ib = ab + 1 + 3 by rw [hib]; exact H3.out.s)
  clear hV4 hib b0 hqs
  have HQ4 := Lib.hid (show QF w V4 B ab ib t m k till (.slice q N c) from Q4.join HV2.out H3.out H4.out HIB.out)
  obtain ⟨g, hg⟩ := ownO_some HO2.out
  have HG := Lib.hid hg
  have HE := Lib.hid (est_of HV2.out H3.out H4.out HQ4.out HO2.out HL.out HLN.out (Nat.le_trans HN3.out (by decide)) hg)
  clear hg hbi hnn
  go_upto_region 13 with fail
  refine (xeach1 V4 (ib + 1) ib (ab + 1 + 1 + 1) (ab + 1) (ab + 1 + 1) ab (B + 1) g N c t m k till HX.out.1 HX.out.2.1 HX.out.2.2 HE.out).mono ?_; rintro _ w5 ⟨i5, rfl, hf5, hi5, hk5, hw5⟩
  have HO5 := Lib.hid (show OwnO w5 V.heap.size (.slice q N c) L from
    (HO2.out.on H3.out.b).on (H4.out.b.trans (hk5.below (by have := H4.out.s; have := H4.out.e; omega) (by have := H4.out.e; simp; omega))))
  have H5 := Lib.hid (go5 HQ4.out hk5 hf5 hi5)
  have HI := Lib.hid hw5
  clear hw5 hf5 hi5 hk5 HE
  have d0 : w5.cell? ⟨ab, 0, none⟩ = some (.slice q N c) := by rw [cell_of_row _ _ _ _ _ (0, 0) H5.out.al]; rfl
  have d1 : w5.cell? ⟨B + 1, 0, none⟩ = some (.int .i64 till) := by rw [cell_of_row _ _ _ _ _ (0, 0) H5.out.n]; rfl
  have e0 : w5.cell? ⟨B, 0, none⟩ = some (.int .i64 t) := by rw [cell_of_row _ _ _ _ _ (0, 0) H5.out.a]; rfl
  have e1 : w5.cell? ⟨B, 1, none⟩ = some (.int .i64 m) := by rw [cell_of_row _ _ _ _ _ (0, 0) H5.out.a]; rfl
  have e2 : w5.cell? ⟨B, 2, none⟩ = some (.int .i64 k) := by rw [cell_of_row _ _ _ _ _ (0, 0) H5.out.a]; rfl
  have x0 := Ext.on e0
  have x1 := Ext.on e1
  have x2 := Ext.on e2
  by_cases ht : 0 < till
  · by_cases hl : till < (N : Int)
    · obtain rfl : i5 = till := want_b HI.out ht hl
      clear HI
      by_cases hn : n < 0
      · have HZ := hn
        have d2 : w5.cell? ⟨ib, 0, none⟩ = some (.int .i64 i5) := by rw [cell_of_row _ _ _ _ _ (0, 0) H5.out.i]; rfl
        have d3 : w5.cell? ⟨ib + 1, 0, none⟩ = some (.bool true) := by rw [cell_of_row _ _ _ _ _ (0, 0) H5.out.f]; rfl
        go_upto_region 17 with fail
        refine (xat_neg t m k n _ hn).mono ?_; rintro _ w6 ⟨rfl, hw6⟩
        rw [← hw6]
        clear hw6 x0 x1 x2 e0 e1 e2
        go_wp2_with fail
        refine (lives36_calls _).mono ?_; rintro _ w7 ⟨rfl, hw7⟩
        have H7 := Lib.hid hw7
        clear hw7
        go_wp2_with fail
        (try go_ret)
        rw [HQ.out]
        exact ⟨rfl, H5.out.b.trans (H7.out.mono H5.out.b.size)⟩
      · by_cases hnN : (N : Int) ≤ n
        · have hn0 : 0 ≤ n := not_neg hn
          have d2 : w5.cell? ⟨ib, 0, none⟩ = some (.int .i64 i5) := by rw [cell_of_row _ _ _ _ _ (0, 0) H5.out.i]; rfl
          have d3 : w5.cell? ⟨ib + 1, 0, none⟩ = some (.bool true) := by rw [cell_of_row _ _ _ _ _ (0, 0) H5.out.f]; rfl
          go_upto_region 17 with fail
          refine (xat_far t m k n (N : Int) _ (fun W => by rw [HN.out]; exact xcount t m k W HX.out.1 HX.out.2.1 HX.out.2.2) (Int.not_lt.2 hn0) hnN).mono ?_; rintro _ w6 ⟨rfl, hw6⟩
          rw [← hw6]
          clear hw6 x0 x1 x2 e0 e1 e2
          go_wp2_with fail
          refine (lives36_calls _).mono ?_; rintro _ w7 ⟨rfl, hw7⟩
          have H7 := Lib.hid hw7
          clear hw7
          go_wp2_with fail
          (try go_ret)
          rw [HQ.out]
          exact ⟨rfl, H5.out.b.trans (H7.out.mono H5.out.b.size)⟩
        · obtain ⟨j, hj⟩ : ∃ j : Nat, n = j := ⟨n.toNat, to_nat hn⟩
          rw [hj] at hn hnN ⊢
          have hjN : j < N := nle_nat hnN
          have HJ := Lib.hid hjN
          have hjI := lt_int hjN
          have hj0 : (0 : Int) ≤ (j : Int) := Int.natCast_nonneg j
          have h0N : 0 < N := Nat.lt_of_le_of_lt (Nat.zero_le _) hjN
          have hqg := HG.out (by rw [HLN.out]; exact h0N)
          rw [hqg] at HO5 H5 d0 ⊢
          have h0I : (0 : Int) < (N : Int) := pos_int (Nat.ne_of_gt h0N)
          clear hj hjN hqg HO1 HO2 HV2 HQ4 HG H3 H4
          go_upto_region 17 with fail
          refine (xat t m k j _ HX.out.1 HX.out.2.1 HX.out.2.2 (by rw [← HN.out]; exact HJ.out)).mono ?_; rintro _ w6 ⟨v6, rfl, hp6, hw6⟩
          have H6 := Lib.hid hw6
          have HP6 := Lib.hid hp6
          have HM5 := Lib.hid (show (itL t m k)[j]? = some (atL t m k j []) from at_all t m k j (Nat.lt_of_lt_of_le Nat.zero_lt_one HX.out.2.1.1) (by rw [← HN.out]; exact HJ.out))
          obtain ⟨rv, hr1, hr2⟩ := rows_of (HO5.out.on H6.out) HL.out HM5.out
          have HR := Lib.hid hr2
          have d0 : w6.cell? ⟨ab, 0, none⟩ = some (.slice (some ⟨g, 0, none⟩) N c) := by rw [cell_of_row _ _ _ _ _ (0, 0) (upk H6.out H5.out.al)]; rfl
          have d2 : w6.cell? ⟨ib, 0, none⟩ = some (.int .i64 i5) := by rw [cell_of_row _ _ _ _ _ (0, 0) (upk H6.out H5.out.i)]; rfl
          have d3 : w6.cell? ⟨ib + 1, 0, none⟩ = some (.bool true) := by rw [cell_of_row _ _ _ _ _ (0, 0) (upk H6.out H5.out.f)]; rfl
          have HPL := Lib.hid (show (atL t m k j []).length ≤ 100000 by rw [it_len (List.mem_of_getElem? HM5.out)]; exact Nat.le_trans HX.out.2.2 (by decide))
          clear hw6 hp6 hr2 x0 x1 x2 e0 e1 e2
          go_wp2_with fail
          refine (xsame (atL t m k j []) v6 rv _ HP6.out HR.out HPL.out).mono ?_; rintro _ w7 ⟨rfl, hw7⟩
          have H7 := Lib.hid hw7
          clear hw7
          go_wp2_with fail
          refine (lives36_calls _).mono ?_; rintro _ w8 ⟨rfl, hw8⟩
          have H8 := Lib.hid hw8
          clear hw8
          go_wp2_with fail
          (try go_ret)
          rw [HQ.out]
          have hb6 := H6.out.mono H5.out.b.size
          have hb7 := hb6.trans (H7.out.mono (Nat.le_trans H5.out.b.size H6.out.size))
          exact ⟨rfl, H5.out.b.trans (hb7.trans (H8.out.mono (Nat.le_trans (Nat.le_trans H5.out.b.size H6.out.size) H7.out.size)))⟩
    · obtain rfl : i5 = (N : Int) := want_c HI.out hl
      clear HI
      by_cases hn : n < 0
      · have HZ := hn
        have d2 : w5.cell? ⟨ib, 0, none⟩ = some (.int .i64 N) := by rw [cell_of_row _ _ _ _ _ (0, 0) H5.out.i]; rfl
        have d3 : w5.cell? ⟨ib + 1, 0, none⟩ = some (.bool true) := by rw [cell_of_row _ _ _ _ _ (0, 0) H5.out.f]; rfl
        go_upto_region 17 with fail
        refine (xat_neg t m k n _ hn).mono ?_; rintro _ w6 ⟨rfl, hw6⟩
        rw [← hw6]
        clear hw6 x0 x1 x2 e0 e1 e2
        go_wp2_with fail
        refine (lives36_calls _).mono ?_; rintro _ w7 ⟨rfl, hw7⟩
        have H7 := Lib.hid hw7
        clear hw7
        go_wp2_with fail
        (try go_ret)
        rw [HQ.out]
        exact ⟨rfl, H5.out.b.trans (H7.out.mono H5.out.b.size)⟩
      · by_cases hnN : (N : Int) ≤ n
        · have hn0 : 0 ≤ n := not_neg hn
          have d2 : w5.cell? ⟨ib, 0, none⟩ = some (.int .i64 N) := by rw [cell_of_row _ _ _ _ _ (0, 0) H5.out.i]; rfl
          have d3 : w5.cell? ⟨ib + 1, 0, none⟩ = some (.bool true) := by rw [cell_of_row _ _ _ _ _ (0, 0) H5.out.f]; rfl
          go_upto_region 17 with fail
          refine (xat_far t m k n (N : Int) _ (fun W => by rw [HN.out]; exact xcount t m k W HX.out.1 HX.out.2.1 HX.out.2.2) (Int.not_lt.2 hn0) hnN).mono ?_; rintro _ w6 ⟨rfl, hw6⟩
          rw [← hw6]
          clear hw6 x0 x1 x2 e0 e1 e2
          go_wp2_with fail
          refine (lives36_calls _).mono ?_; rintro _ w7 ⟨rfl, hw7⟩
          have H7 := Lib.hid hw7
          clear hw7
          go_wp2_with fail
          (try go_ret)
          rw [HQ.out]
          exact ⟨rfl, H5.out.b.trans (H7.out.mono H5.out.b.size)⟩
        · obtain ⟨j, hj⟩ : ∃ j : Nat, n = j := ⟨n.toNat, to_nat hn⟩
          rw [hj] at hn hnN ⊢
          have hjN : j < N := nle_nat hnN
          have HJ := Lib.hid hjN
          have hjI := lt_int hjN
          have hj0 : (0 : Int) ≤ (j : Int) := Int.natCast_nonneg j
          have h0N : 0 < N := Nat.lt_of_le_of_lt (Nat.zero_le _) hjN
          have hqg := HG.out (by rw [HLN.out]; exact h0N)
          rw [hqg] at HO5 H5 d0 ⊢
          have h0I : (0 : Int) < (N : Int) := pos_int (Nat.ne_of_gt h0N)
          clear hj hjN hqg HO1 HO2 HV2 HQ4 HG H3 H4
          go_upto_region 17 with fail
          refine (xat t m k j _ HX.out.1 HX.out.2.1 HX.out.2.2 (by rw [← HN.out]; exact HJ.out)).mono ?_; rintro _ w6 ⟨v6, rfl, hp6, hw6⟩
          have H6 := Lib.hid hw6
          have HP6 := Lib.hid hp6
          have HM5 := Lib.hid (show (itL t m k)[j]? = some (atL t m k j []) from at_all t m k j (Nat.lt_of_lt_of_le Nat.zero_lt_one HX.out.2.1.1) (by rw [← HN.out]; exact HJ.out))
          obtain ⟨rv, hr1, hr2⟩ := rows_of (HO5.out.on H6.out) HL.out HM5.out
          have HR := Lib.hid hr2
          have d0 : w6.cell? ⟨ab, 0, none⟩ = some (.slice (some ⟨g, 0, none⟩) N c) := by rw [cell_of_row _ _ _ _ _ (0, 0) (upk H6.out H5.out.al)]; rfl
          have d2 : w6.cell? ⟨ib, 0, none⟩ = some (.int .i64 N) := by rw [cell_of_row _ _ _ _ _ (0, 0) (upk H6.out H5.out.i)]; rfl
          have d3 : w6.cell? ⟨ib + 1, 0, none⟩ = some (.bool true) := by rw [cell_of_row _ _ _ _ _ (0, 0) (upk H6.out H5.out.f)]; rfl
          have HPL := Lib.hid (show (atL t m k j []).length ≤ 100000 by rw [it_len (List.mem_of_getElem? HM5.out)]; exact Nat.le_trans HX.out.2.2 (by decide))
          clear hw6 hp6 hr2 x0 x1 x2 e0 e1 e2
          go_wp2_with fail
          refine (xsame (atL t m k j []) v6 rv _ HP6.out HR.out HPL.out).mono ?_; rintro _ w7 ⟨rfl, hw7⟩
          have H7 := Lib.hid hw7
          clear hw7
          go_wp2_with fail
          refine (lives36_calls _).mono ?_; rintro _ w8 ⟨rfl, hw8⟩
          have H8 := Lib.hid hw8
          clear hw8
          go_wp2_with fail
          (try go_ret)
          rw [HQ.out]
          have hb6 := H6.out.mono H5.out.b.size
          have hb7 := hb6.trans (H7.out.mono (Nat.le_trans H5.out.b.size H6.out.size))
          exact ⟨rfl, H5.out.b.trans (hb7.trans (H8.out.mono (Nat.le_trans (Nat.le_trans H5.out.b.size H6.out.size) H7.out.size)))⟩
  · obtain rfl : i5 = (N : Int) := want_a HI.out ht
    clear HI
    by_cases hn : n < 0
    · have HZ := hn
      have d2 : w5.cell? ⟨ib, 0, none⟩ = some (.int .i64 N) := by rw [cell_of_row _ _ _ _ _ (0, 0) H5.out.i]; rfl
      have d3 : w5.cell? ⟨ib + 1, 0, none⟩ = some (.bool true) := by rw [cell_of_row _ _ _ _ _ (0, 0) H5.out.f]; rfl
      go_upto_region 17 with fail
      refine (xat_neg t m k n _ hn).mono ?_; rintro _ w6 ⟨rfl, hw6⟩
      rw [← hw6]
      clear hw6 x0 x1 x2 e0 e1 e2
      go_wp2_with fail
      refine (lives36_calls _).mono ?_; rintro _ w7 ⟨rfl, hw7⟩
      have H7 := Lib.hid hw7
      clear hw7
      go_wp2_with fail
      (try go_ret)
      rw [HQ.out]
      exact ⟨rfl, H5.out.b.trans (H7.out.mono H5.out.b.size)⟩
    · by_cases hnN : (N : Int) ≤ n
      · have hn0 : 0 ≤ n := not_neg hn
        have d2 : w5.cell? ⟨ib, 0, none⟩ = some (.int .i64 N) := by rw [cell_of_row _ _ _ _ _ (0, 0) H5.out.i]; rfl
        have d3 : w5.cell? ⟨ib + 1, 0, none⟩ = some (.bool true) := by rw [cell_of_row _ _ _ _ _ (0, 0) H5.out.f]; rfl
        go_upto_region 17 with fail
        refine (xat_far t m k n (N : Int) _ (fun W => by rw [HN.out]; exact xcount t m k W HX.out.1 HX.out.2.1 HX.out.2.2) (Int.not_lt.2 hn0) hnN).mono ?_; rintro _ w6 ⟨rfl, hw6⟩
        rw [← hw6]
        clear hw6 x0 x1 x2 e0 e1 e2
        go_wp2_with fail
        refine (lives36_calls _).mono ?_; rintro _ w7 ⟨rfl, hw7⟩
        have H7 := Lib.hid hw7
        clear hw7
        go_wp2_with fail
        (try go_ret)
        rw [HQ.out]
        exact ⟨rfl, H5.out.b.trans (H7.out.mono H5.out.b.size)⟩
      · obtain ⟨j, hj⟩ : ∃ j : Nat, n = j := ⟨n.toNat, to_nat hn⟩
        rw [hj] at hn hnN ⊢
        have hjN : j < N := nle_nat hnN
        have HJ := Lib.hid hjN
        have hjI := lt_int hjN
        have hj0 : (0 : Int) ≤ (j : Int) := Int.natCast_nonneg j
        have h0N : 0 < N := Nat.lt_of_le_of_lt (Nat.zero_le _) hjN
        have hqg := HG.out (by rw [HLN.out]; exact h0N)
        rw [hqg] at HO5 H5 d0 ⊢
        have h0I : (0 : Int) < (N : Int) := pos_int (Nat.ne_of_gt h0N)
        clear hj hjN hqg HO1 HO2 HV2 HQ4 HG H3 H4
        go_upto_region 17 with fail
        refine (xat t m k j _ HX.out.1 HX.out.2.1 HX.out.2.2 (by rw [← HN.out]; exact HJ.out)).mono ?_; rintro _ w6 ⟨v6, rfl, hp6, hw6⟩
        have H6 := Lib.hid hw6
        have HP6 := Lib.hid hp6
        have HM5 := Lib.hid (show (itL t m k)[j]? = some (atL t m k j []) from at_all t m k j (Nat.lt_of_lt_of_le Nat.zero_lt_one HX.out.2.1.1) (by rw [← HN.out]; exact HJ.out))
        obtain ⟨rv, hr1, hr2⟩ := rows_of (HO5.out.on H6.out) HL.out HM5.out
        have HR := Lib.hid hr2
        have d0 : w6.cell? ⟨ab, 0, none⟩ = some (.slice (some ⟨g, 0, none⟩) N c) := by rw [cell_of_row _ _ _ _ _ (0, 0) (upk H6.out H5.out.al)]; rfl
        have d2 : w6.cell? ⟨ib, 0, none⟩ = some (.int .i64 N) := by rw [cell_of_row _ _ _ _ _ (0, 0) (upk H6.out H5.out.i)]; rfl
        have d3 : w6.cell? ⟨ib + 1, 0, none⟩ = some (.bool true) := by rw [cell_of_row _ _ _ _ _ (0, 0) (upk H6.out H5.out.f)]; rfl
        have HPL := Lib.hid (show (atL t m k j []).length ≤ 100000 by rw [it_len (List.mem_of_getElem? HM5.out)]; exact Nat.le_trans HX.out.2.2 (by decide))
        clear hw6 hp6 hr2 x0 x1 x2 e0 e1 e2
        go_wp2_with fail
        refine (xsame (atL t m k j []) v6 rv _ HP6.out HR.out HPL.out).mono ?_; rintro _ w7 ⟨rfl, hw7⟩
        have H7 := Lib.hid hw7
        clear hw7
        go_wp2_with fail
        refine (lives36_calls _).mono ?_; rintro _ w8 ⟨rfl, hw8⟩
        have H8 := Lib.hid hw8
        clear hw8
        go_wp2_with fail
        (try go_ret)
        rw [HQ.out]
        have hb6 := H6.out.mono H5.out.b.size
        have hb7 := hb6.trans (H7.out.mono (Nat.le_trans H5.out.b.size H6.out.size))
        exact ⟨rfl, H5.out.b.trans (hb7.trans (H8.out.mono (Nat.le_trans (Nat.le_trans H5.out.b.size H6.out.size) H7.out.size)))⟩

end Go.Proofs.Ytminbfingjbbbaa
