/- Layer 18: the reference's Set and Lags; same. -/
import Derived.Test.YtjpkmkaiojnhgaaEpoM
namespace Go.Proofs.Ytjpkmkaiojnhgaa
open Go.RowKit WordM EdgeM
set_option linter.unusedVariables false
set_option linter.unusedSimpArgs false
/-- A row of words of its own, one of which is written. -/
theorem own_set {w : World} {B g n c k : Nat} {F : Nat → Int} (h : Th.OwnL 27 w B (.slice (some ⟨g, 0, none⟩) n c) n (Th.ucells n F)) (hk : k < n) (v : Int) : Th.OwnL 27 (w.setCell ⟨g, k, none⟩ (.int .u64 v)) B (.slice (some ⟨g, 0, none⟩) n c) n (Th.ucells n (Mm.upd F k v)) := by
  refine ⟨by simp [Th.ucells], ?_⟩
  rcases h.2 with ⟨h0, _⟩ | ⟨g', cap, cur, hv, hb, hh, h1, h2, h3, h4⟩
  · simp at h0
  · simp only [Value.slice.injEq, Option.some.injEq, Addr.mk.injEq, true_and, and_true] at hv
    obtain ⟨rfl, rfl⟩ := hv
    refine .inr ⟨g, c, _, rfl, hb, heap_setCell_same w g k _ _ (.int .u64 v) hh, h1, h2, by simpa using h3, ?_⟩
    rw [Nat.mul_one] at h4 ⊢
    apply List.ext_getElem?
    intro j
    by_cases hj : j < n
    · rw [List.getElem?_take_of_lt hj, Array.toList_setIfInBounds, List.getElem?_set, Th.ucells_get hj]
      have h5 : cur.toList[j]? = (Th.ucells n F)[j]? := by rw [← h4, List.getElem?_take_of_lt hj]
      rw [Th.ucells_get hj] at h5
      by_cases e : k = j
      · subst e
        rw [if_pos rfl]
        have : k < cur.toList.length := (List.getElem?_eq_some_iff.1 h5).1
        rw [if_pos this]; unfold Mm.upd; rw [if_pos rfl]
      · rw [if_neg e, h5]; unfold Mm.upd; rw [if_neg (Ne.symm e)]
    · rw [List.getElem?_eq_none (by simp; omega), List.getElem?_eq_none (by rw [Th.ucells_len]; omega)]
theorem words_ucells (n : Nat) (F : Nat → Int) : Mm.wordsL n F = Th.ucells n F := rfl
set_option maxRecDepth 8000 in
set_option maxHeartbeats 2000000 in
theorem rset {w : World} {B t : Nat} {e : Int} {sv : Value} {F : Nat → Int} (h : Th.OwnL 27 w B sv t (Th.ucells t F)) (t6 : t ≤ 4000) {k : Nat} (hk : k < t) (v : Int) :
    Calls Try.prog 9 #[.agg #[.int .u64 e, sv], .int .i64 k, .int .u64 v] w fun x w' => ∃ sv', x = .returned (.agg #[.int .u64 e, sv']) ∧ Th.OwnL 27 w' w.heap.size sv' t (Th.ucells t (Mm.upd F k v)) ∧ Below w.heap.size w w' := by
  obtain ⟨i0, hi, hz0, hz1, hz2⟩ := info_parts Mm.info64
  rcases h.parts with ⟨_, h0⟩ | ⟨g, c, rfl, h1, h2, _, h4, _, _, _, _, hcell⟩
  · omega
  have hcell : ∀ i, i < t → w.cell? ⟨g, i, none⟩ = some (.int .u64 (F i)) := fun i hi => hcell i _ hi (Th.ucells_get hi)
  refine Calls.veil fun Q HQ => ?_
  have HC := Lib.hid hcell
  clear h hcell
  go_enter Try.func9, Try.ntmps9
  go_upto_region 1 with fail
  generalize hV : World.alloc _ _ = U
  obtain ⟨u0, u1, hbu⟩ := heap2c hV
  obtain ⟨b6, hb6⟩ : ∃ z, z = w.heap.size + 1 := ⟨_, rfl⟩
  rw [← hb6] at u1 ⊢
  obtain ⟨b3, hb3⟩ : ∃ z, z = w.heap.size := ⟨_, rfl⟩
  rw [← hb3] at u0 ⊢
  have HLT := Lib.hid (show b3 = w.heap.size ∧ b6 = w.heap.size + 1 ∧ g < w.heap.size from ⟨hb3, hb6, h4⟩)
  have H0 := Lib.hid u0; have H1 := Lib.hid u1; have HBU := Lib.hid hbu
  have x1 : ∀ o, (U.alloc o).cell? ⟨b3, 1, none⟩ = some (.slice (some ⟨g, 0, none⟩) t c) := fun o => Ext.on (Th.newcell u0 1 _ rfl) o
  have H' := Lib.hid (show ∀ i, i < t → (U.alloc (.cells #[] 27)).cell? ⟨g, i, none⟩ = some (.int .u64 (F i)) from fun i hi => Ext.on (Ext.use (Ext.cells (HC.out i hi)) hbu) _)
  clear hV u0 u1 hbu hb6 hb3 h4
  go_wp2_with (at_builtin; refine wpList_append_own _ rfl (.tmp 8) (.tmp 10) 31 rfl U.heap.size 27 i0 _ 1 8 Mm.u64s hi hz0 hz1 hz2 rfl (by decide) _ _ _ rfl (Mm.own_none U) ⟨g, 0, none⟩ t c (Mm.wordsL t F) rfl (by rw [Mm.wordsL_len]; omega) (Mm.news_words H'.out) (Mm.one_words t F) (by unfold maxLen; omega) (by omega) (by simp) ?_)
  intro v1 w1 hown hgrow _
  try simp only [Nat.zero_add, List.nil_append] at hown
  have hb := Mm.grow0 hgrow
  have hown : Th.OwnL 27 w1 U.heap.size v1 t (Th.ucells t F) := hown
  rcases hown.parts with ⟨_, h0⟩ | ⟨g2, c2, rfl, h21, h22, hg2, hg3, _, _, _, hf2, hc2⟩
  · omega
  have HO := Lib.hid hown; have HB1 := Lib.hid (below_on HBU.out hb); have HS := Lib.hid (show U.heap.size ≤ g2 ∧ w.heap.size + 2 ≤ U.heap.size from ⟨hg2, by have h5 := Th.blk_lt H1.out; have := HLT.out; omega⟩)
  have H01 := Lib.hid (Th.up hb H0.out); have H11 := Lib.hid (Th.up hb H1.out)
  clear hown hgrow hb x1 H'
  have cg : w1.cell? ⟨g2, k, none⟩ = some (.int .u64 (F k)) := hc2 k _ hk (Th.ucells_get hk)
  have hkt : (k : Int) < t := by omega
  go_upto_region 3 with fail
  clear cg hf2 hc2
  generalize hW : World.setCell _ _ _ = W
  have ho := own_set HO.out hk v
  rw [hW] at ho
  have hoth : ∀ j, j ≠ g2 → W.heap[j]? = w1.heap[j]? := fun j hj => by rw [← hW]; exact Below.heap_setCell _ _ _ _ hj
  have hbw : Below w.heap.size w W := by rw [← hW]; exact belowC HB1.out (by have := HS.out; omega) _
  have H02 := Lib.hid ((hoth b3 (by have := HLT.out; have := HS.out; omega)).trans H01.out); have H12 := Lib.hid ((hoth b6 (by have := HLT.out; have := HS.out; omega)).trans H11.out)
  have HO2 := Lib.hid ho; have HB2 := Lib.hid hbw
  clear hW ho hoth hbw HO HB1 H01 H11
  have x0 := Th.newcell H02.out 0 _ rfl; have x1 := Th.newcell H02.out 1 _ rfl
  have xf : ∀ i, W.frozen? ⟨b3, i, none⟩ = false := fun i => frozen_of_row _ _ _ _ _ H02.out
  go_upto_region 4 with fail
  clear x0 x1 xf
  generalize hW : World.setCell _ _ _ = V
  have h3 := heap_setCell_same _ b3 1 _ _ (.slice (some ⟨g2, 0, none⟩) t c2) H02.out
  rw [hW] at h3
  have hoth : ∀ j, j ≠ b3 → V.heap[j]? = W.heap[j]? := fun j hj => by rw [← hW]; exact Below.heap_setCell _ _ _ _ hj
  have HO3 := Lib.hid (HO2.out.of (w' := V) fun b hb => hoth b (by have := (HO2.out.blk hb).1; have := HLT.out; have := HS.out; omega))
  have HB3 := Lib.hid (show Below w.heap.size w V by rw [← hW]; exact belowC HB2.out (by have := HLT.out; omega) _)
  have H13 := Lib.hid ((hoth b6 (by have := HLT.out; omega)).trans H12.out)
  have h3 : V.heap[b3]? = some (.cells #[.int .u64 e, .slice (some ⟨g2, 0, none⟩) t c2] 33 (0, 0)) := h3
  have x0 := Th.newcell h3 0 _ rfl; have x1 := Th.newcell h3 1 _ rfl
  have z0 := Th.newcell H13.out 0 _ rfl; have z1 := Th.newcell H13.out 1 _ rfl
  have zf : ∀ i, V.frozen? ⟨b6, i, none⟩ = false := fun i => frozen_of_row _ _ _ _ _ H13.out
  clear hW hoth h3 HO2 HB2 H02 H12
  go_wp2_with fail
  refine bodyPost_ret (v := .agg #[.int .u64 e, .slice (some ⟨g2, 0, none⟩) t c2]) (by simp [results, Try.results9, go_sem, z0, z1, World.cell?_setCell_same, World.cell?_setCell_other]) rfl ?_
  rw [HQ.out]
  refine ⟨_, rfl, ?_, belowC (belowC HB3.out (by have := HLT.out; omega) _) (by have := HLT.out; omega) _⟩
  have ho := HO3.out.of (w' := (V.setCell ⟨b6, 0, none⟩ (.int .u64 e)).setCell ⟨b6, 1, none⟩ (.slice (some ⟨g2, 0, none⟩) t c2)) fun b hb => by
    have := (HO3.out.blk hb).1
    rw [Below.heap_setCell _ _ _ _ (by show _ ≠ b6; have := HLT.out; have := HS.out; omega), Below.heap_setCell _ _ _ _ (by show _ ≠ b6; have := HLT.out; have := HS.out; omega)]
  refine ⟨ho.1, ?_⟩
  rcases ho.2 with h0 | ⟨g, cap, cur, h1, h2, h3⟩
  · exact .inl h0
  · exact .inr ⟨g, cap, cur, h1, by have := HS.out; omega, h3⟩
theorem repoch4 (h : Int) (w : World) (h1 : 0 ≤ h) (h2 : h < 18446744073709551616) : Calls Try.prog 30 #[.int .u64 h] w fun e w' => e = .returned (.tuple #[.int .u64 (if oddB h then h / 2 else 0), .bool (oddB h)]) ∧ w = w' := by
  refine Calls.veil fun Q HQ => ?_
  rcases (by omega : h % 2 = 0 ∨ h % 2 = 1) with e | e
  · have HO := Lib.hid (show oddB h = false by unfold oddB; rw [e]; rfl)
    have HE := Lib.hid h1
    go_enter Try.func30, Try.ntmps30
    go_wp2_with fail
    (try go_ret2)
    rw [HQ.out, HO.out]
    exact ⟨rfl, rfl⟩
  · have HO := Lib.hid (show oddB h = true by unfold oddB; rw [e]; rfl)
    have hq : IntKind.u64.wrap (h.tdiv 2) = h / 2 := by rw [Int.tdiv_eq_ediv_of_nonneg h1, IntKind.wrap_u64]; omega
    have HQ2 := Lib.hid hq
    go_enter Try.func30, Try.ntmps30
    go_wp2_with fail
    (try go_ret2)
    rw [HQ.out, HO.out]
    exact ⟨by simp [HQ2.out], rfl⟩
theorem first_lag (p : Nat → Bool) : ∀ t : Nat, (∀ j, j < t → p j = false) ∨ ∃ l, l < t ∧ p l = true ∧ ∀ j, j < l → p j = false
  | 0 => .inl fun j hj => absurd hj (Nat.not_lt_zero j)
  | t + 1 => by
    rcases first_lag p t with h | ⟨l, h1, h2, h3⟩
    · cases e : p t with
      | false => exact .inl fun j hj => by rcases (by omega : j < t ∨ j = t) with h4 | rfl; exact h j h4; exact e
      | true => exact .inr ⟨t, by omega, e, h⟩
    · exact .inr ⟨l, by omega, h2, h3⟩
set_option maxRecDepth 8000 in
set_option maxHeartbeats 2000000 in
theorem rlags {w : World} {B t l : Nat} {e : Int} {sv : Value} {F : Nat → Int} (h : Th.OwnL 27 w B sv t (Th.ucells t F)) (t6 : t ≤ 4000) (hF : ∀ j, j < t → 0 ≤ F j ∧ F j < 18446744073709551616) {b : Bool} (hl : l ≤ t) (hno : ∀ j, j < l → lagsB (F j) e = false) (hb : (b = false ∧ l = t) ∨ (b = true ∧ l < t ∧ lagsB (F l) e = true)) :
    Calls Try.prog 10 #[.agg #[.int .u64 e, sv]] w fun x w' => x = .returned (.bool b) ∧ Below w.heap.size w w' := by
  refine Calls.veil fun Q HQ => ?_
  have HH := Lib.hid h; have HFF := Lib.hid hF; have HNO := Lib.hid hno; have HBB := Lib.hid hb
  obtain ⟨sa, sc, rfl, _, _⟩ := h.slice
  clear h hF hno hb
  go_enter Try.func10, Try.ntmps10
  go_upto_region 1 with fail
  generalize hV : World.alloc _ _ = U
  obtain ⟨u0, hbu⟩ := Th.heapnewE hV
  obtain ⟨b1, hb1⟩ : ∃ z, z = w.heap.size := ⟨_, rfl⟩
  rw [← hb1] at u0 ⊢
  have H0 := Lib.hid u0; have HBU := Lib.hid hbu; have HU := Lib.hid (Th.OwnL.below HH.out hbu)
  clear hV u0 hbu hb1
  go_wp2_with fail
  go_loopw [3] (fun iv wr => ∃ j : Nat, j ≤ l ∧ iv = .int .i64 j ∧ Hid (Below U.heap.size U wr)) (fun iv _ => t - (intOf iv).toNat)
  case atStart => exact ⟨0, Nat.zero_le _, rfl, Lib.hid (Below.refl _ _)⟩
  case round =>
    obtain ⟨j, hj, rfl, HB⟩ := hrel
    have h1 := Th.up HB.out H0.out
    have x0 := Th.newcell h1 0 _ rfl; have x1 := Th.newcell h1 1 _ rfl
    clear h1
    have HO := Lib.hid (Th.OwnL.below HU.out HB.out)
    rcases (by omega : j < l ∨ j = l) with hlt | heq
    · rcases HO.out.parts with ⟨_, h0⟩ | ⟨g, c, hse, h21, h22, _, _, _, _, _, _, hc2⟩
      · omega
      simp only [Value.slice.injEq] at hse
      obtain ⟨rfl, _, rfl⟩ := hse
      have cg : wr.cell? ⟨g, j, none⟩ = some (.int .u64 (F j)) := hc2 j _ (by omega) (Th.ucells_get (by omega))
      have hjt : (j : Int) < t := by omega
      clear hc2
      go_wp2_with fail
      refine (repoch4 _ _ (HFF.out j (by omega)).1 (HFF.out j (by omega)).2).mono ?_; rintro _ _ ⟨rfl, rfl⟩
      have hl := HNO.out j hlt
      unfold lagsB at hl
      generalize oddB (F j) = ob at hl ⊢
      cases ob with
      | false =>
        go_wp2_with fail
        clear x0 x1 cg
        go_roundw
        case rel => exact ⟨j + 1, by omega, by go_num, HB⟩
        case measure => simp [intOf]; omega
      | true =>
        rw [if_pos rfl]
        have hne : (F j / 2 != e) = false := by simpa using hl
        go_wp2_with fail
        clear x0 x1 cg hne hl
        go_roundw
        case rel => exact ⟨j + 1, by omega, by go_num, HB⟩
        case measure => simp [intOf]; omega
    · subst heq
      rcases HBB.out with ⟨hb1, rfl⟩ | ⟨hb1, hlt, hyes⟩
      · rw [hb1] at HQ
        have hjt : ¬ (j : Int) < j := by omega
        go_wp2_with fail
        (try go_ret)
        rw [HQ.out]
        exact ⟨rfl, below_on HBU.out HB.out⟩
      · rw [hb1] at HQ
        rcases HO.out.parts with ⟨_, h0⟩ | ⟨g, c, hse, h21, h22, _, _, _, _, _, _, hc2⟩
        · omega
        simp only [Value.slice.injEq] at hse
        obtain ⟨rfl, _, rfl⟩ := hse
        have cg : wr.cell? ⟨g, j, none⟩ = some (.int .u64 (F j)) := hc2 j _ (by omega) (Th.ucells_get (by omega))
        have hjt : (j : Int) < t := by omega
        clear hc2
        go_wp2_with fail
        refine (repoch4 _ _ (HFF.out j (by omega)).1 (HFF.out j (by omega)).2).mono ?_; rintro _ _ ⟨rfl, rfl⟩
        unfold lagsB at hyes
        generalize oddB (F j) = ob at hyes ⊢
        cases ob with
        | false => cases hyes
        | true =>
          rw [if_pos rfl]
          have hne : (F j / 2 != e) = true := by simpa using hyes
          clear hyes
          go_wp2_with fail
          (try go_ret)
          rw [HQ.out]
          exact ⟨rfl, below_on HBU.out HB.out⟩
set_option maxRecDepth 8000 in
set_option maxHeartbeats 2000000 in
theorem lsameE {w : World} {B B' t : Nat} {e : Int} {sv sv' : Value} {F : Nat → Int} (h : Th.OwnL 27 w B sv t (Th.ucells t F)) (h' : Th.OwnL 27 w B' sv' t (Th.ucells t F)) (t6 : t ≤ 4000) :
    Calls Try.prog 13 #[.agg #[.int .u64 e, sv], .agg #[.int .u64 e, sv']] w fun x w' => x = .returned (.bool true) ∧ Below w.heap.size w w' := by
  refine Calls.veil fun Q HQ => ?_
  have HH := Lib.hid h; have HH' := Lib.hid h'
  obtain ⟨sa, sc, rfl, _, _⟩ := h.slice
  obtain ⟨sa', sc', rfl, _, _⟩ := h'.slice
  clear h h'
  go_enter Try.func13, Try.ntmps13
  go_upto_region 1 with fail
  generalize hV : World.alloc _ _ = U
  obtain ⟨u0, u1, hbu⟩ := heap2c hV
  obtain ⟨b3, hb3⟩ : ∃ z, z = w.heap.size + 1 := ⟨_, rfl⟩
  rw [← hb3] at u1 ⊢
  obtain ⟨b2, hb2⟩ : ∃ z, z = w.heap.size := ⟨_, rfl⟩
  rw [← hb2] at u0 ⊢
  have H0 := Lib.hid u0; have H1 := Lib.hid u1; have HBU := Lib.hid hbu; have HU := Lib.hid (Th.OwnL.below HH.out hbu); have HU' := Lib.hid (Th.OwnL.below HH'.out hbu)
  have x0 := Th.newcell u0 0 _ rfl; have x1 := Th.newcell u0 1 _ rfl; have y0 := Th.newcell u1 0 _ rfl; have y1 := Th.newcell u1 1 _ rfl
  clear hV u0 u1 hbu hb3 hb2
  go_wp2_with fail
  clear x0 x1 y0 y1
  go_loopw [5] (fun iv wr => ∃ j : Nat, j ≤ t ∧ iv = .int .i64 j ∧ Hid (Below U.heap.size U wr)) (fun iv _ => t - (intOf iv).toNat)
  case atStart => exact ⟨0, Nat.zero_le _, rfl, Lib.hid (Below.refl _ _)⟩
  case round =>
    obtain ⟨j, hj, rfl, HB⟩ := hrel
    have x1 := Th.newcell (Th.up HB.out H0.out) 1 _ rfl
    have y1 := Th.newcell (Th.up HB.out H1.out) 1 _ rfl
    have HO := Lib.hid (Th.OwnL.below HU.out HB.out); have HO' := Lib.hid (Th.OwnL.below HU'.out HB.out)
    rcases (by omega : j < t ∨ j = t) with hlt | heq
    · rcases HO.out.parts with ⟨_, h0⟩ | ⟨g, c, hse, h21, h22, _, _, _, _, _, _, hc2⟩
      · omega
      rcases HO'.out.parts with ⟨_, h0⟩ | ⟨g', c', hse', h21', h22', _, _, _, _, _, _, hc2'⟩
      · omega
      simp only [Value.slice.injEq] at hse hse'
      obtain ⟨rfl, _, rfl⟩ := hse
      obtain ⟨rfl, _, rfl⟩ := hse'
      have cg : wr.cell? ⟨g, j, none⟩ = some (.int .u64 (F j)) := hc2 j _ hlt (Th.ucells_get hlt)
      have cg' : wr.cell? ⟨g', j, none⟩ = some (.int .u64 (F j)) := hc2' j _ hlt (Th.ucells_get hlt)
      have hjt : (j : Int) < t := by omega
      clear hc2 hc2'
      go_upto_region 6 with fail
      go_quiet (fail)
      go_wp2_with fail
      go_roundw
      case rel => exact ⟨j + 1, by omega, by go_num, Lib.hid (below_drewN HB.out nq)⟩
      case measure => simp [intOf]; omega
    · subst heq
      have hjt : ¬ (j : Int) < j := by omega
      go_wp2_with fail
      (try go_ret)
      rw [HQ.out]
      exact ⟨rfl, below_on HBU.out HB.out⟩
end Go.Proofs.Ytjpkmkaiojnhgaa
