/- Layer 38: overlaps. -/
import Derived.Test.YtilfgekiblpkaaaStaD
import Derived.Deep.QuietTactic
namespace Go.Proofs.Ytilfgekiblpkaaa
open Go.RowKit
set_option linter.unusedVariables false
set_option linter.unusedSimpArgs false
/-- A slice of opers that is read. -/
def OR (w : World) (v : Value) (O : List Opr) : Prop := ∃ p c, v = .slice p O.length c ∧ O.length ≤ c ∧ c ≤ 9223372036854775807 ∧ Hid (0 < O.length → ∃ g, p = some ⟨g, 0, none⟩ ∧ ∀ (i : Nat) (x : Opr), O[i]? = some x → ∃ u, OpC w g (i * 13) x u ∧ PR w u x.an.ps)
theorem OR.below {w w' : World} {v : Value} {O : List Opr} (h : OR w v O) (k : Below w.heap.size w w') : OR w' v O := by
  obtain ⟨p, c, rfl, h1, h2, h3⟩ := h
  refine ⟨p, c, rfl, h1, h2, fun h0 => ?_⟩
  obtain ⟨g, e, h4⟩ := h3 h0
  exact ⟨g, e, fun i x hx => by obtain ⟨u, h5, h6⟩ := h4 i x hx; exact ⟨u, h5.below k, h6.below k⟩⟩
theorem own_OR {w : World} {B : Nat} {v : Value} {l : List (Opr × Value)} {O : List Opr} (h : OwnO w B v l) (hp : ∀ x ∈ l, PR w x.2 x.1.an.ps) (hl : l.map (·.1) = O) : OR w v O := own_partsP h hp hl
def o_ (O : List Opr) (i : Nat) : Opr := O.getD i o0
theorem o_at {O : List Opr} {i : Nat} {x : Opr} (h : O[i]? = some x) : o_ O i = x := by unfold o_; rw [List.getD_eq_getElem?_getD, h]; rfl
def lastO (O : List Opr) : Nat → Opr
  | 0 => o0
  | i + 1 => if i = 0 ∨ (0 ≤ (lastO O i).to ∧ ((o_ O i).to < 0 ∨ (lastO O i).to < (o_ O i).to)) then o_ O i else lastO O i
def befB (O : List Opr) (i : Nat) : Bool := decide (0 < i) && !aheadB (lastO O i) (o_ O i)
def behB (O : List Opr) (i : Nat) : Bool := decide (i + 1 < O.length) && !aheadB (o_ O i) (o_ O (i + 1))
def ovN (O : List Opr) : Nat → Nat
  | 0 => 0
  | i + 1 => ovN O i + (if (befB O i || behB O i) = true then 1 else 0)
theorem ovN_le (O : List Opr) : ∀ i, ovN O i ≤ i
  | 0 => Nat.le_refl _
  | i + 1 => by have := ovN_le O i; rw [ovN]; split <;> omega
set_option maxRecDepth 8000 in
set_option maxHeartbeats 16000000 in
theorem soverlaps (O : List Opr) (v : Value) (w : World) (h : OR w v O) (hn : O.length ≤ 1000) :
    Calls Try.prog 17 #[v] w fun e w' => e = .returned (.int .i64 (ovN O O.length : Nat)) ∧ Below w.heap.size w w' := by
  refine Calls.veil fun Q HQ => ?_
  obtain ⟨p, c, rfl, a1, a2, A3⟩ := h
  obtain ⟨m, hm⟩ : ∃ m, m = O.length := ⟨_, rfl⟩
  rw [← hm] at a1 A3 hn HQ
  rw [← hm]
  have HM := Lib.hid hm
  clear hm
  go_enter Try.func17, Try.ntmps17
  go_upto_region 3 with fail
  generalize hV : World.alloc w _ = V
  obtain ⟨Zl, hZl⟩ : ∃ Zl, Zl = w.heap.size := ⟨_, rfl⟩
  rw [← hZl]
  have HLV := Lib.hid (show R13 V Zl o0 (.slice none 0 0) by rw [← hV, hZl]; exact heap_alloc_new w _)
  have HVB := Lib.hid (show Below w.heap.size w V by rw [← hV]; exact below_new (Below.refl _ _) _)
  have HZL := Lib.hid (Nat.le_of_eq hZl.symm)
  clear hV hZl
  go_wp2_with fail
  go_loopw [3, 11] (fun kv iv wr => ∃ i : Nat, i ≤ m ∧ iv = .int .i64 i ∧ ∃ k : Nat, k ≤ i ∧ kv = .int .i64 k ∧ Hid (k = ovN O i) ∧ ∃ (pl : Option Addr) (nl cl : Nat), Hid (R13 wr Zl (lastO O i) (.slice pl nl cl)) ∧ Below w.heap.size w wr)
    (fun _ iv _ => m - (intOf iv).toNat)
  case atStart => exact ⟨0, by omega, rfl, 0, by omega, rfl, Lib.hid rfl, none, 0, 0, HLV, HVB.out⟩
  case round =>
    obtain ⟨i, hi, rfl, k, hk, rfl, HKN, pl, nl, cl, HLA, hbx⟩ := hrel
    have HX := Lib.hid hbx
    clear hbx
    rcases (by omega : i < m ∨ i = m) with hlt | hEQ
    · obtain ⟨g, rfl, hD⟩ := A3.out (by omega)
      obtain ⟨x, hx⟩ : ∃ x, O[i]? = some x := ⟨_, List.getElem?_eq_getElem (by have := HM.out; omega)⟩
      obtain ⟨u, hC, hPu⟩ := hD i x hx
      have HOI := Lib.hid (o_at hx)
      have HNX := Lib.hid (fun (h1 : i + 1 < m) => (show ∃ y u', O[i + 1]? = some y ∧ OpC w g ((i + 1) * 13) y u' ∧ PR w u' y.an.ps by
        obtain ⟨y, hy⟩ : ∃ y, O[i + 1]? = some y := ⟨_, List.getElem?_eq_getElem (by have := HM.out; omega)⟩
        obtain ⟨u', h2, h3⟩ := hD (i + 1) y hy
        exact ⟨y, u', hy, h2, h3⟩))
      have hC := hC.below HX.out
      obtain ⟨px, cx, rfl, _, _⟩ := hPu.slice
      have HLS := Lib.hid (show lastO O (i + 1) = if i = 0 ∨ (0 ≤ (lastO O i).to ∧ ((o_ O i).to < 0 ∨ (lastO O i).to < (o_ O i).to)) then o_ O i else lastO O i from rfl)
      have HOV := Lib.hid (show ovN O (i + 1) = ovN O i + (if (befB O i || behB O i) = true then 1 else 0) from rfl)
      have HBF := Lib.hid (show befB O i = (decide (0 < i) && !aheadB (lastO O i) (o_ O i)) from rfl)
      have HBH := Lib.hid (show behB O i = (decide (i + 1 < O.length) && !aheadB (o_ O i) (o_ O (i + 1))) from rfl)
      rw [HOI.out] at HLS HBF HBH
      generalize lastO O i = la at HLS HBF HLA
      clear hPu hD hx
      obtain ⟨x0, x1, x2, x3, x4, x5, x6, x7, x8, x9, x10, x11, x12⟩ := hC
      go_upto_region 6 with fail
      generalize hU : World.alloc wr _ = U
      obtain ⟨Z, hZ⟩ : ∃ Z, Z = wr.heap.size := ⟨_, rfl⟩
      rw [← hZ]
      have HRU := Lib.hid (show R13 U Z x (.slice px x.an.ps.length cx) by rw [← hU, hZ]; exact heap_alloc_new wr _)
      have HUB := Lib.hid (show Below wr.heap.size wr U by rw [← hU]; exact below_new (Below.refl _ _) _)
      clear hU x0 x1 x2 x3 x4 x5 x6 x7 x8 x9 x10 x11 x12
      have HLU := Lib.hid (HLA.out.below HUB.out)
      have HXU := Lib.hid (show Below w.heap.size w U from HX.out.trans (HUB.out.mono HX.out.size))
      clear hZ HLA HUB HX
      have e12 := HRU.out.cells.c12
      have l12 := HLU.out.cells.c12
      simp only [Nat.zero_add] at e12 l12
      rcases Nat.eq_zero_or_pos i with rfl | hip
      · rw [show decide (0 < 0) = false from rfl, Bool.false_and] at HBF
        go_upto_region 7 with fail
        by_cases hnx : 0 + 1 < m
        · obtain ⟨y, u', hy, hCy, hPy⟩ := HNX.out hnx
          obtain ⟨py, cy, rfl, _, _⟩ := hPy.slice
          have HYO := Lib.hid (o_at hy)
          rw [HYO.out] at HBH
          have hCy := hCy.below HXU.out
          clear hPy hy
          obtain ⟨y0, y1, y2, y3, y4, y5, y6, y7, y8, y9, y10, y11, y12⟩ := hCy
          obtain ⟨e0, e1, e2, e3, e4, e5, e6, e7, e8, e9, e10, e11, e12⟩ := HRU.out.cells
          simp only [Nat.zero_add] at e0 e1 e2 e3 e4 e5 e6 e7 e8 e9 e10 e11 e12
          have e0 := Ext.cells e0; have e1 := Ext.cells e1; have e2 := Ext.cells e2; have e3 := Ext.cells e3; have e4 := Ext.cells e4; have e5 := Ext.cells e5; have e6 := Ext.cells e6; have e7 := Ext.cells e7; have e8 := Ext.cells e8; have e9 := Ext.cells e9; have e10 := Ext.cells e10; have e11 := Ext.cells e11; have e12 := Ext.cells e12
          have y0 := Ext.cells y0; have y1 := Ext.cells y1; have y2 := Ext.cells y2; have y3 := Ext.cells y3; have y4 := Ext.cells y4; have y5 := Ext.cells y5; have y6 := Ext.cells y6; have y7 := Ext.cells y7; have y8 := Ext.cells y8; have y9 := Ext.cells y9; have y10 := Ext.cells y10; have y11 := Ext.cells y11; have y12 := Ext.cells y12
          have hd : decide ((1 : Int) < (m : Int)) = true := decide_eq_true (by omega)
          obtain ⟨W, hW⟩ : ∃ W, W = U := ⟨_, rfl⟩
          rw [← hW] at HRU HLU HXU e0 e1 e2 e3 e4 e5 e6 e7 e8 e9 e10 e11 e12 y0 y1 y2 y3 y4 y5 y6 y7 y8 y9 y10 y11 y12 ⊢
          clear hW l12
          (with_reducible refine wp_region_mix (fun w' => ∃ y : Ext W, w' = y.w) ?_ ?_ ?_ ?_; kernel_rfl; kernel_rfl; exact ⟨⟨W.drew, (Below.refl _ _).drew⟩, rfl⟩)
          repeat (first | ((with_reducible refine mix_skip (by kernel_rfl) ?_); go_big_quiet_skip; (with_reducible refine mix_on ?_)) | ((with_reducible refine mix_plain (by kernel_rfl) ?_); (first | go_big_quiet_skip | (go_big_quiet_want; go_big_quiet_op; go_big_quiet_on)); (with_reducible refine mix_on ?_)))
          ((with_reducible refine wpMix_chain (by kernel_rfl) (by kernel_rfl) (fun K HK => ?_)); go_step)
          refine (hahead x y _ _ _).mono ?_; rintro _ z8 ⟨rfl, hb2⟩
          have hz8 : Below W.heap.size W z8 := below_on (Below.refl _ _).drew hb2
          refine HK.out _ _ ⟨⟨z8, hz8⟩, rfl⟩ ?_
          clear HK K hb2
          generalize aheadB x y = b2 at HBH
          repeat (first | ((with_reducible refine mix_skip (by kernel_rfl) ?_); go_big_quiet_skip; (with_reducible refine mix_on ?_)) | ((with_reducible refine mix_plain (by kernel_rfl) ?_); (first | go_big_quiet_skip | (go_big_quiet_want; go_big_quiet_op; go_big_quiet_on)); (with_reducible refine mix_on ?_)))
          refine wpMix_nil ?_
          clear y0 y1 y2 y3 y4 y5 y6 y7 y8 y9 y10 y11 y12
          clear e0 e1 e2 e3 e4 e5 e6 e7 e8 e9 e10 e11 e12
          have HRU := Lib.hid (HRU.out.below hz8)
          have HLU := Lib.hid (HLU.out.below hz8)
          have HXU := Lib.hid (below_on HXU.out hz8)
          clear hz8
          rw [show decide (0 + 1 < O.length) = true from decide_eq_true (by have := HM.out; omega), Bool.true_and] at HBH
          have e12 := HRU.out.cells.c12
          have l12 := HLU.out.cells.c12
          simp only [Nat.zero_add] at e12 l12
          clear hnx hd
          cases b2 with
          | true =>
            have HKE := Lib.hid (show k + 0 = ovN O (0 + 1) by rw [HOV.out, ← HKN.out, HBF.out, HBH.out]; rfl)
            go_upto_region 10 with fail
            have HLE := Lib.hid (show lastO O (0 + 1) = x by rw [HLS.out, if_pos (.inl rfl)])
            clear e12 l12
            obtain ⟨e0, e1, e2, e3, e4, e5, e6, e7, e8, e9, e10, e11, e12⟩ := HRU.out.cells
            simp only [Nat.zero_add] at e0 e1 e2 e3 e4 e5 e6 e7 e8 e9 e10 e11 e12
            obtain ⟨l0, l1, l2, l3, l4, l5, l6, l7, l8, l9, l10, l11, l12⟩ := HLU.out.cells
            simp only [Nat.zero_add] at l0 l1 l2 l3 l4 l5 l6 l7 l8 l9 l10 l11 l12
            have ff := HLU.out.free
            go_wp2_with fail
            generalize hY : World.setCell _ _ _ = Y
            have HLY := Lib.hid (show R13 Y Zl x (.slice px x.an.ps.length cx) by rw [← hY]; exact HLU.out.full x _)
            have HYB := Lib.hid (show Below w.heap.size w Y by
              have hqq : w.heap.size ≤ Zl := HZL.out
              rw [← hY]; exact (((((((((((((HXU.out.setCell (p := ⟨Zl, 0, none⟩) hqq _).setCell (p := ⟨Zl, 1, none⟩) hqq _).setCell (p := ⟨Zl, 2, none⟩) hqq _).setCell (p := ⟨Zl, 3, none⟩) hqq _).setCell (p := ⟨Zl, 4, none⟩) hqq _).setCell (p := ⟨Zl, 5, none⟩) hqq _).setCell (p := ⟨Zl, 6, none⟩) hqq _).setCell (p := ⟨Zl, 7, none⟩) hqq _).setCell (p := ⟨Zl, 8, none⟩) hqq _).setCell (p := ⟨Zl, 9, none⟩) hqq _).setCell (p := ⟨Zl, 10, none⟩) hqq _).setCell (p := ⟨Zl, 11, none⟩) hqq _).setCell (p := ⟨Zl, 12, none⟩) hqq _))
            clear hY
            go_roundw
            case rel => exact ⟨0 + 1, by omega, by go_num, k + 0, by omega, by go_num, HKE, px, x.an.ps.length, cx, Lib.hid (by rw [HLE.out]; exact HLY.out), HYB.out⟩
            case measure => simp [intOf]; omega
          | false =>
            have HKE := Lib.hid (show k + 1 = ovN O (0 + 1) by rw [HOV.out, ← HKN.out, HBF.out, HBH.out]; rfl)
            go_upto_region 10 with fail
            have HLE := Lib.hid (show lastO O (0 + 1) = x by rw [HLS.out, if_pos (.inl rfl)])
            clear e12 l12
            obtain ⟨e0, e1, e2, e3, e4, e5, e6, e7, e8, e9, e10, e11, e12⟩ := HRU.out.cells
            simp only [Nat.zero_add] at e0 e1 e2 e3 e4 e5 e6 e7 e8 e9 e10 e11 e12
            obtain ⟨l0, l1, l2, l3, l4, l5, l6, l7, l8, l9, l10, l11, l12⟩ := HLU.out.cells
            simp only [Nat.zero_add] at l0 l1 l2 l3 l4 l5 l6 l7 l8 l9 l10 l11 l12
            have ff := HLU.out.free
            go_wp2_with fail
            generalize hY : World.setCell _ _ _ = Y
            have HLY := Lib.hid (show R13 Y Zl x (.slice px x.an.ps.length cx) by rw [← hY]; exact HLU.out.full x _)
            have HYB := Lib.hid (show Below w.heap.size w Y by
              have hqq : w.heap.size ≤ Zl := HZL.out
              rw [← hY]; exact (((((((((((((HXU.out.setCell (p := ⟨Zl, 0, none⟩) hqq _).setCell (p := ⟨Zl, 1, none⟩) hqq _).setCell (p := ⟨Zl, 2, none⟩) hqq _).setCell (p := ⟨Zl, 3, none⟩) hqq _).setCell (p := ⟨Zl, 4, none⟩) hqq _).setCell (p := ⟨Zl, 5, none⟩) hqq _).setCell (p := ⟨Zl, 6, none⟩) hqq _).setCell (p := ⟨Zl, 7, none⟩) hqq _).setCell (p := ⟨Zl, 8, none⟩) hqq _).setCell (p := ⟨Zl, 9, none⟩) hqq _).setCell (p := ⟨Zl, 10, none⟩) hqq _).setCell (p := ⟨Zl, 11, none⟩) hqq _).setCell (p := ⟨Zl, 12, none⟩) hqq _))
            clear hY
            go_roundw
            case rel => exact ⟨0 + 1, by omega, by go_num, k + 1, by omega, by go_num, HKE, px, x.an.ps.length, cx, Lib.hid (by rw [HLE.out]; exact HLY.out), HYB.out⟩
            case measure => simp [intOf]; omega
        · rw [show decide (0 + 1 < O.length) = false from decide_eq_false (by have := HM.out; omega), Bool.false_and] at HBH
          have hd : decide ((1 : Int) < (m : Int)) = false := decide_eq_false (by omega)
          clear hnx
          go_quiet (fail)
          obtain ⟨W, hW⟩ : ∃ W, W = World.drewN U nq := ⟨_, rfl⟩
          have hz8 : Below U.heap.size U W := by rw [hW]; exact below_drewN (Below.refl _ _) nq
          rw [← hW]
          clear hW hd e12 l12
          have HRU := Lib.hid (HRU.out.below hz8)
          have HLU := Lib.hid (HLU.out.below hz8)
          have HXU := Lib.hid (below_on HXU.out hz8)
          clear hz8
          have e12 := HRU.out.cells.c12
          have l12 := HLU.out.cells.c12
          simp only [Nat.zero_add] at e12 l12
          have HKE := Lib.hid (show k + 0 = ovN O (0 + 1) by rw [HOV.out, ← HKN.out, HBF.out, HBH.out]; rfl)
          go_upto_region 10 with fail
          have HLE := Lib.hid (show lastO O (0 + 1) = x by rw [HLS.out, if_pos (.inl rfl)])
          clear e12 l12
          obtain ⟨e0, e1, e2, e3, e4, e5, e6, e7, e8, e9, e10, e11, e12⟩ := HRU.out.cells
          simp only [Nat.zero_add] at e0 e1 e2 e3 e4 e5 e6 e7 e8 e9 e10 e11 e12
          obtain ⟨l0, l1, l2, l3, l4, l5, l6, l7, l8, l9, l10, l11, l12⟩ := HLU.out.cells
          simp only [Nat.zero_add] at l0 l1 l2 l3 l4 l5 l6 l7 l8 l9 l10 l11 l12
          have ff := HLU.out.free
          go_wp2_with fail
          generalize hY : World.setCell _ _ _ = Y
          have HLY := Lib.hid (show R13 Y Zl x (.slice px x.an.ps.length cx) by rw [← hY]; exact HLU.out.full x _)
          have HYB := Lib.hid (show Below w.heap.size w Y by
            have hqq : w.heap.size ≤ Zl := HZL.out
            rw [← hY]; exact (((((((((((((HXU.out.setCell (p := ⟨Zl, 0, none⟩) hqq _).setCell (p := ⟨Zl, 1, none⟩) hqq _).setCell (p := ⟨Zl, 2, none⟩) hqq _).setCell (p := ⟨Zl, 3, none⟩) hqq _).setCell (p := ⟨Zl, 4, none⟩) hqq _).setCell (p := ⟨Zl, 5, none⟩) hqq _).setCell (p := ⟨Zl, 6, none⟩) hqq _).setCell (p := ⟨Zl, 7, none⟩) hqq _).setCell (p := ⟨Zl, 8, none⟩) hqq _).setCell (p := ⟨Zl, 9, none⟩) hqq _).setCell (p := ⟨Zl, 10, none⟩) hqq _).setCell (p := ⟨Zl, 11, none⟩) hqq _).setCell (p := ⟨Zl, 12, none⟩) hqq _))
          clear hY
          go_roundw
          case rel => exact ⟨0 + 1, by omega, by go_num, k + 0, by omega, by go_num, HKE, px, x.an.ps.length, cx, Lib.hid (by rw [HLE.out]; exact HLY.out), HYB.out⟩
          case measure => simp [intOf]; omega
      · have hi0 : 0 < i := by omega
        rw [show decide (0 < i) = true from decide_eq_true hi0, Bool.true_and] at HBF
        obtain ⟨e0, e1, e2, e3, e4, e5, e6, e7, e8, e9, e10, e11, e12⟩ := HRU.out.cells
        simp only [Nat.zero_add] at e0 e1 e2 e3 e4 e5 e6 e7 e8 e9 e10 e11 e12
        obtain ⟨l0, l1, l2, l3, l4, l5, l6, l7, l8, l9, l10, l11, l12⟩ := HLU.out.cells
        simp only [Nat.zero_add] at l0 l1 l2 l3 l4 l5 l6 l7 l8 l9 l10 l11 l12
        go_wp2_with fail
        refine (hahead la x _ _ _).mono ?_; rintro _ z1 ⟨rfl, hb2⟩
        generalize aheadB la x = b1 at HBF
        clear e0 e1 e2 e3 e4 e5 e6 e7 e8 e9 e10 e11 e12
        clear l0 l1 l2 l3 l4 l5 l6 l7 l8 l9 l10 l11 l12
        have HRU := Lib.hid (HRU.out.below hb2)
        have HLU := Lib.hid (HLU.out.below hb2)
        have HXU := Lib.hid (below_on HXU.out hb2)
        clear hb2
        have e12 := HRU.out.cells.c12
        have l12 := HLU.out.cells.c12
        simp only [Nat.zero_add] at e12 l12
        go_upto_region 7 with fail
        by_cases hnx : i + 1 < m
        · obtain ⟨y, u', hy, hCy, hPy⟩ := HNX.out hnx
          obtain ⟨py, cy, rfl, _, _⟩ := hPy.slice
          have HYO := Lib.hid (o_at hy)
          rw [HYO.out] at HBH
          have hCy := hCy.below HXU.out
          clear hPy hy
          obtain ⟨y0, y1, y2, y3, y4, y5, y6, y7, y8, y9, y10, y11, y12⟩ := hCy
          obtain ⟨e0, e1, e2, e3, e4, e5, e6, e7, e8, e9, e10, e11, e12⟩ := HRU.out.cells
          simp only [Nat.zero_add] at e0 e1 e2 e3 e4 e5 e6 e7 e8 e9 e10 e11 e12
          have e0 := Ext.cells e0; have e1 := Ext.cells e1; have e2 := Ext.cells e2; have e3 := Ext.cells e3; have e4 := Ext.cells e4; have e5 := Ext.cells e5; have e6 := Ext.cells e6; have e7 := Ext.cells e7; have e8 := Ext.cells e8; have e9 := Ext.cells e9; have e10 := Ext.cells e10; have e11 := Ext.cells e11; have e12 := Ext.cells e12
          have y0 := Ext.cells y0; have y1 := Ext.cells y1; have y2 := Ext.cells y2; have y3 := Ext.cells y3; have y4 := Ext.cells y4; have y5 := Ext.cells y5; have y6 := Ext.cells y6; have y7 := Ext.cells y7; have y8 := Ext.cells y8; have y9 := Ext.cells y9; have y10 := Ext.cells y10; have y11 := Ext.cells y11; have y12 := Ext.cells y12
          have hd : decide ((i : Int) + 1 < (m : Int)) = true := decide_eq_true (by omega)
          obtain ⟨W, hW⟩ : ∃ W, W = z1 := ⟨_, rfl⟩
          rw [← hW] at HRU HLU HXU e0 e1 e2 e3 e4 e5 e6 e7 e8 e9 e10 e11 e12 y0 y1 y2 y3 y4 y5 y6 y7 y8 y9 y10 y11 y12 ⊢
          clear hW l12
          (with_reducible refine wp_region_mix (fun w' => ∃ y : Ext W, w' = y.w) ?_ ?_ ?_ ?_; kernel_rfl; kernel_rfl; exact ⟨⟨W.drew, (Below.refl _ _).drew⟩, rfl⟩)
          repeat (first | ((with_reducible refine mix_skip (by kernel_rfl) ?_); go_big_quiet_skip; (with_reducible refine mix_on ?_)) | ((with_reducible refine mix_plain (by kernel_rfl) ?_); (first | go_big_quiet_skip | (go_big_quiet_want; go_big_quiet_op; go_big_quiet_on)); (with_reducible refine mix_on ?_)))
          ((with_reducible refine wpMix_chain (by kernel_rfl) (by kernel_rfl) (fun K HK => ?_)); go_step)
          refine (hahead x y _ _ _).mono ?_; rintro _ z8 ⟨rfl, hb2⟩
          have hz8 : Below W.heap.size W z8 := below_on (Below.refl _ _).drew hb2
          refine HK.out _ _ ⟨⟨z8, hz8⟩, rfl⟩ ?_
          clear HK K hb2
          generalize aheadB x y = b2 at HBH
          repeat (first | ((with_reducible refine mix_skip (by kernel_rfl) ?_); go_big_quiet_skip; (with_reducible refine mix_on ?_)) | ((with_reducible refine mix_plain (by kernel_rfl) ?_); (first | go_big_quiet_skip | (go_big_quiet_want; go_big_quiet_op; go_big_quiet_on)); (with_reducible refine mix_on ?_)))
          refine wpMix_nil ?_
          clear y0 y1 y2 y3 y4 y5 y6 y7 y8 y9 y10 y11 y12
          clear e0 e1 e2 e3 e4 e5 e6 e7 e8 e9 e10 e11 e12
          have HRU := Lib.hid (HRU.out.below hz8)
          have HLU := Lib.hid (HLU.out.below hz8)
          have HXU := Lib.hid (below_on HXU.out hz8)
          clear hz8
          rw [show decide (i + 1 < O.length) = true from decide_eq_true (by have := HM.out; omega), Bool.true_and] at HBH
          have e12 := HRU.out.cells.c12
          have l12 := HLU.out.cells.c12
          simp only [Nat.zero_add] at e12 l12
          clear hnx hd
          cases b1 with
          | true =>
            cases b2 with
            | true =>
              have HKE := Lib.hid (show k + 0 = ovN O (i + 1) by rw [HOV.out, ← HKN.out, HBF.out, HBH.out]; rfl)
              go_upto_region 10 with fail
              by_cases c1 : 0 ≤ la.to
              · by_cases c2 : x.to < 0
                · have HLE := Lib.hid (show lastO O (i + 1) = x by rw [HLS.out, if_pos (.inr ⟨c1, .inl c2⟩)])
                  go_upto_region 11 with fail
                  clear e12 l12 c1 c2
                  obtain ⟨e0, e1, e2, e3, e4, e5, e6, e7, e8, e9, e10, e11, e12⟩ := HRU.out.cells
                  simp only [Nat.zero_add] at e0 e1 e2 e3 e4 e5 e6 e7 e8 e9 e10 e11 e12
                  obtain ⟨l0, l1, l2, l3, l4, l5, l6, l7, l8, l9, l10, l11, l12⟩ := HLU.out.cells
                  simp only [Nat.zero_add] at l0 l1 l2 l3 l4 l5 l6 l7 l8 l9 l10 l11 l12
                  have ff := HLU.out.free
                  go_wp2_with fail
                  generalize hY : World.setCell _ _ _ = Y
                  have HLY := Lib.hid (show R13 Y Zl x (.slice px x.an.ps.length cx) by rw [← hY]; exact HLU.out.full x _)
                  have HYB := Lib.hid (show Below w.heap.size w Y by
                    have hqq : w.heap.size ≤ Zl := HZL.out
                    rw [← hY]; exact (((((((((((((HXU.out.setCell (p := ⟨Zl, 0, none⟩) hqq _).setCell (p := ⟨Zl, 1, none⟩) hqq _).setCell (p := ⟨Zl, 2, none⟩) hqq _).setCell (p := ⟨Zl, 3, none⟩) hqq _).setCell (p := ⟨Zl, 4, none⟩) hqq _).setCell (p := ⟨Zl, 5, none⟩) hqq _).setCell (p := ⟨Zl, 6, none⟩) hqq _).setCell (p := ⟨Zl, 7, none⟩) hqq _).setCell (p := ⟨Zl, 8, none⟩) hqq _).setCell (p := ⟨Zl, 9, none⟩) hqq _).setCell (p := ⟨Zl, 10, none⟩) hqq _).setCell (p := ⟨Zl, 11, none⟩) hqq _).setCell (p := ⟨Zl, 12, none⟩) hqq _))
                  clear hY
                  go_roundw
                  case rel => exact ⟨i + 1, by omega, by go_num, k + 0, by omega, by go_num, HKE, px, x.an.ps.length, cx, Lib.hid (by rw [HLE.out]; exact HLY.out), HYB.out⟩
                  case measure => simp [intOf]; omega
                · by_cases c3 : la.to < x.to
                  · have HLE := Lib.hid (show lastO O (i + 1) = x by rw [HLS.out, if_pos (.inr ⟨c1, .inr c3⟩)])
                    go_upto_region 11 with fail
                    clear e12 l12 c1 c2 c3
                    obtain ⟨e0, e1, e2, e3, e4, e5, e6, e7, e8, e9, e10, e11, e12⟩ := HRU.out.cells
                    simp only [Nat.zero_add] at e0 e1 e2 e3 e4 e5 e6 e7 e8 e9 e10 e11 e12
                    obtain ⟨l0, l1, l2, l3, l4, l5, l6, l7, l8, l9, l10, l11, l12⟩ := HLU.out.cells
                    simp only [Nat.zero_add] at l0 l1 l2 l3 l4 l5 l6 l7 l8 l9 l10 l11 l12
                    have ff := HLU.out.free
                    go_wp2_with fail
                    generalize hY : World.setCell _ _ _ = Y
                    have HLY := Lib.hid (show R13 Y Zl x (.slice px x.an.ps.length cx) by rw [← hY]; exact HLU.out.full x _)
                    have HYB := Lib.hid (show Below w.heap.size w Y by
                      have hqq : w.heap.size ≤ Zl := HZL.out
                      rw [← hY]; exact (((((((((((((HXU.out.setCell (p := ⟨Zl, 0, none⟩) hqq _).setCell (p := ⟨Zl, 1, none⟩) hqq _).setCell (p := ⟨Zl, 2, none⟩) hqq _).setCell (p := ⟨Zl, 3, none⟩) hqq _).setCell (p := ⟨Zl, 4, none⟩) hqq _).setCell (p := ⟨Zl, 5, none⟩) hqq _).setCell (p := ⟨Zl, 6, none⟩) hqq _).setCell (p := ⟨Zl, 7, none⟩) hqq _).setCell (p := ⟨Zl, 8, none⟩) hqq _).setCell (p := ⟨Zl, 9, none⟩) hqq _).setCell (p := ⟨Zl, 10, none⟩) hqq _).setCell (p := ⟨Zl, 11, none⟩) hqq _).setCell (p := ⟨Zl, 12, none⟩) hqq _))
                    clear hY
                    go_roundw
                    case rel => exact ⟨i + 1, by omega, by go_num, k + 0, by omega, by go_num, HKE, px, x.an.ps.length, cx, Lib.hid (by rw [HLE.out]; exact HLY.out), HYB.out⟩
                    case measure => simp [intOf]; omega
                  · have HLE := Lib.hid (show lastO O (i + 1) = la by rw [HLS.out, if_neg (by omega)])
                    go_wp2_with fail
                    go_roundw
                    case rel => exact ⟨i + 1, by omega, by go_num, k + 0, by omega, by go_num, HKE, pl, nl, cl, Lib.hid (by rw [HLE.out]; exact HLU.out), HXU.out⟩
                    case measure => simp [intOf]; omega
              · have HLE := Lib.hid (show lastO O (i + 1) = la by rw [HLS.out, if_neg (by omega)])
                go_wp2_with fail
                go_roundw
                case rel => exact ⟨i + 1, by omega, by go_num, k + 0, by omega, by go_num, HKE, pl, nl, cl, Lib.hid (by rw [HLE.out]; exact HLU.out), HXU.out⟩
                case measure => simp [intOf]; omega
            | false =>
              have HKE := Lib.hid (show k + 1 = ovN O (i + 1) by rw [HOV.out, ← HKN.out, HBF.out, HBH.out]; rfl)
              go_upto_region 10 with fail
              by_cases c1 : 0 ≤ la.to
              · by_cases c2 : x.to < 0
                · have HLE := Lib.hid (show lastO O (i + 1) = x by rw [HLS.out, if_pos (.inr ⟨c1, .inl c2⟩)])
                  go_upto_region 11 with fail
                  clear e12 l12 c1 c2
                  obtain ⟨e0, e1, e2, e3, e4, e5, e6, e7, e8, e9, e10, e11, e12⟩ := HRU.out.cells
                  simp only [Nat.zero_add] at e0 e1 e2 e3 e4 e5 e6 e7 e8 e9 e10 e11 e12
                  obtain ⟨l0, l1, l2, l3, l4, l5, l6, l7, l8, l9, l10, l11, l12⟩ := HLU.out.cells
                  simp only [Nat.zero_add] at l0 l1 l2 l3 l4 l5 l6 l7 l8 l9 l10 l11 l12
                  have ff := HLU.out.free
                  go_wp2_with fail
                  generalize hY : World.setCell _ _ _ = Y
                  have HLY := Lib.hid (show R13 Y Zl x (.slice px x.an.ps.length cx) by rw [← hY]; exact HLU.out.full x _)
                  have HYB := Lib.hid (show Below w.heap.size w Y by
                    have hqq : w.heap.size ≤ Zl := HZL.out
                    rw [← hY]; exact (((((((((((((HXU.out.setCell (p := ⟨Zl, 0, none⟩) hqq _).setCell (p := ⟨Zl, 1, none⟩) hqq _).setCell (p := ⟨Zl, 2, none⟩) hqq _).setCell (p := ⟨Zl, 3, none⟩) hqq _).setCell (p := ⟨Zl, 4, none⟩) hqq _).setCell (p := ⟨Zl, 5, none⟩) hqq _).setCell (p := ⟨Zl, 6, none⟩) hqq _).setCell (p := ⟨Zl, 7, none⟩) hqq _).setCell (p := ⟨Zl, 8, none⟩) hqq _).setCell (p := ⟨Zl, 9, none⟩) hqq _).setCell (p := ⟨Zl, 10, none⟩) hqq _).setCell (p := ⟨Zl, 11, none⟩) hqq _).setCell (p := ⟨Zl, 12, none⟩) hqq _))
                  clear hY
                  go_roundw
                  case rel => exact ⟨i + 1, by omega, by go_num, k + 1, by omega, by go_num, HKE, px, x.an.ps.length, cx, Lib.hid (by rw [HLE.out]; exact HLY.out), HYB.out⟩
                  case measure => simp [intOf]; omega
                · by_cases c3 : la.to < x.to
                  · have HLE := Lib.hid (show lastO O (i + 1) = x by rw [HLS.out, if_pos (.inr ⟨c1, .inr c3⟩)])
                    go_upto_region 11 with fail
                    clear e12 l12 c1 c2 c3
                    obtain ⟨e0, e1, e2, e3, e4, e5, e6, e7, e8, e9, e10, e11, e12⟩ := HRU.out.cells
                    simp only [Nat.zero_add] at e0 e1 e2 e3 e4 e5 e6 e7 e8 e9 e10 e11 e12
                    obtain ⟨l0, l1, l2, l3, l4, l5, l6, l7, l8, l9, l10, l11, l12⟩ := HLU.out.cells
                    simp only [Nat.zero_add] at l0 l1 l2 l3 l4 l5 l6 l7 l8 l9 l10 l11 l12
                    have ff := HLU.out.free
                    go_wp2_with fail
                    generalize hY : World.setCell _ _ _ = Y
                    have HLY := Lib.hid (show R13 Y Zl x (.slice px x.an.ps.length cx) by rw [← hY]; exact HLU.out.full x _)
                    have HYB := Lib.hid (show Below w.heap.size w Y by
                      have hqq : w.heap.size ≤ Zl := HZL.out
                      rw [← hY]; exact (((((((((((((HXU.out.setCell (p := ⟨Zl, 0, none⟩) hqq _).setCell (p := ⟨Zl, 1, none⟩) hqq _).setCell (p := ⟨Zl, 2, none⟩) hqq _).setCell (p := ⟨Zl, 3, none⟩) hqq _).setCell (p := ⟨Zl, 4, none⟩) hqq _).setCell (p := ⟨Zl, 5, none⟩) hqq _).setCell (p := ⟨Zl, 6, none⟩) hqq _).setCell (p := ⟨Zl, 7, none⟩) hqq _).setCell (p := ⟨Zl, 8, none⟩) hqq _).setCell (p := ⟨Zl, 9, none⟩) hqq _).setCell (p := ⟨Zl, 10, none⟩) hqq _).setCell (p := ⟨Zl, 11, none⟩) hqq _).setCell (p := ⟨Zl, 12, none⟩) hqq _))
                    clear hY
                    go_roundw
                    case rel => exact ⟨i + 1, by omega, by go_num, k + 1, by omega, by go_num, HKE, px, x.an.ps.length, cx, Lib.hid (by rw [HLE.out]; exact HLY.out), HYB.out⟩
                    case measure => simp [intOf]; omega
                  · have HLE := Lib.hid (show lastO O (i + 1) = la by rw [HLS.out, if_neg (by omega)])
                    go_wp2_with fail
                    go_roundw
                    case rel => exact ⟨i + 1, by omega, by go_num, k + 1, by omega, by go_num, HKE, pl, nl, cl, Lib.hid (by rw [HLE.out]; exact HLU.out), HXU.out⟩
                    case measure => simp [intOf]; omega
              · have HLE := Lib.hid (show lastO O (i + 1) = la by rw [HLS.out, if_neg (by omega)])
                go_wp2_with fail
                go_roundw
                case rel => exact ⟨i + 1, by omega, by go_num, k + 1, by omega, by go_num, HKE, pl, nl, cl, Lib.hid (by rw [HLE.out]; exact HLU.out), HXU.out⟩
                case measure => simp [intOf]; omega
          | false =>
            cases b2 with
            | true =>
              have HKE := Lib.hid (show k + 1 = ovN O (i + 1) by rw [HOV.out, ← HKN.out, HBF.out, HBH.out]; rfl)
              go_upto_region 10 with fail
              by_cases c1 : 0 ≤ la.to
              · by_cases c2 : x.to < 0
                · have HLE := Lib.hid (show lastO O (i + 1) = x by rw [HLS.out, if_pos (.inr ⟨c1, .inl c2⟩)])
                  go_upto_region 11 with fail
                  clear e12 l12 c1 c2
                  obtain ⟨e0, e1, e2, e3, e4, e5, e6, e7, e8, e9, e10, e11, e12⟩ := HRU.out.cells
                  simp only [Nat.zero_add] at e0 e1 e2 e3 e4 e5 e6 e7 e8 e9 e10 e11 e12
                  obtain ⟨l0, l1, l2, l3, l4, l5, l6, l7, l8, l9, l10, l11, l12⟩ := HLU.out.cells
                  simp only [Nat.zero_add] at l0 l1 l2 l3 l4 l5 l6 l7 l8 l9 l10 l11 l12
                  have ff := HLU.out.free
                  go_wp2_with fail
                  generalize hY : World.setCell _ _ _ = Y
                  have HLY := Lib.hid (show R13 Y Zl x (.slice px x.an.ps.length cx) by rw [← hY]; exact HLU.out.full x _)
                  have HYB := Lib.hid (show Below w.heap.size w Y by
                    have hqq : w.heap.size ≤ Zl := HZL.out
                    rw [← hY]; exact (((((((((((((HXU.out.setCell (p := ⟨Zl, 0, none⟩) hqq _).setCell (p := ⟨Zl, 1, none⟩) hqq _).setCell (p := ⟨Zl, 2, none⟩) hqq _).setCell (p := ⟨Zl, 3, none⟩) hqq _).setCell (p := ⟨Zl, 4, none⟩) hqq _).setCell (p := ⟨Zl, 5, none⟩) hqq _).setCell (p := ⟨Zl, 6, none⟩) hqq _).setCell (p := ⟨Zl, 7, none⟩) hqq _).setCell (p := ⟨Zl, 8, none⟩) hqq _).setCell (p := ⟨Zl, 9, none⟩) hqq _).setCell (p := ⟨Zl, 10, none⟩) hqq _).setCell (p := ⟨Zl, 11, none⟩) hqq _).setCell (p := ⟨Zl, 12, none⟩) hqq _))
                  clear hY
                  go_roundw
                  case rel => exact ⟨i + 1, by omega, by go_num, k + 1, by omega, by go_num, HKE, px, x.an.ps.length, cx, Lib.hid (by rw [HLE.out]; exact HLY.out), HYB.out⟩
                  case measure => simp [intOf]; omega
                · by_cases c3 : la.to < x.to
                  · have HLE := Lib.hid (show lastO O (i + 1) = x by rw [HLS.out, if_pos (.inr ⟨c1, .inr c3⟩)])
                    go_upto_region 11 with fail
                    clear e12 l12 c1 c2 c3
                    obtain ⟨e0, e1, e2, e3, e4, e5, e6, e7, e8, e9, e10, e11, e12⟩ := HRU.out.cells
                    simp only [Nat.zero_add] at e0 e1 e2 e3 e4 e5 e6 e7 e8 e9 e10 e11 e12
                    obtain ⟨l0, l1, l2, l3, l4, l5, l6, l7, l8, l9, l10, l11, l12⟩ := HLU.out.cells
                    simp only [Nat.zero_add] at l0 l1 l2 l3 l4 l5 l6 l7 l8 l9 l10 l11 l12
                    have ff := HLU.out.free
                    go_wp2_with fail
                    generalize hY : World.setCell _ _ _ = Y
                    have HLY := Lib.hid (show R13 Y Zl x (.slice px x.an.ps.length cx) by rw [← hY]; exact HLU.out.full x _)
                    have HYB := Lib.hid (show Below w.heap.size w Y by
                      have hqq : w.heap.size ≤ Zl := HZL.out
                      rw [← hY]; exact (((((((((((((HXU.out.setCell (p := ⟨Zl, 0, none⟩) hqq _).setCell (p := ⟨Zl, 1, none⟩) hqq _).setCell (p := ⟨Zl, 2, none⟩) hqq _).setCell (p := ⟨Zl, 3, none⟩) hqq _).setCell (p := ⟨Zl, 4, none⟩) hqq _).setCell (p := ⟨Zl, 5, none⟩) hqq _).setCell (p := ⟨Zl, 6, none⟩) hqq _).setCell (p := ⟨Zl, 7, none⟩) hqq _).setCell (p := ⟨Zl, 8, none⟩) hqq _).setCell (p := ⟨Zl, 9, none⟩) hqq _).setCell (p := ⟨Zl, 10, none⟩) hqq _).setCell (p := ⟨Zl, 11, none⟩) hqq _).setCell (p := ⟨Zl, 12, none⟩) hqq _))
                    clear hY
                    go_roundw
                    case rel => exact ⟨i + 1, by omega, by go_num, k + 1, by omega, by go_num, HKE, px, x.an.ps.length, cx, Lib.hid (by rw [HLE.out]; exact HLY.out), HYB.out⟩
                    case measure => simp [intOf]; omega
                  · have HLE := Lib.hid (show lastO O (i + 1) = la by rw [HLS.out, if_neg (by omega)])
                    go_wp2_with fail
                    go_roundw
                    case rel => exact ⟨i + 1, by omega, by go_num, k + 1, by omega, by go_num, HKE, pl, nl, cl, Lib.hid (by rw [HLE.out]; exact HLU.out), HXU.out⟩
                    case measure => simp [intOf]; omega
              · have HLE := Lib.hid (show lastO O (i + 1) = la by rw [HLS.out, if_neg (by omega)])
                go_wp2_with fail
                go_roundw
                case rel => exact ⟨i + 1, by omega, by go_num, k + 1, by omega, by go_num, HKE, pl, nl, cl, Lib.hid (by rw [HLE.out]; exact HLU.out), HXU.out⟩
                case measure => simp [intOf]; omega
            | false =>
              have HKE := Lib.hid (show k + 1 = ovN O (i + 1) by rw [HOV.out, ← HKN.out, HBF.out, HBH.out]; rfl)
              go_upto_region 10 with fail
              by_cases c1 : 0 ≤ la.to
              · by_cases c2 : x.to < 0
                · have HLE := Lib.hid (show lastO O (i + 1) = x by rw [HLS.out, if_pos (.inr ⟨c1, .inl c2⟩)])
                  go_upto_region 11 with fail
                  clear e12 l12 c1 c2
                  obtain ⟨e0, e1, e2, e3, e4, e5, e6, e7, e8, e9, e10, e11, e12⟩ := HRU.out.cells
                  simp only [Nat.zero_add] at e0 e1 e2 e3 e4 e5 e6 e7 e8 e9 e10 e11 e12
                  obtain ⟨l0, l1, l2, l3, l4, l5, l6, l7, l8, l9, l10, l11, l12⟩ := HLU.out.cells
                  simp only [Nat.zero_add] at l0 l1 l2 l3 l4 l5 l6 l7 l8 l9 l10 l11 l12
                  have ff := HLU.out.free
                  go_wp2_with fail
                  generalize hY : World.setCell _ _ _ = Y
                  have HLY := Lib.hid (show R13 Y Zl x (.slice px x.an.ps.length cx) by rw [← hY]; exact HLU.out.full x _)
                  have HYB := Lib.hid (show Below w.heap.size w Y by
                    have hqq : w.heap.size ≤ Zl := HZL.out
                    rw [← hY]; exact (((((((((((((HXU.out.setCell (p := ⟨Zl, 0, none⟩) hqq _).setCell (p := ⟨Zl, 1, none⟩) hqq _).setCell (p := ⟨Zl, 2, none⟩) hqq _).setCell (p := ⟨Zl, 3, none⟩) hqq _).setCell (p := ⟨Zl, 4, none⟩) hqq _).setCell (p := ⟨Zl, 5, none⟩) hqq _).setCell (p := ⟨Zl, 6, none⟩) hqq _).setCell (p := ⟨Zl, 7, none⟩) hqq _).setCell (p := ⟨Zl, 8, none⟩) hqq _).setCell (p := ⟨Zl, 9, none⟩) hqq _).setCell (p := ⟨Zl, 10, none⟩) hqq _).setCell (p := ⟨Zl, 11, none⟩) hqq _).setCell (p := ⟨Zl, 12, none⟩) hqq _))
                  clear hY
                  go_roundw
                  case rel => exact ⟨i + 1, by omega, by go_num, k + 1, by omega, by go_num, HKE, px, x.an.ps.length, cx, Lib.hid (by rw [HLE.out]; exact HLY.out), HYB.out⟩
                  case measure => simp [intOf]; omega
                · by_cases c3 : la.to < x.to
                  · have HLE := Lib.hid (show lastO O (i + 1) = x by rw [HLS.out, if_pos (.inr ⟨c1, .inr c3⟩)])
                    go_upto_region 11 with fail
                    clear e12 l12 c1 c2 c3
                    obtain ⟨e0, e1, e2, e3, e4, e5, e6, e7, e8, e9, e10, e11, e12⟩ := HRU.out.cells
                    simp only [Nat.zero_add] at e0 e1 e2 e3 e4 e5 e6 e7 e8 e9 e10 e11 e12
                    obtain ⟨l0, l1, l2, l3, l4, l5, l6, l7, l8, l9, l10, l11, l12⟩ := HLU.out.cells
                    simp only [Nat.zero_add] at l0 l1 l2 l3 l4 l5 l6 l7 l8 l9 l10 l11 l12
                    have ff := HLU.out.free
                    go_wp2_with fail
                    generalize hY : World.setCell _ _ _ = Y
                    have HLY := Lib.hid (show R13 Y Zl x (.slice px x.an.ps.length cx) by rw [← hY]; exact HLU.out.full x _)
                    have HYB := Lib.hid (show Below w.heap.size w Y by
                      have hqq : w.heap.size ≤ Zl := HZL.out
                      rw [← hY]; exact (((((((((((((HXU.out.setCell (p := ⟨Zl, 0, none⟩) hqq _).setCell (p := ⟨Zl, 1, none⟩) hqq _).setCell (p := ⟨Zl, 2, none⟩) hqq _).setCell (p := ⟨Zl, 3, none⟩) hqq _).setCell (p := ⟨Zl, 4, none⟩) hqq _).setCell (p := ⟨Zl, 5, none⟩) hqq _).setCell (p := ⟨Zl, 6, none⟩) hqq _).setCell (p := ⟨Zl, 7, none⟩) hqq _).setCell (p := ⟨Zl, 8, none⟩) hqq _).setCell (p := ⟨Zl, 9, none⟩) hqq _).setCell (p := ⟨Zl, 10, none⟩) hqq _).setCell (p := ⟨Zl, 11, none⟩) hqq _).setCell (p := ⟨Zl, 12, none⟩) hqq _))
                    clear hY
                    go_roundw
                    case rel => exact ⟨i + 1, by omega, by go_num, k + 1, by omega, by go_num, HKE, px, x.an.ps.length, cx, Lib.hid (by rw [HLE.out]; exact HLY.out), HYB.out⟩
                    case measure => simp [intOf]; omega
                  · have HLE := Lib.hid (show lastO O (i + 1) = la by rw [HLS.out, if_neg (by omega)])
                    go_wp2_with fail
                    go_roundw
                    case rel => exact ⟨i + 1, by omega, by go_num, k + 1, by omega, by go_num, HKE, pl, nl, cl, Lib.hid (by rw [HLE.out]; exact HLU.out), HXU.out⟩
                    case measure => simp [intOf]; omega
              · have HLE := Lib.hid (show lastO O (i + 1) = la by rw [HLS.out, if_neg (by omega)])
                go_wp2_with fail
                go_roundw
                case rel => exact ⟨i + 1, by omega, by go_num, k + 1, by omega, by go_num, HKE, pl, nl, cl, Lib.hid (by rw [HLE.out]; exact HLU.out), HXU.out⟩
                case measure => simp [intOf]; omega
        · rw [show decide (i + 1 < O.length) = false from decide_eq_false (by have := HM.out; omega), Bool.false_and] at HBH
          have hd : decide ((i : Int) + 1 < (m : Int)) = false := decide_eq_false (by omega)
          clear hnx
          go_quiet (fail)
          obtain ⟨W, hW⟩ : ∃ W, W = World.drewN z1 nq := ⟨_, rfl⟩
          have hz8 : Below z1.heap.size z1 W := by rw [hW]; exact below_drewN (Below.refl _ _) nq
          rw [← hW]
          clear hW hd e12 l12
          have HRU := Lib.hid (HRU.out.below hz8)
          have HLU := Lib.hid (HLU.out.below hz8)
          have HXU := Lib.hid (below_on HXU.out hz8)
          clear hz8
          have e12 := HRU.out.cells.c12
          have l12 := HLU.out.cells.c12
          simp only [Nat.zero_add] at e12 l12
          cases b1 with
          | true =>
            have HKE := Lib.hid (show k + 0 = ovN O (i + 1) by rw [HOV.out, ← HKN.out, HBF.out, HBH.out]; rfl)
            go_upto_region 10 with fail
            by_cases c1 : 0 ≤ la.to
            · by_cases c2 : x.to < 0
              · have HLE := Lib.hid (show lastO O (i + 1) = x by rw [HLS.out, if_pos (.inr ⟨c1, .inl c2⟩)])
                go_upto_region 11 with fail
                clear e12 l12 c1 c2
                obtain ⟨e0, e1, e2, e3, e4, e5, e6, e7, e8, e9, e10, e11, e12⟩ := HRU.out.cells
                simp only [Nat.zero_add] at e0 e1 e2 e3 e4 e5 e6 e7 e8 e9 e10 e11 e12
                obtain ⟨l0, l1, l2, l3, l4, l5, l6, l7, l8, l9, l10, l11, l12⟩ := HLU.out.cells
                simp only [Nat.zero_add] at l0 l1 l2 l3 l4 l5 l6 l7 l8 l9 l10 l11 l12
                have ff := HLU.out.free
                go_wp2_with fail
                generalize hY : World.setCell _ _ _ = Y
                have HLY := Lib.hid (show R13 Y Zl x (.slice px x.an.ps.length cx) by rw [← hY]; exact HLU.out.full x _)
                have HYB := Lib.hid (show Below w.heap.size w Y by
                  have hqq : w.heap.size ≤ Zl := HZL.out
                  rw [← hY]; exact (((((((((((((HXU.out.setCell (p := ⟨Zl, 0, none⟩) hqq _).setCell (p := ⟨Zl, 1, none⟩) hqq _).setCell (p := ⟨Zl, 2, none⟩) hqq _).setCell (p := ⟨Zl, 3, none⟩) hqq _).setCell (p := ⟨Zl, 4, none⟩) hqq _).setCell (p := ⟨Zl, 5, none⟩) hqq _).setCell (p := ⟨Zl, 6, none⟩) hqq _).setCell (p := ⟨Zl, 7, none⟩) hqq _).setCell (p := ⟨Zl, 8, none⟩) hqq _).setCell (p := ⟨Zl, 9, none⟩) hqq _).setCell (p := ⟨Zl, 10, none⟩) hqq _).setCell (p := ⟨Zl, 11, none⟩) hqq _).setCell (p := ⟨Zl, 12, none⟩) hqq _))
                clear hY
                go_roundw
                case rel => exact ⟨i + 1, by omega, by go_num, k + 0, by omega, by go_num, HKE, px, x.an.ps.length, cx, Lib.hid (by rw [HLE.out]; exact HLY.out), HYB.out⟩
                case measure => simp [intOf]; omega
              · by_cases c3 : la.to < x.to
                · have HLE := Lib.hid (show lastO O (i + 1) = x by rw [HLS.out, if_pos (.inr ⟨c1, .inr c3⟩)])
                  go_upto_region 11 with fail
                  clear e12 l12 c1 c2 c3
                  obtain ⟨e0, e1, e2, e3, e4, e5, e6, e7, e8, e9, e10, e11, e12⟩ := HRU.out.cells
                  simp only [Nat.zero_add] at e0 e1 e2 e3 e4 e5 e6 e7 e8 e9 e10 e11 e12
                  obtain ⟨l0, l1, l2, l3, l4, l5, l6, l7, l8, l9, l10, l11, l12⟩ := HLU.out.cells
                  simp only [Nat.zero_add] at l0 l1 l2 l3 l4 l5 l6 l7 l8 l9 l10 l11 l12
                  have ff := HLU.out.free
                  go_wp2_with fail
                  generalize hY : World.setCell _ _ _ = Y
                  have HLY := Lib.hid (show R13 Y Zl x (.slice px x.an.ps.length cx) by rw [← hY]; exact HLU.out.full x _)
                  have HYB := Lib.hid (show Below w.heap.size w Y by
                    have hqq : w.heap.size ≤ Zl := HZL.out
                    rw [← hY]; exact (((((((((((((HXU.out.setCell (p := ⟨Zl, 0, none⟩) hqq _).setCell (p := ⟨Zl, 1, none⟩) hqq _).setCell (p := ⟨Zl, 2, none⟩) hqq _).setCell (p := ⟨Zl, 3, none⟩) hqq _).setCell (p := ⟨Zl, 4, none⟩) hqq _).setCell (p := ⟨Zl, 5, none⟩) hqq _).setCell (p := ⟨Zl, 6, none⟩) hqq _).setCell (p := ⟨Zl, 7, none⟩) hqq _).setCell (p := ⟨Zl, 8, none⟩) hqq _).setCell (p := ⟨Zl, 9, none⟩) hqq _).setCell (p := ⟨Zl, 10, none⟩) hqq _).setCell (p := ⟨Zl, 11, none⟩) hqq _).setCell (p := ⟨Zl, 12, none⟩) hqq _))
                  clear hY
                  go_roundw
                  case rel => exact ⟨i + 1, by omega, by go_num, k + 0, by omega, by go_num, HKE, px, x.an.ps.length, cx, Lib.hid (by rw [HLE.out]; exact HLY.out), HYB.out⟩
                  case measure => simp [intOf]; omega
                · have HLE := Lib.hid (show lastO O (i + 1) = la by rw [HLS.out, if_neg (by omega)])
                  go_wp2_with fail
                  go_roundw
                  case rel => exact ⟨i + 1, by omega, by go_num, k + 0, by omega, by go_num, HKE, pl, nl, cl, Lib.hid (by rw [HLE.out]; exact HLU.out), HXU.out⟩
                  case measure => simp [intOf]; omega
            · have HLE := Lib.hid (show lastO O (i + 1) = la by rw [HLS.out, if_neg (by omega)])
              go_wp2_with fail
              go_roundw
              case rel => exact ⟨i + 1, by omega, by go_num, k + 0, by omega, by go_num, HKE, pl, nl, cl, Lib.hid (by rw [HLE.out]; exact HLU.out), HXU.out⟩
              case measure => simp [intOf]; omega
          | false =>
            have HKE := Lib.hid (show k + 1 = ovN O (i + 1) by rw [HOV.out, ← HKN.out, HBF.out, HBH.out]; rfl)
            go_upto_region 10 with fail
            by_cases c1 : 0 ≤ la.to
            · by_cases c2 : x.to < 0
              · have HLE := Lib.hid (show lastO O (i + 1) = x by rw [HLS.out, if_pos (.inr ⟨c1, .inl c2⟩)])
                go_upto_region 11 with fail
                clear e12 l12 c1 c2
                obtain ⟨e0, e1, e2, e3, e4, e5, e6, e7, e8, e9, e10, e11, e12⟩ := HRU.out.cells
                simp only [Nat.zero_add] at e0 e1 e2 e3 e4 e5 e6 e7 e8 e9 e10 e11 e12
                obtain ⟨l0, l1, l2, l3, l4, l5, l6, l7, l8, l9, l10, l11, l12⟩ := HLU.out.cells
                simp only [Nat.zero_add] at l0 l1 l2 l3 l4 l5 l6 l7 l8 l9 l10 l11 l12
                have ff := HLU.out.free
                go_wp2_with fail
                generalize hY : World.setCell _ _ _ = Y
                have HLY := Lib.hid (show R13 Y Zl x (.slice px x.an.ps.length cx) by rw [← hY]; exact HLU.out.full x _)
                have HYB := Lib.hid (show Below w.heap.size w Y by
                  have hqq : w.heap.size ≤ Zl := HZL.out
                  rw [← hY]; exact (((((((((((((HXU.out.setCell (p := ⟨Zl, 0, none⟩) hqq _).setCell (p := ⟨Zl, 1, none⟩) hqq _).setCell (p := ⟨Zl, 2, none⟩) hqq _).setCell (p := ⟨Zl, 3, none⟩) hqq _).setCell (p := ⟨Zl, 4, none⟩) hqq _).setCell (p := ⟨Zl, 5, none⟩) hqq _).setCell (p := ⟨Zl, 6, none⟩) hqq _).setCell (p := ⟨Zl, 7, none⟩) hqq _).setCell (p := ⟨Zl, 8, none⟩) hqq _).setCell (p := ⟨Zl, 9, none⟩) hqq _).setCell (p := ⟨Zl, 10, none⟩) hqq _).setCell (p := ⟨Zl, 11, none⟩) hqq _).setCell (p := ⟨Zl, 12, none⟩) hqq _))
                clear hY
                go_roundw
                case rel => exact ⟨i + 1, by omega, by go_num, k + 1, by omega, by go_num, HKE, px, x.an.ps.length, cx, Lib.hid (by rw [HLE.out]; exact HLY.out), HYB.out⟩
                case measure => simp [intOf]; omega
              · by_cases c3 : la.to < x.to
                · have HLE := Lib.hid (show lastO O (i + 1) = x by rw [HLS.out, if_pos (.inr ⟨c1, .inr c3⟩)])
                  go_upto_region 11 with fail
                  clear e12 l12 c1 c2 c3
                  obtain ⟨e0, e1, e2, e3, e4, e5, e6, e7, e8, e9, e10, e11, e12⟩ := HRU.out.cells
                  simp only [Nat.zero_add] at e0 e1 e2 e3 e4 e5 e6 e7 e8 e9 e10 e11 e12
                  obtain ⟨l0, l1, l2, l3, l4, l5, l6, l7, l8, l9, l10, l11, l12⟩ := HLU.out.cells
                  simp only [Nat.zero_add] at l0 l1 l2 l3 l4 l5 l6 l7 l8 l9 l10 l11 l12
                  have ff := HLU.out.free
                  go_wp2_with fail
                  generalize hY : World.setCell _ _ _ = Y
                  have HLY := Lib.hid (show R13 Y Zl x (.slice px x.an.ps.length cx) by rw [← hY]; exact HLU.out.full x _)
                  have HYB := Lib.hid (show Below w.heap.size w Y by
                    have hqq : w.heap.size ≤ Zl := HZL.out
                    rw [← hY]; exact (((((((((((((HXU.out.setCell (p := ⟨Zl, 0, none⟩) hqq _).setCell (p := ⟨Zl, 1, none⟩) hqq _).setCell (p := ⟨Zl, 2, none⟩) hqq _).setCell (p := ⟨Zl, 3, none⟩) hqq _).setCell (p := ⟨Zl, 4, none⟩) hqq _).setCell (p := ⟨Zl, 5, none⟩) hqq _).setCell (p := ⟨Zl, 6, none⟩) hqq _).setCell (p := ⟨Zl, 7, none⟩) hqq _).setCell (p := ⟨Zl, 8, none⟩) hqq _).setCell (p := ⟨Zl, 9, none⟩) hqq _).setCell (p := ⟨Zl, 10, none⟩) hqq _).setCell (p := ⟨Zl, 11, none⟩) hqq _).setCell (p := ⟨Zl, 12, none⟩) hqq _))
                  clear hY
                  go_roundw
                  case rel => exact ⟨i + 1, by omega, by go_num, k + 1, by omega, by go_num, HKE, px, x.an.ps.length, cx, Lib.hid (by rw [HLE.out]; exact HLY.out), HYB.out⟩
                  case measure => simp [intOf]; omega
                · have HLE := Lib.hid (show lastO O (i + 1) = la by rw [HLS.out, if_neg (by omega)])
                  go_wp2_with fail
                  go_roundw
                  case rel => exact ⟨i + 1, by omega, by go_num, k + 1, by omega, by go_num, HKE, pl, nl, cl, Lib.hid (by rw [HLE.out]; exact HLU.out), HXU.out⟩
                  case measure => simp [intOf]; omega
            · have HLE := Lib.hid (show lastO O (i + 1) = la by rw [HLS.out, if_neg (by omega)])
              go_wp2_with fail
              go_roundw
              case rel => exact ⟨i + 1, by omega, by go_num, k + 1, by omega, by go_num, HKE, pl, nl, cl, Lib.hid (by rw [HLE.out]; exact HLU.out), HXU.out⟩
              case measure => simp [intOf]; omega
    · have hge : ¬ i < m := by omega
      have HE := Lib.hid (show k = ovN O m by rw [HKN.out, hEQ])
      clear hEQ
      go_wp2_with fail
      (try go_ret)
      rw [HQ.out]
      exact ⟨by rw [HE.out]; rfl, HX.out⟩
end Go.Proofs.Ytilfgekiblpkaaa
