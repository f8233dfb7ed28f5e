/- GAE: several texts in one. -/
import Derived.Test.YtaaciolfgplnoaaGAD
import Derived.WalkKit
import Derived.Below
import Derived.OrdersHeld
import Derived.Deep.QuietTactic
import Derived.BigQuiet
import Derived.WalkSmall
import Derived.Lib.Hide
/- Layer 16: what memory has at first: firstWords. -/
namespace Go.Proofs.Ytaaciolfgplnoaa
open Go.RowKit WordM EdgeM
set_option linter.unusedVariables false
set_option linter.unusedSimpArgs false
/-- A node's word at first: c leaves are laid, and the free list up to slot m. -/
def nodeF (c m q r : Nat) : Int :=
  if r = 0 then (if 5 ≤ q ∧ q + 1 < m then (q : Int) + 2 else 0)
  else if r = 2 then (if q = 0 then infoI false 3 else if q = 1 then infoI false 2 else if q < 2 + c then infoI true ((q : Int) - 1) else 0)
  else if r = 4 then (if q = 0 then 2 else if q = 1 then 3 else 0)
  else if r = 5 then (if q = 0 then 5 else if q = 1 then 4 else 0)
  else 0
def partF (t c m a : Nat) : Int := if a = 0 then 1 else if a = 1 then 3 else if a = 2 then 6 else if a < 3 + 8 * t then 0 else nodeF c m ((a - (3 + 8 * t)) / 7) ((a - (3 + 8 * t)) % 7)
theorem partF_node (t c m q r : Nat) (hr : r < 7) : partF t c m (3 + 8 * t + 7 * q + r) = nodeF c m q r := by
  unfold partF
  rw [if_neg (by omega), if_neg (by omega), if_neg (by omega), if_neg (by omega), show (3 + 8 * t + 7 * q + r - (3 + 8 * t)) / 7 = q by omega, show (3 + 8 * t + 7 * q + r - (3 + 8 * t)) % 7 = r by omega]
theorem at_node (t a : Nat) (h : 3 + 8 * t ≤ a) : ∃ q r, r < 7 ∧ a = 3 + 8 * t + 7 * q + r := ⟨(a - (3 + 8 * t)) / 7, (a - (3 + 8 * t)) % 7, by omega, by omega⟩
theorem partF_low (t c m c' m' a : Nat) (h : a < 3 + 8 * t) : partF t c m a = partF t c' m' a := by
  unfold partF
  split
  · rfl
  · split
    · rfl
    · split
      · rfl
      · simp only [if_pos h]
theorem partF_leaf (t c : Nat) (hc : c < 3) : Mm.upd (partF t c 6) (3 + 8 * t + 7 * (c + 2) + 2) (infoI true ((c : Int) + 1)) = partF t (c + 1) 6 := by
  funext a
  unfold Mm.upd
  by_cases h : a < 3 + 8 * t
  · rw [if_neg (by omega)]; exact partF_low _ _ _ _ _ _ h
  · obtain ⟨q, r, hr, rfl⟩ := at_node t a (by omega)
    rw [partF_node _ _ _ _ _ hr, partF_node _ _ _ _ _ hr]
    by_cases e : 3 + 8 * t + 7 * q + r = 3 + 8 * t + 7 * (c + 2) + 2
    · have h1 : r = 2 := by omega
      have h2 : q = c + 2 := by omega
      subst h1 h2
      rw [if_pos rfl]
      unfold nodeF
      rw [if_neg (by omega), if_pos rfl, if_neg (by omega), if_neg (by omega), if_pos (by omega)]
      congr 1; omega
    · rw [if_neg e]
      unfold nodeF
      by_cases h2 : r = 2
      · subst h2
        have hq : q ≠ c + 2 := by omega
        simp only [show ¬ (2 = 0) by omega, if_false, if_true]
        by_cases a0 : q = 0
        · rw [if_pos a0, if_pos a0]
        · by_cases a1 : q = 1
          · rw [if_neg a0, if_pos a1, if_neg a0, if_pos a1]
          · rw [if_neg a0, if_neg a1, if_neg a0, if_neg a1]
            by_cases a2 : q < 2 + c
            · rw [if_pos a2, if_pos (by omega)]
            · rw [if_neg a2, if_neg (by omega)]
      · simp only [h2, if_false]
theorem partF_link (t m : Nat) (hm : 6 ≤ m) : Mm.upd (partF t 3 m) (3 + 8 * t + 7 * (m - 1)) ((m : Int) + 1) = partF t 3 (m + 1) := by
  funext a
  unfold Mm.upd
  by_cases h : a < 3 + 8 * t
  · rw [if_neg (by omega)]; exact partF_low _ _ _ _ _ _ h
  · obtain ⟨q, r, hr, rfl⟩ := at_node t a (by omega)
    rw [partF_node _ _ _ _ _ hr, partF_node _ _ _ _ _ hr]
    by_cases e : 3 + 8 * t + 7 * q + r = 3 + 8 * t + 7 * (m - 1)
    · have h1 : r = 0 := by omega
      have h2 : m = q + 1 := by omega
      subst h1 h2
      rw [if_pos e]
      unfold nodeF
      rw [if_pos rfl, if_pos (by omega)]
      omega
    · rw [if_neg e]
      unfold nodeF
      by_cases h2 : r = 0
      · subst h2
        simp only [if_true]
        by_cases a0 : 5 ≤ q ∧ q + 1 < m
        · rw [if_pos a0, if_pos (by omega)]
        · rw [if_neg a0, if_neg (by omega)]
      · simp only [h2, if_false]
theorem partF_first (t : Nat) : innerF (innerF (Mm.upd (Mm.upd (Mm.upd (fun _ => 0) 0 1) 1 3) 2 6) (3 + 8 * t + 7 * (1 - 1)) 3 2 5) (3 + 8 * t + 7 * (2 - 1)) 2 3 4 = partF t 0 6 := by
  funext a
  unfold innerF Mm.upd
  by_cases h : a < 3 + 8 * t
  · rw [if_neg (by omega), if_neg (by omega), if_neg (by omega), if_neg (by omega), if_neg (by omega), if_neg (by omega)]
    unfold partF
    rw [if_pos h]
    by_cases a0 : a = 0
    · subst a0; simp
    · by_cases a1 : a = 1
      · subst a1; simp
      · by_cases a2 : a = 2
        · subst a2; simp
        · simp [a0, a1, a2]
  · obtain ⟨q, r, hr, rfl⟩ := at_node t a (by omega)
    rw [partF_node _ _ _ _ _ hr]
    unfold nodeF
    rcases (by omega : q = 0 ∨ q = 1 ∨ 2 ≤ q) with rfl | rfl | hq
    · rcases (by omega : r = 0 ∨ r = 1 ∨ r = 2 ∨ r = 3 ∨ r = 4 ∨ r = 5 ∨ r = 6) with rfl | rfl | rfl | rfl | rfl | rfl | rfl <;>
        (repeat (first | rw [if_neg (by omega)] | rw [if_pos (by omega)]))
    · rcases (by omega : r = 0 ∨ r = 1 ∨ r = 2 ∨ r = 3 ∨ r = 4 ∨ r = 5 ∨ r = 6) with rfl | rfl | rfl | rfl | rfl | rfl | rfl <;>
        (repeat (first | rw [if_neg (by omega)] | rw [if_pos (by omega)]))
    · rcases (by omega : r = 0 ∨ r = 1 ∨ r = 2 ∨ r = 3 ∨ r = 4 ∨ r = 5 ∨ r = 6) with rfl | rfl | rfl | rfl | rfl | rfl | rfl <;>
        (repeat (first | rw [if_neg (by omega)] | rw [if_pos (by omega)]))
theorem infoI_bd (b : Bool) (k : Int) : 0 ≤ infoI b k ∧ infoI b k ≤ 7 := by unfold infoI; split <;> cases b <;> simp <;> omega
theorem nodeF_bd (c m q r : Nat) (hm : m ≤ 1000) : 0 ≤ nodeF c m q r ∧ nodeF c m q r ≤ 2000 := by
  unfold nodeF
  have h := infoI_bd
  split
  · split <;> omega
  · split
    · split
      · have := h false 3; omega
      · split
        · have := h false 2; omega
        · split
          · have := h true ((q : Int) - 1); omega
          · omega
    · split
      · split
        · omega
        · split <;> omega
      · split
        · split
          · omega
          · split <;> omega
        · omega
theorem partF_bd (t c m a : Nat) (hm : m ≤ 1000) : 0 ≤ partF t c m a ∧ partF t c m a < 18446744073709551616 := by
  unfold partF
  have := nodeF_bd c m ((a - (3 + 8 * t)) / 7) ((a - (3 + 8 * t)) % 7) hm
  split
  · omega
  · split
    · omega
    · split
      · omega
      · split <;> omega
theorem below_only {W w w' : World} {g : Nat} (h : Below W.heap.size W w) (k : Mm.Only g g w w') (hg : W.heap.size ≤ g) : Below W.heap.size W w' :=
  ⟨k.os.trans h.os, k.tape.trans h.tape, k.output.trans h.output, Nat.le_trans h.size k.size, fun j hj => (k.block j (Nat.lt_of_lt_of_le hj h.size) (by omega) (by omega)).trans (h.block j hj)⟩
theorem conf_slots (a b c : Int) (w : World) : (Instr.field 24 (.agg #[.int .i64 a, .int .i64 b, .int .u64 c]) 1).run Try.prog w = .ok (.int .i64 b) w := by kernel_rfl
theorem head6 : headI 6 0 = 6 := by decide
set_option maxRecDepth 8000 in
set_option maxHeartbeats 2000000 in
theorem cfirst {t s : Nat} {K : Int} {pl : Nat} {w : World} (x0 : w.cell? ⟨pl, 0, none⟩ = some (.int .i64 t)) (x1 : w.cell? ⟨pl, 1, none⟩ = some (.int .i64 s)) (x2 : w.cell? ⟨pl, 2, none⟩ = some (.int .u64 K)) (t1 : 1 ≤ t) (t2 : t ≤ 6) (s1 : 7 ≤ s) (s2 : s ≤ 250) :
    Calls Try.prog 26 #[.pointer (some ⟨pl, 0, none⟩)] w fun e w' => ∃ g, e = .returned (.slice (some ⟨g, 0, none⟩) (3 + 8 * t + 7 * s) (3 + 8 * t + 7 * s)) ∧ w.heap.size ≤ g ∧ Mm.RowAt w' g (3 + 8 * t + 7 * s) (partF t 3 s) ∧ Below w.heap.size w w' := by
  obtain ⟨n, hn⟩ : ∃ n, n = 3 + 8 * t + 7 * s := ⟨_, rfl⟩
  rw [← hn]
  refine Calls.veil fun Q HQ => ?_
  obtain ⟨i0, hi, hz0, hz1, hz2⟩ := info_parts Mm.info64
  have hpl := World.block_lt_of_cell? w ⟨pl, 0, none⟩ x0
  have HPL := Lib.hid (show pl < w.heap.size from hpl)
  have X0 := Lib.hid x0; have X1 := Lib.hid x1; have X2 := Lib.hid x2
  have HW := Lib.hid (show wordsI t s = (n : Int) from by unfold wordsI; rw [hn]; omega)
  have TT := Lib.hid (show ((1 : Int) ≤ t ∧ (t : Int) ≤ 6) ∧ ((7 : Int) ≤ s ∧ (s : Int) ≤ 250) from ⟨⟨by omega, by omega⟩, ⟨by omega, by omega⟩⟩)
  have hn1 : 60 ≤ n := by omega
  have hn2 : n ≤ 2000 := by omega
  have HNE := Lib.hid hn
  clear x0 x1 x2 hpl hn
  go_enter Try.func26, Try.ntmps26
  go_wp2_with fail
  refine (pwords_calls _ _ _ _ X0.out X1.out TT.out.1.1 TT.out.1.2 TT.out.2.1 TT.out.2.2).mono ?_; rintro _ w0 ⟨rfl, hb0⟩
  rw [HW.out]
  have HB0 := Lib.hid hb0
  clear hb0
  go_wp2_with (refine wpList_make_full _ rfl (.tmp 8) (.tmp 8) 43 rfl w0.heap.size 22 i0 _ 1 Mm.u64s hi hz0 hz1 .i64 .i64 _ _ n rfl rfl rfl rfl (by rw [hz2]; omega) (by unfold maxLen; omega) (Nat.le_refl _) ?_)
  intro wm hown hgrow
  rw [Mm.made_words] at hown
  obtain ⟨g, hg⟩ : ∃ g, g = w0.heap.size := ⟨_, rfl⟩
  rw [← hg] at hown ⊢
  have hh := Mm.own_full hown (by omega)
  have hbm : Below w0.heap.size w0 wm := (Below.refl _ _).grown hgrow (Nat.le_refl _) (by intro k hk; cases hk)
  have HBM := Lib.hid (below_on HB0.out hbm)
  have HGG := Lib.hid (show w.heap.size ≤ g from by have := HB0.out.size; omega)
  have HGP := Lib.hid (show pl ≠ g from by have := HPL.out; have := HB0.out.size; omega)
  have HRM := Lib.hid (show Mm.RowAt wm g n (fun _ => 0) from ⟨fun i hi => by rw [cell_of_row _ g i _ _ _ hh]; simpa using Mm.wordsL_get n (fun _ => 0) i hi, fun i => frozen_of_row _ g i _ _ hh, (Array.getElem?_eq_some_iff.1 hh).1⟩)
  clear hown hgrow hh hbm hg
  have r0 := HRM.out.row 0 (by omega); have r1 := HRM.out.row 1 (by omega); have r2 := HRM.out.row 2 (by omega)
  have rf := HRM.out.fr
  go_upto_region 4 with fail
  generalize hV : World.setCell _ _ _ = V
  have HRV := Lib.hid (show Mm.RowAt V g n (Mm.upd (Mm.upd (fun _ => 0) 0 1) 1 3) by rw [← hV]; exact (HRM.out.set (by omega) _).set (by omega) _)
  have HBV := Lib.hid (show Below w.heap.size w V by rw [← hV]; exact below_set (below_set HBM.out HGG.out _) HGG.out _)
  clear hV r0 r1 r2 rf HRM HBM
  go_wp2_with fail
  refine (bhead_calls _ _ _ (by omega)).mono ?_; rintro _ _ ⟨rfl, rfl⟩
  rw [head6]
  have r2 := HRV.out.row 2 (by omega)
  have rf := HRV.out.fr
  go_upto_region 5 with fail
  generalize hV : World.setCell _ _ _ = V1
  have HR1 := Lib.hid (show Mm.RowAt V1 g n (Mm.upd (Mm.upd (Mm.upd (fun _ => 0) 0 1) 1 3) 2 6) by rw [← hV]; exact HRV.out.set (by omega) _)
  have HB1 := Lib.hid (show Below w.heap.size w V1 by rw [← hV]; exact below_set HBV.out HGG.out _)
  clear hV r2 rf HRV HBV HB0
  have X01 := Lib.hid (Ext.use (Ext.cells X0.out) HB1.out); have X11 := Lib.hid (Ext.use (Ext.cells X1.out) HB1.out)
  go_wp2_with fail
  refine (cinner (k := 1) X01.out X11.out HR1.out HGP.out t1 t2 s1 s2 HNE.out (by omega) (by omega) 3 (l := 2) (r := 5) (by omega) (by omega) (by omega) (by omega)).mono ?_; rintro _ w2 ⟨rfl, hr2, ho2⟩
  have HR2 := Lib.hid hr2
  have HB2 := Lib.hid (below_only HB1.out ho2 HGG.out)
  clear hr2 ho2 X01 X11 HR1 HB1
  have X01 := Lib.hid (Ext.use (Ext.cells X0.out) HB2.out); have X11 := Lib.hid (Ext.use (Ext.cells X1.out) HB2.out)
  go_wp2_with fail
  refine (cinner (k := 2) X01.out X11.out HR2.out HGP.out t1 t2 s1 s2 HNE.out (by omega) (by omega) 2 (l := 3) (r := 4) (by omega) (by omega) (by omega) (by omega)).mono ?_; rintro _ w3 ⟨rfl, hr3, ho3⟩
  rw [partF_first] at hr3
  have HR3 := Lib.hid hr3
  have HB3 := Lib.hid (below_only HB2.out ho3 HGG.out)
  clear hr3 ho3 X01 X11 HR2 HB2
  go_wp2_with fail
  go_loopw [4] (fun iv wr => ∃ c : Nat, c ≤ 3 ∧ iv = .int .i64 ((c : Int) + 1) ∧ Hid (Mm.RowAt wr g n (partF t c 6)) ∧ Hid (Below w.heap.size w wr))
    (fun iv _ => 5 - (intOf iv).toNat)
  case atStart => exact ⟨0, by omega, by go_num, HR3, HB3⟩
  case round =>
    clear HR3 HB3
    obtain ⟨c, hc, rfl, HR, HB⟩ := hrel
    rcases (by omega : c < 3 ∨ c = 3) with hlt | heq
    · have hii : (c : Int) + 1 ≤ 3 := by omega
      have X01 := Lib.hid (Ext.use (Ext.cells X0.out) HB.out); have X11 := Lib.hid (Ext.use (Ext.cells X1.out) HB.out)
      obtain ⟨a, ha⟩ : ∃ a, a = 3 + 8 * t + 7 * (c + 2) + 2 := ⟨_, rfl⟩
      have HND := Lib.hid (show nodeI t s ((c : Int) + 1 + 2) (2 : Int) = (a : Int) from by
        have := node_nat t s (c + 3) 2 (by omega) (by omega) (by omega)
        rw [show (c : Int) + 1 + 2 = ((c + 3 : Nat) : Int) by omega, show (2 : Int) = ((2 : Nat) : Int) from rfl, this, ha]; omega)
      have han : a < n := by have := HNE.out; omega
      have HAE := Lib.hid ha
      clear ha
      go_wp2_with fail
      refine (pnode_calls _ _ _ _ _ _ X01.out X11.out TT.out.1.1 TT.out.1.2 TT.out.2.1 TT.out.2.2).mono ?_; rintro _ w4 ⟨rfl, hb4⟩
      rw [HND.out]
      have HR4 := Lib.hid (HR.out.below hb4); have HB4 := Lib.hid (below_on HB.out hb4)
      clear hb4 HR HB X01 X11
      go_wp2_with fail
      refine (oinfo_calls _ _ _).mono ?_; rintro _ _ ⟨rfl, rfl⟩
      have r2 := HR4.out.row a han
      have rf := HR4.out.fr
      go_upto_region 9 with fail
      generalize hV : World.setCell _ _ _ = V5
      have HR5 := Lib.hid (show Mm.RowAt V5 g n (partF t (c + 1) 6) by
        rw [← hV]
        have h := HR4.out.set han (infoI true ((c : Int) + 1))
        rw [HAE.out, partF_leaf t c hlt, ← HAE.out] at h
        exact h)
      have HB5 := Lib.hid (show Below w.heap.size w V5 by rw [← hV]; exact below_set HB4.out HGG.out _)
      clear hV r2 rf HR4 HB4
      go_wp2_with fail
      go_roundw
      case rel => exact ⟨c + 1, by omega, by go_num, HR5, HB5⟩
      case measure => simp [intOf]; omega
    · subst heq
      have hfld := conf_slots t s K
      have X01 := Lib.hid (Ext.use (Ext.cells X0.out) HB.out); have X11 := Lib.hid (Ext.use (Ext.cells X1.out) HB.out); have X21 := Lib.hid (Ext.use (Ext.cells X2.out) HB.out)
      go_wp2_with fail
      refine (pconf_calls _ _ _ _ _ X01.out X11.out X21.out).mono ?_; rintro _ w6 ⟨rfl, hb6⟩
      have HR6 := Lib.hid (HR.out.below hb6); have HB6 := Lib.hid (below_on HB.out hb6)
      clear hb6 HR HB X01 X11 X21
      go_wp2_with fail
      go_loopw [6] (fun iv wr => ∃ m : Nat, 6 ≤ m ∧ m ≤ s ∧ iv = .int .i64 m ∧ Hid (Mm.RowAt wr g n (partF t 3 m)) ∧ Hid (Below w.heap.size w wr))
        (fun iv _ => s - (intOf iv).toNat)
      case atStart => exact ⟨6, by omega, by omega, by go_num, HR6, HB6⟩
      case round =>
        clear HR6 HB6
        obtain ⟨m, hm6, hms, rfl, HR, HB⟩ := hrel
        rcases (by omega : m < s ∨ m = s) with hlt | heq
        · have hii : (m : Int) < s := by omega
          have X01 := Lib.hid (Ext.use (Ext.cells X0.out) HB.out); have X11 := Lib.hid (Ext.use (Ext.cells X1.out) HB.out)
          obtain ⟨a, ha⟩ : ∃ a, a = 3 + 8 * t + 7 * (m - 1) := ⟨_, rfl⟩
          have HND := Lib.hid (show nodeI t s m (0 : Int) = (a : Int) from by
            have := node_nat t s m 0 (by omega) (by omega) (by omega)
            rw [show (0 : Int) = ((0 : Nat) : Int) from rfl, this, ha]; omega)
          have han : a < n := by have := HNE.out; omega
          have HAE := Lib.hid ha
          clear ha
          have hm1000 : m ≤ 1000 := by omega
          go_wp2_with fail
          refine (pnode_calls _ _ _ _ _ _ X01.out X11.out TT.out.1.1 TT.out.1.2 TT.out.2.1 TT.out.2.2).mono ?_; rintro _ w4 ⟨rfl, hb4⟩
          rw [HND.out]
          have HR4 := Lib.hid (HR.out.below hb4); have HB4 := Lib.hid (below_on HB.out hb4)
          clear hb4 HR HB X01 X11
          have r2 := HR4.out.row a han
          have rf := HR4.out.fr
          go_upto_region 14 with fail
          generalize hV : World.setCell _ _ _ = V5
          have HR5 := Lib.hid (show Mm.RowAt V5 g n (partF t 3 (m + 1)) by
            rw [← hV]
            have h := HR4.out.set han ((m : Int) + 1)
            rw [HAE.out, partF_link t m hm6, ← HAE.out] at h
            exact h)
          have HB5 := Lib.hid (show Below w.heap.size w V5 by rw [← hV]; exact below_set HB4.out HGG.out _)
          clear hV r2 rf HR4 HB4
          go_wp2_with fail
          go_roundw
          case rel => exact ⟨m + 1, by omega, by omega, by go_num, HR5, HB5⟩
          case measure => simp [intOf]; omega
        · subst heq
          go_wp2_with fail
          (try go_ret)
          rw [HQ.out]
          exact ⟨g, rfl, HGG.out, HR.out, HB.out⟩
end Go.Proofs.Ytaaciolfgplnoaa

/- A region that draws its order, of loads and of calls that stand in one chain: one walk in the order of the text serves every order. The loads give what they give in every world of a class that the calls keep. -/
namespace Go.Proofs.Ytaaciolfgplnoaa
open Go.RowKit
set_option linter.unusedVariables false
set_option linter.unusedSimpArgs false

/-- An operation that enters no function. -/
def plainB (o : Oper) : Bool := match o.op with
  | .nilCheck _ | .move _ | .assign _ | .pick _ _ _ | .load _ _ | .binOp _ _ _ _ _ | .unOp _ _ _ | .convert _ _ _ | .fieldAddr _ _ _ | .field _ _ _ | .indexAddr _ _ _ | .index _ _ _ | .extract _ _ | .lookup _ _ _ _ | .slice _ _ _ _ _ | .build _ _ => true
  | .call c => match c.callee with | .builtin .len | .builtin .cap => true | _ => false
  | _ => false

def NoEnter : Result Next → Prop
  | .ok (.value _) _ => True
  | .ok _ _ => False
  | .halt _ _ => True

theorem noEnter_bind (s : Sem Value) (P : Program) (w : World) : NoEnter ((do pure (Next.value (← s)) : Sem Next).run P w) := by
  rw [Sem.run_bind]
  cases s.run P w <;> simp [NoEnter]

theorem plain_noEnter {o : Oper} (h : plainB o = true) (ρ : Operand → Value) (P : Program) (w : World) : NoEnter ((execOp ρ o).run P w) := by
  obtain ⟨dst, op, type, pos, after, guard⟩ := o
  cases op <;> simp only [plainB, Bool.false_eq_true] at h
  case move x => exact trivial
  case assign x => exact trivial
  case call c =>
    obtain ⟨callee, args, ats⟩ := c
    cases callee <;> simp only [Bool.false_eq_true] at h
    case builtin b =>
      cases b <;> simp only [Bool.false_eq_true] at h
      all_goals (rw [BigFrame.execOp_builtin]; first | (rw [BigFrame.builtin_len]; exact noEnter_bind _ _ _) | (rw [BigFrame.builtin_cap]; exact noEnter_bind _ _ _))
  case pick c a b =>
    show NoEnter ((do pure (Next.value (if ← asBool (ρ c) then ρ a else ρ b)) : Sem Next).run P w)
    rw [Sem.run_bind]
    cases (asBool (ρ c)).run P w <;> simp [NoEnter]
  case nilCheck x =>
    simp only [execOp]
    generalize ρ x = v
    split
    all_goals (try trivial)
    all_goals (try (split <;> (try trivial)))
    rw [Sem.run_bind]
    generalize Sem.run P program w = r1
    cases r1 with
    | halt _ _ => trivial
    | ok a w1 =>
      simp only [Result.andThen]
      rw [Sem.run_bind]
      generalize Sem.run P (nilAhead _ _ _ _) w1 = r2
      cases r2 with
      | halt _ _ => trivial
      | ok b w2 =>
        simp only [Result.andThen]
        split
        · rw [Sem.run_bind]
          generalize Sem.run P _ w2 = r3
          cases r3 <;> trivial
        · trivial
  all_goals exact noEnter_bind _ _ _

section
variable {P : Program} {ops : Array Oper} {md : Region.Mode} {S : World → Prop}

/-- A plain operation that is quiet in the class leaves each of its worlds alone. -/
theorem plain_quiet {o : Oper} (h : plainB o = true) {a : Act} {w : World} {v : Value} (hq : o.quietAt P a S w v) : (execOp a.eval o).run P w = .ok (.value v) w := by
  have hn := plain_noEnter h a.eval P w
  unfold Oper.quietAt at hq
  generalize (execOp a.eval o).run P w = r at *
  cases r with
  | halt x w' => simp only [Oper.quietUpon] at hq
  | ok n w' =>
    cases n <;> simp only [NoEnter] at hn
    simp only [Oper.quietUpon] at hq
    rw [hq.1, hq.2]

def NoQ : Exit → Act → World → Prop := fun _ _ _ => False

/-- One operation of the walk. -/
def mixOne (P : Program) (ops : Array Oper) (S : World → Prop) (o : Oper) (K : Act → World → Prop) (a : Act) (w : World) : Prop :=
  if Region.wanted o (yielded ops a.tmps) = true then
    (if plainB o = true then o.quiet P a S (fun a' => K a' w) else o.wp P a w (fun a' w' => S w' ∧ K a' w') NoQ)
  else K (a.put o.dst undef) w

def mixOp (P : Program) (ops : Array Oper) (S : World → Prop) (i : Nat) (K : Act → World → Prop) (a : Act) (w : World) : Prop :=
  match ops[i]? with
  | none => K a w
  | some o => mixOne P ops S o K a w

/-- The walk in the order of the text. -/
def wpMix (P : Program) (ops : Array Oper) (S : World → Prop) (Q : Act → World → Prop) : List Oper → Act → World → Prop
  | [], a, w => Q a w
  | o :: rest, a, w => mixOne P ops S o (wpMix P ops S Q rest) a w

/-- Whatever order is picked. -/
def wpAnyM (P : Program) (md : Region.Mode) (ops : Array Oper) (S : World → Prop) (Q : Act → World → Prop) : Nat → Array Bool → Act → World → Prop
  | 0, listed, a, w => Region.ready md ops listed = [] ∧ Q a w
  | fuel + 1, listed, a, w =>
    (Region.ready md ops listed = [] → Q a w) ∧
    ∀ i ∈ Region.ready md ops listed, mixOp P ops S i (wpAnyM P md ops S Q fuel (listed.setIfInBounds i true)) a w

theorem mixOp_some {i : Nat} {o : Oper} (h : ops[i]? = some o) (K : Act → World → Prop) (a : Act) (w : World) : mixOp P ops S i K a w = mixOne P ops S o K a w := by
  unfold mixOp; simp only [h]

theorem mixOne_mono {o : Oper} {K K' : Act → World → Prop} {a : Act} {w : World} (h : ∀ a w, K a w → K' a w) (hh : mixOne P ops S o K a w) : mixOne P ops S o K' a w := by
  unfold mixOne at *
  split
  · rename_i h1; rw [if_pos h1] at hh
    split
    · rename_i h2; rw [if_pos h2] at hh; exact Oper.quiet_mono (fun a => h a w) hh
    · rename_i h2; rw [if_neg h2] at hh; exact Oper.wp_mono (fun a w ⟨h3, h4⟩ => ⟨h3, h _ _ h4⟩) hh
  · rename_i h1; rw [if_neg h1] at hh; exact h _ _ hh

theorem wp_noQ {o : Oper} {a : Act} {w : World} {K : Act → World → Prop} {Q : Exit → Act → World → Prop} (h : o.wp P a w K NoQ) : o.wp P a w K Q := by
  unfold Oper.wp at *
  generalize (execOp a.eval o).run P w = r at *
  cases r with
  | ok n w' =>
    cases n <;> simp only [Oper.upon] at h ⊢ <;> try exact h
    case enter f args =>
      refine Calls.mono h fun e w'' he => ?_
      cases e with
      | returned u => exact he
      | panicked c => exact he.elim
      | outgrown => obtain ⟨_, _, hx⟩ := he; exact hx.elim
  | halt x w' => cases x <;> simp only [Oper.upon] at h ⊢; exact h.elim

/-- It is a wpAny. -/
theorem wpAny_of_mix {Q : Act → World → Prop} {Q' : Exit → Act → World → Prop} (hQ : ∀ a w, Q a w → Q' .normal a w) : ∀ (fuel : Nat) (listed : Array Bool) (a : Act) (w : World), S w →
    wpAnyM P md ops S Q fuel listed a w → wpAny P md ops Q' fuel listed a w
  | 0, _, _, _, _, h => ⟨h.1, hQ _ _ h.2⟩
  | fuel + 1, listed, a, w, hS, h => ⟨fun h0 => hQ _ _ (h.1 h0), fun i hi => by
      have h2 := h.2 i hi
      unfold wpOp
      unfold mixOp at h2
      cases ho : ops[i]? with
      | none => simp only [ho] at h2 ⊢; exact wpAny_of_mix hQ fuel _ _ _ hS h2
      | some o =>
        simp only [ho] at h2 ⊢
        unfold mixOne at h2
        split
        · rename_i hw
          rw [if_pos hw] at h2
          left
          by_cases hp : plainB o = true
          · rw [if_pos hp] at h2
            obtain ⟨v, h3, h4⟩ := h2
            have h5 := plain_quiet hp (h3 w hS)
            unfold Oper.wp
            rw [h5]
            exact wpAny_of_mix hQ fuel _ _ _ hS h4
          · rw [if_neg hp] at h2
            exact wp_noQ (Oper.wp_mono (fun a w ⟨h3, h4⟩ => wpAny_of_mix hQ fuel _ _ _ h3 h4) h2)
        · rename_i hw
          rw [if_neg hw] at h2
          exact wpAny_of_mix hQ fuel _ _ _ hS h2⟩

/-- What a plain operation leaves, in every world of the class. -/
theorem mix_yields {o : Oper} {a : Act} {w : World} {K : Act → World → Prop} (hp : plainB o = true) (h : mixOne P ops S o K a w) : ∃ v, YieldsIn P ops S o v a ∧ K (a.put o.dst v) w := by
  unfold mixOne at h
  by_cases hw : Region.wanted o (yielded ops a.tmps) = true
  · rw [if_pos hw, if_pos hp] at h
    obtain ⟨v, h1, h2⟩ := h
    exact ⟨v, .inl ⟨hw, h1⟩, h2⟩
  · rw [if_neg hw] at h
    exact ⟨undef, .inr ⟨by simpa using hw, rfl⟩, h⟩
theorem yields_mix {o : Oper} {a : Act} {w : World} {v : Value} {K : Act → World → Prop} (hp : plainB o = true) (hy : YieldsIn P ops S o v a) (h : K (a.put o.dst v) w) : mixOne P ops S o K a w := by
  unfold mixOne
  rcases hy with ⟨hw, hv⟩ | ⟨hw, rfl⟩
  · rw [if_pos hw, if_pos hp]; exact ⟨v, hv, h⟩
  · rw [if_neg (by simp [hw])]; exact h
/-- Just one value. -/
theorem yields_one {o : Oper} {a : Act} {w : World} {v u : Value} (hp : plainB o = true) (hS : S w) (h1 : YieldsIn P ops S o v a) (h2 : YieldsIn P ops S o u a) : v = u := by
  rcases h1 with ⟨hw, hv⟩ | ⟨hw, rfl⟩ <;> rcases h2 with ⟨hw', hv'⟩ | ⟨hw', rfl⟩
  · have e1 := plain_quiet hp (hv w hS)
    have e2 := plain_quiet hp (hv' w hS)
    rw [e1] at e2
    injection e2 with e3 _
    injection e3
  · rw [hw] at hw'; cases hw'
  · rw [hw] at hw'; cases hw'
  · rfl

/-- One operation apart from a plain one, whose value is laid already: it may be laid behind. -/
theorem mixOne_put {oi oj : Oper} {v : Value} (hap : oi.apart ops oj = true) (hsi : ∀ cs b, oi.op ≠ .select cs b) (hsj : ∀ cs b, oj.op ≠ .select cs b) {K : Act → World → Prop} {a : Act} {w : World} (hS : S w)
    (hy : YieldsIn P ops S oi v a) (h : mixOne P ops S oj K (a.put oi.dst v) w) :
    mixOne P ops S oj (fun a' w' => S w' ∧ YieldsIn P ops S oi v a' ∧ K (a'.put oi.dst v) w') a w := by
  obtain ⟨h1, h2, h3⟩ := Oper.apart_spec hap
  have keep : ∀ (a : Act), YieldsIn P ops S oi v a → ∀ u, YieldsIn P ops S oi v (a.put oj.dst u) := fun a hy u =>
    hy.of_same (execOp_put oi hsi a oj.dst u h3) (wanted_put oi a oj.dst u h3)
  have keepD : ∀ d, YieldsIn P ops S oi v { a with defers := d :: a.defers } := fun d => hy.of_same rfl rfl
  unfold mixOne at *
  rw [wanted_put oj a oi.dst v h1] at h
  split
  · rename_i hw
    rw [if_pos hw] at h
    split
    · rename_i hp
      rw [if_pos hp] at h
      obtain ⟨u, hu, hn⟩ := h
      refine ⟨u, fun w0 hw0 => ?_, hS, keep a hy u, by rw [← Act.put_comm a v u h2]; exact hn⟩
      have := hu w0 hw0
      unfold Oper.quietAt at *
      rwa [execOp_put oj hsj a oi.dst v h1] at this
    · rename_i hp
      rw [if_neg hp] at h
      unfold Oper.wp at *
      rw [execOp_put oj hsj a oi.dst v h1] at h
      generalize (execOp a.eval oj).run P w = r at *
      cases r with
      | ok n w' =>
        cases n <;> simp only [Oper.upon] at h ⊢
        case value u => exact ⟨h.1, h.1, keep a hy u, by rw [← Act.put_comm a v u h2]; exact h.2⟩
        case skip => exact ⟨h.1, h.1, keep a hy _, by rw [← Act.put_comm a v undef h2]; exact h.2⟩
        case defer d =>
          refine ⟨h.1, h.1, keep _ (keepD d) _, ?_⟩
          rw [← Act.put_comm _ v undef h2, ← Act.put_defers]
          exact h.2
        case enter f args =>
          refine Calls.mono h fun e w'' he => ?_
          cases e with
          | returned u => exact ⟨he.1, he.1, keep a hy u, by rw [← Act.put_comm a v u h2]; exact he.2⟩
          | panicked c => exact he.elim
          | outgrown => exact he
        case row row args => exact Rows.mono h fun u w'' he => ⟨he.1, he.1, keep a hy u, by rw [← Act.put_comm a v u h2]; exact he.2⟩
      | halt x w' => cases x <;> simp only [Oper.upon] at h ⊢; exact h
  · rename_i hw
    rw [if_neg hw] at h
    exact ⟨hS, keep a hy _, by rw [← Act.put_comm a v undef h2]; exact h⟩

/-- A plain operation may be taken first. -/
theorem mix_first {Q : Act → World → Prop} {i : Nat} {oi : Oper} {v : Value} (hi : ops[i]? = some oi) (hp : plainB oi = true) (hsel : ∀ (j : Nat) (o : Oper) cs b, ops[j]? = some o → o.op ≠ .select cs b) :
    ∀ (fuel : Nat) (listed : Array Bool) (a : Act) (w : World),
      (∀ j oj, ops[j]? = some oj → j ≠ i → listed.getD j true = false → (∀ e ∈ oj.after, Region.binds md e = true → e.on ≠ i) → oi.apart ops oj = true) →
      i ∈ Region.ready md ops listed → YieldsIn P ops S oi v a → S w →
      wpAnyM P md ops S Q fuel (listed.setIfInBounds i true) (a.put oi.dst v) w → wpAnyM P md ops S Q (fuel + 1) listed a w := by
  intro fuel
  induction fuel with
  | zero =>
    intro listed a w _ hr hy hS H
    refine ⟨fun h => (by rw [h] at hr; cases hr), fun j hj => ?_⟩
    by_cases hji : j = i
    · subst hji; rw [mixOp_some hi]; exact yields_mix hp hy H
    · have := ready_mono hj hji
      rw [H.1] at this
      cases this
  | succ fuel ih =>
    intro listed a w hfree hr hy hS H
    refine ⟨fun h => (by rw [h] at hr; cases hr), fun j hj => ?_⟩
    by_cases hji : j = i
    · subst hji; rw [mixOp_some hi]; exact yields_mix hp hy H
    · have h1 := H.2 j (ready_mono hj hji)
      obtain ⟨hjun, oj, hoj, hall⟩ := mem_ready.1 hj
      have hnot : ∀ e ∈ oj.after, Region.binds md e = true → e.on ≠ i := fun e he hb heq => by
        have h1 := hall e he hb
        have h0 := (mem_ready.1 hr).1
        rw [heq] at h1
        rcases Nat.lt_or_ge i listed.size with h' | h'
        · simp [h'] at h0 h1; rw [h0] at h1; cases h1
        · simp [Array.getElem?_eq_none h'] at h1
      rw [mixOp_some hoj] at h1 ⊢
      have h2 := mixOne_put (hfree j oj hoj hji hjun hnot) (fun cs b => hsel i oi cs b hi) (fun cs b => hsel j oj cs b hoj) hS hy h1
      have hfree' : ∀ k ok, ops[k]? = some ok → k ≠ i → (listed.setIfInBounds j true).getD k true = false →
          (∀ e ∈ ok.after, Region.binds md e = true → e.on ≠ i) → oi.apart ops ok = true := fun k ok hk hki hun hno => by
        refine hfree k ok hk hki ?_ hno
        by_cases hjk : j = k
        · subst hjk; exact hjun
        · rw [getD_set_ne true hjk] at hun; exact hun
      refine mixOne_mono (fun a' w' h3 => ih (listed.setIfInBounds j true) a' w' hfree' (ready_mono hr (Ne.symm hji)) h3.2.1 h3.1 ?_) h2
      rw [Array.setIfInBounds_comm _ _ hji]
      exact h3.2.2

/-! ### An operation of the chain, all others that may come up being plain -/

/-- How the frame stands behind operation o. -/
def Behind (o : Oper) (a a' : Act) : Prop := (∃ u, a' = a.put o.dst u) ∨ ∃ d, a' = ({ a with defers := d :: a.defers } : Act).put o.dst undef

theorem Behind.yields {oi oj : Oper} {a a' : Act} (h : Behind oi a a') (hap : oi.apart ops oj = true) (hsj : ∀ cs b, oj.op ≠ .select cs b) (v : Value) : YieldsIn P ops S oj v a' ↔ YieldsIn P ops S oj v a := by
  obtain ⟨h1, h2, h3⟩ := Oper.apart_spec hap
  rcases h with ⟨u, rfl⟩ | ⟨d, rfl⟩
  · exact ⟨fun hy => hy.of_same (execOp_put oj hsj a oi.dst u h1).symm (wanted_put oj a oi.dst u h1).symm, fun hy => hy.of_same (execOp_put oj hsj a oi.dst u h1) (wanted_put oj a oi.dst u h1)⟩
  · refine ⟨fun hy => ?_, fun hy => ?_⟩
    · have := YieldsIn.of_same hy (execOp_put oj hsj _ oi.dst undef h1).symm (wanted_put oj _ oi.dst undef h1).symm
      exact YieldsIn.of_same this rfl rfl
    · exact YieldsIn.of_same (YieldsIn.of_same (a' := ({ a with defers := d :: a.defers } : Act)) hy rfl rfl) (execOp_put oj hsj _ oi.dst undef h1) (wanted_put oj _ oi.dst undef h1)

/-- It has an outcome. -/
theorem mix_outcome {oi : Oper} {K : Act → World → Prop} {a : Act} {w : World} (hp : plainB oi = false) (hS : S w) (h : mixOne P ops S oi K a w) : ∃ a' w', Behind oi a a' ∧ S w' ∧ K a' w' := by
  unfold mixOne at h
  split at h
  · rw [if_neg (by simp [hp])] at h
    unfold Oper.wp at h
    generalize (execOp a.eval oi).run P w = r at *
    cases r with
    | ok n w' =>
      cases n <;> simp only [Oper.upon] at h
      case value u => exact ⟨_, _, .inl ⟨u, rfl⟩, h⟩
      case skip => exact ⟨_, _, .inl ⟨_, rfl⟩, h⟩
      case defer d => exact ⟨_, _, .inr ⟨d, rfl⟩, h⟩
      case enter f args =>
        obtain ⟨e, w', fr, h1, _⟩ := h []
        cases e with
        | returned u => exact ⟨_, _, .inl ⟨u, rfl⟩, h1⟩
        | panicked c => exact h1.elim
        | outgrown => obtain ⟨_, _, hx⟩ := h1; exact hx.elim
      case row row args =>
        obtain ⟨v, w', h1, _⟩ := h default []
        exact ⟨_, _, .inl ⟨v, rfl⟩, h1⟩
    | halt x w' => cases x <;> simp only [Oper.upon] at h; exact h.elim
  · exact ⟨_, _, .inl ⟨_, rfl⟩, hS, h⟩

/-- It may be walked with a plain operation's value laid ahead. -/
theorem mix_ahead {oi oj : Oper} {v : Value} {K : Act → World → Prop} {a : Act} {w : World} (hp : plainB oi = false) (hS : S w) (hap : oi.apart ops oj = true) (hsi : ∀ cs b, oi.op ≠ .select cs b) (h : mixOne P ops S oi K a w) :
    mixOne P ops S oi (fun a' w' => ∃ a1, a' = a1.put oj.dst v ∧ Behind oi a a1 ∧ S w' ∧ K a1 w') (a.put oj.dst v) w := by
  obtain ⟨h1, h2, h3⟩ := Oper.apart_spec hap
  unfold mixOne at *
  rw [wanted_put oi a oj.dst v h3]
  split
  · rename_i hw
    rw [if_pos hw, if_neg (by simp [hp])] at h
    rw [if_neg (by simp [hp])]
    unfold Oper.wp at *
    rw [execOp_put oi hsi a oj.dst v h3]
    generalize (execOp a.eval oi).run P w = r at *
    cases r with
    | ok n w' =>
      cases n <;> simp only [Oper.upon] at h ⊢
      case value u => exact ⟨h.1, _, (Act.put_comm a u v h2).symm, .inl ⟨u, rfl⟩, h⟩
      case skip => exact ⟨h.1, _, (Act.put_comm a undef v h2).symm, .inl ⟨_, rfl⟩, h⟩
      case defer d => exact ⟨h.1, _, by rw [Act.put_defers]; exact (Act.put_comm _ undef v h2).symm, .inr ⟨d, rfl⟩, h⟩
      case enter f args =>
        refine Calls.mono h fun e w'' he => ?_
        cases e with
        | returned u => exact ⟨he.1, _, (Act.put_comm a u v h2).symm, .inl ⟨u, rfl⟩, he⟩
        | panicked c => exact he.elim
        | outgrown => exact he
      case row row args => exact Rows.mono h fun u w'' he => ⟨he.1, _, (Act.put_comm a u v h2).symm, .inl ⟨u, rfl⟩, he⟩
    | halt x w' => cases x <;> simp only [Oper.upon] at h ⊢; exact h
  · rename_i hw
    rw [if_neg hw] at h
    exact ⟨_, (Act.put_comm a undef v h2).symm, .inl ⟨_, rfl⟩, hS, h⟩

theorem mix_chain {Q : Act → World → Prop} {i : Nat} {oi : Oper} (B : Nat → Prop) (hi : ops[i]? = some oi) (hp : plainB oi = false) (hsel : ∀ (j : Nat) (o : Oper) cs b, ops[j]? = some o → o.op ≠ .select cs b)
    (hB : ∀ j oj, B j → ops[j]? = some oj → ∃ e ∈ oj.after, Region.binds md e = true ∧ (e.on = i ∨ B e.on)) :
    ∀ (fuel : Nat) (listed : Array Bool) (a : Act) (w : World),
      listed.getD i true = false → (∀ j, B j → listed.getD j true = false) →
      (∀ j oj, ops[j]? = some oj → j ≠ i → listed.getD j true = false → ¬ B j → plainB oj = true ∧ oi.apart ops oj = true) →
      i ∈ Region.ready md ops listed → S w →
      mixOne P ops S oi (wpAnyM P md ops S Q fuel (listed.setIfInBounds i true)) a w → wpAnyM P md ops S Q (fuel + 1) listed a w := by
  have unl : ∀ (listed : Array Bool) (k : Nat), listed.getD k true = false → listed.getD k false = false := fun listed k h => by
    rcases Nat.lt_or_ge k listed.size with h' | h'
    · simp [h'] at h ⊢; exact h
    · simp [Array.getElem?_eq_none h'] at h
  have notB : ∀ (listed : Array Bool) (j : Nat), listed.getD i true = false → (∀ j, B j → listed.getD j true = false) → j ∈ Region.ready md ops listed → ¬ B j := fun listed j h1 h2 hj hb => by
    obtain ⟨hjun, oj, hoj, hall⟩ := mem_ready.1 hj
    obtain ⟨e, he, hb', h3⟩ := hB j oj hb hoj
    have h4 := hall e he hb'
    rcases h3 with h3 | h3
    · rw [h3, unl _ _ h1] at h4; cases h4
    · rw [unl _ _ (h2 _ h3)] at h4; cases h4
  intro fuel
  induction fuel with
  | zero =>
    intro listed a w h1 h2 h3 hr hS H
    refine ⟨fun h => (by rw [h] at hr; cases hr), fun j hj => ?_⟩
    by_cases hji : j = i
    · subst hji; rw [mixOp_some hi]; exact H
    · obtain ⟨a', w', _, _, h5⟩ := mix_outcome hp hS H
      have := ready_mono hj hji
      rw [h5.1] at this
      cases this
  | succ fuel ih =>
    intro listed a w h1 h2 h3 hr hS H
    refine ⟨fun h => (by rw [h] at hr; cases hr), fun j hj => ?_⟩
    by_cases hji : j = i
    · subst hji; rw [mixOp_some hi]; exact H
    · obtain ⟨hjun, oj, hoj, hall⟩ := mem_ready.1 hj
      have hnB := notB listed j h1 h2 hj
      obtain ⟨hpj, hap⟩ := h3 j oj hoj hji hjun hnB
      have hsi := fun cs b => hsel i oi cs b hi
      have hsj := fun cs b => hsel j oj cs b hoj
      obtain ⟨a0, w0, hb0, hS0, h5⟩ := mix_outcome hp hS H
      have h6 := h5.2 j (ready_mono hj hji)
      rw [mixOp_some hoj] at h6 ⊢
      obtain ⟨v, hy0, _⟩ := mix_yields hpj h6
      have hy := (hb0.yields hap hsj v).1 hy0
      refine yields_mix hpj hy (ih (listed.setIfInBounds j true) _ w ?_ ?_ ?_ (ready_mono hr (Ne.symm hji)) hS ?_)
      · rw [getD_set_ne true hji]; exact h1
      · intro k hk
        have : j ≠ k := fun e => hnB (e ▸ hk)
        rw [getD_set_ne true this]; exact h2 k hk
      · intro k ok hk hki hun hnk
        refine h3 k ok hk hki ?_ hnk
        by_cases hjk : j = k
        · subst hjk; exact hjun
        · rw [getD_set_ne true hjk] at hun; exact hun
      · refine mixOne_mono (fun a' w' h7 => ?_) (mix_ahead (oj := oj) (v := v) hp hS hap hsi H)
        obtain ⟨a1, rfl, hb1, hS1, h8⟩ := h7
        have h9 := h8.2 j (ready_mono hj hji)
        rw [mixOp_some hoj] at h9
        obtain ⟨u, hyu, h10⟩ := mix_yields hpj h9
        have : u = v := yields_one hpj hS ((hb1.yields hap hsj u).1 hyu) hy
        subst this
        rw [Array.setIfInBounds_comm _ _ hji]
        exact h10

/-! ### The order of the text -/
/-- What stands behind i, at however many steps. -/
def behindL (md : Region.Mode) (ops : Array Oper) (i : Nat) : List Nat → List Nat → List Nat
  | [], B => B
  | j :: r, B => behindL md ops i r (if ((ops[j]?).map fun o => o.after.any fun e => Region.binds md e && (e.on == i || B.contains e.on)).getD false = true then j :: B else B)

theorem behindL_closed (i : Nat) : ∀ (l B : List Nat), (∀ j oj, j ∈ B → ops[j]? = some oj → ∃ e ∈ oj.after, Region.binds md e = true ∧ (e.on = i ∨ e.on ∈ B)) →
    ∀ j oj, j ∈ behindL md ops i l B → ops[j]? = some oj → ∃ e ∈ oj.after, Region.binds md e = true ∧ (e.on = i ∨ e.on ∈ behindL md ops i l B)
  | [], B, h => h
  | k :: r, B, h => by
    refine behindL_closed i r _ ?_
    split
    · rename_i hc
      intro j oj hj hoj
      rcases List.mem_cons.1 hj with rfl | hj
      · rw [hoj] at hc
        simp only [Option.map_some, Option.getD_some] at hc
        obtain ⟨e, he, hb⟩ := Array.any_eq_true'.1 hc
        simp only [Bool.and_eq_true, Bool.or_eq_true, beq_iff_eq, List.contains_iff_mem] at hb
        exact ⟨e, he, hb.1, hb.2.imp id (fun h => List.mem_cons_of_mem _ h)⟩
      · obtain ⟨e, he, hb, h3⟩ := h j oj hj hoj
        exact ⟨e, he, hb, h3.imp id (fun h => List.mem_cons_of_mem _ h)⟩
    · exact h

def chainOK (md : Region.Mode) (ops : Array Oper) (listed : Array Bool) (i : Nat) : Bool :=
  let B := behindL md ops i (List.range ops.size) []
  (B.all fun j => !listed.getD j true) && (List.range ops.size).all fun j => j == i || listed.getD j true || B.contains j || ((ops[j]?).map fun oj => plainB oj && ((ops[i]?).map fun oi => oi.apart ops oj).getD false).getD false

def mixFrom (md : Region.Mode) (ops : Array Oper) : Nat → Nat → Array Bool → Bool
  | 0, _, listed => (Region.ready md ops listed).isEmpty
  | fuel + 1, k, listed => (Region.ready md ops listed).contains k && Region.free md ops listed k && (((ops[k]?).map plainB).getD false || chainOK md ops listed k) && mixFrom md ops fuel (k + 1) (listed.setIfInBounds k true)

def mixB (md : Region.Mode) (ops : Array Oper) : Bool := Region.noSelect ops && mixFrom md ops ops.size 0 (Array.replicate ops.size false)

theorem mix_lex {Q : Act → World → Prop} (hs : Region.noSelect ops = true) : ∀ (l : List Oper) (k : Nat) (listed : Array Bool) (a : Act) (w : World), (∀ j, l[j]? = ops[k + j]?) →
    mixFrom md ops l.length k listed = true → S w → wpMix P ops S Q l a w → wpAnyM P md ops S Q l.length listed a w
  | [], _, _, _, _, _, hB, _, h => ⟨by simpa [mixFrom] using hB, h⟩
  | o :: l, k, listed, a, w, hl, hB, hS, h => by
    have h0 : ops[k]? = some o := by simpa using (hl 0).symm
    simp only [List.length_cons, mixFrom, Bool.and_eq_true] at hB
    obtain ⟨⟨⟨hr, hf⟩, hc⟩, hB'⟩ := hB
    have hr' : k ∈ Region.ready md ops listed := by simpa using hr
    have next : ∀ a w, S w → wpMix P ops S Q l a w → wpAnyM P md ops S Q l.length (listed.setIfInBounds k true) a w := fun a w hS h =>
      mix_lex hs l (k + 1) _ _ _ (fun j => by have := hl (j + 1); simpa [Nat.add_assoc, Nat.add_comm 1 j] using this) hB' hS h
    have h' : mixOne P ops S o (wpMix P ops S Q l) a w := h
    cases hp : plainB o
    · rw [h0] at hc
      simp only [Option.map_some, Option.getD_some, hp, Bool.false_or] at hc
      unfold chainOK at hc
      simp only [Bool.and_eq_true, List.all_eq_true, List.mem_range, Bool.or_eq_true, beq_iff_eq, Bool.not_eq_true'] at hc
      refine mix_chain (fun j => j ∈ behindL md ops k (List.range ops.size) []) h0 hp (Region.noSelect_spec hs) (fun j oj hj hoj => behindL_closed k _ _ (by simp) j oj hj hoj) l.length listed a w (mem_ready.1 hr').1 (fun j hj => hc.1 j hj) ?_ hr' hS ?_
      · intro j oj hj hji hun hnB
        have h1 := hc.2 j (Array.getElem?_eq_some_iff.1 hj).1
        rw [hj, h0] at h1
        simp only [hji, hun, Bool.false_eq_true, false_or, List.contains_iff_mem, hnB, Option.map_some, Option.getD_some, Bool.and_eq_true] at h1
        exact h1
      · clear hc
        unfold mixOne at h' ⊢
        split
        · rename_i hw
          rw [if_pos hw, if_neg (by simp [hp])] at h'
          rw [if_neg (by simp [hp])]
          exact Oper.wp_mono (fun a w ⟨h1, h2⟩ => ⟨h1, next a w h1 h2⟩) h'
        · rename_i hw
          rw [if_neg hw] at h'
          exact next _ _ hS h'
    · obtain ⟨v, hy, hK⟩ := mix_yields hp h'
      exact mix_first h0 hp (Region.noSelect_spec hs) l.length listed a w (Region.free_spec h0 hf) hr' hy hS (next _ _ hS hK)

/-- THE LAW. -/
theorem wp_region_mix {id : Nat} {Q : Exit → Act → World → Prop} {a : Act} {w : World} {l : List Oper} (S : World → Prop) (hm : P.follows .mixedOrders = true) (hB : mixB .any l.toArray = true) (hS : S w.drew)
    (h : wpMix P l.toArray S (fun a' w' => Q .normal a' w') l a w.drew) : (Code.region id l.toArray true).wp P Q a w := by
  simp only [mixB, Bool.and_eq_true] at hB
  refine wp_region_any hm (wpAny_of_mix (S := S) (Q := fun a' w' => Q .normal a' w') (fun _ _ h => h) _ _ _ _ hS ?_)
  have := mix_lex (P := P) (S := S) (md := .any) (Q := fun a' w' => Q .normal a' w') hB.1 l 0 (Array.replicate l.toArray.size false) a w.drew (by simp) (by simpa using hB.2) hS h
  simpa using this

/-! ### The steps -/
theorem wpMix_nil {Q : Act → World → Prop} {a : Act} {w : World} (h : Q a w) : wpMix P ops S Q [] a w := h
/-- The way on, as a name: no beta is wanted. -/
def MixK (P : Program) (ops : Array Oper) (S : World → Prop) (Q : Act → World → Prop) (rest : List Oper) (w : World) (a : Act) : Prop := wpMix P ops S Q rest a w
theorem mix_plain {Q : Act → World → Prop} {a : Act} {w : World} {o : Oper} {rest : List Oper} (hp : plainB o = true)
    (h : wpQuiet P ops S (MixK P ops S Q rest w) [o] a) : wpMix P ops S Q (o :: rest) a w := by
  unfold wpMix mixOne
  simp only [wpQuiet] at h
  rw [if_pos hp]
  split
  · rename_i hw; rw [if_pos hw] at h; exact h
  · rename_i hw; rw [if_neg hw] at h; exact h
theorem mix_skip {Q : Act → World → Prop} {a : Act} {w : World} {o : Oper} {rest : List Oper} (hw : Region.wanted o (yielded ops a.tmps) = false)
    (h : wpQuiet P ops S (MixK P ops S Q rest w) [o] a) : wpMix P ops S Q (o :: rest) a w := by
  unfold wpMix mixOne; rw [if_neg (by simp [hw])]
  simp only [wpQuiet] at h
  rw [if_neg (by simp [hw])] at h
  exact h
theorem mix_on {Q : Act → World → Prop} {a : Act} {w : World} {rest : List Oper} (h : wpMix P ops S Q rest a w) : wpQuiet P ops S (MixK P ops S Q rest w) [] a := h
theorem wpMix_chain {Q : Act → World → Prop} {a : Act} {w : World} {o : Oper} {rest : List Oper} (hp : plainB o = false) (hw : Region.wanted o (yielded ops a.tmps) = true)
    (h : ∀ K : Act → World → Prop, Hid (∀ a w, S w → wpMix P ops S Q rest a w → K a w) → o.wp P a w K NoQ) : wpMix P ops S Q (o :: rest) a w := by
  unfold wpMix mixOne; rw [if_pos hw, if_neg (by simp [hp])]; exact h _ (Lib.hid fun _ _ h1 h2 => ⟨h1, h2⟩)
end
end Go.Proofs.Ytaaciolfgplnoaa
