/- Layer 16: what memory has at first: firstWords. -/
import Derived.Test.YtlahpnigabfenaaCorA
namespace Go.Proofs.Ytlahpnigabfenaa
open Go.RowKit WordM EdgeM
set_option linter.unusedVariables false
set_option linter.unusedSimpArgs false
/-- A node's word at first: c leaves are laid, and the free list up to slot m. -/
def nodeF (c m q r : Nat) : Int :=
  if r = 0 then (if 5 ≤ q ∧ q + 1 < m then (q : Int) + 2 else 0)
  else if r = 2 then (if q = 0 then infoI false 3 else if q = 1 then infoI false 2 else if q < 2 + c then infoI true ((q : Int) - 1) else 0)
  else if r = 4 then (if q = 0 then 2 else if q = 1 then 3 else 0)
  else if r = 5 then (if q = 0 then 5 else if q = 1 then 4 else 0)
  else 0
def partF (t c m a : Nat) : Int := if a = 0 then 1 else if a = 1 then 3 else if a = 2 then 6 else if a < 3 + 8 * t then 0 else nodeF c m ((a - (3 + 8 * t)) / 7) ((a - (3 + 8 * t)) % 7)
theorem partF_node (t c m q r : Nat) (hr : r < 7) : partF t c m (3 + 8 * t + 7 * q + r) = nodeF c m q r := by
  unfold partF
  rw [if_neg (by omega), if_neg (by omega), if_neg (by omega), if_neg (by omega), show (3 + 8 * t + 7 * q + r - (3 + 8 * t)) / 7 = q by omega, show (3 + 8 * t + 7 * q + r - (3 + 8 * t)) % 7 = r by omega]
theorem at_node (t a : Nat) (h : 3 + 8 * t ≤ a) : ∃ q r, r < 7 ∧ a = 3 + 8 * t + 7 * q + r := ⟨(a - (3 + 8 * t)) / 7, (a - (3 + 8 * t)) % 7, by omega, by omega⟩
theorem partF_low (t c m c' m' a : Nat) (h : a < 3 + 8 * t) : partF t c m a = partF t c' m' a := by
  unfold partF
  split
  · rfl
  · split
    · rfl
    · split
      · rfl
      · simp only [if_pos h]
theorem partF_leaf (t c : Nat) (hc : c < 3) : Mm.upd (partF t c 6) (3 + 8 * t + 7 * (c + 2) + 2) (infoI true ((c : Int) + 1)) = partF t (c + 1) 6 := by
  funext a
  unfold Mm.upd
  by_cases h : a < 3 + 8 * t
  · rw [if_neg (by omega)]; exact partF_low _ _ _ _ _ _ h
  · obtain ⟨q, r, hr, rfl⟩ := at_node t a (by omega)
    rw [partF_node _ _ _ _ _ hr, partF_node _ _ _ _ _ hr]
    by_cases e : 3 + 8 * t + 7 * q + r = 3 + 8 * t + 7 * (c + 2) + 2
    · have h1 : r = 2 := by omega
      have h2 : q = c + 2 := by omega
      subst h1 h2
      rw [if_pos rfl]
      unfold nodeF
      rw [if_neg (by omega), if_pos rfl, if_neg (by omega), if_neg (by omega), if_pos (by omega)]
      congr 1; omega
    · rw [if_neg e]
      unfold nodeF
      by_cases h2 : r = 2
      · subst h2
        have hq : q ≠ c + 2 := by omega
        simp only [show ¬ (2 = 0) by omega, if_false, if_true]
        by_cases a0 : q = 0
        · rw [if_pos a0, if_pos a0]
        · by_cases a1 : q = 1
          · rw [if_neg a0, if_pos a1, if_neg a0, if_pos a1]
          · rw [if_neg a0, if_neg a1, if_neg a0, if_neg a1]
            by_cases a2 : q < 2 + c
            · rw [if_pos a2, if_pos (by omega)]
            · rw [if_neg a2, if_neg (by omega)]
      · simp only [h2, if_false]
theorem partF_link (t m : Nat) (hm : 6 ≤ m) : Mm.upd (partF t 3 m) (3 + 8 * t + 7 * (m - 1)) ((m : Int) + 1) = partF t 3 (m + 1) := by
  funext a
  unfold Mm.upd
  by_cases h : a < 3 + 8 * t
  · rw [if_neg (by omega)]; exact partF_low _ _ _ _ _ _ h
  · obtain ⟨q, r, hr, rfl⟩ := at_node t a (by omega)
    rw [partF_node _ _ _ _ _ hr, partF_node _ _ _ _ _ hr]
    by_cases e : 3 + 8 * t + 7 * q + r = 3 + 8 * t + 7 * (m - 1)
    · have h1 : r = 0 := by omega
      have h2 : m = q + 1 := by omega
      subst h1 h2
      rw [if_pos e]
      unfold nodeF
      rw [if_pos rfl, if_pos (by omega)]
      omega
    · rw [if_neg e]
      unfold nodeF
      by_cases h2 : r = 0
      · subst h2
        simp only [if_true]
        by_cases a0 : 5 ≤ q ∧ q + 1 < m
        · rw [if_pos a0, if_pos (by omega)]
        · rw [if_neg a0, if_neg (by omega)]
      · simp only [h2, if_false]
theorem partF_first (t : Nat) : innerF (innerF (Mm.upd (Mm.upd (Mm.upd (fun _ => 0) 0 1) 1 3) 2 6) (3 + 8 * t + 7 * (1 - 1)) 3 2 5) (3 + 8 * t + 7 * (2 - 1)) 2 3 4 = partF t 0 6 := by
  funext a
  unfold innerF Mm.upd
  by_cases h : a < 3 + 8 * t
  · rw [if_neg (by omega), if_neg (by omega), if_neg (by omega), if_neg (by omega), if_neg (by omega), if_neg (by omega)]
    unfold partF
    rw [if_pos h]
    by_cases a0 : a = 0
    · subst a0; simp
    · by_cases a1 : a = 1
      · subst a1; simp
      · by_cases a2 : a = 2
        · subst a2; simp
        · simp [a0, a1, a2]
  · obtain ⟨q, r, hr, rfl⟩ := at_node t a (by omega)
    rw [partF_node _ _ _ _ _ hr]
    unfold nodeF
    rcases (by omega : q = 0 ∨ q = 1 ∨ 2 ≤ q) with rfl | rfl | hq
    · rcases (by omega : r = 0 ∨ r = 1 ∨ r = 2 ∨ r = 3 ∨ r = 4 ∨ r = 5 ∨ r = 6) with rfl | rfl | rfl | rfl | rfl | rfl | rfl <;>
        (repeat (first | rw [if_neg (by omega)] | rw [if_pos (by omega)]))
    · rcases (by omega : r = 0 ∨ r = 1 ∨ r = 2 ∨ r = 3 ∨ r = 4 ∨ r = 5 ∨ r = 6) with rfl | rfl | rfl | rfl | rfl | rfl | rfl <;>
        (repeat (first | rw [if_neg (by omega)] | rw [if_pos (by omega)]))
    · rcases (by omega : r = 0 ∨ r = 1 ∨ r = 2 ∨ r = 3 ∨ r = 4 ∨ r = 5 ∨ r = 6) with rfl | rfl | rfl | rfl | rfl | rfl | rfl <;>
        (repeat (first | rw [if_neg (by omega)] | rw [if_pos (by omega)]))
theorem infoI_bd (b : Bool) (k : Int) : 0 ≤ infoI b k ∧ infoI b k ≤ 7 := by unfold infoI; split <;> cases b <;> simp <;> omega
theorem nodeF_bd (c m q r : Nat) (hm : m ≤ 1000) : 0 ≤ nodeF c m q r ∧ nodeF c m q r ≤ 2000 := by
  unfold nodeF
  have h := infoI_bd
  split
  · split <;> omega
  · split
    · split
      · have := h false 3; omega
      · split
        · have := h false 2; omega
        · split
          · have := h true ((q : Int) - 1); omega
          · omega
    · split
      · split
        · omega
        · split <;> omega
      · split
        · split
          · omega
          · split <;> omega
        · omega
theorem partF_bd (t c m a : Nat) (hm : m ≤ 1000) : 0 ≤ partF t c m a ∧ partF t c m a < 18446744073709551616 := by
  unfold partF
  have := nodeF_bd c m ((a - (3 + 8 * t)) / 7) ((a - (3 + 8 * t)) % 7) hm
  split
  · omega
  · split
    · omega
    · split
      · omega
      · split <;> omega
theorem below_only {W w w' : World} {g : Nat} (h : Below W.heap.size W w) (k : Mm.Only g g w w') (hg : W.heap.size ≤ g) : Below W.heap.size W w' :=
  ⟨k.os.trans h.os, k.tape.trans h.tape, k.output.trans h.output, Nat.le_trans h.size k.size, fun j hj => (k.block j (Nat.lt_of_lt_of_le hj h.size) (by omega) (by omega)).trans (h.block j hj)⟩
theorem conf_slots (a b c : Int) (w : World) : (Instr.field 24 (.agg #[.int .i64 a, .int .i64 b, .int .u64 c]) 1).run Try.prog w = .ok (.int .i64 b) w := by kernel_rfl
theorem head6 : headI 6 0 = 6 := by decide
set_option maxRecDepth 8000 in
set_option maxHeartbeats 2000000 in
theorem cfirst {t s : Nat} {K : Int} {pl : Nat} {w : World} (x0 : w.cell? ⟨pl, 0, none⟩ = some (.int .i64 t)) (x1 : w.cell? ⟨pl, 1, none⟩ = some (.int .i64 s)) (x2 : w.cell? ⟨pl, 2, none⟩ = some (.int .u64 K)) (t1 : 1 ≤ t) (t2 : t ≤ 6) (s1 : 7 ≤ s) (s2 : s ≤ 250) :
    Calls Try.prog 30 #[.pointer (some ⟨pl, 0, none⟩)] w fun e w' => ∃ g, e = .returned (.slice (some ⟨g, 0, none⟩) (3 + 8 * t + 7 * s) (3 + 8 * t + 7 * s)) ∧ w.heap.size ≤ g ∧ Mm.RowAt w' g (3 + 8 * t + 7 * s) (partF t 3 s) ∧ Below w.heap.size w w' := by
  obtain ⟨n, hn⟩ : ∃ n, n = 3 + 8 * t + 7 * s := ⟨_, rfl⟩
  rw [← hn]
  refine Calls.veil fun Q HQ => ?_
  obtain ⟨i0, hi, hz0, hz1, hz2⟩ := info_parts Mm.info64
  have hpl := World.block_lt_of_cell? w ⟨pl, 0, none⟩ x0
  have HPL := Lib.hid (show pl < w.heap.size from hpl)
  have X0 := Lib.hid x0; have X1 := Lib.hid x1; have X2 := Lib.hid x2
  have HW := Lib.hid (show wordsI t s = (n : Int) from by unfold wordsI; rw [hn]; omega)
  have TT := Lib.hid (show ((1 : Int) ≤ t ∧ (t : Int) ≤ 6) ∧ ((7 : Int) ≤ s ∧ (s : Int) ≤ 250) from ⟨⟨by omega, by omega⟩, ⟨by omega, by omega⟩⟩)
  have hn1 : 60 ≤ n := by omega
  have hn2 : n ≤ 2000 := by omega
  have HNE := Lib.hid hn
  clear x0 x1 x2 hpl hn
  go_enter Try.func30, Try.ntmps30
  go_wp2_with fail
  refine (pwords_calls _ _ _ _ X0.out X1.out TT.out.1.1 TT.out.1.2 TT.out.2.1 TT.out.2.2).mono ?_; rintro _ w0 ⟨rfl, hb0⟩
  rw [HW.out]
  have HB0 := Lib.hid hb0
  clear hb0
  go_wp2_with (refine wpList_make_full _ rfl (.tmp 8) (.tmp 8) 32 rfl w0.heap.size 22 i0 _ 1 Mm.u64s hi hz0 hz1 .i64 .i64 _ _ n rfl rfl rfl rfl (by rw [hz2]; omega) (by unfold maxLen; omega) (Nat.le_refl _) ?_)
  intro wm hown hgrow
  rw [Mm.made_words] at hown
  obtain ⟨g, hg⟩ : ∃ g, g = w0.heap.size := ⟨_, rfl⟩
  rw [← hg] at hown ⊢
  have hh := Mm.own_full hown (by omega)
  have hbm : Below w0.heap.size w0 wm := (Below.refl _ _).grown hgrow (Nat.le_refl _) (by intro k hk; cases hk)
  have HBM := Lib.hid (below_on HB0.out hbm)
  have HGG := Lib.hid (show w.heap.size ≤ g from by have := HB0.out.size; omega)
  have HGP := Lib.hid (show pl ≠ g from by have := HPL.out; have := HB0.out.size; omega)
  have HRM := Lib.hid (show Mm.RowAt wm g n (fun _ => 0) from ⟨fun i hi => by rw [cell_of_row _ g i _ _ _ hh]; simpa using Mm.wordsL_get n (fun _ => 0) i hi, fun i => frozen_of_row _ g i _ _ hh, (Array.getElem?_eq_some_iff.1 hh).1⟩)
  clear hown hgrow hh hbm hg
  have r0 := HRM.out.row 0 (by omega); have r1 := HRM.out.row 1 (by omega); have r2 := HRM.out.row 2 (by omega)
  have rf := HRM.out.fr
  go_upto_region 4 with fail
  generalize hV : World.setCell _ _ _ = V
  have HRV := Lib.hid (show Mm.RowAt V g n (Mm.upd (Mm.upd (fun _ => 0) 0 1) 1 3) by rw [← hV]; exact (HRM.out.set (by omega) _).set (by omega) _)
  have HBV := Lib.hid (show Below w.heap.size w V by rw [← hV]; exact below_set (below_set HBM.out HGG.out _) HGG.out _)
  clear hV r0 r1 r2 rf HRM HBM
  go_wp2_with fail
  refine (bhead_calls _ _ _ (by omega)).mono ?_; rintro _ _ ⟨rfl, rfl⟩
  rw [head6]
  have r2 := HRV.out.row 2 (by omega)
  have rf := HRV.out.fr
  go_upto_region 5 with fail
  generalize hV : World.setCell _ _ _ = V1
  have HR1 := Lib.hid (show Mm.RowAt V1 g n (Mm.upd (Mm.upd (Mm.upd (fun _ => 0) 0 1) 1 3) 2 6) by rw [← hV]; exact HRV.out.set (by omega) _)
  have HB1 := Lib.hid (show Below w.heap.size w V1 by rw [← hV]; exact below_set HBV.out HGG.out _)
  clear hV r2 rf HRV HBV HB0
  have X01 := Lib.hid (Ext.use (Ext.cells X0.out) HB1.out); have X11 := Lib.hid (Ext.use (Ext.cells X1.out) HB1.out)
  go_wp2_with fail
  refine (cinner (k := 1) X01.out X11.out HR1.out HGP.out t1 t2 s1 s2 HNE.out (by omega) (by omega) 3 (l := 2) (r := 5) (by omega) (by omega) (by omega) (by omega)).mono ?_; rintro _ w2 ⟨rfl, hr2, ho2⟩
  have HR2 := Lib.hid hr2
  have HB2 := Lib.hid (below_only HB1.out ho2 HGG.out)
  clear hr2 ho2 X01 X11 HR1 HB1
  have X01 := Lib.hid (Ext.use (Ext.cells X0.out) HB2.out); have X11 := Lib.hid (Ext.use (Ext.cells X1.out) HB2.out)
  go_wp2_with fail
  refine (cinner (k := 2) X01.out X11.out HR2.out HGP.out t1 t2 s1 s2 HNE.out (by omega) (by omega) 2 (l := 3) (r := 4) (by omega) (by omega) (by omega) (by omega)).mono ?_; rintro _ w3 ⟨rfl, hr3, ho3⟩
  rw [partF_first] at hr3
  have HR3 := Lib.hid hr3
  have HB3 := Lib.hid (below_only HB2.out ho3 HGG.out)
  clear hr3 ho3 X01 X11 HR2 HB2
  go_wp2_with fail
  go_loopw [4] (fun iv wr => ∃ c : Nat, c ≤ 3 ∧ iv = .int .i64 ((c : Int) + 1) ∧ Hid (Mm.RowAt wr g n (partF t c 6)) ∧ Hid (Below w.heap.size w wr))
    (fun iv _ => 5 - (intOf iv).toNat)
  case atStart => exact ⟨0, by omega, by go_num, HR3, HB3⟩
  case round =>
    clear HR3 HB3
    obtain ⟨c, hc, rfl, HR, HB⟩ := hrel
    rcases (by omega : c < 3 ∨ c = 3) with hlt | heq
    · have hii : (c : Int) + 1 ≤ 3 := by omega
      have X01 := Lib.hid (Ext.use (Ext.cells X0.out) HB.out); have X11 := Lib.hid (Ext.use (Ext.cells X1.out) HB.out)
      obtain ⟨a, ha⟩ : ∃ a, a = 3 + 8 * t + 7 * (c + 2) + 2 := ⟨_, rfl⟩
      have HND := Lib.hid (show nodeI t s ((c : Int) + 1 + 2) (2 : Int) = (a : Int) from by
        have := node_nat t s (c + 3) 2 (by omega) (by omega) (by omega)
        rw [show (c : Int) + 1 + 2 = ((c + 3 : Nat) : Int) by omega, show (2 : Int) = ((2 : Nat) : Int) from rfl, this, ha]; omega)
      have han : a < n := by have := HNE.out; omega
      have HAE := Lib.hid ha
      clear ha
      go_wp2_with fail
      refine (pnode_calls _ _ _ _ _ _ X01.out X11.out TT.out.1.1 TT.out.1.2 TT.out.2.1 TT.out.2.2).mono ?_; rintro _ w4 ⟨rfl, hb4⟩
      rw [HND.out]
      have HR4 := Lib.hid (HR.out.below hb4); have HB4 := Lib.hid (below_on HB.out hb4)
      clear hb4 HR HB X01 X11
      go_wp2_with fail
      refine (oinfo_calls _ _ _).mono ?_; rintro _ _ ⟨rfl, rfl⟩
      have r2 := HR4.out.row a han
      have rf := HR4.out.fr
      go_upto_region 9 with fail
      generalize hV : World.setCell _ _ _ = V5
      have HR5 := Lib.hid (show Mm.RowAt V5 g n (partF t (c + 1) 6) by
        rw [← hV]
        have h := HR4.out.set han (infoI true ((c : Int) + 1))
        rw [HAE.out, partF_leaf t c hlt, ← HAE.out] at h
        exact h)
      have HB5 := Lib.hid (show Below w.heap.size w V5 by rw [← hV]; exact below_set HB4.out HGG.out _)
      clear hV r2 rf HR4 HB4
      go_wp2_with fail
      go_roundw
      case rel => exact ⟨c + 1, by omega, by go_num, HR5, HB5⟩
      case measure => simp [intOf]; omega
    · subst heq
      have hfld := conf_slots t s K
      have X01 := Lib.hid (Ext.use (Ext.cells X0.out) HB.out); have X11 := Lib.hid (Ext.use (Ext.cells X1.out) HB.out); have X21 := Lib.hid (Ext.use (Ext.cells X2.out) HB.out)
      go_wp2_with fail
      refine (pconf_calls _ _ _ _ _ X01.out X11.out X21.out).mono ?_; rintro _ w6 ⟨rfl, hb6⟩
      have HR6 := Lib.hid (HR.out.below hb6); have HB6 := Lib.hid (below_on HB.out hb6)
      clear hb6 HR HB X01 X11 X21
      go_wp2_with fail
      go_loopw [6] (fun iv wr => ∃ m : Nat, 6 ≤ m ∧ m ≤ s ∧ iv = .int .i64 m ∧ Hid (Mm.RowAt wr g n (partF t 3 m)) ∧ Hid (Below w.heap.size w wr))
        (fun iv _ => s - (intOf iv).toNat)
      case atStart => exact ⟨6, by omega, by omega, by go_num, HR6, HB6⟩
      case round =>
        clear HR6 HB6
        obtain ⟨m, hm6, hms, rfl, HR, HB⟩ := hrel
        rcases (by omega : m < s ∨ m = s) with hlt | heq
        · have hii : (m : Int) < s := by omega
          have X01 := Lib.hid (Ext.use (Ext.cells X0.out) HB.out); have X11 := Lib.hid (Ext.use (Ext.cells X1.out) HB.out)
          obtain ⟨a, ha⟩ : ∃ a, a = 3 + 8 * t + 7 * (m - 1) := ⟨_, rfl⟩
          have HND := Lib.hid (show nodeI t s m (0 : Int) = (a : Int) from by
            have := node_nat t s m 0 (by omega) (by omega) (by omega)
            rw [show (0 : Int) = ((0 : Nat) : Int) from rfl, this, ha]; omega)
          have han : a < n := by have := HNE.out; omega
          have HAE := Lib.hid ha
          clear ha
          have hm1000 : m ≤ 1000 := by omega
          go_wp2_with fail
          refine (pnode_calls _ _ _ _ _ _ X01.out X11.out TT.out.1.1 TT.out.1.2 TT.out.2.1 TT.out.2.2).mono ?_; rintro _ w4 ⟨rfl, hb4⟩
          rw [HND.out]
          have HR4 := Lib.hid (HR.out.below hb4); have HB4 := Lib.hid (below_on HB.out hb4)
          clear hb4 HR HB X01 X11
          have r2 := HR4.out.row a han
          have rf := HR4.out.fr
          go_upto_region 14 with fail
          generalize hV : World.setCell _ _ _ = V5
          have HR5 := Lib.hid (show Mm.RowAt V5 g n (partF t 3 (m + 1)) by
            rw [← hV]
            have h := HR4.out.set han ((m : Int) + 1)
            rw [HAE.out, partF_link t m hm6, ← HAE.out] at h
            exact h)
          have HB5 := Lib.hid (show Below w.heap.size w V5 by rw [← hV]; exact below_set HB4.out HGG.out _)
          clear hV r2 rf HR4 HB4
          go_wp2_with fail
          go_roundw
          case rel => exact ⟨m + 1, by omega, by omega, by go_num, HR5, HB5⟩
          case measure => simp [intOf]; omega
        · subst heq
          go_wp2_with fail
          (try go_ret)
          rw [HQ.out]
          exact ⟨g, rfl, HGG.out, HR.out, HB.out⟩
end Go.Proofs.Ytlahpnigabfenaa
