/- Layer 10: the reference's Bad, plain. -/
import Derived.Test.YtkgfhomoipbjoaaDoorModM
import Derived.Test.YtkgfhomoipbjoaaDoorModP
namespace Go.Proofs.YtkgfhomoipbjoaaDoor
open Go.RowKit
set_option linter.unusedVariables false
set_option linter.unusedSimpArgs false
set_option maxRecDepth 8000 in
set_option maxHeartbeats 2000000 in
theorem rbad_off {w : World} {n cc : Nat} {p : Option Addr} {ma : Option Addr} {ml mc : Nat} (t op key val hi lim : Int) (ht : ¬ (0 ≤ t ∧ t < n)) :
    Calls Tryd.prog 14 #[.agg #[.slice ma ml mc, .slice p n cc], .int .i64 t, .agg #[.int .i64 op, .int .i64 key, .int .i64 val, .int .i64 hi, .int .i64 lim]] w fun e w' => e = .returned (.bool true) ∧ Below w.heap.size w w' := by
  refine Calls.veil fun Q HQ => ?_
  rcases (by omega : t < 0 ∨ (0 ≤ t ∧ n ≤ t)) with q | ⟨q, q2⟩
  all_goals
    clear ht
    go_enter Tryd.func14, Tryd.ntmps14
    go_wp2_with fail
    (try go_ret)
    rw [HQ.out]
    exact ⟨rfl, by (repeat (first | exact Below.refl _ _ | assumption | refine below_new ?_ _ | refine Below.drew ?_ | refine below_drewN ?_ _ | refine below_on ?_ (by assumption)))⟩
set_option maxRecDepth 8000 in
set_option maxHeartbeats 4000000 in
theorem rbad_on {w : World} {g i n cc : Nat} {s : Se} {fv : Value} {ma : Option Addr} {ml mc : Nat} (hs : SeC w g (i * 4) s fv) (hi : i < n) (op key val hi' lim : Int) :
    Calls Tryd.prog 14 #[.agg #[.slice ma ml mc, .slice (some ⟨g, 0, none⟩) n cc], .int .i64 i, .agg #[.int .i64 op, .int .i64 key, .int .i64 val, .int .i64 hi', .int .i64 lim]] w fun e w' => e = .returned (.bool (!mayB op key hi' lim || badS s op)) ∧ Below w.heap.size w w' := by
  refine Calls.veil fun Q HQ => ?_
  have HSE := Lib.hid hs
  obtain ⟨p9, c9, e9, _, _⟩ := hs.p.1.slice
  have HE9 := Lib.hid e9
  have hii : (i : Int) < n := by omega
  have hi0 : ¬ (i : Int) < 0 := by omega
  have hi1 : ¬ (n : Int) ≤ i := by omega
  clear hs e9
  go_enter Tryd.func14, Tryd.ntmps14
  go_upto_region 1 with fail
  generalize hU : World.alloc _ _ = U
  have hBU : Below w.heap.size w U := by rw [← hU]; (repeat (first | exact Below.refl _ _ | assumption | refine below_new ?_ _ | refine Below.drew ?_ | refine below_drewN ?_ _ | refine below_on ?_ (by assumption)))
  obtain ⟨B, hB⟩ : ∃ B, B = w.heap.size := ⟨_, rfl⟩
  have e1 : (w.alloc (.cells #[.slice ma ml mc, .slice (some ⟨g, 0, none⟩) n cc] 31)).heap.size = B + 1 := by rw [hB]; simp
  have b1 : Below (B + 1) (w.alloc (.cells #[.slice ma ml mc, .slice (some ⟨g, 0, none⟩) n cc] 31)) U := by
    rw [← hU, ← e1]; (repeat (first | exact Below.refl _ _ | assumption | refine below_new ?_ _ | refine Below.drew ?_ | refine below_drewN ?_ _ | refine below_on ?_ (by assumption)))
  have m1 : U.cell? ⟨B, 1, none⟩ = some (.slice (some ⟨g, 0, none⟩) n cc) := by rw [hB]; exact Ext.made_in rfl (by rw [e1]; exact b1) 1 _ rfl
  have z0 : U.cell? ⟨B + 1, 0, none⟩ = some (.int .i64 op) := by rw [← e1]; exact Ext.made_in hU (Below.refl _ _) 0 _ rfl
  have z1 : U.cell? ⟨B + 1, 1, none⟩ = some (.int .i64 key) := by rw [← e1]; exact Ext.made_in hU (Below.refl _ _) 1 _ rfl
  have z2 : U.cell? ⟨B + 1, 2, none⟩ = some (.int .i64 val) := by rw [← e1]; exact Ext.made_in hU (Below.refl _ _) 2 _ rfl
  have z3 : U.cell? ⟨B + 1, 3, none⟩ = some (.int .i64 hi') := by rw [← e1]; exact Ext.made_in hU (Below.refl _ _) 3 _ rfl
  have z4 : U.cell? ⟨B + 1, 4, none⟩ = some (.int .i64 lim) := by rw [← e1]; exact Ext.made_in hU (Below.refl _ _) 4 _ rfl
  have HBU := Lib.hid hBU
  rw [← hB]
  clear hU hBU hB e1 b1
  go_wp2_with fail
  refine (rmay op key val hi' lim U).mono ?_; rintro _ w1 ⟨rfl, hb1⟩
  have z0 := Ext.use (Ext.cells z0) hb1
  have m1 := Ext.use (Ext.cells m1) hb1
  have HB1 := Lib.hid (HBU.out.trans (hb1.mono HBU.out.size))
  obtain ⟨t0, t1, t2, t3, _⟩ := HSE.out.below HB1.out
  rw [HE9.out] at t2
  clear hb1 z1 z2 z3 z4
  cases hm : mayB op key hi' lim with
  | false =>
    rw [hm] at HQ
    clear hm
    go_wp2_with fail
    (try go_ret)
    rw [HQ.out]
    exact ⟨by first | rfl | simp, HB1.out⟩
  | true =>
    rw [hm] at HQ
    have HOP := Lib.hid (show 0 ≤ op ∧ op ≤ 14 by
      unfold mayB at hm
      rw [decide_eq_true_eq] at hm
      omega)
    clear hm
    go_upto_region 4 with fail
    generalize hV : World.alloc w1 _ = V
    obtain ⟨Y, hY⟩ : ∃ Y, Y = w1.heap.size := ⟨_, rfl⟩
    have hbV : Below w1.heap.size w1 V := by rw [← hV]; (repeat (first | exact Below.refl _ _ | assumption | refine below_new ?_ _ | refine Below.drew ?_ | refine below_drewN ?_ _ | refine below_on ?_ (by assumption)))
    obtain ⟨sj, so, sf, sp⟩ := s
    simp only at t0 t1 t2 t3 HE9 hV
    have y0 : V.cell? ⟨Y, 0, none⟩ = some (.bool sj) := by rw [hY]; exact Ext.made_in hV (Below.refl _ _) 0 _ rfl
    have y1 : V.cell? ⟨Y, 1, none⟩ = some (.bool so) := by rw [hY]; exact Ext.made_in hV (Below.refl _ _) 1 _ rfl
    have z0 := Ext.use (Ext.cells z0) hbV
    have HBV := Lib.hid (HB1.out.trans (hbV.mono HB1.out.size))
    rw [← hY]
    unfold badS at HQ
    clear hV hbV hY t0 t1 t2 t3 m1 HE9 HSE
    have hop := HOP.out
    rcases (by omega : op = 13 ∨ op = 14 ∨ op = 9 ∨ op = 10 ∨ op = 11 ∨ op = 12 ∨ (op < 9)) with rfl | rfl | rfl | rfl | rfl | rfl | o9
    iterate 6
      case _ =>
        clear hop
        cases sj <;> cases so
        all_goals
          go_wp2_with fail
          (try go_ret)
          rw [HQ.out]
          exact ⟨rfl, HBV.out⟩
    have HF := Lib.hid o9
    have d9 : ¬ (9 : Int) < op := by omega
    have o13 := neq_b (show op ≠ 13 by omega)
    have o14 := neq_b (show op ≠ 14 by omega)
    have oo9 := neq_b (show op ≠ 9 by omega)
    clear o9 hop
    cases sj <;> cases so
    all_goals
      go_wp2_with fail
      (try go_ret)
      rw [HQ.out]
      have f := HF.out
      exact ⟨by simp [show ¬ op = 13 by omega, show ¬ op = 14 by omega, show ¬ op = 9 by omega, show ¬ op = 10 by omega, show ¬ op = 11 by omega, show ¬ op = 12 by omega, neq_b (show op ≠ 13 by omega)], HBV.out⟩
theorem rbad {w : World} {mv tv : Value} {l : PL} {n : Nat} {th : Nat → Se} (hm : PR w mv l) (h : TR w tv n th) (t : Int) (c : Ca) :
    Calls Tryd.prog 14 #[.agg #[mv, tv], .int .i64 t, caV c] w fun e w' => e = .returned (.bool (badB n th t c)) ∧ Below w.heap.size w w' := by
  obtain ⟨op, key, val, hi, lim⟩ := c
  unfold badB caV
  simp only
  obtain ⟨mp, mc, rfl, _, _⟩ := hm.slice
  by_cases ht : 0 ≤ t ∧ t < n
  · obtain ⟨i, rfl⟩ : ∃ i : Nat, t = i := ⟨t.toNat, by omega⟩
    obtain ⟨p, cc, rfl, _, _, h3⟩ := h.slice
    obtain ⟨T, fv, rfl, hse⟩ := h3.out i (by omega)
    rw [decide_eq_true ht, Int.toNat_natCast, Bool.true_and]
    exact rbad_on hse (by omega) op key val hi lim
  · obtain ⟨p, cc, rfl, _, _, h3⟩ := h.slice
    rw [decide_eq_false ht]
    exact rbad_off t op key val hi lim ht
def plA (l : PL) (c : Ca) : PL × An :=
  if c.op = 0 then (putL l (c.key, c.val), if hereB l c.key = true then ⟨5, 0, 0, 0, []⟩ else ⟨0, 0, 0, 0, []⟩)
  else if c.op = 1 then (dropL l c.key, foundA (atL l c.key))
  else if c.op = 3 then (l, ⟨3, 0, 0, 0, cutL l c.key c.hi c.lim⟩)
  else if c.op = 4 then (l, ⟨2, 0, 0, ((cutL l c.key c.hi 9223372036854775807).length : Nat), []⟩)
  else (l, foundA (oneA l c))
theorem idx_at {l : PL} (hr : riseB l = true) (key : Int) (h : hereB l key = true) : idxL l (lbN l key : Nat) = atL l key := by
  have hh := here_at hr key
  rw [h] at hh
  have := hh.symm
  rw [Bool.and_eq_true, decide_eq_true_eq] at this
  unfold idxL atL
  rw [if_pos ⟨by omega, by omega⟩, if_pos h]
  rfl
theorem at_no {l : PL} {key : Int} (h : hereB l key = false) : atL l key = none := by unfold atL; rw [h]; rfl
theorem idx_floor {l : PL} (hr : riseB l = true) (key : Int) (h : hereB l key = true) : idxL l (lbN l key : Nat) = floorL l key := by
  rw [floor_here hr h, idx_at hr key h]; unfold atL; rw [if_pos h]
theorem idx_floor1 {l : PL} (hr : riseB l = true) (key : Int) (h : hereB l key = false) : idxL l ((lbN l key : Nat) - 1) = floorL l key := by
  have hle := lbN_le l key
  cases hn : lbN l key with
  | zero => rw [floor_zero hr h hn]; unfold idxL; rw [if_neg (by omega)]
  | succ r =>
    rw [floor_pos hr h hn]; unfold idxL
    rw [if_pos ⟨by omega, by omega⟩, show ((((r + 1 : Nat) : Int) - 1)).toNat = r by omega]
theorem idx_ceil {l : PL} (hr : riseB l = true) (key : Int) : idxL l (lbN l key : Nat) = ceilL l key := by
  obtain ⟨s1, s2⟩ := lbN_spec hr key
  have hle := lbN_le l key
  unfold idxL
  by_cases h : lbN l key < l.length
  · rw [if_pos ⟨by omega, by omega⟩, ceil_at h s1 (s2 _ (Nat.le_refl _) h)]; rfl
  · rw [if_neg (by omega), ceil_none (fun k hk => s1 k (by omega))]
theorem idx_min {l : PL} (hk : ∀ k, k < l.length → -9223372036854775808 ≤ ky l k) : idxL l 0 = ceilL l (-9223372036854775808) := by
  unfold idxL
  by_cases h : 0 < l.length
  · rw [if_pos ⟨by omega, by omega⟩, ceil_at h (fun k hk => by omega) (hk 0 h)]; rfl
  · rw [if_neg (by omega), ceil_none (fun k hk => by omega)]
theorem idx_max {l : PL} (hk : ∀ k, k < l.length → ky l k ≤ 9223372036854775807) : idxL l ((l.length : Nat) - 1) = floorL l 9223372036854775807 := by
  have hf : l.filter (fun p => decide (p.1 ≤ 9223372036854775807)) = l := by
    rw [List.filter_eq_self]
    intro p hp
    obtain ⟨k, hk1, hk2⟩ := List.mem_iff_getElem.1 hp
    have h1 := hk k hk1
    rw [← hk2, ky_get hk1]
    simpa using h1
  unfold floorL
  rw [hf, List.getLast?_eq_getElem?]
  unfold idxL
  by_cases h : 0 < l.length
  · rw [if_pos ⟨by omega, by omega⟩, List.getElem?_eq_getElem (by omega), show (((l.length : Nat) : Int) - 1).toNat = l.length - 1 by omega, ky_get (by omega)]
  · rw [if_neg (by omega), List.getElem?_eq_none (by omega)]
theorem betw_len (l : PL) (lo hi : Int) : (betw l lo hi).length ≤ l.length := List.length_filter_le _ _
theorem cut_count (l : PL) (lo hi : Int) (hl : l.length ≤ 100000) : cutL l lo hi (l.length : Nat) = cutL l lo hi 9223372036854775807 := by
  have := betw_len l lo hi
  unfold cutL
  rw [List.take_of_length_le (by omega), List.take_of_length_le (by omega)]
/-- What plain leaves. -/
def PlP (w : World) (l : PL) (a : An) (e : Ending) (w' : World) : Prop := ∃ mv av, e = .returned (.tuple #[mv, anV a av]) ∧ PO w' mv l ∧ PO w' av a.ps ∧ Below w.heap.size w w'
set_option maxRecDepth 8000 in
set_option maxHeartbeats 2000000 in
theorem rplain_put {w : World} {l : PL} {mv : Value} (hp : PO w mv l) (hr : riseB l = true) (hn : l.length ≤ 5000) (hrg : ∀ k, k < l.length → -9223372036854775808 ≤ ky l k ∧ ky l k ≤ 9223372036854775807) (key val hi lim : Int) :
    Calls Tryd.prog 15 #[mv, .agg #[.int .i64 0, .int .i64 key, .int .i64 val, .int .i64 hi, .int .i64 lim]] w (PlP w (putL l (key, val)) (if hereB l key = true then ⟨5, 0, 0, 0, []⟩ else ⟨0, 0, 0, 0, []⟩)) := by
  refine Calls.veil fun Q HQ => ?_
  have HP0 := Lib.hid hp
  have HR := Lib.hid hr
  have HN := Lib.hid hn
  have HRG := Lib.hid hrg
  obtain ⟨mp, mc, rfl, _, _⟩ := hp.1.slice
  have hlen : l.length ≤ 5000 := hn
  clear hp hr hn hrg
  go_enter Tryd.func15, Tryd.ntmps15
  go_upto_region 1 with fail
  generalize hU : World.alloc _ _ = U
  have hBU : Below w.heap.size w U := by rw [← hU]; (repeat (first | exact Below.refl _ _ | assumption | refine below_new ?_ _ | refine Below.drew ?_ | refine below_drewN ?_ _ | refine below_on ?_ (by assumption)))
  obtain ⟨B, hB⟩ : ∃ B, B = w.heap.size := ⟨_, rfl⟩
  have e1 : (w.alloc (.cells #[.int .i64 0, .int .i64 key, .int .i64 val, .int .i64 hi, .int .i64 lim] 38)).heap.size = B + 1 := by rw [hB]; simp
  have b1 : Below (B + 1) (w.alloc (.cells #[.int .i64 0, .int .i64 key, .int .i64 val, .int .i64 hi, .int .i64 lim] 38)) U := by
    rw [← hU, ← e1]; (repeat (first | exact Below.refl _ _ | assumption | refine below_new ?_ _ | refine Below.drew ?_ | refine below_drewN ?_ _ | refine below_on ?_ (by assumption)))
  have z0 : U.cell? ⟨B, 0, none⟩ = some (.int .i64 0) := by rw [hB]; exact Ext.made_in rfl (by rw [e1]; exact b1) 0 _ rfl
  have z1 : U.cell? ⟨B, 1, none⟩ = some (.int .i64 key) := by rw [hB]; exact Ext.made_in rfl (by rw [e1]; exact b1) 1 _ rfl
  have z2 : U.cell? ⟨B, 2, none⟩ = some (.int .i64 val) := by rw [hB]; exact Ext.made_in rfl (by rw [e1]; exact b1) 2 _ rfl
  have z3 : U.cell? ⟨B, 3, none⟩ = some (.int .i64 hi) := by rw [hB]; exact Ext.made_in rfl (by rw [e1]; exact b1) 3 _ rfl
  have z4 : U.cell? ⟨B, 4, none⟩ = some (.int .i64 lim) := by rw [hB]; exact Ext.made_in rfl (by rw [e1]; exact b1) 4 _ rfl
  have HA := Lib.hid (show A5 U (B + 1) by unfold A5; rw [← e1, ← hU]; exact heap_alloc_new _ _)
  have HPO := Lib.hid (HP0.out.below hBU)
  have HBU := Lib.hid hBU
  have HBE := Lib.hid hB
  rw [← hB]
  clear hU b1 e1 hBU hB
  go_wp2_with fail
  refine (rat l _ key U HPO.out.1 (by have := HN.out; omega)).mono ?_; rintro _ w1 ⟨rfl, hb1⟩
  have z0 := Ext.use (Ext.cells z0) hb1; have z1 := Ext.use (Ext.cells z1) hb1; have z2 := Ext.use (Ext.cells z2) hb1; have z3 := Ext.use (Ext.cells z3) hb1; have z4 := Ext.use (Ext.cells z4) hb1
  have HA := Lib.hid (HA.out.below hb1)
  have HPO := Lib.hid (HPO.out.below hb1)
  have HBT := Lib.hid (HBU.out.trans (hb1.mono HBU.out.size))
  obtain ⟨r, hrr⟩ : ∃ r : Nat, r = lbN l key := ⟨_, rfl⟩
  have hrl : r ≤ l.length := by rw [hrr]; exact lbN_le l key
  rw [← hrr]
  have HRR := Lib.hid hrr
  clear hb1 hrr
  cases hh : hereB l key with
  | true =>
    rw [hh] at HQ
    have HPE := Lib.hid (show putL l (key, val) = l from putL_old hh)
    clear hh
    obtain ⟨c0, c1, c2, c3, c4, cf⟩ := HA.out.c
    go_wp2_with fail
    refine bodyPost_ret (v := .tuple #[.slice mp l.length mc, .agg #[.int .i64 5, .int .i64 0, .int .i64 0, .int .i64 0, .slice none 0 0]]) (by simp [results, Tryd.results15, go_sem, c0, c1, c2, c3, c4, World.cell?_setCell_same, World.cell?_setCell_other]) rfl ?_
    rw [HQ.out]
    have hBE := HBE.out
    obtain ⟨k1, n1, o1⟩ := ans5 (w := w) (X := []) HA.out (by omega) (KX.of_below HBT.out) (.int .i64 5) (.int .i64 0) (.int .i64 0) (.int .i64 0) (.slice none 0 0)
    have hfin : Below w.heap.size w _ := ⟨k1.os, k1.tape, k1.output, k1.size, fun k hk => k1.block k hk (by simp)⟩
    exact ⟨_, _, rfl, by rw [HPE.out]; exact HPO.out.np n1, PO.nil _, hfin⟩
  | false =>
    rw [hh] at HQ
    have HHH := Lib.hid hh
    clear hh
    go_wp2_with fail
    refine (rputO l _ key val w1 HPO.out (by have := HN.out; omega)).mono ?_; rintro _ w2 ⟨v2, rfl, hp2, hb2⟩
    have HA := Lib.hid (HA.out.below hb2)
    have HPO := Lib.hid (HPO.out.below hb2)
    have HBT := Lib.hid (HBT.out.trans (hb2.mono HBT.out.size))
    have HP2 := Lib.hid hp2
    obtain ⟨p2, cc2, rfl, _, _⟩ := hp2.1.slice
    clear hp2
    clear hb2
    obtain ⟨c0, c1, c2, c3, c4, cf⟩ := HA.out.c
    rw [HHH.out]
    go_wp2_with fail
    refine bodyPost_ret (v := .tuple #[.slice p2 (putL l (key, val)).length cc2, .agg #[.int .i64 0, .int .i64 0, .int .i64 0, .int .i64 0, .slice none 0 0]]) (by simp [results, Tryd.results15, go_sem, c0, c1, c2, c3, c4, World.cell?_setCell_same, World.cell?_setCell_other]) rfl ?_
    rw [HQ.out]
    have hBE := HBE.out
    obtain ⟨k1, n1, o1⟩ := ans5 (w := w) (X := []) HA.out (by omega) (KX.of_below HBT.out) (.int .i64 0) (.int .i64 0) (.int .i64 0) (.int .i64 0) (.slice none 0 0)
    have hfin : Below w.heap.size w _ := ⟨k1.os, k1.tape, k1.output, k1.size, fun k hk => k1.block k hk (by simp)⟩
    exact ⟨_, _, rfl, HP2.out.np n1, PO.nil _, hfin⟩
set_option maxRecDepth 8000 in
set_option maxHeartbeats 2000000 in
theorem rplain_drop {w : World} {l : PL} {mv : Value} (hp : PO w mv l) (hr : riseB l = true) (hn : l.length ≤ 5000) (hrg : ∀ k, k < l.length → -9223372036854775808 ≤ ky l k ∧ ky l k ≤ 9223372036854775807) (key val hi lim : Int) :
    Calls Tryd.prog 15 #[mv, .agg #[.int .i64 1, .int .i64 key, .int .i64 val, .int .i64 hi, .int .i64 lim]] w (PlP w (dropL l key) (foundA (atL l key))) := by
  refine Calls.veil fun Q HQ => ?_
  have HP0 := Lib.hid hp
  have HR := Lib.hid hr
  have HN := Lib.hid hn
  have HRG := Lib.hid hrg
  obtain ⟨mp, mc, rfl, _, _⟩ := hp.1.slice
  have hlen : l.length ≤ 5000 := hn
  clear hp hr hn hrg
  go_enter Tryd.func15, Tryd.ntmps15
  go_upto_region 1 with fail
  generalize hU : World.alloc _ _ = U
  have hBU : Below w.heap.size w U := by rw [← hU]; (repeat (first | exact Below.refl _ _ | assumption | refine below_new ?_ _ | refine Below.drew ?_ | refine below_drewN ?_ _ | refine below_on ?_ (by assumption)))
  obtain ⟨B, hB⟩ : ∃ B, B = w.heap.size := ⟨_, rfl⟩
  have e1 : (w.alloc (.cells #[.int .i64 1, .int .i64 key, .int .i64 val, .int .i64 hi, .int .i64 lim] 38)).heap.size = B + 1 := by rw [hB]; simp
  have b1 : Below (B + 1) (w.alloc (.cells #[.int .i64 1, .int .i64 key, .int .i64 val, .int .i64 hi, .int .i64 lim] 38)) U := by
    rw [← hU, ← e1]; (repeat (first | exact Below.refl _ _ | assumption | refine below_new ?_ _ | refine Below.drew ?_ | refine below_drewN ?_ _ | refine below_on ?_ (by assumption)))
  have z0 : U.cell? ⟨B, 0, none⟩ = some (.int .i64 1) := by rw [hB]; exact Ext.made_in rfl (by rw [e1]; exact b1) 0 _ rfl
  have z1 : U.cell? ⟨B, 1, none⟩ = some (.int .i64 key) := by rw [hB]; exact Ext.made_in rfl (by rw [e1]; exact b1) 1 _ rfl
  have z2 : U.cell? ⟨B, 2, none⟩ = some (.int .i64 val) := by rw [hB]; exact Ext.made_in rfl (by rw [e1]; exact b1) 2 _ rfl
  have z3 : U.cell? ⟨B, 3, none⟩ = some (.int .i64 hi) := by rw [hB]; exact Ext.made_in rfl (by rw [e1]; exact b1) 3 _ rfl
  have z4 : U.cell? ⟨B, 4, none⟩ = some (.int .i64 lim) := by rw [hB]; exact Ext.made_in rfl (by rw [e1]; exact b1) 4 _ rfl
  have HA := Lib.hid (show A5 U (B + 1) by unfold A5; rw [← e1, ← hU]; exact heap_alloc_new _ _)
  have HPO := Lib.hid (HP0.out.below hBU)
  have HBU := Lib.hid hBU
  have HBE := Lib.hid hB
  rw [← hB]
  clear hU b1 e1 hBU hB
  go_wp2_with fail
  refine (rat l _ key U HPO.out.1 (by have := HN.out; omega)).mono ?_; rintro _ w1 ⟨rfl, hb1⟩
  have z0 := Ext.use (Ext.cells z0) hb1; have z1 := Ext.use (Ext.cells z1) hb1; have z2 := Ext.use (Ext.cells z2) hb1; have z3 := Ext.use (Ext.cells z3) hb1; have z4 := Ext.use (Ext.cells z4) hb1
  have HA := Lib.hid (HA.out.below hb1)
  have HPO := Lib.hid (HPO.out.below hb1)
  have HBT := Lib.hid (HBU.out.trans (hb1.mono HBU.out.size))
  obtain ⟨r, hrr⟩ : ∃ r : Nat, r = lbN l key := ⟨_, rfl⟩
  have hrl : r ≤ l.length := by rw [hrr]; exact lbN_le l key
  rw [← hrr]
  have HRR := Lib.hid hrr
  clear hb1 hrr
  cases hh : hereB l key with
  | false =>
    have HPE := Lib.hid (show dropL l key = l from dropL_not hh)
    have HAE := Lib.hid (at_no hh)
    clear hh
    obtain ⟨c0, c1, c2, c3, c4, cf⟩ := HA.out.c
    go_wp2_with fail
    refine bodyPost_ret (v := .tuple #[.slice mp l.length mc, .agg #[.int .i64 4, .int .i64 0, .int .i64 0, .int .i64 0, .slice none 0 0]]) (by simp [results, Tryd.results15, go_sem, c0, c1, c2, c3, c4, World.cell?_setCell_same, World.cell?_setCell_other]) rfl ?_
    rw [HQ.out]
    have hBE := HBE.out
    obtain ⟨k1, n1, o1⟩ := ans5 (w := w) (X := []) HA.out (by omega) (KX.of_below HBT.out) (.int .i64 4) (.int .i64 0) (.int .i64 0) (.int .i64 0) (.slice none 0 0)
    have hfin : Below w.heap.size w _ := ⟨k1.os, k1.tape, k1.output, k1.size, fun k hk => k1.block k hk (by simp)⟩
    rw [HAE.out]
    exact ⟨_, _, rfl, by rw [HPE.out]; exact HPO.out.np n1, PO.nil _, hfin⟩
  | true =>
    have HAE := Lib.hid (idx_at HR.out key hh)
    have HHH := Lib.hid hh
    clear hh
    go_wp2_with fail
    refine (rdropO l _ key w1 HPO.out HR.out (by have := HN.out; omega)).mono ?_; rintro _ w2 ⟨v2, rfl, hp2, hb2⟩
    have HA := Lib.hid (HA.out.below hb2)
    have HPO := Lib.hid (HPO.out.below hb2)
    have HBT := Lib.hid (HBT.out.trans (hb2.mono HBT.out.size))
    have HP2 := Lib.hid hp2
    obtain ⟨p2, cc2, rfl, _, _⟩ := hp2.1.slice
    clear hp2
    clear hb2
    rw [HHH.out]
    go_wp2_with fail
    refine (rfound l _ r w2 HPO.out.1).mono ?_; rintro _ w3 ⟨rfl, hb3⟩
    have HA := Lib.hid (HA.out.below hb3)
    have HP2 := Lib.hid (HP2.out.below hb3)
    have HBT := Lib.hid (HBT.out.trans (hb3.mono HBT.out.size))
    clear hb3
    obtain ⟨an, han⟩ : ∃ an, an = foundA (idxL l r) := ⟨_, rfl⟩
    have HAN := Lib.hid han
    unfold fA
    rw [← han]
    unfold anV
    clear han
    obtain ⟨c0, c1, c2, c3, c4, cf⟩ := HA.out.c
    go_wp2_with fail
    refine bodyPost_ret (v := .tuple #[.slice p2 (dropL l key).length cc2, .agg #[.int .i64 an.kind, .int .i64 an.key, .int .i64 an.val, .int .i64 an.n, .slice none 0 0]]) (by simp [results, Tryd.results15, go_sem, c0, c1, c2, c3, c4, World.cell?_setCell_same, World.cell?_setCell_other]) rfl ?_
    rw [HQ.out]
    have hBE := HBE.out
    obtain ⟨k1, n1, o1⟩ := ans5 (w := w) (X := []) HA.out (by omega) (KX.of_below HBT.out) (.int .i64 an.kind) (.int .i64 an.key) (.int .i64 an.val) (.int .i64 an.n) (.slice none 0 0)
    have hfin : Below w.heap.size w _ := ⟨k1.os, k1.tape, k1.output, k1.size, fun k hk => k1.block k hk (by simp)⟩
    have hps : an.ps = [] := by rw [HAN.out]; exact foundA_ps _
    rw [← HAE.out, ← HRR.out, ← HAN.out]
    exact ⟨_, _, rfl, HP2.out.np n1, by rw [hps]; exact PO.nil _, hfin⟩
set_option maxRecDepth 8000 in
set_option maxHeartbeats 2000000 in
theorem rplain_look {w : World} {l : PL} {mv : Value} (hp : PO w mv l) (hr : riseB l = true) (hn : l.length ≤ 5000) (hrg : ∀ k, k < l.length → -9223372036854775808 ≤ ky l k ∧ ky l k ≤ 9223372036854775807) (key val hi lim : Int) :
    Calls Tryd.prog 15 #[mv, .agg #[.int .i64 2, .int .i64 key, .int .i64 val, .int .i64 hi, .int .i64 lim]] w (PlP w l (foundA (atL l key))) := by
  refine Calls.veil fun Q HQ => ?_
  have HP0 := Lib.hid hp
  have HR := Lib.hid hr
  have HN := Lib.hid hn
  have HRG := Lib.hid hrg
  obtain ⟨mp, mc, rfl, _, _⟩ := hp.1.slice
  have hlen : l.length ≤ 5000 := hn
  clear hp hr hn hrg
  go_enter Tryd.func15, Tryd.ntmps15
  go_upto_region 1 with fail
  generalize hU : World.alloc _ _ = U
  have hBU : Below w.heap.size w U := by rw [← hU]; (repeat (first | exact Below.refl _ _ | assumption | refine below_new ?_ _ | refine Below.drew ?_ | refine below_drewN ?_ _ | refine below_on ?_ (by assumption)))
  obtain ⟨B, hB⟩ : ∃ B, B = w.heap.size := ⟨_, rfl⟩
  have e1 : (w.alloc (.cells #[.int .i64 2, .int .i64 key, .int .i64 val, .int .i64 hi, .int .i64 lim] 38)).heap.size = B + 1 := by rw [hB]; simp
  have b1 : Below (B + 1) (w.alloc (.cells #[.int .i64 2, .int .i64 key, .int .i64 val, .int .i64 hi, .int .i64 lim] 38)) U := by
    rw [← hU, ← e1]; (repeat (first | exact Below.refl _ _ | assumption | refine below_new ?_ _ | refine Below.drew ?_ | refine below_drewN ?_ _ | refine below_on ?_ (by assumption)))
  have z0 : U.cell? ⟨B, 0, none⟩ = some (.int .i64 2) := by rw [hB]; exact Ext.made_in rfl (by rw [e1]; exact b1) 0 _ rfl
  have z1 : U.cell? ⟨B, 1, none⟩ = some (.int .i64 key) := by rw [hB]; exact Ext.made_in rfl (by rw [e1]; exact b1) 1 _ rfl
  have z2 : U.cell? ⟨B, 2, none⟩ = some (.int .i64 val) := by rw [hB]; exact Ext.made_in rfl (by rw [e1]; exact b1) 2 _ rfl
  have z3 : U.cell? ⟨B, 3, none⟩ = some (.int .i64 hi) := by rw [hB]; exact Ext.made_in rfl (by rw [e1]; exact b1) 3 _ rfl
  have z4 : U.cell? ⟨B, 4, none⟩ = some (.int .i64 lim) := by rw [hB]; exact Ext.made_in rfl (by rw [e1]; exact b1) 4 _ rfl
  have HA := Lib.hid (show A5 U (B + 1) by unfold A5; rw [← e1, ← hU]; exact heap_alloc_new _ _)
  have HPO := Lib.hid (HP0.out.below hBU)
  have HBU := Lib.hid hBU
  have HBE := Lib.hid hB
  rw [← hB]
  clear hU b1 e1 hBU hB
  go_wp2_with fail
  refine (rat l _ key U HPO.out.1 (by have := HN.out; omega)).mono ?_; rintro _ w1 ⟨rfl, hb1⟩
  have z0 := Ext.use (Ext.cells z0) hb1; have z1 := Ext.use (Ext.cells z1) hb1; have z2 := Ext.use (Ext.cells z2) hb1; have z3 := Ext.use (Ext.cells z3) hb1; have z4 := Ext.use (Ext.cells z4) hb1
  have HA := Lib.hid (HA.out.below hb1)
  have HPO := Lib.hid (HPO.out.below hb1)
  have HBT := Lib.hid (HBU.out.trans (hb1.mono HBU.out.size))
  obtain ⟨r, hrr⟩ : ∃ r : Nat, r = lbN l key := ⟨_, rfl⟩
  have hrl : r ≤ l.length := by rw [hrr]; exact lbN_le l key
  rw [← hrr]
  have HRR := Lib.hid hrr
  clear hb1 hrr
  cases hh : hereB l key with
  | false =>
    have HAE := Lib.hid (at_no hh)
    clear hh
    obtain ⟨c0, c1, c2, c3, c4, cf⟩ := HA.out.c
    go_wp2_with fail
    refine bodyPost_ret (v := .tuple #[.slice mp l.length mc, .agg #[.int .i64 4, .int .i64 0, .int .i64 0, .int .i64 0, .slice none 0 0]]) (by simp [results, Tryd.results15, go_sem, c0, c1, c2, c3, c4, World.cell?_setCell_same, World.cell?_setCell_other]) rfl ?_
    rw [HQ.out]
    have hBE := HBE.out
    obtain ⟨k1, n1, o1⟩ := ans5 (w := w) (X := []) HA.out (by omega) (KX.of_below HBT.out) (.int .i64 4) (.int .i64 0) (.int .i64 0) (.int .i64 0) (.slice none 0 0)
    have hfin : Below w.heap.size w _ := ⟨k1.os, k1.tape, k1.output, k1.size, fun k hk => k1.block k hk (by simp)⟩
    rw [HAE.out]
    exact ⟨_, _, rfl, HPO.out.np n1, PO.nil _, hfin⟩
  | true =>
    have HAE := Lib.hid (show idxL l r = atL l key by rw [HRR.out]; exact idx_at HR.out key hh)
    clear hh
    go_wp2_with fail
    refine (rfound l _ r w1 HPO.out.1).mono ?_; rintro _ w2 ⟨rfl, hb2⟩
    have HA := Lib.hid (HA.out.below hb2)
    have HPO := Lib.hid (HPO.out.below hb2)
    have HBT := Lib.hid (HBT.out.trans (hb2.mono HBT.out.size))
    clear hb2
    obtain ⟨an, han⟩ : ∃ an, an = foundA (idxL l r) := ⟨_, rfl⟩
    have HAN := Lib.hid han
    unfold fA
    rw [← han]
    unfold anV
    clear han
    obtain ⟨c0, c1, c2, c3, c4, cf⟩ := HA.out.c
    go_wp2_with fail
    refine bodyPost_ret (v := .tuple #[.slice mp l.length mc, .agg #[.int .i64 an.kind, .int .i64 an.key, .int .i64 an.val, .int .i64 an.n, .slice none 0 0]]) (by simp [results, Tryd.results15, go_sem, c0, c1, c2, c3, c4, World.cell?_setCell_same, World.cell?_setCell_other]) rfl ?_
    rw [HQ.out]
    have hBE := HBE.out
    obtain ⟨k1, n1, o1⟩ := ans5 (w := w) (X := []) HA.out (by omega) (KX.of_below HBT.out) (.int .i64 an.kind) (.int .i64 an.key) (.int .i64 an.val) (.int .i64 an.n) (.slice none 0 0)
    have hfin : Below w.heap.size w _ := ⟨k1.os, k1.tape, k1.output, k1.size, fun k hk => k1.block k hk (by simp)⟩
    have hps : an.ps = [] := by rw [HAN.out]; exact foundA_ps _
    rw [← HAE.out, ← HAN.out]
    exact ⟨_, _, rfl, HPO.out.np n1, by rw [hps]; exact PO.nil _, hfin⟩
set_option maxRecDepth 8000 in
set_option maxHeartbeats 2000000 in
theorem rplain_range {w : World} {l : PL} {mv : Value} (hp : PO w mv l) (hr : riseB l = true) (hn : l.length ≤ 5000) (hrg : ∀ k, k < l.length → -9223372036854775808 ≤ ky l k ∧ ky l k ≤ 9223372036854775807) (key val hi lim : Int) :
    Calls Tryd.prog 15 #[mv, .agg #[.int .i64 3, .int .i64 key, .int .i64 val, .int .i64 hi, .int .i64 lim]] w (PlP w l ⟨3, 0, 0, 0, cutL l key hi lim⟩) := by
  refine Calls.veil fun Q HQ => ?_
  have HP0 := Lib.hid hp
  have HR := Lib.hid hr
  have HN := Lib.hid hn
  have HRG := Lib.hid hrg
  obtain ⟨mp, mc, rfl, _, _⟩ := hp.1.slice
  have hlen : l.length ≤ 5000 := hn
  clear hp hr hn hrg
  go_enter Tryd.func15, Tryd.ntmps15
  go_upto_region 1 with fail
  generalize hU : World.alloc _ _ = U
  have hBU : Below w.heap.size w U := by rw [← hU]; (repeat (first | exact Below.refl _ _ | assumption | refine below_new ?_ _ | refine Below.drew ?_ | refine below_drewN ?_ _ | refine below_on ?_ (by assumption)))
  obtain ⟨B, hB⟩ : ∃ B, B = w.heap.size := ⟨_, rfl⟩
  have e1 : (w.alloc (.cells #[.int .i64 3, .int .i64 key, .int .i64 val, .int .i64 hi, .int .i64 lim] 38)).heap.size = B + 1 := by rw [hB]; simp
  have b1 : Below (B + 1) (w.alloc (.cells #[.int .i64 3, .int .i64 key, .int .i64 val, .int .i64 hi, .int .i64 lim] 38)) U := by
    rw [← hU, ← e1]; (repeat (first | exact Below.refl _ _ | assumption | refine below_new ?_ _ | refine Below.drew ?_ | refine below_drewN ?_ _ | refine below_on ?_ (by assumption)))
  have z0 : U.cell? ⟨B, 0, none⟩ = some (.int .i64 3) := by rw [hB]; exact Ext.made_in rfl (by rw [e1]; exact b1) 0 _ rfl
  have z1 : U.cell? ⟨B, 1, none⟩ = some (.int .i64 key) := by rw [hB]; exact Ext.made_in rfl (by rw [e1]; exact b1) 1 _ rfl
  have z2 : U.cell? ⟨B, 2, none⟩ = some (.int .i64 val) := by rw [hB]; exact Ext.made_in rfl (by rw [e1]; exact b1) 2 _ rfl
  have z3 : U.cell? ⟨B, 3, none⟩ = some (.int .i64 hi) := by rw [hB]; exact Ext.made_in rfl (by rw [e1]; exact b1) 3 _ rfl
  have z4 : U.cell? ⟨B, 4, none⟩ = some (.int .i64 lim) := by rw [hB]; exact Ext.made_in rfl (by rw [e1]; exact b1) 4 _ rfl
  have HA := Lib.hid (show A5 U (B + 1) by unfold A5; rw [← e1, ← hU]; exact heap_alloc_new _ _)
  have HPO := Lib.hid (HP0.out.below hBU)
  have HBU := Lib.hid hBU
  have HBE := Lib.hid hB
  rw [← hB]
  clear hU b1 e1 hBU hB
  go_wp2_with fail
  refine (rat l _ key U HPO.out.1 (by have := HN.out; omega)).mono ?_; rintro _ w1 ⟨rfl, hb1⟩
  have z0 := Ext.use (Ext.cells z0) hb1; have z1 := Ext.use (Ext.cells z1) hb1; have z2 := Ext.use (Ext.cells z2) hb1; have z3 := Ext.use (Ext.cells z3) hb1; have z4 := Ext.use (Ext.cells z4) hb1
  have HA := Lib.hid (HA.out.below hb1)
  have HPO := Lib.hid (HPO.out.below hb1)
  have HBT := Lib.hid (HBU.out.trans (hb1.mono HBU.out.size))
  obtain ⟨r, hrr⟩ : ∃ r : Nat, r = lbN l key := ⟨_, rfl⟩
  have hrl : r ≤ l.length := by rw [hrr]; exact lbN_le l key
  rw [← hrr]
  have HRR := Lib.hid hrr
  clear hb1 hrr
  generalize hereB l key = hb
  go_wp2_with fail
  refine (rcutO l _ key hi lim w1 HPO.out.1 (by have := HN.out; omega)).mono ?_; rintro _ w2 ⟨v2, rfl, hp2, hb2⟩
  have HA := Lib.hid (HA.out.below hb2)
  have HPO := Lib.hid (HPO.out.below hb2)
  have HBT := Lib.hid (HBT.out.trans (hb2.mono HBT.out.size))
  have HP2 := Lib.hid hp2
  obtain ⟨p2, cc2, rfl, _, _⟩ := hp2.1.slice
  clear hp2
  clear hb2
  obtain ⟨c0, c1, c2, c3, c4, cf⟩ := HA.out.c
  go_wp2_with fail
  refine bodyPost_ret (v := .tuple #[.slice mp l.length mc, .agg #[.int .i64 3, .int .i64 0, .int .i64 0, .int .i64 0, .slice p2 (cutL l key hi lim).length cc2]]) (by simp [results, Tryd.results15, go_sem, c0, c1, c2, c3, c4, World.cell?_setCell_same, World.cell?_setCell_other]) rfl ?_
  rw [HQ.out]
  have hBE := HBE.out
  obtain ⟨k1, n1, o1⟩ := ans5 (w := w) (X := []) HA.out (by omega) (KX.of_below HBT.out) (.int .i64 3) (.int .i64 0) (.int .i64 0) (.int .i64 0) (.slice p2 (cutL l key hi lim).length cc2)
  have hfin : Below w.heap.size w _ := ⟨k1.os, k1.tape, k1.output, k1.size, fun k hk => k1.block k hk (by simp)⟩
  exact ⟨_, _, rfl, HPO.out.np n1, HP2.out.np n1, hfin⟩
set_option maxRecDepth 8000 in
set_option maxHeartbeats 2000000 in
theorem rplain_count {w : World} {l : PL} {mv : Value} (hp : PO w mv l) (hr : riseB l = true) (hn : l.length ≤ 5000) (hrg : ∀ k, k < l.length → -9223372036854775808 ≤ ky l k ∧ ky l k ≤ 9223372036854775807) (key val hi lim : Int) :
    Calls Tryd.prog 15 #[mv, .agg #[.int .i64 4, .int .i64 key, .int .i64 val, .int .i64 hi, .int .i64 lim]] w (PlP w l ⟨2, 0, 0, ((cutL l key hi 9223372036854775807).length : Nat), []⟩) := by
  refine Calls.veil fun Q HQ => ?_
  have HP0 := Lib.hid hp
  have HR := Lib.hid hr
  have HN := Lib.hid hn
  have HRG := Lib.hid hrg
  obtain ⟨mp, mc, rfl, _, _⟩ := hp.1.slice
  have hlen : l.length ≤ 5000 := hn
  clear hp hr hn hrg
  go_enter Tryd.func15, Tryd.ntmps15
  go_upto_region 1 with fail
  generalize hU : World.alloc _ _ = U
  have hBU : Below w.heap.size w U := by rw [← hU]; (repeat (first | exact Below.refl _ _ | assumption | refine below_new ?_ _ | refine Below.drew ?_ | refine below_drewN ?_ _ | refine below_on ?_ (by assumption)))
  obtain ⟨B, hB⟩ : ∃ B, B = w.heap.size := ⟨_, rfl⟩
  have e1 : (w.alloc (.cells #[.int .i64 4, .int .i64 key, .int .i64 val, .int .i64 hi, .int .i64 lim] 38)).heap.size = B + 1 := by rw [hB]; simp
  have b1 : Below (B + 1) (w.alloc (.cells #[.int .i64 4, .int .i64 key, .int .i64 val, .int .i64 hi, .int .i64 lim] 38)) U := by
    rw [← hU, ← e1]; (repeat (first | exact Below.refl _ _ | assumption | refine below_new ?_ _ | refine Below.drew ?_ | refine below_drewN ?_ _ | refine below_on ?_ (by assumption)))
  have z0 : U.cell? ⟨B, 0, none⟩ = some (.int .i64 4) := by rw [hB]; exact Ext.made_in rfl (by rw [e1]; exact b1) 0 _ rfl
  have z1 : U.cell? ⟨B, 1, none⟩ = some (.int .i64 key) := by rw [hB]; exact Ext.made_in rfl (by rw [e1]; exact b1) 1 _ rfl
  have z2 : U.cell? ⟨B, 2, none⟩ = some (.int .i64 val) := by rw [hB]; exact Ext.made_in rfl (by rw [e1]; exact b1) 2 _ rfl
  have z3 : U.cell? ⟨B, 3, none⟩ = some (.int .i64 hi) := by rw [hB]; exact Ext.made_in rfl (by rw [e1]; exact b1) 3 _ rfl
  have z4 : U.cell? ⟨B, 4, none⟩ = some (.int .i64 lim) := by rw [hB]; exact Ext.made_in rfl (by rw [e1]; exact b1) 4 _ rfl
  have HA := Lib.hid (show A5 U (B + 1) by unfold A5; rw [← e1, ← hU]; exact heap_alloc_new _ _)
  have HPO := Lib.hid (HP0.out.below hBU)
  have HBU := Lib.hid hBU
  have HBE := Lib.hid hB
  rw [← hB]
  clear hU b1 e1 hBU hB
  go_wp2_with fail
  refine (rat l _ key U HPO.out.1 (by have := HN.out; omega)).mono ?_; rintro _ w1 ⟨rfl, hb1⟩
  have z0 := Ext.use (Ext.cells z0) hb1; have z1 := Ext.use (Ext.cells z1) hb1; have z2 := Ext.use (Ext.cells z2) hb1; have z3 := Ext.use (Ext.cells z3) hb1; have z4 := Ext.use (Ext.cells z4) hb1
  have HA := Lib.hid (HA.out.below hb1)
  have HPO := Lib.hid (HPO.out.below hb1)
  have HBT := Lib.hid (HBU.out.trans (hb1.mono HBU.out.size))
  obtain ⟨r, hrr⟩ : ∃ r : Nat, r = lbN l key := ⟨_, rfl⟩
  have hrl : r ≤ l.length := by rw [hrr]; exact lbN_le l key
  rw [← hrr]
  have HRR := Lib.hid hrr
  clear hb1 hrr
  generalize hereB l key = hb
  go_wp2_with fail
  refine (rcutO l _ key hi (l.length : Nat) w1 HPO.out.1 (by have := HN.out; omega)).mono ?_; rintro _ w2 ⟨v2, rfl, hp2, hb2⟩
  have HA := Lib.hid (HA.out.below hb2)
  have HPO := Lib.hid (HPO.out.below hb2)
  have HBT := Lib.hid (HBT.out.trans (hb2.mono HBT.out.size))
  have HP2 := Lib.hid hp2
  obtain ⟨p2, cc2, rfl, _, _⟩ := hp2.1.slice
  clear hp2
  clear hb2
  rw [cut_count l key hi (by have := HN.out; omega)] at HP2 ⊢
  obtain ⟨c0, c1, c2, c3, c4, cf⟩ := HA.out.c
  go_wp2_with fail
  refine bodyPost_ret (v := .tuple #[.slice mp l.length mc, .agg #[.int .i64 2, .int .i64 0, .int .i64 0, .int .i64 ((cutL l key hi 9223372036854775807).length : Nat), .slice none 0 0]]) (by simp [results, Tryd.results15, go_sem, c0, c1, c2, c3, c4, World.cell?_setCell_same, World.cell?_setCell_other]) rfl ?_
  rw [HQ.out]
  have hBE := HBE.out
  obtain ⟨k1, n1, o1⟩ := ans5 (w := w) (X := []) HA.out (by omega) (KX.of_below HBT.out) (.int .i64 2) (.int .i64 0) (.int .i64 0) (.int .i64 ((cutL l key hi 9223372036854775807).length : Nat)) (.slice none 0 0)
  have hfin : Below w.heap.size w _ := ⟨k1.os, k1.tape, k1.output, k1.size, fun k hk => k1.block k hk (by simp)⟩
  exact ⟨_, _, rfl, HPO.out.np n1, PO.nil _, hfin⟩
set_option maxRecDepth 8000 in
set_option maxHeartbeats 2000000 in
theorem rplain_min {w : World} {l : PL} {mv : Value} (hp : PO w mv l) (hr : riseB l = true) (hn : l.length ≤ 5000) (hrg : ∀ k, k < l.length → -9223372036854775808 ≤ ky l k ∧ ky l k ≤ 9223372036854775807) (key val hi lim : Int) :
    Calls Tryd.prog 15 #[mv, .agg #[.int .i64 5, .int .i64 key, .int .i64 val, .int .i64 hi, .int .i64 lim]] w (PlP w l (foundA (ceilL l (-9223372036854775808)))) := by
  refine Calls.veil fun Q HQ => ?_
  have HP0 := Lib.hid hp
  have HR := Lib.hid hr
  have HN := Lib.hid hn
  have HRG := Lib.hid hrg
  obtain ⟨mp, mc, rfl, _, _⟩ := hp.1.slice
  have hlen : l.length ≤ 5000 := hn
  clear hp hr hn hrg
  go_enter Tryd.func15, Tryd.ntmps15
  go_upto_region 1 with fail
  generalize hU : World.alloc _ _ = U
  have hBU : Below w.heap.size w U := by rw [← hU]; (repeat (first | exact Below.refl _ _ | assumption | refine below_new ?_ _ | refine Below.drew ?_ | refine below_drewN ?_ _ | refine below_on ?_ (by assumption)))
  obtain ⟨B, hB⟩ : ∃ B, B = w.heap.size := ⟨_, rfl⟩
  have e1 : (w.alloc (.cells #[.int .i64 5, .int .i64 key, .int .i64 val, .int .i64 hi, .int .i64 lim] 38)).heap.size = B + 1 := by rw [hB]; simp
  have b1 : Below (B + 1) (w.alloc (.cells #[.int .i64 5, .int .i64 key, .int .i64 val, .int .i64 hi, .int .i64 lim] 38)) U := by
    rw [← hU, ← e1]; (repeat (first | exact Below.refl _ _ | assumption | refine below_new ?_ _ | refine Below.drew ?_ | refine below_drewN ?_ _ | refine below_on ?_ (by assumption)))
  have z0 : U.cell? ⟨B, 0, none⟩ = some (.int .i64 5) := by rw [hB]; exact Ext.made_in rfl (by rw [e1]; exact b1) 0 _ rfl
  have z1 : U.cell? ⟨B, 1, none⟩ = some (.int .i64 key) := by rw [hB]; exact Ext.made_in rfl (by rw [e1]; exact b1) 1 _ rfl
  have z2 : U.cell? ⟨B, 2, none⟩ = some (.int .i64 val) := by rw [hB]; exact Ext.made_in rfl (by rw [e1]; exact b1) 2 _ rfl
  have z3 : U.cell? ⟨B, 3, none⟩ = some (.int .i64 hi) := by rw [hB]; exact Ext.made_in rfl (by rw [e1]; exact b1) 3 _ rfl
  have z4 : U.cell? ⟨B, 4, none⟩ = some (.int .i64 lim) := by rw [hB]; exact Ext.made_in rfl (by rw [e1]; exact b1) 4 _ rfl
  have HA := Lib.hid (show A5 U (B + 1) by unfold A5; rw [← e1, ← hU]; exact heap_alloc_new _ _)
  have HPO := Lib.hid (HP0.out.below hBU)
  have HBU := Lib.hid hBU
  have HBE := Lib.hid hB
  rw [← hB]
  clear hU b1 e1 hBU hB
  go_wp2_with fail
  refine (rat l _ key U HPO.out.1 (by have := HN.out; omega)).mono ?_; rintro _ w1 ⟨rfl, hb1⟩
  have z0 := Ext.use (Ext.cells z0) hb1; have z1 := Ext.use (Ext.cells z1) hb1; have z2 := Ext.use (Ext.cells z2) hb1; have z3 := Ext.use (Ext.cells z3) hb1; have z4 := Ext.use (Ext.cells z4) hb1
  have HA := Lib.hid (HA.out.below hb1)
  have HPO := Lib.hid (HPO.out.below hb1)
  have HBT := Lib.hid (HBU.out.trans (hb1.mono HBU.out.size))
  obtain ⟨r, hrr⟩ : ∃ r : Nat, r = lbN l key := ⟨_, rfl⟩
  have hrl : r ≤ l.length := by rw [hrr]; exact lbN_le l key
  rw [← hrr]
  have HRR := Lib.hid hrr
  clear hb1 hrr
  generalize hereB l key = hb
  have HAE := Lib.hid (idx_min (l := l) fun k hk => (HRG.out k hk).1)
  go_wp2_with fail
  refine (rfound l _ 0 w1 HPO.out.1).mono ?_; rintro _ w2 ⟨rfl, hb2⟩
  have HA := Lib.hid (HA.out.below hb2)
  have HPO := Lib.hid (HPO.out.below hb2)
  have HBT := Lib.hid (HBT.out.trans (hb2.mono HBT.out.size))
  clear hb2
  obtain ⟨an, han⟩ : ∃ an, an = foundA (idxL l 0) := ⟨_, rfl⟩
  have HAN := Lib.hid han
  unfold fA
  rw [← han]
  unfold anV
  clear han
  obtain ⟨c0, c1, c2, c3, c4, cf⟩ := HA.out.c
  go_wp2_with fail
  refine bodyPost_ret (v := .tuple #[.slice mp l.length mc, .agg #[.int .i64 an.kind, .int .i64 an.key, .int .i64 an.val, .int .i64 an.n, .slice none 0 0]]) (by simp [results, Tryd.results15, go_sem, c0, c1, c2, c3, c4, World.cell?_setCell_same, World.cell?_setCell_other]) rfl ?_
  rw [HQ.out]
  have hBE := HBE.out
  obtain ⟨k1, n1, o1⟩ := ans5 (w := w) (X := []) HA.out (by omega) (KX.of_below HBT.out) (.int .i64 an.kind) (.int .i64 an.key) (.int .i64 an.val) (.int .i64 an.n) (.slice none 0 0)
  have hfin : Below w.heap.size w _ := ⟨k1.os, k1.tape, k1.output, k1.size, fun k hk => k1.block k hk (by simp)⟩
  have hps : an.ps = [] := by rw [HAN.out]; exact foundA_ps _
  rw [← HAE.out, ← HAN.out]
  exact ⟨_, _, rfl, HPO.out.np n1, by rw [hps]; exact PO.nil _, hfin⟩
set_option maxRecDepth 8000 in
set_option maxHeartbeats 2000000 in
theorem rplain_max {w : World} {l : PL} {mv : Value} (hp : PO w mv l) (hr : riseB l = true) (hn : l.length ≤ 5000) (hrg : ∀ k, k < l.length → -9223372036854775808 ≤ ky l k ∧ ky l k ≤ 9223372036854775807) (key val hi lim : Int) :
    Calls Tryd.prog 15 #[mv, .agg #[.int .i64 6, .int .i64 key, .int .i64 val, .int .i64 hi, .int .i64 lim]] w (PlP w l (foundA (floorL l 9223372036854775807))) := by
  refine Calls.veil fun Q HQ => ?_
  have HP0 := Lib.hid hp
  have HR := Lib.hid hr
  have HN := Lib.hid hn
  have HRG := Lib.hid hrg
  obtain ⟨mp, mc, rfl, _, _⟩ := hp.1.slice
  have hlen : l.length ≤ 5000 := hn
  clear hp hr hn hrg
  go_enter Tryd.func15, Tryd.ntmps15
  go_upto_region 1 with fail
  generalize hU : World.alloc _ _ = U
  have hBU : Below w.heap.size w U := by rw [← hU]; (repeat (first | exact Below.refl _ _ | assumption | refine below_new ?_ _ | refine Below.drew ?_ | refine below_drewN ?_ _ | refine below_on ?_ (by assumption)))
  obtain ⟨B, hB⟩ : ∃ B, B = w.heap.size := ⟨_, rfl⟩
  have e1 : (w.alloc (.cells #[.int .i64 6, .int .i64 key, .int .i64 val, .int .i64 hi, .int .i64 lim] 38)).heap.size = B + 1 := by rw [hB]; simp
  have b1 : Below (B + 1) (w.alloc (.cells #[.int .i64 6, .int .i64 key, .int .i64 val, .int .i64 hi, .int .i64 lim] 38)) U := by
    rw [← hU, ← e1]; (repeat (first | exact Below.refl _ _ | assumption | refine below_new ?_ _ | refine Below.drew ?_ | refine below_drewN ?_ _ | refine below_on ?_ (by assumption)))
  have z0 : U.cell? ⟨B, 0, none⟩ = some (.int .i64 6) := by rw [hB]; exact Ext.made_in rfl (by rw [e1]; exact b1) 0 _ rfl
  have z1 : U.cell? ⟨B, 1, none⟩ = some (.int .i64 key) := by rw [hB]; exact Ext.made_in rfl (by rw [e1]; exact b1) 1 _ rfl
  have z2 : U.cell? ⟨B, 2, none⟩ = some (.int .i64 val) := by rw [hB]; exact Ext.made_in rfl (by rw [e1]; exact b1) 2 _ rfl
  have z3 : U.cell? ⟨B, 3, none⟩ = some (.int .i64 hi) := by rw [hB]; exact Ext.made_in rfl (by rw [e1]; exact b1) 3 _ rfl
  have z4 : U.cell? ⟨B, 4, none⟩ = some (.int .i64 lim) := by rw [hB]; exact Ext.made_in rfl (by rw [e1]; exact b1) 4 _ rfl
  have HA := Lib.hid (show A5 U (B + 1) by unfold A5; rw [← e1, ← hU]; exact heap_alloc_new _ _)
  have HPO := Lib.hid (HP0.out.below hBU)
  have HBU := Lib.hid hBU
  have HBE := Lib.hid hB
  rw [← hB]
  clear hU b1 e1 hBU hB
  go_wp2_with fail
  refine (rat l _ key U HPO.out.1 (by have := HN.out; omega)).mono ?_; rintro _ w1 ⟨rfl, hb1⟩
  have z0 := Ext.use (Ext.cells z0) hb1; have z1 := Ext.use (Ext.cells z1) hb1; have z2 := Ext.use (Ext.cells z2) hb1; have z3 := Ext.use (Ext.cells z3) hb1; have z4 := Ext.use (Ext.cells z4) hb1
  have HA := Lib.hid (HA.out.below hb1)
  have HPO := Lib.hid (HPO.out.below hb1)
  have HBT := Lib.hid (HBU.out.trans (hb1.mono HBU.out.size))
  obtain ⟨r, hrr⟩ : ∃ r : Nat, r = lbN l key := ⟨_, rfl⟩
  have hrl : r ≤ l.length := by rw [hrr]; exact lbN_le l key
  rw [← hrr]
  have HRR := Lib.hid hrr
  clear hb1 hrr
  generalize hereB l key = hb
  have HAE := Lib.hid (idx_max (l := l) fun k hk => (HRG.out k hk).2)
  go_wp2_with fail
  refine (rfound l _ ((l.length : Nat) - 1) w1 HPO.out.1).mono ?_; rintro _ w2 ⟨rfl, hb2⟩
  have HA := Lib.hid (HA.out.below hb2)
  have HPO := Lib.hid (HPO.out.below hb2)
  have HBT := Lib.hid (HBT.out.trans (hb2.mono HBT.out.size))
  clear hb2
  obtain ⟨an, han⟩ : ∃ an, an = foundA (idxL l ((l.length : Nat) - 1)) := ⟨_, rfl⟩
  have HAN := Lib.hid han
  unfold fA
  rw [← han]
  unfold anV
  clear han
  obtain ⟨c0, c1, c2, c3, c4, cf⟩ := HA.out.c
  go_wp2_with fail
  refine bodyPost_ret (v := .tuple #[.slice mp l.length mc, .agg #[.int .i64 an.kind, .int .i64 an.key, .int .i64 an.val, .int .i64 an.n, .slice none 0 0]]) (by simp [results, Tryd.results15, go_sem, c0, c1, c2, c3, c4, World.cell?_setCell_same, World.cell?_setCell_other]) rfl ?_
  rw [HQ.out]
  have hBE := HBE.out
  obtain ⟨k1, n1, o1⟩ := ans5 (w := w) (X := []) HA.out (by omega) (KX.of_below HBT.out) (.int .i64 an.kind) (.int .i64 an.key) (.int .i64 an.val) (.int .i64 an.n) (.slice none 0 0)
  have hfin : Below w.heap.size w _ := ⟨k1.os, k1.tape, k1.output, k1.size, fun k hk => k1.block k hk (by simp)⟩
  have hps : an.ps = [] := by rw [HAN.out]; exact foundA_ps _
  rw [← HAE.out, ← HAN.out]
  exact ⟨_, _, rfl, HPO.out.np n1, by rw [hps]; exact PO.nil _, hfin⟩
set_option maxRecDepth 8000 in
set_option maxHeartbeats 2000000 in
theorem rplain_floor {w : World} {l : PL} {mv : Value} (hp : PO w mv l) (hr : riseB l = true) (hn : l.length ≤ 5000) (hrg : ∀ k, k < l.length → -9223372036854775808 ≤ ky l k ∧ ky l k ≤ 9223372036854775807) (key val hi lim : Int) :
    Calls Tryd.prog 15 #[mv, .agg #[.int .i64 7, .int .i64 key, .int .i64 val, .int .i64 hi, .int .i64 lim]] w (PlP w l (foundA (floorL l key))) := by
  refine Calls.veil fun Q HQ => ?_
  have HP0 := Lib.hid hp
  have HR := Lib.hid hr
  have HN := Lib.hid hn
  have HRG := Lib.hid hrg
  obtain ⟨mp, mc, rfl, _, _⟩ := hp.1.slice
  have hlen : l.length ≤ 5000 := hn
  clear hp hr hn hrg
  go_enter Tryd.func15, Tryd.ntmps15
  go_upto_region 1 with fail
  generalize hU : World.alloc _ _ = U
  have hBU : Below w.heap.size w U := by rw [← hU]; (repeat (first | exact Below.refl _ _ | assumption | refine below_new ?_ _ | refine Below.drew ?_ | refine below_drewN ?_ _ | refine below_on ?_ (by assumption)))
  obtain ⟨B, hB⟩ : ∃ B, B = w.heap.size := ⟨_, rfl⟩
  have e1 : (w.alloc (.cells #[.int .i64 7, .int .i64 key, .int .i64 val, .int .i64 hi, .int .i64 lim] 38)).heap.size = B + 1 := by rw [hB]; simp
  have b1 : Below (B + 1) (w.alloc (.cells #[.int .i64 7, .int .i64 key, .int .i64 val, .int .i64 hi, .int .i64 lim] 38)) U := by
    rw [← hU, ← e1]; (repeat (first | exact Below.refl _ _ | assumption | refine below_new ?_ _ | refine Below.drew ?_ | refine below_drewN ?_ _ | refine below_on ?_ (by assumption)))
  have z0 : U.cell? ⟨B, 0, none⟩ = some (.int .i64 7) := by rw [hB]; exact Ext.made_in rfl (by rw [e1]; exact b1) 0 _ rfl
  have z1 : U.cell? ⟨B, 1, none⟩ = some (.int .i64 key) := by rw [hB]; exact Ext.made_in rfl (by rw [e1]; exact b1) 1 _ rfl
  have z2 : U.cell? ⟨B, 2, none⟩ = some (.int .i64 val) := by rw [hB]; exact Ext.made_in rfl (by rw [e1]; exact b1) 2 _ rfl
  have z3 : U.cell? ⟨B, 3, none⟩ = some (.int .i64 hi) := by rw [hB]; exact Ext.made_in rfl (by rw [e1]; exact b1) 3 _ rfl
  have z4 : U.cell? ⟨B, 4, none⟩ = some (.int .i64 lim) := by rw [hB]; exact Ext.made_in rfl (by rw [e1]; exact b1) 4 _ rfl
  have HA := Lib.hid (show A5 U (B + 1) by unfold A5; rw [← e1, ← hU]; exact heap_alloc_new _ _)
  have HPO := Lib.hid (HP0.out.below hBU)
  have HBU := Lib.hid hBU
  have HBE := Lib.hid hB
  rw [← hB]
  clear hU b1 e1 hBU hB
  go_wp2_with fail
  refine (rat l _ key U HPO.out.1 (by have := HN.out; omega)).mono ?_; rintro _ w1 ⟨rfl, hb1⟩
  have z0 := Ext.use (Ext.cells z0) hb1; have z1 := Ext.use (Ext.cells z1) hb1; have z2 := Ext.use (Ext.cells z2) hb1; have z3 := Ext.use (Ext.cells z3) hb1; have z4 := Ext.use (Ext.cells z4) hb1
  have HA := Lib.hid (HA.out.below hb1)
  have HPO := Lib.hid (HPO.out.below hb1)
  have HBT := Lib.hid (HBU.out.trans (hb1.mono HBU.out.size))
  obtain ⟨r, hrr⟩ : ∃ r : Nat, r = lbN l key := ⟨_, rfl⟩
  have hrl : r ≤ l.length := by rw [hrr]; exact lbN_le l key
  rw [← hrr]
  have HRR := Lib.hid hrr
  clear hb1 hrr
  cases hh : hereB l key with
  | true =>
    have HAE := Lib.hid (show idxL l r = floorL l key by rw [HRR.out]; exact idx_floor HR.out key hh)
    clear hh
    go_wp2_with fail
    refine (rfound l _ r w1 HPO.out.1).mono ?_; rintro _ w2 ⟨rfl, hb2⟩
    have HA := Lib.hid (HA.out.below hb2)
    have HPO := Lib.hid (HPO.out.below hb2)
    have HBT := Lib.hid (HBT.out.trans (hb2.mono HBT.out.size))
    clear hb2
    obtain ⟨an, han⟩ : ∃ an, an = foundA (idxL l r) := ⟨_, rfl⟩
    have HAN := Lib.hid han
    unfold fA
    rw [← han]
    unfold anV
    clear han
    obtain ⟨c0, c1, c2, c3, c4, cf⟩ := HA.out.c
    go_wp2_with fail
    refine bodyPost_ret (v := .tuple #[.slice mp l.length mc, .agg #[.int .i64 an.kind, .int .i64 an.key, .int .i64 an.val, .int .i64 an.n, .slice none 0 0]]) (by simp [results, Tryd.results15, go_sem, c0, c1, c2, c3, c4, World.cell?_setCell_same, World.cell?_setCell_other]) rfl ?_
    rw [HQ.out]
    have hBE := HBE.out
    obtain ⟨k1, n1, o1⟩ := ans5 (w := w) (X := []) HA.out (by omega) (KX.of_below HBT.out) (.int .i64 an.kind) (.int .i64 an.key) (.int .i64 an.val) (.int .i64 an.n) (.slice none 0 0)
    have hfin : Below w.heap.size w _ := ⟨k1.os, k1.tape, k1.output, k1.size, fun k hk => k1.block k hk (by simp)⟩
    have hps : an.ps = [] := by rw [HAN.out]; exact foundA_ps _
    rw [← HAE.out, ← HAN.out]
    exact ⟨_, _, rfl, HPO.out.np n1, by rw [hps]; exact PO.nil _, hfin⟩
  | false =>
    have HAE := Lib.hid (show idxL l ((r : Nat) - 1) = floorL l key by rw [HRR.out]; exact idx_floor1 HR.out key hh)
    clear hh
    go_wp2_with fail
    refine (rfound l _ ((r : Nat) - 1) w1 HPO.out.1).mono ?_; rintro _ w2 ⟨rfl, hb2⟩
    have HA := Lib.hid (HA.out.below hb2)
    have HPO := Lib.hid (HPO.out.below hb2)
    have HBT := Lib.hid (HBT.out.trans (hb2.mono HBT.out.size))
    clear hb2
    obtain ⟨an, han⟩ : ∃ an, an = foundA (idxL l ((r : Nat) - 1)) := ⟨_, rfl⟩
    have HAN := Lib.hid han
    unfold fA
    rw [← han]
    unfold anV
    clear han
    obtain ⟨c0, c1, c2, c3, c4, cf⟩ := HA.out.c
    go_wp2_with fail
    refine bodyPost_ret (v := .tuple #[.slice mp l.length mc, .agg #[.int .i64 an.kind, .int .i64 an.key, .int .i64 an.val, .int .i64 an.n, .slice none 0 0]]) (by simp [results, Tryd.results15, go_sem, c0, c1, c2, c3, c4, World.cell?_setCell_same, World.cell?_setCell_other]) rfl ?_
    rw [HQ.out]
    have hBE := HBE.out
    obtain ⟨k1, n1, o1⟩ := ans5 (w := w) (X := []) HA.out (by omega) (KX.of_below HBT.out) (.int .i64 an.kind) (.int .i64 an.key) (.int .i64 an.val) (.int .i64 an.n) (.slice none 0 0)
    have hfin : Below w.heap.size w _ := ⟨k1.os, k1.tape, k1.output, k1.size, fun k hk => k1.block k hk (by simp)⟩
    have hps : an.ps = [] := by rw [HAN.out]; exact foundA_ps _
    rw [← HAE.out, ← HAN.out]
    exact ⟨_, _, rfl, HPO.out.np n1, by rw [hps]; exact PO.nil _, hfin⟩
set_option maxRecDepth 8000 in
set_option maxHeartbeats 2000000 in
theorem rplain_ceil {w : World} {l : PL} {mv : Value} (hp : PO w mv l) (hr : riseB l = true) (hn : l.length ≤ 5000) (hrg : ∀ k, k < l.length → -9223372036854775808 ≤ ky l k ∧ ky l k ≤ 9223372036854775807) (key val hi lim : Int) :
    Calls Tryd.prog 15 #[mv, .agg #[.int .i64 8, .int .i64 key, .int .i64 val, .int .i64 hi, .int .i64 lim]] w (PlP w l (foundA (ceilL l key))) := by
  refine Calls.veil fun Q HQ => ?_
  have HP0 := Lib.hid hp
  have HR := Lib.hid hr
  have HN := Lib.hid hn
  have HRG := Lib.hid hrg
  obtain ⟨mp, mc, rfl, _, _⟩ := hp.1.slice
  have hlen : l.length ≤ 5000 := hn
  clear hp hr hn hrg
  go_enter Tryd.func15, Tryd.ntmps15
  go_upto_region 1 with fail
  generalize hU : World.alloc _ _ = U
  have hBU : Below w.heap.size w U := by rw [← hU]; (repeat (first | exact Below.refl _ _ | assumption | refine below_new ?_ _ | refine Below.drew ?_ | refine below_drewN ?_ _ | refine below_on ?_ (by assumption)))
  obtain ⟨B, hB⟩ : ∃ B, B = w.heap.size := ⟨_, rfl⟩
  have e1 : (w.alloc (.cells #[.int .i64 8, .int .i64 key, .int .i64 val, .int .i64 hi, .int .i64 lim] 38)).heap.size = B + 1 := by rw [hB]; simp
  have b1 : Below (B + 1) (w.alloc (.cells #[.int .i64 8, .int .i64 key, .int .i64 val, .int .i64 hi, .int .i64 lim] 38)) U := by
    rw [← hU, ← e1]; (repeat (first | exact Below.refl _ _ | assumption | refine below_new ?_ _ | refine Below.drew ?_ | refine below_drewN ?_ _ | refine below_on ?_ (by assumption)))
  have z0 : U.cell? ⟨B, 0, none⟩ = some (.int .i64 8) := by rw [hB]; exact Ext.made_in rfl (by rw [e1]; exact b1) 0 _ rfl
  have z1 : U.cell? ⟨B, 1, none⟩ = some (.int .i64 key) := by rw [hB]; exact Ext.made_in rfl (by rw [e1]; exact b1) 1 _ rfl
  have z2 : U.cell? ⟨B, 2, none⟩ = some (.int .i64 val) := by rw [hB]; exact Ext.made_in rfl (by rw [e1]; exact b1) 2 _ rfl
  have z3 : U.cell? ⟨B, 3, none⟩ = some (.int .i64 hi) := by rw [hB]; exact Ext.made_in rfl (by rw [e1]; exact b1) 3 _ rfl
  have z4 : U.cell? ⟨B, 4, none⟩ = some (.int .i64 lim) := by rw [hB]; exact Ext.made_in rfl (by rw [e1]; exact b1) 4 _ rfl
  have HA := Lib.hid (show A5 U (B + 1) by unfold A5; rw [← e1, ← hU]; exact heap_alloc_new _ _)
  have HPO := Lib.hid (HP0.out.below hBU)
  have HBU := Lib.hid hBU
  have HBE := Lib.hid hB
  rw [← hB]
  clear hU b1 e1 hBU hB
  go_wp2_with fail
  refine (rat l _ key U HPO.out.1 (by have := HN.out; omega)).mono ?_; rintro _ w1 ⟨rfl, hb1⟩
  have z0 := Ext.use (Ext.cells z0) hb1; have z1 := Ext.use (Ext.cells z1) hb1; have z2 := Ext.use (Ext.cells z2) hb1; have z3 := Ext.use (Ext.cells z3) hb1; have z4 := Ext.use (Ext.cells z4) hb1
  have HA := Lib.hid (HA.out.below hb1)
  have HPO := Lib.hid (HPO.out.below hb1)
  have HBT := Lib.hid (HBU.out.trans (hb1.mono HBU.out.size))
  obtain ⟨r, hrr⟩ : ∃ r : Nat, r = lbN l key := ⟨_, rfl⟩
  have hrl : r ≤ l.length := by rw [hrr]; exact lbN_le l key
  rw [← hrr]
  have HRR := Lib.hid hrr
  clear hb1 hrr
  generalize hereB l key = hb
  have HAE := Lib.hid (show idxL l r = ceilL l key by rw [HRR.out]; exact idx_ceil HR.out key)
  go_wp2_with fail
  refine (rfound l _ r w1 HPO.out.1).mono ?_; rintro _ w2 ⟨rfl, hb2⟩
  have HA := Lib.hid (HA.out.below hb2)
  have HPO := Lib.hid (HPO.out.below hb2)
  have HBT := Lib.hid (HBT.out.trans (hb2.mono HBT.out.size))
  clear hb2
  obtain ⟨an, han⟩ : ∃ an, an = foundA (idxL l r) := ⟨_, rfl⟩
  have HAN := Lib.hid han
  unfold fA
  rw [← han]
  unfold anV
  clear han
  obtain ⟨c0, c1, c2, c3, c4, cf⟩ := HA.out.c
  go_wp2_with fail
  refine bodyPost_ret (v := .tuple #[.slice mp l.length mc, .agg #[.int .i64 an.kind, .int .i64 an.key, .int .i64 an.val, .int .i64 an.n, .slice none 0 0]]) (by simp [results, Tryd.results15, go_sem, c0, c1, c2, c3, c4, World.cell?_setCell_same, World.cell?_setCell_other]) rfl ?_
  rw [HQ.out]
  have hBE := HBE.out
  obtain ⟨k1, n1, o1⟩ := ans5 (w := w) (X := []) HA.out (by omega) (KX.of_below HBT.out) (.int .i64 an.kind) (.int .i64 an.key) (.int .i64 an.val) (.int .i64 an.n) (.slice none 0 0)
  have hfin : Below w.heap.size w _ := ⟨k1.os, k1.tape, k1.output, k1.size, fun k hk => k1.block k hk (by simp)⟩
  have hps : an.ps = [] := by rw [HAN.out]; exact foundA_ps _
  rw [← HAE.out, ← HAN.out]
  exact ⟨_, _, rfl, HPO.out.np n1, by rw [hps]; exact PO.nil _, hfin⟩
theorem rplain {w : World} {l : PL} {mv : Value} (hp : PO w mv l) (hr : riseB l = true) (hn : l.length ≤ 5000) (hrg : ∀ k, k < l.length → -9223372036854775808 ≤ ky l k ∧ ky l k ≤ 9223372036854775807) (c : Ca) (h0 : 0 ≤ c.op) (h1 : c.op < 9) :
    Calls Tryd.prog 15 #[mv, caV c] w (PlP w (plA l c).1 (plA l c).2) := by
  obtain ⟨op, key, val, hi, lim⟩ := c
  simp only at h0 h1
  rcases (by omega : op = 0 ∨ op = 1 ∨ op = 2 ∨ op = 3 ∨ op = 4 ∨ op = 5 ∨ op = 6 ∨ op = 7 ∨ op = 8) with rfl | rfl | rfl | rfl | rfl | rfl | rfl | rfl | rfl
  · exact rplain_put hp hr hn hrg key val hi lim
  · exact rplain_drop hp hr hn hrg key val hi lim
  · exact rplain_look hp hr hn hrg key val hi lim
  · exact rplain_range hp hr hn hrg key val hi lim
  · exact rplain_count hp hr hn hrg key val hi lim
  · exact rplain_min hp hr hn hrg key val hi lim
  · exact rplain_max hp hr hn hrg key val hi lim
  · exact rplain_floor hp hr hn hrg key val hi lim
  · exact rplain_ceil hp hr hn hrg key val hi lim
end Go.Proofs.YtkgfhomoipbjoaaDoor
