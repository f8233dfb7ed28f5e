/- Layer 42: Without. -/
import Derived.Test.YtaammkmnhhipgaaShrB
namespace Go.Proofs.Ytaammkmnhhipgaa
open Go.RowKit
set_option linter.unusedVariables false
set_option linter.unusedSimpArgs false
theorem ER.takeL {w : World} {p : Option Addr} {c : Nat} {l : List Ent} (h : EL w (.slice p l.length c) l) (k : Nat) (hk : k ≤ l.length) : EL w (.slice p k c) (l.take k) := by
  have h1 := h.take hk
  have e : (l.take k).length = k := by rw [List.length_take]; omega
  unfold EL
  rw [e]
  refine h1.congr fun i hi => ?_
  unfold fn
  rw [List.getD_eq_getElem?_getD, List.getD_eq_getElem?_getD, List.getElem?_take_of_lt hi]
theorem ER.dropL {w : World} {g o c : Nat} {l : List Ent} (h : EL w (.slice (some ⟨g, o, none⟩) l.length c) l) (hc : c ≤ 9223372036854775807) (hlc : l.length ≤ c) (k : Nat) (h0 : 0 < l.length) (hk : k ≤ l.length) : EL w (.slice (some ⟨g, o + k * 7, none⟩) (l.length - k) (c - k)) (l.drop k) := by
  obtain ⟨p', c', he, _, _, A3⟩ := h.parts
  obtain ⟨g', o', hp, hA⟩ := A3.out h0
  injection he with e1 e2 e3
  rw [hp] at e1
  injection e1 with e1
  injection e1 with e4 e5 _
  subst e4; subst e5
  unfold EL
  rw [List.length_drop]
  refine .row g _ _ _ _ (by omega) (by omega) fun i hi j hj => ?_
  have h1 := hA (k + i) (by omega) j hj
  have e : o + k * 7 + (i * 7 + j) = o + ((k + i) * 7 + j) := by rw [Nat.add_mul]; omega
  rw [e, h1]
  congr 2
  unfold fn
  rw [List.getD_eq_getElem?_getD, List.getD_eq_getElem?_getD, List.getElem?_drop]
theorem grown_cells {w w1 : World} {row : Option Nat} (hg : w.grownBy w1 row) {b : Nat} {arr : Array Value} {T : TypeId} (h : w.heap[b]? = some (.cells arr T (0, 0))) (hr : some b ≠ row) : w1.heap[b]? = some (.cells arr T (0, 0)) := by
  rw [hg.block b (Array.getElem?_eq_some_iff.1 h).1 hr]; exact h
set_option maxHeartbeats 2000000 in
theorem swithC (T S K f m : Int) (k q : Nat) (l : List Ent) (p : Option Addr) (c : Nat) (w : World) (h : EL w (.slice p l.length c) l) (a1 : l.length ≤ c) (a2 : c ≤ 9223372036854775807) (hn : l.length ≤ 100000) (h1 : k < l.length)
    (hf : (f < 0 ∧ k = 0) ∨ f = (k : Int)) (hm1 : 1 ≤ m) (hm : (m = (q : Int) ∧ k + q ≤ l.length) ∨ ((l.length : Int) - (k : Int) < m ∧ k + q = l.length)) :
    Calls Try.prog 11 #[.agg #[.int .i64 T, .int .i64 S, .int .u64 K, .slice p l.length c], .int .i64 f, .int .i64 m] w fun e w' => ∃ v', e = .returned (.agg #[.int .i64 T, .int .i64 S, .int .u64 K, v']) ∧ OwnL w' w.heap.size v' (l.take k ++ l.drop (k + q)) ∧ Below w.heap.size w w' := by
  refine Calls.veil fun Q HQ => ?_
  have HE := Lib.hid h
  obtain ⟨p', c', he, _, _, A3⟩ := h.parts
  obtain ⟨rfl, rfl⟩ : p = p' ∧ c = c' := by injection he with e1 _ e2; exact ⟨e1, e2⟩
  obtain ⟨g, o, rfl, _⟩ := A3.out (by omega)
  clear h A3 he
  go_enter Try.func11, Try.ntmps11
  obtain ⟨t, ht⟩ : ∃ t, t = k + q := ⟨_, rfl⟩
  rw [← ht] at HQ
  have h3 : t ≤ l.length := by omega
  have hm' : (m = (q : Int) ∧ Hid (k + q = t)) ∨ ((l.length : Int) - (k : Int) < m ∧ Hid (l.length = t)) := by
    rcases hm with ⟨h, _⟩ | ⟨h, _⟩
    · exact .inl ⟨h, ht.symm⟩
    · exact .inr ⟨h, by show l.length = t; omega⟩
  have ht2 : k ≤ t := by omega
  clear hm ht
  go_upto_region 1 with fail
  go_cut [1] from 9 (fun v1 V => v1 = .int .i64 (k : Int) ∧ V = ((w.alloc (.cells #[.int .i64 T, .int .i64 S, .int .u64 K, .slice (some ⟨g, o, none⟩) l.length c] 27)).alloc (.cells #[.int .i64 0, .int .i64 0, .int .u64 0, .slice none 0 0] 27)))
  case first =>
    rcases hf with ⟨hf, rfl⟩ | rfl
    all_goals
      go_wp2_with fail
      all_goals go_meet
      all_goals (case rel => exact ⟨by first | rfl | go_num, rfl⟩)
  case rest =>
  obtain ⟨rfl, rfl⟩ := hcut
  clear hf
  go_upto_region 4 with fail
  go_cut [7] from 9 (fun v7 V => v7 = .int .i64 (t : Int) ∧ V = ((w.alloc (.cells #[.int .i64 T, .int .i64 S, .int .u64 K, .slice (some ⟨g, o, none⟩) l.length c] 27)).alloc (.cells #[.int .i64 0, .int .i64 0, .int .u64 0, .slice none 0 0] 27)))
  case first =>
    rcases hm' with ⟨rfl, hm⟩ | ⟨hm, hm3⟩
    all_goals
      go_wp2_with fail
      all_goals go_meet
      all_goals (case rel => refine ⟨?_, rfl⟩; first | rfl | (congr 1; have := hm3.out; omega) | (congr 1; have := hm.out; omega))
  case rest =>
  obtain ⟨rfl, rfl⟩ := hcut
  clear hm'
  go_wp2_with (at_builtin; fail)
  generalize hV : World.alloc (World.alloc (World.alloc w _) _) _ = V
  have hs : V.heap.size = w.heap.size + 3 := by rw [← hV]; simp
  have HB := Lib.hid (show Below w.heap.size w V by rw [← hV]; (repeat (first | exact Below.refl _ _ | assumption | refine below_new ?_ _ | refine Below.drew ?_ | refine below_drewN ?_ _ | refine below_on ?_ (by assumption))))
  have HEV := Lib.hid (HE.out.below HB.out)
  have hv0 : V.heap[w.heap.size]? = some (.cells #[.int .i64 T, .int .i64 S, .int .u64 K, .slice (some ⟨g, o, none⟩) l.length c] 27 (0, 0)) := by
    rw [← hV, Below.heap_alloc _ _ _ (by simp; omega), Below.heap_alloc _ _ _ (by simp)]; exact heap_alloc_new w _
  have hv1 : V.heap[w.heap.size + 1]? = some (.cells #[.int .i64 0, .int .i64 0, .int .u64 0, .slice none 0 0] 27 (0, 0)) := by
    rw [← hV, Below.heap_alloc _ _ _ (by simp)]; exact (by simp : (w.alloc (.cells #[.int .i64 T, .int .i64 S, .int .u64 K, .slice (some ⟨g, o, none⟩) l.length c] 27)).heap.size = w.heap.size + 1) ▸ heap_alloc_new (w.alloc (.cells #[.int .i64 T, .int .i64 S, .int .u64 K, .slice (some ⟨g, o, none⟩) l.length c] 27)) _
  have hv2 : V.heap[w.heap.size + 1 + 1]? = some (.cells #[.int .i64 T, .int .i64 S, .int .u64 K, .slice none 0 0] 27 (0, 0)) := by
    rw [← hV]; exact (by simp : ((w.alloc (.cells #[.int .i64 T, .int .i64 S, .int .u64 K, .slice (some ⟨g, o, none⟩) l.length c] 27)).alloc (.cells #[.int .i64 0, .int .i64 0, .int .u64 0, .slice none 0 0] 27)).heap.size = w.heap.size + 1 + 1) ▸ heap_alloc_new ((w.alloc (.cells #[.int .i64 T, .int .i64 S, .int .u64 K, .slice (some ⟨g, o, none⟩) l.length c] 27)).alloc (.cells #[.int .i64 0, .int .i64 0, .int .u64 0, .slice none 0 0] 27)) _
  clear hV
  have s3 : V.cell? ⟨w.heap.size, 3, none⟩ = some (.slice (some ⟨g, o, none⟩) l.length c) := by rw [cell_of_row _ _ _ _ _ (0, 0) hv0]; rfl
  have o3 : V.cell? ⟨w.heap.size + 1 + 1, 3, none⟩ = some (.slice none 0 0) := by rw [cell_of_row _ _ _ _ _ (0, 0) hv2]; rfl
  have hkc : k ≤ c := by omega
  go_still_tail 6, (by kernel_rfl)
  change wpList _ _ _ _ _ V.drew
  go_wp2_with (at_builtin; refine wpList_append_el rfl _ _ rfl V.heap.size _ [] (l.take k) rfl (own_nil7 _ _) _ rfl ((ER.takeL HEV.out k (by omega)).below (Below.refl _ _).drew) (by simp; omega) (Nat.le_refl _) ?_)
  intro v1 w1 ho1 hg1
  have hh1 := grown_cells hg1 (show V.drew.heap[w.heap.size + 1 + 1]? = _ from hv2) (by simp [Value.ownBlock])
  have hr1 := grown_cells hg1 (show V.drew.heap[w.heap.size + 1]? = _ from hv1) (by simp [Value.ownBlock])
  have hs1 := grown_cells hg1 (show V.drew.heap[w.heap.size]? = _ from hv0) (by simp [Value.ownBlock])
  have HB1 := Lib.hid (show Below w.heap.size w w1 from HB.out.trans (Below.grown (B := w.heap.size) (a := V) (Below.refl _ _).drew hg1 (by show w.heap.size ≤ V.heap.size; omega) (by intro k hk; cases hk)))
  have hz1 : V.heap.size ≤ w1.heap.size := hg1.size
  have f3 : w1.cell? ⟨w.heap.size + 1 + 1, 3, none⟩ = some (.slice none 0 0) := by rw [cell_of_row _ _ _ _ _ (0, 0) hh1]; rfl
  have ff : ∀ i, w1.frozen? ⟨w.heap.size + 1 + 1, i, none⟩ = false := fun i => frozen_of_row _ _ _ _ _ hh1
  clear s3 o3 hv0 hv1 hv2 hg1
  have hlt : (l.take k).length = k := by rw [List.length_take]; omega
  generalize l.take k = lt at *
  obtain ⟨p1, c1, rfl, hp1, hc1⟩ := own_slice ho1
  have HO1 := Lib.hid (show OwnL w1 V.heap.size (.slice p1 lt.length c1) lt from by first | exact ho1 | (rw [hs]; exact ho1) | simpa using ho1)
  clear ho1
  have HLT := Lib.hid hlt
  clear hlt
  go_wp2_with (at_builtin; fail)
  generalize hU : World.setCell w1 _ _ = U
  have hoU : U.heap[w.heap.size + 1 + 1]? = some (.cells #[.int .i64 T, .int .i64 S, .int .u64 K, .slice p1 lt.length c1] 27 (0, 0)) := by
    rw [← hU, heap_setCell_same _ _ _ _ _ _ hh1]; rfl
  have hrU : U.heap[w.heap.size + 1]? = some (.cells #[.int .i64 0, .int .i64 0, .int .u64 0, .slice none 0 0] 27 (0, 0)) := by
    rw [← hU, Below.heap_setCell _ _ _ _ (by show w.heap.size + 1 ≠ w.heap.size + 1 + 1; omega)]; exact hr1
  have hsU : U.heap[w.heap.size]? = some (.cells #[.int .i64 T, .int .i64 S, .int .u64 K, .slice (some ⟨g, o, none⟩) l.length c] 27 (0, 0)) := by
    rw [← hU, Below.heap_setCell _ _ _ _ (by show w.heap.size ≠ w.heap.size + 1 + 1; omega)]; exact hs1
  have HBU := Lib.hid (show Below w.heap.size w U by rw [← hU]; exact HB1.out.setCell (p := ⟨w.heap.size + 1 + 1, 3, none⟩) (by show w.heap.size ≤ w.heap.size + 1 + 1; omega) _)
  have HOU := Lib.hid (show OwnL U V.heap.size (.slice p1 lt.length c1) lt by rw [← hU]; exact ownsRow_setCell_below HO1.out (a := ⟨w.heap.size + 1 + 1, 3, none⟩) (by show w.heap.size + 1 + 1 < V.heap.size; omega) _)
  have hzU : V.heap.size ≤ U.heap.size := by rw [← hU]; simpa using hz1
  clear hU hh1 hr1 hs1 f3 ff HB1 HO1 hz1
  have s3 : U.cell? ⟨w.heap.size, 3, none⟩ = some (.slice (some ⟨g, o, none⟩) l.length c) := by rw [cell_of_row _ _ _ _ _ (0, 0) hsU]; rfl
  have o3 : U.cell? ⟨w.heap.size + 1 + 1, 3, none⟩ = some (.slice p1 lt.length c1) := by rw [cell_of_row _ _ _ _ _ (0, 0) hoU]; rfl
  have HOUd := Lib.hid (show OwnL U.drew V.heap.size (.slice p1 lt.length c1) lt from HOU.out)
  have HSV := Lib.hid (And.intro hs hzU)
  have HROW := Lib.hid (And.intro hoU hrU)
  clear hs hzU hoU hrU hsU
  have TAIL : ∀ (v2 : Value) (w2 : World), OwnL w2 V.heap.size v2 (lt ++ l.drop (t)) → U.drew.grownBy w2 (Value.slice p1 lt.length c1).ownBlock → ∃ p2 c2, v2 = .slice p2 (lt ++ l.drop (t)).length c2 ∧ w2.heap[w.heap.size + 1 + 1]? = some (.cells #[.int .i64 T, .int .i64 S, .int .u64 K, .slice p1 lt.length c1] 27 (0, 0)) ∧
      w2.heap[w.heap.size + 1]? = some (.cells #[.int .i64 0, .int .i64 0, .int .u64 0, .slice none 0 0] 27 (0, 0)) ∧ Below w.heap.size w w2 := by
    intro v2 w2 ho2 hg2
    obtain ⟨p2, c2, rfl, _, _⟩ := own_slice ho2
    have hne : ∀ b, b < V.heap.size → some b ≠ (Value.slice p1 lt.length c1).ownBlock := by
      intro b hb e
      have := own_geE HOU.out b e.symm
      omega
    have hs := HSV.out.1
    refine ⟨p2, c2, rfl, grown_cells hg2 (show U.drew.heap[_]? = _ from HROW.out.1) (hne _ (by omega)), grown_cells hg2 (show U.drew.heap[_]? = _ from HROW.out.2) (hne _ (by omega)), ?_⟩
    exact HBU.out.drew.grown hg2 (by show w.heap.size ≤ U.heap.size; have := HSV.out; omega) (fun b hb => by have := own_geE HOU.out b hb; omega)
  have TAIL := Lib.hid TAIL
  have hcq : ¬ c < t := by omega
  have HDR := Lib.hid (ER.dropL HE.out a2 a1 (t) (by omega) h3)
  have HSR := Lib.hid (fun v l' (h : EL w v l') => (show EL U.drew v l' from ER.below (ER.below h HBU.out) (Below.refl _ _).drew))
  obtain ⟨lz, hlz⟩ : ∃ lz, lz = lt ++ l.drop t := ⟨_, rfl⟩
  rw [← hlz] at HQ TAIL
  have HLZ := Lib.hid hlz
  clear hlz
  rcases (by omega : t < c ∨ t = c) with hq | hq
  · have hne : ¬ c = t := by omega
    have HSRC := Lib.hid (HSR.out _ _ HDR.out)
    go_still_tail 6, (by kernel_rfl)
    go_wp2_with (at_builtin; refine wpList_append_el rfl _ _ rfl V.heap.size _ lt (l.drop t) rfl HOUd.out _ rfl HSRC.out (by rw [List.length_drop]; have := HLT.out; omega) (by show V.heap.size ≤ U.heap.size; exact HSV.out.2) ?_)
    intro v2 w2 ho2 hg2
    rw [← HLZ.out] at ho2
    obtain ⟨p2, c2, rfl, hh2, hr2, hb2⟩ := TAIL.out v2 w2 ho2 hg2
    have HO2 := Lib.hid ho2
    have f3 : w2.cell? ⟨w.heap.size + 1 + 1, 3, none⟩ = some (.slice p1 lt.length c1) := by rw [cell_of_row _ _ _ _ _ (0, 0) hh2]; rfl
    have ff : ∀ i, w2.frozen? ⟨w.heap.size + 1 + 1, i, none⟩ = false := fun i => frozen_of_row _ _ _ _ _ hh2
    have f0 : w2.cell? ⟨w.heap.size + 1 + 1, 0, none⟩ = some (.int .i64 T) := by rw [cell_of_row _ _ _ _ _ (0, 0) hh2]; rfl
    have f1 : w2.cell? ⟨w.heap.size + 1 + 1, 1, none⟩ = some (.int .i64 S) := by rw [cell_of_row _ _ _ _ _ (0, 0) hh2]; rfl
    have f2 : w2.cell? ⟨w.heap.size + 1 + 1, 2, none⟩ = some (.int .u64 K) := by rw [cell_of_row _ _ _ _ _ (0, 0) hh2]; rfl
    have r0 : w2.cell? ⟨w.heap.size + 1, 0, none⟩ = some (.int .i64 0) := by rw [cell_of_row _ _ _ _ _ (0, 0) hr2]; rfl
    have r1 : w2.cell? ⟨w.heap.size + 1, 1, none⟩ = some (.int .i64 0) := by rw [cell_of_row _ _ _ _ _ (0, 0) hr2]; rfl
    have r2 : w2.cell? ⟨w.heap.size + 1, 2, none⟩ = some (.int .u64 0) := by rw [cell_of_row _ _ _ _ _ (0, 0) hr2]; rfl
    have r3 : w2.cell? ⟨w.heap.size + 1, 3, none⟩ = some (.slice none 0 0) := by rw [cell_of_row _ _ _ _ _ (0, 0) hr2]; rfl
    have rf : ∀ i, w2.frozen? ⟨w.heap.size + 1, i, none⟩ = false := fun i => frozen_of_row _ _ _ _ _ hr2
    have HB2 := Lib.hid hb2
    clear ho2 hg2 hh2 hr2 hb2 s3 o3 hcq hq
    go_wp2_with fail
    generalize hW : World.setCell _ _ _ = W
    have hBW : Below w.heap.size w W := by
      rw [← hW]
      exact (((((HB2.out.setCell (p := ⟨w.heap.size + 1 + 1, 3, none⟩) (by show w.heap.size ≤ w.heap.size + 1 + 1; omega) _).setCell (p := ⟨w.heap.size + 1, 0, none⟩) (Nat.le_succ _) _).setCell (p := ⟨w.heap.size + 1, 1, none⟩) (Nat.le_succ _) _).setCell (p := ⟨w.heap.size + 1, 2, none⟩) (Nat.le_succ _) _).setCell (p := ⟨w.heap.size + 1, 3, none⟩) (Nat.le_succ _) _)
    have hOW : OwnL W V.heap.size (.slice p2 lz.length c2) lz := by
      have hs := HSV.out.1
      have hl : w.heap.size + 1 < V.heap.size := by omega
      rw [← hW]
      exact ownsRow_setCell_below (ownsRow_setCell_below (ownsRow_setCell_below (ownsRow_setCell_below (ownsRow_setCell_below HO2.out (a := ⟨w.heap.size + 1 + 1, 3, none⟩) (by show w.heap.size + 1 + 1 < V.heap.size; omega) _) (a := ⟨w.heap.size + 1, 0, none⟩) hl _) (a := ⟨w.heap.size + 1, 1, none⟩) hl _) (a := ⟨w.heap.size + 1, 2, none⟩) hl _) (a := ⟨w.heap.size + 1, 3, none⟩) hl _
    have g0 : W.cell? ⟨w.heap.size + 1, 0, none⟩ = some (.int .i64 T) := by subst hW; go_simp
    have g1 : W.cell? ⟨w.heap.size + 1, 1, none⟩ = some (.int .i64 S) := by subst hW; go_simp
    have g2 : W.cell? ⟨w.heap.size + 1, 2, none⟩ = some (.int .u64 K) := by subst hW; go_simp
    have g3 : W.cell? ⟨w.heap.size + 1, 3, none⟩ = some (.slice p2 lz.length c2) := by subst hW; go_simp
    clear hW f0 f1 f2 f3 ff r0 r1 r2 r3 rf
    have HBW := Lib.hid hBW; have HOW := Lib.hid (own_low7 hOW (by have := HSV.out.1; omega : w.heap.size ≤ V.heap.size))
    clear hBW hOW
    refine bodyPost_ret (v := .agg #[.int .i64 T, .int .i64 S, .int .u64 K, .slice p2 lz.length c2]) (by simp [results, Try.results11, go_sem, g0, g1, g2, g3]) rfl ?_
    rw [HQ.out]
    exact ⟨_, rfl, HOW.out, HBW.out⟩
  · have hz : l.length - t = 0 := by omega
    have HSRC := Lib.hid (show EL U.drew (.slice (some ⟨g, o, none⟩) 0 0) (l.drop t) by
      unfold EL
      rw [List.length_drop, hz]
      exact .odd _ _ _ (by omega))
    have hq' : c = t := hq.symm
    have hz2 : c - t = 0 := by omega
    clear hq
    go_still_tail 6, (by kernel_rfl)
    go_wp2_with (at_builtin; refine wpList_append_el rfl _ _ rfl V.heap.size _ lt (l.drop t) rfl HOUd.out _ rfl HSRC.out (by rw [List.length_drop]; have := HLT.out; omega) (by show V.heap.size ≤ U.heap.size; exact HSV.out.2) ?_)
    intro v2 w2 ho2 hg2
    rw [← HLZ.out] at ho2
    obtain ⟨p2, c2, rfl, hh2, hr2, hb2⟩ := TAIL.out v2 w2 ho2 hg2
    have HO2 := Lib.hid ho2
    have f3 : w2.cell? ⟨w.heap.size + 1 + 1, 3, none⟩ = some (.slice p1 lt.length c1) := by rw [cell_of_row _ _ _ _ _ (0, 0) hh2]; rfl
    have ff : ∀ i, w2.frozen? ⟨w.heap.size + 1 + 1, i, none⟩ = false := fun i => frozen_of_row _ _ _ _ _ hh2
    have f0 : w2.cell? ⟨w.heap.size + 1 + 1, 0, none⟩ = some (.int .i64 T) := by rw [cell_of_row _ _ _ _ _ (0, 0) hh2]; rfl
    have f1 : w2.cell? ⟨w.heap.size + 1 + 1, 1, none⟩ = some (.int .i64 S) := by rw [cell_of_row _ _ _ _ _ (0, 0) hh2]; rfl
    have f2 : w2.cell? ⟨w.heap.size + 1 + 1, 2, none⟩ = some (.int .u64 K) := by rw [cell_of_row _ _ _ _ _ (0, 0) hh2]; rfl
    have r0 : w2.cell? ⟨w.heap.size + 1, 0, none⟩ = some (.int .i64 0) := by rw [cell_of_row _ _ _ _ _ (0, 0) hr2]; rfl
    have r1 : w2.cell? ⟨w.heap.size + 1, 1, none⟩ = some (.int .i64 0) := by rw [cell_of_row _ _ _ _ _ (0, 0) hr2]; rfl
    have r2 : w2.cell? ⟨w.heap.size + 1, 2, none⟩ = some (.int .u64 0) := by rw [cell_of_row _ _ _ _ _ (0, 0) hr2]; rfl
    have r3 : w2.cell? ⟨w.heap.size + 1, 3, none⟩ = some (.slice none 0 0) := by rw [cell_of_row _ _ _ _ _ (0, 0) hr2]; rfl
    have rf : ∀ i, w2.frozen? ⟨w.heap.size + 1, i, none⟩ = false := fun i => frozen_of_row _ _ _ _ _ hr2
    have HB2 := Lib.hid hb2
    clear ho2 hg2 hh2 hr2 hb2 s3 o3 hcq
    go_wp2_with fail
    generalize hW : World.setCell _ _ _ = W
    have hBW : Below w.heap.size w W := by
      rw [← hW]
      exact (((((HB2.out.setCell (p := ⟨w.heap.size + 1 + 1, 3, none⟩) (by show w.heap.size ≤ w.heap.size + 1 + 1; omega) _).setCell (p := ⟨w.heap.size + 1, 0, none⟩) (Nat.le_succ _) _).setCell (p := ⟨w.heap.size + 1, 1, none⟩) (Nat.le_succ _) _).setCell (p := ⟨w.heap.size + 1, 2, none⟩) (Nat.le_succ _) _).setCell (p := ⟨w.heap.size + 1, 3, none⟩) (Nat.le_succ _) _)
    have hOW : OwnL W V.heap.size (.slice p2 lz.length c2) lz := by
      have hs := HSV.out.1
      have hl : w.heap.size + 1 < V.heap.size := by omega
      rw [← hW]
      exact ownsRow_setCell_below (ownsRow_setCell_below (ownsRow_setCell_below (ownsRow_setCell_below (ownsRow_setCell_below HO2.out (a := ⟨w.heap.size + 1 + 1, 3, none⟩) (by show w.heap.size + 1 + 1 < V.heap.size; omega) _) (a := ⟨w.heap.size + 1, 0, none⟩) hl _) (a := ⟨w.heap.size + 1, 1, none⟩) hl _) (a := ⟨w.heap.size + 1, 2, none⟩) hl _) (a := ⟨w.heap.size + 1, 3, none⟩) hl _
    have g0 : W.cell? ⟨w.heap.size + 1, 0, none⟩ = some (.int .i64 T) := by subst hW; go_simp
    have g1 : W.cell? ⟨w.heap.size + 1, 1, none⟩ = some (.int .i64 S) := by subst hW; go_simp
    have g2 : W.cell? ⟨w.heap.size + 1, 2, none⟩ = some (.int .u64 K) := by subst hW; go_simp
    have g3 : W.cell? ⟨w.heap.size + 1, 3, none⟩ = some (.slice p2 lz.length c2) := by subst hW; go_simp
    clear hW f0 f1 f2 f3 ff r0 r1 r2 r3 rf
    have HBW := Lib.hid hBW; have HOW := Lib.hid (own_low7 hOW (by have := HSV.out.1; omega : w.heap.size ≤ V.heap.size))
    clear hBW hOW
    refine bodyPost_ret (v := .agg #[.int .i64 T, .int .i64 S, .int .u64 K, .slice p2 lz.length c2]) (by simp [results, Try.results11, go_sem, g0, g1, g2, g3]) rfl ?_
    rw [HQ.out]
    exact ⟨_, rfl, HOW.out, HBW.out⟩
end Go.Proofs.Ytaammkmnhhipgaa
