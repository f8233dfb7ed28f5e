/- Layer 11: hist.Opers. -/
import Derived.Test.YtilfgekiblpkaaaHisC
namespace Go.Proofs.Ytilfgekiblpkaaa
open Go.RowKit
set_option linter.unusedVariables false
set_option linter.unusedSimpArgs false
def an0 : An := ⟨0, 0, 0, 0, []⟩
/-- The opers of the events ahead of event i, and which is each thread's last one. -/
def stO (L : Nat → Ev) : Nat → List Opr × (Nat → Nat)
  | 0 => ([], fun _ => 0)
  | i + 1 => if (L i).bk then ((stO L i).1.set ((stO L i).2 (L i).th.toNat) { ((stO L i).1.getD ((stO L i).2 (L i).th.toNat) o0) with an := (L i).an, to := (i : Int) }, (stO L i).2)
    else ((stO L i).1 ++ [⟨(L i).th, (L i).ca, an0, (i : Int), -1⟩], fun t => if t = (L i).th.toNat then (stO L i).1.length else (stO L i).2 t)
theorem stO_len (L : Nat → Ev) : ∀ i, (stO L i).1.length ≤ i
  | 0 => by simp [stO]
  | i + 1 => by
    have := stO_len L i
    rw [stO]
    split
    · simp only [List.length_set]; omega
    · simp only [List.length_append, List.length_cons, List.length_nil]; omega
theorem stO_in {L : Nat → Ev} {n : Nat} (hm : mayH L n = true) : ∀ i, i ≤ n → ∀ t : Int, 0 ≤ t → inF L i t = true → (stO L i).2 t.toNat < (stO L i).1.length
  | 0, _, t, _, h => by simp [inF] at h
  | i + 1, hi, t, ht, h => by
    obtain ⟨h1, h2, h3⟩ := mayH_at hm (by omega : i < n)
    rw [inF] at h
    rw [stO]
    split
    · rename_i hb
      simp only [List.length_set]
      split at h
      · rw [hb] at h; simp at h
      · exact stO_in hm i (by omega) t ht h
    · rename_i hb
      simp only [List.length_append, List.length_cons, List.length_nil]
      split at h
      · rename_i he
        subst he
        rw [if_pos rfl]; omega
      · rename_i he
        rw [if_neg (by omega)]
        have := stO_in hm i (by omega) t ht h
        omega
theorem oneSlice (p : Option Addr) (n c : Nat) : (Value.slice p n c).oneCell' = true := rfl
theorem own_setO {w : World} {B g c : Nat} {l : List (Opr × Value)} (h : OwnO w B (.slice (some ⟨g, 0, none⟩) l.length c) l) (i : Nat) (x : Opr × Value) (hx : l[i]? = some x) (a : An) (v : Value) (to : Int) :
    OwnO ((((((w.setCell ⟨g, i * 13 + 6, none⟩ (.int .i64 a.kind)).setCell ⟨g, i * 13 + 7, none⟩ (.int .i64 a.key)).setCell ⟨g, i * 13 + 8, none⟩ (.int .i64 a.val)).setCell ⟨g, i * 13 + 9, none⟩ (.int .i64 a.n)).setCell ⟨g, i * 13 + 10, none⟩ v).setCell ⟨g, i * 13 + 12, none⟩ (.int .i64 to)) B (.slice (some ⟨g, 0, none⟩) l.length c) (l.set i ({ x.1 with an := a, to := to }, v)) := by
  rcases h.2 with ⟨hv, _⟩ | ⟨g', cap, cur, hv, hb, hh, h1, h2, h3, h4⟩
  · cases hv
  · simp only [Value.slice.injEq, Option.some.injEq, Addr.mk.injEq, true_and, and_true] at hv
    obtain ⟨rfl, rfl⟩ := hv
    have h5 := heap_setCell_same w g (i * 13 + 6) cur _ (.int .i64 a.kind) hh
    have h6 := heap_setCell_same _ g (i * 13 + 7) _ _ (.int .i64 a.key) h5
    have h7 := heap_setCell_same _ g (i * 13 + 8) _ _ (.int .i64 a.val) h6
    have h8 := heap_setCell_same _ g (i * 13 + 9) _ _ (.int .i64 a.n) h7
    have h9 := heap_setCell_same _ g (i * 13 + 10) _ _ v h8
    have h10 := heap_setCell_same _ g (i * 13 + 12) _ _ (.int .i64 to) h9
    clear h5 h6 h7 h8 h9
    have hlen : (l.set i ({ x.1 with an := a, to := to }, v)).length = l.length := List.length_set
    refine ⟨by rw [ocs_len], .inr ⟨g, c, _, by rw [hlen], hb, h10, by rw [hlen]; exact h1, h2, ?_, ?_⟩⟩
    · simp only [Array.size_setIfInBounds]; exact h3
    · rw [hlen, ← ocs_set l i x hx a v to, ← h4]
      simp only [Array.toList_setIfInBounds, List.take_set]
theorem own_cellsO {w : World} {B g c : Nat} {l : List (Opr × Value)} (h : OwnO w B (.slice (some ⟨g, 0, none⟩) l.length c) l) (i : Nat) (x : Opr × Value) (hx : l[i]? = some x) (j : Nat) (hj : j < 13) : w.cell? ⟨g, i * 13 + j, none⟩ = (ocells x.1 x.2)[j]? := by
  have h1 := ocs_get l i j x hx hj
  obtain ⟨u, hu⟩ : ∃ u, (ocells x.1 x.2)[j]? = some u := ⟨_, List.getElem?_eq_getElem (by exact hj)⟩
  rw [hu] at h1 ⊢
  have := h.cells (g := g) rfl _ _ h1
  rwa [addP, Nat.zero_add] at this
theorem own_heapO {w : World} {B g n c : Nat} {l : List (Opr × Value)} (h : OwnO w B (.slice (some ⟨g, 0, none⟩) n c) l) : ∃ cur, w.heap[g]? = some (.cells cur 41 (0, 0)) := by
  rcases h.2 with ⟨hv, _⟩ | ⟨g', cap, cur, hv, _, hh, _⟩
  · cases hv
  · simp only [Value.slice.injEq, Option.some.injEq, Addr.mk.injEq, true_and, and_true] at hv
    obtain ⟨rfl, _⟩ := hv
    exact ⟨cur, hh⟩
theorem own_keptO {w w' : World} {B : Nat} {v : Value} {l : List (Opr × Value)} (h : OwnO w B v l) (k : Below w.heap.size w w') : OwnO w' B v l := by
  refine ⟨h.1, ?_⟩
  rcases h.2 with hn | ⟨g, cap, cur, rfl, hb, hgg, rest⟩
  · exact .inl hn
  · exact .inr ⟨g, cap, cur, rfl, hb, by rw [k.block g (Array.getElem?_eq_some_iff.1 hgg).1]; exact hgg, rest⟩
theorem own_sliceO {w : World} {B : Nat} {v : Value} {l : List (Opr × Value)} (h : OwnO w B v l) : (v = .slice none 0 0 ∧ l = []) ∨ ∃ g c, v = .slice (some ⟨g, 0, none⟩) l.length c ∧ l.length ≤ c ∧ c ≤ 9223372036854775807 ∧ B ≤ g ∧ g < w.heap.size := by
  rcases h.2 with ⟨rfl, h0⟩ | ⟨g, cap, cur, rfl, hb, hh, h1, h2, _⟩
  · exact .inl ⟨rfl, List.eq_nil_of_length_eq_zero h0⟩
  · exact .inr ⟨g, cap, rfl, h1, h2, hb, (Array.getElem?_eq_some_iff.1 hh).1⟩
theorem own_geO {w : World} {B : Nat} {v : Value} {l : List (Opr × Value)} (h : OwnO w B v l) : ∀ k, v.ownBlock = some k → B ≤ k := by
  intro k hk
  rcases h.2 with ⟨rfl, _⟩ | ⟨g, cap, cur, rfl, hb, _⟩
  · cases hk
  · simp only [Value.ownBlock, Option.some.injEq] at hk; omega
theorem own_lowO {w : World} {B B' : Nat} {v : Value} {l : List (Opr × Value)} (h : OwnO w B v l) (hB : B' ≤ B) : OwnO w B' v l := by
  refine ⟨h.1, ?_⟩
  rcases h.2 with h1 | ⟨g, cap, cur, hv, hb, r⟩
  · exact .inl h1
  · exact .inr ⟨g, cap, cur, hv, by omega, r⟩
/-- Six cells of one row written: every other block is as it was. -/
theorem own_set_ne (w : World) (g d : Nat) (v1 v2 v3 v4 v5 v6 : Value) (k : Nat) (hk : k ≠ g) :
    ((((((w.setCell ⟨g, d * 13 + 6, none⟩ v1).setCell ⟨g, d * 13 + 7, none⟩ v2).setCell ⟨g, d * 13 + 8, none⟩ v3).setCell ⟨g, d * 13 + 9, none⟩ v4).setCell ⟨g, d * 13 + 10, none⟩ v5).setCell ⟨g, d * 13 + 12, none⟩ v6).heap[k]? = w.heap[k]? := by
  rw [Below.heap_setCell _ _ _ _ hk, Below.heap_setCell _ _ _ _ hk, Below.heap_setCell _ _ _ _ hk, Below.heap_setCell _ _ _ _ hk, Below.heap_setCell _ _ _ _ hk, Below.heap_setCell _ _ _ _ hk]
theorem NP.sets {w w' : World} (b : Nat) (h : ∃ cur T, w.heap[b]? = some (.cells cur T (0, 0)) ∧ T ≠ 57) (hk : ∀ k, k ≠ b → w'.heap[k]? = w.heap[k]?) (hs : w.heap.size ≤ w'.heap.size := by simp) : NP w w' :=
  ⟨hs, fun k cur hc => by
    obtain ⟨cur', T, h1, h2⟩ := h
    rw [hk k (by
      intro e
      rw [e, h1] at hc
      simp only [Option.some.injEq, Obj.cells.injEq] at hc
      exact h2 hc.2.1)]
    exact hc⟩
theorem own_sliceQ {w : World} {B : Nat} {v : Value} {l : List (Opr × Value)} (h : OwnO w B v l) : ∃ p c, v = .slice p l.length c ∧ l.length ≤ c ∧ c ≤ 9223372036854775807 := by
  rcases own_sliceO h with ⟨rfl, rfl⟩ | ⟨g, c, rfl, h1, h2, _⟩
  · exact ⟨none, 0, rfl, Nat.le_refl _, by decide⟩
  · exact ⟨_, _, rfl, h1, h2⟩
set_option maxHeartbeats 8000000 in
theorem hopers (n : Nat) (L : Nat → Ev) (v : Value) (w : World) (h : VR w v n L) (hn : n ≤ 1000) (hpl : ∀ i, i < n → (L i).an.ps.length ≤ 100000) (hm : mayH L n = true) : Calls Try.prog 15 #[v] w fun e w' => ∃ (v' : Value) (l : List (Opr × Value)), e = .returned v' ∧ l.map (·.1) = (stO L n).1 ∧ OwnO w' w.heap.size v' l ∧ (∀ x ∈ l, PO w' x.2 x.1.an.ps) ∧ Below w.heap.size w w' := by
  refine Calls.veil fun Q HQ => ?_
  have HV := Lib.hid h
  obtain ⟨p, c, rfl, a1, a2, A3⟩ := h.parts
  clear h
  have HIN := Lib.hid (fun i hi => stO_in hm i hi)
  have HAT := Lib.hid (fun i hi => mayH_at (i := i) hm hi)
  have HPL := Lib.hid hpl
  have SM := Lib.hid (show Calls Try.prog 14 #[.slice p n c] w fun e w' => e = .returned (.bool true) ∧ Below w.heap.size w w' by have := hmay n L _ w HV.out hn; rwa [hm] at this)
  clear hm hpl
  go_enter Try.func15, Try.ntmps15
  go_wp2_with fail
  refine SM.out.mono ?_; rintro _ w1 ⟨rfl, hb1⟩
  have HB1 := Lib.hid hb1
  clear SM hb1
  go_wp2_with fail
  generalize hV : World.alloc w1 _ = V
  have HR6 := Lib.hid (show R6 V w1.heap.size 60 (fun k => .int .i64 ((stO L 0).2 k : Nat)) by rw [← hV]; exact heap_alloc_new w1 _)
  have HBV := Lib.hid (show Below w.heap.size w V ∧ w1.heap.size < V.heap.size ∧ w.heap.size ≤ w1.heap.size by rw [← hV]; exact ⟨HB1.out.alloc HB1.out.size _, by simp, HB1.out.size⟩)
  clear hV
  obtain ⟨bl, hbl⟩ : ∃ bl, bl = w1.heap.size := ⟨_, rfl⟩
  rw [← hbl]
  rw [← hbl] at HR6 HBV
  clear hbl HB1
  go_loopw [3, 13] (fun ov iv wr => ∃ (i : Nat) (l : List (Opr × Value)), i ≤ n ∧ iv = .int .i64 i ∧ Hid (l.map (·.1) = (stO L i).1) ∧ Hid (OwnO wr V.heap.size ov l) ∧ Hid (∀ x ∈ l, PO wr x.2 x.1.an.ps) ∧ Hid (R6 wr bl 60 (fun k => .int .i64 ((stO L i).2 k : Nat))) ∧ Below w.heap.size w wr ∧ V.heap.size ≤ wr.heap.size)
    (fun _ iv _ => n - (intOf iv).toNat)
  case atStart => exact ⟨0, [], by omega, rfl, Lib.hid rfl, Lib.hid ⟨rfl, .inl ⟨rfl, rfl⟩⟩, Lib.hid (by simp), HR6, HBV.out.1, Nat.le_refl _⟩
  case round =>
    obtain ⟨i, l, hi, rfl, HL, HO, HPO, HR, hbx, hvx⟩ := hrel
    clear HR6
    have HX := Lib.hid (And.intro hbx hvx)
    have HLL := Lib.hid (show l.length ≤ i by have h1 := stO_len L i; rw [← HL.out, List.length_map] at h1; exact h1)
    rcases (by omega : i < n ∨ i = n) with hlt | heq
    · obtain ⟨g, o, rfl, hA⟩ := A3.out (by omega)
      obtain ⟨pv, hC, hPR⟩ := (hA.below hbx).cells i hlt
      obtain ⟨pp, pc, rfl, _, _⟩ := hPR.slice
      have HPRE := Lib.hid hPR
      clear hbx hvx hPR
      obtain ⟨ht0, ht6, hbk⟩ := HAT.out i hlt
      have HINI := Lib.hid (HIN.out i hi)
      have HPLI := Lib.hid (HPL.out i hlt)
      have HST := Lib.hid (show stO L (i + 1) = _ from stO.eq_2 L i)
      generalize L i = e at hC HST HPRE ht0 ht6 hbk HPLI
      obtain ⟨th, bk, ⟨op, key, val, hi2, lim⟩, ⟨kind, akey, aval, an, ps⟩⟩ := e
      obtain ⟨x0, x1, x2, x3, x4, x5, x6, x7, x8, x9, x10, x11⟩ := hC
      simp only at x0 x1 x2 x3 x4 x5 x6 x7 x8 x9 x10 x11 HST HPRE ht0 ht6 hbk HPLI
      obtain ⟨k, rfl⟩ := Int.eq_ofNat_of_zero_le ht0
      have hk : k < 6 := by omega
      have HBK := Lib.hid hbk
      clear hbk ht0 ht6
      go_upto_region 8 with fail
      generalize hU : World.alloc wr _ = U
      have HU := Lib.hid (show Below wr.heap.size wr U ∧ bl < wr.heap.size ∧ U.heap.size = wr.heap.size + 1 by rw [← hU]; exact ⟨(Below.refl _ _).alloc (Nat.le_refl _) _, HR.out.lt, by simp⟩)
      have y0 : U.cell? ⟨wr.heap.size, 0, none⟩ = some (.int .i64 (k : Int)) := Ext.made hU 0 _ rfl ⟨U, Below.refl _ _⟩
      have y1 : U.cell? ⟨wr.heap.size, 1, none⟩ = some (.bool bk) := Ext.made hU 1 _ rfl ⟨U, Below.refl _ _⟩
      have y2 : U.cell? ⟨wr.heap.size, 2, none⟩ = some (.int .i64 op) := Ext.made hU 2 _ rfl ⟨U, Below.refl _ _⟩
      have y3 : U.cell? ⟨wr.heap.size, 3, none⟩ = some (.int .i64 key) := Ext.made hU 3 _ rfl ⟨U, Below.refl _ _⟩
      have y4 : U.cell? ⟨wr.heap.size, 4, none⟩ = some (.int .i64 val) := Ext.made hU 4 _ rfl ⟨U, Below.refl _ _⟩
      have y5 : U.cell? ⟨wr.heap.size, 5, none⟩ = some (.int .i64 hi2) := Ext.made hU 5 _ rfl ⟨U, Below.refl _ _⟩
      have y6 : U.cell? ⟨wr.heap.size, 6, none⟩ = some (.int .i64 lim) := Ext.made hU 6 _ rfl ⟨U, Below.refl _ _⟩
      have y7 : U.cell? ⟨wr.heap.size, 7, none⟩ = some (.int .i64 kind) := Ext.made hU 7 _ rfl ⟨U, Below.refl _ _⟩
      have y8 : U.cell? ⟨wr.heap.size, 8, none⟩ = some (.int .i64 akey) := Ext.made hU 8 _ rfl ⟨U, Below.refl _ _⟩
      have y9 : U.cell? ⟨wr.heap.size, 9, none⟩ = some (.int .i64 aval) := Ext.made hU 9 _ rfl ⟨U, Below.refl _ _⟩
      have y10 : U.cell? ⟨wr.heap.size, 10, none⟩ = some (.int .i64 an) := Ext.made hU 10 _ rfl ⟨U, Below.refl _ _⟩
      have y11 : U.cell? ⟨wr.heap.size, 11, none⟩ = some (.slice pp ps.length pc) := Ext.made hU 11 _ rfl ⟨U, Below.refl _ _⟩
      have HUR := Lib.hid (HR.out.below HU.out.1)
      have HUO := Lib.hid (own_keptO HO.out HU.out.1)
      have HUP := Lib.hid (fun x hx => (HPO.out x hx).np (.below HU.out.1))
      have HUX := Lib.hid (show Below w.heap.size w U ∧ V.heap.size ≤ U.heap.size from ⟨HX.out.1.trans (HU.out.1.mono HX.out.1.size), by have := HU.out.2.2; have := HX.out.2; omega⟩)
      have HUPR := Lib.hid (HPRE.out.below HU.out.1)
      have z0 := HUR.out.get k hk
      have f0 := HUR.out.free k
      have hne : bl ≠ wr.heap.size := by have := HU.out.2.1; omega
      clear hU x0 x1 x2 x3 x4 x5 x6 x7 x8 x9 x10 x11 HO HPO HR HX HPRE
      have HQL := Lib.hid (show wr.heap.size < U.heap.size by have := HU.out.2.2; omega)
      clear HU
      generalize wr.heap.size = q at *
      cases bk
      · have HS1 := Lib.hid (HST.out.trans (if_neg (by simp)))
        clear HST
        have hll : l.length ≤ 1000 := by have := HLL.out; omega
        obtain ⟨p1, c1, rfl, hc1, hc2⟩ := own_sliceQ HUO.out
        go_upto_region 10 with fail
        generalize hY : U.setCell _ _ = Y
        have g0 : Y.cell? ⟨q, 0, none⟩ = some (.int .i64 (k : Int)) := by subst hY; go_simp
        have g2 : Y.cell? ⟨q, 2, none⟩ = some (.int .i64 op) := by subst hY; go_simp
        have g3 : Y.cell? ⟨q, 3, none⟩ = some (.int .i64 key) := by subst hY; go_simp
        have g4 : Y.cell? ⟨q, 4, none⟩ = some (.int .i64 val) := by subst hY; go_simp
        have g5 : Y.cell? ⟨q, 5, none⟩ = some (.int .i64 hi2) := by subst hY; go_simp
        have g6 : Y.cell? ⟨q, 6, none⟩ = some (.int .i64 lim) := by subst hY; go_simp
        have HYR := Lib.hid (show R6 Y bl 60 (fun j => .int .i64 ((stO L (i + 1)).2 j : Nat)) by
          have h1 := HUR.out.set k hk (.int .i64 (l.length : Nat))
          rw [hY] at h1
          have e : (fun j : Nat => if j = k then Value.int .i64 (l.length : Nat) else .int .i64 ((stO L i).2 j : Nat)) = fun j : Nat => .int .i64 ((stO L (i + 1)).2 j : Nat) := by
            funext j
            rw [HS1.out, ← HL.out, List.length_map]
            simp only [Int.toNat_natCast]
            by_cases hj : j = k
            · rw [if_pos hj, if_pos hj]
            · rw [if_neg hj, if_neg hj]
          rw [← e]
          exact h1)
        have HYN := Lib.hid (show NP U Y by rw [← hY]; exact NP.set _ HUR.out (by decide))
        have HYO := Lib.hid (show OwnO Y V.heap.size (.slice p1 l.length c1) l by rw [← hY]; exact ownsRow_setCell_below HUO.out (a := ⟨bl, k, none⟩) HBV.out.2.1 _)
        have HYX := Lib.hid (show Below w.heap.size w Y ∧ V.heap.size ≤ Y.heap.size by rw [← hY]; exact ⟨HUX.out.1.setCell (p := ⟨bl, k, none⟩) HBV.out.2.2 _, by simpa using HUX.out.2⟩)
        clear hY y0 y1 y2 y3 y4 y5 y6 y7 y8 y9 y10 y11 z0 f0
        go_wp2_with (at_builtin; refine wpList_append_o1 rfl (.tmp 26) (.tmp 33) rfl V.heap.size _ l (⟨k, ⟨op, key, val, hi2, lim⟩, an0, i, -1⟩, .slice none 0 0) rfl (own_keptO HYO.out ((Below.refl _ _).alloc (Nat.le_refl _) _)) _ _ rfl (fun j u hu => by rw [addP, Nat.zero_add, cell_of_row _ _ _ _ _ (0, 0) (heap_alloc_new Y _)]; simpa [ocells, cacells, ancells, an0] using hu) rfl (by omega) (by have := HYX.out.2; simp; omega) ?_)
        intro v1 w2 hown hg
        have hna := own_keptO HYO.out ((Below.refl _ _).alloc (Nat.le_refl _) (.cells #[.int .i64 (k : Int), .int .i64 op, .int .i64 key, .int .i64 val, .int .i64 hi2, .int .i64 lim, .int .i64 0, .int .i64 0, .int .i64 0, .int .i64 0, .slice none 0 0, .int .i64 (i : Int), .int .i64 (-1)] 41))
        have HN := Lib.hid (show NP U w2 from (HYN.out.trans (NP.alloc _ _)).trans (NP.grown hna hg))
        have HR2 := Lib.hid (show R6 w2 bl 60 (fun j => .int .i64 ((stO L (i + 1)).2 j : Nat)) by
          have h1 := HYR.out.below ((Below.refl _ _).alloc (Nat.le_refl _) (.cells #[.int .i64 (k : Int), .int .i64 op, .int .i64 key, .int .i64 val, .int .i64 hi2, .int .i64 lim, .int .i64 0, .int .i64 0, .int .i64 0, .int .i64 0, .slice none 0 0, .int .i64 (i : Int), .int .i64 (-1)] 41))
          unfold R6
          rw [hg.block bl h1.lt (fun e => by have := own_geO hna _ e.symm; have := HBV.out.2.1; omega)]
          exact h1)
        have HX2 := Lib.hid (show Below w.heap.size w w2 ∧ V.heap.size ≤ w2.heap.size from ⟨(HYX.out.1.alloc HYX.out.1.size _).grown hg (by have := HYX.out.1.size; simp; omega) (fun k hk => by have := own_geO hna _ hk; have := HBV.out; omega), by have := hg.size; have := HYX.out.2; simp at *; omega⟩)
        have HO2 := Lib.hid hown
        clear hna hown hg g0 g2 g3 g4 g5 g6
        go_wp2_with fail
        go_roundw
        case rel =>
          refine ⟨i + 1, l ++ [(⟨k, ⟨op, key, val, hi2, lim⟩, an0, i, -1⟩, .slice none 0 0)], by omega, by go_num, Lib.hid ?_, HO2, Lib.hid ?_, HR2, HX2.out.1, HX2.out.2⟩
          · rw [HS1.out, List.map_append, HL.out]; rfl
          · intro x hx
            rcases List.mem_append.1 hx with hx | hx
            · exact (HUP.out x hx).np HN.out
            · rw [List.mem_singleton.1 hx]; exact PO.nil _
        case measure => simp [intOf]; omega
      · have HS1 := Lib.hid (HST.out.trans (if_pos rfl))
        clear HST
        have hd := HINI.out (k : Int) (by omega) HBK.out.symm
        rw [Int.toNat_natCast] at hd
        rw [← HL.out, List.length_map] at hd
        obtain ⟨d, hdd⟩ : ∃ d, d = (stO L i).2 k := ⟨_, rfl⟩
        rw [← hdd] at hd z0
        have HD := Lib.hid hdd
        clear hdd
        rcases own_sliceO HUO.out with ⟨_, rfl⟩ | ⟨g1, c1, rfl, hc1, hc2, hg1, hg2⟩
        · cases hd
        have hll : l.length ≤ 1000 := by have := HLL.out; omega
        go_upto_region 12 with fail
        obtain ⟨x, hx⟩ : ∃ x, l[d]? = some x := ⟨_, List.getElem?_eq_getElem hd⟩
        have HX2 := Lib.hid hx
        clear hx
        go_wp2_with fail
        refine (hcopied ⟨kind, akey, aval, an, ps⟩ _ U HUPR.out HPLI.out).mono ?_; rintro _ w2 ⟨v2, rfl, ho2, hb2⟩
        obtain ⟨p2, c2, rfl, _, _⟩ := ho2.1.slice
        have HO2 := Lib.hid ho2
        have HB2 := Lib.hid hb2
        have HWO := Lib.hid (own_keptO HUO.out hb2)
        have hcell := fun j hj => own_cellsO HWO.out d x HX2.out j hj
        obtain ⟨⟨t1, ⟨t2, t3, t4, t5, t6⟩, ⟨t7, t8, t9, t10, t11⟩, t12, t13⟩, t14⟩ := x
        have e6 : w2.cell? ⟨g1, d * 13 + 6, none⟩ = some (.int .i64 t7) := hcell 6 (by omega)
        have e7 : w2.cell? ⟨g1, d * 13 + 7, none⟩ = some (.int .i64 t8) := hcell 7 (by omega)
        have e8 : w2.cell? ⟨g1, d * 13 + 8, none⟩ = some (.int .i64 t9) := hcell 8 (by omega)
        have e9 : w2.cell? ⟨g1, d * 13 + 9, none⟩ = some (.int .i64 t10) := hcell 9 (by omega)
        have e10 : w2.cell? ⟨g1, d * 13 + 10, none⟩ = some t14 := hcell 10 (by omega)
        have e12 : w2.cell? ⟨g1, d * 13 + 12, none⟩ = some (.int .i64 t13) := hcell 12 (by omega)
        obtain ⟨cur, hcur⟩ := own_heapO HWO.out
        have ff : ∀ j, w2.frozen? ⟨g1, j, none⟩ = false := fun j => frozen_of_row _ _ _ _ _ hcur
        have HCUR := Lib.hid hcur
        clear ho2 hb2 hcell hcur y0 y1 y2 y3 y4 y5 y6 y7 y8 y9 y10 y11 z0 f0
        go_wp2_with fail
        go_roundw
        case rel =>
          refine ⟨i + 1, l.set d (⟨t1, ⟨t2, t3, t4, t5, t6⟩, ⟨kind, akey, aval, an, ps⟩, t12, (i : Int)⟩, .slice p2 ps.length c2), by omega, by go_num, Lib.hid ?_, Lib.hid (own_setO HWO.out d _ HX2.out ⟨kind, akey, aval, an, ps⟩ _ _), Lib.hid ?_, Lib.hid ?_, ?_, ?_⟩
          · have e : (stO L i).1.getD d o0 = ⟨t1, ⟨t2, t3, t4, t5, t6⟩, ⟨t7, t8, t9, t10, t11⟩, t12, t13⟩ := by
              rw [← HL.out, List.getD_eq_getElem?_getD, List.getElem?_map, HX2.out]; rfl
            rw [HS1.out, List.map_set, HL.out]
            simp only [Int.toNat_natCast, ← HD.out, e]
          · intro x hx
            refine PO.np (w := w2) ?_ (NP.sets g1 (by obtain ⟨cur, hc⟩ := own_heapO HWO.out; exact ⟨cur, _, hc, by decide⟩) (own_set_ne w2 g1 d _ _ _ _ _ _))
            rcases List.mem_or_eq_of_mem_set hx with hx | rfl
            · exact (HUP.out x hx).np (NP.below HB2.out)
            · exact HO2.out
          · unfold R6
            rw [own_set_ne w2 g1 d _ _ _ _ _ _ bl (by have := HBV.out.2.1; omega)]
            rw [HS1.out]
            exact HUR.out.below HB2.out
          · have hg0 : w.heap.size ≤ g1 := by have := HBV.out; omega
            exact ((((((HUX.out.1.trans (HB2.out.mono HUX.out.1.size)).setCell (p := ⟨g1, d * 13 + 6, none⟩) hg0 _).setCell (p := ⟨g1, d * 13 + 7, none⟩) hg0 _).setCell (p := ⟨g1, d * 13 + 8, none⟩) hg0 _).setCell (p := ⟨g1, d * 13 + 9, none⟩) hg0 _).setCell (p := ⟨g1, d * 13 + 10, none⟩) hg0 _).setCell (p := ⟨g1, d * 13 + 12, none⟩) hg0 _
          · have := HUX.out.2; have := HB2.out.size; simp; omega
        case measure => simp [intOf]; omega
    · have hge : n ≤ i := by omega
      subst heq
      clear hbx hvx
      go_wp2_with fail
      (try go_ret)
      rw [HQ.out]
      exact ⟨_, l, rfl, HL.out, own_lowO HO.out (by have := HBV.out; omega), HPO.out, HX.out.1⟩
end Go.Proofs.Ytilfgekiblpkaaa
