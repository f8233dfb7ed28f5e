/- Layer 42: ShrinkParts. -/
import Derived.Test.YtaammkmnhhipgaaShrL
namespace Go.Proofs.Ytaammkmnhhipgaa
open Go.RowKit
set_option linter.unusedVariables false
set_option linter.unusedSimpArgs false
abbrev entSh : List Fr.Sh := [.int .i64, .bool, .int .i64, .int .i64, .int .i64, .int .i64, .int .i64]
theorem ent_cells {w : World} {cs : List Value} (h : Fr.Sh.oks w entSh cs) : ∃ e : Ent, cs = ecells e := by
  obtain ⟨_, _, rfl, k0, h⟩ := Fr.get_cons h
  obtain ⟨_, _, rfl, k1, h⟩ := Fr.get_cons h
  obtain ⟨_, _, rfl, k2, h⟩ := Fr.get_cons h
  obtain ⟨_, _, rfl, k3, h⟩ := Fr.get_cons h
  obtain ⟨_, _, rfl, k4, h⟩ := Fr.get_cons h
  obtain ⟨_, _, rfl, k5, h⟩ := Fr.get_cons h
  obtain ⟨_, _, rfl, k6, h⟩ := Fr.get_cons h
  obtain rfl := Fr.get_nil h
  obtain ⟨a, rfl, _⟩ := Fr.get_int k0
  obtain ⟨b, rfl⟩ := Fr.get_bool k1
  obtain ⟨c, rfl, _⟩ := Fr.get_int k2
  obtain ⟨d, rfl, _⟩ := Fr.get_int k3
  obtain ⟨e, rfl, _⟩ := Fr.get_int k4
  obtain ⟨f, rfl, _⟩ := Fr.get_int k5
  obtain ⟨g, rfl, _⟩ := Fr.get_int k6
  exact ⟨⟨a, b, c, d, e, f, g⟩, rfl⟩
theorem ents_open {w : World} {v : Value} (h : Fr.ok1 w (.slice entSh) v) : ∃ n L, ER w v n L := by
  rcases Fr.get_slice h with rfl | ⟨a, len, cap, rfl, h1, h2, h3⟩
  · exact ⟨0, fun _ => ⟨0, false, 0, 0, 0, 0, 0⟩, .nil _⟩
  · rcases (by omega : len = 0 ∨ 0 < len) with rfl | h0
    · exact ⟨0, fun _ => ⟨0, false, 0, 0, 0, 0, 0⟩, .odd a cap _ h2⟩
    · obtain ⟨cs0, h5, h6⟩ := h3 0 (by omega)
      obtain ⟨e, rfl⟩ := ent_cells h6
      have hs : a.spot = none := by
        have h7 := (World.cells?_some h5).2.2 0 (by decide)
        exact World.cell?_spot (by simpa [Addr.add, ecells] using h7)
      obtain ⟨g, off, spot⟩ := a
      simp only at hs
      subst hs
      have hall : ∀ i, ∃ e : Ent, i < len → ∀ j, j < 7 → w.cell? ⟨g, off + (i * 7 + j), none⟩ = (ecells e)[j]? := by
        intro i
        by_cases hi : i < len
        · obtain ⟨cs, h5, h6⟩ := h3 i (by omega)
          obtain ⟨e, rfl⟩ := ent_cells h6
          obtain ⟨_, _, h7⟩ := World.cells?_some h5
          refine ⟨e, fun _ j hj => ?_⟩
          have h8 := h7 j (by exact hj)
          have e1 : ((⟨g, off, none⟩ : Addr).add (i * entSh.length)) = ⟨g, off + i * 7, none⟩ := addE _ _ _
          rw [e1] at h8
          have e2 : ((⟨g, off + i * 7, none⟩ : Addr).add j) = ⟨g, off + (i * 7 + j), none⟩ := by rw [addE, Nat.add_assoc]
          rw [e2] at h8
          rw [h8]
        · exact ⟨⟨0, false, 0, 0, 0, 0, 0⟩, fun h => absurd h hi⟩
      obtain ⟨L, hL⟩ := Classical.axiomOfChoice hall
      exact ⟨len, L, .row g off len cap L h1 h2 hL⟩
theorem list_open {w : World} {v : Value} (h : Fr.ok1 w (.slice entSh) v) : ∃ l : List Ent, EL w v l := by
  obtain ⟨n, L, h⟩ := ents_open h
  exact ⟨_, h.toList⟩
theorem own_none7 (w : World) : OwnL (w.alloc (.cells #[] 43)) w.heap.size (.slice (some ⟨w.heap.size, 0, none⟩) 0 0) [] :=
  ⟨rfl, .inr ⟨_, 0, _, rfl, Nat.le_refl _, heap_alloc_new w _, Nat.le_refl _, by decide, rfl, rfl⟩⟩
theorem lcells_set (l : List Ent) (i : Nat) (e : Ent) (hi : i < l.length) :
    (((((((lcells l).set (i * 7) (.int .i64 e.th)).set (i * 7 + 1) (.bool e.bg)).set (i * 7 + 2) (.int .i64 e.op)).set (i * 7 + 3) (.int .i64 e.key)).set (i * 7 + 4) (.int .i64 e.val)).set (i * 7 + 5) (.int .i64 e.hi)).set (i * 7 + 6) (.int .i64 e.lim) = lcells (l.set i e) := by
  induction l generalizing i with
  | nil => simp at hi
  | cons a l ih =>
    cases i with
    | zero => simp [lcells, ecells]
    | succ i =>
      have hi' : i < l.length := by simpa using hi
      have h := ih i hi'
      have e1 : lcells (a :: l) = ecells a ++ lcells l := by simp [lcells]
      have e2 : lcells ((a :: l).set (i + 1) e) = ecells a ++ lcells (l.set i e) := by simp [lcells]
      have hl : ∀ (x : List Value) (k : Nat) (u : Value), (ecells a ++ x).set ((i + 1) * 7 + k) u = ecells a ++ x.set (i * 7 + k) u := by
        intro x k u
        rw [List.set_append_right _ _ (by show 7 ≤ _; omega)]
        congr 2
        show (i + 1) * 7 + k - 7 = _
        omega
      have h0 := fun x u => hl x 0 u
      simp only [Nat.add_zero] at h0
      rw [e1, e2, h0, hl, hl, hl, hl, hl, hl, h]
theorem take_set {n k : Nat} (x : List Value) (u : Value) (h : k < n) : (x.set k u).take n = (x.take n).set k u := by
  rw [List.take_set]
/-- The world in which an entry of a row was written. -/
abbrev setE (w : World) (g i : Nat) (e : Ent) : World := ((((((w.setCell ⟨g, i * 7, none⟩ (.int .i64 e.th)).setCell ⟨g, i * 7 + 1, none⟩ (.bool e.bg)).setCell ⟨g, i * 7 + 2, none⟩ (.int .i64 e.op)).setCell ⟨g, i * 7 + 3, none⟩ (.int .i64 e.key)).setCell ⟨g, i * 7 + 4, none⟩ (.int .i64 e.val)).setCell ⟨g, i * 7 + 5, none⟩ (.int .i64 e.hi)).setCell ⟨g, i * 7 + 6, none⟩ (.int .i64 e.lim)
theorem own_set {w : World} {B g c : Nat} {l : List Ent} (h : OwnL w B (.slice (some ⟨g, 0, none⟩) l.length c) l) (i : Nat) (e : Ent) (hi : i < l.length) : OwnL (setE w g i e) B (.slice (some ⟨g, 0, none⟩) l.length c) (l.set i e) := by
  rcases h.2 with ⟨hv, _⟩ | ⟨g', cap, cur, hv, hb, hh, h1, h2, h3, h4⟩
  · cases hv
  · simp only [Value.slice.injEq, Option.some.injEq, Addr.mk.injEq, true_and, and_true] at hv
    obtain ⟨rfl, rfl⟩ := hv
    have h5 := heap_setCell_same w g (i * 7) cur _ (.int .i64 e.th) hh
    have h6 := heap_setCell_same _ g (i * 7 + 1) _ _ (.bool e.bg) h5
    have h7 := heap_setCell_same _ g (i * 7 + 2) _ _ (.int .i64 e.op) h6
    have h8 := heap_setCell_same _ g (i * 7 + 3) _ _ (.int .i64 e.key) h7
    have h9 := heap_setCell_same _ g (i * 7 + 4) _ _ (.int .i64 e.val) h8
    have h10 := heap_setCell_same _ g (i * 7 + 5) _ _ (.int .i64 e.hi) h9
    have h11 := heap_setCell_same _ g (i * 7 + 6) _ _ (.int .i64 e.lim) h10
    clear h5 h6 h7 h8 h9 h10
    have hlen : (l.set i e).length = l.length := List.length_set
    refine ⟨by rw [lcells_len], .inr ⟨g, c, _, by rw [hlen], hb, h11, by rw [hlen]; exact h1, h2, ?_, ?_⟩⟩
    · simp only [Array.size_setIfInBounds]; exact h3
    · rw [hlen, ← lcells_set l i e hi, ← h4]
      simp only [Array.toList_setIfInBounds, List.take_set]
set_option maxHeartbeats 4000000 in
theorem shrinkParts_walk (v0 v1 v2 : Value) (w : World) (s0 : Fr.okN w [.int .i64, .int .i64, .int .u64, .slice [.int .i64, .bool, .int .i64, .int .i64, .int .i64, .int .i64, .int .i64]] v0) (s1 : Fr.ok1 w (.int .i64) v1) (s2 : Fr.ok1 w (.int .i64) v2) :
    Calls Try.prog 4 #[v0, v1, v2] w fun e w' => e = .returned (.bool true) ∧ Below w.heap.size w w' := by
  obtain ⟨cs, rfl, s0⟩ := s0
  obtain ⟨_, _, rfl, k0, s0⟩ := Fr.get_cons s0
  obtain ⟨_, _, rfl, k1, s0⟩ := Fr.get_cons s0
  obtain ⟨_, _, rfl, k2, s0⟩ := Fr.get_cons s0
  obtain ⟨v, _, rfl, k3, s0⟩ := Fr.get_cons s0
  obtain rfl := Fr.get_nil s0
  obtain ⟨T, rfl, _⟩ := Fr.get_int k0
  obtain ⟨S, rfl, _⟩ := Fr.get_int k1
  obtain ⟨C, rfl, _⟩ := Fr.get_int k2
  obtain ⟨f, rfl, _⟩ := Fr.get_int s1
  obtain ⟨m, rfl, _⟩ := Fr.get_int s2
  obtain ⟨l, hE⟩ := list_open k3
  clear k0 k1 k2 k3 s0 s1 s2
  show Calls _ _ #[.agg #[.int .i64 T, .int .i64 S, .int .u64 C, v], .int .i64 f, .int .i64 m] _ _
  refine Calls.veil fun Q HQ => ?_
  have HE := Lib.hid hE
  obtain ⟨p, c, rfl, a1, a2⟩ := hE.slice
  clear hE
  rcases (by omega : 200 < l.length ∨ l.length ≤ 200) with hn | hn
  · go_enter Try.func4, Try.ntmps4
    go_wp2_with fail
    refine (lives42_calls _).mono ?_; rintro _ w2 ⟨rfl, hb2⟩
    have HF := Lib.hid (show Below w.heap.size w w2 from below_on (by (repeat (first | exact Below.refl _ _ | assumption | refine below_new ?_ _ | refine Below.drew ?_ | refine below_drewN ?_ _ | refine below_on ?_ (by assumption)))) hb2)
    clear hb2
    go_wp2_with fail
    (try go_ret)
    rw [HQ.out]
    exact ⟨rfl, HF.out⟩
  · go_enter Try.func4, Try.ntmps4
    go_wp2_with fail
    generalize hV : World.alloc w _ = V
    have HBV := Lib.hid (show Below w.heap.size w V by rw [← hV]; (repeat (first | exact Below.refl _ _ | assumption | refine below_new ?_ _ | refine Below.drew ?_ | refine below_drewN ?_ _ | refine below_on ?_ (by assumption))))
    have Z : Hid (∀ x : Ext V, x.w.cell? ⟨w.heap.size, 0, none⟩ = some (.int .i64 T) ∧ x.w.cell? ⟨w.heap.size, 1, none⟩ = some (.int .i64 S) ∧ x.w.cell? ⟨w.heap.size, 2, none⟩ = some (.int .u64 C) ∧ x.w.cell? ⟨w.heap.size, 3, none⟩ = some (.slice p l.length c)) :=
      Lib.hid fun x => ⟨Ext.made hV 0 _ rfl x, Ext.made hV 1 _ rfl x, Ext.made hV 2 _ rfl x, Ext.made hV 3 _ rfl x⟩
    have HEV := Lib.hid (HE.out.below HBV.out)
    clear hV
    refine (swithout T S C f m l _ V HEV.out (by omega)).mono ?_; rintro _ w2 ⟨v2, rfl, ho2, hb2⟩
    obtain ⟨p2, c2, rfl, _, _⟩ := own_slice ho2
    have HO2 := Lib.hid ho2
    have HB2 := Lib.hid hb2
    clear ho2 hb2
    go_upto_region 4 with fail
    generalize hU : World.alloc w2 _ = U
    have HBU := Lib.hid (show Below V.heap.size V U by rw [← hU]; exact HB2.out.alloc HB2.out.size _)
    have X : Hid (∀ x : Ext U, x.w.cell? ⟨w2.heap.size, 0, none⟩ = some (.int .i64 T) ∧ x.w.cell? ⟨w2.heap.size, 1, none⟩ = some (.int .i64 S) ∧ x.w.cell? ⟨w2.heap.size, 2, none⟩ = some (.int .u64 C) ∧ x.w.cell? ⟨w2.heap.size, 3, none⟩ = some (.slice p2 (wo l f m).length c2)) :=
      Lib.hid fun x => ⟨Ext.made hU 0 _ rfl x, Ext.made hU 1 _ rfl x, Ext.made hU 2 _ rfl x, Ext.made hU 3 _ rfl x⟩
    have HXU := Lib.hid (show EL U (.slice p2 (wo l f m).length c2) (wo l f m) by rw [← hU]; exact ER.alloc (own_EL HO2.out) _)
    clear hU
    generalize w2.heap.size = q at *
    have c3 := Ext.on (Z.out ⟨U, HBU.out⟩).2.2.2
    simp only at c3
    have HSU := Lib.hid (show EL (U.alloc (.cells #[] 43)) (.slice p l.length c) l from ER.alloc (HEV.out.below HBU.out) _)
    go_wp2_with (at_builtin; refine wpList_append_el rfl _ _ rfl U.heap.size _ [] l rfl (own_none7 U) _ rfl HSU.out (by simp; omega) (by simp) ?_)
    intro v4 w4 ho4 hg4
    have ho4 : OwnL w4 U.heap.size v4 l := by simpa using ho4
    have HB4 := Lib.hid (grow_stepE (W := U) (own_none7 U) ((Below.refl U.heap.size U).alloc (Nat.le_refl _) _) (Nat.le_refl _) hg4)
    obtain ⟨p4, c4, rfl, d1, d2⟩ := own_slice ho4
    have H4 := Lib.hid ho4
    have HG4 : Hid (0 < l.length → ∃ g, p4 = some ⟨g, 0, none⟩) := by
      refine Lib.hid fun h0 => ?_
      rcases ho4.2 with ⟨hv, h1⟩ | ⟨g, cap, cur, hv, _⟩
      · omega
      · simp only [Value.slice.injEq] at hv
        exact ⟨g, hv.1⟩
    clear ho4 hg4 c3 HSU HO2 HB2
    go_wp2_with fail
    go_loopw [9] (fun iv wr => ∃ i : Nat, i ≤ l.length ∧ iv = .int .i64 i ∧ Hid (∃ bl : List Ent, bl.length = l.length ∧ OwnL wr U.heap.size (.slice p4 l.length c4) bl) ∧ Below U.heap.size U wr)
      (fun iv _ => l.length - (intOf iv).toNat)
    case atStart => exact ⟨0, by omega, rfl, Lib.hid ⟨l, rfl, H4.out⟩, HB4.out⟩
    case round =>
      obtain ⟨i, hi, rfl, HJ, hbx⟩ := hrel
      clear H4 HB4
      have HX := Lib.hid hbx
      clear hbx
      have HVX := Lib.hid (below_on HBU.out HX.out)
      rcases (by omega : i < l.length / 2 ∨ l.length / 2 ≤ i) with hlt | hge
      · obtain ⟨g4, rfl⟩ := HG4.out (by omega)
        obtain ⟨bl, hbl, hob⟩ := HJ.out
        clear HJ
        obtain ⟨j, hj⟩ : ∃ j : Nat, ((l.length : Int) - 1 - (i : Int)) = (j : Int) := ⟨l.length - 1 - i, by omega⟩
        have hjl : j < l.length := by omega
        have c3 := (Z.out ⟨wr, HVX.out⟩).2.2.2
        simp only at c3
        obtain ⟨p', c', he, _, _, A3⟩ := (HEV.out.below HVX.out).parts
        obtain ⟨rfl, rfl⟩ : p = p' ∧ c = c' := by injection he with e1 _ e2; exact ⟨e1, e2⟩
        obtain ⟨g, o, rfl, hA⟩ := A3.out (by omega)
        have hA := hA.cells j hjl
        generalize fn l j = e at hA
        have HB := Lib.hid hob
        have hR : ∃ cur, wr.heap[g4]? = some (.cells cur 43 (0, 0)) := by
          rcases hob.2 with ⟨hv, _⟩ | ⟨g', cap, cur, hv, _, hh, _⟩
          · cases hv
          · simp only [Value.slice.injEq, Option.some.injEq, Addr.mk.injEq, true_and, and_true] at hv
            obtain ⟨rfl, _⟩ := hv
            exact ⟨cur, hh⟩
        obtain ⟨cur, hR⟩ := hR
        have hf : ∀ k, wr.frozen? ⟨g4, k, none⟩ = false := fun k => frozen_of_row _ _ _ _ _ hR
        have hC : ∀ k, k < 7 → wr.cell? ⟨g4, i * 7 + k, none⟩ = (ecells (fn bl i))[k]? := by
          intro k hk
          obtain ⟨p', c', he', _, _, B3⟩ := (own_EL hob).parts
          obtain ⟨g', o', hp', hB⟩ := B3.out (by rw [hbl]; omega)
          rw [hbl] at he'
          simp only [Value.slice.injEq, true_and] at he'
          rw [hp'] at he'
          simp only [Option.some.injEq, Addr.mk.injEq, and_true] at he'
          obtain ⟨⟨rfl, rfl⟩, _⟩ := he'
          have := hB i (by rw [hbl]; omega) k hk
          rwa [Nat.zero_add] at this
        have q0 := hC 0 (by omega); have q1 := hC 1 (by omega); have q2 := hC 2 (by omega); have q3 := hC 3 (by omega); have q4 := hC 4 (by omega); have q5 := hC 5 (by omega); have q6 := hC 6 (by omega)
        simp only [Nat.add_zero, ecells, List.getElem?_cons_zero, List.getElem?_cons_succ] at q0 q1 q2 q3 q4 q5 q6
        have HSET := Lib.hid (show ∀ e : Ent, ∃ b2 : List Ent, b2.length = l.length ∧ OwnL (setE wr g4 i e) U.heap.size (.slice (some ⟨g4, 0, none⟩) l.length c4) b2 from fun e => by
          have h := hob
          rw [← hbl] at h
          have h2 := own_set h i e (by rw [hbl]; omega)
          rw [hbl] at h2
          exact ⟨_, by rw [List.length_set, hbl], h2⟩)
        have HGB := Lib.hid (show U.heap.size ≤ g4 from own_geE hob g4 rfl)
        clear hob hC hR A3 he
        obtain ⟨th, bg, op, key, val, hi2, lim⟩ := e
        simp only at hA
        obtain ⟨x0, x1, x2, x3, x4, x5, x6⟩ := hA
        go_wp2_with fail
        go_roundw
        case rel => exact ⟨i + 1, by omega, by go_num, Lib.hid (HSET.out ⟨th, bg, op, key, val, hi2, lim⟩), ((((((HX.out.setCell (p := ⟨g4, i * 7, none⟩) HGB.out _).setCell (p := ⟨g4, i * 7 + 1, none⟩) HGB.out _).setCell (p := ⟨g4, i * 7 + 2, none⟩) HGB.out _).setCell (p := ⟨g4, i * 7 + 3, none⟩) HGB.out _).setCell (p := ⟨g4, i * 7 + 4, none⟩) HGB.out _).setCell (p := ⟨g4, i * 7 + 5, none⟩) HGB.out _).setCell (p := ⟨g4, i * 7 + 6, none⟩) HGB.out _⟩
        case measure => simp [intOf]; omega
      · obtain ⟨bl, hbl, hob⟩ := HJ.out
        clear HJ HG4
        have HOB := Lib.hid (show EL wr (.slice p4 l.length c4) bl by have := own_EL hob; exact this)
        have HSL := Lib.hid (HEV.out.below HVX.out)
        have HXL := Lib.hid (HXU.out.below HX.out)
        have hz := fun x : Ext wr => Z.out ⟨x.w, below_on HVX.out x.h⟩
        have hx := fun x : Ext wr => X.out ⟨x.w, below_on HX.out x.h⟩
        have z0 : ∀ x : Ext wr, x.w.cell? ⟨w.heap.size, 0, none⟩ = some (.int .i64 T) := fun x => (hz x).1
        have z1 : ∀ x : Ext wr, x.w.cell? ⟨w.heap.size, 1, none⟩ = some (.int .i64 S) := fun x => (hz x).2.1
        have z2 : ∀ x : Ext wr, x.w.cell? ⟨w.heap.size, 2, none⟩ = some (.int .u64 C) := fun x => (hz x).2.2.1
        have z3 : ∀ x : Ext wr, x.w.cell? ⟨w.heap.size, 3, none⟩ = some (.slice p l.length c) := fun x => (hz x).2.2.2
        have x0 : ∀ x : Ext wr, x.w.cell? ⟨q, 0, none⟩ = some (.int .i64 T) := fun x => (hx x).1
        have x1 : ∀ x : Ext wr, x.w.cell? ⟨q, 1, none⟩ = some (.int .i64 S) := fun x => (hx x).2.1
        have x2 : ∀ x : Ext wr, x.w.cell? ⟨q, 2, none⟩ = some (.int .u64 C) := fun x => (hx x).2.2.1
        have x3 : ∀ x : Ext wr, x.w.cell? ⟨q, 3, none⟩ = some (.slice p2 (wo l f m).length c2) := fun x => (hx x).2.2.2
        have HWL := Lib.hid (wo_len l f m)
        have HSUB := Lib.hid (show (wo l f m).isSublist l = true by rw [List.isSublist_iff_sublist]; exact wo_sub l f m)
        have RW := fun (y : Ext wr) => rwithout f m l _ y.w (HSL.out.below y.h) (by omega)
        generalize wo l f m = lx at *
        have RW := Lib.hid RW
        have SP1 := Lib.hid (fun (y : Ext wr) => spart lx l _ _ y.w (HXL.out.below y.h) (HSL.out.below y.h) (by have := HWL.out; omega) (by omega))
        have SP2 := Lib.hid (fun (y : Ext wr) => spart bl l _ _ y.w (HOB.out.below y.h) (HSL.out.below y.h) (by rw [hbl]; omega) (by omega))
        have RP2 := Lib.hid (fun (y : Ext wr) => rpart bl l _ _ y.w (HOB.out.below y.h) (HSL.out.below y.h) (by rw [hbl]; omega) (by omega))
        have SP3 := Lib.hid (fun (y : Ext wr) => spart lx bl _ _ y.w (HXL.out.below y.h) (HOB.out.below y.h) (by have := HWL.out; omega) (by rw [hbl]; omega))
        have RP3 := Lib.hid (fun (y : Ext wr) => rpart lx bl _ _ y.w (HXL.out.below y.h) (HOB.out.below y.h) (by have := HWL.out; omega) (by rw [hbl]; omega))
        rw [HSUB.out] at SP1
        generalize bl.isSublist l = g2 at *
        generalize lx.isSublist bl = g3 at *
        clear hz hx hob
        go_upto_region 9 with fail
        (with_reducible refine wp_region_mix (fun w' => ∃ y : Ext wr, w' = y.w) ?_ ?_ ?_ ?_; kernel_rfl; kernel_rfl; exact ⟨⟨wr.drew, (Below.refl _ _).drew⟩, rfl⟩)
        repeat (first | ((with_reducible refine mix_plain (by kernel_rfl) ?_); (first | go_big_quiet_skip | (go_big_quiet_want; go_big_quiet_op; go_big_quiet_on)); (with_reducible refine mix_on ?_)) | ((with_reducible refine mix_skip (by kernel_rfl) ?_); go_big_quiet_skip; (with_reducible refine mix_on ?_)))
        ((with_reducible refine wpMix_chain (by kernel_rfl) (by kernel_rfl) (fun K HK => ?_)); go_step)
        refine (RW.out ⟨_, (Below.refl _ _).drew⟩).mono ?_; rintro _ y1 ⟨u1, rfl, ho1, hb1⟩
        have HY1 := Lib.hid (show Below wr.heap.size wr y1 from below_on (Below.refl _ _).drew hb1)
        have HU1 := Lib.hid (own_EL ho1)
        obtain ⟨p5, c5, rfl, _, _⟩ := own_slice ho1
        refine HK.out _ _ ⟨⟨y1, HY1.out⟩, rfl⟩ ?_
        clear HK K hb1 ho1
        repeat (first | ((with_reducible refine mix_plain (by kernel_rfl) ?_); (first | go_big_quiet_skip | (go_big_quiet_want; go_big_quiet_op; go_big_quiet_on)); (with_reducible refine mix_on ?_)) | ((with_reducible refine mix_skip (by kernel_rfl) ?_); go_big_quiet_skip; (with_reducible refine mix_on ?_)))
        ((with_reducible refine wpMix_chain (by kernel_rfl) (by kernel_rfl) (fun K HK => ?_)); go_step)
        refine (rsame lx _ _ y1 (HXL.out.below HY1.out) HU1.out (by have := HWL.out; omega)).mono ?_; rintro _ y2 ⟨rfl, hb1⟩
        have HY2 := Lib.hid (show Below wr.heap.size wr y2 from below_on HY1.out hb1)
        refine HK.out _ _ ⟨⟨y2, HY2.out⟩, rfl⟩ ?_
        clear HK K hb1
        repeat (first | ((with_reducible refine mix_plain (by kernel_rfl) ?_); (first | go_big_quiet_skip | (go_big_quiet_want; go_big_quiet_op; go_big_quiet_on)); (with_reducible refine mix_on ?_)) | ((with_reducible refine mix_skip (by kernel_rfl) ?_); go_big_quiet_skip; (with_reducible refine mix_on ?_)))
        ((with_reducible refine wpMix_chain (by kernel_rfl) (by kernel_rfl) (fun K HK => ?_)); go_step)
        refine (SP1.out ⟨_, HY2.out⟩).mono ?_; rintro _ y3 ⟨rfl, hb1⟩
        have HY3 := Lib.hid (show Below wr.heap.size wr y3 from below_on HY2.out hb1)
        refine HK.out _ _ ⟨⟨y3, HY3.out⟩, rfl⟩ ?_
        clear HK K hb1
        repeat (first | ((with_reducible refine mix_plain (by kernel_rfl) ?_); (first | go_big_quiet_skip | (go_big_quiet_want; go_big_quiet_op; go_big_quiet_on)); (with_reducible refine mix_on ?_)) | ((with_reducible refine mix_skip (by kernel_rfl) ?_); go_big_quiet_skip; (with_reducible refine mix_on ?_)))
        ((with_reducible refine wpMix_chain (by kernel_rfl) (by kernel_rfl) (fun K HK => ?_)); go_step)
        refine (SP2.out ⟨_, HY3.out⟩).mono ?_; rintro _ y4 ⟨rfl, hb1⟩
        have HY4 := Lib.hid (show Below wr.heap.size wr y4 from below_on HY3.out hb1)
        refine HK.out _ _ ⟨⟨y4, HY4.out⟩, rfl⟩ ?_
        clear HK K hb1
        repeat (first | ((with_reducible refine mix_plain (by kernel_rfl) ?_); (first | go_big_quiet_skip | (go_big_quiet_want; go_big_quiet_op; go_big_quiet_on)); (with_reducible refine mix_on ?_)) | ((with_reducible refine mix_skip (by kernel_rfl) ?_); go_big_quiet_skip; (with_reducible refine mix_on ?_)))
        ((with_reducible refine wpMix_chain (by kernel_rfl) (by kernel_rfl) (fun K HK => ?_)); go_step)
        refine (RP2.out ⟨_, HY4.out⟩).mono ?_; rintro _ y5 ⟨rfl, hb1⟩
        have HY5 := Lib.hid (show Below wr.heap.size wr y5 from below_on HY4.out hb1)
        refine HK.out _ _ ⟨⟨y5, HY5.out⟩, rfl⟩ ?_
        clear HK K hb1
        repeat (first | ((with_reducible refine mix_plain (by kernel_rfl) ?_); (first | go_big_quiet_skip | (go_big_quiet_want; go_big_quiet_op; go_big_quiet_on)); (with_reducible refine mix_on ?_)) | ((with_reducible refine mix_skip (by kernel_rfl) ?_); go_big_quiet_skip; (with_reducible refine mix_on ?_)))
        ((with_reducible refine wpMix_chain (by kernel_rfl) (by kernel_rfl) (fun K HK => ?_)); go_step)
        refine (SP3.out ⟨_, HY5.out⟩).mono ?_; rintro _ y6 ⟨rfl, hb1⟩
        have HY6 := Lib.hid (show Below wr.heap.size wr y6 from below_on HY5.out hb1)
        refine HK.out _ _ ⟨⟨y6, HY6.out⟩, rfl⟩ ?_
        clear HK K hb1
        repeat (first | ((with_reducible refine mix_plain (by kernel_rfl) ?_); (first | go_big_quiet_skip | (go_big_quiet_want; go_big_quiet_op; go_big_quiet_on)); (with_reducible refine mix_on ?_)) | ((with_reducible refine mix_skip (by kernel_rfl) ?_); go_big_quiet_skip; (with_reducible refine mix_on ?_)))
        ((with_reducible refine wpMix_chain (by kernel_rfl) (by kernel_rfl) (fun K HK => ?_)); go_step)
        refine (RP3.out ⟨_, HY6.out⟩).mono ?_; rintro _ y7 ⟨rfl, hb1⟩
        have HY7 := Lib.hid (show Below wr.heap.size wr y7 from below_on HY6.out hb1)
        refine HK.out _ _ ⟨⟨y7, HY7.out⟩, rfl⟩ ?_
        clear HK K hb1
        repeat (first | ((with_reducible refine mix_plain (by kernel_rfl) ?_); (first | go_big_quiet_skip | (go_big_quiet_want; go_big_quiet_op; go_big_quiet_on)); (with_reducible refine mix_on ?_)) | ((with_reducible refine mix_skip (by kernel_rfl) ?_); go_big_quiet_skip; (with_reducible refine mix_on ?_)))
        ((with_reducible refine wpMix_chain (by kernel_rfl) (by kernel_rfl) (fun K HK => ?_)); go_step)
        refine (lives42_calls _).mono ?_; rintro _ y8 ⟨rfl, hb1⟩
        have HY8 := Lib.hid (show Below wr.heap.size wr y8 from below_on HY7.out hb1)
        refine HK.out _ _ ⟨⟨y8, HY8.out⟩, rfl⟩ ?_
        clear HK K hb1
        repeat (first | ((with_reducible refine mix_plain (by kernel_rfl) ?_); (first | go_big_quiet_skip | (go_big_quiet_want; go_big_quiet_op; go_big_quiet_on)); (with_reducible refine mix_on ?_)) | ((with_reducible refine mix_skip (by kernel_rfl) ?_); go_big_quiet_skip; (with_reducible refine mix_on ?_)))
        refine wpMix_nil ?_
        have HF := Lib.hid (below_on HBV.out (below_on HVX.out HY8.out))
        clear z0 z1 z2 z3 x0 x1 x2 x3
        go_wp2_with fail
        (try go_ret)
        rw [HQ.out]
        exact ⟨rfl, HF.out⟩
end Go.Proofs.Ytaammkmnhhipgaa
