/- Layer 8's contracts: the reference's At; floor and ceiling. -/
import Derived.Test.YtkgfhomoipbjoaaDoorPairB
namespace Go.Proofs.YtkgfhomoipbjoaaDoor
open Go.RowKit
set_option linter.unusedVariables false
set_option linter.unusedSimpArgs false

set_option maxHeartbeats 2000000 in
theorem rat (l : PL) (v : Value) (key : Int) (w : World) (h : PR w v l) (hn : l.length ≤ 100000) :
    Calls Tryd.prog 18 #[v, .int .i64 key] w fun e w' => e = .returned (.tuple #[.int .i64 (lbN l key), .bool (hereB l key)]) ∧ Below w.heap.size w w' := by
  refine Calls.veil fun Q HQ => ?_
  rcases (by omega : l.length = 0 ∨ 0 < l.length) with h0 | h0
  · have e : l = [] := List.eq_nil_of_length_eq_zero h0
    subst e
    obtain ⟨p, c, rfl, _, _⟩ := h.slice
    clear h h0
    show Calls _ _ #[.slice _ 0 _, _] _ _
    go_enter Tryd.func18, Tryd.ntmps18
    go_wp2_with fail
    refine wp_loop_rounds 1 ?_
    rw [rounds_succ]
    go_wp2_with fail
    (try go_ret2)
    rw [HQ.out]
    exact ⟨rfl, Below.refl _ _⟩
  · obtain ⟨g, o, c, rfl, h1, h2, H3⟩ := h.opened h0
    clear h
    go_enter Tryd.func18, Tryd.ntmps18
    go_wp2_with fail
    go_loopw [6, 7, 8] (fun nv tv iv wr => ∃ (i x : Nat) (t : Bool), i ≤ l.length ∧ x ≤ i ∧ nv = .int .i64 x ∧ tv = .bool t ∧ iv = .int .i64 i ∧ Hid (x = lbN (l.take i) key ∧ t = hereB (l.take i) key) ∧ Below w.heap.size w wr)
      (fun _ _ iv _ => l.length - (intOf iv).toNat)
    case atStart => exact ⟨0, 0, false, by omega, by omega, rfl, rfl, rfl, Lib.hid ⟨rfl, rfl⟩, Below.refl _ _⟩
    case round =>
      obtain ⟨i, x, t, hi, hx, rfl, rfl, rfl, HX, hbel⟩ := hrel
      rcases (by omega : i < l.length ∨ i = l.length) with hlt | heq
      · have c0 := Ext.cell ⟨wr, hbel⟩ (H3.out i hlt).1
        simp only at c0
        have HN : Hid (lbN (l.take (i + 1)) key = x + (if ky l i < key then 1 else 0) ∧ hereB (l.take (i + 1)) key = (t || ky l i == key)) := by
          rw [take_one hlt, lbN_snoc, hereB_snoc, ← HX.out.1, ← HX.out.2]; exact Lib.hid ⟨rfl, rfl⟩
        rcases (by omega : ky l i < key ∨ key ≤ ky l i) with hc | hc
        all_goals
          cases t
          · cases hE : (ky l i == key)
            all_goals
              have HE := Lib.hid hE
              have HC := Lib.hid hc
              go_wp2_with fail
              go_roundw
              case rel =>
                have h1 := HN.out.1; have h2 := HN.out.2
                rw [HE.out] at h2
                first | rw [if_pos HC.out] at h1 | rw [if_neg (by have := HC.out; omega)] at h1
                exact ⟨i + 1, _, _, by omega, by omega, by first | rfl | go_num, rfl, by go_num, Lib.hid ⟨h1.symm, h2.symm⟩, hbel⟩
              case measure => simp [intOf]; omega
          · have HC := Lib.hid hc
            go_wp2_with fail
            go_roundw
            case rel =>
              have h1 := HN.out.1; have h2 := HN.out.2
              first | rw [if_pos HC.out] at h1 | rw [if_neg (by have := HC.out; omega)] at h1
              exact ⟨i + 1, _, true, by omega, by omega, by first | rfl | go_num, rfl, by go_num, Lib.hid ⟨h1.symm, h2.symm⟩, hbel⟩
            case measure => simp [intOf]; omega
      · have HE := Lib.hid heq
        have hge : l.length ≤ i := by omega
        clear heq
        go_wp2_with fail
        (try go_ret2)
        rw [HQ.out]
        have h1 := HX.out.1; have h2 := HX.out.2
        rw [HE.out, List.take_length] at h1 h2
        exact ⟨by rw [← h1, ← h2]; rfl, hbel⟩
set_option maxHeartbeats 2000000 in
theorem pfloor (l : PL) (v : Value) (key : Int) (w : World) (h : PR w v l) (hr : riseB l = true) (hn : l.length ≤ 100000) :
    Calls Tryd.prog 48 #[v, .int .i64 key] w fun e w' => e = .returned (.tuple #[.agg #[.int .i64 (opt (floorL l key)).1, .int .i64 (opt (floorL l key)).2], .bool (floorL l key).isSome]) ∧ Below w.heap.size w w' := by
  have H := Lib.hid h; have HR := Lib.hid hr
  refine Calls.veil fun Q HQ => ?_
  obtain ⟨p, c, rfl, h1, h2, H3⟩ := h.parts
  clear h hr
  have hle := lbN_le l key
  go_enter Tryd.func48, Tryd.ntmps48
  go_wp2_with fail
  generalize hW : World.alloc w _ = W
  have hBW : Below w.heap.size w W := by rw [← hW]; (repeat (first | exact Below.refl _ _ | assumption | refine below_new ?_ _ | refine Below.drew ?_ | refine below_drewN ?_ _ | refine below_on ?_ (by assumption)))
  have hC : Cell2 W w.heap.size 0 0 := by rw [← hW]; exact Cell2.new w 0 0 _
  clear hW
  refine (pfind l _ key W (H.out.below hBW) HR.out hn).mono ?_; rintro _ w1 ⟨rfl, hb1⟩
  have hC := hC.below hb1
  have hB1 := below_on hBW hb1
  have r0 := hC.c0; have r1 := hC.c1; have rf := hC.f
  have HB := Lib.hid hB1
  obtain ⟨r, hr⟩ : ∃ r, r = lbN l key := ⟨_, rfl⟩
  rw [← hr] at hle ⊢
  have HRR := Lib.hid hr
  clear hr hBW hb1 hC
  cases hh : hereB l key
  · have HH := Lib.hid hh
    clear hh
    rcases r with _ | k
    · go_wp2_with fail
      refine bodyPost_ret (v := .tuple #[.agg #[.int .i64 0, .int .i64 0], .bool false]) (by simp [results, Tryd.results48, go_sem, r0, r1, World.cell?_setCell_same, World.cell?_setCell_other]) rfl ?_
      rw [HQ.out, floor_zero HR.out HH.out HRR.out.symm]
      exact ⟨rfl, below_setB (below_setB HB.out (by omega)) (by omega)⟩
    · obtain ⟨g, o, rfl, c0, c1⟩ := H3.out k (by omega)
      have c0 := Ext.cell ⟨w1, hB1⟩ c0; have c1 := Ext.cell ⟨w1, hB1⟩ c1
      simp only at c0 c1
      have q0 : (((k + 1 : Nat) : Int) == 0) = false := by rw [beq_eq_false_iff_ne]; omega
      have hA : IntKind.i64.wrap (((k + 1 : Nat) : Int) - 1) = (k : Int) := by rw [show ((k + 1 : Nat) : Int) - 1 = k by omega]; exact IntWalk.i64_in _ (by omega)
      clear hB1
      go_wp2_with fail
      refine bodyPost_ret (v := .tuple #[.agg #[.int .i64 (ky l k), .int .i64 (vl l k)], .bool true]) (by simp [results, Tryd.results48, go_sem, r0, r1, World.cell?_setCell_same, World.cell?_setCell_other]) rfl ?_
      rw [HQ.out, floor_pos HR.out HH.out HRR.out.symm]
      exact ⟨rfl, below_setB (below_setB HB.out (by omega)) (by omega)⟩
  · have HH := Lib.hid hh
    have hlt : r < l.length := by
      have := here_at HR.out key
      rw [hh, ← HRR.out] at this
      have := this.symm
      simp only [Bool.and_eq_true, decide_eq_true_eq] at this
      exact this.1
    clear hh
    obtain ⟨g, o, rfl, c0, c1⟩ := H3.out r hlt
    have c0 := Ext.cell ⟨w1, hB1⟩ c0; have c1 := Ext.cell ⟨w1, hB1⟩ c1
    simp only at c0 c1
    clear hB1
    go_wp2_with fail
    refine bodyPost_ret (v := .tuple #[.agg #[.int .i64 (ky l r), .int .i64 (vl l r)], .bool true]) (by simp [results, Tryd.results48, go_sem, r0, r1, World.cell?_setCell_same, World.cell?_setCell_other]) rfl ?_
    rw [HQ.out, floor_here HR.out HH.out, ← HRR.out]
    exact ⟨rfl, below_setB (below_setB HB.out (by omega)) (by omega)⟩
set_option maxHeartbeats 2000000 in
theorem pceil (l : PL) (v : Value) (key : Int) (w : World) (h : PR w v l) (hr : riseB l = true) (hn : l.length ≤ 100000) :
    Calls Tryd.prog 47 #[v, .int .i64 key] w fun e w' => e = .returned (.tuple #[.agg #[.int .i64 (opt (ceilL l key)).1, .int .i64 (opt (ceilL l key)).2], .bool (ceilL l key).isSome]) ∧ Below w.heap.size w w' := by
  have H := Lib.hid h; have HR := Lib.hid hr
  refine Calls.veil fun Q HQ => ?_
  obtain ⟨p, c, rfl, h1, h2, H3⟩ := h.parts
  clear h hr
  have hle := lbN_le l key
  go_enter Tryd.func47, Tryd.ntmps47
  go_wp2_with fail
  generalize hW : World.alloc w _ = W
  have hBW : Below w.heap.size w W := by rw [← hW]; (repeat (first | exact Below.refl _ _ | assumption | refine below_new ?_ _ | refine Below.drew ?_ | refine below_drewN ?_ _ | refine below_on ?_ (by assumption)))
  have hC : Cell2 W w.heap.size 0 0 := by rw [← hW]; exact Cell2.new w 0 0 _
  clear hW
  refine (pfind l _ key W (H.out.below hBW) HR.out hn).mono ?_; rintro _ w1 ⟨rfl, hb1⟩
  have hC := hC.below hb1
  have hB1 := below_on hBW hb1
  have r0 := hC.c0; have r1 := hC.c1; have rf := hC.f
  have HB := Lib.hid hB1
  obtain ⟨r, hr⟩ : ∃ r, r = lbN l key := ⟨_, rfl⟩
  rw [← hr] at hle ⊢
  have HRR := Lib.hid hr
  clear hr hBW hb1 hC
  generalize hereB l key = hb
  rcases (by omega : r < l.length ∨ r = l.length) with hlt | heq
  · obtain ⟨g, o, rfl, c0, c1⟩ := H3.out r hlt
    have c0 := Ext.cell ⟨w1, hB1⟩ c0; have c1 := Ext.cell ⟨w1, hB1⟩ c1
    simp only at c0 c1
    have q0 : ((r : Int) == (l.length : Int)) = false := by rw [beq_eq_false_iff_ne]; omega
    have q1 : (r == l.length) = false := by rw [beq_eq_false_iff_ne]; omega
    clear hB1
    go_wp2_with fail
    refine bodyPost_ret (v := .tuple #[.agg #[.int .i64 (ky l r), .int .i64 (vl l r)], .bool true]) (by simp [results, Tryd.results47, go_sem, r0, r1, World.cell?_setCell_same, World.cell?_setCell_other]) rfl ?_
    obtain ⟨s1, s2⟩ := lbN_spec HR.out key
    rw [← HRR.out] at s1 s2
    rw [HQ.out, ceil_at hlt s1 (s2 r (Nat.le_refl _) hlt)]
    exact ⟨rfl, below_setB (below_setB HB.out (by omega)) (by omega)⟩
  · have HE := Lib.hid heq
    subst heq
    clear hB1
    go_wp2_with fail
    refine bodyPost_ret (v := .tuple #[.agg #[.int .i64 0, .int .i64 0], .bool false]) (by simp [results, Tryd.results47, go_sem, r0, r1, World.cell?_setCell_same, World.cell?_setCell_other]) rfl ?_
    obtain ⟨s1, s2⟩ := lbN_spec HR.out key
    rw [← HRR.out] at s1 s2
    rw [HQ.out, ceil_none s1]
    exact ⟨rfl, below_setB (below_setB HB.out (by omega)) (by omega)⟩
end Go.Proofs.YtkgfhomoipbjoaaDoor
