/- Layer 42: the reference's Part. -/
import Derived.Test.YtaammkmnhhipgaaShrF
namespace Go.Proofs.Ytaammkmnhhipgaa
open Go.RowKit
set_option linter.unusedVariables false
set_option linter.unusedSimpArgs false
theorem take_rev (l : List Ent) (a : Nat) (h : a < l.length) : (l.take (a + 1)).reverse = fn l a :: (l.take a).reverse := by
  rw [take_snoc l a h, List.reverse_append]; rfl
theorem sub_rev (l k : List Ent) : l.reverse.isSublist k.reverse = l.isSublist k := by
  rw [Bool.eq_iff_iff, List.isSublist_iff_sublist, List.isSublist_iff_sublist]
  exact List.reverse_sublist
set_option maxHeartbeats 4000000 in
theorem rpart (l k : List Ent) (va vb : Value) (w : World) (ha : EL w va l) (hb : EL w vb k) (hl : l.length ≤ 100000) (hk : k.length ≤ 100000) :
    Calls Try.prog 14 #[va, vb] w fun e w' => e = .returned (.bool (l.isSublist k)) ∧ Below w.heap.size w w' := by
  refine Calls.veil fun Q HQ => ?_
  obtain ⟨p, c, rfl, a1, a2, A3⟩ := ha.parts
  obtain ⟨q, d, rfl, b1, b2, B3⟩ := hb.parts
  clear ha hb
  obtain ⟨R, hR⟩ : ∃ R, R = l.isSublist k := ⟨_, rfl⟩
  rw [← hR] at HQ
  have HR := Lib.hid (show (l.take l.length).reverse.isSublist (k.take k.length).reverse = R by rw [List.take_length, List.take_length, sub_rev, hR])
  clear hR
  have HW := Lib.hid (show wrap64 ((l.length : Int) - 1) = (l.length : Int) - 1 ∧ wrap64 ((k.length : Int) - 1) = (k.length : Int) - 1 by constructor <;> (unfold wrap64; omega))
  go_enter Try.func14, Try.ntmps14
  go_wp2_with fail
  go_loopw [5, 6] (fun av iv wr => ∃ ia ib : Nat, ia ≤ l.length ∧ ib ≤ k.length ∧ av = .int .i64 ((ib : Int) - 1) ∧ iv = .int .i64 ((ia : Int) - 1) ∧ Hid ((l.take ia).reverse.isSublist (k.take ib).reverse = R) ∧ Below w.heap.size w wr)
    (fun _ iv _ => (intOf iv + 1).toNat)
  case atStart => exact ⟨l.length, k.length, Nat.le_refl _, Nat.le_refl _, by first | rfl | rw [HW.out.2], by first | rfl | rw [HW.out.1], HR, Below.refl _ _⟩
  case round =>
    obtain ⟨ia, ib, hia, hib, hav, hiv, HS, hbx⟩ := hrel
    clear HR HW
    cases ia with
    | zero =>
      have hv : Hid (R = true) := by have := HS.out; simp at this; exact Lib.hid (by rw [← this]; simp [List.isSublist])
      have HX := Lib.hid hbx
      have hiv := hiv.trans (show Value.int .i64 (((0 : Nat) : Int) - 1) = .int .i64 (-1) by rfl)
      subst hiv
      subst hav
      clear hbx
      go_wp2_with fail
      (try go_ret)
      rw [HQ.out, hv.out]
      exact ⟨rfl, HX.out⟩
    | succ a =>
      have hiv := hiv.trans (show Value.int .i64 (((a + 1 : Nat) : Int) - 1) = .int .i64 (a : Int) by congr 1; omega)
      subst hiv
      have hlt : a < l.length := hia
      have HT := Lib.hid (take_rev l a hlt)
      obtain ⟨g, o, rfl, hA⟩ := A3.out (by omega)
      have HA := Lib.hid hA
      clear hA
      go_wp2_with fail
      go_loopw [5] (fun bv wz => ∃ jb : Nat, jb ≤ k.length ∧ bv = .int .i64 ((jb : Int) - 1) ∧ Hid ((l.take (a + 1)).reverse.isSublist (k.take jb).reverse = R) ∧ Below w.heap.size w wz)
        (fun bv _ => (intOf bv + 1).toNat)
      case atStart => exact ⟨ib, hib, hav, HS, hbx⟩
      case round =>
        obtain ⟨jb, hjb, hbv, HS2, hby⟩ := hrel
        clear hav hbx HS
        cases jb with
        | zero =>
          have hbv := hbv.trans (show Value.int .i64 (((0 : Nat) : Int) - 1) = .int .i64 (-1) by rfl)
          subst hbv
          have hv : Hid (R = false) := by have := HS2.out; rw [HT.out] at this; exact Lib.hid (by rw [← this]; simp [List.isSublist])
          have HX := Lib.hid hby
          clear hby
          go_wp2_with fail
          go_quiet (fail)
          go_wp2_with fail
          (try go_ret)
          rw [HQ.out, hv.out]
          exact ⟨rfl, below_drewN HX.out nq⟩
        | succ j =>
          have hbv := hbv.trans (show Value.int .i64 (((j + 1 : Nat) : Int) - 1) = .int .i64 (j : Int) by congr 1; omega)
          subst hbv
          have hjt : j < k.length := hjb
          have HS3 := HS2.out
          rw [HT.out, take_rev k j hjt] at HS3
          obtain ⟨g', o', rfl, hB⟩ := B3.out (by omega)
          have hA := (HA.out.below hby).cells a hlt
          have hB := (hB.below hby).cells j hjt
          have HX := Lib.hid hby
          clear hby HS2
          have HEQ : fn l a = fn k j → Hid ((l.take a).reverse.isSublist (k.take j).reverse = R) := by
            intro h
            rw [h] at HS3
            simp only [List.isSublist, beq_self_eq_true, if_true] at HS3
            exact Lib.hid HS3
          have HNE : ¬ fn l a = fn k j → Hid ((l.take (a + 1)).reverse.isSublist (k.take j).reverse = R) := by
            intro h
            have hb : (fn l a == fn k j) = false := by simpa using h
            simp only [List.isSublist, hb, Bool.false_eq_true, if_false] at HS3
            rw [HT.out]
            exact Lib.hid HS3
          have HEQ := Lib.hid HEQ; have HNE := Lib.hid HNE
          clear HS3
          generalize fn l a = x at hA HEQ HNE
          generalize fn k j = y at hB HEQ HNE
          by_cases hx : x = y
          · have HS4 := HEQ.out hx
            subst hx
            clear HEQ HNE
            obtain ⟨th, bg, op, key, val, hi2, lim⟩ := x
            simp only at hB hA
            obtain ⟨y0, y1, y2, y3, y4, y5, y6⟩ := hB
            obtain ⟨x0, x1, x2, x3, x4, x5, x6⟩ := hA
            have x0 := Ext.drewN x0; have x1 := Ext.drewN x1; have x2 := Ext.drewN x2; have x3 := Ext.drewN x3; have x4 := Ext.drewN x4; have x5 := Ext.drewN x5; have x6 := Ext.drewN x6
            have y0 := Ext.drewN y0; have y1 := Ext.drewN y1; have y2 := Ext.drewN y2; have y3 := Ext.drewN y3; have y4 := Ext.drewN y4; have y5 := Ext.drewN y5; have y6 := Ext.drewN y6
            go_wp2_with fail
            go_quiet (fail)
            go_wp2_with fail
            go_roundw
            case rel => exact ⟨a, j, by omega, by omega, by go_num, by go_num, HS4, below_drewN HX.out nq⟩
            case measure => first | (simp [intOf]; done) | (simp [intOf]; omega)
          · have HS4 := HNE.out hx
            have hneq := fun w => neqE y.th y.bg y.op y.key y.val y.hi y.lim x.th x.bg x.op x.key x.val x.hi x.lim w (ne_parts (fun e => hx e.symm))
            clear HEQ HNE hx
            obtain ⟨th, bg, op, key, val, hi2, lim⟩ := x
            obtain ⟨th', bg', op', key', val', hi2', lim'⟩ := y
            simp only at hB hA hneq
            obtain ⟨y0, y1, y2, y3, y4, y5, y6⟩ := hB
            obtain ⟨x0, x1, x2, x3, x4, x5, x6⟩ := hA
            have x0 := Ext.drewN x0; have x1 := Ext.drewN x1; have x2 := Ext.drewN x2; have x3 := Ext.drewN x3; have x4 := Ext.drewN x4; have x5 := Ext.drewN x5; have x6 := Ext.drewN x6
            have y0 := Ext.drewN y0; have y1 := Ext.drewN y1; have y2 := Ext.drewN y2; have y3 := Ext.drewN y3; have y4 := Ext.drewN y4; have y5 := Ext.drewN y5; have y6 := Ext.drewN y6
            go_wp2_with fail
            go_quiet (fail)
            go_wp2_with fail
            go_roundw
            case rel => exact ⟨j, by omega, by go_num, HS4, below_drewN HX.out nq⟩
            case measure => first | (simp [intOf]; done) | (simp [intOf]; omega)
end Go.Proofs.Ytaammkmnhhipgaa
