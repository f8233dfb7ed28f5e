/- Layer 34: bounds; nobody is alone in a run that isn't there. -/
import Derived.Test.YtipaicpamaolpaaGreatWordM
import Derived.Test.YtipaicpamaolpaaGreatExt
import Derived.Test.YtipaicpamaolpaaGreatRows
import Derived.ProofKit
import Derived.Outline
import Derived.Lib.Hide
import Derived.Test.YtipaicpamaolpaaGreatFrame
import Derived.Deep.Cut
import Derived.Deep.QuietTactic
namespace Go.Proofs.YtipaicpamaolpaaGreat
open Go.RowKit
set_option linter.unusedVariables false
set_option linter.unusedSimpArgs false
def mayC (T S K : Int) : Bool := decide (1 ≤ T ∧ T ≤ 6 ∧ 7 ≤ S ∧ S ≤ 250 ∧ 1 ≤ K ∧ K ≤ 1099511627776)
theorem mayC_true {T S K : Int} (h : mayC T S K = true) : 1 ≤ T ∧ T ≤ 6 ∧ 7 ≤ S ∧ S ≤ 250 ∧ 1 ≤ K ∧ K ≤ 1099511627776 := of_decide_eq_true h

theorem pmay_calls (T S K : Int) (w : World) : Calls Tryz.prog 15 #[.agg #[.int .i64 T, .int .i64 S, .int .u64 K]] w fun e w' => e = .returned (.bool (mayC T S K)) ∧ Below w.heap.size w w' := by
  rcases (by omega : T < 1 ∨ (1 ≤ T ∧ 6 < T) ∨ (1 ≤ T ∧ T ≤ 6 ∧ S < 7) ∨ (1 ≤ T ∧ T ≤ 6 ∧ 7 ≤ S ∧ 250 < S) ∨ (1 ≤ T ∧ T ≤ 6 ∧ 7 ≤ S ∧ S ≤ 250 ∧ K < 1) ∨ (1 ≤ T ∧ T ≤ 6 ∧ 7 ≤ S ∧ S ≤ 250 ∧ 1 ≤ K ∧ 1099511627776 < K) ∨ (1 ≤ T ∧ T ≤ 6 ∧ 7 ≤ S ∧ S ≤ 250 ∧ 1 ≤ K ∧ K ≤ 1099511627776)) with h1 | ⟨h1, h2⟩ | ⟨h1, h2, h3⟩ | ⟨h1, h2, h3, h4⟩ | ⟨h1, h2, h3, h4, h5⟩ | ⟨h1, h2, h3, h4, h5, h6⟩ | ⟨h1, h2, h3, h4, h5, h6⟩
  all_goals
    first
      | have HM := Lib.hid (show mayC T S K = true from decide_eq_true ⟨h1, h2, h3, h4, h5, h6⟩)
      | have HM := Lib.hid (show mayC T S K = false from decide_eq_false (by omega))
    go_enter Tryz.func15, Tryz.ntmps15
    go_wp2
    go_ret
    exact ⟨by rw [HM.out]; first | rfl | (simp; done) | (simp; omega), by (repeat (first | exact Below.refl _ _ | assumption | refine below_new ?_ _ | refine Below.drew ?_ | refine below_drewN ?_ _ | refine below_on ?_ (by assumption)))⟩

theorem wf64s {n : Int} (h : (Lit.int .i64 n).wf = true) : -9223372036854775808 ≤ n ∧ n < 9223372036854775808 := by
  simp [Lit.wf, IntKind.min, IntKind.max, IntKind.signed, IntKind.bits] at h; omega
theorem wfu64s {n : Int} (h : (Lit.int .u64 n).wf = true) : 0 ≤ n ∧ n < 18446744073709551616 := by
  simp [Lit.wf, IntKind.min, IntKind.max, IntKind.signed, IntKind.bits] at h; omega
theorem rmay34 (T S K : Int) (w : World) : Calls Tryz.prog 16 #[.agg #[.int .i64 T, .int .i64 S, .int .u64 K]] w fun e w' => e = .returned (.bool (mayC T S K)) ∧ Below w.heap.size w w' := by
  rcases (by omega : T < 1 ∨ (1 ≤ T ∧ 6 < T) ∨ (1 ≤ T ∧ T ≤ 6 ∧ S < 7) ∨ (1 ≤ T ∧ T ≤ 6 ∧ 7 ≤ S ∧ 250 < S) ∨ (1 ≤ T ∧ T ≤ 6 ∧ 7 ≤ S ∧ S ≤ 250 ∧ K < 1) ∨ (1 ≤ T ∧ T ≤ 6 ∧ 7 ≤ S ∧ S ≤ 250 ∧ 1 ≤ K ∧ 1099511627776 < K) ∨ (1 ≤ T ∧ T ≤ 6 ∧ 7 ≤ S ∧ S ≤ 250 ∧ 1 ≤ K ∧ K ≤ 1099511627776)) with h1 | ⟨h1, h2⟩ | ⟨h1, h2, h3⟩ | ⟨h1, h2, h3, h4⟩ | ⟨h1, h2, h3, h4, h5⟩ | ⟨h1, h2, h3, h4, h5, h6⟩ | ⟨h1, h2, h3, h4, h5, h6⟩
  all_goals
    first
      | have HM := Lib.hid (show mayC T S K = true from decide_eq_true ⟨h1, h2, h3, h4, h5, h6⟩)
      | have HM := Lib.hid (show mayC T S K = false from decide_eq_false (by omega))
    go_enter Tryz.func16, Tryz.ntmps16
    go_wp2
    go_ret
    exact ⟨by rw [HM.out]; first | rfl | (simp; done) | (simp; omega), by (repeat (first | exact Below.refl _ _ | assumption | refine below_new ?_ _ | refine Below.drew ?_ | refine below_drewN ?_ _ | refine below_on ?_ (by assumption)))⟩
def boundI (T S K : Int) : Int := if mayC T S K = true then T * (20 * T * S + 40 * S + 250 * T + 300) else 0
def leastI (T S K : Int) : Int := if mayC T S K = true ∧ 5 + 6 * T ≤ S then (S - 5 - 6 * T) / 2 else 0
theorem sthreads (w : World) : Calls Tryz.prog 12 #[.pointer none] w fun e w' => e = .returned (.int .i64 0) ∧ Below w.heap.size w w' := by
  go_enter Tryz.func12, Tryz.ntmps12
  go_wp2
  go_ret
  exact ⟨rfl, by (repeat (first | exact Below.refl _ _ | assumption | refine below_new ?_ _ | refine Below.drew ?_ | refine below_drewN ?_ _ | refine below_on ?_ (by assumption)))⟩
theorem smachine (w : World) : Calls Tryz.prog 11 #[.pointer none] w fun e w' => e = .returned (.pointer none) ∧ Below w.heap.size w w' := by
  go_enter Tryz.func11, Tryz.ntmps11
  go_wp2
  go_ret
  exact ⟨rfl, by (repeat (first | exact Below.refl _ _ | assumption | refine below_new ?_ _ | refine Below.drew ?_ | refine below_drewN ?_ _ | refine below_on ?_ (by assumption)))⟩
theorem pret_i {k : IntKind} {a b : Int} (h : a = b) : Ending.returned (.int k a) = .returned (.int k b) := by rw [h]
theorem sworst (m : Int) (w : World) : Calls Tryz.prog 5 #[.pointer none, .int .i64 m] w fun e w' => e = .returned (.tuple #[.int .i64 0, .bool false]) ∧ Below w.heap.size w w' := by
  rcases (by omega : m < 0 ∨ 0 ≤ m) with h | h
  all_goals
    go_enter Tryz.func5, Tryz.ntmps5
    go_wp2
    go_ret2
    exact ⟨rfl, by (repeat (first | exact Below.refl _ _ | assumption | refine below_new ?_ _ | refine Below.drew ?_ | refine below_drewN ?_ _ | refine below_on ?_ (by assumption)))⟩
theorem salone (t m : Int) (w : World) : Calls Tryz.prog 4 #[.pointer none, .int .i64 t, .int .i64 m] w fun e w' => e = .returned (.tuple #[.int .i64 0, .bool false]) ∧ Below w.heap.size w w' := by
  rcases (by omega : m < 0 ∨ (0 ≤ m ∧ t < 0) ∨ (0 ≤ m ∧ 0 ≤ t)) with h | ⟨h, h'⟩ | ⟨h, h'⟩
  · go_enter Tryz.func4, Tryz.ntmps4
    go_wp2
    go_ret2
    exact ⟨rfl, by (repeat (first | exact Below.refl _ _ | assumption | refine below_new ?_ _ | refine Below.drew ?_ | refine below_drewN ?_ _ | refine below_on ?_ (by assumption)))⟩
  · go_enter Tryz.func4, Tryz.ntmps4
    go_wp2
    go_ret2
    exact ⟨rfl, by (repeat (first | exact Below.refl _ _ | assumption | refine below_new ?_ _ | refine Below.drew ?_ | refine below_drewN ?_ _ | refine below_on ?_ (by assumption)))⟩
  · go_enter Tryz.func4, Tryz.ntmps4
    go_wp2_with (first | (go_at_call 11; refine (smachine _).mono ?_; rintro _ _ ⟨rfl, _⟩) | (go_at_call 12; refine (sthreads _).mono ?_; rintro _ _ ⟨rfl, _⟩))
    go_ret2
    exact ⟨rfl, by (repeat (first | exact Below.refl _ _ | assumption | refine below_new ?_ _ | refine Below.drew ?_ | refine below_drewN ?_ _ | refine below_on ?_ (by assumption)))⟩
theorem heapnewE {w V : World} {o : Obj} (h : w.alloc o = V) : V.heap[w.heap.size]? = some o ∧ Below w.heap.size w V := by
  subst h; exact ⟨heap_alloc_new w o, by (repeat (first | exact Below.refl _ _ | assumption | refine below_new ?_ _ | refine Below.drew ?_ | refine below_drewN ?_ _ | refine below_on ?_ (by assumption)))⟩
theorem newcell {w : World} {b : Nat} {arr : Array Value} {T : TypeId} (h : w.heap[b]? = some (.cells arr T (0, 0))) (k : Nat) (v : Value) (hk : arr[k]? = some v) : w.cell? ⟨b, k, none⟩ = some v := by
  rw [cell_of_row _ _ _ _ _ (0, 0) h]; exact hk
theorem sbound (T S K : Int) (w : World) : Calls Tryz.prog 6 #[.agg #[.int .i64 T, .int .i64 S, .int .u64 K]] w fun e w' => e = .returned (.int .i64 (boundI T S K)) ∧ Below w.heap.size w w' := by
  have PM := Lib.hid (fun W => pmay_calls T S K W)
  cases hm : mayC T S K
  · have HB := Lib.hid (show boundI T S K = 0 by unfold boundI; rw [hm]; rfl)
    rw [hm] at PM
    clear hm
    go_enter Tryz.func6, Tryz.ntmps6
    go_wp2_with (first | (go_at_call 15; refine (PM.out _).mono ?_; rintro _ _ ⟨rfl, _⟩))
    go_ret
    exact ⟨pret_i HB.out.symm, by (repeat (first | exact Below.refl _ _ | assumption | refine below_new ?_ _ | refine Below.drew ?_ | refine below_drewN ?_ _ | refine below_on ?_ (by assumption)))⟩
  · obtain ⟨t1, t2, s1, s2, _, _⟩ := mayC_true hm
    have HB := Lib.hid (show boundI T S K = T * (20 * T * S + 40 * S + 250 * T + 300) by unfold boundI; rw [hm]; rfl)
    rw [hm] at PM
    clear hm
    rcases (by omega : T = 1 ∨ T = 2 ∨ T = 3 ∨ T = 4 ∨ T = 5 ∨ T = 6) with h | h | h | h | h | h
    all_goals
      subst h
      clear t1 t2
      go_enter Tryz.func6, Tryz.ntmps6
      go_upto_region 1 with fail
      generalize hV : World.alloc w _ = V
      obtain ⟨hh, hbv⟩ := heapnewE hV
      have x0 := newcell hh 0 _ rfl; have x1 := newcell hh 1 _ rfl; have x2 := newcell hh 2 _ rfl
      have HBV := Lib.hid hbv
      clear hV hbv hh
      generalize w.heap.size = Z at x0 x1 x2 ⊢
      go_wp2_with fail
      refine (PM.out _).mono ?_; rintro _ w1 ⟨rfl, hb⟩
      have x0 := Ext.use (Ext.cells x0) hb; have x1 := Ext.use (Ext.cells x1) hb; have x2 := Ext.use (Ext.cells x2) hb
      have HBW := Lib.hid (below_on HBV.out hb)
      clear hb
      go_upto_region 3 with fail
      go_quiet (fail)
      have HBW := Lib.hid (below_drewN HBW.out nq)
      go_wp2_with fail
      (try go_ret)
      exact ⟨pret_i (by rw [HB.out] <;> omega), HBW.out⟩
theorem rbound (T S K : Int) (w : World) : Calls Tryz.prog 7 #[.agg #[.int .i64 T, .int .i64 S, .int .u64 K]] w fun e w' => e = .returned (.int .i64 (boundI T S K)) ∧ Below w.heap.size w w' := by
  have PM := Lib.hid (fun W => rmay34 T S K W)
  cases hm : mayC T S K
  · have HB := Lib.hid (show boundI T S K = 0 by unfold boundI; rw [hm]; rfl)
    rw [hm] at PM
    clear hm
    go_enter Tryz.func7, Tryz.ntmps7
    go_wp2_with (first | (go_at_call 16; refine (PM.out _).mono ?_; rintro _ _ ⟨rfl, _⟩))
    go_ret
    exact ⟨pret_i HB.out.symm, by (repeat (first | exact Below.refl _ _ | assumption | refine below_new ?_ _ | refine Below.drew ?_ | refine below_drewN ?_ _ | refine below_on ?_ (by assumption)))⟩
  · obtain ⟨t1, t2, s1, s2, _, _⟩ := mayC_true hm
    have HB := Lib.hid (show boundI T S K = T * (20 * T * S + 40 * S + 250 * T + 300) by unfold boundI; rw [hm]; rfl)
    rw [hm] at PM
    clear hm
    rcases (by omega : T = 1 ∨ T = 2 ∨ T = 3 ∨ T = 4 ∨ T = 5 ∨ T = 6) with h | h | h | h | h | h
    all_goals
      subst h
      clear t1 t2
      go_enter Tryz.func7, Tryz.ntmps7
      go_upto_region 1 with fail
      generalize hV : World.alloc w _ = V
      obtain ⟨hh, hbv⟩ := heapnewE hV
      have x0 := newcell hh 0 _ rfl; have x1 := newcell hh 1 _ rfl; have x2 := newcell hh 2 _ rfl
      have HBV := Lib.hid hbv
      clear hV hbv hh
      generalize w.heap.size = Z at x0 x1 x2 ⊢
      go_wp2_with fail
      refine (PM.out _).mono ?_; rintro _ w1 ⟨rfl, hb⟩
      have x0 := Ext.use (Ext.cells x0) hb; have x1 := Ext.use (Ext.cells x1) hb; have x2 := Ext.use (Ext.cells x2) hb
      have HBW := Lib.hid (below_on HBV.out hb)
      clear hb
      go_wp2_with fail
      (try go_ret)
      exact ⟨pret_i (by rw [HB.out] <;> omega), HBW.out⟩
theorem sleast34 (T S K : Int) (w : World) : Calls Tryz.prog 8 #[.agg #[.int .i64 T, .int .i64 S, .int .u64 K]] w fun e w' => e = .returned (.int .i64 (leastI T S K)) ∧ Below w.heap.size w w' := by
  have PM := Lib.hid (fun W => pmay_calls T S K W)
  cases hm : mayC T S K
  · have HB := Lib.hid (show leastI T S K = 0 by unfold leastI; rw [hm]; simp)
    rw [hm] at PM
    clear hm
    go_enter Tryz.func8, Tryz.ntmps8
    go_wp2_with (first | (go_at_call 15; refine (PM.out _).mono ?_; rintro _ _ ⟨rfl, _⟩))
    go_ret
    exact ⟨pret_i HB.out.symm, by (repeat (first | exact Below.refl _ _ | assumption | refine below_new ?_ _ | refine Below.drew ?_ | refine below_drewN ?_ _ | refine below_on ?_ (by assumption)))⟩
  · obtain ⟨t1, t2, s1, s2, _, _⟩ := mayC_true hm
    rcases (by omega : 5 + 6 * T ≤ S ∨ S < 5 + 6 * T) with h | h
    · have HB := Lib.hid (show leastI T S K = (S - 5 - 6 * T) / 2 by unfold leastI; rw [if_pos ⟨hm, h⟩])
      rw [hm] at PM
      clear hm
      go_enter Tryz.func8, Tryz.ntmps8
      go_upto_region 1 with fail
      generalize hV : World.alloc w _ = V
      obtain ⟨hh, hbv⟩ := heapnewE hV
      have x0 := newcell hh 0 _ rfl; have x1 := newcell hh 1 _ rfl; have x2 := newcell hh 2 _ rfl
      have HBV := Lib.hid hbv
      clear hV hbv hh
      generalize w.heap.size = Z at x0 x1 x2 ⊢
      go_wp2_with fail
      refine (PM.out _).mono ?_; rintro _ w1 ⟨rfl, hb⟩
      have x0 := Ext.use (Ext.cells x0) hb; have x1 := Ext.use (Ext.cells x1) hb; have x2 := Ext.use (Ext.cells x2) hb
      have HBW := Lib.hid (below_on HBV.out hb)
      clear hb
      go_wp2_with fail
      all_goals (try go_ret)
      all_goals exact ⟨pret_i (by rw [HB.out] <;> omega), HBW.out⟩
    · have HB := Lib.hid (show leastI T S K = 0 by unfold leastI; rw [if_neg (by omega)])
      have hneg : S - 5 - 6 * T < 0 := by omega
      have hmax : max (0 : Int) (S - 5 - 6 * T) = 0 := by omega
      have HMX := Lib.hid hmax; clear hmax
      rw [hm] at PM
      clear hm
      go_enter Tryz.func8, Tryz.ntmps8
      go_upto_region 1 with fail
      generalize hV : World.alloc w _ = V
      obtain ⟨hh, hbv⟩ := heapnewE hV
      have x0 := newcell hh 0 _ rfl; have x1 := newcell hh 1 _ rfl; have x2 := newcell hh 2 _ rfl
      have HBV := Lib.hid hbv
      clear hV hbv hh
      generalize w.heap.size = Z at x0 x1 x2 ⊢
      go_wp2_with fail
      refine (PM.out _).mono ?_; rintro _ w1 ⟨rfl, hb⟩
      have x0 := Ext.use (Ext.cells x0) hb; have x1 := Ext.use (Ext.cells x1) hb; have x2 := Ext.use (Ext.cells x2) hb
      have HBW := Lib.hid (below_on HBV.out hb)
      clear hb
      go_wp2_with fail
      all_goals (try go_ret)
      all_goals exact ⟨pret_i (by rw [HB.out] <;> omega), HBW.out⟩
theorem rleast34 (T S K : Int) (w : World) : Calls Tryz.prog 9 #[.agg #[.int .i64 T, .int .i64 S, .int .u64 K]] w fun e w' => e = .returned (.int .i64 (leastI T S K)) ∧ Below w.heap.size w w' := by
  have PM := Lib.hid (fun W => rmay34 T S K W)
  cases hm : mayC T S K
  · have HB := Lib.hid (show leastI T S K = 0 by unfold leastI; rw [hm]; simp)
    rw [hm] at PM
    clear hm
    go_enter Tryz.func9, Tryz.ntmps9
    go_wp2_with (first | (go_at_call 16; refine (PM.out _).mono ?_; rintro _ _ ⟨rfl, _⟩))
    go_ret
    exact ⟨pret_i HB.out.symm, by (repeat (first | exact Below.refl _ _ | assumption | refine below_new ?_ _ | refine Below.drew ?_ | refine below_drewN ?_ _ | refine below_on ?_ (by assumption)))⟩
  · obtain ⟨t1, t2, s1, s2, _, _⟩ := mayC_true hm
    rcases (by omega : 5 + 6 * T ≤ S ∨ S < 5 + 6 * T) with h | h
    · have HB := Lib.hid (show leastI T S K = (S - 5 - 6 * T) / 2 by unfold leastI; rw [if_pos ⟨hm, h⟩])
      rw [hm] at PM
      clear hm
      go_enter Tryz.func9, Tryz.ntmps9
      go_upto_region 1 with fail
      generalize hV : World.alloc w _ = V
      obtain ⟨hh, hbv⟩ := heapnewE hV
      have x0 := newcell hh 0 _ rfl; have x1 := newcell hh 1 _ rfl; have x2 := newcell hh 2 _ rfl
      have HBV := Lib.hid hbv
      clear hV hbv hh
      generalize w.heap.size = Z at x0 x1 x2 ⊢
      go_wp2_with fail
      refine (PM.out _).mono ?_; rintro _ w1 ⟨rfl, hb⟩
      have x0 := Ext.use (Ext.cells x0) hb; have x1 := Ext.use (Ext.cells x1) hb; have x2 := Ext.use (Ext.cells x2) hb
      have HBW := Lib.hid (below_on HBV.out hb)
      clear hb
      go_wp2_with fail
      (try go_ret)
      exact ⟨pret_i (by rw [HB.out] <;> omega), HBW.out⟩
    · have HB := Lib.hid (show leastI T S K = 0 by unfold leastI; rw [if_neg (by omega)])
      have hneg : S - 5 - 6 * T < 0 := by omega
      have hmax : max (0 : Int) (S - 5 - 6 * T) = 0 := by omega
      have HMX := Lib.hid hmax; clear hmax
      rw [hm] at PM
      clear hm
      go_enter Tryz.func9, Tryz.ntmps9
      go_upto_region 1 with fail
      generalize hV : World.alloc w _ = V
      obtain ⟨hh, hbv⟩ := heapnewE hV
      have x0 := newcell hh 0 _ rfl; have x1 := newcell hh 1 _ rfl; have x2 := newcell hh 2 _ rfl
      have HBV := Lib.hid hbv
      clear hV hbv hh
      generalize w.heap.size = Z at x0 x1 x2 ⊢
      go_wp2_with fail
      refine (PM.out _).mono ?_; rintro _ w1 ⟨rfl, hb⟩
      have x0 := Ext.use (Ext.cells x0) hb; have x1 := Ext.use (Ext.cells x1) hb; have x2 := Ext.use (Ext.cells x2) hb
      have HBW := Lib.hid (below_on HBV.out hb)
      clear hb
      go_wp2_with fail
      (try go_ret)
      exact ⟨pret_i HB.out.symm, HBW.out⟩
end Go.Proofs.YtipaicpamaolpaaGreat
