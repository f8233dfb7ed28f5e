/- Layer 36: the law's walk: too many schedules. -/
import Derived.Test.YtminbfingjbbbaaTurnD
import Derived.Test.YtminbfingjbbbaaXplQ
namespace Go.Proofs.Ytminbfingjbbbaa
open Go.RowKit
set_option linter.unusedVariables false
set_option linter.unusedSimpArgs false
theorem boxes2 (w : World) (o1 o2 : Obj) : ((w.alloc o1).alloc o2).heap[w.heap.size]? = some o1 ∧ ((w.alloc o1).alloc o2).heap[w.heap.size + 1]? = some o2 ∧ Below w.heap.size w ((w.alloc o1).alloc o2) ∧ ((w.alloc o1).alloc o2).heap.size = w.heap.size + 2 := by
  refine ⟨?_, ?_, below_new (below_new (Below.refl _ _) _) _, by simp⟩
  · rw [Below.heap_alloc _ _ _ (by simp), heap_alloc_new]
  · have h := heap_alloc_new (w.alloc o1) o2
    simpa using h
/-- What stands behind the boxes of the parameters. -/
structure QB (w V : World) (B : Nat) (t m k till : Int) : Prop where
  a : V.heap[B]? = some (.cells #[.int .i64 t, .int .i64 m, .int .i64 k] 22 (0, 0))
  n : V.heap[B + 1]? = some (.cells #[.int .i64 till] 3 (0, 0))
  b : Below w.heap.size w V
  s : V.heap.size = B + 2
  e : B = w.heap.size
set_option maxHeartbeats 1000000 in
theorem law_big (t m k : Nat) (n till : Int) (w : World) (ht : 1 ≤ t ∧ t ≤ 6) (hm : 1 ≤ m ∧ m ≤ 1000) (hk : k ≤ 4) (hb : 3000 < manyL t m k) :
    Calls Try.prog 3 #[.agg #[.int .i64 t, .int .i64 m, .int .i64 k], .int .i64 n, .int .i64 till] w fun e w' => e = .returned (.bool true) ∧ Below w.heap.size w w' := by
  refine Calls.veil fun Q HQ => ?_
  go_enter Try.func3, Try.ntmps3
  go_upto_region 1 with fail
  generalize hV : World.alloc _ _ = V
  obtain ⟨B, hB⟩ : ∃ b, b = w.heap.size := ⟨_, rfl⟩
  have HV := Lib.hid (show QB w V B t m k till by
    rw [← hV, hB]
    obtain ⟨h1, h2, h3, h4⟩ := boxes2 w (.cells #[.int .i64 t, .int .i64 m, .int .i64 k] 22) (.cells #[.int .i64 till] 3)
    exact ⟨h1, h2, h3, h4, rfl⟩)
  rw [← hB]
  clear hV hB
  have a0 : V.cell? ⟨B, 0, none⟩ = some (.int .i64 t) := by rw [cell_of_row _ _ _ _ _ (0, 0) HV.out.a]; rfl
  have a1 : V.cell? ⟨B, 1, none⟩ = some (.int .i64 m) := by rw [cell_of_row _ _ _ _ _ (0, 0) HV.out.a]; rfl
  have a2 : V.cell? ⟨B, 2, none⟩ = some (.int .i64 k) := by rw [cell_of_row _ _ _ _ _ (0, 0) HV.out.a]; rfl
  have x0 := Ext.on a0
  have x1 := Ext.on a1
  have x2 := Ext.on a2
  have HB := Lib.hid hb
  have hbi : (3000 : Int) < (manyL t m k : Nat) := by omega
  clear hb
  go_upto_region 2 with fail
  refine (rmany t m k _ ht hm hk).mono ?_; rintro _ w1 ⟨rfl, hw1⟩
  rw [hw1]
  clear hw1
  go_upto_region 3 with fail
  refine (xcount t m k _ ht hm hk).mono ?_; rintro _ w1 ⟨rfl, hw1⟩
  rw [hw1]
  clear hw1
  go_wp2_with fail
  refine (lives36_calls _).mono ?_; rintro _ w1 ⟨rfl, hw1⟩
  have HW := Lib.hid hw1
  clear hw1
  go_wp2_with fail
  (try go_ret)
  rw [HQ.out]
  have hs := HV.out.s
  have he := HV.out.e
  exact ⟨rfl, HV.out.b.trans (HW.out.mono (by omega))⟩

end Go.Proofs.Ytminbfingjbbbaa
