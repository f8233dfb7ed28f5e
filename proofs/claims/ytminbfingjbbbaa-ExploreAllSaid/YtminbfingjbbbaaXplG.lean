/- Layer 36: schedules that are the same; no schedule of such a number. -/
import Derived.Test.YtminbfingjbbbaaXplF
namespace Go.Proofs.Ytminbfingjbbbaa
open Go.RowKit
set_option linter.unusedVariables false
set_option linter.unusedSimpArgs false
theorem xat_neg (t m k n : Int) (w : World) (hn : n < 0) :
    Calls Try.prog 11 #[.int .i64 t, .int .i64 m, .int .i64 k, .int .i64 n] w fun e w' => e = .returned (.tuple #[.slice none 0 0, .bool false]) ∧ w = w' := by
  refine Calls.veil fun Q HQ => ?_
  go_enter Try.func11, Try.ntmps11
  go_wp2_with fail
  (try go_ret)
  rw [HQ.out]
  exact ⟨rfl, rfl⟩
theorem xat_far (t m k n M : Int) (w : World) (hc : ∀ W, Calls Try.prog 5 #[.int .i64 t, .int .i64 m, .int .i64 k] W fun e w' => e = .returned (.int .i64 M) ∧ w' = W) (hn0 : ¬ n < 0) (hn : M ≤ n) :
    Calls Try.prog 11 #[.int .i64 t, .int .i64 m, .int .i64 k, .int .i64 n] w fun e w' => e = .returned (.tuple #[.slice none 0 0, .bool false]) ∧ w = w' := by
  refine Calls.veil fun Q HQ => ?_
  have HC := Lib.hid hc
  clear hc
  go_enter Try.func11, Try.ntmps11
  go_wp2_with fail
  refine (HC.out w).mono ?_; rintro _ w1 ⟨rfl, hw1⟩
  rw [hw1]
  clear hw1
  go_wp2_with fail
  (try go_ret)
  rw [HQ.out]
  exact ⟨rfl, rfl⟩
theorem PR.parts2 {w : World} {v : Value} {l : PL} (h : PR w v l) : ∃ p c, v = .slice p l.length c ∧ Hid (∀ i, i < l.length → ∃ g o, p = some ⟨g, o, none⟩ ∧ w.cell? ⟨g, o + i * 2, none⟩ = some (.int .i64 (ky l i)) ∧ w.cell? ⟨g, o + i * 2 + 1, none⟩ = some (.int .i64 (vl l i))) := by
  cases h with
  | nil => exact ⟨_, _, rfl, Lib.hid fun i hi => absurd hi (Nat.not_lt_zero i)⟩
  | odd a c _ => exact ⟨_, _, rfl, Lib.hid fun i hi => absurd hi (Nat.not_lt_zero i)⟩
  | row g o c _ h1 h2 h3 => exact ⟨_, _, rfl, Lib.hid fun i hi => ⟨g, o, rfl, h3 i hi⟩⟩
set_option maxHeartbeats 1000000 in
theorem xsame (l : PL) (v v' : Value) (w : World) (h : PR w v l) (h' : PR w v' l) (hn : l.length ≤ 100000) :
    Calls Try.prog 10 #[v, v'] w fun e w' => e = .returned (.bool true) ∧ Below w.heap.size w w' := by
  refine Calls.veil fun Q HQ => ?_
  obtain ⟨p, c, rfl, HA⟩ := h.parts2
  obtain ⟨p', c', rfl, HA'⟩ := h'.parts2
  obtain ⟨n, hnn⟩ : ∃ n, n = l.length := ⟨_, rfl⟩
  rw [← hnn] at HA HA' hn ⊢
  have HN := Lib.hid hn
  clear h h' hn hnn
  go_enter Try.func10, Try.ntmps10
  go_wp2_with fail
  go_loopw [5] (fun iv wr => ∃ i : Nat, i ≤ n ∧ iv = .int .i64 i ∧ Hid (Below w.heap.size w wr)) (fun iv _ => n - (intOf iv).toNat)
  case atStart => exact ⟨0, Nat.zero_le _, rfl, Lib.hid (Below.refl _ _)⟩
  case round =>
    obtain ⟨i, hi, rfl, HW⟩ := hrel
    rcases or_lt hi with hlt | heq
    · obtain ⟨g, o, rfl, a0, a1⟩ := HA.out i hlt
      obtain ⟨g', o', rfl, b0, b1⟩ := HA'.out i hlt
      have a0 := Ext.cells (Ext.cell ⟨wr, HW.out⟩ a0)
      have a1 := Ext.cells (Ext.cell ⟨wr, HW.out⟩ a1)
      have b0 := Ext.cells (Ext.cell ⟨wr, HW.out⟩ b0)
      have b1 := Ext.cells (Ext.cell ⟨wr, HW.out⟩ b1)
      simp only at a0 a1 b0 b1
      generalize ky l i = x at a0 b0
      generalize vl l i = y at a1 b1
      have hik : (i : Int) < (n : Int) := lt_int hlt
      have hw1 : wrap64 ((i : Int) + 1) = (i : Int) + 1 := wr_k (Nat.le_trans hi HN.out)
      have hw2 : IntKind.i64.wrap ((i : Int) + 1) = (i : Int) + 1 := wri_k (Nat.le_trans hi HN.out)
      go_wp2_with fail
      (with_reducible refine wp_region_mix (fun w' => ∃ y : Ext wr, w' = y.w) ?_ ?_ ?_ ?_; kernel_rfl; kernel_rfl; exact ⟨⟨wr.drew, (Below.refl _ _).drew⟩, rfl⟩)
      repeat (first | ((with_reducible refine mix_plain (by kernel_rfl) ?_); (first | go_big_quiet_skip | (go_big_quiet_want; go_big_quiet_op; go_big_quiet_on)); (with_reducible refine mix_on ?_)) | ((with_reducible refine mix_skip (by kernel_rfl) ?_); go_big_quiet_skip; (with_reducible refine mix_on ?_)))
      refine wpMix_nil ?_
      have HW2 := Lib.hid (HW.out.drew)
      clear a0 a1 b0 b1
      go_wp2_with fail
      go_roundw
      case rel => exact ⟨i + 1, hlt, by go_num, HW2⟩
      case measure => exact meas1 hlt
    · have hik : ¬ (i : Int) < (n : Int) := nlt_int heq
      clear heq
      go_wp2_with fail
      (try go_ret)
      rw [HQ.out]
      exact ⟨rfl, HW.out⟩
end Go.Proofs.Ytminbfingjbbbaa
