/- Layer 5's reference: where a word is. -/
import Derived.Test.YtbigopldfoddkaaPlanB
import Derived.Deep.Cut
namespace Go.Proofs.Ytbigopldfoddkaa
open Go.RowKit
set_option linter.unusedVariables false
set_option linter.unusedSimpArgs false

theorem wcells_get (T : Int) (n a : Nat) (h : a < n) : (wcells T n)[a * 3]? = some (.int .i64 (wk T a)) ∧ (wcells T n)[a * 3 + 1]? = some (.int .i64 (wi T a)) ∧ (wcells T n)[a * 3 + 2]? = some (.int .i64 (wj T a)) := by
  induction n with
  | zero => omega
  | succ n ih =>
    rw [wcells_succ]
    have hl := wcells_len T n
    by_cases hn : a < n
    · obtain ⟨h1, h2, h3⟩ := ih hn
      rw [List.getElem?_append_left (by omega), List.getElem?_append_left (by omega), List.getElem?_append_left (by omega)]
      exact ⟨h1, h2, h3⟩
    · have e : a = n := by omega
      subst e
      rw [List.getElem?_append_right (by omega), List.getElem?_append_right (by omega), List.getElem?_append_right (by omega), hl]
      refine ⟨?_, ?_, ?_⟩
      · rw [Nat.sub_self]; rfl
      · rw [Nat.add_sub_cancel_left]; rfl
      · rw [Nat.add_sub_cancel_left]; rfl

/-- The row that is owned, read cell by cell. -/
theorem own_cells {w : World} {B : Nat} {e : TypeId} {v : Value} {T : Int} {n : Nat} (h : w.ownsRow B e 3 v n (wcells T n)) (hn : 0 < n) :
    ∃ g cap, v = .slice (some ⟨g, 0, none⟩) n cap ∧ B ≤ g ∧ g < w.heap.size ∧ n ≤ cap ∧ cap ≤ maxLen ∧ ∀ a, a < n → w.cell? ⟨g, a * 3, none⟩ = some (.int .i64 (wk T a)) ∧ w.cell? ⟨g, a * 3 + 1, none⟩ = some (.int .i64 (wi T a)) ∧ w.cell? ⟨g, a * 3 + 2, none⟩ = some (.int .i64 (wj T a)) := by
  rcases h.2 with ⟨_, h0⟩ | ⟨g, cap, cur, hv, hg, hh, hc, hm, hs, ht⟩
  · omega
  · refine ⟨g, cap, hv, hg, ?_, hc, hm, ?_⟩
    · exact (Array.getElem?_eq_some_iff.1 hh).1
    · intro a ha
      obtain ⟨h1, h2, h3⟩ := wcells_get T n a ha
      have key : ∀ i u, i < n * 3 → (wcells T n)[i]? = some u → w.cell? ⟨g, i, none⟩ = some u := by
        intro i u hi hu
        rw [cell_of_row _ g i _ _ (0, 0) hh]
        rw [← ht, List.getElem?_take_of_lt hi] at hu
        simpa using hu
      exact ⟨key _ _ (by omega) h1, key _ _ (by omega) h2, key _ _ (by omega) h3⟩

set_option maxHeartbeats 2000000 in
theorem rat_calls (T : Int) (n g cap : Nat) (k1 k2 k3 r : Int) (w : World) (hn : n ≤ 1801) (hcap : n ≤ cap) (hcm : cap ≤ maxLen)
    (hc : ∀ a, a < n → w.cell? ⟨g, a * 3, none⟩ = some (.int .i64 (wk T a)) ∧ w.cell? ⟨g, a * 3 + 1, none⟩ = some (.int .i64 (wi T a)) ∧ w.cell? ⟨g, a * 3 + 2, none⟩ = some (.int .i64 (wj T a))) (hg : g < w.heap.size)
    (hr : ∀ a : Nat, a < n → ((wk T a = k1 ∧ wi T a = k2 ∧ wj T a = k3) ↔ (a : Int) = r)) (hr' : r = -1 ∨ (0 ≤ r ∧ r < n)) :
    Calls Try.prog 11 #[.slice (some ⟨g, 0, none⟩) n cap, .agg #[.int .i64 k1, .int .i64 k2, .int .i64 k3]] w fun e w' => e = .returned (.int .i64 r) ∧ Below w.heap.size w w' := by
  have HC := Lib.hid hc; clear hc
  have HR := Lib.hid hr; clear hr
  go_enter Try.func11, Try.ntmps11
  go_wp2_with fail
  generalize hW : World.alloc w _ = W
  have hBW : Below w.heap.size w W := by rw [← hW]; (repeat (first | exact Below.refl _ _ | assumption | refine below_new ?_ _ | refine Below.drew ?_ | refine below_drewN ?_ _ | refine below_on ?_ (by assumption)))
  have hWs : W.heap.size = w.heap.size + 1 := by rw [← hW]; simp
  have p0 := Ext.made_in hW (Below.refl _ _) 0 (.int .i64 k1) rfl
  have p1 := Ext.made_in hW (Below.refl _ _) 1 (.int .i64 k2) rfl
  have p2 := Ext.made_in hW (Below.refl _ _) 2 (.int .i64 k3) rfl
  clear hW
  have HW := Lib.hid hWs; clear hWs
  go_loopw [5] (fun iv wr => ∃ k : Nat, k ≤ n ∧ iv = .int .i64 k ∧ ((k : Int) ≤ r ∨ r = -1) ∧ Below W.heap.size W wr)
    (fun iv _ => n - (intOf iv).toNat)
  case atStart => exact ⟨0, Nat.zero_le _, rfl, by omega, Below.refl _ _⟩
  case round =>
    obtain ⟨k, hk, rfl, hkr, hbel⟩ := hrel
    rcases (by omega : k < n ∨ n ≤ k) with hlt | hge
    · obtain ⟨c0, c1, c2⟩ := HC.out k hlt
      have y0 : ∀ x : Ext wr, x.w.cell? ⟨g, k * 3, none⟩ = some (.int .i64 (wk T k)) := Ext.cells (Ext.use (Ext.cells (Ext.use (Ext.cells c0) hBW)) hbel)
      have y1 : ∀ x : Ext wr, x.w.cell? ⟨g, k * 3 + 1, none⟩ = some (.int .i64 (wi T k)) := Ext.cells (Ext.use (Ext.cells (Ext.use (Ext.cells c1) hBW)) hbel)
      have y2 : ∀ x : Ext wr, x.w.cell? ⟨g, k * 3 + 2, none⟩ = some (.int .i64 (wj T k)) := Ext.cells (Ext.use (Ext.cells (Ext.use (Ext.cells c2) hBW)) hbel)
      have q0 : ∀ x : Ext wr, x.w.cell? ⟨w.heap.size, 0, none⟩ = some (.int .i64 k1) := Ext.cells (Ext.use (Ext.cells p0) hbel)
      have q1 : ∀ x : Ext wr, x.w.cell? ⟨w.heap.size, 1, none⟩ = some (.int .i64 k2) := Ext.cells (Ext.use (Ext.cells p1) hbel)
      have q2 : ∀ x : Ext wr, x.w.cell? ⟨w.heap.size, 2, none⟩ = some (.int .i64 k3) := Ext.cells (Ext.use (Ext.cells p2) hbel)
      clear c0 c1 c2 p0 p1 p2
      obtain ⟨x, hx⟩ : ∃ x : Ext wr, x.w = wr := ⟨⟨wr, Below.refl _ _⟩, rfl⟩; rw [← hx]; clear hx
      by_cases hm : (k : Int) = r
      · obtain ⟨m1, m2, m3⟩ := (HR.out k hlt).2 hm
        subst hm
        clear HR
        have m1 : (wk T k == k1) = true := by simpa using m1
        have m2 : (wi T k == k2) = true := by simpa using m2
        have m3 : (wj T k == k3) = true := by simpa using m3
        go_wp2_with (first | (with_reducible refine ext_region _ ?_ ?_ ?_; kernel_rfl; kernel_rfl; (repeat (go_big_quiet_step (fail))); refine wpQuiet_nil ?_; rintro _ ⟨_, rfl⟩))
        go_ret
        have := HW.out
        exact ⟨rfl, hBW.trans ((Ext.below hbel _).mono (by omega))⟩
      · have hnm : (wk T k == k1) = false ∨ ((wk T k == k1) = true ∧ (wi T k == k2) = false) ∨ ((wk T k == k1) = true ∧ (wi T k == k2) = true ∧ (wj T k == k3) = false) := by
          have := fun h => hm ((HR.out k hlt).1 h)
          by_cases a1 : wk T k = k1
          · by_cases a2 : wi T k = k2
            · right; right; exact ⟨by simpa using a1, by simpa using a2, by simpa using fun a3 => this ⟨a1, a2, a3⟩⟩
            · right; left; exact ⟨by simpa using a1, by simpa using a2⟩
          · left; simpa using a1
        rcases hnm with m1 | ⟨m1, m2⟩ | ⟨m1, m2, m3⟩
        all_goals
          go_wp2_with (first | (with_reducible refine ext_region _ ?_ ?_ ?_; kernel_rfl; kernel_rfl; (repeat (go_big_quiet_step (fail))); refine wpQuiet_nil ?_; rintro _ ⟨_, rfl⟩))
          go_roundw
          case rel => exact ⟨k + 1, by omega, by go_num, by omega, Ext.below hbel _⟩
          case measure => simp [intOf]; omega
    · go_wp2_with fail
      go_ret
      have := HW.out
      exact ⟨by rw [show r = -1 by omega]; rfl, hBW.trans (hbel.mono (by omega))⟩
end Go.Proofs.Ytbigopldfoddkaa
