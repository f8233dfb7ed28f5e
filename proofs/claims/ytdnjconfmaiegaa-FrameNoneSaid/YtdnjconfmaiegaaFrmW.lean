/- Layer 15: a thread as this one: Clone. -/
import Derived.Test.YtdnjconfmaiegaaFrmM
import Derived.Test.YtdnjconfmaiegaaFrmT
import Derived.Test.YtdnjconfmaiegaaFrmV
namespace Go.Proofs.Ytdnjconfmaiegaa
open Go.RowKit
set_option linter.unusedVariables false
set_option linter.unusedSimpArgs false
theorem ur_apd {w : World} {v : Value} {n : Nat} {f : Nat → Int} (h : UR w v n f) : Apd w v n 1 (ucells n f) := by
  cases h with
  | nil => exact .inl ⟨rfl, rfl, by simp [ucells]⟩
  | odd a c _ h1 => exact .inr ⟨a, c, rfl, by simp [ucells], fun j x hj => by simp [ucells] at hj⟩
  | row g o _ c _ h1 h2 h3 => exact .inr ⟨⟨g, o, none⟩, c, rfl, by rw [ucells_len]; omega, fun j x hj => by
      have hl : j < n := by have := (List.getElem?_eq_some_iff.1 hj).1; rwa [ucells_len] at this
      rw [ucells_get hl] at hj
      simp only [Option.some.injEq] at hj
      rw [← hj, show ((⟨g, o, none⟩ : Addr).add j) = ⟨g, o + j, none⟩ by simp only [Addr.add]; split <;> simp_all]
      exact h3 j hl⟩
set_option maxHeartbeats 1000000 in
theorem uclone {w : World} {v : Value} {n : Nat} {f : Nat → Int} (h : UR w v n f) (hn : n ≤ 100000) :
    Calls Try.prog 27 #[v] w fun e w' => ∃ v', e = .returned v' ∧ OwnL 27 w' w.heap.size v' n (ucells n f) ∧ Below w.heap.size w w' := by
  refine Calls.veil fun Q HQ => ?_
  have qT : ∀ (w : World) (a : Addr) (n c : Nat), (binOp .eql 31 (.slice (some a) n c) (.slice none 0 0)).run Try.prog w = .ok (.bool false) w := fun w a n c => Go.run_eql_slice_nil w _ _ (some a) n c uU64
  have qN : ∀ (w : World), (binOp .eql 31 (.slice none 0 0) (.slice none 0 0)).run Try.prog w = .ok (.bool true) w := fun w => Go.run_eql_slice_nil w _ _ none 0 0 uU64
  have hb1 : Below w.heap.size w (w.alloc (.cells #[] 27)) := below_new (Below.refl _ _) _
  have ha := ur_apd (h.below hb1)
  obtain ⟨pl, cl, W1, hrun, hown, hbw1⟩ := app_run uU64 infoU64 (by rfl) (by decide) (by decide) (U := w) (w := w.alloc (.cells #[] 27)) hb1 (own_empty (heap_alloc_new _ _) (Nat.le_refl _)) ha ucells_one (by omega) (by omega)
  simp only [Nat.zero_add, List.nil_append] at hrun hown
  have HO := Lib.hid hown; have HB := Lib.hid hbw1
  rcases (show v = .slice none 0 0 ∧ n = 0 ∨ ∃ a c, v = .slice (some a) n c by cases h with
    | nil => exact .inl ⟨rfl, rfl⟩
    | odd a c _ _ => exact .inr ⟨a, c, rfl⟩
    | row g o _ c _ _ _ _ => exact .inr ⟨_, c, rfl⟩) with ⟨rfl, rfl⟩ | ⟨a, c, rfl⟩
  · clear h hb1 ha hrun hown hbw1
    go_enter Try.func27, Try.ntmps27
    go_wp2_with fail
    (try go_ret)
    rw [HQ.out]
    exact ⟨_, rfl, .nil _ _, Below.refl _ _⟩
  · clear h hb1 ha hown hbw1
    go_enter Try.func27, Try.ntmps27
    go_wp2_with (at_builtin; refine wpList_append_run rfl (.tmp 5) (.tmp 6) 31 rfl rfl rfl rfl hrun ?_)
    (try go_ret)
    rw [HQ.out]
    exact ⟨_, rfl, HO.out, HB.out⟩
/-! ### Loads and literals, whole -/
theorem quiet_build4 {P : Program} {o : Oper} {a : Act} {S : World → Prop} {next : Act → Prop} (ty : TypeId) (i0 i1 i2 i3 : Nat) (x0 x1 x2 x3 : Operand) (ho : o.op = .build ty #[(i0, x0), (i1, x1), (i2, x2), (i3, x3)]) {v0 v1 v2 v3 : Value} (h0 : a.eval x0 = v0) (h1 : a.eval x1 = v1) (h2 : a.eval x2 = v2) (h3 : a.eval x3 = v3)
    {cells : Array Value} (hr : P.built ty [(i0, v0), (i1, v1), (i2, v2), (i3, v3)] = some cells) (h : next (a.put o.dst (.agg cells))) : o.quiet P a S next :=
  ⟨_, fun w hw => by
    unfold Oper.quietAt execOp
    have := run_build (P := P) w ty #[(i0, v0), (i1, v1), (i2, v2), (i3, v3)] _ hr
    simp only [ho, List.map_toArray, List.map_cons, List.map_nil, h0, h1, h2, h3, Sem.run_bind, Sem.run_pure, this, Result.andThen_ok]
    exact ⟨rfl, rfl⟩, h⟩
theorem uSes : ∃ d, Try.prog.underlying 48 = some d ∧ d.isRow = true := by
  have h : (Try.prog.underlying 48).map (·.isRow) = some true := by kernel_rfl
  cases h1 : Try.prog.underlying 48 with
  | none => rw [h1] at h; cases h
  | some d => rw [h1] at h; exact ⟨d, rfl, by simpa using h⟩
theorem infoSes : (Try.prog.info? 48).map (·.size) = some 12 := by kernel_rfl
theorem builtTh (T : Td) (a b : Option Addr) (n c m d : Nat) : (Try.prog).built 51 [(0, .agg (ucells 12 T.ret).toArray), (1, .agg ((List.range 12).map T.ss).toArray), (3, .slice a n c), (4, .slice b m d)] = some ((List.range 27).map (thF T (.slice none 0 0) (.slice a n c) (.slice b m d))).toArray := by kernel_rfl
theorem th_ret (T : Td) (f r s : Value) : (List.range 12).map (thF T f r s) = ucells 12 T.ret := List.map_congr_left fun i hi => by unfold thF; rw [if_pos (List.mem_range.1 hi)]
theorem th_ss (T : Td) (f r s : Value) : ((List.range 12).map fun i => thF T f r s (12 + i)) = (List.range 12).map T.ss := List.map_congr_left fun i hi => by have := List.mem_range.1 hi; unfold thF; rw [if_neg (by omega), if_pos (by omega), Nat.add_sub_cancel_left]
theorem upM_self (f : Nat → Fm) (i : Nat) : upM f i (f i) = f := by funext j; unfold upM; split <;> simp_all
end Go.Proofs.Ytdnjconfmaiegaa
