/- Layer 36: the chapter's example. -/
import Derived.Test.YtminbfingjbbbaaTurnA
namespace Go.Proofs.Ytminbfingjbbbaa
open Go.RowKit
set_option linter.unusedVariables false
set_option linter.unusedSimpArgs false

theorem uPL : Try.prog.underlying 30 = some (.slice 39) := by kernel_rfl
theorem infoPair : (Try.prog.info? 39).map (fun i => (i.zero, i.size, i.bytes)) = some (some (.agg #[.int .i64 0, .int .i64 0]), 2, 16) := by kernel_rfl

abbrev OwnP (w : World) (B : Nat) (v : Value) (l : PL) : Prop := w.ownsRow B 39 2 v l.length (pcells l)
theorem own_PR {w : World} {B : Nat} {v : Value} {l : PL} (h : OwnP w B v l) : PR w v l := by
  rcases h.2 with ⟨rfl, h0⟩ | ⟨g, cap, cur, hv, hg, hh, hc, hm, hs, ht⟩
  · have e : l = [] := List.eq_nil_of_length_eq_zero h0
    subst e; exact .nil
  · subst hv
    refine .row g 0 cap l hc hm fun i hi => ?_
    obtain ⟨g0, g1⟩ := pcells_get l i hi
    have hl := pcells_len l
    rw [← ht, List.getElem?_take_of_lt (by omega)] at g0 g1
    refine ⟨?_, ?_⟩
    · rw [cell_of_row _ g _ _ _ (0, 0) hh]; simpa using g0
    · rw [cell_of_row _ g _ _ _ (0, 0) hh]; simpa using g1
theorem own_none (w : World) : OwnP (w.alloc (.cells #[] 39)) w.heap.size (.slice (some ⟨w.heap.size, 0, none⟩) 0 0) [] :=
  ⟨rfl, .inr ⟨_, 0, _, rfl, Nat.le_refl _, heap_alloc_new w _, Nat.le_refl _, by decide, rfl, rfl⟩⟩
theorem own_nil (w : World) (B : Nat) : OwnP w B (.slice none 0 0) [] := ⟨rfl, .inl ⟨rfl, rfl⟩⟩
theorem grow_step {W w0 w1 : World} {B : Nat} {v : Value} {l : PL} (hown : OwnP w0 B v l) (hbel : Below B W w0) (hB : B ≤ W.heap.size) (hg : w0.grownBy w1 v.ownBlock) : Below B W w1 :=
  hbel.grown hg (by have := hbel.size; omega) (own_ge hown)
theorem PR_news {w : World} {g o : Nat} {l : PL} (h : ∀ i, i < l.length → w.cell? ⟨g, o + i * 2, none⟩ = some (.int .i64 (ky l i)) ∧ w.cell? ⟨g, o + i * 2 + 1, none⟩ = some (.int .i64 (vl l i))) (j : Nat) (u : Value) (hu : (pcells l)[j]? = some u) : w.cell? ((⟨g, o, none⟩ : Addr).add j) = some u := by
  obtain ⟨i, hi, h1⟩ := pcells_at hu
  rw [addP]
  rcases h1 with ⟨rfl, rfl⟩ | ⟨rfl, rfl⟩
  · exact (h i hi).1
  · exact (h i hi).2

theorem wpList_append_pr {w : World} {ops : Array Oper} {rest : List Oper} {o : Oper} {a : Act} {Q : Exit → Act → World → Prop} (hgd : o.guard = none) (s x : Operand)
    (ho : o.op = .call { callee := .builtin .append, args := #[s, x], argTypes := #[30, 30] })
    (B : Nat) (v : Value) (l : PL) (hs : a.eval s = v) (hown : OwnP w B v l) (src : Value) (k : PL) (hx : a.eval x = src) (hp : PR w src k) (hlen : l.length + k.length ≤ 1000000) (hB : B ≤ w.heap.size)
    (h : ∀ v' w', OwnP w' B v' (l ++ k) → w.grownBy w' v.ownBlock → wpList Try.prog ops Q rest (a.put o.dst v') w') : wpList Try.prog ops Q (o :: rest) a w := by
  obtain ⟨i0, hi, hz0, hz1, hz2⟩ := info_parts infoPair
  cases hp with
  | nil => exact wpList_append_own_none hgd s x 30 ho B 39 i0 2 uPL hi v l.length (pcells l) hs hown hx (h v w (by simpa [OwnP] using hown) ⟨rfl, rfl, rfl, Nat.le_refl _, fun _ _ _ => rfl⟩)
  | odd ad c hc0 =>
    refine wpList_append_own _ hgd s x 30 ho B 39 i0 _ 2 16 uPL hi hz0 hz1 hz2 rfl (by decide) v l.length (pcells l) hs hown ad 0 c [] hx rfl (by simp) (by simp) (by unfold maxLen; omega) (by omega) hB ?_
    intro v' w' h4 h5 _
    exact h v' w' (by simpa [OwnP] using h4) h5
  | row g of c _ h1 h2 h3 =>
    refine wpList_append_own _ hgd s x 30 ho B 39 i0 _ 2 16 uPL hi hz0 hz1 hz2 rfl (by decide) v l.length (pcells l) hs hown ⟨g, of, none⟩ k.length c (pcells k) hx (pcells_len k) (PR_news h3) (pcells_one' k) (by unfold maxLen; omega) (by omega) hB ?_
    intro v' w' h4 h5 _
    exact h v' w' (by unfold OwnP; rw [List.length_append, pcells_app]; exact h4) h5

theorem PR.single {w : World} {k x : Int} {T : TypeId} : PR (w.alloc (.cells #[.int .i64 k, .int .i64 x] T)) (.slice (some ⟨w.heap.size, 0, none⟩) 1 1) [(k, x)] := by
  have := Cell2.new w k x T
  refine .mkrow rfl (by omega) (by omega) fun i hi => ?_
  have : i = 0 := by simpa using hi
  subst this
  exact ⟨this.c0, this.c1⟩

theorem emay (w : World) : Calls Try.prog 12 #[.int .i64 2, .int .i64 1, .int .i64 2] w fun e w' => e = .returned (.bool true) ∧ w' = w := by
  refine Calls.veil fun Q HQ => ?_
  go_enter Try.func12, Try.ntmps12
  go_wp2_with fail
  (try go_ret)
  rw [HQ.out]
  exact ⟨rfl, rfl⟩
theorem ebehind0 (w : World) : Calls Try.prog 13 #[.int .i64 2, .int .i64 1, .int .i64 0] w fun e w' => e = .returned (.int .i64 1) ∧ w' = w := by
  refine Calls.veil fun Q HQ => ?_
  go_enter Try.func13, Try.ntmps13
  go_wp2_with fail
  refine wp_loop_rounds 1 ?_
  rw [rounds_succ]
  go_wp2_with fail
  (try go_ret)
  rw [HQ.out]
  exact ⟨rfl, rfl⟩
theorem ebehind1 (w : World) : Calls Try.prog 13 #[.int .i64 2, .int .i64 1, .int .i64 1] w fun e w' => e = .returned (.int .i64 1) ∧ w' = w := by
  refine Calls.veil fun Q HQ => ?_
  go_enter Try.func13, Try.ntmps13
  go_wp2_with fail
  refine wp_loop_rounds 2 ?_
  rw [rounds_succ]
  go_wp2_with fail
  rw [rounds_succ]
  go_wp2_with fail
  (try go_ret)
  rw [HQ.out]
  exact ⟨rfl, rfl⟩
theorem ecount (w : World) : Calls Try.prog 5 #[.int .i64 2, .int .i64 1, .int .i64 2] w fun e w' => e = .returned (.int .i64 2) ∧ w' = w := by
  refine Calls.veil fun Q HQ => ?_
  go_enter Try.func5, Try.ntmps5
  go_wp2_with fail
  refine (emay w).mono ?_; rintro _ _ ⟨rfl, rfl⟩
  go_wp2_with fail
  refine (ebehind1 _).mono ?_; rintro _ _ ⟨rfl, rfl⟩
  go_wp2_with fail
  (try go_ret)
  rw [HQ.out]
  exact ⟨rfl, rfl⟩
end Go.Proofs.Ytminbfingjbbbaa
