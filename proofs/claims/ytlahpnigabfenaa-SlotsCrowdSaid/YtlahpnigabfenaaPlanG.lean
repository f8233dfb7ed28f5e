/- PlanG: several texts in one. -/
import Derived.Test.YtlahpnigabfenaaWordM
import Derived.Test.YtlahpnigabfenaaExt
import Derived.Test.YtlahpnigabfenaaRows
import Derived.ProofKit
import Derived.Outline
import Derived.Lib.Hide
import Derived.Deep.Cut
/- Layer 5's contracts: which word of memory is what. A plan lies behind a pointer: its cells are the configuration. -/
namespace Go.Proofs.Ytlahpnigabfenaa
open Go.RowKit
set_option linter.unusedVariables false

theorem pret_int {k : IntKind} {a b : Int} (h : a = b) : Ending.returned (.int k a) = .returned (.int k b) := by rw [h]
def mayC (T S K : Int) : Bool := decide (1 ≤ T ∧ T ≤ 6 ∧ 7 ≤ S ∧ S ≤ 250 ∧ 1 ≤ K ∧ K ≤ 1099511627776)
theorem mayC_true {T S K : Int} (h : mayC T S K = true) : 1 ≤ T ∧ T ≤ 6 ∧ 7 ≤ S ∧ S ≤ 250 ∧ 1 ≤ K ∧ K ≤ 1099511627776 := of_decide_eq_true h

theorem pmay_calls (T S K : Int) (w : World) : Calls Try.prog 53 #[.agg #[.int .i64 T, .int .i64 S, .int .u64 K]] w fun e w' => e = .returned (.bool (mayC T S K)) ∧ Below w.heap.size w w' := by
  rcases (by omega : T < 1 ∨ (1 ≤ T ∧ 6 < T) ∨ (1 ≤ T ∧ T ≤ 6 ∧ S < 7) ∨ (1 ≤ T ∧ T ≤ 6 ∧ 7 ≤ S ∧ 250 < S) ∨ (1 ≤ T ∧ T ≤ 6 ∧ 7 ≤ S ∧ S ≤ 250 ∧ K < 1) ∨ (1 ≤ T ∧ T ≤ 6 ∧ 7 ≤ S ∧ S ≤ 250 ∧ 1 ≤ K ∧ 1099511627776 < K) ∨ (1 ≤ T ∧ T ≤ 6 ∧ 7 ≤ S ∧ S ≤ 250 ∧ 1 ≤ K ∧ K ≤ 1099511627776)) with h1 | ⟨h1, h2⟩ | ⟨h1, h2, h3⟩ | ⟨h1, h2, h3, h4⟩ | ⟨h1, h2, h3, h4, h5⟩ | ⟨h1, h2, h3, h4, h5, h6⟩ | ⟨h1, h2, h3, h4, h5, h6⟩
  all_goals
    first
      | have HM := Lib.hid (show mayC T S K = true from decide_eq_true ⟨h1, h2, h3, h4, h5, h6⟩)
      | have HM := Lib.hid (show mayC T S K = false from decide_eq_false (by omega))
    go_enter Try.func53, Try.ntmps53
    go_wp2
    go_ret
    exact ⟨by rw [HM.out]; first | rfl | (simp; done) | (simp; omega), by (repeat (first | exact Below.refl _ _ | assumption | refine below_new ?_ _ | refine Below.drew ?_ | refine below_drewN ?_ _ | refine below_on ?_ (by assumption)))⟩

def slotsI (T : Int) : Int := 3 + T * 8
def wordsI (T S : Int) : Int := 3 + T * 8 + S * 7
def threadI (T t a : Int) : Int := if 0 ≤ t ∧ t < T then 3 + t * 8 + a else -1
def ofBagI (T t a b : Int) : Int := if 0 ≤ b ∧ b < 3 then threadI T t (a + b) else -1
def nodeI (T S s f : Int) : Int := if 1 ≤ s ∧ s ≤ S ∧ 0 ≤ f ∧ f < 7 then 3 + T * 8 + (s - 1) * 7 + f else -1

theorem pslots_calls (T S : Int) (b : Nat) (w : World) (x0 : w.cell? ⟨b, 0, none⟩ = some (.int .i64 T)) (x1 : w.cell? ⟨b, 1, none⟩ = some (.int .i64 S)) (t1 : 1 ≤ T) (t2 : T ≤ 6) (s1 : 7 ≤ S) (s2 : S ≤ 250) :
    Calls Try.prog 77 #[.pointer (some ⟨b, 0, none⟩)] w fun e w' => e = .returned (.int .i64 (slotsI T)) ∧ Below w.heap.size w w' := by
  have y0 := Ext.cells x0; have y1 := Ext.cells x1; clear x0 x1
  have HS := Lib.hid (show slotsI T = 3 + T * 8 from rfl)
  refine Ext.base0 (fun x => ?_)
  go_enter Try.func77, Try.ntmps77
  go_wp2_with (first | (with_reducible refine ext_region _ ?_ ?_ ?_; kernel_rfl; kernel_rfl; (repeat (go_big_quiet_step (fail))); refine wpQuiet_nil ?_; rintro _ ⟨_, rfl⟩))
  go_ret
  exact ⟨pret_int HS.out.symm, Ext.below0 _⟩
theorem pwords_calls (T S : Int) (b : Nat) (w : World) (x0 : w.cell? ⟨b, 0, none⟩ = some (.int .i64 T)) (x1 : w.cell? ⟨b, 1, none⟩ = some (.int .i64 S)) (t1 : 1 ≤ T) (t2 : T ≤ 6) (s1 : 7 ≤ S) (s2 : S ≤ 250) :
    Calls Try.prog 55 #[.pointer (some ⟨b, 0, none⟩)] w fun e w' => e = .returned (.int .i64 (wordsI T S)) ∧ Below w.heap.size w w' := by
  have y0 := Ext.cells x0; have y1 := Ext.cells x1; clear x0 x1
  have HS := Lib.hid (show wordsI T S = slotsI T + S * 7 from rfl)
  have hs : 11 ≤ slotsI T ∧ slotsI T ≤ 51 := by unfold slotsI; omega
  refine Ext.base0 (fun x => ?_)
  go_enter Try.func55, Try.ntmps55
  go_wp2_with (first | (go_at_call 77; refine (Ext.step (pslots_calls _ _ _ _ (by exact y0 _) (by exact y1 _) ?_ ?_ ?_ ?_)).mono ?_; omega; omega; omega; omega; rintro _ _ ⟨rfl, _, rfl⟩) | (go_at_call 55; refine (Ext.step (pwords_calls _ _ _ _ (by exact y0 _) (by exact y1 _) ?_ ?_ ?_ ?_)).mono ?_; omega; omega; omega; omega; rintro _ _ ⟨rfl, _, rfl⟩) | (go_at_call 59; refine (Ext.step (pnode_calls _ _ _ _ _ _ (by exact y0 _) (by exact y1 _) ?_ ?_ ?_ ?_)).mono ?_; omega; omega; omega; omega; rintro _ _ ⟨rfl, _, rfl⟩) | (go_at_call 53; refine (Ext.step (pmay_calls _ _ _ _)).mono ?_; rintro _ _ ⟨rfl, _, rfl⟩) | (with_reducible refine ext_region _ ?_ ?_ ?_; kernel_rfl; kernel_rfl; (repeat (go_big_quiet_step (first | (go_at_call 77; refine Ext.call (pslots_calls _ _ _ _ (by exact y0 _) (by exact y1 _) ?_ ?_ ?_ ?_) <;> omega) | (go_at_call 55; refine Ext.call (pwords_calls _ _ _ _ (by exact y0 _) (by exact y1 _) ?_ ?_ ?_ ?_) <;> omega) | (go_at_call 59; refine Ext.call (pnode_calls _ _ _ _ _ _ (by exact y0 _) (by exact y1 _) ?_ ?_ ?_ ?_) <;> omega) | (go_at_call 53; refine Ext.call (pmay_calls _ _ _ _) <;> omega)))); refine wpQuiet_nil ?_; rintro _ ⟨_, rfl⟩))
  go_ret
  exact ⟨pret_int HS.out.symm, Ext.below0 _⟩
theorem pnode_calls (T S : Int) (b : Nat) (s f : Int) (w : World) (x0 : w.cell? ⟨b, 0, none⟩ = some (.int .i64 T)) (x1 : w.cell? ⟨b, 1, none⟩ = some (.int .i64 S)) (t1 : 1 ≤ T) (t2 : T ≤ 6) (s1 : 7 ≤ S) (s2 : S ≤ 250) :
    Calls Try.prog 59 #[.pointer (some ⟨b, 0, none⟩), .int .i64 s, .int .i64 f] w fun e w' => e = .returned (.int .i64 (nodeI T S s f)) ∧ Below w.heap.size w w' := by
  have y0 := Ext.cells x0; have y1 := Ext.cells x1; clear x0 x1
  have hs : slotsI T = 3 + T * 8 := rfl
  have hb : 11 ≤ slotsI T ∧ slotsI T ≤ 51 := by omega
  have Hs := Lib.hid hs; clear hs
  by_cases hc : 1 ≤ s ∧ s ≤ S ∧ 0 ≤ f ∧ f < 7
  · have HS := Lib.hid (show nodeI T S s f = slotsI T + (s - 1) * 7 + f by unfold nodeI; rw [if_pos hc, Hs.out])
    obtain ⟨h1, h2, h3, h4⟩ := hc
    refine Ext.base0 (fun x => ?_)
    go_enter Try.func59, Try.ntmps59
    go_wp2_with (first | (go_at_call 77; refine (Ext.step (pslots_calls _ _ _ _ (by exact y0 _) (by exact y1 _) ?_ ?_ ?_ ?_)).mono ?_; omega; omega; omega; omega; rintro _ _ ⟨rfl, _, rfl⟩) | (go_at_call 55; refine (Ext.step (pwords_calls _ _ _ _ (by exact y0 _) (by exact y1 _) ?_ ?_ ?_ ?_)).mono ?_; omega; omega; omega; omega; rintro _ _ ⟨rfl, _, rfl⟩) | (go_at_call 59; refine (Ext.step (pnode_calls _ _ _ _ _ _ (by exact y0 _) (by exact y1 _) ?_ ?_ ?_ ?_)).mono ?_; omega; omega; omega; omega; rintro _ _ ⟨rfl, _, rfl⟩) | (go_at_call 53; refine (Ext.step (pmay_calls _ _ _ _)).mono ?_; rintro _ _ ⟨rfl, _, rfl⟩) | (with_reducible refine ext_region _ ?_ ?_ ?_; kernel_rfl; kernel_rfl; (repeat (go_big_quiet_step (first | (go_at_call 77; refine Ext.call (pslots_calls _ _ _ _ (by exact y0 _) (by exact y1 _) ?_ ?_ ?_ ?_) <;> omega) | (go_at_call 55; refine Ext.call (pwords_calls _ _ _ _ (by exact y0 _) (by exact y1 _) ?_ ?_ ?_ ?_) <;> omega) | (go_at_call 59; refine Ext.call (pnode_calls _ _ _ _ _ _ (by exact y0 _) (by exact y1 _) ?_ ?_ ?_ ?_) <;> omega) | (go_at_call 53; refine Ext.call (pmay_calls _ _ _ _) <;> omega)))); refine wpQuiet_nil ?_; rintro _ ⟨_, rfl⟩))
    go_ret
    exact ⟨pret_int HS.out.symm, Ext.below0 _⟩
  · have HS := Lib.hid (show nodeI T S s f = -1 by unfold nodeI; rw [if_neg hc])
    rcases (by omega : s < 1 ∨ (1 ≤ s ∧ S < s) ∨ (1 ≤ s ∧ s ≤ S ∧ f < 0) ∨ (1 ≤ s ∧ s ≤ S ∧ 0 ≤ f ∧ 7 ≤ f)) with h | ⟨h, h'⟩ | ⟨h, h', h3⟩ | ⟨h, h', h3, h4⟩
    all_goals
      refine Ext.base0 (fun x => ?_)
      go_enter Try.func59, Try.ntmps59
      go_wp2_with (first | (go_at_call 77; refine (Ext.step (pslots_calls _ _ _ _ (by exact y0 _) (by exact y1 _) ?_ ?_ ?_ ?_)).mono ?_; omega; omega; omega; omega; rintro _ _ ⟨rfl, _, rfl⟩) | (go_at_call 55; refine (Ext.step (pwords_calls _ _ _ _ (by exact y0 _) (by exact y1 _) ?_ ?_ ?_ ?_)).mono ?_; omega; omega; omega; omega; rintro _ _ ⟨rfl, _, rfl⟩) | (go_at_call 59; refine (Ext.step (pnode_calls _ _ _ _ _ _ (by exact y0 _) (by exact y1 _) ?_ ?_ ?_ ?_)).mono ?_; omega; omega; omega; omega; rintro _ _ ⟨rfl, _, rfl⟩) | (go_at_call 53; refine (Ext.step (pmay_calls _ _ _ _)).mono ?_; rintro _ _ ⟨rfl, _, rfl⟩) | (with_reducible refine ext_region _ ?_ ?_ ?_; kernel_rfl; kernel_rfl; (repeat (go_big_quiet_step (first | (go_at_call 77; refine Ext.call (pslots_calls _ _ _ _ (by exact y0 _) (by exact y1 _) ?_ ?_ ?_ ?_) <;> omega) | (go_at_call 55; refine Ext.call (pwords_calls _ _ _ _ (by exact y0 _) (by exact y1 _) ?_ ?_ ?_ ?_) <;> omega) | (go_at_call 59; refine Ext.call (pnode_calls _ _ _ _ _ _ (by exact y0 _) (by exact y1 _) ?_ ?_ ?_ ?_) <;> omega) | (go_at_call 53; refine Ext.call (pmay_calls _ _ _ _) <;> omega)))); refine wpQuiet_nil ?_; rintro _ ⟨_, rfl⟩))
      go_ret
      exact ⟨pret_int HS.out.symm, Ext.below0 _⟩

theorem pnew_yes (T S K : Int) (w : World) (h : mayC T S K = true) :
    Calls Try.prog 28 #[.agg #[.int .i64 T, .int .i64 S, .int .u64 K]] w fun e w' => ∃ b, e = .returned (.tuple #[.pointer (some ⟨b, 0, none⟩), .int .i64 0]) ∧ w.heap.size ≤ b ∧ w'.heap[b]? = some (.cells #[.int .i64 T, .int .i64 S, .int .u64 K] 109 (0, 0)) ∧ Below w.heap.size w w' := by
  go_enter Try.func28, Try.ntmps28
  go_wp2_with fail
  generalize hW : World.alloc w _ = W
  have hBW : Below w.heap.size w W := by rw [← hW]; (repeat (first | exact Below.refl _ _ | assumption | refine below_new ?_ _ | refine Below.drew ?_ | refine below_drewN ?_ _ | refine below_on ?_ (by assumption)))
  refine (pmay_calls _ _ _ _).mono ?_; rintro _ w1 ⟨rfl, hb⟩
  have c0 := Ext.made_in hW hb 0 _ rfl; have c1 := Ext.made_in hW hb 1 _ rfl; have c2 := Ext.made_in hW hb 2 _ rfl
  have hB := below_on hBW hb
  clear hW hBW hb
  rw [h]
  go_wp2_with fail
  go_ret2
  exact ⟨_, rfl, hB.size, heap_alloc_new _ _, by (repeat (first | exact Below.refl _ _ | assumption | refine below_new ?_ _ | refine Below.drew ?_ | refine below_drewN ?_ _ | refine below_on ?_ (by assumption)))⟩
theorem pnew_no (T S K : Int) (w : World) (h : mayC T S K = false) :
    Calls Try.prog 28 #[.agg #[.int .i64 T, .int .i64 S, .int .u64 K]] w fun e w' => e = .returned (.tuple #[.pointer none, .int .i64 1]) ∧ Below w.heap.size w w' := by
  go_enter Try.func28, Try.ntmps28
  go_wp2_with fail
  generalize hW : World.alloc w _ = W
  have hBW : Below w.heap.size w W := by rw [← hW]; (repeat (first | exact Below.refl _ _ | assumption | refine below_new ?_ _ | refine Below.drew ?_ | refine below_drewN ?_ _ | refine below_on ?_ (by assumption)))
  refine (pmay_calls _ _ _ _).mono ?_; rintro _ w1 ⟨rfl, hb⟩
  have hB := below_on hBW hb
  clear hW hBW hb
  rw [h]
  go_wp2_with fail
  go_ret2
  exact ⟨rfl, hB⟩

/-- What a word is: kind, and two numbers. -/
def wk (T a : Int) : Int := if a < 3 then 0 else if 3 + T * 8 ≤ a then 5 else if (a - 3) % 8 = 0 then 1 else if (a - 3) % 8 = 1 then 2 else if (a - 3) % 8 < 5 then 3 else 4
def wi (T a : Int) : Int := if a < 3 then a else if 3 + T * 8 ≤ a then (a - (3 + T * 8)) / 7 + 1 else (a - 3) / 8
def wj (T a : Int) : Int := if a < 3 then 0 else if 3 + T * 8 ≤ a then (a - (3 + T * 8)) % 7 else if (a - 3) % 8 = 0 then 0 else if (a - 3) % 8 = 1 then 0 else if (a - 3) % 8 < 5 then (a - 3) % 8 - 2 else (a - 3) % 8 - 5
def isW (T S a : Int) : Bool := decide (0 ≤ a ∧ a < wordsI T S)


end Go.Proofs.Ytlahpnigabfenaa

/- Layer 5's reference: all words, one behind the other; where a word is. -/
namespace Go.Proofs.Ytlahpnigabfenaa
open Go.RowKit
set_option linter.unusedVariables false
set_option linter.unusedSimpArgs false

theorem uW : Try.prog.underlying 127 = some (.slice 139) := by kernel_rfl
theorem infoW : (Try.prog.info? 139).map (fun i => (i.zero, i.size, i.bytes)) = some (some (.agg #[.int .i64 0, .int .i64 0, .int .i64 0]), 3, 24) := by kernel_rfl

/-- The words' cells, up to a number. -/
def wcells (T : Int) (n : Nat) : List Value := (List.range n).flatMap fun (a : Nat) => [.int .i64 (wk T (a : Int)), .int .i64 (wi T (a : Int)), .int .i64 (wj T (a : Int))]
theorem wcells_succ (T : Int) (n : Nat) : wcells T (n + 1) = wcells T n ++ [.int .i64 (wk T n), .int .i64 (wi T n), .int .i64 (wj T n)] := by
  simp [wcells, List.range_succ]
theorem wcells_len (T : Int) (n : Nat) : (wcells T n).length = n * 3 := by
  induction n with
  | zero => simp [wcells]
  | succ n ih => rw [wcells_succ, List.length_append, ih]; simp; omega

/-- What is laid anew for one append. -/
theorem news_at {w W : World} {arr : Array Value} {T : TypeId} (hW : w.alloc (.cells arr T) = W) (j : Nat) (u : Value) (h : arr.toList[j]? = some u) : W.cell? ((⟨w.heap.size, 0, none⟩ : Addr).add j) = some u := by
  subst hW
  have := cell_of_row (w.alloc (.cells arr T)) w.heap.size j arr T (0, 0) (heap_alloc_new w _)
  have e : (⟨w.heap.size, 0, none⟩ : Addr).add j = ⟨w.heap.size, j, none⟩ := by
    simp [Addr.add]; rintro rfl; rfl
  rw [e, this]; simpa using h
theorem one_int {l : List Value} (h : l.all (fun v => match v with | .int _ _ => true | _ => false) = true) : ∀ u ∈ l, u.oneCell' = true := by
  intro u hu
  have := List.all_eq_true.1 h u hu
  cases u <;> first | rfl | simp at this

theorem wk_at (T : Int) (t n : Nat) (h : (t : Int) < T) (k : Nat) (hn : n = 3 + 8 * t + k) (hk : k < 8) :
    wk T n = (if k = 0 then 1 else if k = 1 then 2 else if k < 5 then 3 else 4) ∧ wi T n = t ∧ wj T n = (if k = 0 then 0 else if k = 1 then 0 else if k < 5 then (k : Int) - 2 else (k : Int) - 5) := by
  subst hn
  have e1 : ¬ ((3 + 8 * t + k : Nat) : Int) < 3 := by omega
  have e2 : ¬ 3 + T * 8 ≤ ((3 + 8 * t + k : Nat) : Int) := by omega
  have e3 : (((3 + 8 * t + k : Nat) : Int) - 3) % 8 = k := by omega
  have e4 : (((3 + 8 * t + k : Nat) : Int) - 3) / 8 = t := by omega
  unfold wk wi wj
  simp only [if_neg e1, if_neg e2, e3, e4]
  refine ⟨?_, trivial, ?_⟩
  · rcases (by omega : k = 0 ∨ k = 1 ∨ (2 ≤ k ∧ k < 5) ∨ (5 ≤ k)) with rfl | rfl | ⟨h1, h2⟩ | h1
    · rfl
    · rfl
    · rw [if_neg (by omega), if_neg (by omega), if_pos (by omega), if_neg (by omega), if_neg (by omega), if_pos h2]
    · rw [if_neg (by omega), if_neg (by omega), if_neg (by omega), if_neg (by omega), if_neg (by omega), if_neg (by omega)]
  · rcases (by omega : k = 0 ∨ k = 1 ∨ (2 ≤ k ∧ k < 5) ∨ (5 ≤ k)) with rfl | rfl | ⟨h1, h2⟩ | h1
    · rfl
    · rfl
    · rw [if_neg (by omega), if_neg (by omega), if_pos (by omega), if_neg (by omega), if_neg (by omega), if_pos h2]
    · rw [if_neg (by omega), if_neg (by omega), if_neg (by omega), if_neg (by omega), if_neg (by omega), if_neg (by omega)]
theorem wn_at (t s f : Nat) (n : Nat) (hn : n = 3 + 8 * t + 7 * s + f) (hf : f < 7) : wk (t : Int) n = 5 ∧ wi (t : Int) n = (s : Int) + 1 ∧ wj (t : Int) n = f := by
  subst hn
  have e1 : ¬ ((3 + 8 * t + 7 * s + f : Nat) : Int) < 3 := by omega
  have e2 : 3 + (t : Int) * 8 ≤ ((3 + 8 * t + 7 * s + f : Nat) : Int) := by omega
  unfold wk wi wj
  simp only [if_neg e1, if_pos e2]
  exact ⟨trivial, by omega, by omega⟩

theorem own_ge {w : World} {B : Nat} {e : TypeId} {size : Nat} {v : Value} {n : Nat} {xs : List Value} (h : w.ownsRow B e size v n xs) : ∀ k, v.ownBlock = some k → B ≤ k := by
  intro k hk
  rcases h.2 with ⟨rfl, _⟩ | ⟨g, cap, cur, rfl, hg, _⟩
  · cases hk
  · simp only [Value.ownBlock, Option.some.injEq] at hk; omega
/-- What stands below the row, behind one append more. -/
theorem grow_step {W w0 w1 : World} {B : Nat} {e : TypeId} {size : Nat} {v : Value} {n : Nat} {xs : List Value} {o : Obj} (hown : w0.ownsRow B e size v n xs) (hbel : Below B W w0) (hB : B ≤ W.heap.size)
    (hg : (w0.alloc o).grownBy w1 v.ownBlock) : Below B W w1 :=
  (hbel.alloc (by have := hbel.size; omega) o).grown hg (by have := hbel.size; simp; omega) (own_ge hown)
theorem own_to {w : World} {B : Nat} {e : TypeId} {v : Value} {T : Int} {n m : Nat} (h : w.ownsRow B e 3 v n (wcells T n)) (he : n = m) : w.ownsRow B e 3 v m (wcells T m) := by subst he; exact h
theorem wcells2 (t k : Nat) (h : k < t) : wcells t (3 + 8 * k) ++ [.int .i64 1, .int .i64 k, .int .i64 0, .int .i64 2, .int .i64 k, .int .i64 0] = wcells t (3 + 8 * k + 2) := by
  obtain ⟨a1, a2, a3⟩ := wk_at t k (3 + 8 * k) (by omega) 0 rfl (by omega)
  obtain ⟨b1, b2, b3⟩ := wk_at t k (3 + 8 * k + 1) (by omega) 1 rfl (by omega)
  rw [wcells_succ, wcells_succ, a1, a2, a3, b1, b2, b3]; simp
theorem wcells3 (t k j : Nat) (h : k < t) (hj : j < 3) : wcells t (3 + 8 * k + 2 + j) ++ [.int .i64 3, .int .i64 k, .int .i64 j] = wcells t (3 + 8 * k + 2 + (j + 1)) := by
  obtain ⟨a1, a2, a3⟩ := wk_at t k (3 + 8 * k + 2 + j) (by omega) (2 + j) (by omega) (by omega)
  rw [show 3 + 8 * k + 2 + (j + 1) = (3 + 8 * k + 2 + j) + 1 by omega, wcells_succ, a1, a2, a3]
  rw [if_neg (by omega), if_neg (by omega), if_pos (by omega), if_neg (by omega), if_neg (by omega), if_pos (by omega)]
  congr 4; simp; omega
theorem wcells4 (t k j : Nat) (h : k < t) (hj : j < 3) : wcells t (3 + 8 * k + 5 + j) ++ [.int .i64 4, .int .i64 k, .int .i64 j] = wcells t (3 + 8 * k + 5 + (j + 1)) := by
  obtain ⟨a1, a2, a3⟩ := wk_at t k (3 + 8 * k + 5 + j) (by omega) (5 + j) (by omega) (by omega)
  rw [show 3 + 8 * k + 5 + (j + 1) = (3 + 8 * k + 5 + j) + 1 by omega, wcells_succ, a1, a2, a3]
  rw [if_neg (by omega), if_neg (by omega), if_neg (by omega), if_neg (by omega), if_neg (by omega), if_neg (by omega)]
  congr 4; simp; omega
theorem wcells5 (t k j : Nat) (hj : j < 7) : wcells t (3 + 8 * t + 7 * k + j) ++ [.int .i64 5, .int .i64 ((k : Int) + 1), .int .i64 j] = wcells t (3 + 8 * t + 7 * k + (j + 1)) := by
  obtain ⟨a1, a2, a3⟩ := wn_at t k j (3 + 8 * t + 7 * k + j) rfl hj
  rw [show 3 + 8 * t + 7 * k + (j + 1) = (3 + 8 * t + 7 * k + j) + 1 by omega, wcells_succ, a1, a2, a3]

set_option maxRecDepth 8000 in
set_option maxHeartbeats 2000000 in
theorem rwords_calls (t s : Nat) (K : Int) (w : World) (t1 : 1 ≤ t) (t2 : t ≤ 6) (s1 : 7 ≤ s) (s2 : s ≤ 250) :
    Calls Try.prog 72 #[.agg #[.int .i64 t, .int .i64 s, .int .u64 K]] w fun e w' =>
      ∃ v, e = .returned v ∧ w'.ownsRow (w.heap.size + 1) 139 3 v (3 + 8 * t + 7 * s) (wcells t (3 + 8 * t + 7 * s)) ∧ Below w.heap.size w w' := by
  obtain ⟨i0, hi, hz0, hz1, hz2⟩ := info_parts infoW
  go_enter Try.func72, Try.ntmps72
  go_wp2_with fail
  generalize hW : World.alloc w _ = W
  have hBW : Below w.heap.size w W := by rw [← hW]; (repeat (first | exact Below.refl _ _ | assumption | refine below_new ?_ _ | refine Below.drew ?_ | refine below_drewN ?_ _ | refine below_on ?_ (by assumption)))
  have hs : W.heap.size = w.heap.size + 1 := by rw [← hW]; simp
  have z0 : W.cell? ⟨w.heap.size, 0, none⟩ = some (.int .i64 t) := Ext.made_in hW (Below.refl _ _) 0 _ rfl
  have z1 : W.cell? ⟨w.heap.size, 1, none⟩ = some (.int .i64 s) := Ext.made_in hW (Below.refl _ _) 1 _ rfl
  clear hW
  have hst : (W.alloc (.cells #[.int .i64 0, .int .i64 0, .int .i64 0, .int .i64 0, .int .i64 1, .int .i64 0, .int .i64 0, .int .i64 2, .int .i64 0] 139)).ownsRow (w.heap.size + 1) 139 3 (.slice (some ⟨w.heap.size + 1, 0, none⟩) 3 3) 3 (wcells t 3) := by
    refine ⟨wcells_len _ _, .inr ⟨w.heap.size + 1, 3, _, rfl, Nat.le_refl _, (by rw [← hs]; exact heap_alloc_new _ _), Nat.le_refl _, by decide, rfl, ?_⟩⟩
    have e0 := wk; simp [wcells, List.range_succ, wk, wi, wj]
  rw [← hs] at hst ⊢
  have hBW' : w.heap.size ≤ W.heap.size := by omega
  generalize hB : W.heap.size = B at *
  have Hs := Lib.hid hs
  clear hs
  go_loopw [3, 4] (fun l tv wr => ∃ k : Nat, k ≤ t ∧ tv = .int .i64 k ∧ wr.ownsRow B 139 3 l (3 + 8 * k) (wcells t (3 + 8 * k)) ∧ Below B W wr)
    (fun _ tv _ => t - (intOf tv).toNat)
  case atStart => exact ⟨0, Nat.zero_le _, rfl, hst, by rw [← hB]; (repeat (first | exact Below.refl _ _ | assumption | refine below_new ?_ _ | refine Below.drew ?_ | refine below_drewN ?_ _ | refine below_on ?_ (by assumption)))⟩
  case round =>
    obtain ⟨k, hk, rfl, hown, hbel⟩ := hrel
    have y0 : wr.cell? ⟨w.heap.size, 0, none⟩ = some (.int .i64 t) := (hbel.cell (p := ⟨w.heap.size, 0, none⟩) (by have := Hs.out; simp; omega)).trans z0
    have hsz := hbel.size; rw [hB] at hsz
    rcases (by omega : k < t ∨ k = t) with hlt | heq
    · go_wp2_with ((at_builtin; refine wpList_append_own _ rfl (.tmp 19) (.tmp 24) 127 rfl B 139 i0 _ 3 24 uW hi hz0 hz1 hz2 rfl (by decide) _ _ _ rfl (hown.alloc _) ⟨wr.heap.size, 0, none⟩ 2 2 [.int .i64 1, .int .i64 k, .int .i64 0, .int .i64 2, .int .i64 k, .int .i64 0] rfl rfl (news_at rfl) (one_int rfl) (by unfold maxLen; omega) (by omega) (by simp; omega) ?_))
      intro v1 w1 hown1 hgrow1 _
      rw [wcells2 t k hlt] at hown1
      have hbel1 := grow_step hown hbel (by omega) hgrow1
      clear hown hbel hgrow1 y0 hsz
      go_wp2_with fail
      go_loopw [3, 5] (fun l jv wr => ∃ j : Nat, j ≤ 3 ∧ jv = .int .i64 j ∧ wr.ownsRow B 139 3 l (3 + 8 * k + 2 + j) (wcells t (3 + 8 * k + 2 + j)) ∧ Below B W wr)
        (fun _ jv _ => 3 - (intOf jv).toNat)
      case atStart => exact ⟨0, Nat.zero_le _, rfl, hown1, hbel1⟩
      case round =>
        clear hown1 hbel1
        obtain ⟨j, hj, rfl, hown, hbel⟩ := hrel
        have hsz := hbel.size; rw [hB] at hsz
        rcases (by omega : j < 3 ∨ 3 ≤ j) with hjl | hje
        · go_wp2_with ((at_builtin; refine wpList_append_own _ rfl (.tmp 30) (.tmp 34) 127 rfl B 139 i0 _ 3 24 uW hi hz0 hz1 hz2 rfl (by decide) _ _ _ rfl (hown.alloc _) ⟨wr.heap.size, 0, none⟩ 1 1 [.int .i64 3, .int .i64 k, .int .i64 j] rfl rfl (news_at rfl) (one_int rfl) (by unfold maxLen; omega) (by omega) (by simp; omega) ?_))
          intro v1 w1 hown1 hgrow1 _
          rw [wcells3 t k j hlt hjl] at hown1
          have hbel1 := grow_step hown hbel (by omega) hgrow1
          clear hown hbel hgrow1 hsz
          go_wp2_with fail
          go_roundw
          case rel => exact ⟨j + 1, by omega, by go_num, hown1, hbel1⟩
          case measure => simp [intOf]; omega
        · have hown := own_to hown (show _ = (3 + 8 * k + 5 + 0) by omega)
          go_wp2_with fail
          go_loopw [3, 6] (fun l jv wr => ∃ j : Nat, j ≤ 3 ∧ jv = .int .i64 j ∧ wr.ownsRow B 139 3 l (3 + 8 * k + 5 + j) (wcells t (3 + 8 * k + 5 + j)) ∧ Below B W wr)
            (fun _ jv _ => 3 - (intOf jv).toNat)
          case atStart => exact ⟨0, Nat.zero_le _, rfl, hown, hbel⟩
          case round =>
            clear hown hbel hsz
            obtain ⟨j, hj, rfl, hown, hbel⟩ := hrel
            have hsz := hbel.size; rw [hB] at hsz
            rcases (by omega : j < 3 ∨ 3 ≤ j) with hjl | hje
            · go_wp2_with ((at_builtin; refine wpList_append_own _ rfl (.tmp 40) (.tmp 44) 127 rfl B 139 i0 _ 3 24 uW hi hz0 hz1 hz2 rfl (by decide) _ _ _ rfl (hown.alloc _) ⟨wr.heap.size, 0, none⟩ 1 1 [.int .i64 4, .int .i64 k, .int .i64 j] rfl rfl (news_at rfl) (one_int rfl) (by unfold maxLen; omega) (by omega) (by simp; omega) ?_))
              intro v1 w1 hown1 hgrow1 _
              rw [wcells4 t k j hlt hjl] at hown1
              have hbel1 := grow_step hown hbel (by omega) hgrow1
              clear hown hbel hgrow1 hsz
              go_wp2_with fail
              go_roundw
              case rel => exact ⟨j + 1, by omega, by go_num, hown1, hbel1⟩
              case measure => simp [intOf]; omega
            · have hown := own_to hown (show _ = (3 + 8 * (k + 1)) by omega)
              go_wp2_with fail
              go_roundw
              case rel => exact ⟨k + 1, by omega, by go_num, hown, hbel⟩
              case measure => simp [intOf]; omega
    · subst heq
      clear z0 hst
      go_wp2_with fail
      go_loopw [3, 7] (fun l tv wr => ∃ m : Nat, m ≤ s ∧ tv = .int .i64 ((m : Int) + 1) ∧ wr.ownsRow B 139 3 l (3 + 8 * k + 7 * m) (wcells k (3 + 8 * k + 7 * m)) ∧ Below B W wr)
        (fun _ tv _ => s + 1 - (intOf tv).toNat)
      case atStart => exact ⟨0, Nat.zero_le _, rfl, hown, hbel⟩
      case round =>
        clear hown hbel hsz y0
        obtain ⟨m, hm, rfl, hown, hbel⟩ := hrel
        have y1 : wr.cell? ⟨w.heap.size, 1, none⟩ = some (.int .i64 s) := (hbel.cell (p := ⟨w.heap.size, 1, none⟩) (by have := Hs.out; simp; omega)).trans z1
        rcases (by omega : m < s ∨ m = s) with hml | hme
        · have hml' : (m : Int) + 1 ≤ s := by omega
          go_wp2_with fail
          go_loopw [3, 8] (fun l jv wr => ∃ j : Nat, j ≤ 7 ∧ jv = .int .i64 j ∧ wr.ownsRow B 139 3 l (3 + 8 * k + 7 * m + j) (wcells k (3 + 8 * k + 7 * m + j)) ∧ Below B W wr)
            (fun _ jv _ => 7 - (intOf jv).toNat)
          case atStart => exact ⟨0, Nat.zero_le _, rfl, hown, hbel⟩
          case round =>
            clear hown hbel y1
            obtain ⟨j, hj, rfl, hown, hbel⟩ := hrel
            have hsz := hbel.size; rw [hB] at hsz
            rcases (by omega : j < 7 ∨ 7 ≤ j) with hjl | hje
            · go_wp2_with ((at_builtin; refine wpList_append_own _ rfl (.tmp 56) (.tmp 60) 127 rfl B 139 i0 _ 3 24 uW hi hz0 hz1 hz2 rfl (by decide) _ _ _ rfl (hown.alloc _) ⟨wr.heap.size, 0, none⟩ 1 1 [.int .i64 5, .int .i64 ((m : Int) + 1), .int .i64 j] rfl rfl (news_at rfl) (one_int rfl) (by unfold maxLen; omega) (by omega) (by simp; omega) ?_))
              intro v1 w1 hown1 hgrow1 _
              rw [wcells5 k m j hjl] at hown1
              have hbel1 := grow_step hown hbel (by omega) hgrow1
              clear hown hbel hgrow1 hsz
              go_wp2_with fail
              go_roundw
              case rel => exact ⟨j + 1, by omega, by go_num, hown1, hbel1⟩
              case measure => simp [intOf]; omega
            · have hown := own_to hown (show _ = (3 + 8 * k + 7 * (m + 1)) by omega)
              go_wp2_with fail
              go_roundw
              case rel => exact ⟨m + 1, by omega, by go_num, hown, hbel⟩
              case measure => simp [intOf]; omega
        · subst hme
          go_wp2_with fail
          go_ret
          have := Hs.out
          rw [this] at hown
          exact ⟨_, rfl, hown, hBW.trans (hbel.mono (by omega))⟩
end Go.Proofs.Ytlahpnigabfenaa

/- Layer 5: a plan that isn't there; the reference's May. -/
namespace Go.Proofs.Ytlahpnigabfenaa
open Go.RowKit
set_option linter.unusedVariables false
set_option linter.unusedSimpArgs false

theorem pnwords_calls (w : World) : Calls Try.prog 55 #[.pointer none] w fun e w' => e = .returned (.int .i64 0) ∧ Below w.heap.size w w' := by
  go_enter Try.func55, Try.ntmps55
  go_wp2
  go_ret
  exact ⟨rfl, by (repeat (first | exact Below.refl _ _ | assumption | refine below_new ?_ _ | refine Below.drew ?_ | refine below_drewN ?_ _ | refine below_on ?_ (by assumption)))⟩
theorem pnconf_calls (w : World) : Calls Try.prog 41 #[.pointer none] w fun e w' => e = .returned (.agg #[.int .i64 0, .int .i64 0, .int .u64 0]) ∧ Below w.heap.size w w' := by
  go_enter Try.func41, Try.ntmps41
  go_wp2
  exact bodyPost_ret (v := .agg #[.int .i64 0, .int .i64 0, .int .u64 0]) (by simp [results, Try.results41, go_sem]) rfl ⟨rfl, by (repeat (first | exact Below.refl _ _ | assumption | refine below_new ?_ _ | refine Below.drew ?_ | refine below_drewN ?_ _ | refine below_on ?_ (by assumption)))⟩
theorem pnnode_calls (t : Int) (w : World) : Calls Try.prog 59 #[.pointer none, .int .i64 t, .int .i64 0] w fun e w' => e = .returned (.int .i64 (-1)) ∧ Below w.heap.size w w' := by
  go_enter Try.func59, Try.ntmps59
  go_wp2_with (first | (go_at_call 55; refine (pnwords_calls _).mono ?_; rintro _ _ ⟨rfl, _⟩) | (go_at_call 41; refine (pnconf_calls _).mono ?_; rintro _ _ ⟨rfl, _⟩) | (go_at_call 59; refine (pnnode_calls _ _).mono ?_; rintro _ _ ⟨rfl, _⟩) | (go_at_call 5; refine (rmay_calls _ _ _ _).mono ?_; rintro _ _ ⟨rfl, _⟩))
  go_ret
  exact ⟨rfl, by (repeat (first | exact Below.refl _ _ | assumption | refine below_new ?_ _ | refine Below.drew ?_ | refine below_drewN ?_ _ | refine below_on ?_ (by assumption)))⟩
theorem rmay_calls (T S K : Int) (w : World) : Calls Try.prog 5 #[.agg #[.int .i64 T, .int .i64 S, .int .u64 K]] w fun e w' => e = .returned (.bool (mayC T S K)) ∧ Below w.heap.size w w' := by
  rcases (by omega : T < 1 ∨ (1 ≤ T ∧ 6 < T) ∨ (1 ≤ T ∧ T ≤ 6 ∧ S < 7) ∨ (1 ≤ T ∧ T ≤ 6 ∧ 7 ≤ S ∧ 250 < S) ∨ (1 ≤ T ∧ T ≤ 6 ∧ 7 ≤ S ∧ S ≤ 250 ∧ K < 1) ∨ (1 ≤ T ∧ T ≤ 6 ∧ 7 ≤ S ∧ S ≤ 250 ∧ 1 ≤ K ∧ 1099511627776 < K) ∨ (1 ≤ T ∧ T ≤ 6 ∧ 7 ≤ S ∧ S ≤ 250 ∧ 1 ≤ K ∧ K ≤ 1099511627776)) with h1 | ⟨h1, h2⟩ | ⟨h1, h2, h3⟩ | ⟨h1, h2, h3, h4⟩ | ⟨h1, h2, h3, h4, h5⟩ | ⟨h1, h2, h3, h4, h5, h6⟩ | ⟨h1, h2, h3, h4, h5, h6⟩
  all_goals
    first
      | have HM := Lib.hid (show mayC T S K = true from decide_eq_true ⟨h1, h2, h3, h4, h5, h6⟩)
      | have HM := Lib.hid (show mayC T S K = false from decide_eq_false (by omega))
    go_enter Try.func5, Try.ntmps5
    go_wp2
    go_ret
    exact ⟨by rw [HM.out]; first | rfl | (simp; done) | (simp; omega), by (repeat (first | exact Below.refl _ _ | assumption | refine below_new ?_ _ | refine Below.drew ?_ | refine below_drewN ?_ _ | refine below_on ?_ (by assumption)))⟩
theorem pconf_calls (T S K : Int) (b : Nat) (w : World) (x0 : w.cell? ⟨b, 0, none⟩ = some (.int .i64 T)) (x1 : w.cell? ⟨b, 1, none⟩ = some (.int .i64 S)) (x2 : w.cell? ⟨b, 2, none⟩ = some (.int .u64 K)) :
    Calls Try.prog 41 #[.pointer (some ⟨b, 0, none⟩)] w fun e w' => e = .returned (.agg #[.int .i64 T, .int .i64 S, .int .u64 K]) ∧ Below w.heap.size w w' := by
  go_enter Try.func41, Try.ntmps41
  go_upto_region 1 with (fail)
  generalize hV : World.alloc w _ = V
  have hBV : Below w.heap.size w V := by rw [← hV]; (repeat (first | exact Below.refl _ _ | assumption | refine below_new ?_ _ | refine Below.drew ?_ | refine below_drewN ?_ _ | refine below_on ?_ (by assumption)))
  have f0 := Ext.made_free hV 0; have f1 := Ext.made_free hV 1; have f2 := Ext.made_free hV 2
  have c0 : ∀ x : Ext V, x.w.cell? ⟨w.heap.size, 0, none⟩ = some (.int .i64 0) := Ext.made hV 0 _ rfl
  have c1 : ∀ x : Ext V, x.w.cell? ⟨w.heap.size, 1, none⟩ = some (.int .i64 0) := Ext.made hV 1 _ rfl
  have c2 : ∀ x : Ext V, x.w.cell? ⟨w.heap.size, 2, none⟩ = some (.int .u64 0) := Ext.made hV 2 _ rfl
  have y0 := Ext.new x0 hV; have y1 := Ext.new x1 hV; have y2 := Ext.new x2 hV
  clear hV x0 x1 x2
  obtain ⟨x, hx⟩ : ∃ x : Ext V, x.w = V := ⟨⟨V, Below.refl _ _⟩, rfl⟩; rw [← hx]; clear hx
  go_wp2_with (first | (with_reducible refine ext_region _ ?_ ?_ ?_; kernel_rfl; kernel_rfl; (repeat (go_big_quiet_step (fail))); refine wpQuiet_nil ?_; rintro _ ⟨_, rfl⟩))
  exact bodyPost_ret (v := .agg #[.int .i64 T, .int .i64 S, .int .u64 K]) (by simp [results, Try.results41, go_sem, c0, c1, c2, World.cell?_setCell_same, World.cell?_setCell_other]) rfl ⟨rfl, below_set (below_set (below_set (Ext.below hBV _) (by omega) _) (by omega) _) (by omega) _⟩
end Go.Proofs.Ytlahpnigabfenaa
