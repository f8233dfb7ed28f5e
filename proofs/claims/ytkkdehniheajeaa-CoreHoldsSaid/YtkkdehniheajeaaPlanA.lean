/- Layer 5's contracts: which word of memory is what. A plan lies behind a pointer: its cells are the configuration. -/
import Derived.Test.YtkkdehniheajeaaWordM
import Derived.Test.YtkkdehniheajeaaExt
import Derived.Test.YtkkdehniheajeaaRows
import Derived.ProofKit
import Derived.Outline
import Derived.Lib.Hide
namespace Go.Proofs.Ytkkdehniheajeaa
open Go.RowKit
set_option linter.unusedVariables false

theorem pret_int {k : IntKind} {a b : Int} (h : a = b) : Ending.returned (.int k a) = .returned (.int k b) := by rw [h]
def mayC (T S K : Int) : Bool := decide (1 ≤ T ∧ T ≤ 6 ∧ 7 ≤ S ∧ S ≤ 250 ∧ 1 ≤ K ∧ K ≤ 1099511627776)
theorem mayC_true {T S K : Int} (h : mayC T S K = true) : 1 ≤ T ∧ T ≤ 6 ∧ 7 ≤ S ∧ S ≤ 250 ∧ 1 ≤ K ∧ K ≤ 1099511627776 := of_decide_eq_true h

theorem pmay_calls (T S K : Int) (w : World) : Calls Try.prog 79 #[.agg #[.int .i64 T, .int .i64 S, .int .u64 K]] w fun e w' => e = .returned (.bool (mayC T S K)) ∧ Below w.heap.size w w' := by
  rcases (by omega : T < 1 ∨ (1 ≤ T ∧ 6 < T) ∨ (1 ≤ T ∧ T ≤ 6 ∧ S < 7) ∨ (1 ≤ T ∧ T ≤ 6 ∧ 7 ≤ S ∧ 250 < S) ∨ (1 ≤ T ∧ T ≤ 6 ∧ 7 ≤ S ∧ S ≤ 250 ∧ K < 1) ∨ (1 ≤ T ∧ T ≤ 6 ∧ 7 ≤ S ∧ S ≤ 250 ∧ 1 ≤ K ∧ 1099511627776 < K) ∨ (1 ≤ T ∧ T ≤ 6 ∧ 7 ≤ S ∧ S ≤ 250 ∧ 1 ≤ K ∧ K ≤ 1099511627776)) with h1 | ⟨h1, h2⟩ | ⟨h1, h2, h3⟩ | ⟨h1, h2, h3, h4⟩ | ⟨h1, h2, h3, h4, h5⟩ | ⟨h1, h2, h3, h4, h5, h6⟩ | ⟨h1, h2, h3, h4, h5, h6⟩
  all_goals
    first
      | have HM := Lib.hid (show mayC T S K = true from decide_eq_true ⟨h1, h2, h3, h4, h5, h6⟩)
      | have HM := Lib.hid (show mayC T S K = false from decide_eq_false (by omega))
    go_enter Try.func79, Try.ntmps79
    go_wp2
    go_ret
    exact ⟨by rw [HM.out]; first | rfl | (simp; done) | (simp; omega), by (repeat (first | exact Below.refl _ _ | assumption | refine below_new ?_ _ | refine Below.drew ?_ | refine below_drewN ?_ _ | refine below_on ?_ (by assumption)))⟩

def slotsI (T : Int) : Int := 3 + T * 8
def wordsI (T S : Int) : Int := 3 + T * 8 + S * 7
def threadI (T t a : Int) : Int := if 0 ≤ t ∧ t < T then 3 + t * 8 + a else -1
def ofBagI (T t a b : Int) : Int := if 0 ≤ b ∧ b < 3 then threadI T t (a + b) else -1
def nodeI (T S s f : Int) : Int := if 1 ≤ s ∧ s ≤ S ∧ 0 ≤ f ∧ f < 7 then 3 + T * 8 + (s - 1) * 7 + f else -1

theorem pslots_calls (T S : Int) (b : Nat) (w : World) (x0 : w.cell? ⟨b, 0, none⟩ = some (.int .i64 T)) (x1 : w.cell? ⟨b, 1, none⟩ = some (.int .i64 S)) (t1 : 1 ≤ T) (t2 : T ≤ 6) (s1 : 7 ≤ S) (s2 : S ≤ 250) :
    Calls Try.prog 94 #[.pointer (some ⟨b, 0, none⟩)] w fun e w' => e = .returned (.int .i64 (slotsI T)) ∧ Below w.heap.size w w' := by
  have y0 := Ext.cells x0; have y1 := Ext.cells x1; clear x0 x1
  have HS := Lib.hid (show slotsI T = 3 + T * 8 from rfl)
  refine Ext.base0 (fun x => ?_)
  go_enter Try.func94, Try.ntmps94
  go_wp2_with (first | (with_reducible refine ext_region _ ?_ ?_ ?_; kernel_rfl; kernel_rfl; (repeat (go_big_quiet_step (fail))); refine wpQuiet_nil ?_; rintro _ ⟨_, rfl⟩))
  go_ret
  exact ⟨pret_int HS.out.symm, Ext.below0 _⟩
theorem pwords_calls (T S : Int) (b : Nat) (w : World) (x0 : w.cell? ⟨b, 0, none⟩ = some (.int .i64 T)) (x1 : w.cell? ⟨b, 1, none⟩ = some (.int .i64 S)) (t1 : 1 ≤ T) (t2 : T ≤ 6) (s1 : 7 ≤ S) (s2 : S ≤ 250) :
    Calls Try.prog 81 #[.pointer (some ⟨b, 0, none⟩)] w fun e w' => e = .returned (.int .i64 (wordsI T S)) ∧ Below w.heap.size w w' := by
  have y0 := Ext.cells x0; have y1 := Ext.cells x1; clear x0 x1
  have HS := Lib.hid (show wordsI T S = slotsI T + S * 7 from rfl)
  have hs : 11 ≤ slotsI T ∧ slotsI T ≤ 51 := by unfold slotsI; omega
  refine Ext.base0 (fun x => ?_)
  go_enter Try.func81, Try.ntmps81
  go_wp2_with (first | (go_at_call 94; refine (Ext.step (pslots_calls _ _ _ _ (by exact y0 _) (by exact y1 _) ?_ ?_ ?_ ?_)).mono ?_; omega; omega; omega; omega; rintro _ _ ⟨rfl, _, rfl⟩) | (go_at_call 81; refine (Ext.step (pwords_calls _ _ _ _ (by exact y0 _) (by exact y1 _) ?_ ?_ ?_ ?_)).mono ?_; omega; omega; omega; omega; rintro _ _ ⟨rfl, _, rfl⟩) | (go_at_call 85; refine (Ext.step (pnode_calls _ _ _ _ _ _ (by exact y0 _) (by exact y1 _) ?_ ?_ ?_ ?_)).mono ?_; omega; omega; omega; omega; rintro _ _ ⟨rfl, _, rfl⟩) | (go_at_call 79; refine (Ext.step (pmay_calls _ _ _ _)).mono ?_; rintro _ _ ⟨rfl, _, rfl⟩) | (with_reducible refine ext_region _ ?_ ?_ ?_; kernel_rfl; kernel_rfl; (repeat (go_big_quiet_step (first | (go_at_call 94; refine Ext.call (pslots_calls _ _ _ _ (by exact y0 _) (by exact y1 _) ?_ ?_ ?_ ?_) <;> omega) | (go_at_call 81; refine Ext.call (pwords_calls _ _ _ _ (by exact y0 _) (by exact y1 _) ?_ ?_ ?_ ?_) <;> omega) | (go_at_call 85; refine Ext.call (pnode_calls _ _ _ _ _ _ (by exact y0 _) (by exact y1 _) ?_ ?_ ?_ ?_) <;> omega) | (go_at_call 79; refine Ext.call (pmay_calls _ _ _ _) <;> omega)))); refine wpQuiet_nil ?_; rintro _ ⟨_, rfl⟩))
  go_ret
  exact ⟨pret_int HS.out.symm, Ext.below0 _⟩
theorem pnode_calls (T S : Int) (b : Nat) (s f : Int) (w : World) (x0 : w.cell? ⟨b, 0, none⟩ = some (.int .i64 T)) (x1 : w.cell? ⟨b, 1, none⟩ = some (.int .i64 S)) (t1 : 1 ≤ T) (t2 : T ≤ 6) (s1 : 7 ≤ S) (s2 : S ≤ 250) :
    Calls Try.prog 85 #[.pointer (some ⟨b, 0, none⟩), .int .i64 s, .int .i64 f] w fun e w' => e = .returned (.int .i64 (nodeI T S s f)) ∧ Below w.heap.size w w' := by
  have y0 := Ext.cells x0; have y1 := Ext.cells x1; clear x0 x1
  have hs : slotsI T = 3 + T * 8 := rfl
  have hb : 11 ≤ slotsI T ∧ slotsI T ≤ 51 := by omega
  have Hs := Lib.hid hs; clear hs
  by_cases hc : 1 ≤ s ∧ s ≤ S ∧ 0 ≤ f ∧ f < 7
  · have HS := Lib.hid (show nodeI T S s f = slotsI T + (s - 1) * 7 + f by unfold nodeI; rw [if_pos hc, Hs.out])
    obtain ⟨h1, h2, h3, h4⟩ := hc
    refine Ext.base0 (fun x => ?_)
    go_enter Try.func85, Try.ntmps85
    go_wp2_with (first | (go_at_call 94; refine (Ext.step (pslots_calls _ _ _ _ (by exact y0 _) (by exact y1 _) ?_ ?_ ?_ ?_)).mono ?_; omega; omega; omega; omega; rintro _ _ ⟨rfl, _, rfl⟩) | (go_at_call 81; refine (Ext.step (pwords_calls _ _ _ _ (by exact y0 _) (by exact y1 _) ?_ ?_ ?_ ?_)).mono ?_; omega; omega; omega; omega; rintro _ _ ⟨rfl, _, rfl⟩) | (go_at_call 85; refine (Ext.step (pnode_calls _ _ _ _ _ _ (by exact y0 _) (by exact y1 _) ?_ ?_ ?_ ?_)).mono ?_; omega; omega; omega; omega; rintro _ _ ⟨rfl, _, rfl⟩) | (go_at_call 79; refine (Ext.step (pmay_calls _ _ _ _)).mono ?_; rintro _ _ ⟨rfl, _, rfl⟩) | (with_reducible refine ext_region _ ?_ ?_ ?_; kernel_rfl; kernel_rfl; (repeat (go_big_quiet_step (first | (go_at_call 94; refine Ext.call (pslots_calls _ _ _ _ (by exact y0 _) (by exact y1 _) ?_ ?_ ?_ ?_) <;> omega) | (go_at_call 81; refine Ext.call (pwords_calls _ _ _ _ (by exact y0 _) (by exact y1 _) ?_ ?_ ?_ ?_) <;> omega) | (go_at_call 85; refine Ext.call (pnode_calls _ _ _ _ _ _ (by exact y0 _) (by exact y1 _) ?_ ?_ ?_ ?_) <;> omega) | (go_at_call 79; refine Ext.call (pmay_calls _ _ _ _) <;> omega)))); refine wpQuiet_nil ?_; rintro _ ⟨_, rfl⟩))
    go_ret
    exact ⟨pret_int HS.out.symm, Ext.below0 _⟩
  · have HS := Lib.hid (show nodeI T S s f = -1 by unfold nodeI; rw [if_neg hc])
    rcases (by omega : s < 1 ∨ (1 ≤ s ∧ S < s) ∨ (1 ≤ s ∧ s ≤ S ∧ f < 0) ∨ (1 ≤ s ∧ s ≤ S ∧ 0 ≤ f ∧ 7 ≤ f)) with h | ⟨h, h'⟩ | ⟨h, h', h3⟩ | ⟨h, h', h3, h4⟩
    all_goals
      refine Ext.base0 (fun x => ?_)
      go_enter Try.func85, Try.ntmps85
      go_wp2_with (first | (go_at_call 94; refine (Ext.step (pslots_calls _ _ _ _ (by exact y0 _) (by exact y1 _) ?_ ?_ ?_ ?_)).mono ?_; omega; omega; omega; omega; rintro _ _ ⟨rfl, _, rfl⟩) | (go_at_call 81; refine (Ext.step (pwords_calls _ _ _ _ (by exact y0 _) (by exact y1 _) ?_ ?_ ?_ ?_)).mono ?_; omega; omega; omega; omega; rintro _ _ ⟨rfl, _, rfl⟩) | (go_at_call 85; refine (Ext.step (pnode_calls _ _ _ _ _ _ (by exact y0 _) (by exact y1 _) ?_ ?_ ?_ ?_)).mono ?_; omega; omega; omega; omega; rintro _ _ ⟨rfl, _, rfl⟩) | (go_at_call 79; refine (Ext.step (pmay_calls _ _ _ _)).mono ?_; rintro _ _ ⟨rfl, _, rfl⟩) | (with_reducible refine ext_region _ ?_ ?_ ?_; kernel_rfl; kernel_rfl; (repeat (go_big_quiet_step (first | (go_at_call 94; refine Ext.call (pslots_calls _ _ _ _ (by exact y0 _) (by exact y1 _) ?_ ?_ ?_ ?_) <;> omega) | (go_at_call 81; refine Ext.call (pwords_calls _ _ _ _ (by exact y0 _) (by exact y1 _) ?_ ?_ ?_ ?_) <;> omega) | (go_at_call 85; refine Ext.call (pnode_calls _ _ _ _ _ _ (by exact y0 _) (by exact y1 _) ?_ ?_ ?_ ?_) <;> omega) | (go_at_call 79; refine Ext.call (pmay_calls _ _ _ _) <;> omega)))); refine wpQuiet_nil ?_; rintro _ ⟨_, rfl⟩))
      go_ret
      exact ⟨pret_int HS.out.symm, Ext.below0 _⟩

theorem pnew_yes (T S K : Int) (w : World) (h : mayC T S K = true) :
    Calls Try.prog 45 #[.agg #[.int .i64 T, .int .i64 S, .int .u64 K]] w fun e w' => ∃ b, e = .returned (.tuple #[.pointer (some ⟨b, 0, none⟩), .int .i64 0]) ∧ w.heap.size ≤ b ∧ w'.heap[b]? = some (.cells #[.int .i64 T, .int .i64 S, .int .u64 K] 112 (0, 0)) ∧ Below w.heap.size w w' := by
  go_enter Try.func45, Try.ntmps45
  go_wp2_with fail
  generalize hW : World.alloc w _ = W
  have hBW : Below w.heap.size w W := by rw [← hW]; (repeat (first | exact Below.refl _ _ | assumption | refine below_new ?_ _ | refine Below.drew ?_ | refine below_drewN ?_ _ | refine below_on ?_ (by assumption)))
  refine (pmay_calls _ _ _ _).mono ?_; rintro _ w1 ⟨rfl, hb⟩
  have c0 := Ext.made_in hW hb 0 _ rfl; have c1 := Ext.made_in hW hb 1 _ rfl; have c2 := Ext.made_in hW hb 2 _ rfl
  have hB := below_on hBW hb
  clear hW hBW hb
  rw [h]
  go_wp2_with fail
  go_ret2
  exact ⟨_, rfl, hB.size, heap_alloc_new _ _, by (repeat (first | exact Below.refl _ _ | assumption | refine below_new ?_ _ | refine Below.drew ?_ | refine below_drewN ?_ _ | refine below_on ?_ (by assumption)))⟩
theorem pnew_no (T S K : Int) (w : World) (h : mayC T S K = false) :
    Calls Try.prog 45 #[.agg #[.int .i64 T, .int .i64 S, .int .u64 K]] w fun e w' => e = .returned (.tuple #[.pointer none, .int .i64 1]) ∧ Below w.heap.size w w' := by
  go_enter Try.func45, Try.ntmps45
  go_wp2_with fail
  generalize hW : World.alloc w _ = W
  have hBW : Below w.heap.size w W := by rw [← hW]; (repeat (first | exact Below.refl _ _ | assumption | refine below_new ?_ _ | refine Below.drew ?_ | refine below_drewN ?_ _ | refine below_on ?_ (by assumption)))
  refine (pmay_calls _ _ _ _).mono ?_; rintro _ w1 ⟨rfl, hb⟩
  have hB := below_on hBW hb
  clear hW hBW hb
  rw [h]
  go_wp2_with fail
  go_ret2
  exact ⟨rfl, hB⟩

/-- What a word is: kind, and two numbers. -/
def wk (T a : Int) : Int := if a < 3 then 0 else if 3 + T * 8 ≤ a then 5 else if (a - 3) % 8 = 0 then 1 else if (a - 3) % 8 = 1 then 2 else if (a - 3) % 8 < 5 then 3 else 4
def wi (T a : Int) : Int := if a < 3 then a else if 3 + T * 8 ≤ a then (a - (3 + T * 8)) / 7 + 1 else (a - 3) / 8
def wj (T a : Int) : Int := if a < 3 then 0 else if 3 + T * 8 ≤ a then (a - (3 + T * 8)) % 7 else if (a - 3) % 8 = 0 then 0 else if (a - 3) % 8 = 1 then 0 else if (a - 3) % 8 < 5 then (a - 3) % 8 - 2 else (a - 3) % 8 - 5
def isW (T S a : Int) : Bool := decide (0 ≤ a ∧ a < wordsI T S)


end Go.Proofs.Ytkkdehniheajeaa
