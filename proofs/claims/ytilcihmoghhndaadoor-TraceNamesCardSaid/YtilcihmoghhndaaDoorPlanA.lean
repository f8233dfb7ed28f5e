/- Layer 5's contracts: which word of memory is what. A plan lies behind a pointer: its cells are the configuration. -/
import Derived.Test.YtilcihmoghhndaaDoorWordM
import Derived.Test.YtilcihmoghhndaaDoorExt
import Derived.Test.YtilcihmoghhndaaDoorRows
import Derived.ProofKit
import Derived.Outline
import Derived.Lib.Hide
namespace Go.Proofs.YtilcihmoghhndaaDoor
open Go.RowKit
set_option linter.unusedVariables false

theorem pret_int {k : IntKind} {a b : Int} (h : a = b) : Ending.returned (.int k a) = .returned (.int k b) := by rw [h]
def mayC (T S K : Int) : Bool := decide (1 ≤ T ∧ T ≤ 6 ∧ 7 ≤ S ∧ S ≤ 250 ∧ 1 ≤ K ∧ K ≤ 1099511627776)
theorem mayC_true {T S K : Int} (h : mayC T S K = true) : 1 ≤ T ∧ T ≤ 6 ∧ 7 ≤ S ∧ S ≤ 250 ∧ 1 ≤ K ∧ K ≤ 1099511627776 := of_decide_eq_true h

theorem pmay_calls (T S K : Int) (w : World) : Calls Tryd.prog 17 #[.agg #[.int .i64 T, .int .i64 S, .int .u64 K]] w fun e w' => e = .returned (.bool (mayC T S K)) ∧ Below w.heap.size w w' := by
  rcases (by omega : T < 1 ∨ (1 ≤ T ∧ 6 < T) ∨ (1 ≤ T ∧ T ≤ 6 ∧ S < 7) ∨ (1 ≤ T ∧ T ≤ 6 ∧ 7 ≤ S ∧ 250 < S) ∨ (1 ≤ T ∧ T ≤ 6 ∧ 7 ≤ S ∧ S ≤ 250 ∧ K < 1) ∨ (1 ≤ T ∧ T ≤ 6 ∧ 7 ≤ S ∧ S ≤ 250 ∧ 1 ≤ K ∧ 1099511627776 < K) ∨ (1 ≤ T ∧ T ≤ 6 ∧ 7 ≤ S ∧ S ≤ 250 ∧ 1 ≤ K ∧ K ≤ 1099511627776)) with h1 | ⟨h1, h2⟩ | ⟨h1, h2, h3⟩ | ⟨h1, h2, h3, h4⟩ | ⟨h1, h2, h3, h4, h5⟩ | ⟨h1, h2, h3, h4, h5, h6⟩ | ⟨h1, h2, h3, h4, h5, h6⟩
  all_goals
    first
      | have HM := Lib.hid (show mayC T S K = true from decide_eq_true ⟨h1, h2, h3, h4, h5, h6⟩)
      | have HM := Lib.hid (show mayC T S K = false from decide_eq_false (by omega))
    go_enter Tryd.func17, Tryd.ntmps17
    go_wp2
    go_ret
    exact ⟨by rw [HM.out]; first | rfl | (simp; done) | (simp; omega), by (repeat (first | exact Below.refl _ _ | assumption | refine below_new ?_ _ | refine Below.drew ?_ | refine below_drewN ?_ _ | refine below_on ?_ (by assumption)))⟩

def slotsI (T : Int) : Int := 3 + T * 8
def wordsI (T S : Int) : Int := 3 + T * 8 + S * 7
def threadI (T t a : Int) : Int := if 0 ≤ t ∧ t < T then 3 + t * 8 + a else -1
def ofBagI (T t a b : Int) : Int := if 0 ≤ b ∧ b < 3 then threadI T t (a + b) else -1
def nodeI (T S s f : Int) : Int := if 1 ≤ s ∧ s ≤ S ∧ 0 ≤ f ∧ f < 7 then 3 + T * 8 + (s - 1) * 7 + f else -1

theorem pslots_calls (T S : Int) (b : Nat) (w : World) (x0 : w.cell? ⟨b, 0, none⟩ = some (.int .i64 T)) (x1 : w.cell? ⟨b, 1, none⟩ = some (.int .i64 S)) (t1 : 1 ≤ T) (t2 : T ≤ 6) (s1 : 7 ≤ S) (s2 : S ≤ 250) :
    Calls Tryd.prog 24 #[.pointer (some ⟨b, 0, none⟩)] w fun e w' => e = .returned (.int .i64 (slotsI T)) ∧ Below w.heap.size w w' := by
  have y0 := Ext.cells x0; have y1 := Ext.cells x1; clear x0 x1
  have HS := Lib.hid (show slotsI T = 3 + T * 8 from rfl)
  refine Ext.base0 (fun x => ?_)
  go_enter Tryd.func24, Tryd.ntmps24
  go_wp2_with (first | (with_reducible refine ext_region _ ?_ ?_ ?_; kernel_rfl; kernel_rfl; (repeat (go_big_quiet_step (fail))); refine wpQuiet_nil ?_; rintro _ ⟨_, rfl⟩))
  go_ret
  exact ⟨pret_int HS.out.symm, Ext.below0 _⟩
theorem pwords_calls (T S : Int) (b : Nat) (w : World) (x0 : w.cell? ⟨b, 0, none⟩ = some (.int .i64 T)) (x1 : w.cell? ⟨b, 1, none⟩ = some (.int .i64 S)) (t1 : 1 ≤ T) (t2 : T ≤ 6) (s1 : 7 ≤ S) (s2 : S ≤ 250) :
    Calls Tryd.prog 23 #[.pointer (some ⟨b, 0, none⟩)] w fun e w' => e = .returned (.int .i64 (wordsI T S)) ∧ Below w.heap.size w w' := by
  have y0 := Ext.cells x0; have y1 := Ext.cells x1; clear x0 x1
  have HS := Lib.hid (show wordsI T S = slotsI T + S * 7 from rfl)
  have hs : 11 ≤ slotsI T ∧ slotsI T ≤ 51 := by unfold slotsI; omega
  refine Ext.base0 (fun x => ?_)
  go_enter Tryd.func23, Tryd.ntmps23
  go_wp2_with (first | (go_at_call 24; refine (Ext.step (pslots_calls _ _ _ _ (by exact y0 _) (by exact y1 _) ?_ ?_ ?_ ?_)).mono ?_; omega; omega; omega; omega; rintro _ _ ⟨rfl, _, rfl⟩) | (go_at_call 23; refine (Ext.step (pwords_calls _ _ _ _ (by exact y0 _) (by exact y1 _) ?_ ?_ ?_ ?_)).mono ?_; omega; omega; omega; omega; rintro _ _ ⟨rfl, _, rfl⟩) | (go_at_call 17; refine (Ext.step (pmay_calls _ _ _ _)).mono ?_; rintro _ _ ⟨rfl, _, rfl⟩) | (go_at_call 13; refine (Ext.step (pwhat_calls _ _ _ _ _ (by exact y0 _) (by exact y1 _) ?_ ?_ ?_ ?_)).mono ?_; omega; omega; omega; omega; rintro _ _ ⟨rfl, _, rfl⟩) | (with_reducible refine ext_region _ ?_ ?_ ?_; kernel_rfl; kernel_rfl; (repeat (go_big_quiet_step (first | (go_at_call 24; refine Ext.call (pslots_calls _ _ _ _ (by exact y0 _) (by exact y1 _) ?_ ?_ ?_ ?_) <;> omega) | (go_at_call 23; refine Ext.call (pwords_calls _ _ _ _ (by exact y0 _) (by exact y1 _) ?_ ?_ ?_ ?_) <;> omega) | (go_at_call 17; refine Ext.call (pmay_calls _ _ _ _) <;> omega) | (go_at_call 13; refine Ext.call (pwhat_calls _ _ _ _ _ (by exact y0 _) (by exact y1 _) ?_ ?_ ?_ ?_) <;> omega)))); refine wpQuiet_nil ?_; rintro _ ⟨_, rfl⟩))
  go_ret
  exact ⟨pret_int HS.out.symm, Ext.below0 _⟩

theorem pnew_yes (T S K : Int) (w : World) (h : mayC T S K = true) :
    Calls Tryd.prog 6 #[.agg #[.int .i64 T, .int .i64 S, .int .u64 K]] w fun e w' => ∃ b, e = .returned (.tuple #[.pointer (some ⟨b, 0, none⟩), .int .i64 0]) ∧ w.heap.size ≤ b ∧ w'.heap[b]? = some (.cells #[.int .i64 T, .int .i64 S, .int .u64 K] 48 (0, 0)) ∧ Below w.heap.size w w' := by
  go_enter Tryd.func6, Tryd.ntmps6
  go_wp2_with fail
  generalize hW : World.alloc w _ = W
  have hBW : Below w.heap.size w W := by rw [← hW]; (repeat (first | exact Below.refl _ _ | assumption | refine below_new ?_ _ | refine Below.drew ?_ | refine below_drewN ?_ _ | refine below_on ?_ (by assumption)))
  refine (pmay_calls _ _ _ _).mono ?_; rintro _ w1 ⟨rfl, hb⟩
  have c0 := Ext.made_in hW hb 0 _ rfl; have c1 := Ext.made_in hW hb 1 _ rfl; have c2 := Ext.made_in hW hb 2 _ rfl
  have hB := below_on hBW hb
  clear hW hBW hb
  rw [h]
  go_wp2_with fail
  go_ret2
  exact ⟨_, rfl, hB.size, heap_alloc_new _ _, by (repeat (first | exact Below.refl _ _ | assumption | refine below_new ?_ _ | refine Below.drew ?_ | refine below_drewN ?_ _ | refine below_on ?_ (by assumption)))⟩
theorem pnew_no (T S K : Int) (w : World) (h : mayC T S K = false) :
    Calls Tryd.prog 6 #[.agg #[.int .i64 T, .int .i64 S, .int .u64 K]] w fun e w' => e = .returned (.tuple #[.pointer none, .int .i64 1]) ∧ Below w.heap.size w w' := by
  go_enter Tryd.func6, Tryd.ntmps6
  go_wp2_with fail
  generalize hW : World.alloc w _ = W
  have hBW : Below w.heap.size w W := by rw [← hW]; (repeat (first | exact Below.refl _ _ | assumption | refine below_new ?_ _ | refine Below.drew ?_ | refine below_drewN ?_ _ | refine below_on ?_ (by assumption)))
  refine (pmay_calls _ _ _ _).mono ?_; rintro _ w1 ⟨rfl, hb⟩
  have hB := below_on hBW hb
  clear hW hBW hb
  rw [h]
  go_wp2_with fail
  go_ret2
  exact ⟨rfl, hB⟩

/-- What a word is: kind, and two numbers. -/
def wk (T a : Int) : Int := if a < 3 then 0 else if 3 + T * 8 ≤ a then 5 else if (a - 3) % 8 = 0 then 1 else if (a - 3) % 8 = 1 then 2 else if (a - 3) % 8 < 5 then 3 else 4
def wi (T a : Int) : Int := if a < 3 then a else if 3 + T * 8 ≤ a then (a - (3 + T * 8)) / 7 + 1 else (a - 3) / 8
def wj (T a : Int) : Int := if a < 3 then 0 else if 3 + T * 8 ≤ a then (a - (3 + T * 8)) % 7 else if (a - 3) % 8 = 0 then 0 else if (a - 3) % 8 = 1 then 0 else if (a - 3) % 8 < 5 then (a - 3) % 8 - 2 else (a - 3) % 8 - 5
def isW (T S a : Int) : Bool := decide (0 ≤ a ∧ a < wordsI T S)

theorem pof_calls (t k : Int) (w : World) (k1 : 0 ≤ k) (k2 : k < 8) :
    Calls Tryd.prog 25 #[.int .i64 t, .int .i64 k] w fun e w' => e = .returned (.agg #[.int .i64 (if k = 0 then 1 else if k = 1 then 2 else if k < 5 then 3 else 4), .int .i64 t, .int .i64 (if k = 0 then 0 else if k = 1 then 0 else if k < 5 then k - 2 else k - 5)]) ∧ Below w.heap.size w w' := by
  rcases (by omega : k = 0 ∨ k = 1 ∨ (2 ≤ k ∧ k < 5) ∨ (5 ≤ k ∧ k < 8)) with rfl | rfl | ⟨h, h'⟩ | ⟨h, h'⟩
  · go_enter Tryd.func25, Tryd.ntmps25
    go_wp2
    exact bodyPost_ret (v := .agg #[.int .i64 1, .int .i64 t, .int .i64 0]) (by simp [results, Tryd.results25, go_sem]) rfl ⟨rfl, by (repeat (first | exact Below.refl _ _ | assumption | refine below_new ?_ _ | refine Below.drew ?_ | refine below_drewN ?_ _ | refine below_on ?_ (by assumption)))⟩
  · go_enter Tryd.func25, Tryd.ntmps25
    go_wp2
    exact bodyPost_ret (v := .agg #[.int .i64 2, .int .i64 t, .int .i64 0]) (by simp [results, Tryd.results25, go_sem]) rfl ⟨rfl, by (repeat (first | exact Below.refl _ _ | assumption | refine below_new ?_ _ | refine Below.drew ?_ | refine below_drewN ?_ _ | refine below_on ?_ (by assumption)))⟩
  · rw [if_neg (by omega), if_neg (by omega), if_pos h', if_neg (by omega), if_neg (by omega), if_pos h']
    have z0 : (k == 0) = false := by rw [beq_eq_false_iff_ne]; omega
    have z1 : (k == 1) = false := by rw [beq_eq_false_iff_ne]; omega
    go_enter Tryd.func25, Tryd.ntmps25
    go_wp2
    exact bodyPost_ret (v := .agg #[.int .i64 3, .int .i64 t, .int .i64 (k - 2)]) (by simp [results, Tryd.results25, go_sem]) rfl ⟨rfl, by (repeat (first | exact Below.refl _ _ | assumption | refine below_new ?_ _ | refine Below.drew ?_ | refine below_drewN ?_ _ | refine below_on ?_ (by assumption)))⟩
  · rw [if_neg (by omega), if_neg (by omega), if_neg (by omega), if_neg (by omega), if_neg (by omega), if_neg (by omega)]
    have z0 : (k == 0) = false := by rw [beq_eq_false_iff_ne]; omega
    have z1 : (k == 1) = false := by rw [beq_eq_false_iff_ne]; omega
    go_enter Tryd.func25, Tryd.ntmps25
    go_wp2
    exact bodyPost_ret (v := .agg #[.int .i64 4, .int .i64 t, .int .i64 (k - 5)]) (by simp [results, Tryd.results25, go_sem]) rfl ⟨rfl, by (repeat (first | exact Below.refl _ _ | assumption | refine below_new ?_ _ | refine Below.drew ?_ | refine below_drewN ?_ _ | refine below_on ?_ (by assumption)))⟩

theorem pwhat_calls (T S : Int) (b : Nat) (a : Int) (w : World) (x0 : w.cell? ⟨b, 0, none⟩ = some (.int .i64 T)) (x1 : w.cell? ⟨b, 1, none⟩ = some (.int .i64 S)) (t1 : 1 ≤ T) (t2 : T ≤ 6) (s1 : 7 ≤ S) (s2 : S ≤ 250) :
    Calls Tryd.prog 13 #[.pointer (some ⟨b, 0, none⟩), .int .i64 a] w fun e w' =>
      e = .returned (.tuple #[.agg #[.int .i64 (if isW T S a then wk T a else 0), .int .i64 (if isW T S a then wi T a else 0), .int .i64 (if isW T S a then wj T a else 0)], .bool (isW T S a)]) ∧ Below w.heap.size w w' := by
  have hs : slotsI T = 3 + T * 8 := rfl
  have hw : wordsI T S = 3 + T * 8 + S * 7 := rfl
  have hsb : 11 ≤ slotsI T ∧ slotsI T ≤ 51 := by omega
  have hwb : 11 + 49 ≤ wordsI T S ∧ wordsI T S ≤ 1801 := by omega
  have Hs := Lib.hid hs; have Hw := Lib.hid hw; clear hs hw
  by_cases hc : 0 ≤ a ∧ a < wordsI T S
  · have hi : isW T S a = true := decide_eq_true hc
    obtain ⟨g1, g2⟩ := hc
    rw [hi]
    simp only [if_true]
    rcases (by omega : a < 3 ∨ (3 ≤ a ∧ a < slotsI T) ∨ (3 ≤ a ∧ slotsI T ≤ a)) with h | ⟨h, h'⟩ | ⟨h, h'⟩
    · have e1 : wk T a = 0 := by unfold wk; rw [if_pos h]
      have e2 : wi T a = a := by unfold wi; rw [if_pos h]
      have e3 : wj T a = 0 := by unfold wj; rw [if_pos h]
      rw [e1, e2, e3]
      go_enter Tryd.func13, Tryd.ntmps13
      go_wp2_with fail
      generalize hV : World.alloc w _ = V
      have hBV : Below w.heap.size w V := by rw [← hV]; (repeat (first | exact Below.refl _ _ | assumption | refine below_new ?_ _ | refine Below.drew ?_ | refine below_drewN ?_ _ | refine below_on ?_ (by assumption)))
      have y0 := Ext.new x0 hV; have y1 := Ext.new x1 hV
      have f0 := Ext.made_free hV 0; have f1 := Ext.made_free hV 1; have f2 := Ext.made_free hV 2
      have c0 := Ext.made hV 0 _ rfl; have c1 := Ext.made hV 1 _ rfl; have c2 := Ext.made hV 2 _ rfl
      clear hV
      obtain ⟨x, hx⟩ : ∃ x : Ext V, x.w = V := ⟨⟨V, Below.refl _ _⟩, rfl⟩; rw [← hx]; clear hx
      go_wp2_with (first | (go_at_call 24; refine (Ext.step (pslots_calls _ _ _ _ (by exact y0 _) (by exact y1 _) ?_ ?_ ?_ ?_)).mono ?_; omega; omega; omega; omega; rintro _ _ ⟨rfl, _, rfl⟩) | (go_at_call 23; refine (Ext.step (pwords_calls _ _ _ _ (by exact y0 _) (by exact y1 _) ?_ ?_ ?_ ?_)).mono ?_; omega; omega; omega; omega; rintro _ _ ⟨rfl, _, rfl⟩) | (go_at_call 17; refine (Ext.step (pmay_calls _ _ _ _)).mono ?_; rintro _ _ ⟨rfl, _, rfl⟩) | (go_at_call 13; refine (Ext.step (pwhat_calls _ _ _ _ _ (by exact y0 _) (by exact y1 _) ?_ ?_ ?_ ?_)).mono ?_; omega; omega; omega; omega; rintro _ _ ⟨rfl, _, rfl⟩) | (with_reducible refine ext_region _ ?_ ?_ ?_; kernel_rfl; kernel_rfl; (repeat (go_big_quiet_step (first | (go_at_call 24; refine Ext.call (pslots_calls _ _ _ _ (by exact y0 _) (by exact y1 _) ?_ ?_ ?_ ?_) <;> omega) | (go_at_call 23; refine Ext.call (pwords_calls _ _ _ _ (by exact y0 _) (by exact y1 _) ?_ ?_ ?_ ?_) <;> omega) | (go_at_call 17; refine Ext.call (pmay_calls _ _ _ _) <;> omega) | (go_at_call 13; refine Ext.call (pwhat_calls _ _ _ _ _ (by exact y0 _) (by exact y1 _) ?_ ?_ ?_ ?_) <;> omega)))); refine wpQuiet_nil ?_; rintro _ ⟨_, rfl⟩))
      exact bodyPost_ret (v := .tuple #[.agg #[.int .i64 (0), .int .i64 (a), .int .i64 (0)], .bool true]) (by simp [results, Tryd.results13, go_sem, c0, c1, c2, World.cell?_setCell_same, World.cell?_setCell_other]) rfl ⟨rfl, below_set (below_set (below_set (Ext.below hBV _) (by omega) _) (by omega) _) (by omega) _⟩
    · have n1 : ¬ a < 3 := by omega
      have n2 : ¬ 3 + T * 8 ≤ a := by rw [← Hs.out]; omega
      have hof : ∀ w : World, Calls Tryd.prog 25 #[.int .i64 ((a - 3) / 8), .int .i64 ((a - 3) % 8)] w fun e w' => e = .returned (.agg #[.int .i64 (wk T a), .int .i64 (wi T a), .int .i64 (wj T a)]) ∧ Below w.heap.size w w' := fun w => by
        unfold wk wi wj
        rw [if_neg n1, if_neg n2, if_neg n1, if_neg n2, if_neg n1, if_neg n2]
        exact pof_calls _ _ _ (by omega) (by omega)
      have HOF := Lib.hid hof; clear hof n1 n2
      go_enter Tryd.func13, Tryd.ntmps13
      go_wp2_with fail
      generalize hV : World.alloc w _ = V
      have hBV : Below w.heap.size w V := by rw [← hV]; (repeat (first | exact Below.refl _ _ | assumption | refine below_new ?_ _ | refine Below.drew ?_ | refine below_drewN ?_ _ | refine below_on ?_ (by assumption)))
      have y0 := Ext.new x0 hV; have y1 := Ext.new x1 hV
      have f0 := Ext.made_free hV 0; have f1 := Ext.made_free hV 1; have f2 := Ext.made_free hV 2
      have c0 := Ext.made hV 0 _ rfl; have c1 := Ext.made hV 1 _ rfl; have c2 := Ext.made hV 2 _ rfl
      clear hV
      obtain ⟨x, hx⟩ : ∃ x : Ext V, x.w = V := ⟨⟨V, Below.refl _ _⟩, rfl⟩; rw [← hx]; clear hx
      go_wp2_with (first | (go_at_call 25; refine (Ext.step (HOF.out _)).mono ?_; rintro _ _ ⟨rfl, _, rfl⟩) | first | (go_at_call 24; refine (Ext.step (pslots_calls _ _ _ _ (by exact y0 _) (by exact y1 _) ?_ ?_ ?_ ?_)).mono ?_; omega; omega; omega; omega; rintro _ _ ⟨rfl, _, rfl⟩) | (go_at_call 23; refine (Ext.step (pwords_calls _ _ _ _ (by exact y0 _) (by exact y1 _) ?_ ?_ ?_ ?_)).mono ?_; omega; omega; omega; omega; rintro _ _ ⟨rfl, _, rfl⟩) | (go_at_call 17; refine (Ext.step (pmay_calls _ _ _ _)).mono ?_; rintro _ _ ⟨rfl, _, rfl⟩) | (go_at_call 13; refine (Ext.step (pwhat_calls _ _ _ _ _ (by exact y0 _) (by exact y1 _) ?_ ?_ ?_ ?_)).mono ?_; omega; omega; omega; omega; rintro _ _ ⟨rfl, _, rfl⟩) | (with_reducible refine ext_region _ ?_ ?_ ?_; kernel_rfl; kernel_rfl; (repeat (go_big_quiet_step (first | (go_at_call 24; refine Ext.call (pslots_calls _ _ _ _ (by exact y0 _) (by exact y1 _) ?_ ?_ ?_ ?_) <;> omega) | (go_at_call 23; refine Ext.call (pwords_calls _ _ _ _ (by exact y0 _) (by exact y1 _) ?_ ?_ ?_ ?_) <;> omega) | (go_at_call 17; refine Ext.call (pmay_calls _ _ _ _) <;> omega) | (go_at_call 13; refine Ext.call (pwhat_calls _ _ _ _ _ (by exact y0 _) (by exact y1 _) ?_ ?_ ?_ ?_) <;> omega)))); refine wpQuiet_nil ?_; rintro _ ⟨_, rfl⟩))
      exact bodyPost_ret (v := .tuple #[.agg #[.int .i64 (wk T a), .int .i64 (wi T a), .int .i64 (wj T a)], .bool true]) (by simp [results, Tryd.results13, go_sem, c0, c1, c2, World.cell?_setCell_same, World.cell?_setCell_other]) rfl ⟨rfl, below_set (below_set (below_set (Ext.below hBV _) (by omega) _) (by omega) _) (by omega) _⟩
    · have n1 : ¬ a < 3 := by omega
      have n2 : 3 + T * 8 ≤ a := by rw [← Hs.out]; omega
      have e1 : wk T a = 5 := by unfold wk; rw [if_neg n1, if_pos n2]
      have e2 : wi T a = (a - slotsI T) / 7 + 1 := by unfold wi; rw [if_neg n1, if_pos n2, Hs.out]
      have e3 : wj T a = (a - slotsI T) % 7 := by unfold wj; rw [if_neg n1, if_pos n2, Hs.out]
      rw [e1, e2, e3]
      clear n1 n2
      go_enter Tryd.func13, Tryd.ntmps13
      go_wp2_with fail
      generalize hV : World.alloc w _ = V
      have hBV : Below w.heap.size w V := by rw [← hV]; (repeat (first | exact Below.refl _ _ | assumption | refine below_new ?_ _ | refine Below.drew ?_ | refine below_drewN ?_ _ | refine below_on ?_ (by assumption)))
      have y0 := Ext.new x0 hV; have y1 := Ext.new x1 hV
      have f0 := Ext.made_free hV 0; have f1 := Ext.made_free hV 1; have f2 := Ext.made_free hV 2
      have c0 := Ext.made hV 0 _ rfl; have c1 := Ext.made hV 1 _ rfl; have c2 := Ext.made hV 2 _ rfl
      clear hV
      obtain ⟨x, hx⟩ : ∃ x : Ext V, x.w = V := ⟨⟨V, Below.refl _ _⟩, rfl⟩; rw [← hx]; clear hx
      go_wp2_with (first | (go_at_call 24; refine (Ext.step (pslots_calls _ _ _ _ (by exact y0 _) (by exact y1 _) ?_ ?_ ?_ ?_)).mono ?_; omega; omega; omega; omega; rintro _ _ ⟨rfl, _, rfl⟩) | (go_at_call 23; refine (Ext.step (pwords_calls _ _ _ _ (by exact y0 _) (by exact y1 _) ?_ ?_ ?_ ?_)).mono ?_; omega; omega; omega; omega; rintro _ _ ⟨rfl, _, rfl⟩) | (go_at_call 17; refine (Ext.step (pmay_calls _ _ _ _)).mono ?_; rintro _ _ ⟨rfl, _, rfl⟩) | (go_at_call 13; refine (Ext.step (pwhat_calls _ _ _ _ _ (by exact y0 _) (by exact y1 _) ?_ ?_ ?_ ?_)).mono ?_; omega; omega; omega; omega; rintro _ _ ⟨rfl, _, rfl⟩) | (with_reducible refine ext_region _ ?_ ?_ ?_; kernel_rfl; kernel_rfl; (repeat (go_big_quiet_step (first | (go_at_call 24; refine Ext.call (pslots_calls _ _ _ _ (by exact y0 _) (by exact y1 _) ?_ ?_ ?_ ?_) <;> omega) | (go_at_call 23; refine Ext.call (pwords_calls _ _ _ _ (by exact y0 _) (by exact y1 _) ?_ ?_ ?_ ?_) <;> omega) | (go_at_call 17; refine Ext.call (pmay_calls _ _ _ _) <;> omega) | (go_at_call 13; refine Ext.call (pwhat_calls _ _ _ _ _ (by exact y0 _) (by exact y1 _) ?_ ?_ ?_ ?_) <;> omega)))); refine wpQuiet_nil ?_; rintro _ ⟨_, rfl⟩))
      exact bodyPost_ret (v := .tuple #[.agg #[.int .i64 (5), .int .i64 ((a - slotsI T) / 7 + 1), .int .i64 ((a - slotsI T) % 7)], .bool true]) (by simp [results, Tryd.results13, go_sem, c0, c1, c2, World.cell?_setCell_same, World.cell?_setCell_other]) rfl ⟨rfl, below_set (below_set (below_set (Ext.below hBV _) (by omega) _) (by omega) _) (by omega) _⟩
  · have hi : isW T S a = false := decide_eq_false hc
    rw [hi]
    simp only [Bool.false_eq_true, if_false]
    rcases (by omega : a < 0 ∨ (0 ≤ a ∧ wordsI T S ≤ a)) with h | ⟨h, h'⟩
    all_goals
      go_enter Tryd.func13, Tryd.ntmps13
      go_wp2_with fail
      generalize hV : World.alloc w _ = V
      have hBV : Below w.heap.size w V := by rw [← hV]; (repeat (first | exact Below.refl _ _ | assumption | refine below_new ?_ _ | refine Below.drew ?_ | refine below_drewN ?_ _ | refine below_on ?_ (by assumption)))
      have y0 := Ext.new x0 hV; have y1 := Ext.new x1 hV
      have f0 := Ext.made_free hV 0; have f1 := Ext.made_free hV 1; have f2 := Ext.made_free hV 2
      have c0 := Ext.made hV 0 _ rfl; have c1 := Ext.made hV 1 _ rfl; have c2 := Ext.made hV 2 _ rfl
      clear hV
      obtain ⟨x, hx⟩ : ∃ x : Ext V, x.w = V := ⟨⟨V, Below.refl _ _⟩, rfl⟩; rw [← hx]; clear hx
      go_wp2_with (first | (go_at_call 24; refine (Ext.step (pslots_calls _ _ _ _ (by exact y0 _) (by exact y1 _) ?_ ?_ ?_ ?_)).mono ?_; omega; omega; omega; omega; rintro _ _ ⟨rfl, _, rfl⟩) | (go_at_call 23; refine (Ext.step (pwords_calls _ _ _ _ (by exact y0 _) (by exact y1 _) ?_ ?_ ?_ ?_)).mono ?_; omega; omega; omega; omega; rintro _ _ ⟨rfl, _, rfl⟩) | (go_at_call 17; refine (Ext.step (pmay_calls _ _ _ _)).mono ?_; rintro _ _ ⟨rfl, _, rfl⟩) | (go_at_call 13; refine (Ext.step (pwhat_calls _ _ _ _ _ (by exact y0 _) (by exact y1 _) ?_ ?_ ?_ ?_)).mono ?_; omega; omega; omega; omega; rintro _ _ ⟨rfl, _, rfl⟩) | (with_reducible refine ext_region _ ?_ ?_ ?_; kernel_rfl; kernel_rfl; (repeat (go_big_quiet_step (first | (go_at_call 24; refine Ext.call (pslots_calls _ _ _ _ (by exact y0 _) (by exact y1 _) ?_ ?_ ?_ ?_) <;> omega) | (go_at_call 23; refine Ext.call (pwords_calls _ _ _ _ (by exact y0 _) (by exact y1 _) ?_ ?_ ?_ ?_) <;> omega) | (go_at_call 17; refine Ext.call (pmay_calls _ _ _ _) <;> omega) | (go_at_call 13; refine Ext.call (pwhat_calls _ _ _ _ _ (by exact y0 _) (by exact y1 _) ?_ ?_ ?_ ?_) <;> omega)))); refine wpQuiet_nil ?_; rintro _ ⟨_, rfl⟩))
      exact bodyPost_ret (v := .tuple #[.agg #[.int .i64 (0), .int .i64 (0), .int .i64 (0)], .bool false]) (by simp [results, Tryd.results13, go_sem, c0, c1, c2, World.cell?_setCell_same, World.cell?_setCell_other]) rfl ⟨rfl, by first | exact Ext.below hBV _ | exact below_set (below_set (below_set (Ext.below hBV _) (Nat.le_refl _) _) (Nat.le_refl _) _) (Nat.le_refl _) _⟩
end Go.Proofs.YtilcihmoghhndaaDoor
