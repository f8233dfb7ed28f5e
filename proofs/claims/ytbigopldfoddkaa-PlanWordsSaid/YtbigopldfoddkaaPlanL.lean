/- The walk of PlanApart. -/
import Derived.Test.YtbigopldfoddkaaPlanA
import Derived.Test.YtbigopldfoddkaaFrame
import Derived.Laws.StructEq
import Derived.Deep.Cut
namespace Go.Proofs.Ytbigopldfoddkaa
open Go.RowKit
set_option linter.unusedVariables false
set_option linter.unusedSimpArgs false

theorem wf64p {n : Int} (h : (Lit.int .i64 n).wf = true) : -9223372036854775808 ≤ n ∧ n < 9223372036854775808 := by
  simp [Lit.wf, IntKind.min, IntKind.max, IntKind.signed, IntKind.bits] at h; omega

theorem lives5_calls (w : World) : Calls Try.prog 9 #[] w fun e w' => e = .returned (.bool true) ∧ Below w.heap.size w w' := by
  have hm : mayC 1 9 5 = true := by decide
  have hn : nodeI 1 9 1 0 = 11 := by decide
  go_enter Try.func9, Try.ntmps9
  go_wp2_with fail
  refine (pnew_yes _ _ _ _ hm).mono ?_; rintro _ w1 ⟨b, rfl, hb, hh, hB⟩
  have x0 : w1.cell? ⟨b, 0, none⟩ = some (.int .i64 1) := by rw [cell_of_row _ b 0 _ _ (0, 0) hh]; rfl
  have x1 : w1.cell? ⟨b, 1, none⟩ = some (.int .i64 9) := by rw [cell_of_row _ b 1 _ _ (0, 0) hh]; rfl
  clear hh hb
  go_wp2_with fail
  refine (pnode_calls _ _ _ _ _ _ x0 x1 (by omega) (by omega) (by omega) (by omega)).mono ?_; rintro _ w2 ⟨rfl, hB2⟩
  have hBB := below_on hB hB2
  clear x0 x1 hB hB2
  go_wp2_with fail
  go_ret
  exact ⟨by simp, hBB⟩

/-- A word is found where it is told to be. -/
theorem what_back (T S a : Int) (t1 : 1 ≤ T) (t2 : T ≤ 6) (h0 : 0 ≤ a) (h1 : a < wordsI T S) :
    (wk T a = 0 ∧ wi T a = a) ∨ (wk T a = 1 ∧ threadI T (wi T a) 0 = a) ∨ (wk T a = 2 ∧ threadI T (wi T a) 1 = a) ∨ (wk T a = 3 ∧ ofBagI T (wi T a) 2 (wj T a) = a) ∨ (wk T a = 4 ∧ ofBagI T (wi T a) 5 (wj T a) = a) ∨ (wk T a = 5 ∧ nodeI T S (wi T a) (wj T a) = a) := by
  unfold wordsI at h1
  unfold wk wi wj nodeI ofBagI threadI
  rcases (by omega : a < 3 ∨ (3 ≤ a ∧ 3 + T * 8 ≤ a) ∨ (3 ≤ a ∧ a < 3 + T * 8)) with h | ⟨h, h'⟩ | ⟨h, h'⟩
  · left; rw [if_pos h, if_pos h]; exact ⟨rfl, rfl⟩
  · have n : ¬ a < 3 := by omega
    right; right; right; right; right
    rw [if_neg n, if_neg n, if_neg n, if_pos h', if_pos h', if_pos h', if_pos (by omega)]
    exact ⟨rfl, by omega⟩
  · have n : ¬ a < 3 := by omega
    have n' : ¬ 3 + T * 8 ≤ a := by omega
    simp only [if_neg n, if_neg n']
    rcases (by omega : (a - 3) % 8 = 0 ∨ (a - 3) % 8 = 1 ∨ (2 ≤ (a - 3) % 8 ∧ (a - 3) % 8 < 5) ∨ (5 ≤ (a - 3) % 8)) with k | k | ⟨k, k'⟩ | k
    · right; left; rw [if_pos k, if_pos (by omega)]; exact ⟨rfl, by omega⟩
    · right; right; left; rw [if_neg (by omega), if_pos k, if_pos (by omega)]; exact ⟨rfl, by omega⟩
    · right; right; right; left
      have z0 : ¬ (a - 3) % 8 = 0 := by omega
      have z1 : ¬ (a - 3) % 8 = 1 := by omega
      simp only [if_neg z0, if_neg z1, if_pos k']
      rw [if_pos (by omega), if_pos (by omega)]; exact ⟨trivial, by omega⟩
    · right; right; right; right; left
      have z0 : ¬ (a - 3) % 8 = 0 := by omega
      have z1 : ¬ (a - 3) % 8 = 1 := by omega
      have z2 : ¬ (a - 3) % 8 < 5 := by omega
      simp only [if_neg z0, if_neg z1, if_neg z2]
      rw [if_pos (by omega), if_pos (by omega)]; exact ⟨trivial, by omega⟩
/-- Words that are unlike are at two places. -/
theorem what_apart (T S a b : Int) (t1 : 1 ≤ T) (t2 : T ≤ 6) (a0 : 0 ≤ a) (a1 : a < wordsI T S) (b0 : 0 ≤ b) (b1 : b < wordsI T S) (hk : wk T a = wk T b) (hi : wi T a = wi T b) (hj : wj T a = wj T b) : a = b := by
  rcases what_back T S a t1 t2 a0 a1 with ⟨h, k⟩ | ⟨h, k⟩ | ⟨h, k⟩ | ⟨h, k⟩ | ⟨h, k⟩ | ⟨h, k⟩ <;> rcases what_back T S b t1 t2 b0 b1 with ⟨h', k'⟩ | ⟨h', k'⟩ | ⟨h', k'⟩ | ⟨h', k'⟩ | ⟨h', k'⟩ | ⟨h', k'⟩ <;> first | omega | (rw [← k, ← k', hi, hj]) | (rw [← k, ← k', hi])

theorem pwhat_yes (T S : Int) (b : Nat) (a : Int) (w : World) (h : isW T S a = true) (x0 : w.cell? ⟨b, 0, none⟩ = some (.int .i64 T)) (x1 : w.cell? ⟨b, 1, none⟩ = some (.int .i64 S)) (t1 : 1 ≤ T) (t2 : T ≤ 6) (s1 : 7 ≤ S) (s2 : S ≤ 250) :
    Calls Try.prog 19 #[.pointer (some ⟨b, 0, none⟩), .int .i64 a] w fun e w' => e = .returned (.tuple #[.agg #[.int .i64 (wk T a), .int .i64 (wi T a), .int .i64 (wj T a)], .bool true]) ∧ Below w.heap.size w w' := by
  have := pwhat_calls T S b a w x0 x1 t1 t2 s1 s2
  rw [h] at this; simpa only [if_true] using this
theorem pwhat_no (T S : Int) (b : Nat) (a : Int) (w : World) (h : isW T S a = false) (x0 : w.cell? ⟨b, 0, none⟩ = some (.int .i64 T)) (x1 : w.cell? ⟨b, 1, none⟩ = some (.int .i64 S)) (t1 : 1 ≤ T) (t2 : T ≤ 6) (s1 : 7 ≤ S) (s2 : S ≤ 250) :
    Calls Try.prog 19 #[.pointer (some ⟨b, 0, none⟩), .int .i64 a] w fun e w' => e = .returned (.tuple #[.agg #[.int .i64 0, .int .i64 0, .int .i64 0], .bool false]) ∧ Below w.heap.size w w' := by
  have := pwhat_calls T S b a w x0 x1 t1 t2 s1 s2
  rw [h] at this; simpa only [Bool.false_eq_true, if_false] using this

set_option maxHeartbeats 2000000 in
theorem planApart_walk (v0 v1 v2 : Value) (w : World) (s0 : Fr.okN w [.int .i64, .int .i64, .int .u64] v0) (s1 : Fr.ok1 w (.int .i64) v1) (s2 : Fr.ok1 w (.int .i64) v2) :
    Calls Try.prog 5 #[v0, v1, v2] w fun e w' => e = .returned (.bool true) ∧ Below w.heap.size w w' := by
  obtain ⟨cs, rfl, hcs⟩ := s0
  obtain ⟨_, _, rfl, k0, hcs⟩ := Fr.get_cons hcs
  obtain ⟨_, _, rfl, k1, hcs⟩ := Fr.get_cons hcs
  obtain ⟨_, _, rfl, k2, hcs⟩ := Fr.get_cons hcs
  obtain rfl := Fr.get_nil hcs
  obtain ⟨T, rfl, wT⟩ := Fr.get_int k0
  obtain ⟨S, rfl, wS⟩ := Fr.get_int k1
  obtain ⟨K, rfl, wK⟩ := Fr.get_int k2
  obtain ⟨a, rfl, wa⟩ := Fr.get_int s1
  obtain ⟨b, rfl, wb⟩ := Fr.get_int s2
  obtain ⟨a1, a2⟩ := wf64p wa
  obtain ⟨b1, b2⟩ := wf64p wb
  clear s1 s2 k0 k1 k2 hcs wT wS wK wa wb
  show Calls Try.prog _ #[.agg #[.int .i64 T, .int .i64 S, .int .u64 K], _, _] w _
  cases hm : mayC T S K
  · go_enter Try.func5, Try.ntmps5
    go_wp2_with fail
    generalize hW : World.alloc w _ = W
    have hBW : Below w.heap.size w W := by rw [← hW]; (repeat (first | exact Below.refl _ _ | assumption | refine below_new ?_ _ | refine Below.drew ?_ | refine below_drewN ?_ _ | refine below_on ?_ (by assumption)))
    clear hW
    refine (pnew_no _ _ _ _ hm).mono ?_; rintro _ w1 ⟨rfl, hb⟩
    have hB := below_on hBW hb
    clear hBW hb
    go_wp2_with (first | (go_at_call 9; refine (lives5_calls _).mono ?_; rintro _ _ ⟨rfl, _⟩))
    go_ret
    exact ⟨rfl, by (repeat (first | exact Below.refl _ _ | assumption | refine below_new ?_ _ | refine Below.drew ?_ | refine below_drewN ?_ _ | refine below_on ?_ (by assumption)))⟩
  · obtain ⟨t1, t2, s1, s2, _, _⟩ := mayC_true hm
    go_enter Try.func5, Try.ntmps5
    go_wp2_with fail
    generalize hW : World.alloc w _ = W
    have hBW : Below w.heap.size w W := by rw [← hW]; (repeat (first | exact Below.refl _ _ | assumption | refine below_new ?_ _ | refine Below.drew ?_ | refine below_drewN ?_ _ | refine below_on ?_ (by assumption)))
    clear hW
    refine (pnew_yes _ _ _ _ hm).mono ?_; rintro _ w1 ⟨p, rfl, hp, hh, hb⟩
    have x0 : w1.cell? ⟨p, 0, none⟩ = some (.int .i64 T) := by rw [cell_of_row _ p 0 _ _ (0, 0) hh]; rfl
    have x1 : w1.cell? ⟨p, 1, none⟩ = some (.int .i64 S) := by rw [cell_of_row _ p 1 _ _ (0, 0) hh]; rfl
    have hB := below_on hBW hb
    clear hBW hb hh hp
    have hw : 60 ≤ wordsI T S ∧ wordsI T S ≤ 1801 := by unfold wordsI; omega
    have hba := what_back T S a t1 t2
    have HBA := Lib.hid hba; clear hba
    have hap : isW T S a = true → isW T S b = true → a ≠ b → (wk T a == wk T b) = false ∨ ((wk T a == wk T b) = true ∧ (wi T a == wi T b) = false) ∨ ((wk T a == wk T b) = true ∧ (wi T a == wi T b) = true ∧ (wj T a == wj T b) = false) := fun h1 h2 hne => by
      have k1 : 0 ≤ a ∧ a < wordsI T S := of_decide_eq_true h1
      have k2 : 0 ≤ b ∧ b < wordsI T S := of_decide_eq_true h2
      by_cases q1 : wk T a = wk T b
      · by_cases q2 : wi T a = wi T b
        · by_cases q3 : wj T a = wj T b
          · exact absurd (what_apart T S a b t1 t2 k1.1 k1.2 k2.1 k2.2 q1 q2 q3) hne
          · right; right; simp [q1, q2, q3]
        · right; left; simp [q1, q2]
      · left; simp [q1]
    have HAP := Lib.hid hap; clear hap
    go_wp2_with fail
    cases ha : isW T S a
    · have ka : ¬ (0 ≤ a ∧ a < wordsI T S) := of_decide_eq_false ha
      refine (pwhat_no _ _ _ _ _ ha x0 x1 t1 t2 s1 s2).mono ?_; rintro _ w2 ⟨rfl, hb⟩
      have x0 := Ext.use (Ext.cells x0) hb; have x1 := Ext.use (Ext.cells x1) hb
      have hB := below_on hB hb
      clear hb
      cases hbb : isW T S b
      · have kb : ¬ (0 ≤ b ∧ b < wordsI T S) := of_decide_eq_false hbb
        go_wp2_with fail
        generalize hV : World.alloc _ _ = V
        have hBV : Below w.heap.size w V := by rw [← hV]; (repeat (first | exact Below.refl _ _ | assumption | refine below_new ?_ _ | refine Below.drew ?_ | refine below_drewN ?_ _ | refine below_on ?_ (by assumption)))
        have x0 := Ext.use (Ext.new x0 hV) (Below.refl _ _); have x1 := Ext.use (Ext.new x1 hV) (Below.refl _ _)
        have p0 := Ext.use (Ext.made hV 0 _ rfl) (Below.refl _ _); have p1 := Ext.use (Ext.made hV 1 _ rfl) (Below.refl _ _); have p2 := Ext.use (Ext.made hV 2 _ rfl) (Below.refl _ _)
        clear hV
        refine (pwhat_no _ _ _ _ _ hbb x0 x1 t1 t2 s1 s2).mono ?_; rintro _ w3 ⟨rfl, hb⟩
        have x0 := Ext.use (Ext.cells x0) hb; have x1 := Ext.use (Ext.cells x1) hb
        have p0 := Ext.use (Ext.cells p0) hb; have p1 := Ext.use (Ext.cells p1) hb; have p2 := Ext.use (Ext.cells p2) hb
        have hB := below_on hBV hb
        clear hb
        go_upto_region 6 with (fail)
        generalize hU : World.alloc w3 _ = U
        have hBU : Below w.heap.size w U := by rw [← hU]; (repeat (first | exact Below.refl _ _ | assumption | refine below_new ?_ _ | refine Below.drew ?_ | refine below_drewN ?_ _ | refine below_on ?_ (by assumption)))
        have y0 := Ext.new x0 hU; have y1 := Ext.new x1 hU; have p0 := Ext.new p0 hU; have p1 := Ext.new p1 hU; have p2 := Ext.new p2 hU
        have q0 := Ext.made hU 0 _ rfl; have q1 := Ext.made hU 1 _ rfl; have q2 := Ext.made hU 2 _ rfl
        clear hU x0 x1
        obtain ⟨x, hx⟩ : ∃ x : Ext U, x.w = U := ⟨⟨U, Below.refl _ _⟩, rfl⟩; rw [← hx]; clear hx
        rcases (by omega : a < 0 ∨ (0 ≤ a ∧ wordsI T S ≤ a)) with g | ⟨g, g'⟩ <;> rcases (by omega : b < 0 ∨ (0 ≤ b ∧ wordsI T S ≤ b)) with k | ⟨k, k'⟩
        all_goals
          go_wp2_with (first | (go_at_call 22; refine (Ext.step (pslots_calls _ _ _ _ (by exact y0 _) (by exact y1 _) ?_ ?_ ?_ ?_)).mono ?_; omega; omega; omega; omega; rintro _ _ ⟨rfl, _, rfl⟩) | (go_at_call 17; refine (Ext.step (pwords_calls _ _ _ _ (by exact y0 _) (by exact y1 _) ?_ ?_ ?_ ?_)).mono ?_; omega; omega; omega; omega; rintro _ _ ⟨rfl, _, rfl⟩) | (go_at_call 20; refine (Ext.step (pthread_calls _ _ _ _ _ _ (by exact y0 _) (by exact y1 _) ?_ ?_ ?_ ?_ ?_ ?_)).mono ?_; omega; omega; omega; omega; omega; omega; rintro _ _ ⟨rfl, _, rfl⟩) | (go_at_call 21; refine (Ext.step (pofbag_calls _ _ _ _ _ _ _ (by exact y0 _) (by exact y1 _) ?_ ?_ ?_ ?_ ?_ ?_)).mono ?_; omega; omega; omega; omega; omega; omega; rintro _ _ ⟨rfl, _, rfl⟩) | (go_at_call 12; refine (Ext.step (pactive_calls _ _ _ _ _ (by exact y0 _) (by exact y1 _) ?_ ?_ ?_ ?_)).mono ?_; omega; omega; omega; omega; rintro _ _ ⟨rfl, _, rfl⟩) | (go_at_call 13; refine (Ext.step (pvictim_calls _ _ _ _ _ (by exact y0 _) (by exact y1 _) ?_ ?_ ?_ ?_)).mono ?_; omega; omega; omega; omega; rintro _ _ ⟨rfl, _, rfl⟩) | (go_at_call 14; refine (Ext.step (pstamp_calls _ _ _ _ _ _ (by exact y0 _) (by exact y1 _) ?_ ?_ ?_ ?_)).mono ?_; omega; omega; omega; omega; rintro _ _ ⟨rfl, _, rfl⟩) | (go_at_call 15; refine (Ext.step (pbag_calls _ _ _ _ _ _ (by exact y0 _) (by exact y1 _) ?_ ?_ ?_ ?_)).mono ?_; omega; omega; omega; omega; rintro _ _ ⟨rfl, _, rfl⟩) | (go_at_call 16; refine (Ext.step (pnode_calls _ _ _ _ _ _ (by exact y0 _) (by exact y1 _) ?_ ?_ ?_ ?_)).mono ?_; omega; omega; omega; omega; rintro _ _ ⟨rfl, _, rfl⟩) | (go_at_call 8; refine (Ext.step (pmay_calls _ _ _ _)).mono ?_; rintro _ _ ⟨rfl, _, rfl⟩) | (go_at_call 19; refine (Ext.step (pwhat_calls _ _ _ _ _ (by exact y0 _) (by exact y1 _) ?_ ?_ ?_ ?_)).mono ?_; omega; omega; omega; omega; rintro _ _ ⟨rfl, _, rfl⟩) | (go_at_call 9; refine (Ext.step (lives5_calls _)).mono ?_; rintro _ _ ⟨rfl, _, rfl⟩) | (with_reducible refine ext_region _ ?_ ?_ ?_; kernel_rfl; kernel_rfl; (repeat (go_big_quiet_step (first | (go_at_call 22; refine Ext.call (pslots_calls _ _ _ _ (by exact y0 _) (by exact y1 _) ?_ ?_ ?_ ?_) <;> omega) | (go_at_call 17; refine Ext.call (pwords_calls _ _ _ _ (by exact y0 _) (by exact y1 _) ?_ ?_ ?_ ?_) <;> omega) | (go_at_call 20; refine Ext.call (pthread_calls _ _ _ _ _ _ (by exact y0 _) (by exact y1 _) ?_ ?_ ?_ ?_ ?_ ?_) <;> omega) | (go_at_call 21; refine Ext.call (pofbag_calls _ _ _ _ _ _ _ (by exact y0 _) (by exact y1 _) ?_ ?_ ?_ ?_ ?_ ?_) <;> omega) | (go_at_call 12; refine Ext.call (pactive_calls _ _ _ _ _ (by exact y0 _) (by exact y1 _) ?_ ?_ ?_ ?_) <;> omega) | (go_at_call 13; refine Ext.call (pvictim_calls _ _ _ _ _ (by exact y0 _) (by exact y1 _) ?_ ?_ ?_ ?_) <;> omega) | (go_at_call 14; refine Ext.call (pstamp_calls _ _ _ _ _ _ (by exact y0 _) (by exact y1 _) ?_ ?_ ?_ ?_) <;> omega) | (go_at_call 15; refine Ext.call (pbag_calls _ _ _ _ _ _ (by exact y0 _) (by exact y1 _) ?_ ?_ ?_ ?_) <;> omega) | (go_at_call 16; refine Ext.call (pnode_calls _ _ _ _ _ _ (by exact y0 _) (by exact y1 _) ?_ ?_ ?_ ?_) <;> omega) | (go_at_call 8; refine Ext.call (pmay_calls _ _ _ _) <;> omega) | (go_at_call 19; refine Ext.call (pwhat_calls _ _ _ _ _ (by exact y0 _) (by exact y1 _) ?_ ?_ ?_ ?_) <;> omega) | (go_at_call 9; refine Ext.call (lives5_calls _) <;> omega)))); refine wpQuiet_nil ?_; rintro _ ⟨_, rfl⟩))
          go_ret
          exact ⟨rfl, Ext.below hBU _⟩
      · obtain ⟨k, k'⟩ : (0 ≤ b ∧ b < wordsI T S) := of_decide_eq_true hbb
        go_wp2_with fail
        generalize hV : World.alloc _ _ = V
        have hBV : Below w.heap.size w V := by rw [← hV]; (repeat (first | exact Below.refl _ _ | assumption | refine below_new ?_ _ | refine Below.drew ?_ | refine below_drewN ?_ _ | refine below_on ?_ (by assumption)))
        have x0 := Ext.use (Ext.new x0 hV) (Below.refl _ _); have x1 := Ext.use (Ext.new x1 hV) (Below.refl _ _)
        have p0 := Ext.use (Ext.made hV 0 _ rfl) (Below.refl _ _); have p1 := Ext.use (Ext.made hV 1 _ rfl) (Below.refl _ _); have p2 := Ext.use (Ext.made hV 2 _ rfl) (Below.refl _ _)
        clear hV
        refine (pwhat_yes _ _ _ _ _ hbb x0 x1 t1 t2 s1 s2).mono ?_; rintro _ w3 ⟨rfl, hb⟩
        have x0 := Ext.use (Ext.cells x0) hb; have x1 := Ext.use (Ext.cells x1) hb
        have p0 := Ext.use (Ext.cells p0) hb; have p1 := Ext.use (Ext.cells p1) hb; have p2 := Ext.use (Ext.cells p2) hb
        have hB := below_on hBV hb
        clear hb
        go_upto_region 6 with (fail)
        generalize hU : World.alloc w3 _ = U
        have hBU : Below w.heap.size w U := by rw [← hU]; (repeat (first | exact Below.refl _ _ | assumption | refine below_new ?_ _ | refine Below.drew ?_ | refine below_drewN ?_ _ | refine below_on ?_ (by assumption)))
        have y0 := Ext.new x0 hU; have y1 := Ext.new x1 hU; have p0 := Ext.new p0 hU; have p1 := Ext.new p1 hU; have p2 := Ext.new p2 hU
        have q0 := Ext.made hU 0 _ rfl; have q1 := Ext.made hU 1 _ rfl; have q2 := Ext.made hU 2 _ rfl
        clear hU x0 x1
        obtain ⟨x, hx⟩ : ∃ x : Ext U, x.w = U := ⟨⟨U, Below.refl _ _⟩, rfl⟩; rw [← hx]; clear hx
        rcases (by omega : a < 0 ∨ (0 ≤ a ∧ wordsI T S ≤ a)) with g | ⟨g, g'⟩
        all_goals
          go_wp2_with (first | (go_at_call 22; refine (Ext.step (pslots_calls _ _ _ _ (by exact y0 _) (by exact y1 _) ?_ ?_ ?_ ?_)).mono ?_; omega; omega; omega; omega; rintro _ _ ⟨rfl, _, rfl⟩) | (go_at_call 17; refine (Ext.step (pwords_calls _ _ _ _ (by exact y0 _) (by exact y1 _) ?_ ?_ ?_ ?_)).mono ?_; omega; omega; omega; omega; rintro _ _ ⟨rfl, _, rfl⟩) | (go_at_call 20; refine (Ext.step (pthread_calls _ _ _ _ _ _ (by exact y0 _) (by exact y1 _) ?_ ?_ ?_ ?_ ?_ ?_)).mono ?_; omega; omega; omega; omega; omega; omega; rintro _ _ ⟨rfl, _, rfl⟩) | (go_at_call 21; refine (Ext.step (pofbag_calls _ _ _ _ _ _ _ (by exact y0 _) (by exact y1 _) ?_ ?_ ?_ ?_ ?_ ?_)).mono ?_; omega; omega; omega; omega; omega; omega; rintro _ _ ⟨rfl, _, rfl⟩) | (go_at_call 12; refine (Ext.step (pactive_calls _ _ _ _ _ (by exact y0 _) (by exact y1 _) ?_ ?_ ?_ ?_)).mono ?_; omega; omega; omega; omega; rintro _ _ ⟨rfl, _, rfl⟩) | (go_at_call 13; refine (Ext.step (pvictim_calls _ _ _ _ _ (by exact y0 _) (by exact y1 _) ?_ ?_ ?_ ?_)).mono ?_; omega; omega; omega; omega; rintro _ _ ⟨rfl, _, rfl⟩) | (go_at_call 14; refine (Ext.step (pstamp_calls _ _ _ _ _ _ (by exact y0 _) (by exact y1 _) ?_ ?_ ?_ ?_)).mono ?_; omega; omega; omega; omega; rintro _ _ ⟨rfl, _, rfl⟩) | (go_at_call 15; refine (Ext.step (pbag_calls _ _ _ _ _ _ (by exact y0 _) (by exact y1 _) ?_ ?_ ?_ ?_)).mono ?_; omega; omega; omega; omega; rintro _ _ ⟨rfl, _, rfl⟩) | (go_at_call 16; refine (Ext.step (pnode_calls _ _ _ _ _ _ (by exact y0 _) (by exact y1 _) ?_ ?_ ?_ ?_)).mono ?_; omega; omega; omega; omega; rintro _ _ ⟨rfl, _, rfl⟩) | (go_at_call 8; refine (Ext.step (pmay_calls _ _ _ _)).mono ?_; rintro _ _ ⟨rfl, _, rfl⟩) | (go_at_call 19; refine (Ext.step (pwhat_calls _ _ _ _ _ (by exact y0 _) (by exact y1 _) ?_ ?_ ?_ ?_)).mono ?_; omega; omega; omega; omega; rintro _ _ ⟨rfl, _, rfl⟩) | (go_at_call 9; refine (Ext.step (lives5_calls _)).mono ?_; rintro _ _ ⟨rfl, _, rfl⟩) | (with_reducible refine ext_region _ ?_ ?_ ?_; kernel_rfl; kernel_rfl; (repeat (go_big_quiet_step (first | (go_at_call 22; refine Ext.call (pslots_calls _ _ _ _ (by exact y0 _) (by exact y1 _) ?_ ?_ ?_ ?_) <;> omega) | (go_at_call 17; refine Ext.call (pwords_calls _ _ _ _ (by exact y0 _) (by exact y1 _) ?_ ?_ ?_ ?_) <;> omega) | (go_at_call 20; refine Ext.call (pthread_calls _ _ _ _ _ _ (by exact y0 _) (by exact y1 _) ?_ ?_ ?_ ?_ ?_ ?_) <;> omega) | (go_at_call 21; refine Ext.call (pofbag_calls _ _ _ _ _ _ _ (by exact y0 _) (by exact y1 _) ?_ ?_ ?_ ?_ ?_ ?_) <;> omega) | (go_at_call 12; refine Ext.call (pactive_calls _ _ _ _ _ (by exact y0 _) (by exact y1 _) ?_ ?_ ?_ ?_) <;> omega) | (go_at_call 13; refine Ext.call (pvictim_calls _ _ _ _ _ (by exact y0 _) (by exact y1 _) ?_ ?_ ?_ ?_) <;> omega) | (go_at_call 14; refine Ext.call (pstamp_calls _ _ _ _ _ _ (by exact y0 _) (by exact y1 _) ?_ ?_ ?_ ?_) <;> omega) | (go_at_call 15; refine Ext.call (pbag_calls _ _ _ _ _ _ (by exact y0 _) (by exact y1 _) ?_ ?_ ?_ ?_) <;> omega) | (go_at_call 16; refine Ext.call (pnode_calls _ _ _ _ _ _ (by exact y0 _) (by exact y1 _) ?_ ?_ ?_ ?_) <;> omega) | (go_at_call 8; refine Ext.call (pmay_calls _ _ _ _) <;> omega) | (go_at_call 19; refine Ext.call (pwhat_calls _ _ _ _ _ (by exact y0 _) (by exact y1 _) ?_ ?_ ?_ ?_) <;> omega) | (go_at_call 9; refine Ext.call (lives5_calls _) <;> omega)))); refine wpQuiet_nil ?_; rintro _ ⟨_, rfl⟩))
          go_ret
          exact ⟨rfl, Ext.below hBU _⟩
    · obtain ⟨g, g'⟩ : (0 ≤ a ∧ a < wordsI T S) := of_decide_eq_true ha
      refine (pwhat_yes _ _ _ _ _ ha x0 x1 t1 t2 s1 s2).mono ?_; rintro _ w2 ⟨rfl, hb⟩
      have x0 := Ext.use (Ext.cells x0) hb; have x1 := Ext.use (Ext.cells x1) hb
      have hB := below_on hB hb
      clear hb
      cases hbb : isW T S b
      · have kb : ¬ (0 ≤ b ∧ b < wordsI T S) := of_decide_eq_false hbb
        go_wp2_with fail
        generalize hV : World.alloc _ _ = V
        have hBV : Below w.heap.size w V := by rw [← hV]; (repeat (first | exact Below.refl _ _ | assumption | refine below_new ?_ _ | refine Below.drew ?_ | refine below_drewN ?_ _ | refine below_on ?_ (by assumption)))
        have x0 := Ext.use (Ext.new x0 hV) (Below.refl _ _); have x1 := Ext.use (Ext.new x1 hV) (Below.refl _ _)
        have p0 := Ext.use (Ext.made hV 0 _ rfl) (Below.refl _ _); have p1 := Ext.use (Ext.made hV 1 _ rfl) (Below.refl _ _); have p2 := Ext.use (Ext.made hV 2 _ rfl) (Below.refl _ _)
        clear hV
        refine (pwhat_no _ _ _ _ _ hbb x0 x1 t1 t2 s1 s2).mono ?_; rintro _ w3 ⟨rfl, hb⟩
        have x0 := Ext.use (Ext.cells x0) hb; have x1 := Ext.use (Ext.cells x1) hb
        have p0 := Ext.use (Ext.cells p0) hb; have p1 := Ext.use (Ext.cells p1) hb; have p2 := Ext.use (Ext.cells p2) hb
        have hB := below_on hBV hb
        clear hb
        go_upto_region 6 with (fail)
        generalize hU : World.alloc w3 _ = U
        have hBU : Below w.heap.size w U := by rw [← hU]; (repeat (first | exact Below.refl _ _ | assumption | refine below_new ?_ _ | refine Below.drew ?_ | refine below_drewN ?_ _ | refine below_on ?_ (by assumption)))
        have y0 := Ext.new x0 hU; have y1 := Ext.new x1 hU; have p0 := Ext.new p0 hU; have p1 := Ext.new p1 hU; have p2 := Ext.new p2 hU
        have q0 := Ext.made hU 0 _ rfl; have q1 := Ext.made hU 1 _ rfl; have q2 := Ext.made hU 2 _ rfl
        clear hU x0 x1
        obtain ⟨x, hx⟩ : ∃ x : Ext U, x.w = U := ⟨⟨U, Below.refl _ _⟩, rfl⟩; rw [← hx]; clear hx
        rcases (by omega : b < 0 ∨ (0 ≤ b ∧ wordsI T S ≤ b)) with k | ⟨k, k'⟩
        all_goals
          rcases HBA.out g g' with ⟨z1, z2⟩ | ⟨z1, z2⟩ | ⟨z1, z2⟩ | ⟨z1, z2⟩ | ⟨z1, z2⟩ | ⟨z1, z2⟩
          all_goals
            go_wp2_with (first | (go_at_call 22; refine (Ext.step (pslots_calls _ _ _ _ (by exact y0 _) (by exact y1 _) ?_ ?_ ?_ ?_)).mono ?_; omega; omega; omega; omega; rintro _ _ ⟨rfl, _, rfl⟩) | (go_at_call 17; refine (Ext.step (pwords_calls _ _ _ _ (by exact y0 _) (by exact y1 _) ?_ ?_ ?_ ?_)).mono ?_; omega; omega; omega; omega; rintro _ _ ⟨rfl, _, rfl⟩) | (go_at_call 20; refine (Ext.step (pthread_calls _ _ _ _ _ _ (by exact y0 _) (by exact y1 _) ?_ ?_ ?_ ?_ ?_ ?_)).mono ?_; omega; omega; omega; omega; omega; omega; rintro _ _ ⟨rfl, _, rfl⟩) | (go_at_call 21; refine (Ext.step (pofbag_calls _ _ _ _ _ _ _ (by exact y0 _) (by exact y1 _) ?_ ?_ ?_ ?_ ?_ ?_)).mono ?_; omega; omega; omega; omega; omega; omega; rintro _ _ ⟨rfl, _, rfl⟩) | (go_at_call 12; refine (Ext.step (pactive_calls _ _ _ _ _ (by exact y0 _) (by exact y1 _) ?_ ?_ ?_ ?_)).mono ?_; omega; omega; omega; omega; rintro _ _ ⟨rfl, _, rfl⟩) | (go_at_call 13; refine (Ext.step (pvictim_calls _ _ _ _ _ (by exact y0 _) (by exact y1 _) ?_ ?_ ?_ ?_)).mono ?_; omega; omega; omega; omega; rintro _ _ ⟨rfl, _, rfl⟩) | (go_at_call 14; refine (Ext.step (pstamp_calls _ _ _ _ _ _ (by exact y0 _) (by exact y1 _) ?_ ?_ ?_ ?_)).mono ?_; omega; omega; omega; omega; rintro _ _ ⟨rfl, _, rfl⟩) | (go_at_call 15; refine (Ext.step (pbag_calls _ _ _ _ _ _ (by exact y0 _) (by exact y1 _) ?_ ?_ ?_ ?_)).mono ?_; omega; omega; omega; omega; rintro _ _ ⟨rfl, _, rfl⟩) | (go_at_call 16; refine (Ext.step (pnode_calls _ _ _ _ _ _ (by exact y0 _) (by exact y1 _) ?_ ?_ ?_ ?_)).mono ?_; omega; omega; omega; omega; rintro _ _ ⟨rfl, _, rfl⟩) | (go_at_call 8; refine (Ext.step (pmay_calls _ _ _ _)).mono ?_; rintro _ _ ⟨rfl, _, rfl⟩) | (go_at_call 19; refine (Ext.step (pwhat_calls _ _ _ _ _ (by exact y0 _) (by exact y1 _) ?_ ?_ ?_ ?_)).mono ?_; omega; omega; omega; omega; rintro _ _ ⟨rfl, _, rfl⟩) | (go_at_call 9; refine (Ext.step (lives5_calls _)).mono ?_; rintro _ _ ⟨rfl, _, rfl⟩) | (with_reducible refine ext_region _ ?_ ?_ ?_; kernel_rfl; kernel_rfl; (repeat (go_big_quiet_step (first | (go_at_call 22; refine Ext.call (pslots_calls _ _ _ _ (by exact y0 _) (by exact y1 _) ?_ ?_ ?_ ?_) <;> omega) | (go_at_call 17; refine Ext.call (pwords_calls _ _ _ _ (by exact y0 _) (by exact y1 _) ?_ ?_ ?_ ?_) <;> omega) | (go_at_call 20; refine Ext.call (pthread_calls _ _ _ _ _ _ (by exact y0 _) (by exact y1 _) ?_ ?_ ?_ ?_ ?_ ?_) <;> omega) | (go_at_call 21; refine Ext.call (pofbag_calls _ _ _ _ _ _ _ (by exact y0 _) (by exact y1 _) ?_ ?_ ?_ ?_ ?_ ?_) <;> omega) | (go_at_call 12; refine Ext.call (pactive_calls _ _ _ _ _ (by exact y0 _) (by exact y1 _) ?_ ?_ ?_ ?_) <;> omega) | (go_at_call 13; refine Ext.call (pvictim_calls _ _ _ _ _ (by exact y0 _) (by exact y1 _) ?_ ?_ ?_ ?_) <;> omega) | (go_at_call 14; refine Ext.call (pstamp_calls _ _ _ _ _ _ (by exact y0 _) (by exact y1 _) ?_ ?_ ?_ ?_) <;> omega) | (go_at_call 15; refine Ext.call (pbag_calls _ _ _ _ _ _ (by exact y0 _) (by exact y1 _) ?_ ?_ ?_ ?_) <;> omega) | (go_at_call 16; refine Ext.call (pnode_calls _ _ _ _ _ _ (by exact y0 _) (by exact y1 _) ?_ ?_ ?_ ?_) <;> omega) | (go_at_call 8; refine Ext.call (pmay_calls _ _ _ _) <;> omega) | (go_at_call 19; refine Ext.call (pwhat_calls _ _ _ _ _ (by exact y0 _) (by exact y1 _) ?_ ?_ ?_ ?_) <;> omega) | (go_at_call 9; refine Ext.call (lives5_calls _) <;> omega)))); refine wpQuiet_nil ?_; rintro _ ⟨_, rfl⟩))
            go_ret
            refine ⟨?_, Ext.below hBU _⟩
            first | rfl | (rw [z2]; simp; done) | simp
      · obtain ⟨k, k'⟩ : (0 ≤ b ∧ b < wordsI T S) := of_decide_eq_true hbb
        go_wp2_with fail
        generalize hV : World.alloc _ _ = V
        have hBV : Below w.heap.size w V := by rw [← hV]; (repeat (first | exact Below.refl _ _ | assumption | refine below_new ?_ _ | refine Below.drew ?_ | refine below_drewN ?_ _ | refine below_on ?_ (by assumption)))
        have x0 := Ext.use (Ext.new x0 hV) (Below.refl _ _); have x1 := Ext.use (Ext.new x1 hV) (Below.refl _ _)
        have p0 := Ext.use (Ext.made hV 0 _ rfl) (Below.refl _ _); have p1 := Ext.use (Ext.made hV 1 _ rfl) (Below.refl _ _); have p2 := Ext.use (Ext.made hV 2 _ rfl) (Below.refl _ _)
        clear hV
        refine (pwhat_yes _ _ _ _ _ hbb x0 x1 t1 t2 s1 s2).mono ?_; rintro _ w3 ⟨rfl, hb⟩
        have x0 := Ext.use (Ext.cells x0) hb; have x1 := Ext.use (Ext.cells x1) hb
        have p0 := Ext.use (Ext.cells p0) hb; have p1 := Ext.use (Ext.cells p1) hb; have p2 := Ext.use (Ext.cells p2) hb
        have hB := below_on hBV hb
        clear hb
        go_upto_region 6 with (fail)
        generalize hU : World.alloc w3 _ = U
        have hBU : Below w.heap.size w U := by rw [← hU]; (repeat (first | exact Below.refl _ _ | assumption | refine below_new ?_ _ | refine Below.drew ?_ | refine below_drewN ?_ _ | refine below_on ?_ (by assumption)))
        have y0 := Ext.new x0 hU; have y1 := Ext.new x1 hU; have p0 := Ext.new p0 hU; have p1 := Ext.new p1 hU; have p2 := Ext.new p2 hU
        have q0 := Ext.made hU 0 _ rfl; have q1 := Ext.made hU 1 _ rfl; have q2 := Ext.made hU 2 _ rfl
        clear hU x0 x1
        obtain ⟨x, hx⟩ : ∃ x : Ext U, x.w = U := ⟨⟨U, Below.refl _ _⟩, rfl⟩; rw [← hx]; clear hx
        by_cases hne : a = b
        · subst hne
          rcases HBA.out g g' with ⟨z1, z2⟩ | ⟨z1, z2⟩ | ⟨z1, z2⟩ | ⟨z1, z2⟩ | ⟨z1, z2⟩ | ⟨z1, z2⟩
          all_goals
            go_wp2_with (first | (go_at_call 22; refine (Ext.step (pslots_calls _ _ _ _ (by exact y0 _) (by exact y1 _) ?_ ?_ ?_ ?_)).mono ?_; omega; omega; omega; omega; rintro _ _ ⟨rfl, _, rfl⟩) | (go_at_call 17; refine (Ext.step (pwords_calls _ _ _ _ (by exact y0 _) (by exact y1 _) ?_ ?_ ?_ ?_)).mono ?_; omega; omega; omega; omega; rintro _ _ ⟨rfl, _, rfl⟩) | (go_at_call 20; refine (Ext.step (pthread_calls _ _ _ _ _ _ (by exact y0 _) (by exact y1 _) ?_ ?_ ?_ ?_ ?_ ?_)).mono ?_; omega; omega; omega; omega; omega; omega; rintro _ _ ⟨rfl, _, rfl⟩) | (go_at_call 21; refine (Ext.step (pofbag_calls _ _ _ _ _ _ _ (by exact y0 _) (by exact y1 _) ?_ ?_ ?_ ?_ ?_ ?_)).mono ?_; omega; omega; omega; omega; omega; omega; rintro _ _ ⟨rfl, _, rfl⟩) | (go_at_call 12; refine (Ext.step (pactive_calls _ _ _ _ _ (by exact y0 _) (by exact y1 _) ?_ ?_ ?_ ?_)).mono ?_; omega; omega; omega; omega; rintro _ _ ⟨rfl, _, rfl⟩) | (go_at_call 13; refine (Ext.step (pvictim_calls _ _ _ _ _ (by exact y0 _) (by exact y1 _) ?_ ?_ ?_ ?_)).mono ?_; omega; omega; omega; omega; rintro _ _ ⟨rfl, _, rfl⟩) | (go_at_call 14; refine (Ext.step (pstamp_calls _ _ _ _ _ _ (by exact y0 _) (by exact y1 _) ?_ ?_ ?_ ?_)).mono ?_; omega; omega; omega; omega; rintro _ _ ⟨rfl, _, rfl⟩) | (go_at_call 15; refine (Ext.step (pbag_calls _ _ _ _ _ _ (by exact y0 _) (by exact y1 _) ?_ ?_ ?_ ?_)).mono ?_; omega; omega; omega; omega; rintro _ _ ⟨rfl, _, rfl⟩) | (go_at_call 16; refine (Ext.step (pnode_calls _ _ _ _ _ _ (by exact y0 _) (by exact y1 _) ?_ ?_ ?_ ?_)).mono ?_; omega; omega; omega; omega; rintro _ _ ⟨rfl, _, rfl⟩) | (go_at_call 8; refine (Ext.step (pmay_calls _ _ _ _)).mono ?_; rintro _ _ ⟨rfl, _, rfl⟩) | (go_at_call 19; refine (Ext.step (pwhat_calls _ _ _ _ _ (by exact y0 _) (by exact y1 _) ?_ ?_ ?_ ?_)).mono ?_; omega; omega; omega; omega; rintro _ _ ⟨rfl, _, rfl⟩) | (go_at_call 9; refine (Ext.step (lives5_calls _)).mono ?_; rintro _ _ ⟨rfl, _, rfl⟩) | (with_reducible refine ext_region _ ?_ ?_ ?_; kernel_rfl; kernel_rfl; (repeat (go_big_quiet_step (first | (go_at_call 22; refine Ext.call (pslots_calls _ _ _ _ (by exact y0 _) (by exact y1 _) ?_ ?_ ?_ ?_) <;> omega) | (go_at_call 17; refine Ext.call (pwords_calls _ _ _ _ (by exact y0 _) (by exact y1 _) ?_ ?_ ?_ ?_) <;> omega) | (go_at_call 20; refine Ext.call (pthread_calls _ _ _ _ _ _ (by exact y0 _) (by exact y1 _) ?_ ?_ ?_ ?_ ?_ ?_) <;> omega) | (go_at_call 21; refine Ext.call (pofbag_calls _ _ _ _ _ _ _ (by exact y0 _) (by exact y1 _) ?_ ?_ ?_ ?_ ?_ ?_) <;> omega) | (go_at_call 12; refine Ext.call (pactive_calls _ _ _ _ _ (by exact y0 _) (by exact y1 _) ?_ ?_ ?_ ?_) <;> omega) | (go_at_call 13; refine Ext.call (pvictim_calls _ _ _ _ _ (by exact y0 _) (by exact y1 _) ?_ ?_ ?_ ?_) <;> omega) | (go_at_call 14; refine Ext.call (pstamp_calls _ _ _ _ _ _ (by exact y0 _) (by exact y1 _) ?_ ?_ ?_ ?_) <;> omega) | (go_at_call 15; refine Ext.call (pbag_calls _ _ _ _ _ _ (by exact y0 _) (by exact y1 _) ?_ ?_ ?_ ?_) <;> omega) | (go_at_call 16; refine Ext.call (pnode_calls _ _ _ _ _ _ (by exact y0 _) (by exact y1 _) ?_ ?_ ?_ ?_) <;> omega) | (go_at_call 8; refine Ext.call (pmay_calls _ _ _ _) <;> omega) | (go_at_call 19; refine Ext.call (pwhat_calls _ _ _ _ _ (by exact y0 _) (by exact y1 _) ?_ ?_ ?_ ?_) <;> omega) | (go_at_call 9; refine Ext.call (lives5_calls _) <;> omega)))); refine wpQuiet_nil ?_; rintro _ ⟨_, rfl⟩))
            go_ret
            refine ⟨?_, Ext.below hBU _⟩
            first | rfl | (rw [z2]; simp; done) | simp
        · rcases HAP.out ha hbb hne with r1 | ⟨r1, r2⟩ | ⟨r1, r2, r3⟩
          all_goals
            rcases HBA.out g g' with ⟨z1, z2⟩ | ⟨z1, z2⟩ | ⟨z1, z2⟩ | ⟨z1, z2⟩ | ⟨z1, z2⟩ | ⟨z1, z2⟩
            all_goals
              try simp only [z1] at r1
              try simp only [z2] at r2
              go_wp2_with (first | (go_at_call 22; refine (Ext.step (pslots_calls _ _ _ _ (by exact y0 _) (by exact y1 _) ?_ ?_ ?_ ?_)).mono ?_; omega; omega; omega; omega; rintro _ _ ⟨rfl, _, rfl⟩) | (go_at_call 17; refine (Ext.step (pwords_calls _ _ _ _ (by exact y0 _) (by exact y1 _) ?_ ?_ ?_ ?_)).mono ?_; omega; omega; omega; omega; rintro _ _ ⟨rfl, _, rfl⟩) | (go_at_call 20; refine (Ext.step (pthread_calls _ _ _ _ _ _ (by exact y0 _) (by exact y1 _) ?_ ?_ ?_ ?_ ?_ ?_)).mono ?_; omega; omega; omega; omega; omega; omega; rintro _ _ ⟨rfl, _, rfl⟩) | (go_at_call 21; refine (Ext.step (pofbag_calls _ _ _ _ _ _ _ (by exact y0 _) (by exact y1 _) ?_ ?_ ?_ ?_ ?_ ?_)).mono ?_; omega; omega; omega; omega; omega; omega; rintro _ _ ⟨rfl, _, rfl⟩) | (go_at_call 12; refine (Ext.step (pactive_calls _ _ _ _ _ (by exact y0 _) (by exact y1 _) ?_ ?_ ?_ ?_)).mono ?_; omega; omega; omega; omega; rintro _ _ ⟨rfl, _, rfl⟩) | (go_at_call 13; refine (Ext.step (pvictim_calls _ _ _ _ _ (by exact y0 _) (by exact y1 _) ?_ ?_ ?_ ?_)).mono ?_; omega; omega; omega; omega; rintro _ _ ⟨rfl, _, rfl⟩) | (go_at_call 14; refine (Ext.step (pstamp_calls _ _ _ _ _ _ (by exact y0 _) (by exact y1 _) ?_ ?_ ?_ ?_)).mono ?_; omega; omega; omega; omega; rintro _ _ ⟨rfl, _, rfl⟩) | (go_at_call 15; refine (Ext.step (pbag_calls _ _ _ _ _ _ (by exact y0 _) (by exact y1 _) ?_ ?_ ?_ ?_)).mono ?_; omega; omega; omega; omega; rintro _ _ ⟨rfl, _, rfl⟩) | (go_at_call 16; refine (Ext.step (pnode_calls _ _ _ _ _ _ (by exact y0 _) (by exact y1 _) ?_ ?_ ?_ ?_)).mono ?_; omega; omega; omega; omega; rintro _ _ ⟨rfl, _, rfl⟩) | (go_at_call 8; refine (Ext.step (pmay_calls _ _ _ _)).mono ?_; rintro _ _ ⟨rfl, _, rfl⟩) | (go_at_call 19; refine (Ext.step (pwhat_calls _ _ _ _ _ (by exact y0 _) (by exact y1 _) ?_ ?_ ?_ ?_)).mono ?_; omega; omega; omega; omega; rintro _ _ ⟨rfl, _, rfl⟩) | (go_at_call 9; refine (Ext.step (lives5_calls _)).mono ?_; rintro _ _ ⟨rfl, _, rfl⟩) | (with_reducible refine ext_region _ ?_ ?_ ?_; kernel_rfl; kernel_rfl; (repeat (go_big_quiet_step (first | (go_at_call 22; refine Ext.call (pslots_calls _ _ _ _ (by exact y0 _) (by exact y1 _) ?_ ?_ ?_ ?_) <;> omega) | (go_at_call 17; refine Ext.call (pwords_calls _ _ _ _ (by exact y0 _) (by exact y1 _) ?_ ?_ ?_ ?_) <;> omega) | (go_at_call 20; refine Ext.call (pthread_calls _ _ _ _ _ _ (by exact y0 _) (by exact y1 _) ?_ ?_ ?_ ?_ ?_ ?_) <;> omega) | (go_at_call 21; refine Ext.call (pofbag_calls _ _ _ _ _ _ _ (by exact y0 _) (by exact y1 _) ?_ ?_ ?_ ?_ ?_ ?_) <;> omega) | (go_at_call 12; refine Ext.call (pactive_calls _ _ _ _ _ (by exact y0 _) (by exact y1 _) ?_ ?_ ?_ ?_) <;> omega) | (go_at_call 13; refine Ext.call (pvictim_calls _ _ _ _ _ (by exact y0 _) (by exact y1 _) ?_ ?_ ?_ ?_) <;> omega) | (go_at_call 14; refine Ext.call (pstamp_calls _ _ _ _ _ _ (by exact y0 _) (by exact y1 _) ?_ ?_ ?_ ?_) <;> omega) | (go_at_call 15; refine Ext.call (pbag_calls _ _ _ _ _ _ (by exact y0 _) (by exact y1 _) ?_ ?_ ?_ ?_) <;> omega) | (go_at_call 16; refine Ext.call (pnode_calls _ _ _ _ _ _ (by exact y0 _) (by exact y1 _) ?_ ?_ ?_ ?_) <;> omega) | (go_at_call 8; refine Ext.call (pmay_calls _ _ _ _) <;> omega) | (go_at_call 19; refine Ext.call (pwhat_calls _ _ _ _ _ (by exact y0 _) (by exact y1 _) ?_ ?_ ?_ ?_) <;> omega) | (go_at_call 9; refine Ext.call (lives5_calls _) <;> omega)))); refine wpQuiet_nil ?_; rintro _ ⟨_, rfl⟩))
              go_ret
              refine ⟨?_, Ext.below hBU _⟩
              first | rfl | (rw [z2]; simp; done) | simp
end Go.Proofs.Ytbigopldfoddkaa
