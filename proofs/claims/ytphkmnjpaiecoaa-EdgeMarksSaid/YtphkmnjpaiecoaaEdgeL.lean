/- The walks of layer 3's statements. -/
import Derived.Test.YtphkmnjpaiecoaaEdgeA
import Derived.Test.YtphkmnjpaiecoaaExt
import Derived.Test.YtphkmnjpaiecoaaFrame
import Derived.Below
import Derived.Deep.QuietTactic
import Derived.BigQuiet
import Derived.WalkSmall
import Derived.Deep.RegionHeld3
namespace Go.Proofs.Ytphkmnjpaiecoaa
open Go.RowKit WordM EdgeM

theorem lives3_calls (w : World) : Calls Try.prog 15 #[] w fun e w' => e = .returned (.bool true) ∧ w = w' := by
  have H1 := Lib.hid (show makeI 3 1 = 4099 by decide)
  have H2 := Lib.hid (show flaggedI 4099 = 4611686018427392003 by decide)
  go_enter Try.func15, Try.ntmps15
  go_wp2_with fail
  refine (emake_calls _ _ _ (by omega)).mono ?_; rintro _ _ ⟨rfl, rfl⟩
  rw [H1.out]
  go_wp2_with fail
  refine (emake_calls _ _ _ (by omega)).mono ?_; rintro _ _ ⟨rfl, rfl⟩
  rw [H1.out]
  go_wp2_with fail
  refine (eflagged_calls _ _ (by omega) (by omega)).mono ?_; rintro _ _ ⟨rfl, rfl⟩
  rw [H2.out]
  go_wp2_with fail
  go_ret
  exact ⟨rfl, rfl⟩

theorem read3_calls (e : Int) (w : World) (e1 : 0 ≤ e) (e2 : e < 18446744073709551616) :
    Calls Try.prog 7 #[.int .u64 e] w fun x w' => x = .returned (.agg #[.int .i64 (e % 4096), .int .u64 (e / 4096 % 1125899906842624), .bool (flagB e), .bool (tagB e)]) ∧ Below w.heap.size w w' := by
  have HF := Lib.hid (show (e / 4611686018427387904 % 2 == 1) = flagB e from rfl)
  have HT := Lib.hid (show decide (9223372036854775808 ≤ e) = tagB e from rfl)
  go_enter Try.func7, Try.ntmps7
  go_wp2
  rw [HF.out, HT.out]
  exact bodyPost_ret (v := .agg #[.int .i64 (e % 4096), .int .u64 (e / 4096 % 1125899906842624), .bool (flagB e), .bool (tagB e)]) (by simp [results, Try.results7, go_sem]) rfl ⟨rfl, (Below.refl _ _).alloc (Nat.le_refl _) _⟩

def putI (s g : Int) (f t : Bool) : Int := s + 4096 * g + (if f then 4611686018427387904 else 0) + (if t then 9223372036854775808 else 0)
theorem put3_calls (s g : Int) (f t : Bool) (w : World) (s1 : 0 ≤ s) (s2 : s < 4096) (g1 : 0 ≤ g) (g2 : g < 1125899906842624) :
    Calls Try.prog 14 #[.agg #[.int .i64 s, .int .u64 g, .bool f, .bool t]] w fun x w' => x = .returned (.int .u64 (putI s g f t)) ∧ Below w.heap.size w w' := by
  have HU := Lib.hid (show IntKind.u64.wrap s = s by rw [IntKind.wrap_u64]; omega)
  cases f <;> cases t
  all_goals
    go_enter Try.func14, Try.ntmps14
    go_wp2
    go_ret
    exact ⟨ret_int (by unfold putI; simp <;> omega), (Below.refl _ _).alloc (Nat.le_refl _) _⟩

set_option maxHeartbeats 1000000 in
theorem edgeParts_walk (v0 : Value) (w : World) (s0 : Fr.ok1 w (.int .u64) v0) :
    Calls Try.prog 3 #[v0] w fun e w' => e = .returned (.bool true) ∧ Below w.heap.size w w' := by
  obtain ⟨e, rfl, we⟩ := Fr.get_int s0
  obtain ⟨e1, e2⟩ := wfu64 we
  clear s0 we
  go_enter Try.func3, Try.ntmps3
  go_wp2_with fail
  refine (read3_calls _ _ e1 e2).mono ?_; rintro _ w1 ⟨rfl, hb⟩
  go_wp2_with fail
  obtain ⟨W, hW⟩ : ∃ W, W = ((w1.alloc (.cells #[.int .i64 (e % 4096), .int .u64 (e / 4096 % 1125899906842624), .bool (flagB e), .bool (tagB e)] 25)).alloc (.cells #[.int .i64 (e % 4096), .int .u64 (e / 4096 % 1125899906842624), .bool false, .bool false] 25)) := ⟨_, rfl⟩
  rw [← hW]
  have hBW : Below w.heap.size w W := by subst hW; exact (hb.alloc hb.size _).alloc (by simp; have := hb.size; omega) _
  have hWs : W.heap.size = w1.heap.size + 2 := by subst hW; simp
  have c0 : W.cell? ⟨w1.heap.size, 0, none⟩ = some (.int .i64 (e % 4096)) := by subst hW; go_simp
  have c1 : W.cell? ⟨w1.heap.size, 1, none⟩ = some (.int .u64 (e / 4096 % 1125899906842624)) := by subst hW; go_simp
  have c2 : W.cell? ⟨w1.heap.size, 2, none⟩ = some (.bool (flagB e)) := by subst hW; go_simp
  have c3 : W.cell? ⟨w1.heap.size, 3, none⟩ = some (.bool (tagB e)) := by subst hW; go_simp
  have d0 : W.cell? ⟨w1.heap.size + 1, 0, none⟩ = some (.int .i64 (e % 4096)) := by subst hW; go_simp
  have d1 : W.cell? ⟨w1.heap.size + 1, 1, none⟩ = some (.int .u64 (e / 4096 % 1125899906842624)) := by subst hW; go_simp
  have d2 : W.cell? ⟨w1.heap.size + 1, 2, none⟩ = some (.bool false) := by subst hW; go_simp
  have d3 : W.cell? ⟨w1.heap.size + 1, 3, none⟩ = some (.bool false) := by subst hW; go_simp
  clear hW hWs hb
  have hn : putI (e % 4096) (e / 4096 % 1125899906842624) false false = e % 4611686018427387904 := by unfold putI; simp; omega
  have x0 := Ext.cells c0; have x1 := Ext.cells c1; have x2 := Ext.cells c2; have x3 := Ext.cells c3
  have y0 := Ext.cells d0; have y1 := Ext.cells d1; have y2 := Ext.cells d2; have y3 := Ext.cells d3
  clear c0 c1 c2 c3 d0 d1 d2 d3
  cases hf : flagB e <;> cases ht : tagB e
  all_goals
    refine wp_region_ext W (by kernel_rfl) (by kernel_rfl) ?_
    repeat (go_big_quiet_step (first | (go_at_call 16; refine Ext.same (emake_calls _ _ _ ?_) <;> omega) | (go_at_call 8; refine Ext.same (eslot_calls _ _ ?_ ?_) <;> omega) | (go_at_call 9; refine Ext.same (egen_calls _ _ ?_ ?_) <;> omega) | (go_at_call 10; refine Ext.same (eflag_calls _ _ ?_ ?_) <;> omega) | (go_at_call 11; refine Ext.same (etag_calls _ _ ?_ ?_) <;> omega) | (go_at_call 12; refine Ext.same (eplain_calls _ _ ?_ ?_) <;> omega) | (go_at_call 13; refine Ext.same (enode_calls _ _ ?_ ?_) <;> omega) | (go_at_call 17; refine Ext.same (eflagged_calls _ _ ?_ ?_) <;> omega) | (go_at_call 18; refine Ext.same (etagged_calls _ _ ?_ ?_) <;> omega) | (go_at_call 19; refine Ext.same (ekeep_calls _ _ ?_ ?_) <;> omega) | (go_at_call 20; refine Ext.same (eto_calls _ _ _ ?_ ?_ ?_ ?_) <;> omega) | (go_at_call 14; refine Ext.call (put3_calls _ _ _ _ _ ?_ ?_ ?_ ?_) <;> omega) | (go_at_call 7; refine Ext.call (read3_calls _ _ ?_ ?_) <;> omega) | (go_at_call 15; refine Ext.same (lives3_calls _) <;> omega)))
    refine wpQuiet_nil ?_
    intro _ hw'
    obtain ⟨⟨W2, hb2⟩, rfl⟩ := hw'
    go_wp2_with fail
    go_ret
    exact ⟨rfl, hBW.trans (hb2.mono hBW.size)⟩

theorem edgeMakes_walk (v0 v1 : Value) (w : World) (s0 : Fr.ok1 w (.int .i64) v0) (s1 : Fr.ok1 w (.int .u64) v1) :
    Calls Try.prog 4 #[v0, v1] w fun e w' => e = .returned (.bool true) ∧ Below w.heap.size w w' := by
  obtain ⟨s, rfl, ws⟩ := Fr.get_int s0
  obtain ⟨g, rfl, wg⟩ := Fr.get_int s1
  obtain ⟨a1, a2⟩ := wf64 ws
  obtain ⟨g1, g2⟩ := wfu64 wg
  clear s0 s1 ws wg
  rcases (by omega : (0 < s ∧ s < 4096) ∨ s ≤ 0 ∨ (0 < s ∧ 4096 ≤ s)) with ⟨h, h'⟩ | h | ⟨h, h'⟩
  all_goals
    first
      | have hm : makeI s g = putI s (g % 1125899906842624) false false := by unfold putI makeI slotI; rw [if_pos (by omega)]; simp
      | have hm : makeI s g = putI 0 (g % 1125899906842624) false false := by unfold putI makeI slotI; split <;> simp <;> omega
    go_enter Try.func4, Try.ntmps4
    go_wp2_with fail
    generalize hW : World.alloc _ _ = W at *
    have hBW : Below w.heap.size w W := by rw [← hW]; exact (Below.refl _ _).alloc (Nat.le_refl _) _
    have x0 := Ext.made hW 0 _ rfl; have x1 := Ext.made hW 1 _ rfl; have x2 := Ext.made hW 2 _ rfl; have x3 := Ext.made hW 3 _ rfl
    clear hW
    refine wp_region_ext W (by kernel_rfl) (by kernel_rfl) ?_
    repeat (go_big_quiet_step (first | (go_at_call 16; refine Ext.same (emake_calls _ _ _ ?_) <;> omega) | (go_at_call 8; refine Ext.same (eslot_calls _ _ ?_ ?_) <;> omega) | (go_at_call 9; refine Ext.same (egen_calls _ _ ?_ ?_) <;> omega) | (go_at_call 10; refine Ext.same (eflag_calls _ _ ?_ ?_) <;> omega) | (go_at_call 11; refine Ext.same (etag_calls _ _ ?_ ?_) <;> omega) | (go_at_call 12; refine Ext.same (eplain_calls _ _ ?_ ?_) <;> omega) | (go_at_call 13; refine Ext.same (enode_calls _ _ ?_ ?_) <;> omega) | (go_at_call 17; refine Ext.same (eflagged_calls _ _ ?_ ?_) <;> omega) | (go_at_call 18; refine Ext.same (etagged_calls _ _ ?_ ?_) <;> omega) | (go_at_call 19; refine Ext.same (ekeep_calls _ _ ?_ ?_) <;> omega) | (go_at_call 20; refine Ext.same (eto_calls _ _ _ ?_ ?_ ?_ ?_) <;> omega) | (go_at_call 14; refine Ext.call (put3_calls _ _ _ _ _ ?_ ?_ ?_ ?_) <;> omega) | (go_at_call 7; refine Ext.call (read3_calls _ _ ?_ ?_) <;> omega) | (go_at_call 15; refine Ext.same (lives3_calls _) <;> omega)))
    refine wpQuiet_nil ?_
    intro _ hw'
    obtain ⟨⟨W2, hb2⟩, rfl⟩ := hw'
    go_wp2_with fail
    go_ret
    exact ⟨rfl, hBW.trans (hb2.mono hBW.size)⟩

/-- What the marks are of an edge that was marked. -/
theorem flaggedI_flag (e : Int) : flagB (flaggedI e) = true := by unfold flaggedI; split <;> exact flagB_mk (by omega)
theorem flaggedI_tag {e : Int} (_h : 0 ≤ e) : tagB (flaggedI e) = tagB e := by
  unfold flaggedI; split
  · rw [tagB_mk (by omega), tagB_mk (by omega)]
  · rw [tagB_not (by omega), tagB_not (by omega)]
theorem flaggedI_node (e : Int) : flaggedI e % 4611686018427387904 = e % 4611686018427387904 := by unfold flaggedI; split <;> omega
theorem taggedI_flag {e : Int} (_h : 0 ≤ e) : flagB (taggedI e) = flagB e := by
  unfold taggedI
  rcases (by omega : e / 4611686018427387904 % 2 = 1 ∨ e / 4611686018427387904 % 2 = 0) with k | k
  · rw [flagB_mk (by omega), flagB_mk k]
  · rw [flagB_not (by omega), flagB_not k]
theorem taggedI_tag (e : Int) : tagB (taggedI e) = true := by unfold taggedI; exact tagB_mk (by omega)
theorem taggedI_node (e : Int) : taggedI e % 4611686018427387904 = e % 4611686018427387904 := by unfold taggedI; omega
theorem keep_flag {e : Int} : flagB (e % 9223372036854775808) = flagB e := by
  rcases (by omega : e / 4611686018427387904 % 2 = 1 ∨ e / 4611686018427387904 % 2 = 0) with k | k
  · rw [flagB_mk (by omega), flagB_mk k]
  · rw [flagB_not (by omega), flagB_not k]
theorem keep_tag (e : Int) : tagB (e % 9223372036854775808) = false := tagB_not (by omega)
theorem keep_node (e : Int) : e % 9223372036854775808 % 4611686018427387904 = e % 4611686018427387904 := by omega
/-- An edge is made again of its parts. -/
theorem again_eq {e : Int} (h : 0 ≤ e) (h2 : e < 18446744073709551616) (f t : Bool) (hf : flagB e = f) (ht : tagB e = t) : e = (let x := e % 4611686018427387904; let y := if f then flaggedI x else x; if t then taggedI y else y) := by
  have q := Int.emod_nonneg e (show (4611686018427387904 : Int) ≠ 0 by omega)
  cases f <;> cases t
  · have := flagB_false hf; have := tagB_false ht; simp; omega
  · have := flagB_false hf; have := tagB_true ht; simp [taggedI]; omega
  · have := flagB_true hf; have := tagB_false ht; simp only [if_true, flaggedI, Bool.false_eq_true, if_false]; split <;> omega
  · have := flagB_true hf; have := tagB_true ht; simp only [if_true, flaggedI, taggedI]; split <;> omega

set_option maxHeartbeats 2000000 in
theorem edgeKeeps_walk (v0 : Value) (w : World) (s0 : Fr.ok1 w (.int .u64) v0) :
    Calls Try.prog 6 #[v0] w fun e w' => e = .returned (.bool true) ∧ Below w.heap.size w w' := by
  obtain ⟨e, rfl, we⟩ := Fr.get_int s0
  obtain ⟨e1, e2⟩ := wfu64 we
  clear s0 we
  have hm : makeI (e % 4096) (e / 4096 % 1125899906842624) = e % 4611686018427387904 := node_eq e1
  have f1 := flaggedI_bd e1; have t1 := taggedI_bd e1; have f2 := flaggedI_bd (e := e % 4611686018427387904) (by omega)
  have g1 := taggedI_bd (e := e % 4611686018427387904) (by omega); have g2 := taggedI_bd (e := flaggedI (e % 4611686018427387904)) f2.1
  have a1 := flaggedI_flag e; have a2 := flaggedI_tag e1; have a3 := flaggedI_node e
  have b1 := taggedI_flag e1; have b2 := taggedI_tag e; have b3 := taggedI_node e
  have k1 := keep_flag (e := e); have k2 := keep_tag e; have k3 := keep_node e
  have n1 : flagB (e % 4611686018427387904) = false := flagB_not (by omega)
  have n2 : tagB (e % 4611686018427387904) = false := tagB_not (by omega)
  have ho : bits .or .u64 e 9223372036854775808 = taggedI e := or_top e1 e2
  cases hf : flagB e <;> cases ht : tagB e
  all_goals
    have ha := again_eq e1 e2 _ _ hf ht
    simp only [if_true, Bool.false_eq_true, if_false] at ha
    have HA := Lib.hid ha.symm; clear ha
    rw [hf] at b1 k1; rw [ht] at a2
    go_enter Try.func6, Try.ntmps6
    go_wp2_with (first | (go_at_call 16; refine (emake_calls _ _ _ ?_).mono ?_; omega; rintro _ _ ⟨rfl, rfl⟩) | (go_at_call 8; refine (eslot_calls _ _ ?_ ?_).mono ?_; omega; omega; rintro _ _ ⟨rfl, rfl⟩) | (go_at_call 9; refine (egen_calls _ _ ?_ ?_).mono ?_; omega; omega; rintro _ _ ⟨rfl, rfl⟩) | (go_at_call 10; refine (eflag_calls _ _ ?_ ?_).mono ?_; omega; omega; rintro _ _ ⟨rfl, rfl⟩) | (go_at_call 11; refine (etag_calls _ _ ?_ ?_).mono ?_; omega; omega; rintro _ _ ⟨rfl, rfl⟩) | (go_at_call 12; refine (eplain_calls _ _ ?_ ?_).mono ?_; omega; omega; rintro _ _ ⟨rfl, rfl⟩) | (go_at_call 13; refine (enode_calls _ _ ?_ ?_).mono ?_; omega; omega; rintro _ _ ⟨rfl, rfl⟩) | (go_at_call 17; refine (eflagged_calls _ _ ?_ ?_).mono ?_; omega; omega; rintro _ _ ⟨rfl, rfl⟩) | (go_at_call 18; refine (etagged_calls _ _ ?_ ?_).mono ?_; omega; omega; rintro _ _ ⟨rfl, rfl⟩) | (go_at_call 19; refine (ekeep_calls _ _ ?_ ?_).mono ?_; omega; omega; rintro _ _ ⟨rfl, rfl⟩) | (go_at_call 20; refine (eto_calls _ _ _ ?_ ?_ ?_ ?_).mono ?_; omega; omega; omega; omega; rintro _ _ ⟨rfl, rfl⟩) | (go_at_call 14; refine (put3_calls _ _ _ _ _ ?_ ?_ ?_ ?_).mono ?_; omega; omega; omega; omega; rintro _ _ ⟨rfl, _⟩) | (go_at_call 7; refine (read3_calls _ _ ?_ ?_).mono ?_; omega; omega; rintro _ _ ⟨rfl, _⟩) | (go_at_call 15; refine (lives3_calls _).mono ?_; rintro _ _ ⟨rfl, rfl⟩))
    go_ret
    exact ⟨by simp, Below.refl _ _⟩
end Go.Proofs.Ytphkmnjpaiecoaa
