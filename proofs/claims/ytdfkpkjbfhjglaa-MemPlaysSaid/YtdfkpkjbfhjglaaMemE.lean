/- Layer 6: same; the reference's. -/
import Derived.Test.YtdfkpkjbfhjglaaMemD
namespace Go.Proofs.Ytdfkpkjbfhjglaa
open Go.RowKit
set_option linter.unusedVariables false
set_option linter.unusedSimpArgs false

set_option maxHeartbeats 1000000 in
theorem msame (g1 o1 C1 g2 o2 C2 n : Nat) (f : Nat → Int) (w : World) (n2 : n ≤ 4096) (k1 : n ≤ C1) (k2 : n ≤ C2) (m1 : C1 ≤ 9223372036854775807) (m2 : C2 ≤ 9223372036854775807)
    (h1 : ∀ i, i < n → w.cell? ⟨g1, o1 + i, none⟩ = some (.int .u64 (f i))) (h2 : ∀ i, i < n → w.cell? ⟨g2, o2 + i, none⟩ = some (.int .u64 (f i))) :
    Calls Try.prog 12 #[.slice (some ⟨g1, o1, none⟩) n C1, .slice (some ⟨g2, o2, none⟩) n C2] w fun e w' => e = .returned (.bool true) ∧ Below w.heap.size w w' := by
  have H1 := Lib.hid h1; have H2 := Lib.hid h2
  clear h1 h2
  refine Calls.veil fun Q HQ => ?_
  go_enter Try.func12, Try.ntmps12
  go_wp2_with fail
  go_loopw [5] (fun iv wr => ∃ k : Nat, k ≤ n ∧ iv = .int .i64 k ∧ Below w.heap.size w wr) (fun iv _ => n - (intOf iv).toNat)
  case atStart => exact ⟨0, Nat.zero_le _, rfl, Below.refl _ _⟩
  case round =>
    obtain ⟨k, hk, rfl, hbel⟩ := hrel
    rcases (by omega : k < n ∨ n ≤ k) with hlt | hge
    · have y0 : ∀ x : Ext wr, x.w.cell? ⟨g1, o1 + k, none⟩ = some (.int .u64 (f k)) := Ext.cells (Ext.use (Ext.cells (H1.out k hlt)) hbel)
      have y1 : ∀ x : Ext wr, x.w.cell? ⟨g2, o2 + k, none⟩ = some (.int .u64 (f k)) := Ext.cells (Ext.use (Ext.cells (H2.out k hlt)) hbel)
      obtain ⟨x, hx⟩ : ∃ x : Ext wr, x.w = wr := ⟨⟨wr, Below.refl _ _⟩, rfl⟩; rw [← hx]; clear hx
      go_wp2_with (first | (with_reducible refine ext_region _ ?_ ?_ ?_; kernel_rfl; kernel_rfl; (repeat (go_big_quiet_step (fail))); refine wpQuiet_nil ?_; rintro _ ⟨_, rfl⟩))
      go_roundw
      case rel => exact ⟨k + 1, by omega, by go_num, Ext.below hbel _⟩
      case measure => simp [intOf]; omega
    · go_wp2_with fail
      (try go_ret)
      rw [HQ.out]
      exact ⟨rfl, hbel⟩

theorem rnew_no (a : Int) (w : World) (h : a < 1 ∨ 4096 < a) : Calls Try.prog 9 #[.int .i64 a] w fun e w' => e = .returned (.agg #[.slice none 0 0, .int .i64 0, .bool false]) ∧ Below w.heap.size w w' := by
  rcases (by omega : a < 1 ∨ (1 ≤ a ∧ 4096 < a)) with h | ⟨h, h'⟩
  all_goals
    go_enter Try.func9, Try.ntmps9
    go_wp2
    exact bodyPost_ret (v := .agg #[.slice none 0 0, .int .i64 0, .bool false]) (by simp [results, Try.results9, go_sem]) rfl ⟨rfl, by (repeat (first | exact Below.refl _ _ | assumption | refine below_new ?_ _ | refine Below.drew ?_ | refine below_drewN ?_ _ | refine below_on ?_ (by assumption)))⟩
theorem rnew (n : Nat) (w : World) (n1 : 1 ≤ n) (n2 : n ≤ 4096) : Calls Try.prog 9 #[.int .i64 n] w fun e w' => ∃ g, e = .returned (.agg #[.slice (some ⟨g, 0, none⟩) n n, .int .i64 0, .bool false]) ∧ RowAt w' g n (fun _ => 0) ∧ w.heap.size ≤ g ∧ Below w.heap.size w w' := by
  obtain ⟨i0, hi, hz0, hz1, hz2⟩ := info_parts info64
  have m1 : ¬ (n : Int) < 1 := by omega
  have m2 : ¬ (4096 : Int) < n := by omega
  go_enter Try.func9, Try.ntmps9
  go_upto_region 1 with (fail)
  generalize hV : World.alloc w _ = V
  have hBV : Below w.heap.size w V := by rw [← hV]; (repeat (first | exact Below.refl _ _ | assumption | refine below_new ?_ _ | refine Below.drew ?_ | refine below_drewN ?_ _ | refine below_on ?_ (by assumption)))
  have hs : V.heap.size = w.heap.size + 1 := by rw [← hV]; simp
  have f0 := Ext.made_fr hV (Below.refl _ _)
  have c0 : V.cell? ⟨w.heap.size, 0, none⟩ = some (.slice none 0 0) := Ext.made_in hV (Below.refl _ _) 0 _ rfl
  have c1 : V.cell? ⟨w.heap.size, 1, none⟩ = some (.int .i64 0) := Ext.made_in hV (Below.refl _ _) 1 _ rfl
  have c2 : V.cell? ⟨w.heap.size, 2, none⟩ = some (.bool false) := Ext.made_in hV (Below.refl _ _) 2 _ rfl
  clear hV
  have HS := Lib.hid hs; clear hs
  go_wp2_with (refine wpList_make_full _ rfl (.tmp 10) (.tmp 10) 26 rfl V.heap.size 30 i0 _ 1 u64s hi hz0 hz1 .i64 .i64 _ _ n rfl rfl rfl rfl (by rw [hz2]; omega) (by unfold maxLen; omega) (Nat.le_refl _) ?_)
  intro w1 hown hgrow
  rw [made_words] at hown
  obtain ⟨g, C, e, e1, e2, e3, e4⟩ := own_words hown n1
  obtain ⟨eg, ec⟩ : V.heap.size = g ∧ n = C := by simpa using e
  have hb : Below V.heap.size V w1 := (Below.refl _ _).grown hgrow (Nat.le_refl _) (by intro k hk; cases hk)
  have c0 := Ext.use (Ext.cells c0) hb; have c1 := Ext.use (Ext.cells c1) hb; have c2 := Ext.use (Ext.cells c2) hb
  have f0 : ∀ i, w1.frozen? ⟨w.heap.size, i, none⟩ = false := fun i => (hb.frozen (p := ⟨w.heap.size, i, none⟩) (by have := HS.out; simp; omega)).trans (f0 i)
  have hB1 := below_on hBV hb
  have H := Lib.hid (And.intro eg ec)
  have H4 := Lib.hid e4
  clear eg ec e e1 e2 e3 e4 hown hgrow hb
  go_wp2_with fail
  refine bodyPost_ret (v := .agg #[.slice (some ⟨V.heap.size, 0, none⟩) n n, .int .i64 0, .bool false]) (by simp [results, Try.results9, go_sem, c0, c1, c2, World.cell?_setCell_same, World.cell?_setCell_other]) rfl ?_
  obtain ⟨eg, ec⟩ := H.out
  have hr := H4.out
  subst eg
  refine ⟨_, rfl, ?_, hBV.size, below_set (below_set (below_set hB1 (Nat.le_refl _) _) (Nat.le_refl _) _) (Nat.le_refl _) _⟩
  have hne : V.heap.size ≠ w.heap.size := by have := HS.out; omega
  refine hr.keep (by simp [World.setCell]) ?_
  rw [Below.heap_setCell _ _ _ _ hne, Below.heap_setCell _ _ _ _ hne, Below.heap_setCell _ _ _ _ hne]

end Go.Proofs.Ytdfkpkjbfhjglaa
