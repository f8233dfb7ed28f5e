/- Layer 5's reference: all words, one behind the other; where a word is. -/
import Derived.Test.YtilcihmoghhndaaDoorPlanA
import Derived.Deep.Cut
namespace Go.Proofs.YtilcihmoghhndaaDoor
open Go.RowKit
set_option linter.unusedVariables false
set_option linter.unusedSimpArgs false

theorem uW : Tryd.prog.underlying 37 = some (.slice 49) := by kernel_rfl
theorem infoW : (Tryd.prog.info? 49).map (fun i => (i.zero, i.size, i.bytes)) = some (some (.agg #[.int .i64 0, .int .i64 0, .int .i64 0]), 3, 24) := by kernel_rfl

/-- The words' cells, up to a number. -/
def wcells (T : Int) (n : Nat) : List Value := (List.range n).flatMap fun (a : Nat) => [.int .i64 (wk T (a : Int)), .int .i64 (wi T (a : Int)), .int .i64 (wj T (a : Int))]
theorem wcells_succ (T : Int) (n : Nat) : wcells T (n + 1) = wcells T n ++ [.int .i64 (wk T n), .int .i64 (wi T n), .int .i64 (wj T n)] := by
  simp [wcells, List.range_succ]
theorem wcells_len (T : Int) (n : Nat) : (wcells T n).length = n * 3 := by
  induction n with
  | zero => simp [wcells]
  | succ n ih => rw [wcells_succ, List.length_append, ih]; simp; omega

/-- What is laid anew for one append. -/
theorem news_at {w W : World} {arr : Array Value} {T : TypeId} (hW : w.alloc (.cells arr T) = W) (j : Nat) (u : Value) (h : arr.toList[j]? = some u) : W.cell? ((⟨w.heap.size, 0, none⟩ : Addr).add j) = some u := by
  subst hW
  have := cell_of_row (w.alloc (.cells arr T)) w.heap.size j arr T (0, 0) (heap_alloc_new w _)
  have e : (⟨w.heap.size, 0, none⟩ : Addr).add j = ⟨w.heap.size, j, none⟩ := by
    simp [Addr.add]; rintro rfl; rfl
  rw [e, this]; simpa using h
theorem one_int {l : List Value} (h : l.all (fun v => match v with | .int _ _ => true | _ => false) = true) : ∀ u ∈ l, u.oneCell' = true := by
  intro u hu
  have := List.all_eq_true.1 h u hu
  cases u <;> first | rfl | simp at this

theorem wk_at (T : Int) (t n : Nat) (h : (t : Int) < T) (k : Nat) (hn : n = 3 + 8 * t + k) (hk : k < 8) :
    wk T n = (if k = 0 then 1 else if k = 1 then 2 else if k < 5 then 3 else 4) ∧ wi T n = t ∧ wj T n = (if k = 0 then 0 else if k = 1 then 0 else if k < 5 then (k : Int) - 2 else (k : Int) - 5) := by
  subst hn
  have e1 : ¬ ((3 + 8 * t + k : Nat) : Int) < 3 := by omega
  have e2 : ¬ 3 + T * 8 ≤ ((3 + 8 * t + k : Nat) : Int) := by omega
  have e3 : (((3 + 8 * t + k : Nat) : Int) - 3) % 8 = k := by omega
  have e4 : (((3 + 8 * t + k : Nat) : Int) - 3) / 8 = t := by omega
  unfold wk wi wj
  simp only [if_neg e1, if_neg e2, e3, e4]
  refine ⟨?_, trivial, ?_⟩
  · rcases (by omega : k = 0 ∨ k = 1 ∨ (2 ≤ k ∧ k < 5) ∨ (5 ≤ k)) with rfl | rfl | ⟨h1, h2⟩ | h1
    · rfl
    · rfl
    · rw [if_neg (by omega), if_neg (by omega), if_pos (by omega), if_neg (by omega), if_neg (by omega), if_pos h2]
    · rw [if_neg (by omega), if_neg (by omega), if_neg (by omega), if_neg (by omega), if_neg (by omega), if_neg (by omega)]
  · rcases (by omega : k = 0 ∨ k = 1 ∨ (2 ≤ k ∧ k < 5) ∨ (5 ≤ k)) with rfl | rfl | ⟨h1, h2⟩ | h1
    · rfl
    · rfl
    · rw [if_neg (by omega), if_neg (by omega), if_pos (by omega), if_neg (by omega), if_neg (by omega), if_pos h2]
    · rw [if_neg (by omega), if_neg (by omega), if_neg (by omega), if_neg (by omega), if_neg (by omega), if_neg (by omega)]
theorem wn_at (t s f : Nat) (n : Nat) (hn : n = 3 + 8 * t + 7 * s + f) (hf : f < 7) : wk (t : Int) n = 5 ∧ wi (t : Int) n = (s : Int) + 1 ∧ wj (t : Int) n = f := by
  subst hn
  have e1 : ¬ ((3 + 8 * t + 7 * s + f : Nat) : Int) < 3 := by omega
  have e2 : 3 + (t : Int) * 8 ≤ ((3 + 8 * t + 7 * s + f : Nat) : Int) := by omega
  unfold wk wi wj
  simp only [if_neg e1, if_pos e2]
  exact ⟨trivial, by omega, by omega⟩

theorem own_ge {w : World} {B : Nat} {e : TypeId} {size : Nat} {v : Value} {n : Nat} {xs : List Value} (h : w.ownsRow B e size v n xs) : ∀ k, v.ownBlock = some k → B ≤ k := by
  intro k hk
  rcases h.2 with ⟨rfl, _⟩ | ⟨g, cap, cur, rfl, hg, _⟩
  · cases hk
  · simp only [Value.ownBlock, Option.some.injEq] at hk; omega
/-- What stands below the row, behind one append more. -/
theorem grow_step {W w0 w1 : World} {B : Nat} {e : TypeId} {size : Nat} {v : Value} {n : Nat} {xs : List Value} {o : Obj} (hown : w0.ownsRow B e size v n xs) (hbel : Below B W w0) (hB : B ≤ W.heap.size)
    (hg : (w0.alloc o).grownBy w1 v.ownBlock) : Below B W w1 :=
  (hbel.alloc (by have := hbel.size; omega) o).grown hg (by have := hbel.size; simp; omega) (own_ge hown)
theorem own_to {w : World} {B : Nat} {e : TypeId} {v : Value} {T : Int} {n m : Nat} (h : w.ownsRow B e 3 v n (wcells T n)) (he : n = m) : w.ownsRow B e 3 v m (wcells T m) := by subst he; exact h
theorem wcells2 (t k : Nat) (h : k < t) : wcells t (3 + 8 * k) ++ [.int .i64 1, .int .i64 k, .int .i64 0, .int .i64 2, .int .i64 k, .int .i64 0] = wcells t (3 + 8 * k + 2) := by
  obtain ⟨a1, a2, a3⟩ := wk_at t k (3 + 8 * k) (by omega) 0 rfl (by omega)
  obtain ⟨b1, b2, b3⟩ := wk_at t k (3 + 8 * k + 1) (by omega) 1 rfl (by omega)
  rw [wcells_succ, wcells_succ, a1, a2, a3, b1, b2, b3]; simp
theorem wcells3 (t k j : Nat) (h : k < t) (hj : j < 3) : wcells t (3 + 8 * k + 2 + j) ++ [.int .i64 3, .int .i64 k, .int .i64 j] = wcells t (3 + 8 * k + 2 + (j + 1)) := by
  obtain ⟨a1, a2, a3⟩ := wk_at t k (3 + 8 * k + 2 + j) (by omega) (2 + j) (by omega) (by omega)
  rw [show 3 + 8 * k + 2 + (j + 1) = (3 + 8 * k + 2 + j) + 1 by omega, wcells_succ, a1, a2, a3]
  rw [if_neg (by omega), if_neg (by omega), if_pos (by omega), if_neg (by omega), if_neg (by omega), if_pos (by omega)]
  congr 4; simp; omega
theorem wcells4 (t k j : Nat) (h : k < t) (hj : j < 3) : wcells t (3 + 8 * k + 5 + j) ++ [.int .i64 4, .int .i64 k, .int .i64 j] = wcells t (3 + 8 * k + 5 + (j + 1)) := by
  obtain ⟨a1, a2, a3⟩ := wk_at t k (3 + 8 * k + 5 + j) (by omega) (5 + j) (by omega) (by omega)
  rw [show 3 + 8 * k + 5 + (j + 1) = (3 + 8 * k + 5 + j) + 1 by omega, wcells_succ, a1, a2, a3]
  rw [if_neg (by omega), if_neg (by omega), if_neg (by omega), if_neg (by omega), if_neg (by omega), if_neg (by omega)]
  congr 4; simp; omega
theorem wcells5 (t k j : Nat) (hj : j < 7) : wcells t (3 + 8 * t + 7 * k + j) ++ [.int .i64 5, .int .i64 ((k : Int) + 1), .int .i64 j] = wcells t (3 + 8 * t + 7 * k + (j + 1)) := by
  obtain ⟨a1, a2, a3⟩ := wn_at t k j (3 + 8 * t + 7 * k + j) rfl hj
  rw [show 3 + 8 * t + 7 * k + (j + 1) = (3 + 8 * t + 7 * k + j) + 1 by omega, wcells_succ, a1, a2, a3]

set_option maxRecDepth 8000 in
set_option maxHeartbeats 2000000 in
theorem rwords_calls (t s : Nat) (K : Int) (w : World) (t1 : 1 ≤ t) (t2 : t ≤ 6) (s1 : 7 ≤ s) (s2 : s ≤ 250) :
    Calls Tryd.prog 11 #[.agg #[.int .i64 t, .int .i64 s, .int .u64 K]] w fun e w' =>
      ∃ v, e = .returned v ∧ w'.ownsRow (w.heap.size + 1) 49 3 v (3 + 8 * t + 7 * s) (wcells t (3 + 8 * t + 7 * s)) ∧ Below w.heap.size w w' := by
  obtain ⟨i0, hi, hz0, hz1, hz2⟩ := info_parts infoW
  go_enter Tryd.func11, Tryd.ntmps11
  go_wp2_with fail
  generalize hW : World.alloc w _ = W
  have hBW : Below w.heap.size w W := by rw [← hW]; (repeat (first | exact Below.refl _ _ | assumption | refine below_new ?_ _ | refine Below.drew ?_ | refine below_drewN ?_ _ | refine below_on ?_ (by assumption)))
  have hs : W.heap.size = w.heap.size + 1 := by rw [← hW]; simp
  have z0 : W.cell? ⟨w.heap.size, 0, none⟩ = some (.int .i64 t) := Ext.made_in hW (Below.refl _ _) 0 _ rfl
  have z1 : W.cell? ⟨w.heap.size, 1, none⟩ = some (.int .i64 s) := Ext.made_in hW (Below.refl _ _) 1 _ rfl
  clear hW
  have hst : (W.alloc (.cells #[.int .i64 0, .int .i64 0, .int .i64 0, .int .i64 0, .int .i64 1, .int .i64 0, .int .i64 0, .int .i64 2, .int .i64 0] 49)).ownsRow (w.heap.size + 1) 49 3 (.slice (some ⟨w.heap.size + 1, 0, none⟩) 3 3) 3 (wcells t 3) := by
    refine ⟨wcells_len _ _, .inr ⟨w.heap.size + 1, 3, _, rfl, Nat.le_refl _, (by rw [← hs]; exact heap_alloc_new _ _), Nat.le_refl _, by decide, rfl, ?_⟩⟩
    have e0 := wk; simp [wcells, List.range_succ, wk, wi, wj]
  rw [← hs] at hst ⊢
  have hBW' : w.heap.size ≤ W.heap.size := by omega
  generalize hB : W.heap.size = B at *
  have Hs := Lib.hid hs
  clear hs
  go_loopw [3, 4] (fun l tv wr => ∃ k : Nat, k ≤ t ∧ tv = .int .i64 k ∧ wr.ownsRow B 49 3 l (3 + 8 * k) (wcells t (3 + 8 * k)) ∧ Below B W wr)
    (fun _ tv _ => t - (intOf tv).toNat)
  case atStart => exact ⟨0, Nat.zero_le _, rfl, hst, by rw [← hB]; (repeat (first | exact Below.refl _ _ | assumption | refine below_new ?_ _ | refine Below.drew ?_ | refine below_drewN ?_ _ | refine below_on ?_ (by assumption)))⟩
  case round =>
    obtain ⟨k, hk, rfl, hown, hbel⟩ := hrel
    have y0 : wr.cell? ⟨w.heap.size, 0, none⟩ = some (.int .i64 t) := (hbel.cell (p := ⟨w.heap.size, 0, none⟩) (by have := Hs.out; simp; omega)).trans z0
    have hsz := hbel.size; rw [hB] at hsz
    rcases (by omega : k < t ∨ k = t) with hlt | heq
    · go_wp2_with ((at_builtin; refine wpList_append_own _ rfl (.tmp 19) (.tmp 24) 37 rfl B 49 i0 _ 3 24 uW hi hz0 hz1 hz2 rfl (by decide) _ _ _ rfl (hown.alloc _) ⟨wr.heap.size, 0, none⟩ 2 2 [.int .i64 1, .int .i64 k, .int .i64 0, .int .i64 2, .int .i64 k, .int .i64 0] rfl rfl (news_at rfl) (one_int rfl) (by unfold maxLen; omega) (by omega) (by simp; omega) ?_))
      intro v1 w1 hown1 hgrow1 _
      rw [wcells2 t k hlt] at hown1
      have hbel1 := grow_step hown hbel (by omega) hgrow1
      clear hown hbel hgrow1 y0 hsz
      go_wp2_with fail
      go_loopw [3, 5] (fun l jv wr => ∃ j : Nat, j ≤ 3 ∧ jv = .int .i64 j ∧ wr.ownsRow B 49 3 l (3 + 8 * k + 2 + j) (wcells t (3 + 8 * k + 2 + j)) ∧ Below B W wr)
        (fun _ jv _ => 3 - (intOf jv).toNat)
      case atStart => exact ⟨0, Nat.zero_le _, rfl, hown1, hbel1⟩
      case round =>
        clear hown1 hbel1
        obtain ⟨j, hj, rfl, hown, hbel⟩ := hrel
        have hsz := hbel.size; rw [hB] at hsz
        rcases (by omega : j < 3 ∨ 3 ≤ j) with hjl | hje
        · go_wp2_with ((at_builtin; refine wpList_append_own _ rfl (.tmp 30) (.tmp 34) 37 rfl B 49 i0 _ 3 24 uW hi hz0 hz1 hz2 rfl (by decide) _ _ _ rfl (hown.alloc _) ⟨wr.heap.size, 0, none⟩ 1 1 [.int .i64 3, .int .i64 k, .int .i64 j] rfl rfl (news_at rfl) (one_int rfl) (by unfold maxLen; omega) (by omega) (by simp; omega) ?_))
          intro v1 w1 hown1 hgrow1 _
          rw [wcells3 t k j hlt hjl] at hown1
          have hbel1 := grow_step hown hbel (by omega) hgrow1
          clear hown hbel hgrow1 hsz
          go_wp2_with fail
          go_roundw
          case rel => exact ⟨j + 1, by omega, by go_num, hown1, hbel1⟩
          case measure => simp [intOf]; omega
        · have hown := own_to hown (show _ = (3 + 8 * k + 5 + 0) by omega)
          go_wp2_with fail
          go_loopw [3, 6] (fun l jv wr => ∃ j : Nat, j ≤ 3 ∧ jv = .int .i64 j ∧ wr.ownsRow B 49 3 l (3 + 8 * k + 5 + j) (wcells t (3 + 8 * k + 5 + j)) ∧ Below B W wr)
            (fun _ jv _ => 3 - (intOf jv).toNat)
          case atStart => exact ⟨0, Nat.zero_le _, rfl, hown, hbel⟩
          case round =>
            clear hown hbel hsz
            obtain ⟨j, hj, rfl, hown, hbel⟩ := hrel
            have hsz := hbel.size; rw [hB] at hsz
            rcases (by omega : j < 3 ∨ 3 ≤ j) with hjl | hje
            · go_wp2_with ((at_builtin; refine wpList_append_own _ rfl (.tmp 40) (.tmp 44) 37 rfl B 49 i0 _ 3 24 uW hi hz0 hz1 hz2 rfl (by decide) _ _ _ rfl (hown.alloc _) ⟨wr.heap.size, 0, none⟩ 1 1 [.int .i64 4, .int .i64 k, .int .i64 j] rfl rfl (news_at rfl) (one_int rfl) (by unfold maxLen; omega) (by omega) (by simp; omega) ?_))
              intro v1 w1 hown1 hgrow1 _
              rw [wcells4 t k j hlt hjl] at hown1
              have hbel1 := grow_step hown hbel (by omega) hgrow1
              clear hown hbel hgrow1 hsz
              go_wp2_with fail
              go_roundw
              case rel => exact ⟨j + 1, by omega, by go_num, hown1, hbel1⟩
              case measure => simp [intOf]; omega
            · have hown := own_to hown (show _ = (3 + 8 * (k + 1)) by omega)
              go_wp2_with fail
              go_roundw
              case rel => exact ⟨k + 1, by omega, by go_num, hown, hbel⟩
              case measure => simp [intOf]; omega
    · subst heq
      clear z0 hst
      go_wp2_with fail
      go_loopw [3, 7] (fun l tv wr => ∃ m : Nat, m ≤ s ∧ tv = .int .i64 ((m : Int) + 1) ∧ wr.ownsRow B 49 3 l (3 + 8 * k + 7 * m) (wcells k (3 + 8 * k + 7 * m)) ∧ Below B W wr)
        (fun _ tv _ => s + 1 - (intOf tv).toNat)
      case atStart => exact ⟨0, Nat.zero_le _, rfl, hown, hbel⟩
      case round =>
        clear hown hbel hsz y0
        obtain ⟨m, hm, rfl, hown, hbel⟩ := hrel
        have y1 : wr.cell? ⟨w.heap.size, 1, none⟩ = some (.int .i64 s) := (hbel.cell (p := ⟨w.heap.size, 1, none⟩) (by have := Hs.out; simp; omega)).trans z1
        rcases (by omega : m < s ∨ m = s) with hml | hme
        · have hml' : (m : Int) + 1 ≤ s := by omega
          go_wp2_with fail
          go_loopw [3, 8] (fun l jv wr => ∃ j : Nat, j ≤ 7 ∧ jv = .int .i64 j ∧ wr.ownsRow B 49 3 l (3 + 8 * k + 7 * m + j) (wcells k (3 + 8 * k + 7 * m + j)) ∧ Below B W wr)
            (fun _ jv _ => 7 - (intOf jv).toNat)
          case atStart => exact ⟨0, Nat.zero_le _, rfl, hown, hbel⟩
          case round =>
            clear hown hbel y1
            obtain ⟨j, hj, rfl, hown, hbel⟩ := hrel
            have hsz := hbel.size; rw [hB] at hsz
            rcases (by omega : j < 7 ∨ 7 ≤ j) with hjl | hje
            · go_wp2_with ((at_builtin; refine wpList_append_own _ rfl (.tmp 56) (.tmp 60) 37 rfl B 49 i0 _ 3 24 uW hi hz0 hz1 hz2 rfl (by decide) _ _ _ rfl (hown.alloc _) ⟨wr.heap.size, 0, none⟩ 1 1 [.int .i64 5, .int .i64 ((m : Int) + 1), .int .i64 j] rfl rfl (news_at rfl) (one_int rfl) (by unfold maxLen; omega) (by omega) (by simp; omega) ?_))
              intro v1 w1 hown1 hgrow1 _
              rw [wcells5 k m j hjl] at hown1
              have hbel1 := grow_step hown hbel (by omega) hgrow1
              clear hown hbel hgrow1 hsz
              go_wp2_with fail
              go_roundw
              case rel => exact ⟨j + 1, by omega, by go_num, hown1, hbel1⟩
              case measure => simp [intOf]; omega
            · have hown := own_to hown (show _ = (3 + 8 * k + 7 * (m + 1)) by omega)
              go_wp2_with fail
              go_roundw
              case rel => exact ⟨m + 1, by omega, by go_num, hown, hbel⟩
              case measure => simp [intOf]; omega
        · subst hme
          go_wp2_with fail
          go_ret
          have := Hs.out
          rw [this] at hown
          exact ⟨_, rfl, hown, hBW.trans (hbel.mono (by omega))⟩
end Go.Proofs.YtilcihmoghhndaaDoor
