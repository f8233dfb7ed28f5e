/- GAC: several texts in one. -/
import Derived.Test.YtaaciolfgplnoaaPlanA
import Derived.Deep.Cut
import Derived.Test.YtaaciolfgplnoaaGAA
import Derived.Test.YtaaciolfgplnoaaRows
import Derived.ProofKit
import Derived.Outline
import Derived.Lib.Hide
import Derived.Laws.Bits64b
import Derived.Laws.AppendOwn
import Derived.OwnWalk
import Derived.Lib.LazyBuf
import Derived.WalkSpells
import Derived.Deep.RegionWith
/- Layer 5's reference: all words, one behind the other; where a word is. -/
namespace Go.Proofs.Ytaaciolfgplnoaa
open Go.RowKit
set_option linter.unusedVariables false
set_option linter.unusedSimpArgs false

theorem uW : Try.prog.underlying 122 = some (.slice 145) := by kernel_rfl
theorem infoW : (Try.prog.info? 145).map (fun i => (i.zero, i.size, i.bytes)) = some (some (.agg #[.int .i64 0, .int .i64 0, .int .i64 0]), 3, 24) := by kernel_rfl

/-- The words' cells, up to a number. -/
def wcells (T : Int) (n : Nat) : List Value := (List.range n).flatMap fun (a : Nat) => [.int .i64 (wk T (a : Int)), .int .i64 (wi T (a : Int)), .int .i64 (wj T (a : Int))]
theorem wcells_succ (T : Int) (n : Nat) : wcells T (n + 1) = wcells T n ++ [.int .i64 (wk T n), .int .i64 (wi T n), .int .i64 (wj T n)] := by
  simp [wcells, List.range_succ]
theorem wcells_len (T : Int) (n : Nat) : (wcells T n).length = n * 3 := by
  induction n with
  | zero => simp [wcells]
  | succ n ih => rw [wcells_succ, List.length_append, ih]; simp; omega

/-- What is laid anew for one append. -/
theorem news_at {w W : World} {arr : Array Value} {T : TypeId} (hW : w.alloc (.cells arr T) = W) (j : Nat) (u : Value) (h : arr.toList[j]? = some u) : W.cell? ((⟨w.heap.size, 0, none⟩ : Addr).add j) = some u := by
  subst hW
  have := cell_of_row (w.alloc (.cells arr T)) w.heap.size j arr T (0, 0) (heap_alloc_new w _)
  have e : (⟨w.heap.size, 0, none⟩ : Addr).add j = ⟨w.heap.size, j, none⟩ := by
    simp [Addr.add]; rintro rfl; rfl
  rw [e, this]; simpa using h
theorem one_int {l : List Value} (h : l.all (fun v => match v with | .int _ _ => true | _ => false) = true) : ∀ u ∈ l, u.oneCell' = true := by
  intro u hu
  have := List.all_eq_true.1 h u hu
  cases u <;> first | rfl | simp at this

theorem wk_at (T : Int) (t n : Nat) (h : (t : Int) < T) (k : Nat) (hn : n = 3 + 8 * t + k) (hk : k < 8) :
    wk T n = (if k = 0 then 1 else if k = 1 then 2 else if k < 5 then 3 else 4) ∧ wi T n = t ∧ wj T n = (if k = 0 then 0 else if k = 1 then 0 else if k < 5 then (k : Int) - 2 else (k : Int) - 5) := by
  subst hn
  have e1 : ¬ ((3 + 8 * t + k : Nat) : Int) < 3 := by omega
  have e2 : ¬ 3 + T * 8 ≤ ((3 + 8 * t + k : Nat) : Int) := by omega
  have e3 : (((3 + 8 * t + k : Nat) : Int) - 3) % 8 = k := by omega
  have e4 : (((3 + 8 * t + k : Nat) : Int) - 3) / 8 = t := by omega
  unfold wk wi wj
  simp only [if_neg e1, if_neg e2, e3, e4]
  refine ⟨?_, trivial, ?_⟩
  · rcases (by omega : k = 0 ∨ k = 1 ∨ (2 ≤ k ∧ k < 5) ∨ (5 ≤ k)) with rfl | rfl | ⟨h1, h2⟩ | h1
    · rfl
    · rfl
    · rw [if_neg (by omega), if_neg (by omega), if_pos (by omega), if_neg (by omega), if_neg (by omega), if_pos h2]
    · rw [if_neg (by omega), if_neg (by omega), if_neg (by omega), if_neg (by omega), if_neg (by omega), if_neg (by omega)]
  · rcases (by omega : k = 0 ∨ k = 1 ∨ (2 ≤ k ∧ k < 5) ∨ (5 ≤ k)) with rfl | rfl | ⟨h1, h2⟩ | h1
    · rfl
    · rfl
    · rw [if_neg (by omega), if_neg (by omega), if_pos (by omega), if_neg (by omega), if_neg (by omega), if_pos h2]
    · rw [if_neg (by omega), if_neg (by omega), if_neg (by omega), if_neg (by omega), if_neg (by omega), if_neg (by omega)]
theorem wn_at (t s f : Nat) (n : Nat) (hn : n = 3 + 8 * t + 7 * s + f) (hf : f < 7) : wk (t : Int) n = 5 ∧ wi (t : Int) n = (s : Int) + 1 ∧ wj (t : Int) n = f := by
  subst hn
  have e1 : ¬ ((3 + 8 * t + 7 * s + f : Nat) : Int) < 3 := by omega
  have e2 : 3 + (t : Int) * 8 ≤ ((3 + 8 * t + 7 * s + f : Nat) : Int) := by omega
  unfold wk wi wj
  simp only [if_neg e1, if_pos e2]
  exact ⟨trivial, by omega, by omega⟩

theorem own_ge {w : World} {B : Nat} {e : TypeId} {size : Nat} {v : Value} {n : Nat} {xs : List Value} (h : w.ownsRow B e size v n xs) : ∀ k, v.ownBlock = some k → B ≤ k := by
  intro k hk
  rcases h.2 with ⟨rfl, _⟩ | ⟨g, cap, cur, rfl, hg, _⟩
  · cases hk
  · simp only [Value.ownBlock, Option.some.injEq] at hk; omega
/-- What stands below the row, behind one append more. -/
theorem grow_step {W w0 w1 : World} {B : Nat} {e : TypeId} {size : Nat} {v : Value} {n : Nat} {xs : List Value} {o : Obj} (hown : w0.ownsRow B e size v n xs) (hbel : Below B W w0) (hB : B ≤ W.heap.size)
    (hg : (w0.alloc o).grownBy w1 v.ownBlock) : Below B W w1 :=
  (hbel.alloc (by have := hbel.size; omega) o).grown hg (by have := hbel.size; simp; omega) (own_ge hown)
theorem own_to {w : World} {B : Nat} {e : TypeId} {v : Value} {T : Int} {n m : Nat} (h : w.ownsRow B e 3 v n (wcells T n)) (he : n = m) : w.ownsRow B e 3 v m (wcells T m) := by subst he; exact h
theorem wcells2 (t k : Nat) (h : k < t) : wcells t (3 + 8 * k) ++ [.int .i64 1, .int .i64 k, .int .i64 0, .int .i64 2, .int .i64 k, .int .i64 0] = wcells t (3 + 8 * k + 2) := by
  obtain ⟨a1, a2, a3⟩ := wk_at t k (3 + 8 * k) (by omega) 0 rfl (by omega)
  obtain ⟨b1, b2, b3⟩ := wk_at t k (3 + 8 * k + 1) (by omega) 1 rfl (by omega)
  rw [wcells_succ, wcells_succ, a1, a2, a3, b1, b2, b3]; simp
theorem wcells3 (t k j : Nat) (h : k < t) (hj : j < 3) : wcells t (3 + 8 * k + 2 + j) ++ [.int .i64 3, .int .i64 k, .int .i64 j] = wcells t (3 + 8 * k + 2 + (j + 1)) := by
  obtain ⟨a1, a2, a3⟩ := wk_at t k (3 + 8 * k + 2 + j) (by omega) (2 + j) (by omega) (by omega)
  rw [show 3 + 8 * k + 2 + (j + 1) = (3 + 8 * k + 2 + j) + 1 by omega, wcells_succ, a1, a2, a3]
  rw [if_neg (by omega), if_neg (by omega), if_pos (by omega), if_neg (by omega), if_neg (by omega), if_pos (by omega)]
  congr 4; simp; omega
theorem wcells4 (t k j : Nat) (h : k < t) (hj : j < 3) : wcells t (3 + 8 * k + 5 + j) ++ [.int .i64 4, .int .i64 k, .int .i64 j] = wcells t (3 + 8 * k + 5 + (j + 1)) := by
  obtain ⟨a1, a2, a3⟩ := wk_at t k (3 + 8 * k + 5 + j) (by omega) (5 + j) (by omega) (by omega)
  rw [show 3 + 8 * k + 5 + (j + 1) = (3 + 8 * k + 5 + j) + 1 by omega, wcells_succ, a1, a2, a3]
  rw [if_neg (by omega), if_neg (by omega), if_neg (by omega), if_neg (by omega), if_neg (by omega), if_neg (by omega)]
  congr 4; simp; omega
theorem wcells5 (t k j : Nat) (hj : j < 7) : wcells t (3 + 8 * t + 7 * k + j) ++ [.int .i64 5, .int .i64 ((k : Int) + 1), .int .i64 j] = wcells t (3 + 8 * t + 7 * k + (j + 1)) := by
  obtain ⟨a1, a2, a3⟩ := wn_at t k j (3 + 8 * t + 7 * k + j) rfl hj
  rw [show 3 + 8 * t + 7 * k + (j + 1) = (3 + 8 * t + 7 * k + j) + 1 by omega, wcells_succ, a1, a2, a3]

set_option maxRecDepth 8000 in
set_option maxHeartbeats 2000000 in
theorem rwords_calls (t s : Nat) (K : Int) (w : World) (t1 : 1 ≤ t) (t2 : t ≤ 6) (s1 : 7 ≤ s) (s2 : s ≤ 250) :
    Calls Try.prog 71 #[.agg #[.int .i64 t, .int .i64 s, .int .u64 K]] w fun e w' =>
      ∃ v, e = .returned v ∧ w'.ownsRow (w.heap.size + 1) 145 3 v (3 + 8 * t + 7 * s) (wcells t (3 + 8 * t + 7 * s)) ∧ Below w.heap.size w w' := by
  obtain ⟨i0, hi, hz0, hz1, hz2⟩ := info_parts infoW
  go_enter Try.func71, Try.ntmps71
  go_wp2_with fail
  generalize hW : World.alloc w _ = W
  have hBW : Below w.heap.size w W := by rw [← hW]; (repeat (first | exact Below.refl _ _ | assumption | refine below_new ?_ _ | refine Below.drew ?_ | refine below_drewN ?_ _ | refine below_on ?_ (by assumption)))
  have hs : W.heap.size = w.heap.size + 1 := by rw [← hW]; simp
  have z0 : W.cell? ⟨w.heap.size, 0, none⟩ = some (.int .i64 t) := Ext.made_in hW (Below.refl _ _) 0 _ rfl
  have z1 : W.cell? ⟨w.heap.size, 1, none⟩ = some (.int .i64 s) := Ext.made_in hW (Below.refl _ _) 1 _ rfl
  clear hW
  have hst : (W.alloc (.cells #[.int .i64 0, .int .i64 0, .int .i64 0, .int .i64 0, .int .i64 1, .int .i64 0, .int .i64 0, .int .i64 2, .int .i64 0] 145)).ownsRow (w.heap.size + 1) 145 3 (.slice (some ⟨w.heap.size + 1, 0, none⟩) 3 3) 3 (wcells t 3) := by
    refine ⟨wcells_len _ _, .inr ⟨w.heap.size + 1, 3, _, rfl, Nat.le_refl _, (by rw [← hs]; exact heap_alloc_new _ _), Nat.le_refl _, by decide, rfl, ?_⟩⟩
    have e0 := wk; simp [wcells, List.range_succ, wk, wi, wj]
  rw [← hs] at hst ⊢
  have hBW' : w.heap.size ≤ W.heap.size := by omega
  generalize hB : W.heap.size = B at *
  have Hs := Lib.hid hs
  clear hs
  go_loopw [3, 4] (fun l tv wr => ∃ k : Nat, k ≤ t ∧ tv = .int .i64 k ∧ wr.ownsRow B 145 3 l (3 + 8 * k) (wcells t (3 + 8 * k)) ∧ Below B W wr)
    (fun _ tv _ => t - (intOf tv).toNat)
  case atStart => exact ⟨0, Nat.zero_le _, rfl, hst, by rw [← hB]; (repeat (first | exact Below.refl _ _ | assumption | refine below_new ?_ _ | refine Below.drew ?_ | refine below_drewN ?_ _ | refine below_on ?_ (by assumption)))⟩
  case round =>
    obtain ⟨k, hk, rfl, hown, hbel⟩ := hrel
    have y0 : wr.cell? ⟨w.heap.size, 0, none⟩ = some (.int .i64 t) := (hbel.cell (p := ⟨w.heap.size, 0, none⟩) (by have := Hs.out; simp; omega)).trans z0
    have hsz := hbel.size; rw [hB] at hsz
    rcases (by omega : k < t ∨ k = t) with hlt | heq
    · go_wp2_with ((at_builtin; refine wpList_append_own _ rfl (.tmp 19) (.tmp 24) 122 rfl B 145 i0 _ 3 24 uW hi hz0 hz1 hz2 rfl (by decide) _ _ _ rfl (hown.alloc _) ⟨wr.heap.size, 0, none⟩ 2 2 [.int .i64 1, .int .i64 k, .int .i64 0, .int .i64 2, .int .i64 k, .int .i64 0] rfl rfl (news_at rfl) (one_int rfl) (by unfold maxLen; omega) (by omega) (by simp; omega) ?_))
      intro v1 w1 hown1 hgrow1 _
      rw [wcells2 t k hlt] at hown1
      have hbel1 := grow_step hown hbel (by omega) hgrow1
      clear hown hbel hgrow1 y0 hsz
      go_wp2_with fail
      go_loopw [3, 5] (fun l jv wr => ∃ j : Nat, j ≤ 3 ∧ jv = .int .i64 j ∧ wr.ownsRow B 145 3 l (3 + 8 * k + 2 + j) (wcells t (3 + 8 * k + 2 + j)) ∧ Below B W wr)
        (fun _ jv _ => 3 - (intOf jv).toNat)
      case atStart => exact ⟨0, Nat.zero_le _, rfl, hown1, hbel1⟩
      case round =>
        clear hown1 hbel1
        obtain ⟨j, hj, rfl, hown, hbel⟩ := hrel
        have hsz := hbel.size; rw [hB] at hsz
        rcases (by omega : j < 3 ∨ 3 ≤ j) with hjl | hje
        · go_wp2_with ((at_builtin; refine wpList_append_own _ rfl (.tmp 30) (.tmp 34) 122 rfl B 145 i0 _ 3 24 uW hi hz0 hz1 hz2 rfl (by decide) _ _ _ rfl (hown.alloc _) ⟨wr.heap.size, 0, none⟩ 1 1 [.int .i64 3, .int .i64 k, .int .i64 j] rfl rfl (news_at rfl) (one_int rfl) (by unfold maxLen; omega) (by omega) (by simp; omega) ?_))
          intro v1 w1 hown1 hgrow1 _
          rw [wcells3 t k j hlt hjl] at hown1
          have hbel1 := grow_step hown hbel (by omega) hgrow1
          clear hown hbel hgrow1 hsz
          go_wp2_with fail
          go_roundw
          case rel => exact ⟨j + 1, by omega, by go_num, hown1, hbel1⟩
          case measure => simp [intOf]; omega
        · have hown := own_to hown (show _ = (3 + 8 * k + 5 + 0) by omega)
          go_wp2_with fail
          go_loopw [3, 6] (fun l jv wr => ∃ j : Nat, j ≤ 3 ∧ jv = .int .i64 j ∧ wr.ownsRow B 145 3 l (3 + 8 * k + 5 + j) (wcells t (3 + 8 * k + 5 + j)) ∧ Below B W wr)
            (fun _ jv _ => 3 - (intOf jv).toNat)
          case atStart => exact ⟨0, Nat.zero_le _, rfl, hown, hbel⟩
          case round =>
            clear hown hbel hsz
            obtain ⟨j, hj, rfl, hown, hbel⟩ := hrel
            have hsz := hbel.size; rw [hB] at hsz
            rcases (by omega : j < 3 ∨ 3 ≤ j) with hjl | hje
            · go_wp2_with ((at_builtin; refine wpList_append_own _ rfl (.tmp 40) (.tmp 44) 122 rfl B 145 i0 _ 3 24 uW hi hz0 hz1 hz2 rfl (by decide) _ _ _ rfl (hown.alloc _) ⟨wr.heap.size, 0, none⟩ 1 1 [.int .i64 4, .int .i64 k, .int .i64 j] rfl rfl (news_at rfl) (one_int rfl) (by unfold maxLen; omega) (by omega) (by simp; omega) ?_))
              intro v1 w1 hown1 hgrow1 _
              rw [wcells4 t k j hlt hjl] at hown1
              have hbel1 := grow_step hown hbel (by omega) hgrow1
              clear hown hbel hgrow1 hsz
              go_wp2_with fail
              go_roundw
              case rel => exact ⟨j + 1, by omega, by go_num, hown1, hbel1⟩
              case measure => simp [intOf]; omega
            · have hown := own_to hown (show _ = (3 + 8 * (k + 1)) by omega)
              go_wp2_with fail
              go_roundw
              case rel => exact ⟨k + 1, by omega, by go_num, hown, hbel⟩
              case measure => simp [intOf]; omega
    · subst heq
      clear z0 hst
      go_wp2_with fail
      go_loopw [3, 7] (fun l tv wr => ∃ m : Nat, m ≤ s ∧ tv = .int .i64 ((m : Int) + 1) ∧ wr.ownsRow B 145 3 l (3 + 8 * k + 7 * m) (wcells k (3 + 8 * k + 7 * m)) ∧ Below B W wr)
        (fun _ tv _ => s + 1 - (intOf tv).toNat)
      case atStart => exact ⟨0, Nat.zero_le _, rfl, hown, hbel⟩
      case round =>
        clear hown hbel hsz y0
        obtain ⟨m, hm, rfl, hown, hbel⟩ := hrel
        have y1 : wr.cell? ⟨w.heap.size, 1, none⟩ = some (.int .i64 s) := (hbel.cell (p := ⟨w.heap.size, 1, none⟩) (by have := Hs.out; simp; omega)).trans z1
        rcases (by omega : m < s ∨ m = s) with hml | hme
        · have hml' : (m : Int) + 1 ≤ s := by omega
          go_wp2_with fail
          go_loopw [3, 8] (fun l jv wr => ∃ j : Nat, j ≤ 7 ∧ jv = .int .i64 j ∧ wr.ownsRow B 145 3 l (3 + 8 * k + 7 * m + j) (wcells k (3 + 8 * k + 7 * m + j)) ∧ Below B W wr)
            (fun _ jv _ => 7 - (intOf jv).toNat)
          case atStart => exact ⟨0, Nat.zero_le _, rfl, hown, hbel⟩
          case round =>
            clear hown hbel y1
            obtain ⟨j, hj, rfl, hown, hbel⟩ := hrel
            have hsz := hbel.size; rw [hB] at hsz
            rcases (by omega : j < 7 ∨ 7 ≤ j) with hjl | hje
            · go_wp2_with ((at_builtin; refine wpList_append_own _ rfl (.tmp 56) (.tmp 60) 122 rfl B 145 i0 _ 3 24 uW hi hz0 hz1 hz2 rfl (by decide) _ _ _ rfl (hown.alloc _) ⟨wr.heap.size, 0, none⟩ 1 1 [.int .i64 5, .int .i64 ((m : Int) + 1), .int .i64 j] rfl rfl (news_at rfl) (one_int rfl) (by unfold maxLen; omega) (by omega) (by simp; omega) ?_))
              intro v1 w1 hown1 hgrow1 _
              rw [wcells5 k m j hjl] at hown1
              have hbel1 := grow_step hown hbel (by omega) hgrow1
              clear hown hbel hgrow1 hsz
              go_wp2_with fail
              go_roundw
              case rel => exact ⟨j + 1, by omega, by go_num, hown1, hbel1⟩
              case measure => simp [intOf]; omega
            · have hown := own_to hown (show _ = (3 + 8 * k + 7 * (m + 1)) by omega)
              go_wp2_with fail
              go_roundw
              case rel => exact ⟨m + 1, by omega, by go_num, hown, hbel⟩
              case measure => simp [intOf]; omega
        · subst hme
          go_wp2_with fail
          go_ret
          have := Hs.out
          rw [this] at hown
          exact ⟨_, rfl, hown, hBW.trans (hbel.mono (by omega))⟩
end Go.Proofs.Ytaaciolfgplnoaa

/- Layer 5: a plan that isn't there; the reference's May. -/
namespace Go.Proofs.Ytaaciolfgplnoaa
open Go.RowKit
set_option linter.unusedVariables false
set_option linter.unusedSimpArgs false

theorem rmay_calls (T S K : Int) (w : World) : Calls Try.prog 4 #[.agg #[.int .i64 T, .int .i64 S, .int .u64 K]] w fun e w' => e = .returned (.bool (mayC T S K)) ∧ Below w.heap.size w w' := by
  rcases (by omega : T < 1 ∨ (1 ≤ T ∧ 6 < T) ∨ (1 ≤ T ∧ T ≤ 6 ∧ S < 7) ∨ (1 ≤ T ∧ T ≤ 6 ∧ 7 ≤ S ∧ 250 < S) ∨ (1 ≤ T ∧ T ≤ 6 ∧ 7 ≤ S ∧ S ≤ 250 ∧ K < 1) ∨ (1 ≤ T ∧ T ≤ 6 ∧ 7 ≤ S ∧ S ≤ 250 ∧ 1 ≤ K ∧ 1099511627776 < K) ∨ (1 ≤ T ∧ T ≤ 6 ∧ 7 ≤ S ∧ S ≤ 250 ∧ 1 ≤ K ∧ K ≤ 1099511627776)) with h1 | ⟨h1, h2⟩ | ⟨h1, h2, h3⟩ | ⟨h1, h2, h3, h4⟩ | ⟨h1, h2, h3, h4, h5⟩ | ⟨h1, h2, h3, h4, h5, h6⟩ | ⟨h1, h2, h3, h4, h5, h6⟩
  all_goals
    first
      | have HM := Lib.hid (show mayC T S K = true from decide_eq_true ⟨h1, h2, h3, h4, h5, h6⟩)
      | have HM := Lib.hid (show mayC T S K = false from decide_eq_false (by omega))
    go_enter Try.func4, Try.ntmps4
    go_wp2
    go_ret
    exact ⟨by rw [HM.out]; first | rfl | (simp; done) | (simp; omega), by (repeat (first | exact Below.refl _ _ | assumption | refine below_new ?_ _ | refine Below.drew ?_ | refine below_drewN ?_ _ | refine below_on ?_ (by assumption)))⟩
theorem pconf_calls (T S K : Int) (b : Nat) (w : World) (x0 : w.cell? ⟨b, 0, none⟩ = some (.int .i64 T)) (x1 : w.cell? ⟨b, 1, none⟩ = some (.int .i64 S)) (x2 : w.cell? ⟨b, 2, none⟩ = some (.int .u64 K)) :
    Calls Try.prog 45 #[.pointer (some ⟨b, 0, none⟩)] w fun e w' => e = .returned (.agg #[.int .i64 T, .int .i64 S, .int .u64 K]) ∧ Below w.heap.size w w' := by
  go_enter Try.func45, Try.ntmps45
  go_upto_region 1 with (fail)
  generalize hV : World.alloc w _ = V
  have hBV : Below w.heap.size w V := by rw [← hV]; (repeat (first | exact Below.refl _ _ | assumption | refine below_new ?_ _ | refine Below.drew ?_ | refine below_drewN ?_ _ | refine below_on ?_ (by assumption)))
  have f0 := Ext.made_free hV 0; have f1 := Ext.made_free hV 1; have f2 := Ext.made_free hV 2
  have c0 : ∀ x : Ext V, x.w.cell? ⟨w.heap.size, 0, none⟩ = some (.int .i64 0) := Ext.made hV 0 _ rfl
  have c1 : ∀ x : Ext V, x.w.cell? ⟨w.heap.size, 1, none⟩ = some (.int .i64 0) := Ext.made hV 1 _ rfl
  have c2 : ∀ x : Ext V, x.w.cell? ⟨w.heap.size, 2, none⟩ = some (.int .u64 0) := Ext.made hV 2 _ rfl
  have y0 := Ext.new x0 hV; have y1 := Ext.new x1 hV; have y2 := Ext.new x2 hV
  clear hV x0 x1 x2
  obtain ⟨x, hx⟩ : ∃ x : Ext V, x.w = V := ⟨⟨V, Below.refl _ _⟩, rfl⟩; rw [← hx]; clear hx
  go_wp2_with (first | (with_reducible refine ext_region _ ?_ ?_ ?_; kernel_rfl; kernel_rfl; (repeat (go_big_quiet_step (fail))); refine wpQuiet_nil ?_; rintro _ ⟨_, rfl⟩))
  exact bodyPost_ret (v := .agg #[.int .i64 T, .int .i64 S, .int .u64 K]) (by simp [results, Try.results45, go_sem, c0, c1, c2, World.cell?_setCell_same, World.cell?_setCell_other]) rfl ⟨rfl, below_set (below_set (below_set (Ext.below hBV _) (by omega) _) (by omega) _) (by omega) _⟩
end Go.Proofs.Ytaaciolfgplnoaa

/- Layer 6's contracts: a memory lies behind a pointer; its words are a row of its own. -/
namespace Go.Proofs.Ytaaciolfgplnoaa.Mm
open Go.RowKit
set_option linter.unusedVariables false
set_option linter.unusedSimpArgs false

theorem Calls.veil {P : Program} {f : FuncId} {args : Array Value} {w : World} {R : Ending → World → Prop} (h : ∀ Q : Ending → World → Prop, Hid (Q = R) → Calls P f args w Q) : Calls P f args w R := h R rfl

/-- But for two blocks a world is as it was; there may be new ones. -/
structure Only (b g : Nat) (w w' : World) : Prop where
  os : w'.os = w.os
  tape : w'.tape = w.tape
  output : w'.output = w.output
  size : w.heap.size ≤ w'.heap.size
  block : ∀ k, k < w.heap.size → k ≠ b → k ≠ g → w'.heap[k]? = w.heap[k]?
theorem Only.refl (b g : Nat) (w : World) : Only b g w w := ⟨rfl, rfl, rfl, Nat.le_refl _, fun _ _ _ _ => rfl⟩
theorem Only.trans {b g : Nat} {w w1 w2 : World} (h : Only b g w w1) (k : Only b g w1 w2) : Only b g w w2 :=
  ⟨k.os.trans h.os, k.tape.trans h.tape, k.output.trans h.output, Nat.le_trans h.size k.size, fun i hi h1 h2 => (k.block i (Nat.lt_of_lt_of_le hi h.size) h1 h2).trans (h.block i hi h1 h2)⟩
theorem Only.alloc {b g : Nat} {w w1 : World} (h : Only b g w w1) (o : Obj) : Only b g w (w1.alloc o) :=
  h.trans ⟨rfl, rfl, rfl, by simp, fun k hk _ _ => Below.heap_alloc _ _ _ hk⟩
theorem Only.set1 {b g : Nat} {w w1 : World} (h : Only b g w w1) (i : Nat) (v : Value) : Only b g w (w1.setCell ⟨b, i, none⟩ v) :=
  h.trans ⟨rfl, rfl, rfl, by simp [World.setCell], fun k _ h1 _ => Below.heap_setCell _ _ _ _ h1⟩
theorem Only.set2 {b g : Nat} {w w1 : World} (h : Only b g w w1) (i : Nat) (v : Value) : Only b g w (w1.setCell ⟨g, i, none⟩ v) :=
  h.trans ⟨rfl, rfl, rfl, by simp [World.setCell], fun k _ _ h2 => Below.heap_setCell _ _ _ _ h2⟩
theorem Only.drew {b g : Nat} {w w1 : World} (h : Only b g w w1) : Only b g w w1.drew := h.trans ⟨rfl, rfl, rfl, Nat.le_refl _, fun _ _ _ _ => rfl⟩
theorem Only.of_below {b g : Nat} {w w1 : World} (h : Below w.heap.size w w1) : Only b g w w1 := ⟨h.os, h.tape, h.output, h.size, fun k hk _ _ => h.block k hk⟩
theorem Only.below {b g B : Nat} {w w' : World} (h : Only b g w w') (h1 : B ≤ b) (h2 : B ≤ g) (h3 : B ≤ w.heap.size) : Below B w w' :=
  ⟨h.os, h.tape, h.output, h.size, fun k hk => h.block k (by omega) (by omega) (by omega)⟩
theorem Only.wide {b g : Nat} {w w' : World} (h : Only b b w w') : Only b g w w' := ⟨h.os, h.tape, h.output, h.size, fun k hk h1 _ => h.block k hk h1 h1⟩
theorem Only.cell {b g : Nat} {w w' : World} (h : Only b g w w') {c i : Nat} {v : Value} (hc : w.cell? ⟨c, i, none⟩ = some v) (h1 : c ≠ b) (h2 : c ≠ g) : w'.cell? ⟨c, i, none⟩ = some v :=
  (World.cell?_of_block (w := w) (a := ⟨c, i, none⟩) (h.block c (World.block_lt_of_cell? w ⟨c, i, none⟩ hc) h1 h2)).trans hc

theorem scO {w : World} {a b : Addr} {v u : Value} (k : w.cell? b = some u) (h : a ≠ b) : (w.setCell a v).cell? b = some u := (World.cell?_setCell_other w a b v h).trans k
theorem scS {w : World} {a : Addr} {v u : Value} (h : w.cell? a = some u) : (w.setCell a v).cell? a = some v := World.cell?_setCell_same w a v h
theorem scF {w : World} {a b : Addr} {v : Value} (h : w.frozen? b = false) : (w.setCell a v).frozen? b = false := (World.frozen?_setCell w a b v).trans h
/-- The words, with one of them changed. -/
def upd (f : Nat → Int) (a : Nat) (v : Int) : Nat → Int := fun i => if i = a then v else f i
def okA (n : Nat) (a : Int) : Bool := decide (0 ≤ a ∧ a < n)
theorem okA_true {n : Nat} {a : Int} (h : okA n a = true) : 0 ≤ a ∧ a < n := of_decide_eq_true h
theorem okA_false {n : Nat} {a : Int} (h : okA n a = false) : ¬ (0 ≤ a ∧ a < n) := of_decide_eq_false h

/-- What is loaded. -/
def ldI (n : Nat) (f : Nat → Int) (a : Int) : Int := if okA n a = true then f a.toNat else 0
/-- A memory: its fields in a block, its words in another one. -/
structure MemAt (w : World) (b g n C : Nat) (f : Nat → Int) (acc : Int) (flt : Bool) : Prop where
  h0 : w.cell? ⟨b, 0, none⟩ = some (.slice (some ⟨g, 0, none⟩) n C)
  h1 : w.cell? ⟨b, 1, none⟩ = some (.int .i64 acc)
  h2 : w.cell? ⟨b, 2, none⟩ = some (.bool flt)
  hb : ∀ i, w.frozen? ⟨b, i, none⟩ = false
  row : ∀ i, i < n → w.cell? ⟨g, i, none⟩ = some (.int .u64 (f i))
  hg : ∀ i, w.frozen? ⟨g, i, none⟩ = false
  ne : b ≠ g
  bl : b < w.heap.size
  gl : g < w.heap.size
  nC : n ≤ C
  n1 : 1 ≤ n
  n2 : n ≤ 4096
  cC : C ≤ 9223372036854775807
  rng : ∀ i, i < n → 0 ≤ f i ∧ f i < 18446744073709551616
theorem MemAt.keep {w w' : World} {b g n C : Nat} {f : Nat → Int} {acc : Int} {flt : Bool} (h : MemAt w b g n C f acc flt) (hs : w.heap.size ≤ w'.heap.size) (kb : w'.heap[b]? = w.heap[b]?) (kg : w'.heap[g]? = w.heap[g]?) : MemAt w' b g n C f acc flt where
  h0 := (World.cell?_of_block (w := w) (a := ⟨b, 0, none⟩) kb).trans h.h0
  h1 := (World.cell?_of_block (w := w) (a := ⟨b, 1, none⟩) kb).trans h.h1
  h2 := (World.cell?_of_block (w := w) (a := ⟨b, 2, none⟩) kb).trans h.h2
  hb i := (World.frozen?_of_block (w := w) (a := ⟨b, i, none⟩) kb).trans (h.hb i)
  row i hi := (World.cell?_of_block (w := w) (a := ⟨g, i, none⟩) kg).trans (h.row i hi)
  hg i := (World.frozen?_of_block (w := w) (a := ⟨g, i, none⟩) kg).trans (h.hg i)
  ne := h.ne
  bl := by have := h.bl; omega
  gl := by have := h.gl; omega
  nC := h.nC
  n1 := h.n1
  n2 := h.n2
  cC := h.cC
  rng := h.rng
theorem MemAt.below {w w' : World} {b g n C : Nat} {f : Nat → Int} {acc : Int} {flt : Bool} (h : MemAt w b g n C f acc flt) (k : Below w.heap.size w w') : MemAt w' b g n C f acc flt := h.keep k.size (k.block _ h.bl) (k.block _ h.gl)
theorem MemAt.alloc {w : World} {b g n C : Nat} {f : Nat → Int} {acc : Int} {flt : Bool} (h : MemAt w b g n C f acc flt) (o : Obj) : MemAt (w.alloc o) b g n C f acc flt := h.below (by (repeat (first | exact Below.refl _ _ | assumption | refine below_new ?_ _ | refine Below.drew ?_ | refine below_drewN ?_ _ | refine below_on ?_ (by assumption))))
theorem MemAt.only {w w' : World} {b g b' g' n C : Nat} {f : Nat → Int} {acc : Int} {flt : Bool} (h : MemAt w b g n C f acc flt) (k : Only b' g' w w') (h1 : b ≠ b') (h2 : b ≠ g') (h3 : g ≠ b') (h4 : g ≠ g') : MemAt w' b g n C f acc flt :=
  h.keep k.size (k.block _ h.bl h1 h2) (k.block _ h.gl h3 h4)
theorem MemAt.setAcc {w : World} {b g n C : Nat} {f : Nat → Int} {acc : Int} {flt : Bool} (h : MemAt w b g n C f acc flt) (x : Int) : MemAt (w.setCell ⟨b, 1, none⟩ (.int .i64 x)) b g n C f x flt where
  h0 := scO h.h0 (by simp)
  h1 := scS h.h1
  h2 := scO h.h2 (by simp)
  hb i := scF (h.hb i)
  row i hi := scO (h.row i hi) (by simp [h.ne])
  hg i := scF (h.hg i)
  ne := h.ne
  bl := by simpa [World.setCell] using h.bl
  gl := by simpa [World.setCell] using h.gl
  nC := h.nC
  n1 := h.n1
  n2 := h.n2
  cC := h.cC
  rng := h.rng
theorem MemAt.setFault {w : World} {b g n C : Nat} {f : Nat → Int} {acc : Int} {flt : Bool} (h : MemAt w b g n C f acc flt) : MemAt (w.setCell ⟨b, 2, none⟩ (.bool true)) b g n C f acc true where
  h0 := scO h.h0 (by simp)
  h1 := scO h.h1 (by simp)
  h2 := scS h.h2
  hb i := scF (h.hb i)
  row i hi := scO (h.row i hi) (by simp [h.ne])
  hg i := scF (h.hg i)
  ne := h.ne
  bl := by simpa [World.setCell] using h.bl
  gl := by simpa [World.setCell] using h.gl
  nC := h.nC
  n1 := h.n1
  n2 := h.n2
  cC := h.cC
  rng := h.rng
theorem MemAt.store {w : World} {b g n C : Nat} {f : Nat → Int} {acc : Int} {flt : Bool} (h : MemAt w b g n C f acc flt) {a : Nat} (ha : a < n) {x : Int} (x0 : 0 ≤ x) (x1 : x < 18446744073709551616) : MemAt (w.setCell ⟨g, a, none⟩ (.int .u64 x)) b g n C (upd f a x) acc flt where
  h0 := scO h.h0 (by simp [h.ne.symm])
  h1 := scO h.h1 (by simp [h.ne.symm])
  h2 := scO h.h2 (by simp [h.ne.symm])
  hb i := scF (h.hb i)
  row i hi := by
    unfold upd
    by_cases e : i = a
    · subst e; rw [if_pos rfl]; exact scS (h.row _ hi)
    · rw [if_neg e]; exact scO (h.row i hi) (by simp <;> omega)
  hg i := scF (h.hg i)
  ne := h.ne
  bl := by simpa [World.setCell] using h.bl
  gl := by simpa [World.setCell] using h.gl
  nC := h.nC
  n1 := h.n1
  n2 := h.n2
  cC := h.cC
  rng i hi := by
    unfold upd
    by_cases e : i = a
    · rw [if_pos e]; exact ⟨x0, x1⟩
    · rw [if_neg e]; exact h.rng i hi

set_option maxHeartbeats 1000000 in
theorem mreach1 (b g n C p cp : Nat) (f : Nat → Int) (acc a : Int) (flt : Bool) (w : World) (h : MemAt w b g n C f acc flt) (c0 : 0 ≤ acc) (c1 : acc < 4611686018427387904) (hp : w.cell? ⟨p, 0, none⟩ = some (.int .i64 a)) (hpb : p ≠ b) :
    Calls Try.prog 31 #[.pointer (some ⟨b, 0, none⟩), .slice (some ⟨p, 0, none⟩) 1 cp] w fun e w' => e = .returned (.bool (okA n a)) ∧ MemAt w' b g n C f (acc + 1) (flt || !okA n a) ∧ Only b b w w' := by
  have e0 := h.h0; have e1 := h.h1; have e2 := h.h2; have eb := h.hb
  have nC := h.nC; have cC := h.cC
  have hbp := hpb.symm
  have hM := Lib.hid h; clear h
  cases ha : okA n a
  · rcases (by have := okA_false ha; omega : a < 0 ∨ (0 ≤ a ∧ (n : Int) ≤ a)) with k | ⟨k, k'⟩
    all_goals
      refine Calls.veil fun Q HQ => ?_
      go_enter Try.func31, Try.ntmps31
      go_wp2
      refine wp_loop_rounds 1 ?_
      rw [rounds_succ]
      go_wp2
      (try go_ret)
      rw [HQ.out]
      exact ⟨rfl, by simpa using (hM.out.setAcc (acc + 1)).setFault, ((Only.refl b b w).set1 _ _).set1 _ _⟩
  · obtain ⟨k, k'⟩ := okA_true ha
    refine Calls.veil fun Q HQ => ?_
    go_enter Try.func31, Try.ntmps31
    go_wp2
    refine wp_loop_rounds 2 ?_
    rw [rounds_succ]
    go_wp2
    rw [rounds_succ]
    go_wp2
    (try go_ret)
    rw [HQ.out]
    exact ⟨rfl, by simpa using (hM.out.setAcc (acc + 1)), ((Only.refl b b w).set1 _ _)⟩
theorem mswap (b g n C : Nat) (f : Nat → Int) (acc : Int) (a : Nat) (old x : Int) (flt : Bool) (w : World) (h : MemAt w b g n C f acc flt) (ha : a < n) (x0 : 0 ≤ x) (x1 : x < 18446744073709551616) :
    Calls Try.prog 93 #[.pointer (some ⟨b, 0, none⟩), .int .i64 a, .int .u64 old, .int .u64 x] w fun e w' => e = .returned (.bool (f a == old)) ∧ MemAt w' b g n C (if (f a == old) = true then upd f a x else f) acc flt ∧ Only b g w w' := by
  have e0 := h.h0; have e1 := h.row a ha; have eg := h.hg
  have nC := h.nC; have cC := h.cC; have n2 := h.n2
  have hM := Lib.hid h; clear h
  cases he : f a == old
  · refine Calls.veil fun Q HQ => ?_
    go_enter Try.func93, Try.ntmps93
    go_wp2
    (try go_ret)
    rw [HQ.out]
    exact ⟨rfl, by simpa using hM.out, Only.refl _ _ _⟩
  · refine Calls.veil fun Q HQ => ?_
    go_enter Try.func93, Try.ntmps93
    go_wp2
    (try go_ret)
    rw [HQ.out]
    exact ⟨rfl, by simpa using hM.out.store ha x0 x1, (Only.refl _ _ _).set2 _ _⟩
theorem mload (b g n C : Nat) (f : Nat → Int) (acc a : Int) (flt : Bool) (w : World) (h : MemAt w b g n C f acc flt) (c0 : 0 ≤ acc) (c1 : acc < 4611686018427387904) :
    Calls Try.prog 9 #[.pointer (some ⟨b, 0, none⟩), .int .i64 a] w fun e w' => e = .returned (.int .u64 (ldI n f a)) ∧ MemAt w' b g n C f (acc + 1) (flt || !okA n a) ∧ Only b g w w' := by
  refine Calls.veil fun Q HQ => ?_
  go_enter Try.func9, Try.ntmps9
  go_wp2_with fail
  generalize hW : World.alloc w _ = W
  have hO : Only b g w W := by rw [← hW]; exact (Only.refl _ _ _).alloc _
  have hM : MemAt W b g n C f acc flt := by rw [← hW]; exact h.alloc _
  have hp : W.cell? ⟨w.heap.size, 0, none⟩ = some (.int .i64 a) := Ext.made_in hW (Below.refl _ _) 0 _ rfl
  clear hW
  have hbl := h.bl
  clear h
  refine (mreach1 b g n C _ _ f acc a flt W hM c0 c1 hp (by omega)).mono ?_; rintro _ w1 ⟨rfl, hM1, hO1⟩
  have hO := hO.trans hO1.wide
  clear hM hp hO1
  cases ha : okA n a
  · rw [ha] at hM1
    go_wp2_with fail
    (try go_ret)
    rw [HQ.out]
    exact ⟨by simp [ha, ldI], by simpa [ha] using hM1, hO⟩
  · obtain ⟨k, k'⟩ := okA_true ha
    rw [ha] at hM1
    obtain ⟨a, rfl⟩ := Int.eq_ofNat_of_zero_le k
    have k2 : a < n := by omega
    have e0 := hM1.h0; have e1 := hM1.row a k2
    have nC := hM1.nC; have cC := hM1.cC; have n2 := hM1.n2
    have hM := Lib.hid hM1; clear hM1
    go_wp2_with fail
    (try go_ret)
    rw [HQ.out]
    exact ⟨by simp [ha, ldI], by simpa [ha] using hM.out, hO⟩
theorem mstore (b g n C : Nat) (f : Nat → Int) (acc a x : Int) (flt : Bool) (w : World) (h : MemAt w b g n C f acc flt) (c0 : 0 ≤ acc) (c1 : acc < 4611686018427387904) (x0 : 0 ≤ x) (x1 : x < 18446744073709551616) :
    Calls Try.prog 59 #[.pointer (some ⟨b, 0, none⟩), .int .i64 a, .int .u64 x] w fun e w' => e = .returned (.tuple #[]) ∧ MemAt w' b g n C (if okA n a = true then upd f a.toNat x else f) (acc + 1) (flt || !okA n a) ∧ Only b g w w' := by
  refine Calls.veil fun Q HQ => ?_
  go_enter Try.func59, Try.ntmps59
  go_wp2_with fail
  generalize hW : World.alloc w _ = W
  have hO : Only b g w W := by rw [← hW]; exact (Only.refl _ _ _).alloc _
  have hM : MemAt W b g n C f acc flt := by rw [← hW]; exact h.alloc _
  have hp : W.cell? ⟨w.heap.size, 0, none⟩ = some (.int .i64 a) := Ext.made_in hW (Below.refl _ _) 0 _ rfl
  clear hW
  have hbl := h.bl
  clear h
  refine (mreach1 b g n C _ _ f acc a flt W hM c0 c1 hp (by omega)).mono ?_; rintro _ w1 ⟨rfl, hM1, hO1⟩
  have hO := hO.trans hO1.wide
  clear hM hp hO1
  cases ha : okA n a
  · rw [ha] at hM1
    go_wp2_with fail
    refine bodyPost_end (v := .tuple #[]) (by simp [results, Try.results59, go_sem]) rfl ?_
    rw [HQ.out]
    exact ⟨rfl, by simpa [ha] using hM1, hO⟩
  · obtain ⟨k, k'⟩ := okA_true ha
    rw [ha] at hM1
    obtain ⟨a, rfl⟩ := Int.eq_ofNat_of_zero_le k
    have k2 : a < n := by omega
    have e0 := hM1.h0; have e1 := hM1.row a k2; have eg := hM1.hg
    have nC := hM1.nC; have cC := hM1.cC; have n2 := hM1.n2
    have hM := Lib.hid hM1; clear hM1
    go_wp2_with fail
    refine bodyPost_end (v := .tuple #[]) (by simp [results, Try.results59, go_sem]) rfl ?_
    rw [HQ.out]
    exact ⟨rfl, by simpa [ha] using hM.out.store k2 x0 x1, hO.set2 _ _⟩
end Go.Proofs.Ytaaciolfgplnoaa.Mm

/- Layer 6's contracts, the rest. -/
namespace Go.Proofs.Ytaaciolfgplnoaa.Mm
open Go.RowKit
set_option linter.unusedVariables false
set_option linter.unusedSimpArgs false
/-- A row of words, read, and that may be written. -/
structure RowAt (w : World) (g n : Nat) (f : Nat → Int) : Prop where
  row : ∀ i, i < n → w.cell? ⟨g, i, none⟩ = some (.int .u64 (f i))
  fr : ∀ i, w.frozen? ⟨g, i, none⟩ = false
  lt : g < w.heap.size
theorem RowAt.keep {w w' : World} {g n : Nat} {f : Nat → Int} (h : RowAt w g n f) (hs : w.heap.size ≤ w'.heap.size) (k : w'.heap[g]? = w.heap[g]?) : RowAt w' g n f :=
  ⟨fun i hi => (World.cell?_of_block (w := w) (a := ⟨g, i, none⟩) k).trans (h.row i hi), fun i => (World.frozen?_of_block (w := w) (a := ⟨g, i, none⟩) k).trans (h.fr i), by have := h.lt; omega⟩
theorem RowAt.below {w w' : World} {g n : Nat} {f : Nat → Int} (h : RowAt w g n f) (k : Below w.heap.size w w') : RowAt w' g n f := h.keep k.size (k.block _ h.lt)
theorem RowAt.only {w w' : World} {b b' g n : Nat} {f : Nat → Int} (h : RowAt w g n f) (k : Only b b' w w') (h1 : g ≠ b) (h2 : g ≠ b') : RowAt w' g n f := h.keep k.size (k.block _ h.lt h1 h2)
theorem u64s : Try.prog.underlying 43 = some (.slice 22) := by kernel_rfl
theorem info64 : (Try.prog.info? 22).map (fun i => (i.zero, i.size, i.bytes)) = some (some (.int .u64 0), 1, 8) := by kernel_rfl

def wordsL (n : Nat) (f : Nat → Int) : List Value := (List.range n).map fun i => .int .u64 (f i)
theorem wordsL_len (n : Nat) (f : Nat → Int) : (wordsL n f).length = n := by simp [wordsL]
theorem wordsL_get (n : Nat) (f : Nat → Int) (i : Nat) (h : i < n) : (wordsL n f)[i]? = some (.int .u64 (f i)) := by simp [wordsL, h]
theorem add_off (g j : Nat) : ((⟨g, 0, none⟩ : Addr).add j) = ⟨g, j, none⟩ := by simp [Addr.add]; rintro rfl; rfl
theorem news_words {w : World} {g n : Nat} {f : Nat → Int} (h : ∀ i, i < n → w.cell? ⟨g, i, none⟩ = some (.int .u64 (f i))) (j : Nat) (u : Value) (hu : (wordsL n f)[j]? = some u) : w.cell? ((⟨g, 0, none⟩ : Addr).add j) = some u := by
  have hj : j < n := by
    have := (List.getElem?_eq_some_iff.1 hu).1; rw [wordsL_len] at this; exact this
  rw [wordsL_get n f j hj] at hu
  rw [add_off, h j hj]; exact hu
theorem one_words (n : Nat) (f : Nat → Int) : ∀ u ∈ wordsL n f, u.oneCell' = true := by
  intro u hu
  obtain ⟨i, _, rfl⟩ := List.mem_map.1 hu
  rfl
/-- A row without elements that was made last. -/
theorem own_none (w : World) : (w.alloc (.cells #[] 22)).ownsRow w.heap.size 22 1 (.slice (some ⟨w.heap.size, 0, none⟩) 0 0) 0 [] :=
  ⟨rfl, .inr ⟨_, 0, _, rfl, Nat.le_refl _, heap_alloc_new w _, Nat.le_refl _, by decide, rfl, rfl⟩⟩
theorem grow0 {w w1 : World} {o : Obj} (hg : (w.alloc o).grownBy w1 (Value.ownBlock (.slice (some ⟨w.heap.size, 0, none⟩) 0 0))) : Below w.heap.size w w1 :=
  ((Below.refl _ _).alloc (Nat.le_refl _) o).grown hg (by simp) (by intro k hk; simp only [Value.ownBlock, Option.some.injEq] at hk; omega)

theorem maccs (b g n C : Nat) (f : Nat → Int) (acc : Int) (flt : Bool) (w : World) (h : MemAt w b g n C f acc flt) :
    Calls Try.prog 32 #[.pointer (some ⟨b, 0, none⟩)] w fun e w' => e = .returned (.int .i64 acc) ∧ w = w' := by
  have e0 := h.h1
  clear h
  go_enter Try.func32, Try.ntmps32
  go_wp2_with fail
  go_ret
  exact ⟨rfl, rfl⟩
theorem mfault (b g n C : Nat) (f : Nat → Int) (acc : Int) (flt : Bool) (w : World) (h : MemAt w b g n C f acc flt) :
    Calls Try.prog 41 #[.pointer (some ⟨b, 0, none⟩)] w fun e w' => e = .returned (.bool flt) ∧ w = w' := by
  have e0 := h.h2
  clear h
  go_enter Try.func41, Try.ntmps41
  go_wp2_with fail
  go_ret
  exact ⟨rfl, rfl⟩
theorem mcas (b g n C : Nat) (f : Nat → Int) (acc a old x : Int) (flt : Bool) (w : World) (h : MemAt w b g n C f acc flt) (c0 : 0 ≤ acc) (c1 : acc < 4611686018427387904) (x0 : 0 ≤ x) (x1 : x < 18446744073709551616) :
    Calls Try.prog 86 #[.pointer (some ⟨b, 0, none⟩), .int .i64 a, .int .u64 old, .int .u64 x] w fun e w' => e = .returned (.bool (okA n a && f a.toNat == old)) ∧ MemAt w' b g n C (if (okA n a && f a.toNat == old) = true then upd f a.toNat x else f) (acc + 1) (flt || !okA n a) ∧ Only b g w w' := by
  refine Calls.veil fun Q HQ => ?_
  go_enter Try.func86, Try.ntmps86
  go_wp2_with fail
  generalize hW : World.alloc w _ = W
  have hO : Only b g w W := by rw [← hW]; exact (Only.refl _ _ _).alloc _
  have hM : MemAt W b g n C f acc flt := by rw [← hW]; exact h.alloc _
  have hp : W.cell? ⟨w.heap.size, 0, none⟩ = some (.int .i64 a) := Ext.made_in hW (Below.refl _ _) 0 _ rfl
  clear hW
  have hbl := h.bl
  clear h
  refine (mreach1 b g n C _ _ f acc a flt W hM c0 c1 hp (by omega)).mono ?_; rintro _ w1 ⟨rfl, hM1, hO1⟩
  have hO := hO.trans hO1.wide
  clear hM hp hO1
  cases ha : okA n a
  · rw [ha] at hM1
    go_wp2_with fail
    (try go_ret)
    rw [HQ.out]
    exact ⟨by simp [ha, ldI], by simpa [ha] using hM1, hO⟩
  · obtain ⟨k, k'⟩ := okA_true ha
    rw [ha] at hM1
    obtain ⟨a, rfl⟩ := Int.eq_ofNat_of_zero_le k
    have k2 : a < n := by omega
    have hM := Lib.hid hM1; clear hM1
    go_wp2_with fail
    refine (mswap b g n C f _ a old x _ w1 hM.out k2 x0 x1).mono ?_; rintro _ w2 ⟨rfl, hM2, hO2⟩
    have hM := Lib.hid hM2; clear hM2
    go_wp2_with fail
    (try go_ret)
    rw [HQ.out]
    exact ⟨by simp [ha], by simpa [ha] using hM.out, hO.trans hO2⟩
end Go.Proofs.Ytaaciolfgplnoaa.Mm

/- Layer 6: an access, of both. -/
namespace Go.Proofs.Ytaaciolfgplnoaa.Mm
open Go.RowKit
set_option linter.unusedVariables false
set_option linter.unusedSimpArgs false

end Go.Proofs.Ytaaciolfgplnoaa.Mm

/- Layer 6: made anew, copied, compared; what isn't there. -/
namespace Go.Proofs.Ytaaciolfgplnoaa.Mm
open Go.RowKit
set_option linter.unusedVariables false
set_option linter.unusedSimpArgs false

theorem made_words (n : Nat) : (madeCells #[.int .u64 0] n).toList = wordsL n (fun _ => 0) := by
  apply List.ext_getElem?
  intro i
  by_cases h : i < n
  · rw [wordsL_get n _ i h]
    simp [madeCells, h, Nat.mod_one]
  · rw [List.getElem?_eq_none (by simp [madeCells]; omega), List.getElem?_eq_none (by rw [wordsL_len]; omega)]
end Go.Proofs.Ytaaciolfgplnoaa.Mm

/- Layer 6: same; the reference's. -/
namespace Go.Proofs.Ytaaciolfgplnoaa.Mm
open Go.RowKit
set_option linter.unusedVariables false
set_option linter.unusedSimpArgs false



end Go.Proofs.Ytaaciolfgplnoaa.Mm
