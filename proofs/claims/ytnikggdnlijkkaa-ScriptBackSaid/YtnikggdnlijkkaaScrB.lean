/- Layer 14: contracts of Clone, Clean, Same (of like scripts). -/
import Derived.Test.YtnikggdnlijkkaaScrA
import Derived.Deep.Cut
namespace Go.Proofs.Ytnikggdnlijkkaa
open Go.RowKit
set_option linter.unusedVariables false
set_option linter.unusedSimpArgs false

theorem eclone (n : Nat) (L : Nat → Ent) (v : Value) (w : World) (h : ER w v n L) (hn : n ≤ 2513169434843) :
    Calls Try.prog 22 #[v] w fun e w' => ∃ v', e = .returned v' ∧ OwnE w' w.heap.size v' n L ∧ Below w.heap.size w w' := by
  have qT : ∀ (w : World) (a : Addr) (n c : Nat), (binOp .eql 27 (.slice (some a) n c) (.slice none 0 0)).run Try.prog w = .ok (.bool false) w := fun w a n c => Go.run_eql_slice_nil w _ _ (some a) n c uEL
  have qN : ∀ (w : World), (binOp .eql 27 (.slice none 0 0) (.slice none 0 0)).run Try.prog w = .ok (.bool true) w := fun w => Go.run_eql_slice_nil w _ _ none 0 0 uEL
  refine Calls.veil fun Q HQ => ?_
  have H := Lib.hid h
  cases h with
  | nil =>
    go_enter Try.func22, Try.ntmps22
    go_wp2_with fail
    (try go_ret)
    rw [HQ.out]
    exact ⟨_, rfl, ⟨rfl, .inl ⟨rfl, rfl⟩⟩, Below.refl _ _⟩
  | odd ad c _ hc0 =>
    go_enter Try.func22, Try.ntmps22
    go_wp2_with (at_builtin; refine wpList_append_er rfl (.tmp 5) (.tmp 6) rfl w.heap.size _ L rfl (own_noneE w L) _ 0 rfl (H.out.alloc _) (by simp) (by simp) ?_)
    intro v1 w1 hown hg
    have hb := grow_stepE (W := w) (own_noneE w L) (by (repeat (first | exact Below.refl _ _ | assumption | refine below_new ?_ _ | refine Below.drew ?_ | refine below_drewN ?_ _ | refine below_on ?_ (by assumption)))) (Nat.le_refl _) hg
    have HP := Lib.hid hown
    clear hown hg
    go_wp2_with fail
    (try go_ret)
    rw [HQ.out]
    exact ⟨_, rfl, HP.out, hb⟩
  | row g o _ c _ h1 h2 h3 =>
    clear h3
    go_enter Try.func22, Try.ntmps22
    go_wp2_with (at_builtin; refine wpList_append_er rfl (.tmp 5) (.tmp 6) rfl w.heap.size _ L rfl (own_noneE w L) _ n rfl (H.out.alloc _) (by omega) (by simp) ?_)
    intro v1 w1 hown hg
    have hb := grow_stepE (W := w) (own_noneE w L) (by (repeat (first | exact Below.refl _ _ | assumption | refine below_new ?_ _ | refine Below.drew ?_ | refine below_drewN ?_ _ | refine below_on ?_ (by assumption)))) (Nat.le_refl _) hg
    have HP := Lib.hid hown
    clear hown hg
    go_wp2_with fail
    (try go_ret)
    rw [HQ.out]
    exact ⟨_, rfl, HP.out, hb⟩

def cl (lo hi x : Int) : Int := min (max x lo) hi
/-- The worlds of the last region: a configuration in block b2, the argument's slice in block b0; block b1 may be written. -/
structure SV (V : World) (b1 b2 : Nat) where
  w : World
  h : Below b1 V w
  k : w.heap[b2]? = V.heap[b2]?
instance (V : World) (b1 b2 : Nat) : Nonempty (SV V b1 b2) := ⟨⟨V, Below.refl _ _, rfl⟩⟩
theorem SV.lo {V : World} {b1 b2 g o : Nat} {v : Value} (h : V.cell? ⟨g, o, none⟩ = some v) (hg : g < b1) (x : SV V b1 b2) : x.w.cell? ⟨g, o, none⟩ = some v := (x.h.cell (p := ⟨g, o, none⟩) hg).trans h
theorem SV.hi {V : World} {b1 b2 o : Nat} {v : Value} (h : V.cell? ⟨b2, o, none⟩ = some v) (x : SV V b1 b2) : x.w.cell? ⟨b2, o, none⟩ = some v := (World.cell?_of_block (w := V) (a := ⟨b2, o, none⟩) x.k).trans h
def CutC (w : World) (T S K : Int) (sl : Value) (t s k : Int) (v3 : Value) (wc : World) : Prop :=
  v3 = .pointer (some ⟨w.heap.size + 2, 0, none⟩) ∧ wc.heap.size = w.heap.size + 3 ∧ Below w.heap.size w wc ∧ wc.heap[w.heap.size]? = some (.cells #[.int .i64 T, .int .i64 S, .int .u64 K, sl] 29 (0, 0)) ∧
  wc.heap[w.heap.size + 1]? = some (.cells #[.int .i64 0, .int .i64 0, .int .u64 0, .slice none 0 0] 29 (0, 0)) ∧ wc.heap[w.heap.size + 2]? = some (.cells #[.int .i64 t, .int .i64 s, .int .u64 k] 26 (0, 0))
theorem cutC_of {w V : World} {T S K : Int} {sl : Value} (t s k : Int) (hs : V.heap.size = w.heap.size + 2) (hb : Below w.heap.size w V) (h0 : V.heap[w.heap.size]? = some (.cells #[.int .i64 T, .int .i64 S, .int .u64 K, sl] 29 (0, 0)))
    (h1 : V.heap[w.heap.size + 1]? = some (.cells #[.int .i64 0, .int .i64 0, .int .u64 0, .slice none 0 0] 29 (0, 0))) : CutC w T S K sl t s k (.pointer (some ⟨V.heap.size, 0, none⟩)) (V.alloc (.cells #[.int .i64 t, .int .i64 s, .int .u64 k] 26)) := by
  refine ⟨by rw [hs], by simp [hs], hb.alloc hb.size _, ?_, ?_, ?_⟩
  · rw [Below.heap_alloc _ _ _ (by omega)]; exact h0
  · rw [Below.heap_alloc _ _ _ (by omega)]; exact h1
  · rw [← hs]; exact heap_alloc_new V _
theorem cl_lo {lo hi x : Int} (h : x < lo) (h2 : lo ≤ hi) : cl lo hi x = lo := by unfold cl; omega
theorem cl_mid {lo hi x : Int} (h : lo ≤ x) (h2 : x ≤ hi) : cl lo hi x = x := by unfold cl; omega
theorem cl_hi {lo hi x : Int} (h : hi < x) (h2 : lo ≤ hi) : cl lo hi x = hi := by unfold cl; omega
set_option maxHeartbeats 2000000 in
theorem sclean (T S K : Int) (n : Nat) (L : Nat → Ent) (v : Value) (w : World) (h : ER w v n L) (hn : n ≤ 100000) :
    Calls Try.prog 11 #[.agg #[.int .i64 T, .int .i64 S, .int .u64 K, v]] w fun e w' => ∃ v', e = .returned (.agg #[.int .i64 (cl 1 6 T), .int .i64 (cl 7 250 S), .int .u64 (cl 1 1099511627776 K), v']) ∧ ER w' v' (min n 60000) L ∧ Below w.heap.size w w' := by
  refine Calls.veil fun Q HQ => ?_
  have H := Lib.hid h
  obtain ⟨p, c, rfl, h1, h2, H3⟩ := h.parts
  clear h
  go_enter Try.func11, Try.ntmps11
  go_upto_region 1 with fail
  generalize hV : World.alloc (World.alloc w _) _ = V
  have hs : V.heap.size = w.heap.size + 2 := by rw [← hV]; simp
  have hb : Below w.heap.size w V := by rw [← hV]; (repeat (first | exact Below.refl _ _ | assumption | refine below_new ?_ _ | refine Below.drew ?_ | refine below_drewN ?_ _ | refine below_on ?_ (by assumption)))
  have hv0 : V.heap[w.heap.size]? = some (.cells #[.int .i64 T, .int .i64 S, .int .u64 K, .slice p n c] 29 (0, 0)) := by
    rw [← hV, Below.heap_alloc _ _ _ (by simp)]; exact heap_alloc_new w _
  have hv1 : V.heap[w.heap.size + 1]? = some (.cells #[.int .i64 0, .int .i64 0, .int .u64 0, .slice none 0 0] 29 (0, 0)) := by
    rw [← hV]; exact (by simp : (w.alloc (.cells #[.int .i64 T, .int .i64 S, .int .u64 K, .slice p n c] 29)).heap.size = w.heap.size + 1) ▸ heap_alloc_new (w.alloc (.cells #[.int .i64 T, .int .i64 S, .int .u64 K, .slice p n c] 29)) _
  clear hV
  have HMK := Lib.hid fun t s k => cutC_of t s k hs hb hv0 hv1
  have c0 : V.cell? ⟨w.heap.size, 0, none⟩ = some (.int .i64 T) := by rw [cell_of_row _ _ _ _ _ (0, 0) hv0]; rfl
  have c1 : V.cell? ⟨w.heap.size, 1, none⟩ = some (.int .i64 S) := by rw [cell_of_row _ _ _ _ _ (0, 0) hv0]; rfl
  have c2 : V.cell? ⟨w.heap.size, 2, none⟩ = some (.int .u64 K) := by rw [cell_of_row _ _ _ _ _ (0, 0) hv0]; rfl
  clear hb hv0 hv1 hs
  go_cut [3] from 5 (fun v3 wc => CutC w T S K (.slice p n c) (cl 1 6 T) (cl 7 250 S) (cl 1 1099511627776 K) v3 wc)
  case first =>
    rcases (by omega : T < 1 ∨ (1 ≤ T ∧ T ≤ 6) ∨ 6 < T) with q1 | ⟨q1, q2⟩ | q1 <;> rcases (by omega : S < 7 ∨ (7 ≤ S ∧ S ≤ 250) ∨ 250 < S) with q3 | ⟨q3, q4⟩ | q3 <;> rcases (by omega : K < 1 ∨ (1 ≤ K ∧ K ≤ 1099511627776) ∨ 1099511627776 < K) with q5 | ⟨q5, q6⟩ | q5
    all_goals
      have E1 := Lib.hid (show cl 1 6 T = _ from by first | exact cl_lo q1 (by decide) | exact cl_mid q1 q2 | exact cl_hi q1 (by decide))
      have E2 := Lib.hid (show cl 7 250 S = _ from by first | exact cl_lo q3 (by decide) | exact cl_mid q3 q4 | exact cl_hi q3 (by decide))
      have E3 := Lib.hid (show cl 1 1099511627776 K = _ from by first | exact cl_lo q5 (by decide) | exact cl_mid q5 q6 | exact cl_hi q5 (by decide))
      go_wp2_with fail
      all_goals go_meet
      all_goals (case rel => rw [E1.out, E2.out, E3.out]; exact HMK.out _ _ _)
  case rest =>
    obtain ⟨rfl, r1, r2, r3, r4, r5⟩ := hcut
    clear c0 c1 c2 HMK
    generalize cl 1 6 T = t at *
    generalize cl 7 250 S = s at *
    generalize cl 1 1099511627776 K = k at *
    have d3 : wc.cell? ⟨w.heap.size, 3, none⟩ = some (.slice p n c) := by rw [cell_of_row _ _ _ _ _ (0, 0) r3]; rfl
    have e0 : wc.cell? ⟨w.heap.size + 2, 0, none⟩ = some (.int .i64 t) := by rw [cell_of_row _ _ _ _ _ (0, 0) r5]; rfl
    have e1 : wc.cell? ⟨w.heap.size + 2, 1, none⟩ = some (.int .i64 s) := by rw [cell_of_row _ _ _ _ _ (0, 0) r5]; rfl
    have e2 : wc.cell? ⟨w.heap.size + 2, 2, none⟩ = some (.int .u64 k) := by rw [cell_of_row _ _ _ _ _ (0, 0) r5]; rfl
    have y0 : wc.cell? ⟨w.heap.size + 1, 0, none⟩ = some (.int .i64 0) := by rw [cell_of_row _ _ _ _ _ (0, 0) r4]; rfl
    have y1 : wc.cell? ⟨w.heap.size + 1, 1, none⟩ = some (.int .i64 0) := by rw [cell_of_row _ _ _ _ _ (0, 0) r4]; rfl
    have y2 : wc.cell? ⟨w.heap.size + 1, 2, none⟩ = some (.int .u64 0) := by rw [cell_of_row _ _ _ _ _ (0, 0) r4]; rfl
    have y3 : wc.cell? ⟨w.heap.size + 1, 3, none⟩ = some (.slice none 0 0) := by rw [cell_of_row _ _ _ _ _ (0, 0) r4]; rfl
    have HF := Lib.hid (show ∀ i, wc.frozen? ⟨w.heap.size + 1, i, none⟩ = false from fun i => frozen_of_row _ _ _ _ _ r4)
    have HY := Lib.hid (And.intro y0 (And.intro y1 (And.intro y2 y3)))
    have z25a := fun x : SV wc (w.heap.size + 1) (w.heap.size + 2) => x.hi e0
    have z25b := fun x : SV wc (w.heap.size + 1) (w.heap.size + 2) => x.hi e1
    have z25c := fun x : SV wc (w.heap.size + 1) (w.heap.size + 2) => x.hi e2
    have z27 := fun x : SV wc (w.heap.size + 1) (w.heap.size + 2) => x.lo d3 (Nat.lt_succ_self _)
    have HER := Lib.hid (H.out.below r2)
    have HS := Lib.hid r1
    have HB := Lib.hid r2
    clear r1 r2 r3 r4 r5 e0 e1 e2 y0 y1 y2 y3
    obtain ⟨m, hm⟩ : ∃ m, m = min n 60000 := ⟨_, rfl⟩
    rw [← hm] at HQ
    have HT := Lib.hid (show ER wc (.slice p m c) m L from HER.out.take (by omega))
    have hm1 : m ≤ c := by omega
    have hm2 : m ≤ 100000 := by omega
    have hm3 : (n ≤ 60000 ∧ m = n) ∨ (60000 < n ∧ m = 60000) := by omega
    clear hm
    go_upto_region 2 with fail
    go_cut [4] from 5 (fun v4 wd => v4 = .int .i64 m ∧ wd = wc)
    case first =>
      rcases hm3 with ⟨q1, rfl⟩ | ⟨q1, rfl⟩
      all_goals
        go_wp2_with fail
        all_goals go_meet
        all_goals (case rel => first | exact ⟨rfl, rfl⟩ | exact ⟨by go_num, rfl⟩)
    case rest =>
      obtain ⟨rfl, rfl⟩ := hcut
      clear hm3 d3
      go_upto_region 3 with fail
      (with_reducible refine wp_region_mix (fun w' => ∃ x : SV wc (w.heap.size + 1) (w.heap.size + 2), w' = x.w) ?_ ?_ ?_ ?_; kernel_rfl; kernel_rfl; exact ⟨⟨wc.drew, (Below.refl _ _).drew, rfl⟩, rfl⟩)
      repeat (first | ((with_reducible refine mix_plain (by kernel_rfl) ?_); (first | go_big_quiet_skip | (go_big_quiet_want; go_big_quiet_op; go_big_quiet_on)); (with_reducible refine mix_on ?_)) | ((with_reducible refine mix_skip (by kernel_rfl) ?_); go_big_quiet_skip; (with_reducible refine mix_on ?_)))
      ((with_reducible refine wpMix_chain (by kernel_rfl) (by kernel_rfl) (fun K HK => ?_)); go_step)
      refine (eclone m L _ _ (HT.out.below (Below.refl _ _).drew) (by omega)).mono ?_; rintro _ w2 ⟨v', rfl, hE, hb2⟩
      have hb2 : Below wc.heap.size wc w2 := ⟨hb2.os, hb2.tape, hb2.output, hb2.size, hb2.block⟩
      obtain ⟨p', c', rfl, _, _⟩ := (own_ER hE).slice
      have HE := Lib.hid hE
      refine HK.out _ _ ⟨⟨w2, hb2.mono (by have := HS.out; omega), hb2.block _ (by have := HS.out; omega)⟩, rfl⟩ ?_
      have f0 : w2.cell? ⟨w.heap.size + 1, 0, none⟩ = some (.int .i64 0) := Ext.cell ⟨w2, hb2⟩ HY.out.1
      have f1 : w2.cell? ⟨w.heap.size + 1, 1, none⟩ = some (.int .i64 0) := Ext.cell ⟨w2, hb2⟩ HY.out.2.1
      have f2 : w2.cell? ⟨w.heap.size + 1, 2, none⟩ = some (.int .u64 0) := Ext.cell ⟨w2, hb2⟩ HY.out.2.2.1
      have f3 : w2.cell? ⟨w.heap.size + 1, 3, none⟩ = some (.slice none 0 0) := Ext.cell ⟨w2, hb2⟩ HY.out.2.2.2
      have ff : ∀ i, w2.frozen? ⟨w.heap.size + 1, i, none⟩ = false := fun i => (hb2.frozen (p := ⟨w.heap.size + 1, i, none⟩) (by have := HS.out; show w.heap.size + 1 < _; omega)).trans (HF.out i)
      have HB2 := Lib.hid hb2
      clear HK K hE hb2
      repeat (first | ((with_reducible refine mix_plain (by kernel_rfl) ?_); (first | go_big_quiet_skip | (go_big_quiet_want; go_big_quiet_op; go_big_quiet_on)); (with_reducible refine mix_on ?_)) | ((with_reducible refine mix_skip (by kernel_rfl) ?_); go_big_quiet_skip; (with_reducible refine mix_on ?_)))
      ((with_reducible refine wpMix_chain (by kernel_rfl) (by kernel_rfl) (fun K HK => ?_)); go_step)
      refine HK.out _ _ ⟨⟨_, (((((show Below (w.heap.size + 1) wc w2 from HB2.out.mono (by have := HS.out; omega))).setCell (p := ⟨w.heap.size + 1, 0, none⟩) (Nat.le_refl _) _).setCell (p := ⟨w.heap.size + 1, 1, none⟩) (Nat.le_refl _) _).setCell (p := ⟨w.heap.size + 1, 2, none⟩) (Nat.le_refl _) _).setCell (p := ⟨w.heap.size + 1, 3, none⟩) (Nat.le_refl _) _, ?_⟩, rfl⟩ ?_
      · rw [Below.heap_setCell _ _ _ _ (by show w.heap.size + 2 ≠ w.heap.size + 1; omega), Below.heap_setCell _ _ _ _ (by show w.heap.size + 2 ≠ w.heap.size + 1; omega), Below.heap_setCell _ _ _ _ (by show w.heap.size + 2 ≠ w.heap.size + 1; omega), Below.heap_setCell _ _ _ _ (by show w.heap.size + 2 ≠ w.heap.size + 1; omega)]
        exact HB2.out.block _ (by have := HS.out; omega)
      clear HK K
      refine wpMix_nil ?_
      generalize hU : World.setCell _ _ _ = U
      have hBU : Below w.heap.size w U := by
        rw [← hU]
        exact (((((HB.out).trans (HB2.out.mono (by have := HS.out; omega))).setCell (p := ⟨w.heap.size + 1, 0, none⟩) (Nat.le_succ _) _).setCell (p := ⟨w.heap.size + 1, 1, none⟩) (Nat.le_succ _) _).setCell (p := ⟨w.heap.size + 1, 2, none⟩) (Nat.le_succ _) _).setCell (p := ⟨w.heap.size + 1, 3, none⟩) (Nat.le_succ _) _
      have hEU : ER U (.slice p' m c') m L := by
        have hl : w.heap.size + 1 < wc.drew.heap.size := by have := HS.out; show _ < wc.heap.size; omega
        rw [← hU]
        exact own_ER (ownsRow_setCell_below (ownsRow_setCell_below (ownsRow_setCell_below (ownsRow_setCell_below HE.out (a := ⟨w.heap.size + 1, 0, none⟩) hl _) (a := ⟨w.heap.size + 1, 1, none⟩) hl _) (a := ⟨w.heap.size + 1, 2, none⟩) hl _) (a := ⟨w.heap.size + 1, 3, none⟩) hl _)
      have g0 : U.cell? ⟨w.heap.size + 1, 0, none⟩ = some (.int .i64 t) := by subst hU; go_simp
      have g1 : U.cell? ⟨w.heap.size + 1, 1, none⟩ = some (.int .i64 s) := by subst hU; go_simp
      have g2 : U.cell? ⟨w.heap.size + 1, 2, none⟩ = some (.int .u64 k) := by subst hU; go_simp
      have g3 : U.cell? ⟨w.heap.size + 1, 3, none⟩ = some (.slice p' m c') := by subst hU; go_simp
      clear hU f0 f1 f2 f3 ff
      have HBU := Lib.hid hBU; have HEU := Lib.hid hEU
      clear hBU hEU z25a z25b z25c z27
      go_wp2_with fail
      refine bodyPost_ret (v := .agg #[.int .i64 t, .int .i64 s, .int .u64 k, .slice p' m c']) (by simp [results, Try.results11, go_sem, g0, g1, g2, g3]) rfl ?_
      rw [HQ.out]
      exact ⟨_, rfl, HEU.out, HBU.out⟩
end Go.Proofs.Ytnikggdnlijkkaa
