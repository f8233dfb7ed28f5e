/- Layer 7: a guard that isn't there; Clone. -/
import Derived.Test.YtkkdehniheajeaaGrdN
import Derived.Shelf.SlMaps.Clone
import Derived.Laws.AppendOwn
import Derived.Lib.LazyBuf
namespace Go.Proofs.Ytkkdehniheajeaa.Gd
open Go.RowKit Go.Maps WordM EdgeM
set_option linter.unusedVariables false
set_option linter.unusedSimpArgs false
theorem u64sl : Try.prog.underlying 44 = some (.slice 22) := by kernel_rfl
set_option maxHeartbeats 1000000 in
set_option maxRecDepth 8000 in
theorem mapclone {w : World} {b : Nat} {es : Array MapEntry} {clock : Nat} (hb : w.heap[b]? = some (.map es clock)) :
    Calls Try.prog 77 #[.map (some b)] w fun e w' => e = .returned (.map (some w.heap.size)) ∧ w' = w.alloc (.map es clock) := by
  have hq := fun w => run_eql_map_nil_sl (P := Try.prog) w 125 _ _ (some b) uMap
  go_enter Try.func77, Try.ntmps77
  go_wp2
  rw [run_callFunc_extern Try.func93 (by kernel_rfl) (by kernel_rfl) (by kernel_rfl) (e := Extern.MapsClone.clone) (by kernel_rfl), run_maps_clone_sl w 125 hb]
  simp only [Result.andThen]
  rw [Oper.upon_value]
  go_wp2
  rw [run_typeAssert_map_sl _ 125 _ _ _ _ uMap]
  simp only [Result.andThen]
  rw [Oper.upon_value]
  go_wp2
  go_ret
  exact ⟨rfl, rfl⟩
theorem mapclone_owns {w : World} {b k : Nat} {D : DataW Unit} (h : w.ownsMap Try.prog 3 (unitElem (H := Unit)) b k D) :
    Calls Try.prog 77 #[.map (some b)] w fun e w' => ∃ m, e = .returned (.map (some m)) ∧ w.heap.size ≤ m ∧ w'.ownsMap Try.prog 3 (unitElem (H := Unit)) m k D ∧ Below w.heap.size w w' := by
  obtain ⟨es, clock, hb, F, hs, hD⟩ := h
  refine (mapclone hb).mono fun e w' ⟨he, hw⟩ => ?_
  subst hw
  exact ⟨_, he, Nat.le_refl _, ⟨es, clock, (MapKept.heap_alloc w _).1, F, hs, hD⟩, (Below.refl _ w).alloc (Nat.le_refl _) _⟩
theorem own64 (w : World) : (w.alloc (.cells #[] 22)).ownsRow w.heap.size 22 1 (.slice (some ⟨w.heap.size, 0, none⟩) 0 0) 0 [] :=
  ⟨rfl, .inr ⟨_, 0, _, rfl, Nat.le_refl _, heap_alloc_new w _, Nat.le_refl _, by decide, rfl, rfl⟩⟩
theorem cG_one (G : Nat → Int) (n : Nat) : ∀ u ∈ cG G n, u.oneCell' = true := by
  intro v hv
  simp only [cG, List.mem_map] at hv
  obtain ⟨j, _, rfl⟩ := hv
  rfl
theorem gens_news {w : World} {g n : Nat} {G : Nat → Int} (h : ∀ i, i < n → w.cell? ⟨g, i, none⟩ = some (.int .u64 (G i))) (j : Nat) (u : Value) (hu : (cG G n)[j]? = some u) : w.cell? ((⟨g, 0, none⟩ : Addr).add j) = some u := by
  have hj : j < n := by have := (List.getElem?_eq_some_iff.1 hu).1; rwa [cG_len] at this
  rw [cG_get hj] at hu
  cases hu
  rw [show ((⟨g, 0, none⟩ : Addr).add j) = ⟨g, j, none⟩ by simp only [Addr.add]; split <;> simp_all]
  exact h j hj
/-- The generations, copied: a row in a block of its own. -/
def GR (w : World) (g n c : Nat) (G : Nat → Int) : Prop := ∃ cur, w.heap[g]? = some (.cells cur 22 (0, 0)) ∧ cur.toList.take n = cG G n ∧ n ≤ c
theorem GR.cellAt {w : World} {g n c : Nat} {G : Nat → Int} (h : GR w g n c G) {j : Nat} (hj : j < n) : w.cell? ⟨g, j, none⟩ = some (.int .u64 (G j)) := by
  obtain ⟨cur, h1, h2, _⟩ := h
  have h3 := cG_get (G := G) hj
  rw [← h2, List.getElem?_take_of_lt hj] at h3
  rw [cell_of_row _ _ _ _ _ (0, 0) h1]; simpa using h3
set_option maxHeartbeats 1000000 in
theorem gclones {w : World} {g n c : Nat} {G : Nat → Int} (h : ∀ i, i < n → w.cell? ⟨g, i, none⟩ = some (.int .u64 (G i))) (h0 : 0 < n) (hn : n ≤ 250) :
    Calls Try.prog 62 #[.slice (some ⟨g, 0, none⟩) n c] w fun e w' => ∃ g' c', e = .returned (.slice (some ⟨g', 0, none⟩) n c') ∧ w.heap.size ≤ g' ∧ c' ≤ 9223372036854775807 ∧ GR w' g' n c' G ∧ Below w.heap.size w w' := by
  obtain ⟨i0, hi, hz0, hz1, hz2⟩ := info_parts info64
  have H' := Lib.hid (fun i hi => Ext.on (h i hi) (.cells #[] 22)); clear h
  have qT : ∀ (w : World) (a : Addr) (n c : Nat), (binOp .eql 44 (.slice (some a) n c) (.slice none 0 0)).run Try.prog w = .ok (.bool false) w := fun w a n c => Go.run_eql_slice_nil w _ _ (some a) n c u64sl
  refine Calls.veil fun Q HQ => ?_
  go_enter Try.func62, Try.ntmps62
  go_wp2_with (at_builtin; refine wpList_append_own _ rfl (.tmp 5) (.tmp 6) 44 rfl w.heap.size 22 i0 _ 1 8 u64sl hi hz0 hz1 hz2 rfl (by decide) _ _ _ rfl (own64 w) ⟨g, 0, none⟩ n c (cG G n) rfl (by rw [cG_len]; omega) (gens_news H'.out) (cG_one G n) (by unfold maxLen; omega) (by omega) (by simp) ?_)
  intro v1 w1 hown hgrow _
  have hb : Below w.heap.size w w1 := ((Below.refl _ _).alloc (Nat.le_refl _) _).grown hgrow (by simp) (by intro k hk; simp only [Value.ownBlock, Option.some.injEq] at hk; omega)
  rcases hown.2 with ⟨rfl, h6⟩ | ⟨g', cap, cur, rfl, hg, hh, hc, hm, hs2, ht⟩
  · omega
  simp only [Nat.zero_add, List.nil_append, Nat.mul_one] at *
  have HF := Lib.hid (show w.heap.size ≤ g' ∧ cap ≤ 9223372036854775807 ∧ GR w1 g' n cap G from ⟨hg, hm, cur, hh, ht, hc⟩)
  have HB := Lib.hid hb
  clear hb hgrow hown hg hh hc hm hs2 ht
  go_wp2_with fail
  (try go_ret)
  rw [HQ.out]
  exact ⟨g', cap, rfl, HF.out.1, HF.out.2.1, HF.out.2.2, HB.out⟩
set_option maxRecDepth 8000 in
set_option maxHeartbeats 1000000 in
theorem gclone {w : World} {q g m n : Nat} {H : Nat → Bool} {G : Nat → Int} {s : Int} (h : GA w q g m n H G s) :
    Calls Try.prog 43 #[.pointer (some ⟨q, 0, none⟩)] w fun e w' => ∃ q' g' m', e = .returned (.pointer (some ⟨q', 0, none⟩)) ∧ w.heap.size ≤ q' ∧ w.heap.size ≤ g' ∧ w.heap.size ≤ m' ∧ GA w' q' g' m' n H G s ∧ Below w.heap.size w w' := by
  refine Calls.veil fun Q HQ => ?_
  have HH := Lib.hid h
  obtain ⟨c, hc1, hc2, c0⟩ := h.c0
  have c1 := h.c1
  have c2 := h.c2
  obtain ⟨D, d1, d2, d3⟩ := h.held
  have HD := Lib.hid (And.intro d1 (And.intro d2 d3))
  clear d1 d2 d3
  have c0 := Ext.cells c0; have c1 := Ext.cells c1; have c2 := Ext.cells c2
  clear h
  go_enter Try.func43, Try.ntmps43
  go_upto_region 3 with fail
  (with_reducible refine wp_region_mix (fun w' => ∃ x : Ext w, w' = x.w) ?_ ?_ ?_ ?_; kernel_rfl; kernel_rfl; exact ⟨⟨w.drew, (Below.refl _ _).drew⟩, rfl⟩)
  repeat (first | ((with_reducible refine mix_plain (by kernel_rfl) ?_); (first | go_big_quiet_skip | (go_big_quiet_want; go_big_quiet_op; go_big_quiet_on)); (with_reducible refine mix_on ?_)) | ((with_reducible refine mix_skip (by kernel_rfl) ?_); go_big_quiet_skip; (with_reducible refine mix_on ?_)))
  ((with_reducible refine wpMix_chain (by kernel_rfl) (by kernel_rfl) (fun K HK => ?_)); go_step)
  refine (gclones (w := w.drew) (fun i hi => (HH.out.below (Below.refl _ _).drew).gc hi) HH.out.n0 HH.out.n1).mono ?_; rintro _ w1 ⟨g1, cc1, rfl, hg1, hcc1, hGR, hb1⟩
  have hb1 : Below w.heap.size w w1 := ((Below.refl _ _).drew).trans hb1
  have HB1 := Lib.hid hb1
  have HG1 := Lib.hid (show w.heap.size ≤ g1 ∧ cc1 ≤ 9223372036854775807 ∧ GR w1 g1 n cc1 G from ⟨hg1, hcc1, hGR⟩)
  refine HK.out _ _ ⟨⟨w1, hb1⟩, rfl⟩ ?_
  clear HK K hb1 hg1 hcc1 hGR
  repeat (first | ((with_reducible refine mix_plain (by kernel_rfl) ?_); (first | go_big_quiet_skip | (go_big_quiet_want; go_big_quiet_op; go_big_quiet_on)); (with_reducible refine mix_on ?_)) | ((with_reducible refine mix_skip (by kernel_rfl) ?_); go_big_quiet_skip; (with_reducible refine mix_on ?_)))
  ((with_reducible refine wpMix_chain (by kernel_rfl) (by kernel_rfl) (fun K HK => ?_)); go_step)
  refine (mapclone_owns (HD.out.1.kept (grown_of_below HB1.out) (by simp))).mono ?_; rintro _ w2 ⟨m1, rfl, hm1, hD1, hb2⟩
  have HB2 := Lib.hid (HB1.out.trans (hb2.mono HB1.out.size))
  have HM1 := Lib.hid (And.intro hm1 hD1)
  have HB12 := Lib.hid hb2
  refine HK.out _ _ ⟨⟨w2, HB2.out⟩, rfl⟩ ?_
  clear HK K hb2 hm1 hD1
  repeat (first | ((with_reducible refine mix_plain (by kernel_rfl) ?_); (first | go_big_quiet_skip | (go_big_quiet_want; go_big_quiet_op; go_big_quiet_on)); (with_reducible refine mix_on ?_)) | ((with_reducible refine mix_skip (by kernel_rfl) ?_); go_big_quiet_skip; (with_reducible refine mix_on ?_)))
  ((with_reducible refine wpMix_chain (by kernel_rfl) (by kernel_rfl) (fun K HK => ?_)); go_step)
  refine HK.out _ _ ⟨⟨_, HB2.out.alloc HB2.out.size _⟩, rfl⟩ ?_
  clear HK K
  repeat (first | ((with_reducible refine mix_plain (by kernel_rfl) ?_); (first | go_big_quiet_skip | (go_big_quiet_want; go_big_quiet_op; go_big_quiet_on)); (with_reducible refine mix_on ?_)) | ((with_reducible refine mix_skip (by kernel_rfl) ?_); go_big_quiet_skip; (with_reducible refine mix_on ?_)))
  refine wpMix_nil ?_
  go_wp2_with fail
  (try go_ret)
  rw [HQ.out]
  have hb12 := HB12.out
  have hb2 := HB2.out
  have hb1 := HB1.out
  obtain ⟨hg1, hcc1, cur, hcur, htake, hnc⟩ := HG1.out
  obtain ⟨hm1, hD1⟩ := HM1.out
  have hgl : g1 < w1.heap.size := (Array.getElem?_eq_some_iff.1 hcur).1
  have hml := hD1.lt
  have hs2 := hb12.size
  have hs1 := hb1.size
  have h0 := HH.out
  refine ⟨w2.heap.size, g1, m1, rfl, hb2.size, hg1, by omega, ⟨⟨cc1, hnc, hcc1, heap_alloc_new w2 _⟩, ⟨cur, ?_, htake⟩, ⟨D, hD1.alloc _, HD.out.2.1, HD.out.2.2⟩, by omega, by omega, by omega, h0.n0, h0.n1, h0.gb, h0.sb⟩, hb2.alloc hb2.size _⟩
  rw [Below.heap_alloc _ _ _ (by omega)]
  exact (hb12.block _ hgl).trans hcur
theorem gclone0 (w : World) : Calls Try.prog 43 #[.pointer none] w fun e w' => e = .returned (.pointer none) ∧ w = w' := by
  go_enter Try.func43, Try.ntmps43
  go_wp2_with fail
  go_ret
  exact ⟨rfl, rfl⟩
theorem ghas0 (slot : Int) (w : World) : Calls Try.prog 63 #[.pointer none, .int .i64 slot] w fun e w' => e = .returned (.bool false) ∧ w = w' := by
  go_enter Try.func63, Try.ntmps63
  go_wp2_with fail
  go_ret
  exact ⟨rfl, rfl⟩
theorem gslip0 (w : World) : Calls Try.prog 86 #[.pointer none] w fun e w' => e = .returned (.bool false) ∧ w = w' := by
  go_enter Try.func86, Try.ntmps86
  go_wp2_with fail
  go_ret
  exact ⟨rfl, rfl⟩
theorem gheld0 (w : World) : Calls Try.prog 52 #[.pointer none] w fun e w' => e = .returned (.int .i64 0) ∧ w = w' := by
  go_enter Try.func52, Try.ntmps52
  go_wp2_with fail
  go_ret
  exact ⟨rfl, rfl⟩
theorem gslips0 (w : World) : Calls Try.prog 41 #[.pointer none] w fun e w' => e = .returned (.int .i64 0) ∧ w = w' := by
  go_enter Try.func41, Try.ntmps41
  go_wp2_with fail
  go_ret
  exact ⟨rfl, rfl⟩
theorem gedge0 (slot : Int) (w : World) : Calls Try.prog 65 #[.pointer none, .int .i64 slot] w fun e w' => e = .returned (.int .u64 0) ∧ w = w' := by
  go_enter Try.func65, Try.ntmps65
  go_wp2_with fail
  refine (ghas0 _ _).mono ?_; rintro _ _ ⟨rfl, rfl⟩
  go_wp2_with fail
  go_ret
  exact ⟨rfl, rfl⟩
theorem gtake0 (slot : Int) (w : World) : Calls Try.prog 49 #[.pointer none, .int .i64 slot] w fun e w' => e = .returned (.bool false) ∧ Below w.heap.size w w' := by
  go_enter Try.func49, Try.ntmps49
  go_wp2_with fail
  refine (ghas0 _ _).mono ?_; rintro _ _ ⟨rfl, rfl⟩
  go_wp2_with fail
  refine (gslip0 _).mono ?_; rintro _ _ ⟨rfl, rfl⟩
  go_wp2_with fail
  go_ret
  exact ⟨rfl, by (repeat (first | exact Below.refl _ _ | assumption | refine below_new ?_ _ | refine Below.drew ?_ | refine below_drewN ?_ _ | refine below_on ?_ (by assumption)))⟩
theorem gleads0 (e : Int) (w : World) (e1 : 0 ≤ e) (e2 : e < 18446744073709551616) : Calls Try.prog 32 #[.pointer none, .int .u64 e] w fun e w' => e = .returned (.bool false) ∧ Below w.heap.size w w' := by
  go_enter Try.func32, Try.ntmps32
  go_wp2_with fail
  refine (eslot_calls _ _ e1 e2).mono ?_; rintro _ _ ⟨rfl, rfl⟩
  go_wp2_with fail
  refine (ghas0 _ _).mono ?_; rintro _ _ ⟨rfl, rfl⟩
  go_wp2_with fail
  go_ret
  exact ⟨rfl, by (repeat (first | exact Below.refl _ _ | assumption | refine below_new ?_ _ | refine Below.drew ?_ | refine below_drewN ?_ _ | refine below_on ?_ (by assumption)))⟩
end Go.Proofs.Ytkkdehniheajeaa.Gd
