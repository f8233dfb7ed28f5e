/- Layer 16: the reference's New. -/
import Derived.Test.YtkkdehniheajeaaCorF
import Derived.Laws.Tables
import Derived.Deep.MidRow
namespace Go.Proofs.Ytkkdehniheajeaa
open Go.RowKit WordM EdgeM
set_option linter.unusedVariables false
set_option linter.unusedSimpArgs false
/-- The reference's machine. -/
def mV (t s : Nat) (K : Int) (wv : Value) (acc : Int) (flt : Bool) (gb gc : Nat) (sl : Int) (odd : Bool) : Array Value := #[.int .i64 t, .int .i64 s, .int .u64 K, wv, .int .i64 acc, .bool flt, .slice (some ⟨gb, 0, none⟩) s gc, .int .i64 sl, .bool odd]
/-- What the plan's words lie as. -/
theorem wcells_at (T : Int) (n a : Nat) (h : a < n) : (wcells T n)[a * 3]? = some (.int .i64 (wk T a)) ∧ (wcells T n)[a * 3 + 1]? = some (.int .i64 (wi T a)) ∧ (wcells T n)[a * 3 + 2]? = some (.int .i64 (wj T a)) := by
  induction n with
  | zero => omega
  | succ n ih =>
    rw [wcells_succ]
    have hl := wcells_len T n
    by_cases e : a = n
    · subst e
      refine ⟨?_, ?_, ?_⟩
      · rw [List.getElem?_append_right (by omega), hl, Nat.sub_self]; rfl
      · rw [List.getElem?_append_right (by omega), hl, show a * 3 + 1 - a * 3 = 1 by omega]; rfl
      · rw [List.getElem?_append_right (by omega), hl, show a * 3 + 2 - a * 3 = 2 by omega]; rfl
    · obtain ⟨h1, h2, h3⟩ := ih (by omega)
      exact ⟨by rw [List.getElem?_append_left (by omega)]; exact h1, by rw [List.getElem?_append_left (by omega)]; exact h2, by rw [List.getElem?_append_left (by omega)]; exact h3⟩
theorem wrows {w : World} {B : Nat} {v : Value} {T : Int} {n : Nat} (h : w.ownsRow B 108 3 v n (wcells T n)) (hn : 0 < n) : ∃ g c, v = .slice (some ⟨g, 0, none⟩) n c ∧ n ≤ c ∧ c ≤ 9223372036854775807 ∧ g < w.heap.size ∧ ∀ a, a < n → w.cell? ⟨g, a * 3, none⟩ = some (.int .i64 (wk T a)) ∧ w.cell? ⟨g, a * 3 + 1, none⟩ = some (.int .i64 (wi T a)) ∧ w.cell? ⟨g, a * 3 + 2, none⟩ = some (.int .i64 (wj T a)) := by
  rcases h.2 with ⟨_, h0⟩ | ⟨g, cap, cur, rfl, hb, hh, hc, hm, hs, ht⟩
  · omega
  · refine ⟨g, cap, rfl, hc, hm, Th.blk_lt hh, fun a ha => ?_⟩
    obtain ⟨e1, e2, e3⟩ := wcells_at T n a ha
    have get : ∀ j u, j < n * 3 → (wcells T n)[j]? = some u → w.cell? ⟨g, j, none⟩ = some u := fun j u hj hu => by
      rw [← ht, List.getElem?_take_of_lt hj] at hu
      rw [cell_of_row _ g _ _ _ (0, 0) hh]; simpa using hu
    exact ⟨get _ _ (by omega) e1, get _ _ (by omega) e2, get _ _ (by omega) e3⟩
theorem heap2c {w V : World} {a b : Obj} (h : (w.alloc a).alloc b = V) : V.heap[w.heap.size]? = some a ∧ V.heap[w.heap.size + 1]? = some b ∧ Below w.heap.size w V := by
  subst h
  exact ⟨by rw [Below.heap_alloc _ _ _ (by simp)]; exact heap_alloc_new w a, by have := heap_alloc_new (w.alloc a) b; simpa using this, by (repeat (first | exact Below.refl _ _ | assumption | refine below_new ?_ _ | refine Below.drew ?_ | refine below_drewN ?_ _ | refine below_on ?_ (by assumption)))⟩
theorem setrowM {w V : World} {old cs : Array Value} {T : TypeId} (h : (w.alloc (.cells old T (0, 0))).setRow w.heap.size cs = V) : V.heap[w.heap.size]? = some (.cells cs T (0, 0)) ∧ Below w.heap.size w V ∧ V.heap.size = w.heap.size + 1 := by
  subst h
  refine ⟨setRow_heap _ _ _ _ _ _ (heap_alloc_new w _), ⟨rfl, rfl, rfl, ?_, fun j hj => ?_⟩, ?_⟩
  · simp [World.setRow]
  · rw [setRow_other _ _ _ _ (by omega)]; exact (below_new (Below.refl w.heap.size w) _).block j hj
  · simp [World.setRow]
theorem mV_one (t s : Nat) (K : Int) (a : Option Addr) (n c : Nat) (acc : Int) (flt : Bool) (gb gc : Nat) (sl : Int) (odd : Bool) : (mV t s K (.slice a n c) acc flt gb gc sl odd).all (·.oneCell') = true := by kernel_rfl
theorem ucells_snoc {n : Nat} {f : Nat → Int} : Th.ucells (n + 1) f = Th.ucells n f ++ [.int .u64 (f n)] := by
  unfold Th.ucells
  rw [List.range_succ, List.map_append]; rfl
theorem uM : ∃ d, Try.prog.underlying 51 = some d ∧ d.isRow = true := by
  have h : (Try.prog.underlying 51).map (·.isRow) = some true := by kernel_rfl
  cases h1 : Try.prog.underlying 51 with
  | none => rw [h1] at h; cases h
  | some d => rw [h1] at h; exact ⟨d, rfl, by simpa using h⟩
theorem mV_range {w : World} {X t s : Nat} {K : Int} {wv : Value} {acc : Int} {flt : Bool} {gb gc : Nat} {sl : Int} {odd : Bool} {T : TypeId} (h : w.heap[X]? = some (.cells (mV t s K wv acc flt gb gc sl odd) T (0, 0))) : w.rangeAt X 0 (mV t s K wv acc flt gb gc sl odd).toList := fun j v hv => by
  rw [Nat.zero_add]; exact Th.newcell h j _ (by simpa using hv)
theorem ownL_less {T : TypeId} {w : World} {B B' : Nat} {v : Value} {n : Nat} {xs : List Value} (h : Th.OwnL T w B v n xs) (k : B' ≤ B) : Th.OwnL T w B' v n xs := by
  refine ⟨h.1, ?_⟩
  rcases h.2 with hn | ⟨g, cap, cur, rfl, hb, rest⟩
  · exact .inl hn
  · exact .inr ⟨g, cap, cur, rfl, Nat.le_trans k hb, rest⟩
theorem infoM : (Try.prog.info? 51).map (·.size) = some 9 := by kernel_rfl
def mZ : Array Value := #[.int .i64 0, .int .i64 0, .int .u64 0, .slice none 0 0, .int .i64 0, .bool false, .slice none 0 0, .int .i64 0, .bool false]
theorem fin16 {Z : Nat} {cs : List Value} (hl : cs.length = 9) (a : Act) (W : World) (hW : W.rangeAt Z 0 cs) (h2 : a.tmps.getD 2 undef = .pointer (some ⟨Z, 0, none⟩)) : (results Try.f21 a.tmps).run Try.prog W = .ok (.agg cs.toArray) W := by
  obtain ⟨d, hdu, hdr⟩ := uM
  have := run_loadVar_mid (P := Try.prog) W Z 0 51 cs d hW hdu hdr (by rw [hl]; exact infoM)
  have h2' : a.tmps[2]?.getD undef = .pointer (some ⟨Z, 0, none⟩) := by simpa using h2
  simp [results, Try.results21, h2', asAddr, this]
set_option maxRecDepth 16000 in
set_option maxHeartbeats 4000000 in
theorem crnew {t s : Nat} {Kc : Int} (w : World) (h : mayC t s Kc = true) :
    Calls Try.prog 21 #[.agg #[.int .i64 t, .int .i64 s, .int .u64 Kc]] w fun e w' => ∃ wv gb gc, e = .returned (.agg (mV t s Kc wv 0 false gb gc 0 false)) ∧ Th.OwnL 22 w' w.heap.size wv (3 + 8 * t + 7 * s) (Th.ucells (3 + 8 * t + 7 * s) (partF t 3 s)) ∧ Gd.SR w' gb s (fun i => decide (i < 5)) (fun _ => 0) ∧ s ≤ gc ∧ gc ≤ 9223372036854775807 ∧ w.heap.size ≤ gb ∧ Below w.heap.size w w' := by
  refine Calls.veil fun Q HQ => ?_
  have hm := mayC_true h
  have t1 : 1 ≤ t := by omega
  have t2 : t ≤ 6 := by omega
  have s1 : 7 ≤ s := by omega
  have s2 : s ≤ 250 := by omega
  clear h hm
  go_enter Try.func21, Try.ntmps21
  go_upto_region 1 with fail
  generalize hV : World.alloc _ _ = U
  obtain ⟨u0, u1, hbu⟩ := heap2c hV
  obtain ⟨cb, h1⟩ : ∃ a, a = w.heap.size := ⟨_, rfl⟩
  obtain ⟨rb, h2⟩ : ∃ b, b = w.heap.size + 1 := ⟨_, rfl⟩
  rw [← h2] at u1 ⊢
  rw [← h1] at u0 ⊢
  have HC := Lib.hid u0; have HRB := Lib.hid (show U.heap[rb]? = some (.cells mZ 51 (0, 0)) from u1); have HB := Lib.hid hbu; have HCB := Lib.hid h1; have HRE := Lib.hid h2
  have o0 := Th.newcell u0 0 _ rfl; have o1 := Th.newcell u0 1 _ rfl; have o2 := Th.newcell u0 2 _ rfl
  clear hV u0 u1 hbu h1 h2
  go_wp2_with fail
  refine (rwords_calls t s Kc _ t1 t2 s1 s2).mono ?_; rintro _ w1 ⟨v, rfl, hw, hb1⟩
  obtain ⟨lg, lc, rfl, lc1, lc2, llt, hrows⟩ := wrows hw (by omega)
  have HL := Lib.hid (fun a ha => Ext.cells (hrows a ha).1); have HL1 := Lib.hid (fun a ha => Ext.cells (hrows a ha).2.1); have HL2 := Lib.hid (fun a ha => Ext.cells (hrows a ha).2.2)
  have HB1 := Lib.hid (below_on HB.out hb1); have HC1 := Lib.hid (Th.up hb1 HC.out); have HRB1 := Lib.hid (Th.up hb1 HRB.out)
  clear hw hb1 o0 o1 o2 HC HRB HB hrows
  go_upto_region 2 with fail
  have HLC := Lib.hid (show ∀ y : Ext w1, (Instr.loadAt 24 (.pointer (some ⟨cb, 0, none⟩))).run Try.prog y.w = .ok (.agg #[.int .i64 t, .int .i64 s, .int .u64 Kc]) y.w from fun y => by
    have q0 := Ext.use (Ext.cells (Th.newcell HC1.out 0 _ rfl)) y.h; have q1 := Ext.use (Ext.cells (Th.newcell HC1.out 1 _ rfl)) y.h; have q2 := Ext.use (Ext.cells (Th.newcell HC1.out 2 _ rfl)) y.h
    go_simp)
  have HLS := Lib.hid (show ∀ y : Ext w1, (Instr.loadAt 3 (.pointer (some ⟨cb, 1, none⟩))).run Try.prog y.w = .ok (.int .i64 s) y.w from fun y => by
    have q1 := Ext.use (Ext.cells (Th.newcell HC1.out 1 _ rfl)) y.h
    go_simp)
  go_cut [4] from 9 (fun m4 wc => ∃ X gb, m4 = .pointer (some ⟨X, 0, none⟩) ∧ Hid (wc.heap[X]? = some (.cells (mV t s Kc (.slice none 0 0) 0 false gb s 0 false) 51 (0, 0))) ∧ Hid (Gd.SR wc gb s (fun _ => false) (fun _ => 0)) ∧ Hid (Below w1.heap.size w1 wc) ∧ Hid (w1.heap.size ≤ X ∧ w1.heap.size ≤ gb ∧ gb ≠ X))
  case first =>
    refine Th.wp_region_K (fun w' => ∃ y : Ext w1, w' = y.w) 6 (by decide +kernel) ?_
    generalize hwd : World.drew w1 = wd
    have hbd : Below w1.heap.size w1 wd := by rw [← hwd]; exact (Below.refl _ _).drew
    clear hwd
    (refine Th.wpAnyK_take (i := 0) (v := .agg #[.int .i64 t, .int .i64 s, .int .u64 Kc]) [4, 6] rfl (by decide +kernel) (by decide +kernel) (by decide +kernel) (by decide +kernel) (fun _ _ _ h => h) (Th.yields_loadK rfl 24 (.tmp 1) rfl rfl (by rintro _ ⟨y, rfl⟩; exact HLC.out y)) ⟨⟨wd, hbd⟩, rfl⟩ ?_)
    (try simp only [List.getElem_toArray, List.getElem_cons_succ, List.getElem_cons_zero, Act.put, List.setIfInBounds_toArray, List.set_cons_succ, List.set_cons_zero])
    (refine Th.wpAnyK_takeY (i := 1) (v := ?_) rfl (by decide +kernel) (by decide +kernel) (by decide +kernel) (by decide) (fun _ _ _ h => h) (Or.inl ⟨by rfl, ?_⟩) (.inr ⟨⟨wd, hbd⟩, rfl⟩) ?_; rotate_left; (intro w; go_simp); (try with_reducible rfl))
    (try simp only [List.getElem_toArray, List.getElem_cons_succ, List.getElem_cons_zero, Act.put, List.setIfInBounds_toArray, List.set_cons_succ, List.set_cons_zero])
    (refine Th.wpAnyK_take (i := 2) (v := .int .i64 s) [3, 4, 6] rfl (by decide +kernel) (by decide +kernel) (by decide +kernel) (by decide +kernel) (fun _ _ _ h => h) (Th.yields_loadK rfl 3 (.tmp 12) rfl rfl (by rintro _ ⟨y, rfl⟩; exact HLS.out y)) ⟨⟨wd, hbd⟩, rfl⟩ ?_)
    (try simp only [List.getElem_toArray, List.getElem_cons_succ, List.getElem_cons_zero, Act.put, List.setIfInBounds_toArray, List.set_cons_succ, List.set_cons_zero])
    (refine Th.wpAnyK_ready (rs := [3, 5]) (by decide +kernel) (by simp) ?_; refine (Th.AllReadyK.cons rfl (fun K hK => ?_) (Th.AllReadyK.cons rfl (fun K hK => ?_) Th.AllReadyK.nil)))
    · refine step_of rfl ?_
      go_step
      refine (Gd.rnew7 s wd (by omega) s2).mono ?_; rintro _ w5 ⟨gb, rfl, hsr, hgb, hb5⟩
      have HSR := Lib.hid hsr
      unfold Gd.xV
      have hb5 := below_on hbd hb5
      refine hK _ _ (.inr ⟨⟨w5, hb5⟩, rfl⟩) ?_
      clear hK K
      (try simp only [List.getElem_toArray, List.getElem_cons_succ, List.getElem_cons_zero, Act.put, List.setIfInBounds_toArray, List.set_cons_succ, List.set_cons_zero])
      (refine Th.wpAnyK_takeY (i := 4) (v := ?_) rfl (by decide +kernel) (by decide +kernel) (by decide +kernel) (by decide) (fun _ _ _ h => h) (Or.inl ⟨by rfl, ?_⟩) (.inr ⟨⟨w5, hb5⟩, rfl⟩) ?_; rotate_left; (intro w; go_simp); (try with_reducible rfl))
      (try simp only [List.getElem_toArray, List.getElem_cons_succ, List.getElem_cons_zero, Act.put, List.setIfInBounds_toArray, List.set_cons_succ, List.set_cons_zero])
      (refine Th.wpAnyK_ready (rs := [5]) (by decide +kernel) (by simp) ?_; refine (Th.AllReadyK.cons rfl (fun K hK => ?_) Th.AllReadyK.nil))
      refine step_of rfl ?_
      go_step
      refine hK _ _ (.inr ⟨⟨_, below_new hb5 _⟩, rfl⟩) ?_
      clear hK K
      (try simp only [List.getElem_toArray, List.getElem_cons_succ, List.getElem_cons_zero, Act.put, List.setIfInBounds_toArray, List.set_cons_succ, List.set_cons_zero])
      (refine Th.wpAnyK_ready (rs := [6]) (by decide +kernel) (by simp) ?_; refine (Th.AllReadyK.cons rfl (fun K hK => ?_) Th.AllReadyK.nil))
      refine step_of rfl ?_
      refine wp_store_row 51 (.tmp 4) (.tmp 15) rfl w5.heap.size (mV t s Kc (.slice none 0 0) 0 false gb s 0 false) rfl rfl 51 _ (heap_alloc_new _ _) infoM rfl (mV_one _ _ _ _ _ _ _ _ _ _ _ _) ?_
      refine hK _ _ (.inl rfl) ?_
      clear hK K
      refine Th.wpAnyK_done (by decide +kernel) ?_ _
      generalize hW : World.setRow _ _ _ = W
      obtain ⟨hh, hbw, _⟩ := setrowM hW
      have hfin : ∃ X gb', Value.pointer (some ⟨w5.heap.size, 0, none⟩) = .pointer (some ⟨X, 0, none⟩) ∧ Hid (W.heap[X]? = some (.cells (mV t s Kc (.slice none 0 0) 0 false gb' s 0 false) 51 (0, 0))) ∧ Hid (Gd.SR W gb' s (fun _ => false) (fun _ => 0)) ∧ Hid (Below w1.heap.size w1 W) ∧ Hid (w1.heap.size ≤ X ∧ w1.heap.size ≤ gb' ∧ gb' ≠ X) :=
        ⟨_, gb, rfl, Lib.hid hh, Lib.hid (HSR.out.below hbw), Lib.hid (below_on hb5 hbw), Lib.hid ⟨hb5.size, by have := hbd.size; omega, by have := World.block_lt_of_cell? w5 ⟨gb, 0 * 2, none⟩ (HSR.out 0 (by omega)).1; simp only at this; omega⟩⟩
      have HFIN := Lib.hid hfin
      clear hW hh hbw hfin
      go_wp2_with fail
      all_goals go_meet
      case rel => exact HFIN.out
    · refine step_of rfl ?_
      go_step
      refine hK _ _ (.inr ⟨⟨_, below_new hbd _⟩, rfl⟩) ?_
      clear hK K
      (try simp only [List.getElem_toArray, List.getElem_cons_succ, List.getElem_cons_zero, Act.put, List.setIfInBounds_toArray, List.set_cons_succ, List.set_cons_zero])
      (refine Th.wpAnyK_ready (rs := [3]) (by decide +kernel) (by simp) ?_; refine (Th.AllReadyK.cons rfl (fun K hK => ?_) Th.AllReadyK.nil))
      refine step_of rfl ?_
      generalize hwe : World.alloc wd _ = we
      obtain ⟨hX, hbe⟩ := Th.heapnewE hwe
      have HXE := Lib.hid hX
      clear hwe
      go_step
      refine (Gd.rnew7 s we (by omega) s2).mono ?_; rintro _ w5 ⟨gb, rfl, hsr, hgb, hb5⟩
      have HSR := Lib.hid hsr
      unfold Gd.xV
      have hX5 := Th.up hb5 HXE.out
      have hb5 := below_on hbd (below_on hbe hb5)
      refine hK _ _ (.inr ⟨⟨w5, hb5⟩, rfl⟩) ?_
      clear hK K
      (try simp only [List.getElem_toArray, List.getElem_cons_succ, List.getElem_cons_zero, Act.put, List.setIfInBounds_toArray, List.set_cons_succ, List.set_cons_zero])
      (refine Th.wpAnyK_takeY (i := 4) (v := ?_) rfl (by decide +kernel) (by decide +kernel) (by decide +kernel) (by decide) (fun _ _ _ h => h) (Or.inl ⟨by rfl, ?_⟩) (.inr ⟨⟨w5, hb5⟩, rfl⟩) ?_; rotate_left; (intro w; go_simp); (try with_reducible rfl))
      (try simp only [List.getElem_toArray, List.getElem_cons_succ, List.getElem_cons_zero, Act.put, List.setIfInBounds_toArray, List.set_cons_succ, List.set_cons_zero])
      (refine Th.wpAnyK_ready (rs := [6]) (by decide +kernel) (by simp) ?_; refine (Th.AllReadyK.cons rfl (fun K hK => ?_) Th.AllReadyK.nil))
      refine step_of rfl ?_
      refine wp_store_row 51 (.tmp 4) (.tmp 15) rfl wd.heap.size (mV t s Kc (.slice none 0 0) 0 false gb s 0 false) rfl rfl 51 _ hX5 infoM rfl (mV_one _ _ _ _ _ _ _ _ _ _ _ _) ?_
      refine hK _ _ (.inl rfl) ?_
      clear hK K
      refine Th.wpAnyK_done (by decide +kernel) ?_ _
      have hne : gb ≠ wd.heap.size := by have := hbe.size; have := Th.blk_lt hX5; have h9 := Th.blk_lt HXE.out; omega
      have k3 : Gd.K3 w5 (w5.setRow wd.heap.size (mV t s Kc (.slice none 0 0) 0 false gb s 0 false)) wd.heap.size wd.heap.size wd.heap.size := ⟨rfl, rfl, rfl, by simp [World.setRow], fun k hk a _ _ => setRow_other _ _ _ _ a⟩
      have hsr2 := Gd.SR.k3 HSR.out k3 hne hne hne
      have hrow : (w5.setRow wd.heap.size (mV t s Kc (.slice none 0 0) 0 false gb s 0 false)).heap[wd.heap.size]? = some (.cells (mV t s Kc (.slice none 0 0) 0 false gb s 0 false) 51 (0, 0)) := setRow_heap _ _ _ _ _ _ hX5
      have hbl : Below w1.heap.size w1 (w5.setRow wd.heap.size (mV t s Kc (.slice none 0 0) 0 false gb s 0 false)) := ⟨hb5.os, hb5.tape, hb5.output, Nat.le_trans hb5.size k3.size, fun j hj => (k3.block j (Nat.lt_of_lt_of_le hj hb5.size) (by have := hbd.size; omega) (by have := hbd.size; omega) (by have := hbd.size; omega)).trans (hb5.block j hj)⟩
      generalize hW : World.setRow _ _ _ = W
      rw [hW] at hsr2 hrow hbl
      have hfin : ∃ X gb', Value.pointer (some ⟨wd.heap.size, 0, none⟩) = .pointer (some ⟨X, 0, none⟩) ∧ Hid (W.heap[X]? = some (.cells (mV t s Kc (.slice none 0 0) 0 false gb' s 0 false) 51 (0, 0))) ∧ Hid (Gd.SR W gb' s (fun _ => false) (fun _ => 0)) ∧ Hid (Below w1.heap.size w1 W) ∧ Hid (w1.heap.size ≤ X ∧ w1.heap.size ≤ gb' ∧ gb' ≠ X) :=
        ⟨_, gb, rfl, Lib.hid hrow, Lib.hid hsr2, Lib.hid hbl, Lib.hid ⟨hbd.size, by have := hbd.size; have := hbe.size; omega, hne⟩⟩
      have HFIN := Lib.hid hfin
      clear hW hne k3 hsr2 hrow hbl hfin
      go_wp2_with fail
      all_goals go_meet
      case rel => exact HFIN.out
  case rest =>
    obtain ⟨X, gb, rfl, HX, HSR, HBC, HXB⟩ := hcut
    obtain ⟨n, hn⟩ : ∃ n, n = 3 + 8 * t + 7 * s := ⟨_, rfl⟩
    rw [← hn] at HL HL1 HL2 lc1 ⊢
    have HN := Lib.hid hn
    have hn1 : n ≤ 2000 := by omega
    have HBV := Lib.hid (below_on HB1.out HBC.out)
    have HCC := Lib.hid (Th.up HBC.out HC1.out); have HRC := Lib.hid (Th.up HBC.out HRB1.out)
    have HLT := Lib.hid (show cb < X ∧ rb < X from by have h1 := Th.blk_lt HC1.out; have h2 := Th.blk_lt HRB1.out; have := HXB.out; omega)
    have HXW := Lib.hid (show w.heap.size ≤ X ∧ w.heap.size ≤ gb from by have := HXB.out; have := HB1.out.size; omega)
    have HNE := Lib.hid (show gb ≠ X from HXB.out.2.2)
    have HRG0 := Lib.hid (show rb < gb from by have h2 := Th.blk_lt HRB1.out; have := HXB.out; omega)
    have HLLC := Lib.hid (show ∀ a, a < n → wc.cell? ⟨lg, a * 3, none⟩ = some (.int .i64 (wk t a)) ∧ wc.cell? ⟨lg, a * 3 + 1, none⟩ = some (.int .i64 (wi t a)) ∧ wc.cell? ⟨lg, a * 3 + 2, none⟩ = some (.int .i64 (wj t a)) from fun a ha => ⟨HL.out a ha ⟨wc, HBC.out⟩, HL1.out a ha ⟨wc, HBC.out⟩, HL2.out a ha ⟨wc, HBC.out⟩⟩)
    have HXL := Lib.hid (show X < wc.heap.size ∧ lg < wc.heap.size from ⟨Th.blk_lt HX.out, by have := HBC.out.size; omega⟩)
    have HLX := Lib.hid (show lg ≠ X from by have := HXB.out; omega)
    clear hn HL HL1 HL2 HLC HLS HBC HC1 HRB1 HB1 HXB
    go_wp2_with fail
    go_loopw [5] (fun iv wr => ∃ i : Nat, i ≤ n ∧ iv = .int .i64 i ∧ ∃ wv : Value, Hid (wr.heap[X]? = some (.cells (mV t s Kc wv 0 false gb s 0 false) 51 (0, 0))) ∧ Hid (Th.OwnL 22 wr wc.heap.size wv i (Th.ucells i (partF t 3 s))) ∧ Hid (Th.KS (fun j => j = X) wc wr))
      (fun iv _ => n - (intOf iv).toNat)
    case atStart => exact ⟨0, by omega, by go_num, _, HX, Lib.hid (.nil _ _), Lib.hid (Th.KS.of_below (Below.refl _ _))⟩
    case round =>
      clear HX
      obtain ⟨i, hi, rfl, wv, HX, HWV, HKS⟩ := hrel
      rcases (by omega : i < n ∨ i = n) with hlt | heq
      · have hii : (i : Int) < n := by omega
        obtain ⟨wa, wcp, rfl, _, _⟩ := HWV.out.slice
        obtain ⟨r0, r1, r2⟩ := HLLC.out i hlt
        have hkc : ∀ {b o : Nat} {v : Value}, wc.cell? ⟨b, o, none⟩ = some v → b ≠ X → b < wc.heap.size → wr.cell? ⟨b, o, none⟩ = some v := fun {b o v} h hb hl => (World.cell?_of_block (w := wc) (a := ⟨b, o, none⟩) (HKS.out.block b hl hb)).trans h
        have hcl : cb < wc.heap.size := Th.blk_lt HCC.out
        have d0 := hkc (Th.newcell HCC.out 0 _ rfl) (by have := HLT.out; omega) hcl; have d1 := hkc (Th.newcell HCC.out 1 _ rfl) (by have := HLT.out; omega) hcl; have d2 := hkc (Th.newcell HCC.out 2 _ rfl) (by have := HLT.out; omega) hcl
        have r0 := hkc r0 HLX.out HXL.out.2; have r1 := hkc r1 HLX.out HXL.out.2; have r2 := hkc r2 HLX.out HXL.out.2
        have x3 : wr.cell? ⟨X, 3, none⟩ = some (.slice wa i wcp) := Th.newcell HX.out 3 _ rfl
        have HLC := Lib.hid (show ∀ y : Ext wr, (Instr.loadAt 24 (.pointer (some ⟨cb, 0, none⟩))).run Try.prog y.w = .ok (.agg #[.int .i64 t, .int .i64 s, .int .u64 Kc]) y.w from fun y => by
          have q0 := Ext.use (Ext.cells d0) y.h; have q1 := Ext.use (Ext.cells d1) y.h; have q2 := Ext.use (Ext.cells d2) y.h
          clear d0 d1 d2 r0 r1 r2 x3 hkc
          go_simp)
        have HLW := Lib.hid (show ∀ y : Ext wr, (Instr.loadAt 108 (.pointer (some ⟨lg, i * 3, none⟩))).run Try.prog y.w = .ok (.agg #[.int .i64 (wk t i), .int .i64 (wi t i), .int .i64 (wj t i)]) y.w from fun y => by
          have q0 := Ext.use (Ext.cells r0) y.h; have q1 := Ext.use (Ext.cells r1) y.h; have q2 := Ext.use (Ext.cells r2) y.h
          clear d0 d1 d2 r0 r1 r2 x3 hkc
          go_simp)
        have HLS := Lib.hid (show ∀ y : Ext wr, (Instr.loadAt 44 (.pointer (some ⟨X, 3, none⟩))).run Try.prog y.w = .ok (.slice wa i wcp) y.w from fun y => by
          have q0 := Ext.use (Ext.cells x3) y.h
          clear d0 d1 d2 r0 r1 r2 x3 hkc
          go_simp)
        have HXR := Lib.hid (show X < wr.heap.size from Th.blk_lt HX.out)
        clear hkc hcl d0 d1 d2 r0 r1 r2 x3
        go_upto_region 6 with fail
        refine Th.wp_region_K (fun w' => ∃ y : Ext wr, w' = y.w) 10 (by decide +kernel) ?_
        generalize hwd : World.drew wr = wd
        have hbd : Below wr.heap.size wr wd := by rw [← hwd]; exact (Below.refl _ _).drew
        clear hwd
        (refine Th.wpAnyK_takeY (i := 0) (v := ?_) rfl (by decide +kernel) (by decide +kernel) (by decide +kernel) (by decide) (fun _ _ _ h => h) (Or.inl ⟨by rfl, ?_⟩) (.inr ⟨⟨wd, hbd⟩, rfl⟩) ?_; rotate_left; (intro w; go_simp); (try with_reducible rfl))
        (try simp only [List.getElem_toArray, List.getElem_cons_succ, List.getElem_cons_zero, Act.put, List.setIfInBounds_toArray, List.set_cons_succ, List.set_cons_zero])
        (refine Th.wpAnyK_takeY (i := 1) (v := ?_) rfl (by decide +kernel) (by decide +kernel) (by decide +kernel) (by decide) (fun _ _ _ h => h) (Or.inl ⟨by rfl, ?_⟩) (.inr ⟨⟨wd, hbd⟩, rfl⟩) ?_; rotate_left; (intro w; go_simp); (try with_reducible rfl))
        (try simp only [List.getElem_toArray, List.getElem_cons_succ, List.getElem_cons_zero, Act.put, List.setIfInBounds_toArray, List.set_cons_succ, List.set_cons_zero])
        (refine Th.wpAnyK_take (i := 2) (v := .slice wa i wcp) [10] rfl (by decide +kernel) (by decide +kernel) (by decide +kernel) (by decide +kernel) (fun _ _ _ h => h) (Th.yields_loadK rfl 44 (.tmp 23) rfl rfl (by rintro _ ⟨y, rfl⟩; exact HLS.out y)) ⟨⟨wd, hbd⟩, rfl⟩ ?_)
        (try simp only [List.getElem_toArray, List.getElem_cons_succ, List.getElem_cons_zero, Act.put, List.setIfInBounds_toArray, List.set_cons_succ, List.set_cons_zero])
        (refine Th.wpAnyK_take (i := 3) (v := .agg #[.int .i64 t, .int .i64 s, .int .u64 Kc]) [8, 9, 10] rfl (by decide +kernel) (by decide +kernel) (by decide +kernel) (by decide +kernel) (fun _ _ _ h => h) (Th.yields_loadK rfl 24 (.tmp 1) rfl rfl (by rintro _ ⟨y, rfl⟩; exact HLC.out y)) ⟨⟨wd, hbd⟩, rfl⟩ ?_)
        (try simp only [List.getElem_toArray, List.getElem_cons_succ, List.getElem_cons_zero, Act.put, List.setIfInBounds_toArray, List.set_cons_succ, List.set_cons_zero])
        (refine Th.wpAnyK_takeY (i := 4) (v := ?_) rfl (by decide +kernel) (by decide +kernel) (by decide +kernel) (by decide) (fun _ _ _ h => h) (Or.inl ⟨by rfl, ?_⟩) (.inr ⟨⟨wd, hbd⟩, rfl⟩) ?_; rotate_left; (intro w; go_simp); (try with_reducible rfl))
        (try simp only [List.getElem_toArray, List.getElem_cons_succ, List.getElem_cons_zero, Act.put, List.setIfInBounds_toArray, List.set_cons_succ, List.set_cons_zero])
        (refine Th.wpAnyK_takeY (i := 5) (v := ?_) rfl (by decide +kernel) (by decide +kernel) (by decide +kernel) (by decide) (fun _ _ _ h => h) (Or.inl ⟨by rfl, ?_⟩) (.inr ⟨⟨wd, hbd⟩, rfl⟩) ?_; rotate_left; (intro w; go_simp); (try with_reducible rfl))
        (try simp only [List.getElem_toArray, List.getElem_cons_succ, List.getElem_cons_zero, Act.put, List.setIfInBounds_toArray, List.set_cons_succ, List.set_cons_zero])
        (refine Th.wpAnyK_takeY (i := 6) (v := ?_) rfl (by decide +kernel) (by decide +kernel) (by decide +kernel) (by decide) (fun _ _ _ h => h) (Or.inl ⟨by rfl, ?_⟩) (.inr ⟨⟨wd, hbd⟩, rfl⟩) ?_; rotate_left; (intro w; go_simp); (try with_reducible rfl))
        (try simp only [List.getElem_toArray, List.getElem_cons_succ, List.getElem_cons_zero, Act.put, List.setIfInBounds_toArray, List.set_cons_succ, List.set_cons_zero])
        (refine Th.wpAnyK_take (i := 7) (v := .agg #[.int .i64 (wk t i), .int .i64 (wi t i), .int .i64 (wj t i)]) [8, 9, 10] rfl (by decide +kernel) (by decide +kernel) (by decide +kernel) (by decide +kernel) (fun _ _ _ h => h) (Th.yields_loadK rfl 108 (.tmp 28) rfl rfl (by rintro _ ⟨y, rfl⟩; exact HLW.out y)) ⟨⟨wd, hbd⟩, rfl⟩ ?_)
        (try simp only [List.getElem_toArray, List.getElem_cons_succ, List.getElem_cons_zero, Act.put, List.setIfInBounds_toArray, List.set_cons_succ, List.set_cons_zero])
        (refine Th.wpAnyK_ready (rs := [8]) (by decide +kernel) (by simp) ?_; refine (Th.AllReadyK.cons rfl (fun K hK => ?_) Th.AllReadyK.nil))
        refine step_of rfl ?_
        go_step
        refine (rword t s Kc wd i t1 t2 s2 (by have := HN.out; omega)).mono ?_; rintro _ w5 ⟨rfl, hb5⟩
        have hb5 := below_on hbd hb5
        refine hK _ _ (.inr ⟨⟨w5, hb5⟩, rfl⟩) ?_
        clear hK K
        (try simp only [List.getElem_toArray, List.getElem_cons_succ, List.getElem_cons_zero, Act.put, List.setIfInBounds_toArray, List.set_cons_succ, List.set_cons_zero])
        (refine Th.wpAnyK_ready (rs := [9]) (by decide +kernel) (by simp) ?_; refine (Th.AllReadyK.cons rfl (fun K hK => ?_) Th.AllReadyK.nil))
        refine step_of rfl ?_
        go_step
        refine hK _ _ (.inr ⟨⟨_, below_new hb5 _⟩, rfl⟩) ?_
        clear hK K
        (try simp only [List.getElem_toArray, List.getElem_cons_succ, List.getElem_cons_zero, Act.put, List.setIfInBounds_toArray, List.set_cons_succ, List.set_cons_zero])
        (refine Th.wpAnyK_ready (rs := [10]) (by decide +kernel) (by simp) ?_; refine (Th.AllReadyK.cons rfl (fun K hK => ?_) Th.AllReadyK.nil))
        refine step_of rfl ?_
        obtain ⟨pa, pc, W2, hrun, ho, hg, hloc⟩ := Th.push1 Th.uU64 Th.infoU64 (by rfl) (HWV.out.below hb5) (.int .u64 (partF t 3 s i)) rfl (by omega) (by have := HKS.out.size; have := hb5.size; omega)
        refine wp_append_run (.tmp 24) (.tmp 31) 44 rfl rfl rfl rfl hrun ?_
        refine hK _ _ (.inl rfl) ?_
        clear hK K
        (try simp only [List.getElem_toArray, List.getElem_cons_succ, List.getElem_cons_zero, Act.put, List.setIfInBounds_toArray, List.set_cons_succ, List.set_cons_zero])
        (refine Th.wpAnyK_takeY (i := 11) (v := ?_) rfl (by decide +kernel) (by decide +kernel) (by decide +kernel) (by decide) (fun _ _ _ h => h) (Or.inl ⟨by rfl, ?_⟩) (.inl rfl) ?_; rotate_left; (intro w; go_simp); (try with_reducible rfl))
        (try simp only [List.getElem_toArray, List.getElem_cons_succ, List.getElem_cons_zero, Act.put, List.setIfInBounds_toArray, List.set_cons_succ, List.set_cons_zero])
        (refine Th.wpAnyK_takeY (i := 12) (v := ?_) rfl (by decide +kernel) (by decide +kernel) (by decide +kernel) (by decide) (fun _ _ _ h => h) (Or.inl ⟨by rfl, ?_⟩) (.inl rfl) ?_; rotate_left; (intro w; go_simp); (try with_reducible rfl))
        (try simp only [List.getElem_toArray, List.getElem_cons_succ, List.getElem_cons_zero, Act.put, List.setIfInBounds_toArray, List.set_cons_succ, List.set_cons_zero])
        have hmq : W2.heap[X]? = some (.cells (mV t s Kc (.slice wa i wcp) 0 false gb s 0 false) 51 (0, 0)) := (hg.block X (by have := HXR.out; have := hb5.size; omega) (fun e => by have := (HWV.out.blk e.symm).1; have := HXL.out.1; omega)).trans (Th.up hb5 HX.out)
        have cq2 : W2.cell? ⟨X, 3, none⟩ = some (.slice wa i wcp) := Th.newcell hmq 3 _ rfl
        have cq3 : ∀ i, W2.frozen? ⟨X, i, none⟩ = false := fun i => frozen_of_row _ _ _ _ _ hmq
        (refine Th.wpAnyK_ready (rs := [13]) (by decide +kernel) (by simp) ?_; refine (Th.AllReadyK.cons rfl (fun K hK => ?_) Th.AllReadyK.nil))
        refine step_of rfl ?_
        go_step
        refine hK _ _ (.inl rfl) ?_
        clear hK K
        refine Th.wpAnyK_done (by decide +kernel) ?_ _
        generalize hW : World.setCell _ _ _ = W3
        have HX3 := Lib.hid (show W3.heap[X]? = some (.cells (mV t s Kc (.slice pa (i + 1) pc) 0 false gb s 0 false) 51 (0, 0)) by rw [← hW]; exact heap_setCell_same _ X 3 _ _ _ hmq)
        have k3 : Th.KS (fun j => j = X) W2 W3 := by rw [← hW]; exact Th.KS.set W2 X 3 _
        have HWV3 := Lib.hid (show Th.OwnL 22 W3 wc.heap.size (.slice pa (i + 1) pc) (i + 1) (Th.ucells (i + 1) (partF t 3 s)) by
          rw [ucells_snoc]
          exact ho.of fun k hk => k3.block k (ho.blk hk).2.1 (fun e => by have := (ho.blk hk).1; have := HXL.out.1; omega))
        have HKS3 := Lib.hid (show Th.KS (fun j => j = X) wc W3 from ⟨k3.os.trans (hg.os.trans (hb5.os.trans HKS.out.os)), k3.tape.trans (hg.tape.trans (hb5.tape.trans HKS.out.tape)), k3.output.trans (hg.output.trans (hb5.output.trans HKS.out.output)), by have := hg.size; have := hb5.size; have := HKS.out.size; have := k3.size; omega, fun k hk hx => (k3.block k (by have := hg.size; have := hb5.size; have := HKS.out.size; omega) hx).trans ((hg.block k (by have := hb5.size; have := HKS.out.size; omega) (fun e => by have := (HWV.out.blk e.symm).1; omega)).trans ((hb5.block k (by have := HKS.out.size; omega)).trans (HKS.out.block k hk hx)))⟩)
        clear hW hmq cq2 cq3 k3 ho hg hloc hrun hb5 hbd HX HWV HKS HLC HLW HLS HXR
        go_wp2_with fail
        go_roundw
        case rel => exact ⟨i + 1, by omega, by go_num, _, HX3, HWV3, HKS3⟩
        case measure => simp [intOf]; omega
      · subst heq
        have hii : ¬ (i : Int) < i := by omega
        have k3 : Gd.K3 wc wr X X X := ⟨HKS.out.os, HKS.out.tape, HKS.out.output, HKS.out.size, fun k hk a _ _ => HKS.out.block k hk a⟩
        have HSR0 := Lib.hid (show Gd.SR wr gb s (fun i => decide (i < 0)) (fun _ => 0) by have h := Gd.SR.k3 HSR.out k3 HNE.out HNE.out HNE.out; simpa using h)
        clear k3 HSR
        go_wp2_with fail
        go_loopw [6] (fun iv wz => ∃ k : Nat, k ≤ 5 ∧ iv = .int .i64 ((k : Int) + 1) ∧ ∃ gb' gc : Nat, Hid (wz.heap[X]? = some (.cells (mV t s Kc wv 0 false gb' gc 0 false) 51 (0, 0))) ∧ Hid (Gd.SR wz gb' s (fun i => decide (i < k)) (fun _ => 0)) ∧ Hid (s ≤ gc ∧ gc ≤ 9223372036854775807 ∧ gb' ≠ X ∧ rb < gb') ∧ Hid (Th.OwnL 22 wz wc.heap.size wv i (Th.ucells i (partF t 3 s))) ∧ Hid (Th.KS (fun j => j = X) wc wz))
          (fun iv _ => 7 - (intOf iv).toNat)
        case atStart => exact ⟨0, by omega, by go_num, gb, s, HX, HSR0, Lib.hid ⟨Nat.le_refl _, by omega, HNE.out, HRG0.out⟩, HWV, HKS⟩
        case round =>
          clear HX HSR0 HWV HKS
          obtain ⟨k, hk, rfl, gb', gc, HX, HSR, HGC, HWV, HKS⟩ := hrel
          have HXR := Lib.hid (show X < wr.heap.size from Th.blk_lt HX.out)
          rcases (by omega : k < 5 ∨ k = 5) with hlt | heq
          · have hii : (k : Int) + 1 < 6 := by omega
            have x6 : wr.cell? ⟨X, 6, none⟩ = some (.slice (some ⟨gb', 0, none⟩) s gc) := Th.newcell HX.out 6 _ rfl
            have x7 : wr.cell? ⟨X, 7, none⟩ = some (.int .i64 0) := Th.newcell HX.out 7 _ rfl
            have D := Gd.rtake (c := gc) 0 HSR.out s2 (by omega) HGC.out.1 HGC.out.2.1 (Int.le_refl _) (by omega) ((k : Int) + 1)
            unfold Gd.RPost Gd.xV at D
            rw [(take5 s k hlt s1).2, if_pos (take5 s k hlt s1).1] at D
            have D := Lib.hid D
            go_wp2_with fail
            refine D.out.mono ?_; rintro _ w5 ⟨gb2, gc2, rfl, hsr2, hg1, hg2, hor, hb5⟩
            have HSR2 := Lib.hid hsr2
            have HGC2 := Lib.hid (show s ≤ gc2 ∧ gc2 ≤ 9223372036854775807 ∧ gb2 ≠ X ∧ rb < gb2 from ⟨hg1, hg2, by have := HXR.out; have := HGC.out; omega, by have := HGC.out; have := HLT.out; have := HXR.out; omega⟩)
            have HB5 := Lib.hid hb5
            clear hsr2 hg1 hg2 hor hb5 D x6 x7
            go_upto_region 11 with fail
            generalize hW : World.alloc _ _ = W6
            obtain ⟨hz, hbl⟩ := Th.heapnewE hW
            obtain ⟨z, hze⟩ : ∃ z, z = w5.heap.size := ⟨_, rfl⟩
            rw [← hze] at hz ⊢
            have z0 := Th.newcell hz 0 _ rfl; have z1 := Th.newcell hz 1 _ rfl
            have hb6 := below_on HB5.out hbl
            have hX6 := Th.up hb6 HX.out
            have x6 : W6.cell? ⟨X, 6, none⟩ = some (.slice (some ⟨gb', 0, none⟩) s gc) := Th.newcell hX6 6 _ rfl
            have x7 : W6.cell? ⟨X, 7, none⟩ = some (.int .i64 0) := Th.newcell hX6 7 _ rfl
            have xf : ∀ i, W6.frozen? ⟨X, i, none⟩ = false := fun i => frozen_of_row _ _ _ _ _ hX6
            have HX6 := Lib.hid hX6; have HB6 := Lib.hid hb6; have HSR6 := Lib.hid (HSR2.out.below hbl)
            clear hW hbl hz hze hb6 hX6
            go_upto_region 9 with fail
            generalize hW : World.setCell _ _ _ = W7
            have HX7 := Lib.hid (show W7.heap[X]? = some (.cells (mV t s Kc wv 0 false gb2 gc2 0 false) 51 (0, 0)) by rw [← hW]; exact heap_setCell_same _ X 7 _ _ _ (heap_setCell_same _ X 6 _ _ _ HX6.out))
            have k7 : Th.KS (fun j => j = X) W6 W7 := by rw [← hW]; exact (Th.KS.set W6 X 6 _).trans (Th.KS.set _ X 7 _)
            have kk : Th.KS (fun j => j = X) wr W7 := (Th.KS.of_below HB6.out).trans k7
            have k3 : Gd.K3 W6 W7 X X X := ⟨k7.os, k7.tape, k7.output, k7.size, fun k hk a _ _ => k7.block k hk a⟩
            have HSR7 := Lib.hid (Gd.SR.k3 HSR6.out k3 HGC2.out.2.2.1 HGC2.out.2.2.1 HGC2.out.2.2.1)
            have HWV7 := Lib.hid (HWV.out.of fun b hb => kk.block b (HWV.out.blk hb).2.1 (fun e => by have := (HWV.out.blk hb).1; have := HXL.out.1; omega))
            have HKS7 := Lib.hid (HKS.out.trans kk)
            clear hW k7 kk k3 x6 x7 xf z0 z1 HX6 HB6 HSR6 HX HSR HWV HKS HB5
            go_wp2_with fail
            go_roundw
            case rel => exact ⟨k + 1, by omega, by go_num, gb2, gc2, HX7, HSR7, HGC2, HWV7, HKS7⟩
            case measure => simp [intOf]; omega
          · subst heq
            have hii : ¬ ((5 : Nat) : Int) + 1 < 6 := by omega
            obtain ⟨wa, wcp, hwe, _, _⟩ := HWV.out.slice
            subst hwe
            obtain ⟨d, hdu, hdr⟩ := uM
            have HRR := Lib.hid ((HKS.out.block rb (Th.blk_lt HRC.out) (by have := HLT.out; omega)).trans HRC.out)
            have HRG := Lib.hid (mV_range HX.out)
            have HDU := Lib.hid hdu; have HDR := Lib.hid hdr
            clear hdu hdr
            go_wp2_with (first | (refine wpList_load_mid rfl 51 (.tmp 4) rfl X 0 rfl (mV t s Kc (.slice wa i wcp) 0 false gb' gc 0 false).toList d HRG.out HDU.out HDR.out infoM ?_) | (refine wpList_store_row (by rfl) 51 (.tmp 2) (.tmp 48) (by rfl) rb (mV t s Kc (.slice wa i wcp) 0 false gb' gc 0 false) (by rfl) (by rfl) 51 _ HRR.out infoM rfl (mV_one _ _ _ _ _ _ _ _ _ _ _ _) ?_))
            have hoth : ∀ k, k ≠ rb → (wr.setRow rb (mV t s Kc (.slice wa i wcp) 0 false gb' gc 0 false)).heap[k]? = wr.heap[k]? := fun k hk => setRow_other _ _ _ _ hk
            have hsz : (wr.setRow rb (mV t s Kc (.slice wa i wcp) 0 false gb' gc 0 false)).heap.size = wr.heap.size := by simp [World.setRow]
            have hrow : (wr.setRow rb (mV t s Kc (.slice wa i wcp) 0 false gb' gc 0 false)).heap[rb]? = some (.cells (mV t s Kc (.slice wa i wcp) 0 false gb' gc 0 false) 51 (0, 0)) := setRow_heap _ _ _ _ _ _ HRR.out
            have hos : (wr.setRow rb (mV t s Kc (.slice wa i wcp) 0 false gb' gc 0 false)).os = wr.os ∧ (wr.setRow rb (mV t s Kc (.slice wa i wcp) 0 false gb' gc 0 false)).tape = wr.tape ∧ (wr.setRow rb (mV t s Kc (.slice wa i wcp) 0 false gb' gc 0 false)).output = wr.output := ⟨rfl, rfl, rfl⟩
            generalize hW : World.setRow _ _ _ = W
            rw [hW] at hoth hsz hrow hos
            refine bodyPost_ret (v := .agg (mV t s Kc (.slice wa i wcp) 0 false gb' gc 0 false)) (fin16 (cs := (mV t s Kc (.slice wa i wcp) 0 false gb' gc 0 false).toList) rfl _ _ (mV_range hrow) rfl) rfl ?_
            rw [HQ.out, ← HN.out]
            have k3 : Gd.K3 wr W rb rb rb := ⟨hos.1, hos.2.1, hos.2.2, by omega, fun k hk a _ _ => hoth k a⟩
            have hne : gb' ≠ rb := by have := HGC.out; omega
            refine ⟨.slice wa i wcp, gb', gc, rfl, ownL_less (HWV.out.of fun b hb => hoth b (by have := (HWV.out.blk hb).1; have := HXL.out; have := HLT.out; omega)) HBV.out.size, Gd.SR.k3 HSR.out k3 hne hne hne, HGC.out.1, HGC.out.2.1, by have := HGC.out; have := HRE.out; omega, ?_⟩
            exact ⟨hos.1.trans (HKS.out.os.trans HBV.out.os), hos.2.1.trans (HKS.out.tape.trans HBV.out.tape), hos.2.2.trans (HKS.out.output.trans HBV.out.output), by have := HBV.out.size; have := HKS.out.size; omega, fun j hj => (hoth j (by have := HRE.out; omega)).trans ((HKS.out.block j (Nat.lt_of_lt_of_le hj HBV.out.size) (by have := HXW.out; omega)).trans (HBV.out.block j hj))⟩
end Go.Proofs.Ytkkdehniheajeaa
