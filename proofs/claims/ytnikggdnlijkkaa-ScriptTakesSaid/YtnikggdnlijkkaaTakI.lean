/- Layer 14: the reference's Take. (By gen_taki.py.) -/
import Derived.Test.YtnikggdnlijkkaaTakH
import Derived.Test.YtnikggdnlijkkaaScrK
import Derived.Deep.CutRange
namespace Go.Proofs.Ytnikggdnlijkkaa
open Go.RowKit WordM
set_option linter.unusedVariables false
set_option linter.unusedSimpArgs false
theorem rowr {w : World} {q i : Nat} {A : Array Value} {T : TypeId} (h : w.heap[q]? = some (.cells A T (0, 0))) (v : Value) (hv : A[i]? = some v) : w.cell? ⟨q, i, none⟩ = some v := by rw [cell_of_row _ _ _ _ _ (0, 0) h]; exact hv
abbrev zS : Array Value := #[.int .i64 0, .int .i64 0, .int .u64 0, .slice none 0 0]
def CutS (D : Nat → Int) (w : World) (p4 : Value) (wc : World) : Prop :=
  p4 = .pointer (some ⟨w.heap.size + 1, 0, none⟩) ∧ wc.heap[w.heap.size]? = some (.cells zS 29 (0, 0)) ∧ wc.heap[w.heap.size + 1]? = some (.cells #[.int .i64 (fT D), .int .i64 (fS D), .int .u64 (fK D), .slice none 0 0] 29 (0, 0)) ∧ Below w.heap.size w wc ∧ wc.heap.size = w.heap.size + 2
/-- The way through the entries: k of them are read. -/
structure RT (w : World) (D : Nat → Int) (T S Kc : Int) (k : Nat) (sl : Value) (V : World) : Prop where
  own : OwnE V (w.heap.size + 2) sl k (entAt D)
  bl : Below w.heap.size w V
  ha : V.heap[w.heap.size]? = some (.cells zS 29 (0, 0))
  hq : V.heap[w.heap.size + 1]? = some (.cells #[.int .i64 T, .int .i64 S, .int .u64 Kc, sl] 29 (0, 0))
theorem zset {w V : World} (h : V.heap[w.heap.size]? = some (.cells zS 29 (0, 0))) (hb : Below w.heap.size w V) :
    let W := (((V.setCell ⟨w.heap.size, 0, none⟩ (.int .i64 0)).setCell ⟨w.heap.size, 1, none⟩ (.int .i64 0)).setCell ⟨w.heap.size, 2, none⟩ (.int .u64 0)).setCell ⟨w.heap.size, 3, none⟩ (.slice none 0 0)
    W.heap[w.heap.size]? = some (.cells zS 29 (0, 0)) ∧ Below w.heap.size w W :=
  ⟨heap_setCell_same _ w.heap.size 3 _ _ _ (heap_setCell_same _ w.heap.size 2 _ _ _ (heap_setCell_same _ w.heap.size 1 _ _ _ (heap_setCell_same V w.heap.size 0 _ _ _ h))), ble (ble (ble (ble hb (Nat.le_refl _) _) (Nat.le_refl _) _) (Nat.le_refl _) _) (Nat.le_refl _) _⟩
theorem wpList_append_e1 {w : World} {ops : Array Oper} {rest : List Oper} {o : Oper} {a : Act} {Q : Exit → Act → World → Prop} (hgd : o.guard = none) (s x : Operand)
    (ho : o.op = .call { callee := .builtin .append, args := #[s, x], argTypes := #[27, 27] })
    (B : Nat) (v : Value) (n : Nat) (L : Nat → Ent) (g c : Nat) (hs : a.eval s = v) (hown : OwnE w B v n L) (hx : a.eval x = .slice (some ⟨g, 0, none⟩) 1 c) (hc : ∀ j u, (ecells (L n))[j]? = some u → w.cell? ⟨g, j, none⟩ = some u) (hn : n ≤ 100000) (hB : B ≤ w.heap.size)
    (h : ∀ v' w', OwnE w' B v' (n + 1) L → w.grownBy w' v.ownBlock → wpList Try.prog ops Q rest (a.put o.dst v') w') : wpList Try.prog ops Q (o :: rest) a w :=
  wpList_plain hgd fun _ hK => wp_append_e1 s x ho B v n L g c hs hown hx hc hn hB fun v' w' h1 h2 => hK _ _ (h v' w' h1 h2)
theorem RT.al {w : World} {D : Nat → Int} {T S Kc : Int} {k : Nat} {sl : Value} {V : World} (h : RT w D T S Kc k sl V) (o : Obj) : RT w D T S Kc k sl (V.alloc o) :=
  ⟨World.ownsRow.alloc h.own _, h.bl.alloc h.bl.size _, (Below.heap_alloc _ _ _ (Array.getElem?_eq_some_iff.1 h.ha).1).trans h.ha, (Below.heap_alloc _ _ _ (Array.getElem?_eq_some_iff.1 h.hq).1).trans h.hq⟩
theorem RT.drew {w : World} {D : Nat → Int} {T S Kc : Int} {k : Nat} {sl : Value} {V : World} (h : RT w D T S Kc k sl V) : RT w D T S Kc k sl V.drew := ⟨h.own, h.bl.drew, h.ha, h.hq⟩
/-- A block of its own is written. -/
theorem RT.st {w : World} {D : Nat → Int} {T S Kc : Int} {k : Nat} {sl : Value} {V : World} (h : RT w D T S Kc k sl V) {q i : Nat} (hq : w.heap.size + 2 ≤ q) (hn : ∀ b, sl.ownBlock = some b → b < q) (u : Value) : RT w D T S Kc k sl (V.setCell ⟨q, i, none⟩ u) := by
  refine ⟨⟨h.own.1, ?_⟩, ble h.bl (by omega) _, (heap_setCell_other V ⟨q, i, none⟩ _ u (by show w.heap.size ≠ q; omega)).trans h.ha, (heap_setCell_other V ⟨q, i, none⟩ _ u (by show w.heap.size + 1 ≠ q; omega)).trans h.hq⟩
  rcases h.own.2 with h0 | ⟨g, cap, cur, hv, hb, hgg, rest⟩
  · exact .inl h0
  · refine .inr ⟨g, cap, cur, hv, hb, ?_, rest⟩
    have := hn g (by rw [hv]; rfl)
    exact (heap_setCell_other V ⟨q, i, none⟩ g u (by show g ≠ q; omega)).trans hgg
/-- The entry is appended, and the script's row stored. -/
theorem RT.next {w : World} {D : Nat → Int} {T S Kc : Int} {k : Nat} {sl sl' : Value} {V V' : World} (h : RT w D T S Kc k sl V) (ho : OwnE V' (w.heap.size + 2) sl' (k + 1) (entAt D)) (hg : V.grownBy V' sl.ownBlock) : RT w D T S Kc (k + 1) sl' (V'.setCell ⟨w.heap.size + 1, 3, none⟩ sl') := by
  have hl := fun b hb => (own_blk h.own b hb).1
  have g0 := (hg.block w.heap.size (Array.getElem?_eq_some_iff.1 h.ha).1 (fun e => by have := hl _ e.symm; omega)).trans h.ha
  have g1 := (hg.block (w.heap.size + 1) (Array.getElem?_eq_some_iff.1 h.hq).1 (fun e => by have := hl _ e.symm; omega)).trans h.hq
  have hb : Below w.heap.size w V' := h.bl.grown hg h.bl.size (fun b hb => by have := hl b hb; omega)
  exact ⟨ownsRow_setCell_below ho (a := ⟨w.heap.size + 1, 3, none⟩) (by show w.heap.size + 1 < _; omega) _, ble hb (by omega) _, (heap_setCell_other V' ⟨w.heap.size + 1, 3, none⟩ _ _ (by show w.heap.size ≠ w.heap.size + 1; omega)).trans g0, heap_setCell_same V' (w.heap.size + 1) 3 _ _ _ g1⟩
theorem ent_call (D : Nat → Int) (p : Nat) (d : Int) (hd : D p = d) (h7 : eBg d = true) (ht : eTh d = d % 64) : entD (dropD D p) = ⟨d % 64, true, D (p + 1), wrap64 (numB (dropD D (p + 2)) 8), wrap64 (numB (dropD D (p + 10)) 8), wrap64 (numB (dropD D (p + 18)) 8), numB (dropD D (p + 26)) 2⟩ ∧ lenD (dropD D p) = 28 := by
  have e0 : dropD D p 0 = d := hd
  unfold entD lenD
  rw [e0, h7, ht]
  simp only [if_true]
  unfold cOp cKey cVal cHi cLim
  simp only [dropD_drop, num_one]
  refine ⟨?_, ?_⟩ <;> first | rfl | trivial
theorem ent_plain (D : Nat → Int) (p : Nat) (d : Int) (hd : D p = d) (h7 : eBg d = false) (ht : eTh d = d % 64) : entD (dropD D p) = ⟨d % 64, false, 0, 0, 0, 0, 0⟩ ∧ lenD (dropD D p) = 1 := by
  have e0 : dropD D p 0 = d := hd
  unfold entD lenD
  rw [e0, h7, ht]
  exact ⟨rfl, rfl⟩
set_option maxRecDepth 16000 in
set_option maxHeartbeats 4000000 in
theorem rtake_loop (D : Nat → Int) (n : Nat) (v : Value) (w : World) (hL : BR w v n D) (hD : BY D) (K : Nat) (e T1 S1 K1 : Int) (cnt : Nat) (hn : 11 ≤ n) (hn2 : n ≤ 100000) (hm : mayC (fT D) (fS D) (fK D) = true) (hg : ∀ j, j < K → Goes D n j) (hs : Stops D n K e) (he : (e = 0 ∧ T1 = fT D ∧ S1 = fS D ∧ K1 = fK D ∧ cnt = K) ∨ (e ≠ 0 ∧ T1 = 0 ∧ S1 = 0 ∧ K1 = 0 ∧ cnt = 0)) :
    Calls Try.prog 7 #[v] w fun E w' => ∃ sl, E = .returned (.tuple #[.agg #[.int .i64 T1, .int .i64 S1, .int .u64 K1, sl], .int .i64 e]) ∧ ER w' sl cnt (entAt D) ∧ Below w.heap.size w w' := by
  refine Calls.veil fun Q HQ => ?_
  have HG := Lib.hid hg
  have HP := Lib.hid (goes_le hn hg)
  have HS := Lib.hid (And.intro hs he)
  clear hg hs he
  have HD := Lib.hid hD
  have RAT := Lib.hid (fun (V : World) (hb : Below w.heap.size w V) (z q : Int) (i m : Nat) (hz : z = i) (hq : q = m) (h : i + m ≤ n) (hm : 0 < m ∧ m ≤ 8) => (show Calls Try.prog 16 #[v, .int .i64 z, .int .i64 q] V (fun E w' => E = .returned (.int .u64 (numB (dropD D i) m)) ∧ V = w') from by
    subst hz; subst hq
    exact (rat D n i m v V (hL.below hb) hD h hm hn2).mono fun _ _ h => ⟨h.1, h.2.symm⟩))
  have hn1 : ¬ (n : Int) < 11 := by omega
  obtain ⟨g, o, c, hv, a1, a2, hC⟩ := hL.parts (by omega)
  have HC := Lib.hid (show ∀ y : Ext w, y.w.cell? ⟨g, o, none⟩ = some (.int .u8 (D 0)) from Ext.cells (hC 0 (by omega)))
  have RA := Lib.hid (fun (i m : Nat) (V : World) (hb : Below w.heap.size w V) (h : i + m ≤ n) (hm : 0 < m ∧ m ≤ 8) => rat D n i m v V (hL.below hb) hD h hm (by omega))
  have R1 : Hid (∀ V, Below w.heap.size w V → Calls Try.prog 16 #[v, .int .i64 1, .int .i64 2] V fun E w' => E = .returned (.int .u64 (fS D)) ∧ V = w') := Lib.hid fun V hb => (RA.out 1 2 V hb (by omega) (by decide)).mono fun _ _ h => ⟨h.1, h.2.symm⟩
  have R2 : Hid (∀ V, Below w.heap.size w V → Calls Try.prog 16 #[v, .int .i64 3, .int .i64 8] V fun E w' => E = .returned (.int .u64 (fK D)) ∧ V = w') := Lib.hid fun V hb => (RA.out 3 8 V hb (by omega) (by decide)).mono fun _ _ h => ⟨h.1, h.2.symm⟩
  have HL0 := Lib.hid hL
  have HC0 := Lib.hid hC
  subst hv
  obtain ⟨x1, x2⟩ := hD 0
  have xi := wrapi_sm (D 0) x1 (by omega)
  have xw := wrap_sm (D 0) x1 (by omega)
  have HT := Lib.hid (show D 0 = fT D from (num_one D).symm)
  obtain ⟨y1, y2⟩ := num_sm (hD.drop 1) (m := 2) (by decide)
  have yi : IntKind.i64.wrap (fS D) = fS D := wrapi_sm _ y1 (Int.lt_trans y2 (by decide))
  have yw : wrap64 (fS D) = fS D := wrap_sm _ y1 (Int.lt_trans y2 (by decide))
  have RM := Lib.hid (fun V => rmayC (fT D) (fS D) (fK D) V)
  rw [hm] at RM
  rw [HT.out] at xi xw HC
  clear hL hC RA x1 x2 y1 y2
  generalize hx : fT D = x at *
  generalize hy : fS D = y at *
  generalize hz : fK D = z at *
  have HX := Lib.hid (And.intro hx (And.intro hy hz))
  clear hx hy hz
  go_enter Try.func7, Try.ntmps7
  go_upto_region 3 with fail
  go_cut [4] from 8 to 22 (fun p4 wc => CutS D w p4 wc)
  case first =>
    generalize hV0 : World.alloc w _ = V0
    refine wp_region_K (fun w' => ∃ y : Ext w, w' = y.w) 12 (by decide +kernel) ?_
    generalize hV1 : World.drew V0 = V1
    have hV2 : V1.heap[w.heap.size]? = some (.cells zS 29 (0, 0)) ∧ Below w.heap.size w V1 ∧ V1.heap.size = w.heap.size + 1 := by
      rw [← hV1, ← hV0]
      exact ⟨heap_alloc_new w _, ((Below.refl _ _).alloc (Nat.le_refl _) _).drew, by rw [heap_drew]; simp⟩
    clear hV1 hV0
    have S1 : ∃ y : Ext w, V1 = y.w := ⟨⟨V1, hV2.2.1⟩, rfl⟩
    have S2 : ∀ o, ∃ y : Ext w, World.alloc V1 o = y.w := fun o => ⟨⟨V1.alloc o, hV2.2.1.alloc hV2.2.1.size _⟩, rfl⟩
    have hsz := hV2.2.2
    have n0 : 0 < n := by omega
    have n1 : (0 : Int) < (n : Int) := by omega
    have n2 : ¬ n = 0 := by omega
    (refine wpAnyK_takeY (i := 0) (v := ?_) rfl (by decide +kernel) (by decide +kernel) (by decide +kernel) (by decide) (fun _ _ _ h => h) (Or.inl ⟨by rfl, ?_⟩) (.inr S1) ?_; rotate_left; (intro w; go_simp); (try with_reducible rfl)); (try simp only [List.getElem_toArray, List.getElem_cons_succ, List.getElem_cons_zero, Act.put, List.setIfInBounds_toArray, List.set_cons_succ, List.set_cons_zero])
    (refine wpAnyK_takeY (i := 1) (v := ?_) rfl (by decide +kernel) (by decide +kernel) (by decide +kernel) (by decide) (fun _ _ _ h => h) (Or.inl ⟨by rfl, ?_⟩) (.inr S1) ?_; rotate_left; (intro w; go_simp); (try with_reducible rfl)); (try simp only [List.getElem_toArray, List.getElem_cons_succ, List.getElem_cons_zero, Act.put, List.setIfInBounds_toArray, List.set_cons_succ, List.set_cons_zero])
    (refine wpAnyK_take (i := 2) (v := .int .u8 x) [3, 9, 10, 12] rfl (by decide +kernel) (by decide +kernel) (by decide +kernel) (by decide +kernel) (fun _ _ _ h => h) (yields_loadK rfl 5 (.tmp 13) rfl rfl (by rintro _ ⟨y, rfl⟩; have hy := HC.out y; go_simp)) (by exact S1) ?_); (try simp only [List.getElem_toArray, List.getElem_cons_succ, List.getElem_cons_zero, Act.put, List.setIfInBounds_toArray, List.set_cons_succ, List.set_cons_zero])
    (refine wpAnyK_takeY (i := 3) (v := ?_) rfl (by decide +kernel) (by decide +kernel) (by decide +kernel) (by decide) (fun _ _ _ h => h) (Or.inl ⟨by rfl, ?_⟩) (.inr S1) ?_; rotate_left; (intro w; go_simp); (try with_reducible rfl)); (try simp only [List.getElem_toArray, List.getElem_cons_succ, List.getElem_cons_zero, Act.put, List.setIfInBounds_toArray, List.set_cons_succ, List.set_cons_zero])
    (refine wpAnyK_takeY (i := 4) (v := ?_) rfl (by decide +kernel) (by decide +kernel) (by decide +kernel) (by decide) (fun _ _ _ h => h) (Or.inl ⟨by rfl, ?_⟩) (.inr S1) ?_; rotate_left; (intro w; go_simp); (try with_reducible rfl)); (try simp only [List.getElem_toArray, List.getElem_cons_succ, List.getElem_cons_zero, Act.put, List.setIfInBounds_toArray, List.set_cons_succ, List.set_cons_zero])
    (refine wpAnyK_takeY (i := 7) (v := ?_) rfl (by decide +kernel) (by decide +kernel) (by decide +kernel) (by decide) (fun _ _ _ h => h) (Or.inl ⟨by rfl, ?_⟩) (.inr S1) ?_; rotate_left; (intro w; go_simp); (try with_reducible rfl)); (try simp only [List.getElem_toArray, List.getElem_cons_succ, List.getElem_cons_zero, Act.put, List.setIfInBounds_toArray, List.set_cons_succ, List.set_cons_zero])
    (refine wpAnyK_ready (rs := [5, 11]) (by decide +kernel) (by simp) ?_; refine (AllReadyK.cons rfl (fun K hK => ?_) (AllReadyK.cons rfl (fun K hK => ?_) AllReadyK.nil)))
    · refine step_of rfl ?_
      go_step
      refine (R1.out _ hV2.2.1).mono ?_; rintro _ _ ⟨rfl, rfl⟩
      refine hK _ _ (.inr (S1)) ?_
      clear hK K
      (try simp only [List.getElem_toArray, List.getElem_cons_succ, List.getElem_cons_zero, Act.put, List.setIfInBounds_toArray, List.set_cons_succ, List.set_cons_zero])
      (refine wpAnyK_takeY (i := 6) (v := ?_) rfl (by decide +kernel) (by decide +kernel) (by decide +kernel) (by decide) (fun _ _ _ h => h) (Or.inl ⟨by rfl, ?_⟩) (.inr S1) ?_; rotate_left; (intro w; go_simp); (try with_reducible rfl)); (try simp only [List.getElem_toArray, List.getElem_cons_succ, List.getElem_cons_zero, Act.put, List.setIfInBounds_toArray, List.set_cons_succ, List.set_cons_zero])
      (refine wpAnyK_ready (rs := [8, 11]) (by decide +kernel) (by simp) ?_; refine (AllReadyK.cons rfl (fun K hK => ?_) (AllReadyK.cons rfl (fun K hK => ?_) AllReadyK.nil)))
      · refine step_of rfl ?_
        go_step
        refine (R2.out _ hV2.2.1).mono ?_; rintro _ _ ⟨rfl, rfl⟩
        refine hK _ _ (.inr (S1)) ?_
        clear hK K
        (try simp only [List.getElem_toArray, List.getElem_cons_succ, List.getElem_cons_zero, Act.put, List.setIfInBounds_toArray, List.set_cons_succ, List.set_cons_zero])
        (refine wpAnyK_takeY (i := 9) (v := ?_) rfl (by decide +kernel) (by decide +kernel) (by decide +kernel) (by decide) (fun _ _ _ h => h) (Or.inl ⟨by rfl, ?_⟩) (.inr S1) ?_; rotate_left; (intro w; go_simp); (try with_reducible rfl)); (try simp only [List.getElem_toArray, List.getElem_cons_succ, List.getElem_cons_zero, Act.put, List.setIfInBounds_toArray, List.set_cons_succ, List.set_cons_zero])
        (refine wpAnyK_takeY (i := 10) (v := ?_) rfl (by decide +kernel) (by decide +kernel) (by decide +kernel) (by decide) (fun _ _ _ h => h) (Or.inl ⟨by rfl, ?_⟩) (.inr S1) ?_; rotate_left; (intro w; go_simp); (try with_reducible rfl)); (try simp only [List.getElem_toArray, List.getElem_cons_succ, List.getElem_cons_zero, Act.put, List.setIfInBounds_toArray, List.set_cons_succ, List.set_cons_zero])
        (refine wpAnyK_ready (rs := [11]) (by decide +kernel) (by simp) ?_; refine (AllReadyK.cons rfl (fun K hK => ?_) AllReadyK.nil))
        refine step_of rfl ?_
        go_step
        refine hK _ _ (.inr (S2 _)) ?_
        clear hK K
        (try simp only [List.getElem_toArray, List.getElem_cons_succ, List.getElem_cons_zero, Act.put, List.setIfInBounds_toArray, List.set_cons_succ, List.set_cons_zero])
        (refine wpAnyK_ready (rs := [12]) (by decide +kernel) (by simp) ?_; refine (AllReadyK.cons rfl (fun K hK => ?_) AllReadyK.nil))
        refine step_of rfl ?_
        go_step
        refine hK _ _ (.inl rfl) ?_
        clear hK K
        refine wpAnyK_done (by decide +kernel) ?_ _
        generalize hwf : World.alloc V1 _ = wf
        have hfin : CutS D w (.pointer (some ⟨w.heap.size + 1, 0, none⟩)) wf := by
          rw [← hwf]
          exact ⟨rfl, (Below.heap_alloc _ _ _ (by omega)).trans hV2.1, by rw [HX.out.1, HX.out.2.1, HX.out.2.2, ← hsz]; exact heap_alloc_new V1 _, hV2.2.1.alloc hV2.2.1.size _, by simp; omega⟩
        have HFIN := Lib.hid hfin
        clear hfin hwf
        go_wp2_with fail
        go_meet
        case rel => exact HFIN.out
      · refine step_of rfl ?_
        go_step
        refine hK _ _ (.inr (S2 _)) ?_
        clear hK K
        (try simp only [List.getElem_toArray, List.getElem_cons_succ, List.getElem_cons_zero, Act.put, List.setIfInBounds_toArray, List.set_cons_succ, List.set_cons_zero])
        (refine wpAnyK_ready (rs := [8]) (by decide +kernel) (by simp) ?_; refine (AllReadyK.cons rfl (fun K hK => ?_) AllReadyK.nil))
        refine step_of rfl ?_
        go_step
        refine (R2.out _ (hV2.2.1.alloc hV2.2.1.size _)).mono ?_; rintro _ _ ⟨rfl, rfl⟩
        refine hK _ _ (.inr (S2 _)) ?_
        clear hK K
        (try simp only [List.getElem_toArray, List.getElem_cons_succ, List.getElem_cons_zero, Act.put, List.setIfInBounds_toArray, List.set_cons_succ, List.set_cons_zero])
        (refine wpAnyK_takeY (i := 9) (v := ?_) rfl (by decide +kernel) (by decide +kernel) (by decide +kernel) (by decide) (fun _ _ _ h => h) (Or.inl ⟨by rfl, ?_⟩) (.inr (S2 _)) ?_; rotate_left; (intro w; go_simp); (try with_reducible rfl)); (try simp only [List.getElem_toArray, List.getElem_cons_succ, List.getElem_cons_zero, Act.put, List.setIfInBounds_toArray, List.set_cons_succ, List.set_cons_zero])
        (refine wpAnyK_takeY (i := 10) (v := ?_) rfl (by decide +kernel) (by decide +kernel) (by decide +kernel) (by decide) (fun _ _ _ h => h) (Or.inl ⟨by rfl, ?_⟩) (.inr (S2 _)) ?_; rotate_left; (intro w; go_simp); (try with_reducible rfl)); (try simp only [List.getElem_toArray, List.getElem_cons_succ, List.getElem_cons_zero, Act.put, List.setIfInBounds_toArray, List.set_cons_succ, List.set_cons_zero])
        (refine wpAnyK_ready (rs := [12]) (by decide +kernel) (by simp) ?_; refine (AllReadyK.cons rfl (fun K hK => ?_) AllReadyK.nil))
        refine step_of rfl ?_
        go_step
        refine hK _ _ (.inl rfl) ?_
        clear hK K
        refine wpAnyK_done (by decide +kernel) ?_ _
        generalize hwf : World.alloc V1 _ = wf
        have hfin : CutS D w (.pointer (some ⟨w.heap.size + 1, 0, none⟩)) wf := by
          rw [← hwf]
          exact ⟨rfl, (Below.heap_alloc _ _ _ (by omega)).trans hV2.1, by rw [HX.out.1, HX.out.2.1, HX.out.2.2, ← hsz]; exact heap_alloc_new V1 _, hV2.2.1.alloc hV2.2.1.size _, by simp; omega⟩
        have HFIN := Lib.hid hfin
        clear hfin hwf
        go_wp2_with fail
        go_meet
        case rel => exact HFIN.out
    · refine step_of rfl ?_
      go_step
      refine hK _ _ (.inr (S2 _)) ?_
      clear hK K
      (try simp only [List.getElem_toArray, List.getElem_cons_succ, List.getElem_cons_zero, Act.put, List.setIfInBounds_toArray, List.set_cons_succ, List.set_cons_zero])
      (refine wpAnyK_ready (rs := [5]) (by decide +kernel) (by simp) ?_; refine (AllReadyK.cons rfl (fun K hK => ?_) AllReadyK.nil))
      refine step_of rfl ?_
      go_step
      refine (R1.out _ (hV2.2.1.alloc hV2.2.1.size _)).mono ?_; rintro _ _ ⟨rfl, rfl⟩
      refine hK _ _ (.inr (S2 _)) ?_
      clear hK K
      (try simp only [List.getElem_toArray, List.getElem_cons_succ, List.getElem_cons_zero, Act.put, List.setIfInBounds_toArray, List.set_cons_succ, List.set_cons_zero])
      (refine wpAnyK_takeY (i := 6) (v := ?_) rfl (by decide +kernel) (by decide +kernel) (by decide +kernel) (by decide) (fun _ _ _ h => h) (Or.inl ⟨by rfl, ?_⟩) (.inr (S2 _)) ?_; rotate_left; (intro w; go_simp); (try with_reducible rfl)); (try simp only [List.getElem_toArray, List.getElem_cons_succ, List.getElem_cons_zero, Act.put, List.setIfInBounds_toArray, List.set_cons_succ, List.set_cons_zero])
      (refine wpAnyK_ready (rs := [8]) (by decide +kernel) (by simp) ?_; refine (AllReadyK.cons rfl (fun K hK => ?_) AllReadyK.nil))
      refine step_of rfl ?_
      go_step
      refine (R2.out _ (hV2.2.1.alloc hV2.2.1.size _)).mono ?_; rintro _ _ ⟨rfl, rfl⟩
      refine hK _ _ (.inr (S2 _)) ?_
      clear hK K
      (try simp only [List.getElem_toArray, List.getElem_cons_succ, List.getElem_cons_zero, Act.put, List.setIfInBounds_toArray, List.set_cons_succ, List.set_cons_zero])
      (refine wpAnyK_takeY (i := 9) (v := ?_) rfl (by decide +kernel) (by decide +kernel) (by decide +kernel) (by decide) (fun _ _ _ h => h) (Or.inl ⟨by rfl, ?_⟩) (.inr (S2 _)) ?_; rotate_left; (intro w; go_simp); (try with_reducible rfl)); (try simp only [List.getElem_toArray, List.getElem_cons_succ, List.getElem_cons_zero, Act.put, List.setIfInBounds_toArray, List.set_cons_succ, List.set_cons_zero])
      (refine wpAnyK_takeY (i := 10) (v := ?_) rfl (by decide +kernel) (by decide +kernel) (by decide +kernel) (by decide) (fun _ _ _ h => h) (Or.inl ⟨by rfl, ?_⟩) (.inr (S2 _)) ?_; rotate_left; (intro w; go_simp); (try with_reducible rfl)); (try simp only [List.getElem_toArray, List.getElem_cons_succ, List.getElem_cons_zero, Act.put, List.setIfInBounds_toArray, List.set_cons_succ, List.set_cons_zero])
      (refine wpAnyK_ready (rs := [12]) (by decide +kernel) (by simp) ?_; refine (AllReadyK.cons rfl (fun K hK => ?_) AllReadyK.nil))
      refine step_of rfl ?_
      go_step
      refine hK _ _ (.inl rfl) ?_
      clear hK K
      refine wpAnyK_done (by decide +kernel) ?_ _
      generalize hwf : World.alloc V1 _ = wf
      have hfin : CutS D w (.pointer (some ⟨w.heap.size + 1, 0, none⟩)) wf := by
        rw [← hwf]
        exact ⟨rfl, (Below.heap_alloc _ _ _ (by omega)).trans hV2.1, by rw [HX.out.1, HX.out.2.1, HX.out.2.2, ← hsz]; exact heap_alloc_new V1 _, hV2.2.1.alloc hV2.2.1.size _, by simp; omega⟩
      have HFIN := Lib.hid hfin
      clear hfin hwf
      go_wp2_with fail
      go_meet
      case rel => exact HFIN.out
  case rest =>
    obtain ⟨rfl, r1, r2, r3, r4⟩ := hcut
    rw [HX.out.1, HX.out.2.1, HX.out.2.2] at r2
    have HR := Lib.hid (And.intro r1 (And.intro r2 (And.intro r3 r4)))
    have d0 := rowr r2 (i := 0) _ rfl
    have d1 := rowr r2 (i := 1) _ rfl
    have d2 := rowr r2 (i := 2) _ rfl
    clear r1 r2 r3 r4 R1 R2
    go_wp2_with fail
    refine (RM.out _).mono ?_; rintro _ w2 ⟨rfl, hb2⟩
    have HR2 := Lib.hid (show w2.heap[w.heap.size]? = some (.cells zS 29 (0, 0)) ∧ w2.heap[w.heap.size + 1]? = some (.cells #[.int .i64 x, .int .i64 y, .int .u64 z, .slice none 0 0] 29 (0, 0)) ∧ Below w.heap.size w w2 from
      ⟨(hb2.block _ (by have := HR.out.2.2.2; omega)).trans HR.out.1, (hb2.block _ (by have := HR.out.2.2.2; omega)).trans HR.out.2.1, below_on HR.out.2.2.1 hb2⟩)
    have hs2 := hb2.size
    have HS2 := Lib.hid (show w.heap.size + 2 ≤ w2.heap.size by have := HR.out.2.2.2; omega)
    clear hb2 d0 d1 d2 RM HR hs2
    have RT0 := Lib.hid (show RT w D x y z 0 (.slice none 0 0) w2 from ⟨⟨rfl, .inl ⟨rfl, rfl⟩⟩, HR2.out.2.2, HR2.out.1, HR2.out.2.1⟩)
    clear HR2
    go_wp2_with fail
    have HN2 := Lib.hid hn2
    clear xi xw yi yw hD hn hn2 hn1
    go_loopw [5] (fun iv wr => ∃ k sl, k ≤ K ∧ iv = .int .i64 ((posD D k : Nat) : Int) ∧ Hid (RT w D x y z k sl wr) ∧ Hid (w.heap.size + 2 ≤ wr.heap.size))
      (fun iv _ => n - (intOf iv).toNat)
    case atStart => exact ⟨0, _, by omega, rfl, RT0, HS2⟩
    case round =>
      obtain ⟨k, sl, hk, rfl, HJ, HZ⟩ := hrel
      clear RT0 HS2
      have hle := HP.out k hk
      obtain ⟨p2, c2, rfl, e1, e2⟩ := (own_ER HJ.out.own).slice
      have q3 := rowr HJ.out.hq (i := 3) _ rfl
      rcases (by omega : k < K ∨ k = K) with hlt | heq
      · obtain ⟨g1, g2, g3, g4⟩ := HG.out k hlt
        have hbyte := Ext.cell ⟨wr, HJ.out.bl⟩ (HC0.out (posD D k) g1)
        simp only at hbyte
        obtain ⟨x1, x2⟩ := HD.out (posD D k)
        have di := wrapi_sm _ x1 (by omega)
        have dw := wrap_sm _ x1 (by omega)
        obtain ⟨b1, b2, b3⟩ := bits_of _ x1 x2
        have HK6 := Lib.hid g2
        have HLT := Lib.hid hlt
        cases h7 : eBg (D (posD D k))
        · obtain ⟨n1, n2⟩ := ent_plain D (posD D k) _ rfl h7 b2
          have HPN := Lib.hid (show posD D (k + 1) = posD D k + 1 by rw [posD, n2])
          have HEK := Lib.hid (show entAt D k = _ from n1)
          generalize posD D k = p at *
          generalize D p = d at *
          have k1 : ((k : Int) == 60000) = false := by simp; omega
          have k2 : decide ((k : Int) = 60000) = false := decide_eq_false (by omega)
          have hp1 : (p : Int) < (n : Int) := by omega
          have hno : d / 64 % 2 ≠ 1 := fun h => by rw [b1] at g3; exact absurd h (of_decide_eq_false g3)
          have hno2 : d / 64 % 2 = 0 := by omega
          have hb8 : ¬ 128 ≤ d := fun h => by rw [b3] at h7; exact absurd h (of_decide_eq_false h7)
          have hb9 : d < 128 := by omega
          clear h7 g3 g4 b1 b2 b3 n1 n2 g2
          go_upto_region 20 with fail
          generalize hV : World.alloc wr _ = V
          have HJV := Lib.hid (show RT w D x y z k (.slice p2 k c2) V by rw [← hV]; exact HJ.out.al _)
          have HB1 := Lib.hid (show V.heap[wr.heap.size]? = some (.cells #[.int .i64 (d % 64), .bool false, .int .i64 0, .int .i64 0, .int .i64 0, .int .i64 0, .int .i64 0] 54 (0, 0)) by rw [← hV]; exact heap_alloc_new wr _)
          have HW2 := Lib.hid (show w.heap.size + 2 ≤ V.heap.size by rw [← hV]; have := HZ.out; simp; omega)
          clear hV q3 hbyte
          have m0 := rowr HB1.out (i := 0) _ rfl
          have m1 := rowr HB1.out (i := 1) _ rfl
          have m2 := rowr HB1.out (i := 2) _ rfl
          have m3 := rowr HB1.out (i := 3) _ rfl
          have m4 := rowr HB1.out (i := 4) _ rfl
          have m5 := rowr HB1.out (i := 5) _ rfl
          have m6 := rowr HB1.out (i := 6) _ rfl
          have q5 := rowr HJV.out.hq (i := 3) _ rfl
          have HEC := Lib.hid (show ∀ (o : Obj) j u, o = .cells #[.int .i64 (d % 64), .bool false, .int .i64 0, .int .i64 0, .int .i64 0, .int .i64 0, .int .i64 0] 54 → (ecells (entAt D k))[j]? = some u → (World.alloc V o).cell? ⟨World.heap V |>.size, j, none⟩ = some u by
            intro o j u ho hu
            rw [HEK.out] at hu
            rw [ho, cell_of_row _ _ _ _ _ (0, 0) (heap_alloc_new V _)]
            rw [← List.getElem?_toArray] at hu
            exact hu)
          go_wp2_with (at_builtin; refine wpList_append_e1 rfl (.tmp 92) (.tmp 94) rfl (w.heap.size + 2) _ k (entAt D) V.heap.size 1 rfl (World.ownsRow.alloc HJV.out.own _) rfl (fun j u hu => HEC.out _ j u rfl hu) (by have := HK6.out; omega) (by have := HW2.out; simp; omega) ?_)
          intro v5 w5 hown hg
          have R5 := Lib.hid (RT.next (HJV.out.al _) hown hg)
          have Z5 := Lib.hid (show w.heap.size + 2 ≤ w5.heap.size by have := hg.size; have := HW2.out; simp at this ⊢; simp at *; omega)
          have q6 : w5.cell? ⟨w.heap.size + 1, 3, none⟩ = some (.slice p2 k c2) := by
            have hl := fun b hb => (own_blk HJV.out.own b hb).1
            exact rowr ((hg.block (w.heap.size + 1) (Array.getElem?_eq_some_iff.1 (HJV.out.al _).hq).1 (fun e => by have := hl _ e.symm; omega)).trans (HJV.out.al _).hq) (i := 3) _ rfl
          have q7 : w5.frozen? ⟨w.heap.size + 1, 3, none⟩ = false := by
            have hl := fun b hb => (own_blk HJV.out.own b hb).1
            exact frozen_of_row _ _ _ _ _ ((hg.block (w.heap.size + 1) (Array.getElem?_eq_some_iff.1 (HJV.out.al _).hq).1 (fun e => by have := hl _ e.symm; omega)).trans (HJV.out.al _).hq)
          obtain ⟨p6, c6, rfl, _, _⟩ := (own_ER hown).slice
          have HG1 := Lib.hid g1
          clear hno hno2 hb8 k1 k2 hp1 x1 x2 di dw g1 hle hlt hk
          (try clear hb9)
          (try clear hl1 hl2 hl3 hl4 g5 u1 u2 ui uw' si sw)
          clear hown hg m0 m1 m2 m3 m4 m5 m6 q5 HEC
          go_wp2_with fail
          go_roundw
          case rel => exact ⟨k + 1, _, by have := HLT.out; omega, by rw [HPN.out]; go_num, R5, by have := Z5.out; exact Lib.hid (by simp [World.setCell]; exact this)⟩
          case measure => have := HG1.out; simp [intOf]; omega
        · have g5 := g4 h7
          obtain ⟨n1, n2⟩ := ent_call D (posD D k) _ rfl h7 b2
          have HPN := Lib.hid (show posD D (k + 1) = posD D k + 28 by rw [posD, n2])
          have HEK := Lib.hid (show entAt D k = _ from n1)
          have HB2 := Lib.hid (show ∀ y : Ext w, y.w.cell? ⟨g, o + (posD D k + 1), none⟩ = some (.int .u8 (D (posD D k + 1))) from Ext.cells (HC0.out (posD D k + 1) (by omega)))
          obtain ⟨u1, u2⟩ := HD.out (posD D k + 1)
          have ui := wrapi_sm _ u1 (by omega)
          have uw' := wrap_sm _ u1 (by omega)
          obtain ⟨v1, v2⟩ := num_max (HD.out.drop (posD D k + 2)) (m := 8) (by decide)
          obtain ⟨v3, v4⟩ := num_max (HD.out.drop (posD D k + 10)) (m := 8) (by decide)
          obtain ⟨v5, v6⟩ := num_max (HD.out.drop (posD D k + 18)) (m := 8) (by decide)
          obtain ⟨v7, v8⟩ := num_sm (HD.out.drop (posD D k + 26)) (m := 2) (by decide)
          have si := wrapi_sm _ v7 (Int.lt_trans v8 (by decide))
          have sw := wrap_sm _ v7 (Int.lt_trans v8 (by decide))
          have SG := Lib.hid (fun (V : World) (X : Int) (h0 : 0 ≤ X) (h1 : X < 18446744073709551616) => ((rsigned X V h0 h1).mono fun _ _ h => ⟨h.1, h.2.symm⟩ : Calls Try.prog 17 #[.int .u64 X] V fun E w' => E = .returned (.int .i64 (wrap64 X)) ∧ V = w'))
          generalize posD D k = p at *
          have RA1 := Lib.hid (fun V hb z hz => RAT.out V hb z 8 (p + 2) 8 hz rfl (by omega) (by decide))
          have RA2 := Lib.hid (fun V hb z hz => RAT.out V hb z 8 (p + 10) 8 hz rfl (by omega) (by decide))
          have RA3 := Lib.hid (fun V hb z hz => RAT.out V hb z 8 (p + 18) 8 hz rfl (by omega) (by decide))
          have RA4 := Lib.hid (fun V hb z hz => RAT.out V hb z 2 (p + 26) 2 hz rfl (by omega) (by decide))
          generalize numB (dropD D (p + 2)) 8 = f1 at *
          generalize numB (dropD D (p + 10)) 8 = f2 at *
          generalize numB (dropD D (p + 18)) 8 = f3 at *
          generalize numB (dropD D (p + 26)) 2 = f4 at *
          generalize D (p + 1) = f0 at *
          generalize D p = d at *
          have k1 : ((k : Int) == 60000) = false := by simp; omega
          have k2 : decide ((k : Int) = 60000) = false := decide_eq_false (by omega)
          have hp1 : (p : Int) < (n : Int) := by omega
          have hno : d / 64 % 2 ≠ 1 := fun h => by rw [b1] at g3; exact absurd h (of_decide_eq_false g3)
          have hno2 : d / 64 % 2 = 0 := by omega
          have hb8 : 128 ≤ d := by rw [b3] at h7; exact of_decide_eq_true h7
          have hl1 : ¬ (n : Int) - ((p : Int) + 1) < 27 := by omega
          have hl2 : 27 ≤ (n : Int) - ((p : Int) + 1) := by omega
          have hl3 : (p : Int) + 1 < (n : Int) := by omega
          have hl4 : p + 1 < n := by omega
          have hl5 : (p : Int) + 28 < 9223372036854775808 := by have := HN2.out; omega
          have V0 := Lib.hid (And.intro (And.intro v1 v2) (And.intro (And.intro v3 v4) (And.intro v5 v6)))
          clear h7 g3 g4 b1 b2 b3 n1 n2 g2 v1 v2 v3 v4 v5 v6 v7 v8 RAT
          go_upto_region 18 with fail
          generalize hV : World.alloc wr _ = V
          have HJV := Lib.hid (show RT w D x y z k (.slice p2 k c2) V by rw [← hV]; exact HJ.out.al _)
          have HB0 := Lib.hid (show V.heap[wr.heap.size]? = some (.cells #[.int .i64 (d % 64), .bool true, .int .i64 0, .int .i64 0, .int .i64 0, .int .i64 0, .int .i64 0] 54 (0, 0)) by rw [← hV]; exact heap_alloc_new wr _)
          have HW0 := Lib.hid (show w.heap.size + 2 ≤ V.heap.size ∧ w.heap.size + 2 ≤ wr.heap.size by rw [← hV]; have := HZ.out; simp; omega)
          have HOB := Lib.hid (own_blk HJ.out.own)
          clear hV q3 hbyte
          have hbc := HB2.out
          (with_reducible refine wp_region_mix (fun w' => ∃ y : Ext w, w' = y.w) ?_ ?_ ?_ ?_; kernel_rfl; kernel_rfl; exact ⟨⟨V.drew, HJV.out.bl.drew⟩, rfl⟩)
          have HJD := Lib.hid HJV.out.drew
          have HBD := Lib.hid (show (World.drew V).heap[wr.heap.size]? = _ from HB0.out)
          have HWD := Lib.hid (show w.heap.size + 2 ≤ (World.drew V).heap.size ∧ w.heap.size + 2 ≤ wr.heap.size from HW0.out)
          clear HJV HB0 HW0
          generalize World.drew V = Vd at *
          repeat (first | ((with_reducible refine mix_plain (by kernel_rfl) ?_); (first | go_big_quiet_skip | (go_big_quiet_want; go_big_quiet_op; go_big_quiet_on)); (with_reducible refine mix_on ?_)) | ((with_reducible refine mix_skip (by kernel_rfl) ?_); go_big_quiet_skip; (with_reducible refine mix_on ?_)))
          ((with_reducible refine wpMix_chain (by kernel_rfl) (by kernel_rfl) (fun K HK => ?_)); go_step)
          refine (RA1.out Vd HJD.out.bl _ (by omega)).mono ?_; rintro _ _ ⟨rfl, rfl⟩
          refine HK.out _ _ ⟨⟨Vd, HJD.out.bl⟩, rfl⟩ ?_
          clear HK K
          repeat (first | ((with_reducible refine mix_plain (by kernel_rfl) ?_); (first | go_big_quiet_skip | (go_big_quiet_want; go_big_quiet_op; go_big_quiet_on)); (with_reducible refine mix_on ?_)) | ((with_reducible refine mix_skip (by kernel_rfl) ?_); go_big_quiet_skip; (with_reducible refine mix_on ?_)))
          ((with_reducible refine wpMix_chain (by kernel_rfl) (by kernel_rfl) (fun K HK => ?_)); go_step)
          refine (SG.out Vd _ V0.out.1.1 V0.out.1.2).mono ?_; rintro _ _ ⟨rfl, rfl⟩
          refine HK.out _ _ ⟨⟨Vd, HJD.out.bl⟩, rfl⟩ ?_
          clear HK K
          repeat (first | ((with_reducible refine mix_plain (by kernel_rfl) ?_); (first | go_big_quiet_skip | (go_big_quiet_want; go_big_quiet_op; go_big_quiet_on)); (with_reducible refine mix_on ?_)) | ((with_reducible refine mix_skip (by kernel_rfl) ?_); go_big_quiet_skip; (with_reducible refine mix_on ?_)))
          ((with_reducible refine wpMix_chain (by kernel_rfl) (by kernel_rfl) (fun K HK => ?_)); go_step)
          refine (RA2.out Vd HJD.out.bl _ (by omega)).mono ?_; rintro _ _ ⟨rfl, rfl⟩
          refine HK.out _ _ ⟨⟨Vd, HJD.out.bl⟩, rfl⟩ ?_
          clear HK K
          repeat (first | ((with_reducible refine mix_plain (by kernel_rfl) ?_); (first | go_big_quiet_skip | (go_big_quiet_want; go_big_quiet_op; go_big_quiet_on)); (with_reducible refine mix_on ?_)) | ((with_reducible refine mix_skip (by kernel_rfl) ?_); go_big_quiet_skip; (with_reducible refine mix_on ?_)))
          ((with_reducible refine wpMix_chain (by kernel_rfl) (by kernel_rfl) (fun K HK => ?_)); go_step)
          refine (SG.out Vd _ V0.out.2.1.1 V0.out.2.1.2).mono ?_; rintro _ _ ⟨rfl, rfl⟩
          refine HK.out _ _ ⟨⟨Vd, HJD.out.bl⟩, rfl⟩ ?_
          clear HK K
          repeat (first | ((with_reducible refine mix_plain (by kernel_rfl) ?_); (first | go_big_quiet_skip | (go_big_quiet_want; go_big_quiet_op; go_big_quiet_on)); (with_reducible refine mix_on ?_)) | ((with_reducible refine mix_skip (by kernel_rfl) ?_); go_big_quiet_skip; (with_reducible refine mix_on ?_)))
          ((with_reducible refine wpMix_chain (by kernel_rfl) (by kernel_rfl) (fun K HK => ?_)); go_step)
          refine (RA3.out Vd HJD.out.bl _ (by omega)).mono ?_; rintro _ _ ⟨rfl, rfl⟩
          refine HK.out _ _ ⟨⟨Vd, HJD.out.bl⟩, rfl⟩ ?_
          clear HK K
          repeat (first | ((with_reducible refine mix_plain (by kernel_rfl) ?_); (first | go_big_quiet_skip | (go_big_quiet_want; go_big_quiet_op; go_big_quiet_on)); (with_reducible refine mix_on ?_)) | ((with_reducible refine mix_skip (by kernel_rfl) ?_); go_big_quiet_skip; (with_reducible refine mix_on ?_)))
          ((with_reducible refine wpMix_chain (by kernel_rfl) (by kernel_rfl) (fun K HK => ?_)); go_step)
          refine (SG.out Vd _ V0.out.2.2.1 V0.out.2.2.2).mono ?_; rintro _ _ ⟨rfl, rfl⟩
          refine HK.out _ _ ⟨⟨Vd, HJD.out.bl⟩, rfl⟩ ?_
          clear HK K
          repeat (first | ((with_reducible refine mix_plain (by kernel_rfl) ?_); (first | go_big_quiet_skip | (go_big_quiet_want; go_big_quiet_op; go_big_quiet_on)); (with_reducible refine mix_on ?_)) | ((with_reducible refine mix_skip (by kernel_rfl) ?_); go_big_quiet_skip; (with_reducible refine mix_on ?_)))
          ((with_reducible refine wpMix_chain (by kernel_rfl) (by kernel_rfl) (fun K HK => ?_)); go_step)
          refine (RA4.out Vd HJD.out.bl _ (by omega)).mono ?_; rintro _ _ ⟨rfl, rfl⟩
          refine HK.out _ _ ⟨⟨Vd, HJD.out.bl⟩, rfl⟩ ?_
          clear HK K
          repeat (first | ((with_reducible refine mix_plain (by kernel_rfl) ?_); (first | go_big_quiet_skip | (go_big_quiet_want; go_big_quiet_op; go_big_quiet_on)); (with_reducible refine mix_on ?_)) | ((with_reducible refine mix_skip (by kernel_rfl) ?_); go_big_quiet_skip; (with_reducible refine mix_on ?_)))
          have m2 := rowr HBD.out (i := 2) _ rfl
          have m3 := rowr HBD.out (i := 3) _ rfl
          have m4 := rowr HBD.out (i := 4) _ rfl
          have m5 := rowr HBD.out (i := 5) _ rfl
          have m6 := rowr HBD.out (i := 6) _ rfl
          have mf : ∀ i, Vd.frozen? ⟨wr.heap.size, i, none⟩ = false := fun i => frozen_of_row _ _ _ _ _ HBD.out
          have hne := HWD.out.2
          ((with_reducible refine wpMix_chain (by kernel_rfl) (by kernel_rfl) (fun K HK => ?_)); go_step)
          have hst : RT w D x y z k (.slice p2 k c2) (((((Vd.setCell ⟨wr.heap.size, 2, none⟩ (.int .i64 f0)).setCell ⟨wr.heap.size, 3, none⟩ (.int .i64 (wrap64 f1))).setCell ⟨wr.heap.size, 4, none⟩ (.int .i64 (wrap64 f2))).setCell ⟨wr.heap.size, 5, none⟩ (.int .i64 (wrap64 f3))).setCell ⟨wr.heap.size, 6, none⟩ (.int .i64 f4)) := by
            have hq := HWD.out.2
            have hn := fun b hb => (HOB.out b hb).2
            exact ((((HJD.out.st hq hn _).st hq hn _).st hq hn _).st hq hn _).st hq hn _
          have hb1 := heap_setCell_same _ wr.heap.size 6 _ _ (.int .i64 f4) (heap_setCell_same _ wr.heap.size 5 _ _ (.int .i64 (wrap64 f3)) (heap_setCell_same _ wr.heap.size 4 _ _ (.int .i64 (wrap64 f2)) (heap_setCell_same _ wr.heap.size 3 _ _ (.int .i64 (wrap64 f1)) (heap_setCell_same Vd wr.heap.size 2 _ _ (.int .i64 f0) HBD.out))))
          refine HK.out _ _ ⟨⟨_, hst.bl⟩, rfl⟩ ?_
          generalize hU : World.setCell _ _ _ = U at *
          have HJU := Lib.hid hst
          have HB1 := Lib.hid (show U.heap[wr.heap.size]? = some (.cells #[.int .i64 (d % 64), .bool true, .int .i64 f0, .int .i64 (wrap64 f1), .int .i64 (wrap64 f2), .int .i64 (wrap64 f3), .int .i64 f4] 54 (0, 0)) from hb1)
          have HW2 := Lib.hid (show w.heap.size + 2 ≤ U.heap.size by rw [← hU]; simp [World.setCell]; exact HWD.out.1)
          clear HK K hU hst hb1 m2 m3 m4 m5 m6 mf hne
          refine wpMix_nil ?_
          go_upto_region 20 with fail
          have m0 := rowr HB1.out (i := 0) _ rfl
          have m1 := rowr HB1.out (i := 1) _ rfl
          have m2 := rowr HB1.out (i := 2) _ rfl
          have m3 := rowr HB1.out (i := 3) _ rfl
          have m4 := rowr HB1.out (i := 4) _ rfl
          have m5 := rowr HB1.out (i := 5) _ rfl
          have m6 := rowr HB1.out (i := 6) _ rfl
          have q5 := rowr HJU.out.hq (i := 3) _ rfl
          have HEC := Lib.hid (show ∀ (o : Obj) j u, o = .cells #[.int .i64 (d % 64), .bool true, .int .i64 f0, .int .i64 (wrap64 f1), .int .i64 (wrap64 f2), .int .i64 (wrap64 f3), .int .i64 f4] 54 → (ecells (entAt D k))[j]? = some u → (World.alloc U o).cell? ⟨World.heap U |>.size, j, none⟩ = some u by
            intro o j u ho hu
            rw [HEK.out] at hu
            rw [ho, cell_of_row _ _ _ _ _ (0, 0) (heap_alloc_new U _)]
            rw [← List.getElem?_toArray] at hu
            exact hu)
          go_wp2_with (at_builtin; refine wpList_append_e1 rfl (.tmp 92) (.tmp 94) rfl (w.heap.size + 2) _ k (entAt D) U.heap.size 1 rfl (World.ownsRow.alloc HJU.out.own _) rfl (fun j u hu => HEC.out _ j u rfl hu) (by have := HK6.out; omega) (by have := HW2.out; simp; omega) ?_)
          intro v5 w5 hown hg
          have R5 := Lib.hid (RT.next (HJU.out.al _) hown hg)
          have Z5 := Lib.hid (show w.heap.size + 2 ≤ w5.heap.size by have := hg.size; have := HW2.out; simp at this ⊢; simp at *; omega)
          have q6 : w5.cell? ⟨w.heap.size + 1, 3, none⟩ = some (.slice p2 k c2) := by
            have hl := fun b hb => (own_blk HJU.out.own b hb).1
            exact rowr ((hg.block (w.heap.size + 1) (Array.getElem?_eq_some_iff.1 (HJU.out.al _).hq).1 (fun e => by have := hl _ e.symm; omega)).trans (HJU.out.al _).hq) (i := 3) _ rfl
          have q7 : w5.frozen? ⟨w.heap.size + 1, 3, none⟩ = false := by
            have hl := fun b hb => (own_blk HJU.out.own b hb).1
            exact frozen_of_row _ _ _ _ _ ((hg.block (w.heap.size + 1) (Array.getElem?_eq_some_iff.1 (HJU.out.al _).hq).1 (fun e => by have := hl _ e.symm; omega)).trans (HJU.out.al _).hq)
          obtain ⟨p6, c6, rfl, _, _⟩ := (own_ER hown).slice
          have HG1 := Lib.hid g1
          clear hno hno2 hb8 k1 k2 hp1 x1 x2 di dw g1 hle hlt hk
          (try clear hb9)
          (try clear hl1 hl2 hl3 hl4 g5 u1 u2 ui uw' si sw)
          clear hown hg m0 m1 m2 m3 m4 m5 m6 q5 HEC
          go_wp2_with fail
          go_roundw
          case rel => exact ⟨k + 1, _, by have := HLT.out; omega, by rw [HPN.out]; go_num, R5, by have := Z5.out; exact Lib.hid (by simp [World.setCell]; exact this)⟩
          case measure => have := HG1.out; simp [intOf]; omega
      · subst heq
        rcases HS.out.1 with ⟨hge, rfl⟩ | ⟨g1, g2, rfl⟩ | ⟨g1, g2, g3, rfl⟩ | ⟨g1, g2, g3, g4, g5, rfl⟩
        rotate_left
        · obtain ⟨rfl, rfl, rfl, rfl⟩ : T1 = 0 ∧ S1 = 0 ∧ K1 = 0 ∧ cnt = 0 := by
            rcases HS.out.2 with ⟨h, _⟩ | ⟨_, h⟩
            · exact absurd h (by decide)
            · exact h
          have k1 : ((k : Int) == 60000) = true := by subst g2; rfl
          have k2 : decide ((k : Int) = 60000) = true := decide_eq_true (by omega)
          have hp1 : ((posD D k : Nat) : Int) < (n : Int) := by omega
          clear g2
          have c0 := rowr HJ.out.ha (i := 0) _ rfl
          have c1 := rowr HJ.out.ha (i := 1) _ rfl
          have c2 := rowr HJ.out.ha (i := 2) _ rfl
          have c3 := rowr HJ.out.ha (i := 3) _ rfl
          have cf : ∀ i, wr.frozen? ⟨w.heap.size, i, none⟩ = false := fun i => frozen_of_row _ _ _ _ _ HJ.out.ha
          have U0 := Lib.hid (zset HJ.out.ha HJ.out.bl)
          go_wp2_with fail
          generalize hU : World.setCell _ _ _ = U
          have hZ := U0.out
          rw [hU] at hZ
          have t0 := rowr hZ.1 (i := 0) _ rfl
          have t1 := rowr hZ.1 (i := 1) _ rfl
          have t2 := rowr hZ.1 (i := 2) _ rfl
          have t3 := rowr hZ.1 (i := 3) _ rfl
          clear hU
          refine bodyPost_ret (v := .tuple #[.agg #[.int .i64 0, .int .i64 0, .int .u64 0, .slice none 0 0], .int .i64 6]) (by simp [results, Try.results7, go_sem, t0, t1, t2, t3]) rfl ?_
          rw [HQ.out]
          exact ⟨_, rfl, .nil _, hZ.2⟩
        · obtain ⟨rfl, rfl, rfl, rfl⟩ : T1 = 0 ∧ S1 = 0 ∧ K1 = 0 ∧ cnt = 0 := by
            rcases HS.out.2 with ⟨h, _⟩ | ⟨_, h⟩
            · exact absurd h (by decide)
            · exact h
          have hbyte := Ext.cell ⟨wr, HJ.out.bl⟩ (HC0.out (posD D k) g1)
          simp only at hbyte
          obtain ⟨x1, x2⟩ := HD.out (posD D k)
          have di := wrapi_sm _ x1 (by omega)
          have dw := wrap_sm _ x1 (by omega)
          obtain ⟨b1, b2, b3⟩ := bits_of _ x1 x2
          have k1 : ((k : Int) == 60000) = false := by simp; omega
          have k2 : decide ((k : Int) = 60000) = false := decide_eq_false (by omega)
          generalize posD D k = p at *
          generalize D p = d at *
          have hp1 : (p : Int) < (n : Int) := by omega
          have hno : d / 64 % 2 = 1 := by rw [b1] at g3; exact of_decide_eq_true g3
          clear b1 b2 b3 g3 g2
          have c0 := rowr HJ.out.ha (i := 0) _ rfl
          have c1 := rowr HJ.out.ha (i := 1) _ rfl
          have c2 := rowr HJ.out.ha (i := 2) _ rfl
          have c3 := rowr HJ.out.ha (i := 3) _ rfl
          have cf : ∀ i, wr.frozen? ⟨w.heap.size, i, none⟩ = false := fun i => frozen_of_row _ _ _ _ _ HJ.out.ha
          have U0 := Lib.hid (zset HJ.out.ha HJ.out.bl)
          go_wp2_with fail
          generalize hU : World.setCell _ _ _ = U
          have hZ := U0.out
          rw [hU] at hZ
          have t0 := rowr hZ.1 (i := 0) _ rfl
          have t1 := rowr hZ.1 (i := 1) _ rfl
          have t2 := rowr hZ.1 (i := 2) _ rfl
          have t3 := rowr hZ.1 (i := 3) _ rfl
          clear hU
          refine bodyPost_ret (v := .tuple #[.agg #[.int .i64 0, .int .i64 0, .int .u64 0, .slice none 0 0], .int .i64 4]) (by simp [results, Try.results7, go_sem, t0, t1, t2, t3]) rfl ?_
          rw [HQ.out]
          exact ⟨_, rfl, .nil _, hZ.2⟩
        · obtain ⟨rfl, rfl, rfl, rfl⟩ : T1 = 0 ∧ S1 = 0 ∧ K1 = 0 ∧ cnt = 0 := by
            rcases HS.out.2 with ⟨h, _⟩ | ⟨_, h⟩
            · exact absurd h (by decide)
            · exact h
          have hbyte := Ext.cell ⟨wr, HJ.out.bl⟩ (HC0.out (posD D k) g1)
          simp only at hbyte
          obtain ⟨x1, x2⟩ := HD.out (posD D k)
          have di := wrapi_sm _ x1 (by omega)
          have dw := wrap_sm _ x1 (by omega)
          obtain ⟨b1, b2, b3⟩ := bits_of _ x1 x2
          have k1 : ((k : Int) == 60000) = false := by simp; omega
          have k2 : decide ((k : Int) = 60000) = false := decide_eq_false (by omega)
          generalize posD D k = p at *
          generalize D p = d at *
          have hp1 : (p : Int) < (n : Int) := by omega
          have hno : d / 64 % 2 ≠ 1 := fun h => by rw [b1] at g3; exact absurd h (of_decide_eq_false g3)
          have hno2 : d / 64 % 2 = 0 := by omega
          have hb8 : 128 ≤ d := by rw [b3] at g4; exact of_decide_eq_true g4
          have hl1 : (n : Int) - ((p : Int) + 1) < 27 := by omega
          have hl5 : (p : Int) + 28 < 9223372036854775808 := by have := HN2.out; omega
          clear b1 b2 b3 g3 g4 g2
          go_upto_region 17 with fail
          generalize hV : World.alloc wr _ = V
          have HJV := Lib.hid (show RT w D x y z k (.slice p2 k c2) V by rw [← hV]; exact HJ.out.al _)
          clear hV q3 hbyte
          have c0 := rowr HJV.out.ha (i := 0) _ rfl
          have c1 := rowr HJV.out.ha (i := 1) _ rfl
          have c2 := rowr HJV.out.ha (i := 2) _ rfl
          have c3 := rowr HJV.out.ha (i := 3) _ rfl
          have cf : ∀ i, V.frozen? ⟨w.heap.size, i, none⟩ = false := fun i => frozen_of_row _ _ _ _ _ HJV.out.ha
          have U0 := Lib.hid (zset HJV.out.ha HJV.out.bl)
          go_wp2_with fail
          generalize hU : World.setCell _ _ _ = U
          have hZ := U0.out
          rw [hU] at hZ
          have t0 := rowr hZ.1 (i := 0) _ rfl
          have t1 := rowr hZ.1 (i := 1) _ rfl
          have t2 := rowr hZ.1 (i := 2) _ rfl
          have t3 := rowr hZ.1 (i := 3) _ rfl
          clear hU
          refine bodyPost_ret (v := .tuple #[.agg #[.int .i64 0, .int .i64 0, .int .u64 0, .slice none 0 0], .int .i64 5]) (by simp [results, Try.results7, go_sem, t0, t1, t2, t3]) rfl ?_
          rw [HQ.out]
          exact ⟨_, rfl, .nil _, hZ.2⟩
        obtain ⟨rfl, rfl, rfl, rfl⟩ : T1 = x ∧ S1 = y ∧ K1 = z ∧ cnt = k := by
          rcases HS.out.2 with ⟨_, h1, h2, h3, h4⟩ | ⟨h, _⟩
          · exact ⟨h1, h2, h3, h4⟩
          · exact absurd rfl h
        have hge2 : ¬ ((posD D cnt : Nat) : Int) < (n : Int) := by omega
        have c0 := rowr HJ.out.ha (i := 0) _ rfl
        have c1 := rowr HJ.out.ha (i := 1) _ rfl
        have c2' := rowr HJ.out.ha (i := 2) _ rfl
        have c3 := rowr HJ.out.ha (i := 3) _ rfl
        have cf : ∀ i, wr.frozen? ⟨w.heap.size, i, none⟩ = false := fun i => frozen_of_row _ _ _ _ _ HJ.out.ha
        have b0 := rowr HJ.out.hq (i := 0) _ rfl
        have b1 := rowr HJ.out.hq (i := 1) _ rfl
        have b2 := rowr HJ.out.hq (i := 2) _ rfl
        go_wp2_with fail
        refine bodyPost_ret (v := .tuple #[.agg #[.int .i64 T1, .int .i64 S1, .int .u64 K1, .slice p2 cnt c2], .int .i64 0]) (by simp [results, Try.results7, go_sem, c0, c1, c2', c3, b0, b1, b2, q3]) rfl ?_
        rw [HQ.out]
        refine ⟨_, rfl, ?_, ble (ble (ble (ble HJ.out.bl (Nat.le_refl _) _) (Nat.le_refl _) _) (Nat.le_refl _) _) (Nat.le_refl _) _⟩
        have hl : w.heap.size < w.heap.size + 2 := by omega
        exact own_ER (ownsRow_setCell_below (ownsRow_setCell_below (ownsRow_setCell_below (ownsRow_setCell_below HJ.out.own (a := ⟨w.heap.size, 0, none⟩) hl _) (a := ⟨w.heap.size, 1, none⟩) hl _) (a := ⟨w.heap.size, 2, none⟩) hl _) (a := ⟨w.heap.size, 3, none⟩) hl _)
set_option maxRecDepth 16000 in
set_option maxHeartbeats 4000000 in
theorem rtake_short (D : Nat → Int) (n : Nat) (v : Value) (w : World) (hL : BR w v n D) (hD : BY D) (hn : n < 11) :
    Calls Try.prog 7 #[v] w fun E w' => ∃ sl, E = .returned (.tuple #[.agg #[.int .i64 0, .int .i64 0, .int .u64 0, sl], .int .i64 5]) ∧ ER w' sl 0 (entAt D) ∧ Below w.heap.size w w' := by
  refine Calls.veil fun Q HQ => ?_
  obtain ⟨p, c, rfl, a1, a2⟩ := hL.slice
  have hn1 : (n : Int) < 11 := by omega
  clear hL
  go_enter Try.func7, Try.ntmps7
  go_wp2_with fail
  refine bodyPost_ret (v := .tuple #[.agg #[.int .i64 0, .int .i64 0, .int .u64 0, .slice none 0 0], .int .i64 5]) (by simp [results, Try.results7, go_sem]) rfl ?_
  rw [HQ.out]
  exact ⟨_, rfl, .nil _, by first | exact (Below.refl _ _).alloc (Nat.le_refl _) _ | (repeat (first | exact Below.refl _ _ | assumption | refine below_new ?_ _ | refine Below.drew ?_ | refine below_drewN ?_ _ | refine below_on ?_ (by assumption)))⟩
set_option maxRecDepth 16000 in
set_option maxHeartbeats 4000000 in
theorem rtake_bad (D : Nat → Int) (n : Nat) (v : Value) (w : World) (hL : BR w v n D) (hD : BY D) (hn : 11 ≤ n) (hn2 : n ≤ 100000) (hm : mayC (fT D) (fS D) (fK D) = false) :
    Calls Try.prog 7 #[v] w fun E w' => ∃ sl, E = .returned (.tuple #[.agg #[.int .i64 0, .int .i64 0, .int .u64 0, sl], .int .i64 2]) ∧ ER w' sl 0 (entAt D) ∧ Below w.heap.size w w' := by
  refine Calls.veil fun Q HQ => ?_
  have hn1 : ¬ (n : Int) < 11 := by omega
  obtain ⟨g, o, c, hv, a1, a2, hC⟩ := hL.parts (by omega)
  have HC := Lib.hid (show ∀ y : Ext w, y.w.cell? ⟨g, o, none⟩ = some (.int .u8 (D 0)) from Ext.cells (hC 0 (by omega)))
  have RA := Lib.hid (fun (i m : Nat) (V : World) (hb : Below w.heap.size w V) (h : i + m ≤ n) (hm : 0 < m ∧ m ≤ 8) => rat D n i m v V (hL.below hb) hD h hm (by omega))
  have R1 : Hid (∀ V, Below w.heap.size w V → Calls Try.prog 16 #[v, .int .i64 1, .int .i64 2] V fun E w' => E = .returned (.int .u64 (fS D)) ∧ V = w') := Lib.hid fun V hb => (RA.out 1 2 V hb (by omega) (by decide)).mono fun _ _ h => ⟨h.1, h.2.symm⟩
  have R2 : Hid (∀ V, Below w.heap.size w V → Calls Try.prog 16 #[v, .int .i64 3, .int .i64 8] V fun E w' => E = .returned (.int .u64 (fK D)) ∧ V = w') := Lib.hid fun V hb => (RA.out 3 8 V hb (by omega) (by decide)).mono fun _ _ h => ⟨h.1, h.2.symm⟩
  have HL0 := Lib.hid hL
  have HC0 := Lib.hid hC
  subst hv
  obtain ⟨x1, x2⟩ := hD 0
  have xi := wrapi_sm (D 0) x1 (by omega)
  have xw := wrap_sm (D 0) x1 (by omega)
  have HT := Lib.hid (show D 0 = fT D from (num_one D).symm)
  obtain ⟨y1, y2⟩ := num_sm (hD.drop 1) (m := 2) (by decide)
  have yi : IntKind.i64.wrap (fS D) = fS D := wrapi_sm _ y1 (Int.lt_trans y2 (by decide))
  have yw : wrap64 (fS D) = fS D := wrap_sm _ y1 (Int.lt_trans y2 (by decide))
  have RM := Lib.hid (fun V => rmayC (fT D) (fS D) (fK D) V)
  rw [hm] at RM
  rw [HT.out] at xi xw HC
  clear hL hC RA x1 x2 y1 y2
  generalize hx : fT D = x at *
  generalize hy : fS D = y at *
  generalize hz : fK D = z at *
  have HX := Lib.hid (And.intro hx (And.intro hy hz))
  clear hx hy hz
  go_enter Try.func7, Try.ntmps7
  go_upto_region 3 with fail
  go_cut [4] from 8 to 22 (fun p4 wc => CutS D w p4 wc)
  case first =>
    generalize hV0 : World.alloc w _ = V0
    refine wp_region_K (fun w' => ∃ y : Ext w, w' = y.w) 12 (by decide +kernel) ?_
    generalize hV1 : World.drew V0 = V1
    have hV2 : V1.heap[w.heap.size]? = some (.cells zS 29 (0, 0)) ∧ Below w.heap.size w V1 ∧ V1.heap.size = w.heap.size + 1 := by
      rw [← hV1, ← hV0]
      exact ⟨heap_alloc_new w _, ((Below.refl _ _).alloc (Nat.le_refl _) _).drew, by rw [heap_drew]; simp⟩
    clear hV1 hV0
    have S1 : ∃ y : Ext w, V1 = y.w := ⟨⟨V1, hV2.2.1⟩, rfl⟩
    have S2 : ∀ o, ∃ y : Ext w, World.alloc V1 o = y.w := fun o => ⟨⟨V1.alloc o, hV2.2.1.alloc hV2.2.1.size _⟩, rfl⟩
    have hsz := hV2.2.2
    have n0 : 0 < n := by omega
    have n1 : (0 : Int) < (n : Int) := by omega
    have n2 : ¬ n = 0 := by omega
    (refine wpAnyK_takeY (i := 0) (v := ?_) rfl (by decide +kernel) (by decide +kernel) (by decide +kernel) (by decide) (fun _ _ _ h => h) (Or.inl ⟨by rfl, ?_⟩) (.inr S1) ?_; rotate_left; (intro w; go_simp); (try with_reducible rfl)); (try simp only [List.getElem_toArray, List.getElem_cons_succ, List.getElem_cons_zero, Act.put, List.setIfInBounds_toArray, List.set_cons_succ, List.set_cons_zero])
    (refine wpAnyK_takeY (i := 1) (v := ?_) rfl (by decide +kernel) (by decide +kernel) (by decide +kernel) (by decide) (fun _ _ _ h => h) (Or.inl ⟨by rfl, ?_⟩) (.inr S1) ?_; rotate_left; (intro w; go_simp); (try with_reducible rfl)); (try simp only [List.getElem_toArray, List.getElem_cons_succ, List.getElem_cons_zero, Act.put, List.setIfInBounds_toArray, List.set_cons_succ, List.set_cons_zero])
    (refine wpAnyK_take (i := 2) (v := .int .u8 x) [3, 9, 10, 12] rfl (by decide +kernel) (by decide +kernel) (by decide +kernel) (by decide +kernel) (fun _ _ _ h => h) (yields_loadK rfl 5 (.tmp 13) rfl rfl (by rintro _ ⟨y, rfl⟩; have hy := HC.out y; go_simp)) (by exact S1) ?_); (try simp only [List.getElem_toArray, List.getElem_cons_succ, List.getElem_cons_zero, Act.put, List.setIfInBounds_toArray, List.set_cons_succ, List.set_cons_zero])
    (refine wpAnyK_takeY (i := 3) (v := ?_) rfl (by decide +kernel) (by decide +kernel) (by decide +kernel) (by decide) (fun _ _ _ h => h) (Or.inl ⟨by rfl, ?_⟩) (.inr S1) ?_; rotate_left; (intro w; go_simp); (try with_reducible rfl)); (try simp only [List.getElem_toArray, List.getElem_cons_succ, List.getElem_cons_zero, Act.put, List.setIfInBounds_toArray, List.set_cons_succ, List.set_cons_zero])
    (refine wpAnyK_takeY (i := 4) (v := ?_) rfl (by decide +kernel) (by decide +kernel) (by decide +kernel) (by decide) (fun _ _ _ h => h) (Or.inl ⟨by rfl, ?_⟩) (.inr S1) ?_; rotate_left; (intro w; go_simp); (try with_reducible rfl)); (try simp only [List.getElem_toArray, List.getElem_cons_succ, List.getElem_cons_zero, Act.put, List.setIfInBounds_toArray, List.set_cons_succ, List.set_cons_zero])
    (refine wpAnyK_takeY (i := 7) (v := ?_) rfl (by decide +kernel) (by decide +kernel) (by decide +kernel) (by decide) (fun _ _ _ h => h) (Or.inl ⟨by rfl, ?_⟩) (.inr S1) ?_; rotate_left; (intro w; go_simp); (try with_reducible rfl)); (try simp only [List.getElem_toArray, List.getElem_cons_succ, List.getElem_cons_zero, Act.put, List.setIfInBounds_toArray, List.set_cons_succ, List.set_cons_zero])
    (refine wpAnyK_ready (rs := [5, 11]) (by decide +kernel) (by simp) ?_; refine (AllReadyK.cons rfl (fun K hK => ?_) (AllReadyK.cons rfl (fun K hK => ?_) AllReadyK.nil)))
    · refine step_of rfl ?_
      go_step
      refine (R1.out _ hV2.2.1).mono ?_; rintro _ _ ⟨rfl, rfl⟩
      refine hK _ _ (.inr (S1)) ?_
      clear hK K
      (try simp only [List.getElem_toArray, List.getElem_cons_succ, List.getElem_cons_zero, Act.put, List.setIfInBounds_toArray, List.set_cons_succ, List.set_cons_zero])
      (refine wpAnyK_takeY (i := 6) (v := ?_) rfl (by decide +kernel) (by decide +kernel) (by decide +kernel) (by decide) (fun _ _ _ h => h) (Or.inl ⟨by rfl, ?_⟩) (.inr S1) ?_; rotate_left; (intro w; go_simp); (try with_reducible rfl)); (try simp only [List.getElem_toArray, List.getElem_cons_succ, List.getElem_cons_zero, Act.put, List.setIfInBounds_toArray, List.set_cons_succ, List.set_cons_zero])
      (refine wpAnyK_ready (rs := [8, 11]) (by decide +kernel) (by simp) ?_; refine (AllReadyK.cons rfl (fun K hK => ?_) (AllReadyK.cons rfl (fun K hK => ?_) AllReadyK.nil)))
      · refine step_of rfl ?_
        go_step
        refine (R2.out _ hV2.2.1).mono ?_; rintro _ _ ⟨rfl, rfl⟩
        refine hK _ _ (.inr (S1)) ?_
        clear hK K
        (try simp only [List.getElem_toArray, List.getElem_cons_succ, List.getElem_cons_zero, Act.put, List.setIfInBounds_toArray, List.set_cons_succ, List.set_cons_zero])
        (refine wpAnyK_takeY (i := 9) (v := ?_) rfl (by decide +kernel) (by decide +kernel) (by decide +kernel) (by decide) (fun _ _ _ h => h) (Or.inl ⟨by rfl, ?_⟩) (.inr S1) ?_; rotate_left; (intro w; go_simp); (try with_reducible rfl)); (try simp only [List.getElem_toArray, List.getElem_cons_succ, List.getElem_cons_zero, Act.put, List.setIfInBounds_toArray, List.set_cons_succ, List.set_cons_zero])
        (refine wpAnyK_takeY (i := 10) (v := ?_) rfl (by decide +kernel) (by decide +kernel) (by decide +kernel) (by decide) (fun _ _ _ h => h) (Or.inl ⟨by rfl, ?_⟩) (.inr S1) ?_; rotate_left; (intro w; go_simp); (try with_reducible rfl)); (try simp only [List.getElem_toArray, List.getElem_cons_succ, List.getElem_cons_zero, Act.put, List.setIfInBounds_toArray, List.set_cons_succ, List.set_cons_zero])
        (refine wpAnyK_ready (rs := [11]) (by decide +kernel) (by simp) ?_; refine (AllReadyK.cons rfl (fun K hK => ?_) AllReadyK.nil))
        refine step_of rfl ?_
        go_step
        refine hK _ _ (.inr (S2 _)) ?_
        clear hK K
        (try simp only [List.getElem_toArray, List.getElem_cons_succ, List.getElem_cons_zero, Act.put, List.setIfInBounds_toArray, List.set_cons_succ, List.set_cons_zero])
        (refine wpAnyK_ready (rs := [12]) (by decide +kernel) (by simp) ?_; refine (AllReadyK.cons rfl (fun K hK => ?_) AllReadyK.nil))
        refine step_of rfl ?_
        go_step
        refine hK _ _ (.inl rfl) ?_
        clear hK K
        refine wpAnyK_done (by decide +kernel) ?_ _
        generalize hwf : World.alloc V1 _ = wf
        have hfin : CutS D w (.pointer (some ⟨w.heap.size + 1, 0, none⟩)) wf := by
          rw [← hwf]
          exact ⟨rfl, (Below.heap_alloc _ _ _ (by omega)).trans hV2.1, by rw [HX.out.1, HX.out.2.1, HX.out.2.2, ← hsz]; exact heap_alloc_new V1 _, hV2.2.1.alloc hV2.2.1.size _, by simp; omega⟩
        have HFIN := Lib.hid hfin
        clear hfin hwf
        go_wp2_with fail
        go_meet
        case rel => exact HFIN.out
      · refine step_of rfl ?_
        go_step
        refine hK _ _ (.inr (S2 _)) ?_
        clear hK K
        (try simp only [List.getElem_toArray, List.getElem_cons_succ, List.getElem_cons_zero, Act.put, List.setIfInBounds_toArray, List.set_cons_succ, List.set_cons_zero])
        (refine wpAnyK_ready (rs := [8]) (by decide +kernel) (by simp) ?_; refine (AllReadyK.cons rfl (fun K hK => ?_) AllReadyK.nil))
        refine step_of rfl ?_
        go_step
        refine (R2.out _ (hV2.2.1.alloc hV2.2.1.size _)).mono ?_; rintro _ _ ⟨rfl, rfl⟩
        refine hK _ _ (.inr (S2 _)) ?_
        clear hK K
        (try simp only [List.getElem_toArray, List.getElem_cons_succ, List.getElem_cons_zero, Act.put, List.setIfInBounds_toArray, List.set_cons_succ, List.set_cons_zero])
        (refine wpAnyK_takeY (i := 9) (v := ?_) rfl (by decide +kernel) (by decide +kernel) (by decide +kernel) (by decide) (fun _ _ _ h => h) (Or.inl ⟨by rfl, ?_⟩) (.inr (S2 _)) ?_; rotate_left; (intro w; go_simp); (try with_reducible rfl)); (try simp only [List.getElem_toArray, List.getElem_cons_succ, List.getElem_cons_zero, Act.put, List.setIfInBounds_toArray, List.set_cons_succ, List.set_cons_zero])
        (refine wpAnyK_takeY (i := 10) (v := ?_) rfl (by decide +kernel) (by decide +kernel) (by decide +kernel) (by decide) (fun _ _ _ h => h) (Or.inl ⟨by rfl, ?_⟩) (.inr (S2 _)) ?_; rotate_left; (intro w; go_simp); (try with_reducible rfl)); (try simp only [List.getElem_toArray, List.getElem_cons_succ, List.getElem_cons_zero, Act.put, List.setIfInBounds_toArray, List.set_cons_succ, List.set_cons_zero])
        (refine wpAnyK_ready (rs := [12]) (by decide +kernel) (by simp) ?_; refine (AllReadyK.cons rfl (fun K hK => ?_) AllReadyK.nil))
        refine step_of rfl ?_
        go_step
        refine hK _ _ (.inl rfl) ?_
        clear hK K
        refine wpAnyK_done (by decide +kernel) ?_ _
        generalize hwf : World.alloc V1 _ = wf
        have hfin : CutS D w (.pointer (some ⟨w.heap.size + 1, 0, none⟩)) wf := by
          rw [← hwf]
          exact ⟨rfl, (Below.heap_alloc _ _ _ (by omega)).trans hV2.1, by rw [HX.out.1, HX.out.2.1, HX.out.2.2, ← hsz]; exact heap_alloc_new V1 _, hV2.2.1.alloc hV2.2.1.size _, by simp; omega⟩
        have HFIN := Lib.hid hfin
        clear hfin hwf
        go_wp2_with fail
        go_meet
        case rel => exact HFIN.out
    · refine step_of rfl ?_
      go_step
      refine hK _ _ (.inr (S2 _)) ?_
      clear hK K
      (try simp only [List.getElem_toArray, List.getElem_cons_succ, List.getElem_cons_zero, Act.put, List.setIfInBounds_toArray, List.set_cons_succ, List.set_cons_zero])
      (refine wpAnyK_ready (rs := [5]) (by decide +kernel) (by simp) ?_; refine (AllReadyK.cons rfl (fun K hK => ?_) AllReadyK.nil))
      refine step_of rfl ?_
      go_step
      refine (R1.out _ (hV2.2.1.alloc hV2.2.1.size _)).mono ?_; rintro _ _ ⟨rfl, rfl⟩
      refine hK _ _ (.inr (S2 _)) ?_
      clear hK K
      (try simp only [List.getElem_toArray, List.getElem_cons_succ, List.getElem_cons_zero, Act.put, List.setIfInBounds_toArray, List.set_cons_succ, List.set_cons_zero])
      (refine wpAnyK_takeY (i := 6) (v := ?_) rfl (by decide +kernel) (by decide +kernel) (by decide +kernel) (by decide) (fun _ _ _ h => h) (Or.inl ⟨by rfl, ?_⟩) (.inr (S2 _)) ?_; rotate_left; (intro w; go_simp); (try with_reducible rfl)); (try simp only [List.getElem_toArray, List.getElem_cons_succ, List.getElem_cons_zero, Act.put, List.setIfInBounds_toArray, List.set_cons_succ, List.set_cons_zero])
      (refine wpAnyK_ready (rs := [8]) (by decide +kernel) (by simp) ?_; refine (AllReadyK.cons rfl (fun K hK => ?_) AllReadyK.nil))
      refine step_of rfl ?_
      go_step
      refine (R2.out _ (hV2.2.1.alloc hV2.2.1.size _)).mono ?_; rintro _ _ ⟨rfl, rfl⟩
      refine hK _ _ (.inr (S2 _)) ?_
      clear hK K
      (try simp only [List.getElem_toArray, List.getElem_cons_succ, List.getElem_cons_zero, Act.put, List.setIfInBounds_toArray, List.set_cons_succ, List.set_cons_zero])
      (refine wpAnyK_takeY (i := 9) (v := ?_) rfl (by decide +kernel) (by decide +kernel) (by decide +kernel) (by decide) (fun _ _ _ h => h) (Or.inl ⟨by rfl, ?_⟩) (.inr (S2 _)) ?_; rotate_left; (intro w; go_simp); (try with_reducible rfl)); (try simp only [List.getElem_toArray, List.getElem_cons_succ, List.getElem_cons_zero, Act.put, List.setIfInBounds_toArray, List.set_cons_succ, List.set_cons_zero])
      (refine wpAnyK_takeY (i := 10) (v := ?_) rfl (by decide +kernel) (by decide +kernel) (by decide +kernel) (by decide) (fun _ _ _ h => h) (Or.inl ⟨by rfl, ?_⟩) (.inr (S2 _)) ?_; rotate_left; (intro w; go_simp); (try with_reducible rfl)); (try simp only [List.getElem_toArray, List.getElem_cons_succ, List.getElem_cons_zero, Act.put, List.setIfInBounds_toArray, List.set_cons_succ, List.set_cons_zero])
      (refine wpAnyK_ready (rs := [12]) (by decide +kernel) (by simp) ?_; refine (AllReadyK.cons rfl (fun K hK => ?_) AllReadyK.nil))
      refine step_of rfl ?_
      go_step
      refine hK _ _ (.inl rfl) ?_
      clear hK K
      refine wpAnyK_done (by decide +kernel) ?_ _
      generalize hwf : World.alloc V1 _ = wf
      have hfin : CutS D w (.pointer (some ⟨w.heap.size + 1, 0, none⟩)) wf := by
        rw [← hwf]
        exact ⟨rfl, (Below.heap_alloc _ _ _ (by omega)).trans hV2.1, by rw [HX.out.1, HX.out.2.1, HX.out.2.2, ← hsz]; exact heap_alloc_new V1 _, hV2.2.1.alloc hV2.2.1.size _, by simp; omega⟩
      have HFIN := Lib.hid hfin
      clear hfin hwf
      go_wp2_with fail
      go_meet
      case rel => exact HFIN.out
  case rest =>
    obtain ⟨rfl, r1, r2, r3, r4⟩ := hcut
    rw [HX.out.1, HX.out.2.1, HX.out.2.2] at r2
    have HR := Lib.hid (And.intro r1 (And.intro r2 (And.intro r3 r4)))
    have d0 := rowr r2 (i := 0) _ rfl
    have d1 := rowr r2 (i := 1) _ rfl
    have d2 := rowr r2 (i := 2) _ rfl
    clear r1 r2 r3 r4 R1 R2
    go_wp2_with fail
    refine (RM.out _).mono ?_; rintro _ w2 ⟨rfl, hb2⟩
    have HR2 := Lib.hid (show w2.heap[w.heap.size]? = some (.cells zS 29 (0, 0)) ∧ w2.heap[w.heap.size + 1]? = some (.cells #[.int .i64 x, .int .i64 y, .int .u64 z, .slice none 0 0] 29 (0, 0)) ∧ Below w.heap.size w w2 from
      ⟨(hb2.block _ (by have := HR.out.2.2.2; omega)).trans HR.out.1, (hb2.block _ (by have := HR.out.2.2.2; omega)).trans HR.out.2.1, below_on HR.out.2.2.1 hb2⟩)
    have hs2 := hb2.size
    have HS2 := Lib.hid (show w.heap.size + 2 ≤ w2.heap.size by have := HR.out.2.2.2; omega)
    clear hb2 d0 d1 d2 RM HR hs2
    have c0 := rowr HR2.out.1 (i := 0) _ rfl
    have c1 := rowr HR2.out.1 (i := 1) _ rfl
    have c2 := rowr HR2.out.1 (i := 2) _ rfl
    have c3 := rowr HR2.out.1 (i := 3) _ rfl
    have cf : ∀ i, w2.frozen? ⟨w.heap.size, i, none⟩ = false := fun i => frozen_of_row _ _ _ _ _ HR2.out.1
    have U0 := Lib.hid (zset HR2.out.1 HR2.out.2.2)
    go_wp2_with fail
    generalize hU : World.setCell _ _ _ = U
    have hZ := U0.out
    rw [hU] at hZ
    have t0 := rowr hZ.1 (i := 0) _ rfl
    have t1 := rowr hZ.1 (i := 1) _ rfl
    have t2 := rowr hZ.1 (i := 2) _ rfl
    have t3 := rowr hZ.1 (i := 3) _ rfl
    clear hU
    refine bodyPost_ret (v := .tuple #[.agg #[.int .i64 0, .int .i64 0, .int .u64 0, .slice none 0 0], .int .i64 2]) (by simp [results, Try.results7, go_sem, t0, t1, t2, t3]) rfl ?_
    rw [HQ.out]
    exact ⟨_, rfl, .nil _, hZ.2⟩
/-- The reference's Take, whatever the bytes are. -/
theorem rtake (D : Nat → Int) (n : Nat) (v : Value) (w : World) (hL : BR w v n D) (hD : BY D) (hn2 : n ≤ 100000) (T S Kc : Int) (cnt : Nat) (e : Int) (h : TakeR D n T S Kc cnt e) :
    Calls Try.prog 7 #[v] w fun E w' => ∃ sl, E = .returned (.tuple #[.agg #[.int .i64 T, .int .i64 S, .int .u64 Kc, sl], .int .i64 e]) ∧ ER w' sl cnt (entAt D) ∧ Below w.heap.size w w' := by
  rcases h with ⟨h, rfl, rfl, rfl, rfl, rfl⟩ | ⟨h, hm, rfl, rfl, rfl, rfl, rfl⟩ | ⟨h, hm, K, h1, h2, h3⟩
  · exact rtake_short D n v w hL hD h
  · exact rtake_bad D n v w hL hD h hn2 hm
  · exact rtake_loop D n v w hL hD K e T S Kc cnt h hn2 hm h1 h2 h3
end Go.Proofs.Ytnikggdnlijkkaa
