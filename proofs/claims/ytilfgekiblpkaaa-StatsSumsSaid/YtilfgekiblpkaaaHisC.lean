/- Layer 11: opers as rows; copied. -/
import Derived.Test.YtilfgekiblpkaaaHisB
namespace Go.Proofs.Ytilfgekiblpkaaa
open Go.RowKit
set_option linter.unusedVariables false
set_option linter.unusedSimpArgs false
/-- Of what was there each row of pairs is as it was. -/
structure NP (w w' : World) : Prop where
  size : w.heap.size ≤ w'.heap.size
  keep : ∀ (k : Nat) (cur : Array Value), w.heap[k]? = some (.cells cur 57 (0, 0)) → w'.heap[k]? = some (.cells cur 57 (0, 0))
theorem NP.refl (w : World) : NP w w := ⟨Nat.le_refl _, fun _ _ h => h⟩
theorem NP.trans {a b c : World} (h : NP a b) (k : NP b c) : NP a c := ⟨Nat.le_trans h.size k.size, fun i cur hi => k.keep i cur (h.keep i cur hi)⟩
theorem NP.below {a b : World} (h : Below a.heap.size a b) : NP a b := ⟨h.size, fun k cur hk => by rw [h.block k (Array.getElem?_eq_some_iff.1 hk).1]; exact hk⟩
theorem NP.alloc (a : World) (o : Obj) : NP a (a.alloc o) := .below ((Below.refl _ _).alloc (Nat.le_refl _) _)
theorem NP.set {a : World} {b i : Nat} {cur : Array Value} {T : TypeId} {fr : Nat × Nat} (v : Value) (h : a.heap[b]? = some (.cells cur T fr)) (hT : T ≠ 57) : NP a (a.setCell ⟨b, i, none⟩ v) :=
  ⟨by simp, fun k cur' hk => by
    rw [Below.heap_setCell _ _ _ _ (by
      intro e
      simp only at e
      subst e
      rw [h] at hk
      simp only [Option.some.injEq, Obj.cells.injEq] at hk
      exact hT hk.2.1)]
    exact hk⟩
/-- A slice of pairs, in a row of pairs of its own. -/
def PO (w : World) (v : Value) (l : PL) : Prop := PR w v l ∧ ∀ a n c, v = .slice (some a) n c → 0 < n → ∃ cur, w.heap[a.block]? = some (.cells cur 57 (0, 0))
theorem PO.np {w w' : World} {v : Value} {l : PL} (h : PO w v l) (k : NP w w') : PO w' v l := by
  refine ⟨?_, fun a n c e h0 => by obtain ⟨cur, hc⟩ := h.2 a n c e h0; exact ⟨cur, k.keep _ _ hc⟩⟩
  have h2 := h.2
  cases h.1 with
  | nil => exact .nil
  | odd a c h1 => exact .odd a c h1
  | row g o c l h1 h3 h4 =>
    refine .row g o c l h1 h3 fun i hi => ?_
    obtain ⟨cur, hc⟩ := h2 _ _ _ rfl (by omega)
    have hk := k.keep _ _ hc
    have e : w'.heap[g]? = w.heap[g]? := by rw [hc]; exact hk
    exact ⟨(World.cell?_of_block (w := w) (a := ⟨g, o + i * 2, none⟩) e).trans (h4 i hi).1, (World.cell?_of_block (w := w) (a := ⟨g, o + i * 2 + 1, none⟩) e).trans (h4 i hi).2⟩
theorem PO.nil (w : World) : PO w (.slice none 0 0) [] := ⟨.nil, fun _ _ _ e => by cases e⟩
theorem own_PO {w : World} {B : Nat} {v : Value} {l : PL} (h : OwnP w B v l) : PO w v l := by
  refine ⟨own_PR h, fun a n c e h0 => ?_⟩
  rcases h.2 with ⟨hv, _⟩ | ⟨g, cap, cur, hv, _, hh, _⟩
  · rw [hv] at e; cases e
  · rw [hv] at e
    simp only [Value.slice.injEq, Option.some.injEq] at e
    rw [← e.1]
    exact ⟨cur, hh⟩
theorem pcloneO (l : PL) (v : Value) (w : World) (h : PR w v l) (hn : l.length ≤ 100000) :
    Calls Try.prog 22 #[v] w fun e w' => ∃ v', e = .returned v' ∧ PO w' v' l ∧ Below w.heap.size w w' := by
  have qT : ∀ (w : World) (a : Addr) (n c : Nat), (binOp .eql 37 (.slice (some a) n c) (.slice none 0 0)).run Try.prog w = .ok (.bool false) w := fun w a n c => Go.run_eql_slice_nil w _ _ (some a) n c uPL
  have qN : ∀ (w : World), (binOp .eql 37 (.slice none 0 0) (.slice none 0 0)).run Try.prog w = .ok (.bool true) w := fun w => Go.run_eql_slice_nil w _ _ none 0 0 uPL
  refine Calls.veil fun Q HQ => ?_
  have H := Lib.hid h
  cases h with
  | nil =>
    go_enter Try.func22, Try.ntmps22
    go_wp2_with fail
    (try go_ret)
    rw [HQ.out]
    exact ⟨_, rfl, .nil _, Below.refl _ _⟩
  | odd ad c hc0 =>
    go_enter Try.func22, Try.ntmps22
    go_wp2_with (at_builtin; refine wpList_append_pr rfl (.tmp 5) (.tmp 6) rfl w.heap.size _ [] rfl (own_none w) _ [] rfl (H.out.alloc _) (by simp) (by simp) ?_)
    intro v1 w1 hown hg
    have hb := grow_step (W := w) (own_none w) (by (repeat (first | exact Below.refl _ _ | assumption | refine below_new ?_ _ | refine Below.drew ?_ | refine below_drewN ?_ _ | refine below_on ?_ (by assumption)))) (Nat.le_refl _) hg
    have HP := Lib.hid (own_PO hown)
    clear hown hg
    go_wp2_with fail
    (try go_ret)
    rw [HQ.out]
    exact ⟨_, rfl, HP.out, hb⟩
  | row g o c _ h1 h2 h3 =>
    clear h3
    go_enter Try.func22, Try.ntmps22
    go_wp2_with (at_builtin; refine wpList_append_pr rfl (.tmp 5) (.tmp 6) rfl w.heap.size _ [] rfl (own_none w) _ l rfl (H.out.alloc _) (by simp; omega) (by simp) ?_)
    intro v1 w1 hown hg
    have hb := grow_step (W := w) (own_none w) (by (repeat (first | exact Below.refl _ _ | assumption | refine below_new ?_ _ | refine Below.drew ?_ | refine below_drewN ?_ _ | refine below_on ?_ (by assumption)))) (Nat.le_refl _) hg
    have HP := Lib.hid (own_PO hown)
    clear hown hg
    go_wp2_with fail
    (try go_ret)
    rw [HQ.out]
    exact ⟨_, rfl, HP.out, hb⟩
/-- An oper. -/
structure Opr where
  th : Int
  ca : Ca
  an : An
  fr : Int
  to : Int
def ocells (o : Opr) (v : Value) : List Value := .int .i64 o.th :: (cacells o.ca ++ (ancells o.an v ++ [.int .i64 o.fr, .int .i64 o.to]))
theorem ocells_len (o : Opr) (v : Value) : (ocells o v).length = 13 := rfl
def ocs (l : List (Opr × Value)) : List Value := l.flatMap fun x => ocells x.1 x.2
theorem ocs_len (l : List (Opr × Value)) : (ocs l).length = l.length * 13 := by
  induction l with
  | nil => rfl
  | cons a l ih => rw [ocs, List.flatMap_cons, List.length_append]; rw [ocs] at ih; rw [ih, List.length_cons, Nat.succ_mul]; show 13 + _ = _; omega
theorem ocs_app (a b : List (Opr × Value)) : ocs (a ++ b) = ocs a ++ ocs b := by simp [ocs]
def o0 : Opr := ⟨0, ⟨0, 0, 0, 0, 0⟩, ⟨0, 0, 0, 0, []⟩, 0, 0⟩
theorem ocs_get (l : List (Opr × Value)) (i j : Nat) (x : Opr × Value) (hx : l[i]? = some x) (hj : j < 13) : (ocs l)[i * 13 + j]? = (ocells x.1 x.2)[j]? := by
  induction l generalizing i with
  | nil => simp at hx
  | cons a l ih =>
    rw [ocs, List.flatMap_cons]
    cases i with
    | zero =>
      simp only [List.getElem?_cons_zero, Option.some.injEq] at hx
      subst hx
      rw [List.getElem?_append_left (by show _ < 13; omega)]
      simp
    | succ i =>
      rw [List.getElem?_append_right (by show 13 ≤ _; omega)]
      have e : (i + 1) * 13 + j - (ocells a.1 a.2).length = i * 13 + j := by show (i + 1) * 13 + j - 13 = _; omega
      rw [e]
      have := ih i (by simpa using hx)
      rw [ocs] at this
      exact this
/-- An oper that was answered. -/
theorem ocs_set (l : List (Opr × Value)) (i : Nat) (x : Opr × Value) (hx : l[i]? = some x) (a : An) (v : Value) (to : Int) :
    ((((((ocs l).set (i * 13 + 6) (.int .i64 a.kind)).set (i * 13 + 7) (.int .i64 a.key)).set (i * 13 + 8) (.int .i64 a.val)).set (i * 13 + 9) (.int .i64 a.n)).set (i * 13 + 10) v).set (i * 13 + 12) (.int .i64 to) = ocs (l.set i ({ x.1 with an := a, to := to }, v)) := by
  induction l generalizing i with
  | nil => simp at hx
  | cons b l ih =>
    cases i with
    | zero =>
      simp only [List.getElem?_cons_zero, Option.some.injEq] at hx
      subst hx
      simp [ocs, ocells, cacells, ancells]
    | succ i =>
      have hx' : l[i]? = some x := by simpa using hx
      have h := ih i hx'
      have e1 : ocs (b :: l) = ocells b.1 b.2 ++ ocs l := by simp [ocs]
      have e2 : ∀ y, ocs ((b :: l).set (i + 1) y) = ocells b.1 b.2 ++ ocs (l.set i y) := by intro y; simp [ocs]
      have hl : ∀ (y : List Value) (k : Nat) (u : Value), (ocells b.1 b.2 ++ y).set ((i + 1) * 13 + k) u = ocells b.1 b.2 ++ y.set (i * 13 + k) u := by
        intro y k u
        rw [List.set_append_right _ _ (by show 13 ≤ _; omega)]
        congr 2
        show (i + 1) * 13 + k - 13 = _
        omega
      rw [e1, e2, hl, hl, hl, hl, hl, hl, h]
abbrev OwnO (w : World) (B : Nat) (v : Value) (l : List (Opr × Value)) : Prop := w.ownsRow B 41 13 v l.length (ocs l)
theorem uOL : Try.prog.underlying 33 = some (.slice 41) := by kernel_rfl
theorem info_opr : ∃ i z, Try.prog.info? 41 = some i ∧ i.zero = some z ∧ z.cells.size = 13 ∧ i.size = 13 ∧ i.bytes = 120 := by
  have h : (Try.prog.info? 41).map (fun i => (i.zero.map (fun z => z.cells.size), i.size, i.bytes)) = some (some 13, 13, 120) := by kernel_rfl
  cases h1 : Try.prog.info? 41 with
  | none => rw [h1] at h; cases h
  | some i =>
    rw [h1] at h
    simp only [Option.map_some, Option.some.injEq, Prod.mk.injEq] at h
    obtain ⟨h2, h3, h4⟩ := h
    cases h5 : i.zero with
    | none => rw [h5] at h2; cases h2
    | some z => rw [h5] at h2; simp at h2; exact ⟨i, z, rfl, h5, h2, h3, h4⟩
theorem NP.grown {a b : World} {B : Nat} {v : Value} {l : List (Opr × Value)} (ho : OwnO a B v l) (hg : a.grownBy b v.ownBlock) : NP a b := by
  refine ⟨hg.size, fun k cur hk => ?_⟩
  rw [hg.block k (Array.getElem?_eq_some_iff.1 hk).1 ?_]
  · exact hk
  · intro e
    rcases ho.2 with ⟨rfl, _⟩ | ⟨g, cap, cur', rfl, _, hh, _⟩
    · cases e
    · simp only [Value.ownBlock, Option.some.injEq] at e
      subst e
      rw [hh] at hk
      simp only [Option.some.injEq, Obj.cells.injEq] at hk
      exact absurd hk.2.1 (by decide)
/-- One oper, that stands at a place of its own, appended. -/
theorem wpList_append_o1 {w : World} {ops : Array Oper} {rest : List Oper} {o : Oper} {a : Act} {Q : Exit → Act → World → Prop} (hgd : o.guard = none) (s x : Operand)
    (ho : o.op = .call { callee := .builtin .append, args := #[s, x], argTypes := #[33, 33] })
    (B : Nat) (v : Value) (l : List (Opr × Value)) (e : Opr × Value) (hs : a.eval s = v) (hown : OwnO w B v l) (ad : Addr) (c : Nat) (hx : a.eval x = .slice (some ad) 1 c) (hc : ∀ j u, (ocells e.1 e.2)[j]? = some u → w.cell? (ad.add j) = some u) (h1 : e.2.oneCell' = true) (hlen : l.length ≤ 1000000) (hB : B ≤ w.heap.size)
    (h : ∀ v' w', OwnO w' B v' (l ++ [e]) → w.grownBy w' v.ownBlock → wpList Try.prog ops Q rest (a.put o.dst v') w') : wpList Try.prog ops Q (o :: rest) a w := by
  obtain ⟨i0, z, hi, hz0, hzs, hz1, hz2⟩ := info_opr
  refine wpList_append_own _ hgd s x 33 ho B 41 i0 z 13 120 uOL hi hz0 hz1 hz2 hzs (by decide) v l.length (ocs l) hs hown ad 1 c (ocells e.1 e.2) hx rfl hc ?_ (by unfold maxLen; omega) (by omega) hB ?_
  · intro u hu
    simp only [ocells, cacells, ancells, List.mem_cons, List.mem_append, List.not_mem_nil, or_false] at hu
    rcases hu with rfl | ((rfl | rfl | rfl | rfl | rfl) | ((rfl | rfl | rfl | rfl | rfl) | (rfl | rfl))) <;> first | rfl | exact h1
  · intro v' w' h4 h5 _
    refine h v' w' ?_ h5
    unfold OwnO
    rw [List.length_append, ocs_app]
    have e1 : ocs [e] = ocells e.1 e.2 := by simp [ocs]
    rw [e1]
    exact h4
set_option maxHeartbeats 1000000 in
theorem hcopied (a : An) (v : Value) (w : World) (h : PR w v a.ps) (hn : a.ps.length ≤ 100000) : Calls Try.prog 24 #[.agg #[.int .i64 a.kind, .int .i64 a.key, .int .i64 a.val, .int .i64 a.n, v]] w fun e w' => ∃ v', e = .returned (.agg #[.int .i64 a.kind, .int .i64 a.key, .int .i64 a.val, .int .i64 a.n, v']) ∧ PO w' v' a.ps ∧ Below w.heap.size w w' := by
  refine Calls.veil fun Q HQ => ?_
  obtain ⟨k1, k2, k3, k4, ps⟩ := a
  simp only at *
  have HP := Lib.hid h
  obtain ⟨p, c, rfl, _, _⟩ := h.slice
  clear h
  go_enter Try.func24, Try.ntmps24
  go_wp2_with fail
  generalize hV : World.alloc (World.alloc w _) _ = V
  have hs : V.heap.size = w.heap.size + 2 := by rw [← hV]; simp
  have HB := Lib.hid (show Below w.heap.size w V by rw [← hV]; (repeat (first | exact Below.refl _ _ | assumption | refine below_new ?_ _ | refine Below.drew ?_ | refine below_drewN ?_ _ | refine below_on ?_ (by assumption))))
  have e : w.heap.size + 1 = (w.alloc (.cells #[.int .i64 k1, .int .i64 k2, .int .i64 k3, .int .i64 k4, .slice p ps.length c] 39)).heap.size := by simp
  have hv0 : V.heap[w.heap.size]? = some (.cells #[.int .i64 k1, .int .i64 k2, .int .i64 k3, .int .i64 k4, .slice p ps.length c] 39 (0, 0)) := by
    rw [← hV, Below.heap_alloc _ _ _ (by simp)]; exact heap_alloc_new w _
  have hv1 : V.heap[w.heap.size + 1]? = some (.cells #[.int .i64 0, .int .i64 0, .int .i64 0, .int .i64 0, .slice none 0 0] 39 (0, 0)) := by
    rw [← hV]; exact e ▸ heap_alloc_new (w.alloc (.cells #[.int .i64 k1, .int .i64 k2, .int .i64 k3, .int .i64 k4, .slice p ps.length c] 39)) _
  clear hV e
  refine (pcloneO ps _ V (HP.out.below HB.out) hn).mono ?_; rintro _ w2 ⟨v2, rfl, ho, hb2⟩
  obtain ⟨p2, c2, rfl, _, _⟩ := ho.1.slice
  have HO := Lib.hid ho
  have HB2 := Lib.hid hb2
  have h0 : w2.heap[w.heap.size]? = _ := (hb2.block _ (by omega)).trans hv0
  have h1 : w2.heap[w.heap.size + 1]? = _ := (hb2.block _ (by omega)).trans hv1
  have a0 : w2.cell? ⟨w.heap.size, 0, none⟩ = some (.int .i64 k1) := by rw [cell_of_row _ _ _ _ _ (0, 0) h0]; rfl
  have a1 : w2.cell? ⟨w.heap.size, 1, none⟩ = some (.int .i64 k2) := by rw [cell_of_row _ _ _ _ _ (0, 0) h0]; rfl
  have a2 : w2.cell? ⟨w.heap.size, 2, none⟩ = some (.int .i64 k3) := by rw [cell_of_row _ _ _ _ _ (0, 0) h0]; rfl
  have a3 : w2.cell? ⟨w.heap.size, 3, none⟩ = some (.int .i64 k4) := by rw [cell_of_row _ _ _ _ _ (0, 0) h0]; rfl
  have a4 : w2.cell? ⟨w.heap.size, 4, none⟩ = some (.slice p ps.length c) := by rw [cell_of_row _ _ _ _ _ (0, 0) h0]; rfl
  have b0 : w2.cell? ⟨w.heap.size + 1, 0, none⟩ = some (.int .i64 0) := by rw [cell_of_row _ _ _ _ _ (0, 0) h1]; rfl
  have b1 : w2.cell? ⟨w.heap.size + 1, 1, none⟩ = some (.int .i64 0) := by rw [cell_of_row _ _ _ _ _ (0, 0) h1]; rfl
  have b2 : w2.cell? ⟨w.heap.size + 1, 2, none⟩ = some (.int .i64 0) := by rw [cell_of_row _ _ _ _ _ (0, 0) h1]; rfl
  have b3 : w2.cell? ⟨w.heap.size + 1, 3, none⟩ = some (.int .i64 0) := by rw [cell_of_row _ _ _ _ _ (0, 0) h1]; rfl
  have b4 : w2.cell? ⟨w.heap.size + 1, 4, none⟩ = some (.slice none 0 0) := by rw [cell_of_row _ _ _ _ _ (0, 0) h1]; rfl
  have fa : ∀ i, w2.frozen? ⟨w.heap.size, i, none⟩ = false := fun i => frozen_of_row _ _ _ _ _ h0
  have fb : ∀ i, w2.frozen? ⟨w.heap.size + 1, i, none⟩ = false := fun i => frozen_of_row _ _ _ _ _ h1
  have HS := Lib.hid hs
  have HK1 := Lib.hid (show ∀ (k : Nat) (cur : Array Value), w2.heap[k]? = some (.cells cur 57 (0, 0)) → k ≠ w.heap.size ∧ k ≠ w.heap.size + 1 from fun k cur hk => by
    constructor
    · intro e
      rw [e, h0] at hk
      simp only [Option.some.injEq, Obj.cells.injEq] at hk
      exact absurd hk.2.1 (by decide)
    · intro e
      rw [e, h1] at hk
      simp only [Option.some.injEq, Obj.cells.injEq] at hk
      exact absurd hk.2.1 (by decide))
  clear ho hb2 hv0 hv1 hs h0 h1
  go_wp2_with fail
  generalize hW : World.setCell _ _ _ = W
  have hBW : Below w.heap.size w W := by
    have hs := HS.out
    rw [← hW]
    exact ((((((HB.out.trans (HB2.out.mono (by omega))).setCell (p := ⟨w.heap.size, 4, none⟩) (Nat.le_refl _) _).setCell (p := ⟨w.heap.size + 1, 0, none⟩) (Nat.le_succ _) _).setCell (p := ⟨w.heap.size + 1, 1, none⟩) (Nat.le_succ _) _).setCell (p := ⟨w.heap.size + 1, 2, none⟩) (Nat.le_succ _) _).setCell (p := ⟨w.heap.size + 1, 3, none⟩) (Nat.le_succ _) _).setCell (p := ⟨w.heap.size + 1, 4, none⟩) (Nat.le_succ _) _
  have hNW : NP w2 W := ⟨by rw [← hW]; simp, fun k cur hk => by
    obtain ⟨e1, e2⟩ := HK1.out k cur hk
    rw [← hW, Below.heap_setCell _ _ _ _ e2, Below.heap_setCell _ _ _ _ e2, Below.heap_setCell _ _ _ _ e2, Below.heap_setCell _ _ _ _ e2, Below.heap_setCell _ _ _ _ e2, Below.heap_setCell _ _ _ _ e1]
    exact hk⟩
  have g0 : W.cell? ⟨w.heap.size + 1, 0, none⟩ = some (.int .i64 k1) := by subst hW; go_simp
  have g1 : W.cell? ⟨w.heap.size + 1, 1, none⟩ = some (.int .i64 k2) := by subst hW; go_simp
  have g2 : W.cell? ⟨w.heap.size + 1, 2, none⟩ = some (.int .i64 k3) := by subst hW; go_simp
  have g3 : W.cell? ⟨w.heap.size + 1, 3, none⟩ = some (.int .i64 k4) := by subst hW; go_simp
  have g4 : W.cell? ⟨w.heap.size + 1, 4, none⟩ = some (.slice p2 ps.length c2) := by subst hW; go_simp
  clear hW a0 a1 a2 a3 a4 b0 b1 b2 b3 b4 fa fb
  have HBW := Lib.hid hBW; have HNW := Lib.hid hNW
  clear hBW hNW
  refine bodyPost_ret (v := .agg #[.int .i64 k1, .int .i64 k2, .int .i64 k3, .int .i64 k4, .slice p2 ps.length c2]) (by simp [results, Try.results24, go_sem, g0, g1, g2, g3, g4]) rfl ?_
  rw [HQ.out]
  exact ⟨_, rfl, HO.out.np HNW.out, HBW.out⟩
end Go.Proofs.Ytilfgekiblpkaaa
