/- Layer 10: sessions as rows; copied. -/
import Derived.Test.YtkgfhomoipbjoaaDoorCallB
namespace Go.Proofs.YtkgfhomoipbjoaaDoor
open Go.RowKit
set_option linter.unusedVariables false
set_option linter.unusedSimpArgs false
/-- An answer; a call. -/
structure An where
  kind : Int
  key : Int
  val : Int
  n : Int
  ps : PL
structure Ca where
  op : Int
  key : Int
  val : Int
  hi : Int
  lim : Int
def caV (c : Ca) : Value := .agg #[.int .i64 c.op, .int .i64 c.key, .int .i64 c.val, .int .i64 c.hi, .int .i64 c.lim]
def anV (a : An) (v : Value) : Value := .agg #[.int .i64 a.kind, .int .i64 a.key, .int .i64 a.val, .int .i64 a.n, v]
/-- Of what was there each row of pairs is as it was. -/
structure NP (w w' : World) : Prop where
  size : w.heap.size ≤ w'.heap.size
  keep : ∀ (k : Nat) (cur : Array Value), w.heap[k]? = some (.cells cur 75 (0, 0)) → w'.heap[k]? = some (.cells cur 75 (0, 0))
theorem NP.refl (w : World) : NP w w := ⟨Nat.le_refl _, fun _ _ h => h⟩
theorem NP.trans {a b c : World} (h : NP a b) (k : NP b c) : NP a c := ⟨Nat.le_trans h.size k.size, fun i cur hi => k.keep i cur (h.keep i cur hi)⟩
theorem NP.below {a b : World} (h : Below a.heap.size a b) : NP a b := ⟨h.size, fun k cur hk => by rw [h.block k (Array.getElem?_eq_some_iff.1 hk).1]; exact hk⟩
theorem NP.set {a : World} {b i : Nat} {cur : Array Value} {T : TypeId} {fr : Nat × Nat} (v : Value) (h : a.heap[b]? = some (.cells cur T fr)) (hT : T ≠ 75) : NP a (a.setCell ⟨b, i, none⟩ v) :=
  ⟨by simp, fun k cur' hk => by
    rw [Below.heap_setCell _ _ _ _ (by
      intro e
      simp only at e
      subst e
      rw [h] at hk
      simp only [Option.some.injEq, Obj.cells.injEq] at hk
      exact hT hk.2.1)]
    exact hk⟩
/-- A slice of pairs, in a row of pairs of its own. -/
def PO (w : World) (v : Value) (l : PL) : Prop := PR w v l ∧ ∀ a n c, v = .slice (some a) n c → 0 < n → ∃ cur, w.heap[a.block]? = some (.cells cur 75 (0, 0))
theorem PO.np {w w' : World} {v : Value} {l : PL} (h : PO w v l) (k : NP w w') : PO w' v l := by
  refine ⟨?_, fun a n c e h0 => by obtain ⟨cur, hc⟩ := h.2 a n c e h0; exact ⟨cur, k.keep _ _ hc⟩⟩
  have h2 := h.2
  cases h.1 with
  | nil => exact .nil
  | odd a c h1 => exact .odd a c h1
  | row g o c l h1 h3 h4 =>
    refine .row g o c l h1 h3 fun i hi => ?_
    obtain ⟨cur, hc⟩ := h2 _ _ _ rfl (by omega)
    have hk := k.keep _ _ hc
    have e : w'.heap[g]? = w.heap[g]? := by rw [hc]; exact hk
    exact ⟨(World.cell?_of_block (w := w) (a := ⟨g, o + i * 2, none⟩) e).trans (h4 i hi).1, (World.cell?_of_block (w := w) (a := ⟨g, o + i * 2 + 1, none⟩) e).trans (h4 i hi).2⟩
theorem PO.below {w w' : World} {v : Value} {l : PL} (h : PO w v l) (k : Below w.heap.size w w') : PO w' v l := h.np (.below k)
theorem PO.nil (w : World) : PO w (.slice none 0 0) [] := ⟨.nil, fun _ _ _ e => by cases e⟩
theorem own_PO {w : World} {B : Nat} {v : Value} {l : PL} (h : OwnP w B v l) : PO w v l := by
  refine ⟨own_PR h, fun a n c e h0 => ?_⟩
  rcases h.2 with ⟨hv, _⟩ | ⟨g, cap, cur, hv, _, hh, _⟩
  · rw [hv] at e; cases e
  · rw [hv] at e
    simp only [Value.slice.injEq, Option.some.injEq] at e
    rw [← e.1]
    exact ⟨cur, hh⟩
theorem pcloneO (l : PL) (v : Value) (w : World) (h : PR w v l) (hn : l.length ≤ 100000) :
    Calls Tryd.prog 28 #[v] w fun e w' => ∃ v', e = .returned v' ∧ PO w' v' l ∧ Below w.heap.size w w' := by
  have qT : ∀ (w : World) (a : Addr) (n c : Nat), (binOp .eql 24 (.slice (some a) n c) (.slice none 0 0)).run Tryd.prog w = .ok (.bool false) w := fun w a n c => Go.run_eql_slice_nil w _ _ (some a) n c uPL
  have qN : ∀ (w : World), (binOp .eql 24 (.slice none 0 0) (.slice none 0 0)).run Tryd.prog w = .ok (.bool true) w := fun w => Go.run_eql_slice_nil w _ _ none 0 0 uPL
  refine Calls.veil fun Q HQ => ?_
  have H := Lib.hid h
  cases h with
  | nil =>
    go_enter Tryd.func28, Tryd.ntmps28
    go_wp2_with fail
    (try go_ret)
    rw [HQ.out]
    exact ⟨_, rfl, .nil _, Below.refl _ _⟩
  | odd ad c hc0 =>
    go_enter Tryd.func28, Tryd.ntmps28
    go_wp2_with (at_builtin; refine wpList_append_pr rfl (.tmp 5) (.tmp 6) rfl w.heap.size _ [] rfl (own_none w) _ [] rfl (H.out.alloc _) (by simp) (by simp) ?_)
    intro v1 w1 hown hg
    have hb := grow_step (W := w) (own_none w) (by (repeat (first | exact Below.refl _ _ | assumption | refine below_new ?_ _ | refine Below.drew ?_ | refine below_drewN ?_ _ | refine below_on ?_ (by assumption)))) (Nat.le_refl _) hg
    have HP := Lib.hid (own_PO hown)
    clear hown hg
    go_wp2_with fail
    (try go_ret)
    rw [HQ.out]
    exact ⟨_, rfl, HP.out, hb⟩
  | row g o c _ h1 h2 h3 =>
    clear h3
    go_enter Tryd.func28, Tryd.ntmps28
    go_wp2_with (at_builtin; refine wpList_append_pr rfl (.tmp 5) (.tmp 6) rfl w.heap.size _ [] rfl (own_none w) _ l rfl (H.out.alloc _) (by simp; omega) (by simp) ?_)
    intro v1 w1 hown hg
    have hb := grow_step (W := w) (own_none w) (by (repeat (first | exact Below.refl _ _ | assumption | refine below_new ?_ _ | refine Below.drew ?_ | refine below_drewN ?_ _ | refine below_on ?_ (by assumption)))) (Nat.le_refl _) hg
    have HP := Lib.hid (own_PO hown)
    clear hown hg
    go_wp2_with fail
    (try go_ret)
    rw [HQ.out]
    exact ⟨_, rfl, HP.out, hb⟩
/-- A session; a state. -/
structure Se where
  j : Bool
  o : Bool
  fz : PL
  pt : Int
structure Sm where
  mp : PL
  n : Nat
  th : Nat → Se
def s0 : Se := ⟨false, false, [], 0⟩
/-- A row of cells in a block of its own. -/
def RowF (T : TypeId) (w : World) (g m : Nat) (F : Nat → Value) : Prop := ∃ cur : Array Value, w.heap[g]? = some (.cells cur T (0, 0)) ∧ cur.toList.take m = (List.range m).map F
theorem RowF.get {T : TypeId} {w : World} {g m : Nat} {F : Nat → Value} (h : RowF T w g m F) {j : Nat} (hj : j < m) : w.cell? ⟨g, j, none⟩ = some (F j) := by
  obtain ⟨cur, h1, h2⟩ := h
  have h3 : ((List.range m).map F)[j]? = some (F j) := by simp [List.getElem?_range hj]
  rw [← h2, List.getElem?_take_of_lt hj] at h3
  rw [cell_of_row _ _ _ _ _ (0, 0) h1]; simpa using h3
theorem RowF.set {T : TypeId} {w : World} {g m : Nat} {F : Nat → Value} (h : RowF T w g m F) (k : Nat) (x : Value) : RowF T (w.setCell ⟨g, k, none⟩ x) g m (fun j => if j = k then x else F j) := by
  obtain ⟨cur, h1, h2⟩ := h
  refine ⟨_, heap_setCell_same w g k _ _ _ h1, ?_⟩
  have e : ((List.range m).map F).set k x = (List.range m).map (fun j => if j = k then x else F j) := by
    apply List.ext_getElem?
    intro j
    rw [List.getElem?_set]
    by_cases hj : j < m
    · by_cases e : k = j
      · subst e; simp [hj]
      · rw [if_neg e]; simp [hj, Ne.symm e]
    · simp [hj]; omega
  rw [← e, ← h2]
  simp [List.take_set]
theorem RowF.congr {T : TypeId} {w : World} {g m : Nat} {F G : Nat → Value} (h : RowF T w g m F) (e : ∀ j, j < m → F j = G j) : RowF T w g m G := by
  obtain ⟨cur, h1, h2⟩ := h
  exact ⟨cur, h1, h2.trans (List.map_congr_left fun j hj => e j (List.mem_range.1 hj))⟩
theorem RowF.of {T : TypeId} {w w' : World} {g m : Nat} {F : Nat → Value} (h : RowF T w g m F) (e : w'.heap[g]? = w.heap[g]?) : RowF T w' g m F := by
  obtain ⟨cur, h1, h2⟩ := h
  exact ⟨cur, e.trans h1, h2⟩
theorem RowF.lt {T : TypeId} {w : World} {g m : Nat} {F : Nat → Value} (h : RowF T w g m F) : g < w.heap.size := by
  obtain ⟨cur, h1, h2⟩ := h
  exact (Array.getElem?_eq_some_iff.1 h1).1
theorem RowF.fr {T : TypeId} {w : World} {g m : Nat} {F : Nat → Value} (h : RowF T w g m F) (i : Nat) : w.frozen? ⟨g, i, none⟩ = false := by
  obtain ⟨cur, h1, h2⟩ := h
  exact frozen_of_row _ _ _ _ _ h1
theorem RowF.below {T : TypeId} {w w' : World} {g m : Nat} {F : Nat → Value} (h : RowF T w g m F) (k : Below w.heap.size w w') : RowF T w' g m F := h.of (k.block _ h.lt)
def cell4 (L : Nat → Se) (fv : Nat → Value) (k : Nat) : Value := if k % 4 = 0 then .bool (L (k / 4)).j else if k % 4 = 1 then .bool (L (k / 4)).o else if k % 4 = 2 then fv (k / 4) else .int .i64 (L (k / 4)).pt
theorem cell4_0 (L : Nat → Se) (fv : Nat → Value) (i : Nat) : cell4 L fv (i * 4) = .bool (L i).j := by unfold cell4; rw [if_pos (by omega), show i * 4 / 4 = i by omega]
theorem cell4_1 (L : Nat → Se) (fv : Nat → Value) (i : Nat) : cell4 L fv (i * 4 + 1) = .bool (L i).o := by unfold cell4; rw [if_neg (by omega), if_pos (by omega), show (i * 4 + 1) / 4 = i by omega]
theorem cell4_2 (L : Nat → Se) (fv : Nat → Value) (i : Nat) : cell4 L fv (i * 4 + 2) = fv i := by unfold cell4; rw [if_neg (by omega), if_neg (by omega), if_pos (by omega), show (i * 4 + 2) / 4 = i by omega]
theorem cell4_3 (L : Nat → Se) (fv : Nat → Value) (i : Nat) : cell4 L fv (i * 4 + 3) = .int .i64 (L i).pt := by unfold cell4; rw [if_neg (by omega), if_neg (by omega), if_neg (by omega), show (i * 4 + 3) / 4 = i by omega]
/-- A session's cells. -/
structure SeC (w : World) (T o : Nat) (s : Se) (fv : Value) : Prop where
  c0 : w.cell? ⟨T, o, none⟩ = some (.bool s.j)
  c1 : w.cell? ⟨T, o + 1, none⟩ = some (.bool s.o)
  c2 : w.cell? ⟨T, o + 2, none⟩ = some fv
  c3 : w.cell? ⟨T, o + 3, none⟩ = some (.int .i64 s.pt)
  p : PO w fv s.fz
theorem SeC.below {w w' : World} {T o : Nat} {s : Se} {fv : Value} (h : SeC w T o s fv) (k : Below w.heap.size w w') : SeC w' T o s fv :=
  ⟨Ext.use (Ext.cells h.c0) k, Ext.use (Ext.cells h.c1) k, Ext.use (Ext.cells h.c2) k, Ext.use (Ext.cells h.c3) k, h.p.below k⟩
inductive TR (w : World) : Value → Nat → (Nat → Se) → Prop
  | nil (L) : TR w (.slice none 0 0) 0 L
  | odd (a : Addr) (c : Nat) (L) : c ≤ 9223372036854775807 → TR w (.slice (some a) 0 c) 0 L
  | row (T n c : Nat) (L) (fv : Nat → Value) : n ≤ c → c ≤ 9223372036854775807 → (∀ i, i < n → SeC w T (i * 4) (L i) (fv i)) → TR w (.slice (some ⟨T, 0, none⟩) n c) n L
theorem TR.below {w w' : World} {v : Value} {n : Nat} {L : Nat → Se} (h : TR w v n L) (k : Below w.heap.size w w') : TR w' v n L := by
  cases h with
  | nil => exact .nil _
  | odd a c _ h1 => exact .odd a c _ h1
  | row T n c _ fv h1 h2 h3 => exact .row T n c _ fv h1 h2 fun i hi => (h3 i hi).below k
theorem TR.slice {w : World} {v : Value} {n : Nat} {L : Nat → Se} (h : TR w v n L) : ∃ p c, v = .slice p n c ∧ n ≤ c ∧ c ≤ 9223372036854775807 ∧ Hid (∀ i, i < n → ∃ T fv, p = some ⟨T, 0, none⟩ ∧ SeC w T (i * 4) (L i) fv) := by
  cases h with
  | nil => exact ⟨_, _, rfl, Nat.le_refl _, by decide, Lib.hid fun i hi => by omega⟩
  | odd a c _ h1 => exact ⟨_, _, rfl, Nat.zero_le _, h1, Lib.hid fun i hi => by omega⟩
  | row T n c _ fv h1 h2 h3 => exact ⟨_, _, rfl, h1, h2, Lib.hid fun i hi => ⟨T, fv i, rfl, h3 i hi⟩⟩
/-- The sessions in a block of their own. -/
def OwnT (T : TypeId) (w : World) (B : Nat) (v : Value) (n : Nat) (L : Nat → Se) (fv : Nat → Value) : Prop :=
  (∀ i, i < n → PO w (fv i) (L i).fz) ∧ ((n = 0 ∧ (v = .slice none 0 0 ∨ ∃ a c, v = .slice (some a) 0 c ∧ c ≤ 9223372036854775807)) ∨ ∃ g c, v = .slice (some ⟨g, 0, none⟩) n c ∧ n ≤ c ∧ c ≤ 9223372036854775807 ∧ B ≤ g ∧ RowF T w g (n * 4) (cell4 L fv))
theorem RowF.ses {T : TypeId} {w : World} {g n : Nat} {L : Nat → Se} {fv : Nat → Value} (h : RowF T w g (n * 4) (cell4 L fv)) (hp : ∀ i, i < n → PO w (fv i) (L i).fz) (i : Nat) (hi : i < n) : SeC w g (i * 4) (L i) (fv i) :=
  ⟨by rw [h.get (by omega), cell4_0], by rw [h.get (by omega), cell4_1], by rw [h.get (by omega), cell4_2], by rw [h.get (by omega), cell4_3], hp i hi⟩
theorem OwnT.tr {T : TypeId} {w : World} {B : Nat} {v : Value} {n : Nat} {L : Nat → Se} {fv : Nat → Value} (h : OwnT T w B v n L fv) : TR w v n L := by
  obtain ⟨hp, ⟨rfl, (rfl | ⟨a, c, rfl, hc⟩)⟩ | ⟨g, c, rfl, h1, h2, h3, h4⟩⟩ := h
  · exact .nil _
  · exact .odd a c _ hc
  · exact .row g n c L fv h1 h2 fun i hi => h4.ses hp i hi
def sz : Value := .agg #[.bool false, .bool false, .slice none 0 0, .int .i64 0]
theorem own_none4 {T : TypeId} (w : World) : (w.alloc (.cells #[] T)).ownsRow w.heap.size T 4 (.slice (some ⟨w.heap.size, 0, none⟩) 0 0) 0 [] :=
  ⟨rfl, .inr ⟨_, 0, _, rfl, Nat.le_refl _, heap_alloc_new w _, Nat.le_refl _, by decide, rfl, rfl⟩⟩
theorem c4_one {L : Nat → Se} {fv : Nat → Value} {n : Nat} (h : ∀ i, i < n → ∃ p m c, fv i = .slice p m c) : ∀ u ∈ (List.range (n * 4)).map (cell4 L fv), u.oneCell' = true := by
  intro v hv
  simp only [List.mem_map, List.mem_range] at hv
  obtain ⟨j, hj, rfl⟩ := hv
  unfold cell4
  obtain ⟨p, m, c, e⟩ := h (j / 4) (by omega)
  rw [e]
  split
  · rfl
  · split
    · rfl
    · split <;> rfl
theorem c4_news {w : World} {T n : Nat} {L : Nat → Se} {fv : Nat → Value} (h : ∀ i, i < n → SeC w T (i * 4) (L i) (fv i)) (j : Nat) (u : Value) (hu : ((List.range (n * 4)).map (cell4 L fv))[j]? = some u) : w.cell? ((⟨T, 0, none⟩ : Addr).add j) = some u := by
  have hj : j < n * 4 := by have := (List.getElem?_eq_some_iff.1 hu).1; simpa using this
  simp only [List.getElem?_map, List.getElem?_range hj, Option.map_some, Option.some.injEq] at hu
  subst hu
  rw [show ((⟨T, 0, none⟩ : Addr).add j) = ⟨T, j, none⟩ by simp only [Addr.add]; split <;> simp_all]
  have hi := h (j / 4) (by omega)
  rcases (by omega : j = j / 4 * 4 ∨ j = j / 4 * 4 + 1 ∨ j = j / 4 * 4 + 2 ∨ j = j / 4 * 4 + 3) with e | e | e | e <;> rw [e]
  · rw [cell4_0]; exact hi.c0
  · rw [cell4_1]; exact hi.c1
  · rw [cell4_2]; exact hi.c2
  · rw [cell4_3]; exact hi.c3
/-- Sessions appended to a row without elements. -/
theorem wpList_append_t {T SL : TypeId} (uT : Tryd.prog.underlying SL = some (.slice T)) (infoT : (Tryd.prog.info? T).map (fun i => (i.zero, i.size, i.bytes)) = some (some sz, 4, 40))
    {w : World} {ops : Array Oper} {rest : List Oper} {o : Oper} {a : Act} {Q : Exit → Act → World → Prop} (hgd : o.guard = none) (s x : Operand)
    (ho : o.op = .call { callee := .builtin .append, args := #[s, x], argTypes := #[SL, SL] })
    (W : World) (hW : w = W.alloc (.cells #[] T)) (hs : a.eval s = .slice (some ⟨W.heap.size, 0, none⟩) 0 0) (src : Value) (n : Nat) (L : Nat → Se) (hx : a.eval x = src) (hp : TR W src n L) (hn : n ≤ 1000)
    (h : ∀ v' w' fv, OwnT T w' W.heap.size v' n L fv → Below W.heap.size W w' → wpList Tryd.prog ops Q rest (a.put o.dst v') w') : wpList Tryd.prog ops Q (o :: rest) a w := by
  obtain ⟨i0, hi, hz0, hz1, hz2⟩ := info_parts infoT
  subst hW
  have hown := own_none4 (T := T) W
  have hb0 : Below W.heap.size W (W.alloc (.cells #[] T)) := (Below.refl _ _).alloc (Nat.le_refl _) _
  cases hp with
  | nil =>
    refine wpList_append_own_none hgd s x SL ho W.heap.size T i0 4 uT hi _ 0 [] hs hown hx ?_
    exact h _ _ (fun _ => undef) ⟨fun i hi => by omega, .inl ⟨rfl, .inr ⟨_, _, rfl, by decide⟩⟩⟩ hb0
  | odd ad c _ hc0 =>
    refine wpList_append_own _ hgd s x SL ho W.heap.size T i0 _ 4 40 uT hi hz0 hz1 hz2 rfl (by decide) _ 0 [] hs hown ad 0 c [] hx rfl (by simp) (by simp) (by unfold maxLen; omega) (by omega) (by simp) ?_
    intro v' w' h4 h5 _
    have hb : Below W.heap.size W w' := hb0.grown h5 (by simp) (fun k e => by simp only [Value.ownBlock, Option.some.injEq] at e; omega)
    refine h v' w' (fun _ => undef) ⟨fun i hi => by omega, .inl ⟨rfl, ?_⟩⟩ hb
    rcases h4.2 with ⟨hv, _⟩ | ⟨g, cap, cur, hv, _, hh, _, hc2, _⟩
    · exact .inl hv
    · exact .inr ⟨_, _, hv, hc2⟩
  | row T1 n c _ fv h1 h2 h3 =>
    have h3' : ∀ i, i < n → SeC (W.alloc (.cells #[] T)) T1 (i * 4) (L i) (fv i) := fun i hi => (h3 i hi).below hb0
    refine wpList_append_own _ hgd s x SL ho W.heap.size T i0 _ 4 40 uT hi hz0 hz1 hz2 rfl (by decide) _ 0 [] hs hown ⟨T1, 0, none⟩ n c ((List.range (n * 4)).map (cell4 L fv)) hx (by simp) (c4_news h3') (c4_one fun i hi => by obtain ⟨p, c, e, _⟩ := (h3 i hi).p.1.slice; exact ⟨p, _, c, e⟩) (by unfold maxLen; omega) (by omega) (by simp) ?_
    intro v' w' h4 h5 _
    have hb : Below W.heap.size W w' := hb0.grown h5 (by simp) (fun k e => by simp only [Value.ownBlock, Option.some.injEq] at e; omega)
    refine h v' w' fv ⟨fun i hi => (h3 i hi).p.below hb, ?_⟩ hb
    simp only [Nat.zero_add, List.nil_append] at h4
    rcases h4.2 with ⟨hv, hn0⟩ | ⟨g, cap, cur, hv, hg, hh, hc, hm, hs2, ht⟩
    · left
      refine ⟨?_, .inl hv⟩
      first | exact hn0 | exact hn0.1 | (simp at hn0; omega)
    · exact .inr ⟨g, cap, hv, hc, hm, hg, cur, hh, ht⟩
theorem uSess : Tryd.prog.underlying 25 = some (.slice 60) := by kernel_rfl
theorem infoSess : (Tryd.prog.info? 60).map (fun i => (i.zero, i.size, i.bytes)) = some (some sz, 4, 40) := by kernel_rfl
set_option maxHeartbeats 1000000 in
theorem sclone10 (n : Nat) (L : Nat → Se) (v : Value) (w : World) (h : TR w v n L) (hn : n ≤ 1000) :
    Calls Tryd.prog 29 #[v] w fun e w' => ∃ v' fv, e = .returned v' ∧ OwnT 60 w' w.heap.size v' n L fv ∧ Below w.heap.size w w' := by
  have qT : ∀ (w : World) (a : Addr) (n c : Nat), (binOp .eql 25 (.slice (some a) n c) (.slice none 0 0)).run Tryd.prog w = .ok (.bool false) w := fun w a n c => Go.run_eql_slice_nil w _ _ (some a) n c uSess
  have qN : ∀ (w : World), (binOp .eql 25 (.slice none 0 0) (.slice none 0 0)).run Tryd.prog w = .ok (.bool true) w := fun w => Go.run_eql_slice_nil w _ _ none 0 0 uSess
  refine Calls.veil fun Q HQ => ?_
  have H := Lib.hid h
  cases h with
  | nil =>
    go_enter Tryd.func29, Tryd.ntmps29
    go_wp2_with fail
    (try go_ret)
    rw [HQ.out]
    exact ⟨_, fun _ => undef, rfl, ⟨fun i hi => by omega, .inl ⟨rfl, .inl rfl⟩⟩, Below.refl _ _⟩
  | odd ad c _ hc0 =>
    go_enter Tryd.func29, Tryd.ntmps29
    go_wp2_with (at_builtin; refine wpList_append_t uSess infoSess rfl (.tmp 5) (.tmp 6) rfl w rfl rfl _ 0 L rfl H.out (by omega) ?_)
    intro v1 w1 fv hown hb
    have HP := Lib.hid hown
    clear hown
    go_wp2_with fail
    (try go_ret)
    rw [HQ.out]
    exact ⟨_, fv, rfl, HP.out, hb⟩
  | row T1 n c _ fv0 h1 h2 h3 =>
    clear h3
    go_enter Tryd.func29, Tryd.ntmps29
    go_wp2_with (at_builtin; refine wpList_append_t uSess infoSess rfl (.tmp 5) (.tmp 6) rfl w rfl rfl _ n L rfl H.out hn ?_)
    intro v1 w1 fv hown hb
    have HP := Lib.hid hown
    clear hown
    go_wp2_with fail
    (try go_ret)
    rw [HQ.out]
    exact ⟨_, fv, rfl, HP.out, hb⟩
end Go.Proofs.YtkgfhomoipbjoaaDoor
