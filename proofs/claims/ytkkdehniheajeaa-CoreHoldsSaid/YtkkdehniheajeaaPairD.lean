/- Layer 8's contracts that make rows. -/
import Derived.Test.YtkkdehniheajeaaPairC
import Derived.Test.YtkkdehniheajeaaMix
import Derived.Laws.AppendOwn
import Derived.Laws.AppendOwnNone
import Derived.OwnWalk
import Derived.Lib.LazyBuf
namespace Go.Proofs.Ytkkdehniheajeaa.Th
open Go.RowKit
set_option linter.unusedVariables false
set_option linter.unusedSimpArgs false

theorem uPL : Try.prog.underlying 58 = some (.slice 138) := by kernel_rfl
theorem infoPair : (Try.prog.info? 138).map (fun i => (i.zero, i.size, i.bytes)) = some (some (.agg #[.int .i64 0, .int .i64 0]), 2, 16) := by kernel_rfl

abbrev OwnP (w : World) (B : Nat) (v : Value) (l : PL) : Prop := w.ownsRow B 138 2 v l.length (pcells l)
theorem own_PR {w : World} {B : Nat} {v : Value} {l : PL} (h : OwnP w B v l) : PR w v l := by
  rcases h.2 with ⟨rfl, h0⟩ | ⟨g, cap, cur, hv, hg, hh, hc, hm, hs, ht⟩
  · have e : l = [] := List.eq_nil_of_length_eq_zero h0
    subst e; exact .nil
  · subst hv
    refine .row g 0 cap l hc hm fun i hi => ?_
    obtain ⟨g0, g1⟩ := pcells_get l i hi
    have hl := pcells_len l
    rw [← ht, List.getElem?_take_of_lt (by omega)] at g0 g1
    refine ⟨?_, ?_⟩
    · rw [cell_of_row _ g _ _ _ (0, 0) hh]; simpa using g0
    · rw [cell_of_row _ g _ _ _ (0, 0) hh]; simpa using g1
theorem own_none (w : World) : OwnP (w.alloc (.cells #[] 138)) w.heap.size (.slice (some ⟨w.heap.size, 0, none⟩) 0 0) [] :=
  ⟨rfl, .inr ⟨_, 0, _, rfl, Nat.le_refl _, heap_alloc_new w _, Nat.le_refl _, by decide, rfl, rfl⟩⟩
theorem own_nil (w : World) (B : Nat) : OwnP w B (.slice none 0 0) [] := ⟨rfl, .inl ⟨rfl, rfl⟩⟩
theorem own_ge {w : World} {B : Nat} {e : TypeId} {size : Nat} {v : Value} {n : Nat} {xs : List Value} (h : w.ownsRow B e size v n xs) : ∀ k, v.ownBlock = some k → B ≤ k := by
  intro k hk
  rcases h.2 with ⟨rfl, _⟩ | ⟨g, cap, cur, rfl, hg, _⟩
  · cases hk
  · simp only [Value.ownBlock, Option.some.injEq] at hk; omega
theorem grow_step {W w0 w1 : World} {B : Nat} {v : Value} {l : PL} (hown : OwnP w0 B v l) (hbel : Below B W w0) (hB : B ≤ W.heap.size) (hg : w0.grownBy w1 v.ownBlock) : Below B W w1 :=
  hbel.grown hg (by have := hbel.size; omega) (own_ge hown)
theorem addP (g o j : Nat) : ((⟨g, o, none⟩ : Addr).add j) = ⟨g, o + j, none⟩ := by simp only [Addr.add]; split <;> simp_all
theorem PR_news {w : World} {g o : Nat} {l : PL} (h : ∀ i, i < l.length → w.cell? ⟨g, o + i * 2, none⟩ = some (.int .i64 (ky l i)) ∧ w.cell? ⟨g, o + i * 2 + 1, none⟩ = some (.int .i64 (vl l i))) (j : Nat) (u : Value) (hu : (pcells l)[j]? = some u) : w.cell? ((⟨g, o, none⟩ : Addr).add j) = some u := by
  obtain ⟨i, hi, h1⟩ := pcells_at hu
  rw [addP]
  rcases h1 with ⟨rfl, rfl⟩ | ⟨rfl, rfl⟩
  · exact (h i hi).1
  · exact (h i hi).2

theorem wpList_append_pr {w : World} {ops : Array Oper} {rest : List Oper} {o : Oper} {a : Act} {Q : Exit → Act → World → Prop} (hgd : o.guard = none) (s x : Operand)
    (ho : o.op = .call { callee := .builtin .append, args := #[s, x], argTypes := #[58, 58] })
    (B : Nat) (v : Value) (l : PL) (hs : a.eval s = v) (hown : OwnP w B v l) (src : Value) (k : PL) (hx : a.eval x = src) (hp : PR w src k) (hlen : l.length + k.length ≤ 1000000) (hB : B ≤ w.heap.size)
    (h : ∀ v' w', OwnP w' B v' (l ++ k) → w.grownBy w' v.ownBlock → wpList Try.prog ops Q rest (a.put o.dst v') w') : wpList Try.prog ops Q (o :: rest) a w := by
  obtain ⟨i0, hi, hz0, hz1, hz2⟩ := info_parts infoPair
  cases hp with
  | nil => exact wpList_append_own_none hgd s x 58 ho B 138 i0 2 uPL hi v l.length (pcells l) hs hown hx (h v w (by simpa [OwnP] using hown) ⟨rfl, rfl, rfl, Nat.le_refl _, fun _ _ _ => rfl⟩)
  | odd ad c hc0 =>
    refine wpList_append_own _ hgd s x 58 ho B 138 i0 _ 2 16 uPL hi hz0 hz1 hz2 rfl (by decide) v l.length (pcells l) hs hown ad 0 c [] hx rfl (by simp) (by simp) (by unfold maxLen; omega) (by omega) hB ?_
    intro v' w' h4 h5 _
    exact h v' w' (by simpa [OwnP] using h4) h5
  | row g of c _ h1 h2 h3 =>
    refine wpList_append_own _ hgd s x 58 ho B 138 i0 _ 2 16 uPL hi hz0 hz1 hz2 rfl (by decide) v l.length (pcells l) hs hown ⟨g, of, none⟩ k.length c (pcells k) hx (pcells_len k) (PR_news h3) (pcells_one' k) (by unfold maxLen; omega) (by omega) hB ?_
    intro v' w' h4 h5 _
    exact h v' w' (by unfold OwnP; rw [List.length_append, pcells_app]; exact h4) h5

theorem pclone (l : PL) (v : Value) (w : World) (h : PR w v l) (hn : l.length ≤ 100000) :
    Calls Try.prog 78 #[v] w fun e w' => ∃ v', e = .returned v' ∧ PR w' v' l ∧ Below w.heap.size w w' := by
  have qT : ∀ (w : World) (a : Addr) (n c : Nat), (binOp .eql 58 (.slice (some a) n c) (.slice none 0 0)).run Try.prog w = .ok (.bool false) w := fun w a n c => Go.run_eql_slice_nil w _ _ (some a) n c uPL
  have qN : ∀ (w : World), (binOp .eql 58 (.slice none 0 0) (.slice none 0 0)).run Try.prog w = .ok (.bool true) w := fun w => Go.run_eql_slice_nil w _ _ none 0 0 uPL
  refine Calls.veil fun Q HQ => ?_
  have H := Lib.hid h
  cases h with
  | nil =>
    go_enter Try.func78, Try.ntmps78
    go_wp2_with fail
    (try go_ret)
    rw [HQ.out]
    exact ⟨_, rfl, .nil, Below.refl _ _⟩
  | odd ad c hc0 =>
    go_enter Try.func78, Try.ntmps78
    go_wp2_with (at_builtin; refine wpList_append_pr rfl (.tmp 5) (.tmp 6) rfl w.heap.size _ [] rfl (own_none w) _ [] rfl (H.out.alloc _) (by simp) (by simp) ?_)
    intro v1 w1 hown hg
    have hb := grow_step (W := w) (own_none w) (by (repeat (first | exact Below.refl _ _ | assumption | refine below_new ?_ _ | refine Below.drew ?_ | refine below_drewN ?_ _ | refine below_on ?_ (by assumption)))) (Nat.le_refl _) hg
    have HP := Lib.hid (own_PR hown)
    clear hown hg
    go_wp2_with fail
    (try go_ret)
    rw [HQ.out]
    exact ⟨_, rfl, HP.out, hb⟩
  | row g o c _ h1 h2 h3 =>
    clear h3
    go_enter Try.func78, Try.ntmps78
    go_wp2_with (at_builtin; refine wpList_append_pr rfl (.tmp 5) (.tmp 6) rfl w.heap.size _ [] rfl (own_none w) _ l rfl (H.out.alloc _) (by simp; omega) (by simp) ?_)
    intro v1 w1 hown hg
    have hb := grow_step (W := w) (own_none w) (by (repeat (first | exact Below.refl _ _ | assumption | refine below_new ?_ _ | refine Below.drew ?_ | refine below_drewN ?_ _ | refine below_on ?_ (by assumption)))) (Nat.le_refl _) hg
    have HP := Lib.hid (own_PR hown)
    clear hown hg
    go_wp2_with fail
    (try go_ret)
    rw [HQ.out]
    exact ⟨_, rfl, HP.out, hb⟩
/-- So many rows, one behind the other. -/
def catL (ls : Nat → PL) : Nat → PL
  | 0 => []
  | k + 1 => catL ls k ++ ls k
theorem catL_len (ls : Nat → PL) (M : Nat) : ∀ k, (∀ i, i < k → (ls i).length ≤ M) → (catL ls k).length ≤ k * M
  | 0, _ => by simp [catL]
  | k + 1, h => by
    have := catL_len ls M k (fun i hi => h i (by omega))
    have := h k (by omega)
    simp only [catL, List.length_append]
    rw [Nat.add_mul]; omega
theorem PR.cast {w : World} {p : Option Addr} {n m c : Nat} {l : PL} (h : PR w (.slice p n c) l) (e : n = m) : PR w (.slice p m c) l := by subst e; exact h
theorem PR.mkrow {w : World} {g o n c : Nat} {l : PL} (hn : n = l.length) (hc : n ≤ c) (hm : c ≤ 9223372036854775807) (h : ∀ i, i < l.length → w.cell? ⟨g, o + i * 2, none⟩ = some (.int .i64 (ky l i)) ∧ w.cell? ⟨g, o + i * 2 + 1, none⟩ = some (.int .i64 (vl l i))) : PR w (.slice (some ⟨g, o, none⟩) n c) l := by
  subst hn; exact .row g o c l hc hm h
theorem PR.take {w : World} {g o c : Nat} {l : PL} (h : PR w (.slice (some ⟨g, o, none⟩) l.length c) l) {r : Nat} (hr : r ≤ l.length) : PR w (.slice (some ⟨g, o, none⟩) r c) (l.take r) := by
  obtain ⟨p, c', e, h1, h2, h3⟩ := h.parts
  injection e with e1 _ e2
  subst e2
  refine .mkrow (by simp; omega) (by omega) h2 fun i hi => ?_
  simp at hi
  obtain ⟨g', o', e3, c0, c1⟩ := h3.out i (by omega)
  rw [← e1] at e3
  injection e3 with e3
  injection e3 with e4 e5 _
  subst e4; subst e5
  rw [ky_take (by omega), vl_take (by omega)]
  exact ⟨c0, c1⟩
theorem PR.drop {w : World} {g o c : Nat} {l : PL} (h : PR w (.slice (some ⟨g, o, none⟩) l.length c) l) {r : Nat} (hr : r ≤ l.length) : PR w (.slice (some ⟨g, o + r * 2, none⟩) (l.length - r) (c - r)) (l.drop r) := by
  obtain ⟨p, c', e, h1, h2, h3⟩ := h.parts
  injection e with e1 _ e2
  subst e2
  refine .mkrow (by simp) (by omega) (by omega) fun i hi => ?_
  simp at hi
  obtain ⟨g', o', e3, c0, c1⟩ := h3.out (r + i) (by omega)
  rw [← e1] at e3
  injection e3 with e3
  injection e3 with e4 e5 _
  subst e4; subst e5
  rw [ky_drop, vl_drop, show o + r * 2 + i * 2 = o + (r + i) * 2 by omega]
  exact ⟨c0, c1⟩
theorem PR.drop_all {w : World} {g o c : Nat} {l : PL} (hc : c ≤ 9223372036854775807) : PR w (.slice (some ⟨g, o, none⟩) 0 c) (l.drop l.length) := by
  rw [List.drop_length]; exact .mkrow rfl (by omega) hc (by simp)
theorem PR.single {w : World} {k x : Int} {T : TypeId} : PR (w.alloc (.cells #[.int .i64 k, .int .i64 x] T)) (.slice (some ⟨w.heap.size, 0, none⟩) 1 1) [(k, x)] := by
  have := Cell2.new w k x T
  refine .mkrow rfl (by omega) (by omega) fun i hi => ?_
  have : i = 0 := by simpa using hi
  subst this
  exact ⟨this.c0, this.c1⟩
theorem putL_new {l : PL} {p : Int × Int} (h : hereB l p.1 = false) : putL l p = l.take (lbN l p.1) ++ [p] ++ l.drop (lbN l p.1) := by unfold putL; rw [h]; rfl
theorem putL_old {l : PL} {p : Int × Int} (h : hereB l p.1 = true) : putL l p = l := by unfold putL; rw [h]; rfl
theorem dropL_here {l : PL} {k : Int} (h : hereB l k = true) : dropL l k = l.take (lbN l k) ++ l.drop (lbN l k + 1) := by unfold dropL; rw [h]; rfl
theorem dropL_not {l : PL} {k : Int} (h : hereB l k = false) : dropL l k = l := by unfold dropL; rw [h]; rfl
end Go.Proofs.Ytkkdehniheajeaa.Th
