/- Layer 8's contracts that make rows. -/
import Derived.Test.YtkgfhomoipbjoaaDoorPairC
import Derived.Test.YtkgfhomoipbjoaaDoorMix
import Derived.Laws.AppendOwn
import Derived.Laws.AppendOwnNone
import Derived.OwnWalk
import Derived.Lib.LazyBuf
namespace Go.Proofs.YtkgfhomoipbjoaaDoor
open Go.RowKit
set_option linter.unusedVariables false
set_option linter.unusedSimpArgs false

theorem uPL : Tryd.prog.underlying 24 = some (.slice 75) := by kernel_rfl
theorem infoPair : (Tryd.prog.info? 75).map (fun i => (i.zero, i.size, i.bytes)) = some (some (.agg #[.int .i64 0, .int .i64 0]), 2, 16) := by kernel_rfl

abbrev OwnP (w : World) (B : Nat) (v : Value) (l : PL) : Prop := w.ownsRow B 75 2 v l.length (pcells l)
theorem own_PR {w : World} {B : Nat} {v : Value} {l : PL} (h : OwnP w B v l) : PR w v l := by
  rcases h.2 with ⟨rfl, h0⟩ | ⟨g, cap, cur, hv, hg, hh, hc, hm, hs, ht⟩
  · have e : l = [] := List.eq_nil_of_length_eq_zero h0
    subst e; exact .nil
  · subst hv
    refine .row g 0 cap l hc hm fun i hi => ?_
    obtain ⟨g0, g1⟩ := pcells_get l i hi
    have hl := pcells_len l
    rw [← ht, List.getElem?_take_of_lt (by omega)] at g0 g1
    refine ⟨?_, ?_⟩
    · rw [cell_of_row _ g _ _ _ (0, 0) hh]; simpa using g0
    · rw [cell_of_row _ g _ _ _ (0, 0) hh]; simpa using g1
theorem own_none (w : World) : OwnP (w.alloc (.cells #[] 75)) w.heap.size (.slice (some ⟨w.heap.size, 0, none⟩) 0 0) [] :=
  ⟨rfl, .inr ⟨_, 0, _, rfl, Nat.le_refl _, heap_alloc_new w _, Nat.le_refl _, by decide, rfl, rfl⟩⟩
theorem own_nil (w : World) (B : Nat) : OwnP w B (.slice none 0 0) [] := ⟨rfl, .inl ⟨rfl, rfl⟩⟩
theorem own_ge {w : World} {B : Nat} {e : TypeId} {size : Nat} {v : Value} {n : Nat} {xs : List Value} (h : w.ownsRow B e size v n xs) : ∀ k, v.ownBlock = some k → B ≤ k := by
  intro k hk
  rcases h.2 with ⟨rfl, _⟩ | ⟨g, cap, cur, rfl, hg, _⟩
  · cases hk
  · simp only [Value.ownBlock, Option.some.injEq] at hk; omega
theorem grow_step {W w0 w1 : World} {B : Nat} {v : Value} {l : PL} (hown : OwnP w0 B v l) (hbel : Below B W w0) (hB : B ≤ W.heap.size) (hg : w0.grownBy w1 v.ownBlock) : Below B W w1 :=
  hbel.grown hg (by have := hbel.size; omega) (own_ge hown)
theorem addP (g o j : Nat) : ((⟨g, o, none⟩ : Addr).add j) = ⟨g, o + j, none⟩ := by simp only [Addr.add]; split <;> simp_all
theorem PR_news {w : World} {g o : Nat} {l : PL} (h : ∀ i, i < l.length → w.cell? ⟨g, o + i * 2, none⟩ = some (.int .i64 (ky l i)) ∧ w.cell? ⟨g, o + i * 2 + 1, none⟩ = some (.int .i64 (vl l i))) (j : Nat) (u : Value) (hu : (pcells l)[j]? = some u) : w.cell? ((⟨g, o, none⟩ : Addr).add j) = some u := by
  obtain ⟨i, hi, h1⟩ := pcells_at hu
  rw [addP]
  rcases h1 with ⟨rfl, rfl⟩ | ⟨rfl, rfl⟩
  · exact (h i hi).1
  · exact (h i hi).2

theorem wpList_append_pr {w : World} {ops : Array Oper} {rest : List Oper} {o : Oper} {a : Act} {Q : Exit → Act → World → Prop} (hgd : o.guard = none) (s x : Operand)
    (ho : o.op = .call { callee := .builtin .append, args := #[s, x], argTypes := #[24, 24] })
    (B : Nat) (v : Value) (l : PL) (hs : a.eval s = v) (hown : OwnP w B v l) (src : Value) (k : PL) (hx : a.eval x = src) (hp : PR w src k) (hlen : l.length + k.length ≤ 1000000) (hB : B ≤ w.heap.size)
    (h : ∀ v' w', OwnP w' B v' (l ++ k) → w.grownBy w' v.ownBlock → wpList Tryd.prog ops Q rest (a.put o.dst v') w') : wpList Tryd.prog ops Q (o :: rest) a w := by
  obtain ⟨i0, hi, hz0, hz1, hz2⟩ := info_parts infoPair
  cases hp with
  | nil => exact wpList_append_own_none hgd s x 24 ho B 75 i0 2 uPL hi v l.length (pcells l) hs hown hx (h v w (by simpa [OwnP] using hown) ⟨rfl, rfl, rfl, Nat.le_refl _, fun _ _ _ => rfl⟩)
  | odd ad c hc0 =>
    refine wpList_append_own _ hgd s x 24 ho B 75 i0 _ 2 16 uPL hi hz0 hz1 hz2 rfl (by decide) v l.length (pcells l) hs hown ad 0 c [] hx rfl (by simp) (by simp) (by unfold maxLen; omega) (by omega) hB ?_
    intro v' w' h4 h5 _
    exact h v' w' (by simpa [OwnP] using h4) h5
  | row g of c _ h1 h2 h3 =>
    refine wpList_append_own _ hgd s x 24 ho B 75 i0 _ 2 16 uPL hi hz0 hz1 hz2 rfl (by decide) v l.length (pcells l) hs hown ⟨g, of, none⟩ k.length c (pcells k) hx (pcells_len k) (PR_news h3) (pcells_one' k) (by unfold maxLen; omega) (by omega) hB ?_
    intro v' w' h4 h5 _
    exact h v' w' (by unfold OwnP; rw [List.length_append, pcells_app]; exact h4) h5

theorem pclone (l : PL) (v : Value) (w : World) (h : PR w v l) (hn : l.length ≤ 100000) :
    Calls Tryd.prog 28 #[v] w fun e w' => ∃ v', e = .returned v' ∧ PR w' v' l ∧ Below w.heap.size w w' := by
  have qT : ∀ (w : World) (a : Addr) (n c : Nat), (binOp .eql 24 (.slice (some a) n c) (.slice none 0 0)).run Tryd.prog w = .ok (.bool false) w := fun w a n c => Go.run_eql_slice_nil w _ _ (some a) n c uPL
  have qN : ∀ (w : World), (binOp .eql 24 (.slice none 0 0) (.slice none 0 0)).run Tryd.prog w = .ok (.bool true) w := fun w => Go.run_eql_slice_nil w _ _ none 0 0 uPL
  refine Calls.veil fun Q HQ => ?_
  have H := Lib.hid h
  cases h with
  | nil =>
    go_enter Tryd.func28, Tryd.ntmps28
    go_wp2_with fail
    (try go_ret)
    rw [HQ.out]
    exact ⟨_, rfl, .nil, Below.refl _ _⟩
  | odd ad c hc0 =>
    go_enter Tryd.func28, Tryd.ntmps28
    go_wp2_with (at_builtin; refine wpList_append_pr rfl (.tmp 5) (.tmp 6) rfl w.heap.size _ [] rfl (own_none w) _ [] rfl (H.out.alloc _) (by simp) (by simp) ?_)
    intro v1 w1 hown hg
    have hb := grow_step (W := w) (own_none w) (by (repeat (first | exact Below.refl _ _ | assumption | refine below_new ?_ _ | refine Below.drew ?_ | refine below_drewN ?_ _ | refine below_on ?_ (by assumption)))) (Nat.le_refl _) hg
    have HP := Lib.hid (own_PR hown)
    clear hown hg
    go_wp2_with fail
    (try go_ret)
    rw [HQ.out]
    exact ⟨_, rfl, HP.out, hb⟩
  | row g o c _ h1 h2 h3 =>
    clear h3
    go_enter Tryd.func28, Tryd.ntmps28
    go_wp2_with (at_builtin; refine wpList_append_pr rfl (.tmp 5) (.tmp 6) rfl w.heap.size _ [] rfl (own_none w) _ l rfl (H.out.alloc _) (by simp; omega) (by simp) ?_)
    intro v1 w1 hown hg
    have hb := grow_step (W := w) (own_none w) (by (repeat (first | exact Below.refl _ _ | assumption | refine below_new ?_ _ | refine Below.drew ?_ | refine below_drewN ?_ _ | refine below_on ?_ (by assumption)))) (Nat.le_refl _) hg
    have HP := Lib.hid (own_PR hown)
    clear hown hg
    go_wp2_with fail
    (try go_ret)
    rw [HQ.out]
    exact ⟨_, rfl, HP.out, hb⟩
/-- So many rows, one behind the other. -/
def catL (ls : Nat → PL) : Nat → PL
  | 0 => []
  | k + 1 => catL ls k ++ ls k
theorem catL_len (ls : Nat → PL) (M : Nat) : ∀ k, (∀ i, i < k → (ls i).length ≤ M) → (catL ls k).length ≤ k * M
  | 0, _ => by simp [catL]
  | k + 1, h => by
    have := catL_len ls M k (fun i hi => h i (by omega))
    have := h k (by omega)
    simp only [catL, List.length_append]
    rw [Nat.add_mul]; omega
set_option maxHeartbeats 1000000 in
theorem pjoin (m c g : Nat) (vs : Nat → Value) (ls : Nat → PL) (w : World) (hm : m ≤ 3) (hmc : m ≤ c) (hc : c ≤ 9223372036854775807) (hv : ∀ i, i < m → w.cell? ⟨g, i, none⟩ = some (vs i)) (hp : ∀ i, i < m → PR w (vs i) (ls i)) (hl : ∀ i, i < m → (ls i).length ≤ 100000) :
    Calls Tryd.prog 54 #[.slice (some ⟨g, 0, none⟩) m c] w fun e w' => ∃ v', e = .returned v' ∧ PR w' v' (catL ls m) ∧ Below w.heap.size w w' := by
  have HV := Lib.hid hv; have HP := Lib.hid hp; have HL := Lib.hid hl
  clear hv hp hl
  refine Calls.veil fun Q HQ => ?_
  go_enter Tryd.func54, Tryd.ntmps54
  go_wp2_with fail
  go_loopw [3, 8] (fun ov iv wr => ∃ k : Nat, k ≤ m ∧ iv = .int .i64 k ∧ Hid (OwnP wr w.heap.size ov (catL ls k)) ∧ Below w.heap.size w wr)
    (fun _ iv _ => m - (intOf iv).toNat)
  case atStart => exact ⟨0, by omega, rfl, Lib.hid (own_nil _ _), Below.refl _ _⟩
  case round =>
    obtain ⟨k, hk, rfl, HO, hbel⟩ := hrel
    rcases (by omega : k < m ∨ k = m) with hlt | heq
    · obtain ⟨p, cc, hvk, _, _⟩ := (HP.out k hlt).slice
      have c0 := Ext.cell ⟨wr, hbel⟩ (HV.out k hlt)
      rw [hvk] at c0
      simp only at c0
      have HPK := Lib.hid ((HP.out k hlt).below hbel)
      have HVK := Lib.hid hvk
      have hlen : (catL ls k).length ≤ k * 100000 := catL_len ls _ k (fun i hi => HL.out i (by omega))
      have hlk := HL.out k hlt
      have HLEN := Lib.hid (show (catL ls k).length + (ls k).length ≤ 1000000 by
        have : k * 100000 ≤ 3 * 100000 := Nat.mul_le_mul_right _ (by omega)
        omega)
      clear hvk hlen hlk
      go_wp2_with (at_builtin; refine wpList_append_pr rfl (.tmp 12) (.tmp 13) rfl w.heap.size _ (catL ls k) rfl HO.out _ (ls k) rfl (by have := HPK.out; rw [HVK.out] at this; exact this) HLEN.out hbel.size ?_)
      intro v1 w1 hown hg
      have hb := grow_step HO.out hbel (Nat.le_refl _) hg
      have HO1 := Lib.hid hown
      clear hown hg c0
      go_wp2_with fail
      go_roundw
      case rel => exact ⟨k + 1, by omega, by go_num, HO1.out, hb⟩
      case measure => simp [intOf]; omega
    · subst heq
      have HPR := Lib.hid (own_PR HO.out)
      go_wp2_with fail
      (try go_ret)
      rw [HQ.out]
      exact ⟨_, rfl, HPR.out, hbel⟩
theorem PR.cast {w : World} {p : Option Addr} {n m c : Nat} {l : PL} (h : PR w (.slice p n c) l) (e : n = m) : PR w (.slice p m c) l := by subst e; exact h
theorem PR.mkrow {w : World} {g o n c : Nat} {l : PL} (hn : n = l.length) (hc : n ≤ c) (hm : c ≤ 9223372036854775807) (h : ∀ i, i < l.length → w.cell? ⟨g, o + i * 2, none⟩ = some (.int .i64 (ky l i)) ∧ w.cell? ⟨g, o + i * 2 + 1, none⟩ = some (.int .i64 (vl l i))) : PR w (.slice (some ⟨g, o, none⟩) n c) l := by
  subst hn; exact .row g o c l hc hm h
theorem PR.take {w : World} {g o c : Nat} {l : PL} (h : PR w (.slice (some ⟨g, o, none⟩) l.length c) l) {r : Nat} (hr : r ≤ l.length) : PR w (.slice (some ⟨g, o, none⟩) r c) (l.take r) := by
  obtain ⟨p, c', e, h1, h2, h3⟩ := h.parts
  injection e with e1 _ e2
  subst e2
  refine .mkrow (by simp; omega) (by omega) h2 fun i hi => ?_
  simp at hi
  obtain ⟨g', o', e3, c0, c1⟩ := h3.out i (by omega)
  rw [← e1] at e3
  injection e3 with e3
  injection e3 with e4 e5 _
  subst e4; subst e5
  rw [ky_take (by omega), vl_take (by omega)]
  exact ⟨c0, c1⟩
theorem PR.drop {w : World} {g o c : Nat} {l : PL} (h : PR w (.slice (some ⟨g, o, none⟩) l.length c) l) {r : Nat} (hr : r ≤ l.length) : PR w (.slice (some ⟨g, o + r * 2, none⟩) (l.length - r) (c - r)) (l.drop r) := by
  obtain ⟨p, c', e, h1, h2, h3⟩ := h.parts
  injection e with e1 _ e2
  subst e2
  refine .mkrow (by simp) (by omega) (by omega) fun i hi => ?_
  simp at hi
  obtain ⟨g', o', e3, c0, c1⟩ := h3.out (r + i) (by omega)
  rw [← e1] at e3
  injection e3 with e3
  injection e3 with e4 e5 _
  subst e4; subst e5
  rw [ky_drop, vl_drop, show o + r * 2 + i * 2 = o + (r + i) * 2 by omega]
  exact ⟨c0, c1⟩
theorem PR.drop_all {w : World} {g o c : Nat} {l : PL} (hc : c ≤ 9223372036854775807) : PR w (.slice (some ⟨g, o, none⟩) 0 c) (l.drop l.length) := by
  rw [List.drop_length]; exact .mkrow rfl (by omega) hc (by simp)
theorem PR.single {w : World} {k x : Int} {T : TypeId} : PR (w.alloc (.cells #[.int .i64 k, .int .i64 x] T)) (.slice (some ⟨w.heap.size, 0, none⟩) 1 1) [(k, x)] := by
  have := Cell2.new w k x T
  refine .mkrow rfl (by omega) (by omega) fun i hi => ?_
  have : i = 0 := by simpa using hi
  subst this
  exact ⟨this.c0, this.c1⟩
theorem pjoin3 (c g : Nat) (v0 v1 v2 : Value) (l0 l1 l2 : PL) (w : World) (hmc : 3 ≤ c) (hc : c ≤ 9223372036854775807) (c0 : w.cell? ⟨g, 0, none⟩ = some v0) (c1 : w.cell? ⟨g, 1, none⟩ = some v1) (c2 : w.cell? ⟨g, 2, none⟩ = some v2) (p0 : PR w v0 l0) (p1 : PR w v1 l1) (p2 : PR w v2 l2) (hl : l0.length ≤ 100000 ∧ l1.length ≤ 100000 ∧ l2.length ≤ 100000) :
    Calls Tryd.prog 54 #[.slice (some ⟨g, 0, none⟩) 3 c] w fun e w' => ∃ v', e = .returned v' ∧ PR w' v' (l0 ++ l1 ++ l2) ∧ Below w.heap.size w w' := by
  have := pjoin 3 c g (fun i => if i = 0 then v0 else if i = 1 then v1 else v2) (fun i => if i = 0 then l0 else if i = 1 then l1 else l2) w (by omega) hmc hc
    (fun i hi => by rcases (by omega : i = 0 ∨ i = 1 ∨ i = 2) with rfl | rfl | rfl <;> simpa) (fun i hi => by rcases (by omega : i = 0 ∨ i = 1 ∨ i = 2) with rfl | rfl | rfl <;> simpa) (fun i hi => by rcases (by omega : i = 0 ∨ i = 1 ∨ i = 2) with rfl | rfl | rfl <;> simp [hl])
  simpa [catL] using this
theorem pjoin2 (c g : Nat) (v0 v1 : Value) (l0 l1 : PL) (w : World) (hmc : 2 ≤ c) (hc : c ≤ 9223372036854775807) (c0 : w.cell? ⟨g, 0, none⟩ = some v0) (c1 : w.cell? ⟨g, 1, none⟩ = some v1) (p0 : PR w v0 l0) (p1 : PR w v1 l1) (hl : l0.length ≤ 100000 ∧ l1.length ≤ 100000) :
    Calls Tryd.prog 54 #[.slice (some ⟨g, 0, none⟩) 2 c] w fun e w' => ∃ v', e = .returned v' ∧ PR w' v' (l0 ++ l1) ∧ Below w.heap.size w w' := by
  have := pjoin 2 c g (fun i => if i = 0 then v0 else v1) (fun i => if i = 0 then l0 else l1) w (by omega) hmc hc
    (fun i hi => by rcases (by omega : i = 0 ∨ i = 1) with rfl | rfl <;> simpa) (fun i hi => by rcases (by omega : i = 0 ∨ i = 1) with rfl | rfl <;> simpa) (fun i hi => by rcases (by omega : i = 0 ∨ i = 1) with rfl | rfl <;> simp [hl])
  simpa [catL] using this
theorem putL_new {l : PL} {p : Int × Int} (h : hereB l p.1 = false) : putL l p = l.take (lbN l p.1) ++ [p] ++ l.drop (lbN l p.1) := by unfold putL; rw [h]; rfl
theorem putL_old {l : PL} {p : Int × Int} (h : hereB l p.1 = true) : putL l p = l := by unfold putL; rw [h]; rfl
theorem dropL_here {l : PL} {k : Int} (h : hereB l k = true) : dropL l k = l.take (lbN l k) ++ l.drop (lbN l k + 1) := by unfold dropL; rw [h]; rfl
theorem dropL_not {l : PL} {k : Int} (h : hereB l k = false) : dropL l k = l := by unfold dropL; rw [h]; rfl
theorem put_end (w1 : World) (v0 v2 : Value) (l0 l2 : PL) (k x : Int) (T T' : TypeId) (p0 : PR w1 v0 l0) (p2 : PR w1 v2 l2) (hl : l0.length ≤ 100000 ∧ l2.length ≤ 100000) :
    Calls Tryd.prog 54 #[.slice (some ⟨w1.heap.size + 1, 0, none⟩) 3 3] ((w1.drew.alloc (.cells #[.int .i64 k, .int .i64 x] T)).alloc (.cells #[v0, .slice (some ⟨w1.heap.size, 0, none⟩) 1 1, v2] T')) fun e w' => ∃ v', e = .returned v' ∧ PR w' v' (l0 ++ [(k, x)] ++ l2) ∧ Below w1.heap.size w1 w' := by
  have hd : Below w1.heap.size w1 w1.drew := (Below.refl _ _).drew
  have hs : (w1.drew.alloc (.cells #[.int .i64 k, .int .i64 x] T)).heap.size = w1.heap.size + 1 := by show (w1.alloc _).heap.size = _; simp
  generalize hU : w1.drew.alloc (.cells #[.int .i64 k, .int .i64 x] T) = U at *
  have hb : Below w1.heap.size w1 U := by rw [← hU]; (repeat (first | exact Below.refl _ _ | assumption | refine below_new ?_ _ | refine Below.drew ?_ | refine below_drewN ?_ _ | refine below_on ?_ (by assumption)))
  have p1 : PR U (.slice (some ⟨w1.heap.size, 0, none⟩) 1 1) [(k, x)] := by rw [← hU]; exact PR.single (w := w1.drew)
  rw [← hs]
  refine (pjoin3 3 _ v0 _ v2 l0 [(k, x)] l2 _ (by omega) (by omega) (Ext.made_in rfl (Below.refl _ _) 0 _ rfl) (Ext.made_in rfl (Below.refl _ _) 1 _ rfl) (Ext.made_in rfl (Below.refl _ _) 2 _ rfl) ((p0.below hb).alloc _) (p1.alloc _) ((p2.below hb).alloc _) ⟨hl.1, by simp, hl.2⟩).mono ?_
  rintro _ w' ⟨v', rfl, h1, h2⟩
  exact ⟨v', rfl, h1, below_on (below_new hb _) h2⟩
set_option maxHeartbeats 1000000 in
theorem pput (l : PL) (v : Value) (k x : Int) (w : World) (h : PR w v l) (hr : riseB l = true) (hn : l.length ≤ 90000) :
    Calls Tryd.prog 44 #[v, .agg #[.int .i64 k, .int .i64 x]] w fun e w' => ∃ v', e = .returned (.tuple #[v', .bool (!hereB l k)]) ∧ PR w' v' (putL l (k, x)) ∧ Below w.heap.size w w' := by
  have H := Lib.hid h; have HR := Lib.hid hr
  have hle := lbN_le l k
  refine Calls.veil fun Q HQ => ?_
  cases hh : hereB l k
  · have HPUT := Lib.hid (putL_new (p := (k, x)) hh)
    have HH := Lib.hid hh
    obtain ⟨r, hr2⟩ : ∃ r : Nat, r = lbN l k := ⟨_, rfl⟩
    clear hr
    rw [← hr2] at hle HPUT
    cases h with
    | nil =>
      have hr0 : r = 0 := by simpa using hle
      subst hr0
      clear hle hn
      have hn : ([] : PL).length ≤ 90000 := by simp
      go_enter Tryd.func44, Tryd.ntmps44
      have HRR := Lib.hid hr2
      clear hr2 hh
      go_wp2_with fail
      generalize hW : World.alloc w _ = W
      have hBW : Below w.heap.size w W := by rw [← hW]; (repeat (first | exact Below.refl _ _ | assumption | refine below_new ?_ _ | refine Below.drew ?_ | refine below_drewN ?_ _ | refine below_on ?_ (by assumption)))
      have hC : Cell2 W w.heap.size k x := by rw [← hW]; exact Cell2.new w k x _
      clear hW
      refine (pfind _ _ k W (H.out.below hBW) HR.out (by omega)).mono ?_; rintro _ w1 ⟨rfl, hb1⟩
      rw [HH.out, ← HRR.out]
      have hC := hC.below hb1
      have hB1 := below_on hBW hb1
      clear hBW hb1
      have z0 : ∀ y : Ext w1, y.w.cell? ⟨w.heap.size, 0, none⟩ = some (.int .i64 k) := Ext.cells hC.c0
      have z1 : ∀ y : Ext w1, y.w.cell? ⟨w.heap.size, 1, none⟩ = some (.int .i64 x) := Ext.cells hC.c1
      have HB := Lib.hid hB1
      clear hC hB1
      go_wp2_with fail
      (with_reducible refine wp_region_mix (fun w' => ∃ y : Ext w1, w' = y.w) ?_ ?_ ?_ ?_; kernel_rfl; kernel_rfl; exact ⟨⟨w1.drew, (Below.refl _ _).drew⟩, rfl⟩)
      repeat (first | ((with_reducible refine mix_plain (by kernel_rfl) ?_); (first | go_big_quiet_skip | (go_big_quiet_want; go_big_quiet_op; go_big_quiet_on)); (with_reducible refine mix_on ?_)) | ((with_reducible refine mix_skip (by kernel_rfl) ?_); go_big_quiet_skip; (with_reducible refine mix_on ?_)))
      ((with_reducible refine wpMix_chain (by kernel_rfl) (by kernel_rfl) (fun K HK => ?_)); go_step)
      refine HK.out _ _ ⟨⟨_, by (repeat (first | exact Below.refl _ _ | assumption | refine below_new ?_ _ | refine Below.drew ?_ | refine below_drewN ?_ _ | refine below_on ?_ (by assumption)))⟩, rfl⟩ ?_
      clear HK K
      repeat (first | ((with_reducible refine mix_plain (by kernel_rfl) ?_); (first | go_big_quiet_skip | (go_big_quiet_want; go_big_quiet_op; go_big_quiet_on)); (with_reducible refine mix_on ?_)) | ((with_reducible refine mix_skip (by kernel_rfl) ?_); go_big_quiet_skip; (with_reducible refine mix_on ?_)))
      ((with_reducible refine wpMix_chain (by kernel_rfl) (by kernel_rfl) (fun K HK => ?_)); go_step)
      refine HK.out _ _ ⟨⟨_, by (repeat (first | exact Below.refl _ _ | assumption | refine below_new ?_ _ | refine Below.drew ?_ | refine below_drewN ?_ _ | refine below_on ?_ (by assumption)))⟩, rfl⟩ ?_
      clear HK K
      repeat (first | ((with_reducible refine mix_plain (by kernel_rfl) ?_); (first | go_big_quiet_skip | (go_big_quiet_want; go_big_quiet_op; go_big_quiet_on)); (with_reducible refine mix_on ?_)) | ((with_reducible refine mix_skip (by kernel_rfl) ?_); go_big_quiet_skip; (with_reducible refine mix_on ?_)))
      ((with_reducible refine wpMix_chain (by kernel_rfl) (by kernel_rfl) (fun K HK => ?_)); go_step)
      refine (put_end w1 _ _ _ _ k x _ _ (.nil) (.nil) ⟨by simp <;> omega, by simp <;> omega⟩).mono ?_; rintro _ w2 ⟨v', rfl, hP, hb2⟩
      have HP := Lib.hid hP
      refine HK.out _ _ ⟨⟨w2, hb2⟩, rfl⟩ ?_
      have hB := Lib.hid (below_on HB.out hb2)
      clear HK K hP hb2 z0 z1
      repeat (first | ((with_reducible refine mix_plain (by kernel_rfl) ?_); (first | go_big_quiet_skip | (go_big_quiet_want; go_big_quiet_op; go_big_quiet_on)); (with_reducible refine mix_on ?_)) | ((with_reducible refine mix_skip (by kernel_rfl) ?_); go_big_quiet_skip; (with_reducible refine mix_on ?_)))
      refine wpMix_nil ?_
      go_wp2_with fail
      (try go_ret2)
      rw [HQ.out]
      exact ⟨v', by first | rfl | (rw [HH.out]; rfl), by rw [HPUT.out]; exact HP.out, hB.out⟩
    | odd ad c hc0 =>
      have hr0 : r = 0 := by simpa using hle
      subst hr0
      clear hle hn
      have hn : ([] : PL).length ≤ 90000 := by simp
      go_enter Tryd.func44, Tryd.ntmps44
      have HRR := Lib.hid hr2
      clear hr2 hh
      go_wp2_with fail
      generalize hW : World.alloc w _ = W
      have hBW : Below w.heap.size w W := by rw [← hW]; (repeat (first | exact Below.refl _ _ | assumption | refine below_new ?_ _ | refine Below.drew ?_ | refine below_drewN ?_ _ | refine below_on ?_ (by assumption)))
      have hC : Cell2 W w.heap.size k x := by rw [← hW]; exact Cell2.new w k x _
      clear hW
      refine (pfind _ _ k W (H.out.below hBW) HR.out (by omega)).mono ?_; rintro _ w1 ⟨rfl, hb1⟩
      rw [HH.out, ← HRR.out]
      have hC := hC.below hb1
      have hB1 := below_on hBW hb1
      clear hBW hb1
      have z0 : ∀ y : Ext w1, y.w.cell? ⟨w.heap.size, 0, none⟩ = some (.int .i64 k) := Ext.cells hC.c0
      have z1 : ∀ y : Ext w1, y.w.cell? ⟨w.heap.size, 1, none⟩ = some (.int .i64 x) := Ext.cells hC.c1
      have HB := Lib.hid hB1
      clear hC hB1
      go_wp2_with fail
      rcases (by omega : c = 0 ∨ 0 < c) with rfl | hrc
      · skip
        (with_reducible refine wp_region_mix (fun w' => ∃ y : Ext w1, w' = y.w) ?_ ?_ ?_ ?_; kernel_rfl; kernel_rfl; exact ⟨⟨w1.drew, (Below.refl _ _).drew⟩, rfl⟩)
        repeat (first | ((with_reducible refine mix_plain (by kernel_rfl) ?_); (first | go_big_quiet_skip | (go_big_quiet_want; go_big_quiet_op; go_big_quiet_on)); (with_reducible refine mix_on ?_)) | ((with_reducible refine mix_skip (by kernel_rfl) ?_); go_big_quiet_skip; (with_reducible refine mix_on ?_)))
        ((with_reducible refine wpMix_chain (by kernel_rfl) (by kernel_rfl) (fun K HK => ?_)); go_step)
        refine HK.out _ _ ⟨⟨_, by (repeat (first | exact Below.refl _ _ | assumption | refine below_new ?_ _ | refine Below.drew ?_ | refine below_drewN ?_ _ | refine below_on ?_ (by assumption)))⟩, rfl⟩ ?_
        clear HK K
        repeat (first | ((with_reducible refine mix_plain (by kernel_rfl) ?_); (first | go_big_quiet_skip | (go_big_quiet_want; go_big_quiet_op; go_big_quiet_on)); (with_reducible refine mix_on ?_)) | ((with_reducible refine mix_skip (by kernel_rfl) ?_); go_big_quiet_skip; (with_reducible refine mix_on ?_)))
        ((with_reducible refine wpMix_chain (by kernel_rfl) (by kernel_rfl) (fun K HK => ?_)); go_step)
        refine HK.out _ _ ⟨⟨_, by (repeat (first | exact Below.refl _ _ | assumption | refine below_new ?_ _ | refine Below.drew ?_ | refine below_drewN ?_ _ | refine below_on ?_ (by assumption)))⟩, rfl⟩ ?_
        clear HK K
        repeat (first | ((with_reducible refine mix_plain (by kernel_rfl) ?_); (first | go_big_quiet_skip | (go_big_quiet_want; go_big_quiet_op; go_big_quiet_on)); (with_reducible refine mix_on ?_)) | ((with_reducible refine mix_skip (by kernel_rfl) ?_); go_big_quiet_skip; (with_reducible refine mix_on ?_)))
        ((with_reducible refine wpMix_chain (by kernel_rfl) (by kernel_rfl) (fun K HK => ?_)); go_step)
        refine (put_end w1 _ _ _ _ k x _ _ (.odd _ _ (by omega)) (.odd _ _ (by omega)) ⟨by simp <;> omega, by simp <;> omega⟩).mono ?_; rintro _ w2 ⟨v', rfl, hP, hb2⟩
        have HP := Lib.hid hP
        refine HK.out _ _ ⟨⟨w2, hb2⟩, rfl⟩ ?_
        have hB := Lib.hid (below_on HB.out hb2)
        clear HK K hP hb2 z0 z1
        repeat (first | ((with_reducible refine mix_plain (by kernel_rfl) ?_); (first | go_big_quiet_skip | (go_big_quiet_want; go_big_quiet_op; go_big_quiet_on)); (with_reducible refine mix_on ?_)) | ((with_reducible refine mix_skip (by kernel_rfl) ?_); go_big_quiet_skip; (with_reducible refine mix_on ?_)))
        refine wpMix_nil ?_
        go_wp2_with fail
        (try go_ret2)
        rw [HQ.out]
        exact ⟨v', by first | rfl | (rw [HH.out]; rfl), by rw [HPUT.out]; exact HP.out, hB.out⟩
      · have hne : c ≠ 0 := by omega
        (with_reducible refine wp_region_mix (fun w' => ∃ y : Ext w1, w' = y.w) ?_ ?_ ?_ ?_; kernel_rfl; kernel_rfl; exact ⟨⟨w1.drew, (Below.refl _ _).drew⟩, rfl⟩)
        repeat (first | ((with_reducible refine mix_plain (by kernel_rfl) ?_); (first | go_big_quiet_skip | (go_big_quiet_want; go_big_quiet_op; go_big_quiet_on)); (with_reducible refine mix_on ?_)) | ((with_reducible refine mix_skip (by kernel_rfl) ?_); go_big_quiet_skip; (with_reducible refine mix_on ?_)))
        ((with_reducible refine wpMix_chain (by kernel_rfl) (by kernel_rfl) (fun K HK => ?_)); go_step)
        refine HK.out _ _ ⟨⟨_, by (repeat (first | exact Below.refl _ _ | assumption | refine below_new ?_ _ | refine Below.drew ?_ | refine below_drewN ?_ _ | refine below_on ?_ (by assumption)))⟩, rfl⟩ ?_
        clear HK K
        repeat (first | ((with_reducible refine mix_plain (by kernel_rfl) ?_); (first | go_big_quiet_skip | (go_big_quiet_want; go_big_quiet_op; go_big_quiet_on)); (with_reducible refine mix_on ?_)) | ((with_reducible refine mix_skip (by kernel_rfl) ?_); go_big_quiet_skip; (with_reducible refine mix_on ?_)))
        ((with_reducible refine wpMix_chain (by kernel_rfl) (by kernel_rfl) (fun K HK => ?_)); go_step)
        refine HK.out _ _ ⟨⟨_, by (repeat (first | exact Below.refl _ _ | assumption | refine below_new ?_ _ | refine Below.drew ?_ | refine below_drewN ?_ _ | refine below_on ?_ (by assumption)))⟩, rfl⟩ ?_
        clear HK K
        repeat (first | ((with_reducible refine mix_plain (by kernel_rfl) ?_); (first | go_big_quiet_skip | (go_big_quiet_want; go_big_quiet_op; go_big_quiet_on)); (with_reducible refine mix_on ?_)) | ((with_reducible refine mix_skip (by kernel_rfl) ?_); go_big_quiet_skip; (with_reducible refine mix_on ?_)))
        ((with_reducible refine wpMix_chain (by kernel_rfl) (by kernel_rfl) (fun K HK => ?_)); go_step)
        refine (put_end w1 _ _ _ _ k x _ _ (.odd _ _ (by omega)) (.odd _ _ (by omega)) ⟨by simp <;> omega, by simp <;> omega⟩).mono ?_; rintro _ w2 ⟨v', rfl, hP, hb2⟩
        have HP := Lib.hid hP
        refine HK.out _ _ ⟨⟨w2, hb2⟩, rfl⟩ ?_
        have hB := Lib.hid (below_on HB.out hb2)
        clear HK K hP hb2 z0 z1
        repeat (first | ((with_reducible refine mix_plain (by kernel_rfl) ?_); (first | go_big_quiet_skip | (go_big_quiet_want; go_big_quiet_op; go_big_quiet_on)); (with_reducible refine mix_on ?_)) | ((with_reducible refine mix_skip (by kernel_rfl) ?_); go_big_quiet_skip; (with_reducible refine mix_on ?_)))
        refine wpMix_nil ?_
        go_wp2_with fail
        (try go_ret2)
        rw [HQ.out]
        exact ⟨v', by first | rfl | (rw [HH.out]; rfl), by rw [HPUT.out]; exact HP.out, hB.out⟩
    | row g o c _ h1 h2 h3 =>
      clear h3
      go_enter Tryd.func44, Tryd.ntmps44
      have HRR := Lib.hid hr2
      clear hr2 hh
      go_wp2_with fail
      generalize hW : World.alloc w _ = W
      have hBW : Below w.heap.size w W := by rw [← hW]; (repeat (first | exact Below.refl _ _ | assumption | refine below_new ?_ _ | refine Below.drew ?_ | refine below_drewN ?_ _ | refine below_on ?_ (by assumption)))
      have hC : Cell2 W w.heap.size k x := by rw [← hW]; exact Cell2.new w k x _
      clear hW
      refine (pfind _ _ k W (H.out.below hBW) HR.out (by omega)).mono ?_; rintro _ w1 ⟨rfl, hb1⟩
      rw [HH.out, ← HRR.out]
      have hC := hC.below hb1
      have hB1 := below_on hBW hb1
      clear hBW hb1
      have z0 : ∀ y : Ext w1, y.w.cell? ⟨w.heap.size, 0, none⟩ = some (.int .i64 k) := Ext.cells hC.c0
      have z1 : ∀ y : Ext w1, y.w.cell? ⟨w.heap.size, 1, none⟩ = some (.int .i64 x) := Ext.cells hC.c1
      have HB := Lib.hid hB1
      clear hC hB1
      go_wp2_with fail
      rcases (by omega : r < c ∨ r = c) with hrc | hrc
      · have hne : c ≠ r := by omega
        (with_reducible refine wp_region_mix (fun w' => ∃ y : Ext w1, w' = y.w) ?_ ?_ ?_ ?_; kernel_rfl; kernel_rfl; exact ⟨⟨w1.drew, (Below.refl _ _).drew⟩, rfl⟩)
        repeat (first | ((with_reducible refine mix_plain (by kernel_rfl) ?_); (first | go_big_quiet_skip | (go_big_quiet_want; go_big_quiet_op; go_big_quiet_on)); (with_reducible refine mix_on ?_)) | ((with_reducible refine mix_skip (by kernel_rfl) ?_); go_big_quiet_skip; (with_reducible refine mix_on ?_)))
        ((with_reducible refine wpMix_chain (by kernel_rfl) (by kernel_rfl) (fun K HK => ?_)); go_step)
        refine HK.out _ _ ⟨⟨_, by (repeat (first | exact Below.refl _ _ | assumption | refine below_new ?_ _ | refine Below.drew ?_ | refine below_drewN ?_ _ | refine below_on ?_ (by assumption)))⟩, rfl⟩ ?_
        clear HK K
        repeat (first | ((with_reducible refine mix_plain (by kernel_rfl) ?_); (first | go_big_quiet_skip | (go_big_quiet_want; go_big_quiet_op; go_big_quiet_on)); (with_reducible refine mix_on ?_)) | ((with_reducible refine mix_skip (by kernel_rfl) ?_); go_big_quiet_skip; (with_reducible refine mix_on ?_)))
        ((with_reducible refine wpMix_chain (by kernel_rfl) (by kernel_rfl) (fun K HK => ?_)); go_step)
        refine HK.out _ _ ⟨⟨_, by (repeat (first | exact Below.refl _ _ | assumption | refine below_new ?_ _ | refine Below.drew ?_ | refine below_drewN ?_ _ | refine below_on ?_ (by assumption)))⟩, rfl⟩ ?_
        clear HK K
        repeat (first | ((with_reducible refine mix_plain (by kernel_rfl) ?_); (first | go_big_quiet_skip | (go_big_quiet_want; go_big_quiet_op; go_big_quiet_on)); (with_reducible refine mix_on ?_)) | ((with_reducible refine mix_skip (by kernel_rfl) ?_); go_big_quiet_skip; (with_reducible refine mix_on ?_)))
        ((with_reducible refine wpMix_chain (by kernel_rfl) (by kernel_rfl) (fun K HK => ?_)); go_step)
        refine (put_end w1 _ _ _ _ k x _ _ (((H.out.below HB.out).take hle)) (((H.out.below HB.out).drop hle)) ⟨by simp <;> omega, by simp <;> omega⟩).mono ?_; rintro _ w2 ⟨v', rfl, hP, hb2⟩
        have HP := Lib.hid hP
        refine HK.out _ _ ⟨⟨w2, hb2⟩, rfl⟩ ?_
        have hB := Lib.hid (below_on HB.out hb2)
        clear HK K hP hb2 z0 z1
        repeat (first | ((with_reducible refine mix_plain (by kernel_rfl) ?_); (first | go_big_quiet_skip | (go_big_quiet_want; go_big_quiet_op; go_big_quiet_on)); (with_reducible refine mix_on ?_)) | ((with_reducible refine mix_skip (by kernel_rfl) ?_); go_big_quiet_skip; (with_reducible refine mix_on ?_)))
        refine wpMix_nil ?_
        go_wp2_with fail
        (try go_ret2)
        rw [HQ.out]
        exact ⟨v', by first | rfl | (rw [HH.out]; rfl), by rw [HPUT.out]; exact HP.out, hB.out⟩
      · have hlr : l.length = r := by omega
        have HLR := Lib.hid hlr
        subst hrc
        clear hlr
        (with_reducible refine wp_region_mix (fun w' => ∃ y : Ext w1, w' = y.w) ?_ ?_ ?_ ?_; kernel_rfl; kernel_rfl; exact ⟨⟨w1.drew, (Below.refl _ _).drew⟩, rfl⟩)
        repeat (first | ((with_reducible refine mix_plain (by kernel_rfl) ?_); (first | go_big_quiet_skip | (go_big_quiet_want; go_big_quiet_op; go_big_quiet_on)); (with_reducible refine mix_on ?_)) | ((with_reducible refine mix_skip (by kernel_rfl) ?_); go_big_quiet_skip; (with_reducible refine mix_on ?_)))
        ((with_reducible refine wpMix_chain (by kernel_rfl) (by kernel_rfl) (fun K HK => ?_)); go_step)
        refine HK.out _ _ ⟨⟨_, by (repeat (first | exact Below.refl _ _ | assumption | refine below_new ?_ _ | refine Below.drew ?_ | refine below_drewN ?_ _ | refine below_on ?_ (by assumption)))⟩, rfl⟩ ?_
        clear HK K
        repeat (first | ((with_reducible refine mix_plain (by kernel_rfl) ?_); (first | go_big_quiet_skip | (go_big_quiet_want; go_big_quiet_op; go_big_quiet_on)); (with_reducible refine mix_on ?_)) | ((with_reducible refine mix_skip (by kernel_rfl) ?_); go_big_quiet_skip; (with_reducible refine mix_on ?_)))
        ((with_reducible refine wpMix_chain (by kernel_rfl) (by kernel_rfl) (fun K HK => ?_)); go_step)
        refine HK.out _ _ ⟨⟨_, by (repeat (first | exact Below.refl _ _ | assumption | refine below_new ?_ _ | refine Below.drew ?_ | refine below_drewN ?_ _ | refine below_on ?_ (by assumption)))⟩, rfl⟩ ?_
        clear HK K
        repeat (first | ((with_reducible refine mix_plain (by kernel_rfl) ?_); (first | go_big_quiet_skip | (go_big_quiet_want; go_big_quiet_op; go_big_quiet_on)); (with_reducible refine mix_on ?_)) | ((with_reducible refine mix_skip (by kernel_rfl) ?_); go_big_quiet_skip; (with_reducible refine mix_on ?_)))
        ((with_reducible refine wpMix_chain (by kernel_rfl) (by kernel_rfl) (fun K HK => ?_)); go_step)
        refine (put_end w1 _ _ _ _ k x _ _ (((H.out.below HB.out).take hle)) (PR.drop_all (l := l) (by omega)) ⟨by simp <;> omega, by simp <;> omega⟩).mono ?_; rintro _ w2 ⟨v', rfl, hP, hb2⟩
        have HP := Lib.hid hP
        refine HK.out _ _ ⟨⟨w2, hb2⟩, rfl⟩ ?_
        have hB := Lib.hid (below_on HB.out hb2)
        clear HK K hP hb2 z0 z1
        repeat (first | ((with_reducible refine mix_plain (by kernel_rfl) ?_); (first | go_big_quiet_skip | (go_big_quiet_want; go_big_quiet_op; go_big_quiet_on)); (with_reducible refine mix_on ?_)) | ((with_reducible refine mix_skip (by kernel_rfl) ?_); go_big_quiet_skip; (with_reducible refine mix_on ?_)))
        refine wpMix_nil ?_
        go_wp2_with fail
        (try go_ret2)
        rw [HQ.out]
        exact ⟨v', by first | rfl | (rw [HH.out]; rfl), by rw [HPUT.out]; exact (by have := HP.out; rw [HLR.out] at this; exact this), hB.out⟩
  · have HPUT := Lib.hid (putL_old (p := (k, x)) hh)
    have HH := Lib.hid hh
    clear h hr
    go_enter Tryd.func44, Tryd.ntmps44
    clear hh
    go_wp2_with fail
    generalize hW : World.alloc w _ = W
    have hBW : Below w.heap.size w W := by rw [← hW]; (repeat (first | exact Below.refl _ _ | assumption | refine below_new ?_ _ | refine Below.drew ?_ | refine below_drewN ?_ _ | refine below_on ?_ (by assumption)))
    have hC : Cell2 W w.heap.size k x := by rw [← hW]; exact Cell2.new w k x _
    clear hW
    refine (pfind _ _ k W (H.out.below hBW) HR.out (by omega)).mono ?_; rintro _ w1 ⟨rfl, hb1⟩
    rw [HH.out]
    have hB1 := below_on hBW hb1
    clear hBW hb1 hC
    go_wp2_with fail
    refine (pclone l _ w1 (H.out.below hB1) (by omega)).mono ?_; rintro _ w2 ⟨v', rfl, hP, hb2⟩
    have HP := Lib.hid hP
    have hB2 := below_on hB1 hb2
    clear hP
    go_wp2_with fail
    (try go_ret2)
    rw [HQ.out]
    exact ⟨v', by first | rfl | (rw [HH.out]; rfl), by rw [HPUT.out]; exact HP.out, hB2⟩
end Go.Proofs.YtkgfhomoipbjoaaDoor
