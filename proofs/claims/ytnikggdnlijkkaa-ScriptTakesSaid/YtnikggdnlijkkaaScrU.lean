/- Layer 14: bytes appended to bytes; what of memory an appending leaves as it was. -/
import Derived.Test.YtnikggdnlijkkaaScrG
namespace Go.Proofs.Ytnikggdnlijkkaa
open Go.RowKit WordM
set_option linter.unusedVariables false
set_option linter.unusedSimpArgs false
/-- Whatever is no row of bytes is as it was. -/
structure NB (w w' : World) : Prop where
  size : w.heap.size ≤ w'.heap.size
  block : ∀ k, k < w.heap.size → (∀ cur fr, w.heap[k]? ≠ some (.cells cur 5 fr)) → w'.heap[k]? = w.heap[k]?
theorem NB.refl (w : World) : NB w w := ⟨Nat.le_refl _, fun _ _ _ => rfl⟩
theorem NB.trans {a b c : World} (h : NB a b) (k : NB b c) : NB a c :=
  ⟨Nat.le_trans h.size k.size, fun i hi hn => (k.block i (Nat.lt_of_lt_of_le hi h.size) (fun cur fr => by rw [h.block i hi hn]; exact hn cur fr)).trans (h.block i hi hn)⟩
theorem NB.below {a b c : World} (h : NB a b) (k : Below b.heap.size b c) : NB a c := h.trans ⟨k.size, fun i hi _ => k.block i hi⟩
theorem NB.alloc {a b : World} (h : NB a b) (o : Obj) : NB a (b.alloc o) := h.below ((Below.refl _ _).alloc (Nat.le_refl _) _)
theorem NB.grown {a b c : World} {B : Nat} {v : Value} {xs : List Int} (h : NB a b) (ho : OwnB b B v xs) (hg : b.grownBy c v.ownBlock) : NB a c := by
  refine h.trans ⟨hg.size, fun i hi hn => hg.block i hi ?_⟩
  intro e
  rcases ho.2 with ⟨rfl, _⟩ | ⟨g, cap, cur, rfl, _, hh, _⟩
  · cases e
  · simp only [Value.ownBlock, Option.some.injEq] at e
    subst e
    exact hn _ _ hh
theorem NB.cells {a b : World} {g : Nat} {arr : Array Value} {T : TypeId} {fr : Nat × Nat} (h : NB a b) (hh : a.heap[g]? = some (.cells arr T fr)) (hT : T ≠ 5) : b.heap[g]? = some (.cells arr T fr) := by
  rw [h.block g (Array.getElem?_eq_some_iff.1 hh).1 (fun cur fr' e => by rw [hh] at e; simp only [Option.some.injEq, Obj.cells.injEq] at e; exact hT e.2.1)]
  exact hh
theorem own_kept {w w' : World} {B : Nat} {v : Value} {xs : List Int} (h : OwnB w B v xs) (k : Below w.heap.size w w') : OwnB w' B v xs := by
  refine ⟨h.1, ?_⟩
  rcases h.2 with hn | ⟨g, cap, cur, rfl, hb, hgg, rest⟩
  · exact .inl hn
  · exact .inr ⟨g, cap, cur, rfl, hb, by rw [k.block g (Array.getElem?_eq_some_iff.1 hgg).1]; exact hgg, rest⟩
theorem own_low {w : World} {B B' : Nat} {v : Value} {xs : List Int} (h : OwnB w B v xs) (k : B' ≤ B) : OwnB w B' v xs := by
  refine ⟨h.1, ?_⟩
  rcases h.2 with hn | ⟨g, cap, cur, rfl, hb, hgg, rest⟩
  · exact .inl hn
  · exact .inr ⟨g, cap, cur, rfl, by omega, hgg, rest⟩
theorem bcells_one (xs : List Int) : ∀ u ∈ bcells xs, u.oneCell' = true := by
  intro u hu
  simp only [bcells, List.mem_map] at hu
  obtain ⟨x, _, rfl⟩ := hu
  rfl
/-- Bytes at a place, appended to a row of bytes. -/
theorem wpList_append_bc {w : World} {ops : Array Oper} {rest : List Oper} {o : Oper} {a : Act} {Q : Exit → Act → World → Prop} (hgd : o.guard = none) (s x : Operand)
    (ho : o.op = .call { callee := .builtin .append, args := #[s, x], argTypes := #[22, 22] })
    (B : Nat) (v : Value) (xs ys : List Int) (hs : a.eval s = v) (hown : OwnB w B v xs) (ad : Addr) (m c : Nat) (hm : ys.length = m) (hx : a.eval x = .slice (some ad) m c)
    (hc : ∀ j u, (bcells ys)[j]? = some u → w.cell? (ad.add j) = some u) (hlen : xs.length + ys.length ≤ 4000000) (hB : B ≤ w.heap.size)
    (h : ∀ v' w', OwnB w' B v' (xs ++ ys) → w.grownBy w' v.ownBlock → wpList Try.prog ops Q rest (a.put o.dst v') w') : wpList Try.prog ops Q (o :: rest) a w := by
  obtain ⟨i0, hi, hz0, hz1, hz2⟩ := infoB
  subst hm
  refine wpList_append_own _ hgd s x 22 ho B 5 i0 _ 1 1 uBL hi hz0 hz1 hz2 rfl (by decide) v xs.length (bcells xs) hs hown ad ys.length c (bcells ys) hx (by rw [bcells_len]; omega) hc (bcells_one ys) (by unfold maxLen; omega) (by omega) hB ?_
  intro v' w' h4 h5 _
  refine h v' w' ?_ h5
  unfold OwnB
  rw [bcells_app, List.length_append]
  exact h4
/-- A row of bytes appended to another one. -/
theorem wpList_append_bb {w : World} {ops : Array Oper} {rest : List Oper} {o : Oper} {a : Act} {Q : Exit → Act → World → Prop} (hgd : o.guard = none) (s x : Operand)
    (ho : o.op = .call { callee := .builtin .append, args := #[s, x], argTypes := #[22, 22] })
    (B B' : Nat) (v src : Value) (xs ys : List Int) (hs : a.eval s = v) (hown : OwnB w B v xs) (hx : a.eval x = src) (hp : OwnB w B' src ys) (hlen : xs.length + ys.length ≤ 4000000) (hB : B ≤ w.heap.size)
    (h : ∀ v' w', OwnB w' B v' (xs ++ ys) → w.grownBy w' v.ownBlock → wpList Try.prog ops Q rest (a.put o.dst v') w') : wpList Try.prog ops Q (o :: rest) a w := by
  obtain ⟨i0, hi, hz0, hz1, hz2⟩ := infoB
  have HP := hp
  rcases hp.2 with ⟨rfl, h0⟩ | ⟨g, cap, cur, rfl, hg, hh, hcap, hm, hsz, ht⟩
  · have : ys = [] := List.eq_nil_of_length_eq_zero h0
    subst this
    exact wpList_append_own_none hgd s x 22 ho B 5 i0 1 uBL hi v xs.length (bcells xs) hs hown hx (h v w (by simpa using hown) ⟨rfl, rfl, rfl, Nat.le_refl _, fun _ _ _ => rfl⟩)
  · exact wpList_append_bc hgd s x ho B v xs ys hs hown _ _ cap rfl hx (HP.cells rfl) hlen hB h
/-- Writing a number, whatever was written ahead. -/
theorem sputN (xs : List Int) (m : Nat) (x : Int) (v : Value) (w : World) (B : Nat) (hown : OwnB w B v xs) (hB : B ≤ w.heap.size) (hm : m ≤ 8) (x1 : 0 ≤ x) (x2 : x < 18446744073709551616) (hxs : xs.length ≤ 2000000) :
    Calls Try.prog 19 #[v, .int .i64 m, .int .u64 x] w fun e w' => ∃ v', e = .returned v' ∧ OwnB w' B v' (xs ++ byL x m) ∧ Below B w w' ∧ NB w w' := by
  refine Calls.veil fun Q HQ => ?_
  go_enter Try.func19, Try.ntmps19
  go_wp2_with fail
  have HO := Lib.hid hown
  clear hown
  go_loopw [0, 9] (fun ov iv wr => ∃ i : Nat, i ≤ m ∧ iv = .int .i64 i ∧ Hid (OwnB wr B ov (xs ++ byL x i)) ∧ Below B w wr ∧ Hid (NB w wr))
    (fun _ iv _ => m - (intOf iv).toNat)
  case atStart => exact ⟨0, by omega, rfl, by simpa [byL] using HO, Below.refl _ _, Lib.hid (NB.refl _)⟩
  case round =>
    obtain ⟨i, hi', rfl, HJ, hbx, HN⟩ := hrel
    have HX := Lib.hid hbx
    clear hbx
    rcases (by omega : i < m ∨ i = m) with hlt | heq
    · go_wp2_with fail
      refine (field_calls x _ 8 _ x1 x2).mono ?_; rintro _ _ ⟨rfl, rfl⟩
      have HL := Lib.hid (show (xs ++ byL x i).length ≤ 2000008 by rw [List.length_append, byL_len]; omega)
      have HY := Lib.hid (byL_succ x i)
      obtain ⟨y1, y2⟩ := fieldI_byte x ((i : Int) * 8)
      generalize hy : fieldI x ((i : Int) * 8) 8 = y at *
      clear hy
      go_wp2_with (at_builtin; refine wpList_append_bc rfl (.tmp 12) (.tmp 18) rfl B _ _ [y] rfl (World.ownsRow.alloc HJ.out _) ⟨wr.heap.size, 0, none⟩ 1 1 rfl rfl (fun q u hq => by
        have : q = 0 := by have := (List.getElem?_eq_some_iff.1 hq).1; simpa [bcells] using this
        subst this
        simp [bcells] at hq; subst hq
        exact Ext.made_in rfl (Below.refl _ _) 0 _ rfl) (by have := HL.out; simp only [List.length_cons, List.length_nil]; omega) (by have := HX.out.size; simp; omega) ?_)
      intro v1 w1 hown hg
      have hb := grow_stepE (W := w) (World.ownsRow.alloc HJ.out _) (HX.out.alloc (by have := HX.out.size; omega) _) hB hg
      have HN1 := Lib.hid ((HN.out.alloc _).grown (World.ownsRow.alloc HJ.out _) hg)
      have HJ1 : Hid (OwnB w1 B v1 (xs ++ byL x (i + 1))) := by
        rw [HY.out]
        first | exact Lib.hid hown | (rw [← List.append_assoc]; exact Lib.hid hown)
      clear hown hg
      go_wp2_with fail
      go_roundw
      case rel => exact ⟨i + 1, by omega, by go_num, HJ1, hb, HN1⟩
      case measure => simp [intOf]; omega
    · have HE := Lib.hid heq
      have hge : m ≤ i := by omega
      have HFIN := HJ.out
      rw [heq] at HFIN
      have HFIN := Lib.hid HFIN
      clear heq
      go_wp2_with fail
      (try go_ret)
      rw [HQ.out]
      exact ⟨_, rfl, HFIN.out, HX.out, HN.out⟩
end Go.Proofs.Ytnikggdnlijkkaa
