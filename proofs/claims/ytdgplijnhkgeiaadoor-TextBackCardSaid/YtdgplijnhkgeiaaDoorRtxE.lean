/- Layer 35, reading: rows of texts; the reference's Cut. -/
import Derived.Test.YtdgplijnhkgeiaaDoorRtxD
import Derived.Laws.AppendOwn
import Derived.OwnWalk
namespace Go.Proofs.YtdgplijnhkgeiaaDoor
open Go.RowKit
open Go.Lib (itoa decDigits nDigits parseIntB cut index indexByte)
set_option linter.unusedVariables false
set_option linter.unusedSimpArgs false
theorem infoStr : ∃ i, Tryd.prog.info? 9 = some i ∧ i.zero = some (.string ⟨#[]⟩) ∧ i.size = 1 ∧ i.bytes = 16 := by
  have h : (Tryd.prog.info? 9).map (fun i => (i.zero, i.size, i.bytes)) = some (some (.string ⟨#[]⟩), 1, 16) := by kernel_rfl
  cases h1 : Tryd.prog.info? 9 with
  | none => rw [h1] at h; cases h
  | some i =>
    rw [h1] at h
    simp only [Option.map_some, Option.some.injEq, Prod.mk.injEq] at h
    exact ⟨i, rfl, h.1, h.2.1, h.2.2⟩
theorem uSL : Tryd.prog.underlying 23 = some (.slice 9) := by kernel_rfl
def tcells (L : List (List UInt8)) : List Value := L.map tx
theorem tcells_len (L : List (List UInt8)) : (tcells L).length = L.length := by simp [tcells]
abbrev OwnT (w : World) (B : Nat) (v : Value) (L : List (List UInt8)) : Prop := w.ownsRow B 9 1 v L.length (tcells L)
/-- A row of texts. -/
def SR (w : World) (v : Value) (L : List (List UInt8)) : Prop := ∃ p c, v = .slice p L.length c ∧ L.length ≤ c ∧ c ≤ 9223372036854775807 ∧ ∀ i x, L[i]? = some x → ∃ g o, p = some ⟨g, o, none⟩ ∧ w.cell? ⟨g, o + i, none⟩ = some (tx x)
theorem SR.below {w w' : World} {v : Value} {L : List (List UInt8)} (h : SR w v L) (k : Below w.heap.size w w') : SR w' v L := by
  obtain ⟨p, c, h1, h2, h3, h4⟩ := h
  refine ⟨p, c, h1, h2, h3, fun i x hx => ?_⟩
  obtain ⟨g, o, h5, h6⟩ := h4 i x hx
  exact ⟨g, o, h5, Ext.cell ⟨w', k⟩ h6⟩
theorem own_SR {w : World} {B : Nat} {v : Value} {L : List (List UInt8)} (h : OwnT w B v L) : SR w v L := by
  rcases h.2 with ⟨rfl, h1⟩ | ⟨g, cap, cur, rfl, hb, hh, hc, hm, hs, ht⟩
  · have : L = [] := List.eq_nil_of_length_eq_zero h1
    subst this
    exact ⟨_, _, rfl, Nat.le_refl _, by decide, fun i x hx => by simp at hx⟩
  · refine ⟨_, cap, rfl, hc, hm, fun i x hx => ⟨g, 0, rfl, ?_⟩⟩
    have hi : i < L.length := (List.getElem?_eq_some_iff.1 hx).1
    have g0 : (tcells L)[i]? = some (tx x) := by rw [tcells, List.getElem?_map, hx]; rfl
    rw [← ht, List.getElem?_take_of_lt (by omega)] at g0
    rw [Nat.zero_add, cell_of_row _ g _ _ _ (0, 0) hh]
    simpa using g0
theorem ownT_new (w : World) (l : List UInt8) (B : Nat) (hB : B ≤ w.heap.size) : OwnT (w.alloc (.cells #[tx l] 9)) B (.slice (some ⟨w.heap.size, 0, none⟩) 1 1) [l] :=
  ⟨rfl, .inr ⟨_, 1, _, rfl, hB, heap_alloc_new w _, Nat.le_refl _, by decide, rfl, rfl⟩⟩
/-- A text more, at the end. -/
theorem wpList_append_t1 {w : World} {ops : Array Oper} {rest : List Oper} {o : Oper} {a : Act} {Q : Exit → Act → World → Prop} (hgd : o.guard = none) (s x : Operand)
    (ho : o.op = .call { callee := .builtin .append, args := #[s, x], argTypes := #[23, 23] })
    (B : Nat) (v : Value) (L : List (List UInt8)) (l : List UInt8) (g c : Nat) (hs : a.eval s = v) (hown : OwnT w B v L) (hx : a.eval x = .slice (some ⟨g, 0, none⟩) 1 c) (hc : w.cell? ⟨g, 0, none⟩ = some (tx l)) (hn : L.length ≤ 100000) (hB : B ≤ w.heap.size)
    (h : ∀ v' w', OwnT w' B v' (L ++ [l]) → w.grownBy w' v.ownBlock → wpList Tryd.prog ops Q rest (a.put o.dst v') w') : wpList Tryd.prog ops Q (o :: rest) a w := by
  obtain ⟨i0, hi, hz0, hz1, hz2⟩ := infoStr
  refine wpList_append_own _ hgd s x 23 ho B 9 i0 _ 1 16 uSL hi hz0 hz1 hz2 rfl (by decide) v L.length (tcells L) hs hown ⟨g, 0, none⟩ 1 c [tx l] hx rfl ?_ ?_ (by unfold maxLen; omega) (by omega) hB ?_
  · intro j u hu
    have : j = 0 := by have := (List.getElem?_eq_some_iff.1 hu).1; simpa using this
    subst this
    simp at hu; subst hu
    simpa [Addr.add] using hc
  · intro u hu; simp at hu; subst hu; rfl
  · intro v' w' h5 h6 _
    refine h v' w' ?_ h6
    unfold OwnT tcells
    rw [List.map_append, List.length_append]
    exact h5
theorem own_geT {w : World} {B : Nat} {v : Value} {L : List (List UInt8)} (h : OwnT w B v L) : ∀ k, v.ownBlock = some k → B ≤ k := by
  intro k hk
  rcases h.2 with ⟨rfl, _⟩ | ⟨g, cap, cur, rfl, hg, _⟩
  · cases hk
  · simp only [Value.ownBlock, Option.some.injEq] at hk; omega
theorem grow_stepT {W w0 w1 : World} {B : Nat} {v : Value} {L : List (List UInt8)} (hown : OwnT w0 B v L) (hbel : Below B W w0) (hB : B ≤ W.heap.size) (hg : w0.grownBy w1 v.ownBlock) : Below B W w1 :=
  hbel.grown hg (by have := hbel.size; omega) (own_geT hown)
/-- The last text is changed. -/
theorem ownT_last {w : World} {B g c : Nat} {A : List (List UInt8)} {b : List UInt8} (h : OwnT w B (.slice (some ⟨g, 0, none⟩) (A.length + 1) c) (A ++ [b])) (b' : List UInt8) :
    OwnT (w.setCell ⟨g, A.length, none⟩ (tx b')) B (.slice (some ⟨g, 0, none⟩) (A.length + 1) c) (A ++ [b']) := by
  have hlen : (A ++ [b']).length = (A ++ [b]).length := by simp
  refine ⟨by simp [tcells], ?_⟩
  rcases h.2 with ⟨h0, _⟩ | ⟨g', cap, cur, hv, hb, hh, hc, hm, hs, ht⟩
  · exact absurd h0 (by simp)
  · simp only [Value.slice.injEq, Option.some.injEq, Addr.mk.injEq, and_true] at hv
    obtain ⟨e1, _, e3⟩ := hv
    subst e1 e3
    refine .inr ⟨_, _, cur.setIfInBounds A.length (tx b'), by simp, hb, heap_setCell_same w _ A.length _ _ _ hh, by simpa using hc, hm, by simpa using hs, ?_⟩
    have hA : A.length < cur.size := by rw [hs]; simp at hc; omega
    rw [Array.toList_setIfInBounds, List.take_set]
    have ht2 : List.take ((A ++ [b]).length * 1) cur.toList = tcells (A ++ [b]) := ht
    rw [show (A ++ [b']).length * 1 = (A ++ [b]).length * 1 by simp, ht2]
    simp [tcells]
theorem slice_tx (l : List UInt8) (i : Nat) (x : UInt8) (hx : l[i]? = some x) (w : World) :
    (Instr.slice 9 (tx l) (some (.int .i64 (i : Nat))) (some (.int .i64 ((i : Int) + 1))) none).run Tryd.prog w = .ok (tx [x]) w := by
  have hi : i < l.length := (List.getElem?_eq_some_iff.1 hx).1
  have hsz : (⟨l.toArray⟩ : ByteArray).size = l.length := by show l.toArray.size = _; simp
  have h := run_slice_string (P := Tryd.prog) w 9 ⟨l.toArray⟩ .i64 .i64 (i : Int) ((i : Int) + 1) uStr9 (by omega) (by omega) (by rw [hsz]; omega)
  rw [h]
  have e1 : ((i : Int)).toNat = i := by omega
  have e2 : ((i : Int) + 1).toNat = i + 1 := by omega
  rw [e1, e2, Go.Lib.extract_eq]
  have e3 : (⟨l.toArray⟩ : ByteArray).data.toList = l := by show l.toArray.toList = _; simp
  have e4 : ((l.drop i).take (i + 1 - i)) = [x] := by
    rw [show i + 1 - i = 1 by omega, List.drop_eq_getElem_cons hi]
    have := (List.getElem?_eq_some_iff.1 hx).2
    simp [this]
  rw [e3, e4]
set_option maxRecDepth 16000 in
set_option maxHeartbeats 4000000 in
theorem rcutO (l : List UInt8) (c : UInt8) (w : World) (hl : l.length ≤ 5000) :
    Calls Tryd.prog 7 #[tx l, .int .u8 (c.toNat : Int)] w fun e w' => ∃ v, e = .returned v ∧ OwnT w' w.heap.size v (splitL c l) ∧ Below w.heap.size w w' := by
  refine Calls.veil fun Q HQ => ?_
  have hsz : (⟨l.toArray⟩ : ByteArray).size = l.length := by show l.toArray.size = _; simp
  have HIX : Hid (∀ i, i < l.length → ∃ b : UInt8, l[i]? = some b ∧ ∀ w1, (Instr.index 9 (tx l) (.int .i64 (i : Nat))).run Tryd.prog w1 = .ok (.int .u8 (b.toNat : Int)) w1) := Lib.hid fun i hi => ⟨l[i], List.getElem?_eq_getElem hi, idx_tx _ i _ (List.getElem?_eq_getElem hi)⟩
  have HLL := Lib.hid hl
  clear hl
  go_enter Tryd.func7, Tryd.ntmps7
  go_wp2_with fail
  generalize hV : World.alloc w _ = V
  have HV := Lib.hid (show OwnT V w.heap.size (.slice (some ⟨w.heap.size, 0, none⟩) 1 1) [[]] ∧ Below w.heap.size w V by
    rw [← hV]; exact ⟨ownT_new w [] _ (Nat.le_refl _), below_new (Below.refl _ _) _⟩)
  clear hV
  go_loopw [5, 6] (fun v iv wr => ∃ (i : Nat) (A : List (List UInt8)) (b : List UInt8), i ≤ l.length ∧ iv = .int .i64 i ∧ Hid (splitL c (l.take i) = A ++ [b]) ∧ Hid (OwnT wr w.heap.size v (A ++ [b])) ∧ Hid (A.length ≤ i ∧ b.length ≤ i) ∧ Below w.heap.size w wr)
    (fun _ iv _ => l.length - (intOf iv).toNat)
  case atStart => exact ⟨0, [], [], by omega, rfl, Lib.hid rfl, Lib.hid HV.out.1, Lib.hid ⟨by simp, by simp⟩, HV.out.2⟩
  case round =>
    obtain ⟨i, A, b, hi, rfl, HS, HO, HA, hbx⟩ := hrel
    have HX := Lib.hid hbx
    clear hbx
    rcases (by omega : i < l.length ∨ i = l.length) with hlt | heq
    · obtain ⟨x, hx, hix⟩ := HIX.out i hlt
      have il : (i : Int) < (l.length : Int) := by omega
      have HT := Lib.hid (show l.take (i + 1) = l.take i ++ [x] by rw [List.take_add_one, hx]; rfl)
      obtain ⟨A', b', s1, s2⟩ := splitL_snoc c x (l.take i)
      have heq2 : A' = A ∧ b' = b := by
        have := HS.out
        rw [s1] at this
        have h2 := List.append_inj' this rfl
        exact ⟨h2.1, by simpa using h2.2⟩
      obtain ⟨rfl, rfl⟩ := heq2
      rw [← HT.out] at s2
      have HS2 := Lib.hid s2
      have HXI := Lib.hid hx
      clear s1 s2 hx
      have hw1 : wrap64 ((i : Int) + 1) = (i : Int) + 1 := wrap_id ⟨by omega, by have := HLL.out; omega⟩
      have hw2 : IntKind.i64.wrap ((i : Int) + 1) = (i : Int) + 1 := wrapi_id ⟨by omega, by have := HLL.out; omega⟩
      have hw3 : wrap64 (A'.length : Int) = (A'.length : Int) := wrap_id ⟨by omega, by have := HLL.out; have := HA.out.1; omega⟩
      have hw4 : IntKind.i64.wrap (A'.length : Int) = (A'.length : Int) := wrapi_id ⟨by omega, by have := HLL.out; have := HA.out.1; omega⟩
      by_cases hxc : x = c
      · subst hxc
        have hbb : ((x.toNat : Int) == (x.toNat : Int)) = true := by simp
        go_wp2_with (at_builtin; refine wpList_append_t1 rfl (.tmp 19) (.tmp 20) rfl w.heap.size _ (A' ++ [b']) [] wr.heap.size 1 rfl (World.ownsRow.alloc HO.out _) rfl (Ext.made_in rfl (Below.refl _ _) 0 _ rfl) (by have := HA.out.1; have := HLL.out; simp; omega) (by have := HX.out.size; simp; omega) ?_)
        intro v1 w1 hown hg
        have hb := grow_stepT (W := w) (World.ownsRow.alloc HO.out _) (HX.out.alloc (by have := HX.out.size; omega) _) (Nat.le_refl _) hg
        have HO1 := Lib.hid hown
        have HX1 := Lib.hid hb
        clear hown hg hb
        go_wp2_with fail
        go_roundw
        case rel => exact ⟨i + 1, A' ++ [b'], [], by omega, by go_num, Lib.hid (by rw [HS2.out]; simp), Lib.hid (by have h := HO1.out; rwa [show A' ++ [b', []] = A' ++ [b'] ++ [[]] by simp] at h), Lib.hid ⟨by have := HA.out.1; simp; omega, by simp⟩, HX1.out⟩
        case measure => simp [intOf]; omega
      · have hcc : ((x.toNat : Int) == (c.toNat : Int)) = false := beq_eq_false_iff_ne.2 (fun e => hxc (by
          apply UInt8.toNat_inj.1; omega))
        obtain ⟨g, cp, cur, hv2⟩ : ∃ g cp, ∃ cur : Array Value, u5 = Value.slice (some ⟨g, 0, none⟩) (A'.length + 1) cp ∧ wr.heap[g]? = some (.cells cur 9 (0, 0)) ∧ wr.cell? ⟨g, A'.length, none⟩ = some (tx b') := by
          have ho := HO.out
          obtain ⟨p, k, h1, h2, h3, h4⟩ := own_SR ho
          obtain ⟨g, o, h5, h6⟩ := h4 A'.length b' (by simp)
          rcases ho.2 with ⟨_, h0⟩ | ⟨g', cap, cur, hv, hb, hh, _⟩
          · simp at h0
          · rw [hv] at h1
            injection h1 with e1 e2 e3
            rw [h5] at e1
            injection e1 with e1
            injection e1 with e1 e4
            subst e1 e4
            refine ⟨g', cap, cur, by rw [hv]; simp, hh, by rw [← h6]; simp⟩
        obtain ⟨rfl, hh, hcell⟩ := hv2
        have hfr : wr.frozen? ⟨g, A'.length, none⟩ = false := frozen_of_row _ _ _ _ _ hh
        have hsl : ∀ w1, (Instr.slice 9 (tx l) (some (.int .i64 (i : Nat))) (some (.int .i64 ((i : Int) + 1))) none).run Tryd.prog w1 = .ok (tx [x]) w1 := fun w1 => slice_tx l i x HXI.out w1
        have q1 : ¬ 9223372036854775807 < b'.length + 1 := by have := HA.out.2; have := HLL.out; omega
        have hAl : (A'.length : Int) < 9223372036854775807 := by have := HA.out.1; have := HLL.out; omega
        clear hh
        go_wp2_with fail
        go_region
        generalize hU : World.drew _ = U
        have hUo : OwnT U w.heap.size (.slice (some ⟨g, 0, none⟩) (A'.length + 1) cp) (A' ++ [b' ++ [x]]) := by
          rw [← hU]
          have h := ownT_last HO.out (b' ++ [x])
          have e : tx (b' ++ [x]) = Value.string (⟨b'.toArray⟩ ++ ⟨#[x]⟩) := congrArg Value.string (str_app b' [x]).symm
          rw [e] at h
          exact h
        have hUb : Below w.heap.size w U := by
          rw [← hU]
          exact (HX.out.setCell (p := ⟨g, A'.length, none⟩) (own_geT HO.out g rfl) _).drew
        have HUO := Lib.hid hUo
        have HUB := Lib.hid hUb
        clear hU hUo hUb hcell hfr hsl
        go_wp2_with fail
        go_roundw
        case rel => exact ⟨i + 1, A', b' ++ [x], by omega, by go_num, Lib.hid (by rw [HS2.out, if_neg hxc]), HUO, Lib.hid ⟨by have := HA.out.1; omega, by have := HA.out.2; simp; omega⟩, HUB.out⟩
        case measure => simp [intOf]; omega
    · have HF := Lib.hid (show OwnT wr w.heap.size u5 (splitL c l) by
        have := HS.out
        rw [heq, List.take_length] at this
        rw [this]; exact HO.out)
      have hge : ¬ (i : Int) < (l.length : Int) := by omega
      clear heq
      go_wp2_with fail
      (try go_ret)
      rw [HQ.out]
      exact ⟨_, rfl, HF.out, HX.out⟩
theorem rcut (l : List UInt8) (c : UInt8) (w : World) (hl : l.length ≤ 5000) :
    Calls Tryd.prog 7 #[tx l, .int .u8 (c.toNat : Int)] w fun e w' => ∃ v, e = .returned v ∧ SR w' v (splitL c l) ∧ Below w.heap.size w w' :=
  (rcutO l c w hl).mono fun e w' ⟨v, h1, h2, h3⟩ => ⟨v, h1, own_SR h2, h3⟩
end Go.Proofs.YtdgplijnhkgeiaaDoor
