/- Layer 35, reading: a text's first word, and those behind it. -/
import Derived.Test.YtdgplijnhkgeiaaDoorRtxF
import Derived.WalkMore
namespace Go.Proofs.YtdgplijnhkgeiaaDoor
open Go.RowKit
open Go.Lib (cut)
set_option linter.unusedVariables false
set_option linter.unusedSimpArgs false
attribute [local go_sem] Oper.semAt_some
theorem twords (s : List UInt8) (w : World) :
    Calls Tryd.prog 51 #[tx s] w fun e w' => e = .returned (.func (.func 56) #[] #[.pointer (some ⟨w.heap.size, 0, none⟩)]) ∧ w' = w.alloc (.cells #[tx s] 9) := by
  have hmf : ∀ (fn : Fn) (first cap : Array Value) (w : World), (Instr.makeFunc fn first cap).run Tryd.prog w = .ok (.func fn first cap) w := fun _ _ _ _ => rfl
  refine Calls.veil fun Q HQ => ?_
  go_enter Tryd.func51, Tryd.ntmps51
  go_wp2_with fail
  (try go_ret)
  rw [HQ.out]
  exact ⟨rfl, rfl⟩
/-- What stands behind so many words. -/
structure SW (w : World) (pre : List (List UInt8)) (W : World) : Prop where
  b0 : Boxed W w.heap.size 9 (tx (pre.headD []))
  b1 : ∃ rv, Boxed W (w.heap.size + 1) 23 rv ∧ OwnT W (w.heap.size + 1) rv pre.tail
  b2 : Boxed W (w.heap.size + 1 + 1) 3 (.int .i64 pre.length)
  bel : Below w.heap.size w W
  sz : w.heap.size + 3 ≤ W.heap.size
theorem OwnT.kept {W W' : World} {B : Nat} {v : Value} {L : List (List UInt8)} (h : OwnT W B v L) {row : Option Nat} (hg : W.grownBy W' row) (hr : ∀ r, row = some r → ∃ o : Obj, W.heap[r]? = some o ∧ o.isCells = false) : OwnT W' B v L := by
  refine ⟨h.1, ?_⟩
  rcases h.2 with h0 | ⟨g, cap, cur, hv, hb, hgg, rest⟩
  · exact .inl h0
  · refine .inr ⟨g, cap, cur, hv, hb, ?_, rest⟩
    refine (hg.block g (Array.getElem?_eq_some_iff.1 hgg).1 (fun e => ?_)).trans hgg
    obtain ⟨o, ho, hc⟩ := hr g e.symm
    rw [hgg] at ho; cases ho; cases hc
theorem SW.grown {w : World} {pre : List (List UInt8)} {W W' : World} {B : Nat} (hB : w.heap.size ≤ B) (hs : SW w pre W) {row : Option Nat} (hg : W.grownBy W' row) (hr : ∀ r, row = some r → B ≤ r ∧ ∃ o : Obj, W.heap[r]? = some o ∧ o.isCells = false) : SW w pre W' := by
  have nb : ∀ (q : Nat) (T : TypeId) (v : Value), Boxed W q T v → some q ≠ row := by
    intro q T v hb e
    obtain ⟨_, o, ho, hc⟩ := hr q e.symm
    rw [show W.heap[q]? = _ from hb] at ho; cases ho; cases hc
  obtain ⟨rv, h1, h2⟩ := hs.b1
  exact ⟨hs.b0.kept hg (nb _ _ _ hs.b0), ⟨rv, h1.kept hg (nb _ _ _ h1), h2.kept hg (fun r e => (hr r e).2)⟩, hs.b2.kept hg (nb _ _ _ hs.b2), hs.bel.grown hg hs.bel.size (fun k e => Nat.le_trans hB (hr k e).1), Nat.le_trans hs.sz hg.size⟩
theorem SW.below {w : World} {pre : List (List UInt8)} {W W' : World} (hs : SW w pre W) (hb : Below W.heap.size W W') : SW w pre W' :=
  hs.grown (Nat.le_refl _) (grown_of_below hb) (fun r e => by cases e)
theorem SW.put {w : World} {pre : List (List UInt8)} {W : World} (hs : SW w pre W) {D : Nat} {o o' : Obj} (hD : w.heap.size + 3 ≤ D) (h : W.heap[D]? = some o) (hc : o.isCells = false) (hw : o.isWalk = false) (hc' : o'.isCells = false) : SW w pre (W.putObj D o') := by
  obtain ⟨rv, h1, h2⟩ := hs.b1
  refine ⟨(World.putObj_heap_other (by omega)).trans hs.b0, ⟨rv, (World.putObj_heap_other (by omega)).trans h1, ownsRow_putObj h2 _ h hc⟩, (World.putObj_heap_other (by omega)).trans hs.b2, hs.bel.trans (belowK_b (w := w) (Nat.le_refl _) W D _ _ (by omega) h hc hw), Nat.le_trans hs.sz (belowK_b (w := w) (Nat.le_refl _) W D _ _ (by omega) h hc hw).size⟩
theorem splitL_len (c : UInt8) : ∀ l, (splitL c l).length ≤ l.length + 1
  | [] => Nat.le_refl _
  | x :: r => by
    have := splitL_len c r
    unfold splitL
    split
    · simp; omega
    · cases h : splitL c r with
      | nil => simp
      | cons a b => rw [h] at this; simp at this ⊢; omega
theorem SW.first {w W : World} (hs : SW w [] W) (x : List UInt8) : SW w [x] ((W.setCell ⟨w.heap.size, 0, none⟩ (tx x)).setCell ⟨w.heap.size + 1 + 1, 0, none⟩ (.int .i64 1)) := by
  obtain ⟨rv, h1, h2⟩ := hs.b1
  have h3 := h1.other (B' := w.heap.size) (by omega) (tx x)
  have h4 := (ownsRow_setCell_below h2 (a := ⟨w.heap.size, 0, none⟩) (by show w.heap.size < _; omega) (tx x))
  have h5 := (hs.b2.other (B' := w.heap.size) (by omega) (tx x))
  exact ⟨(hs.b0.set (tx x)).other (by omega) _, ⟨rv, h3.other (by omega) _, World.ownsRow.kept h4 (grownBy_setCell' _ _ _) (.inr (h5.not_row (by decide) h4).symm)⟩, h5.set _, (hs.bel.setCell (p := ⟨w.heap.size, 0, none⟩) (Nat.le_refl _) _).setCell (p := ⟨w.heap.size + 1 + 1, 0, none⟩) (by show w.heap.size ≤ w.heap.size + 1 + 1; omega) _, by simp [World.setCell]; exact hs.sz⟩
theorem SW.next {w W W2 : World} {pre : List (List UInt8)} {x : List UInt8} {v' : Value} (hp : pre ≠ []) (hs : SW w pre W) (h0 : Boxed W2 w.heap.size 9 (tx (pre.headD []))) (h1 : Boxed W2 (w.heap.size + 1) 23 v') (h2 : OwnT W2 (w.heap.size + 1) v' (pre.tail ++ [x])) (h3 : Boxed W2 (w.heap.size + 1 + 1) 3 (.int .i64 pre.length)) (hb : Below w.heap.size W W2) :
    SW w (pre ++ [x]) (W2.setCell ⟨w.heap.size + 1 + 1, 0, none⟩ (.int .i64 ((pre.length : Int) + 1))) := by
  obtain ⟨y, t, rfl⟩ := List.exists_cons_of_ne_nil hp
  refine ⟨h0.other (by omega) _, ⟨v', h1.other (by omega) _, ?_⟩, ?_, (hs.bel.trans hb).setCell (p := ⟨w.heap.size + 1 + 1, 0, none⟩) (by show w.heap.size ≤ w.heap.size + 1 + 1; omega) _, by simp [World.setCell]; exact Nat.le_trans hs.sz hb.size⟩
  · exact World.ownsRow.kept h2 (grownBy_setCell' _ _ _) (.inr (h3.not_row (by decide) h2).symm)
  · have := h3.set (.int .i64 (((y :: t).length : Int) + 1))
    simpa using this
theorem wpListIn_append_t1 {F : Fence} {n : Nat} {w : World} {ops : Array Oper} {rest : List Oper} {o : Oper} {a : Act} {Q : Exit → Act → World → Prop} (hgd : o.guard = none) (s x : Operand)
    (ho : o.op = .call { callee := .builtin .append, args := #[s, x], argTypes := #[23, 23] })
    (B : Nat) (v : Value) (L : List (List UInt8)) (l : List UInt8) (g c : Nat) (hs : a.eval s = v) (hown : OwnT w B v L) (hx : a.eval x = .slice (some ⟨g, 0, none⟩) 1 c) (hc : w.cell? ⟨g, 0, none⟩ = some (tx l)) (hn : L.length ≤ 100000) (hB : B ≤ w.heap.size)
    (h : ∀ v' w', OwnT w' B v' (L ++ [l]) → w.grownBy w' v.ownBlock → wpListIn F n Tryd.prog ops Q rest (a.put o.dst v') w') : wpListIn F n Tryd.prog ops Q (o :: rest) a w := by
  obtain ⟨i0, hi, hz0, hz1, hz2⟩ := infoStr
  refine wpListIn_append_own _ hgd s x 23 ho B 9 i0 _ 1 16 uSL hi hz0 hz1 hz2 rfl (by decide) v L.length (tcells L) hs hown ⟨g, 0, none⟩ 1 c [tx l] hx rfl ?_ ?_ (by unfold maxLen; omega) (by omega) hB ?_
  · intro j u hu
    have : j = 0 := by have := (List.getElem?_eq_some_iff.1 hu).1; simpa using this
    subst this
    simp at hu; subst hu
    simpa [Addr.add] using hc
  · intro u hu; simp at hu; subst hu; rfl
  · intro v' w' h5 h6 _
    refine h v' w' ?_ h6
    unfold OwnT tcells
    rw [List.map_append, List.length_append]
    exact h5
set_option maxRecDepth 100000 in
set_option maxHeartbeats 8000000 in
theorem tsplit (s : List UInt8) (w : World) (hs : s.length ≤ 10000) :
    Calls Tryd.prog 39 #[tx s] w fun e w' => ∃ rv, e = .returned (.tuple #[tx ((splitL 32 s).headD []), rv]) ∧ SR w' rv (splitL 32 s).tail ∧ Below w.heap.size w w' := by
  refine (callsIn_wide (n := 10)).1 ?_
  refine CallsIn.veil fun Q HQ => ?_
  have HSL := Lib.hid hs
  have TW := Lib.hid (fun V => twords s V)
  clear hs
  refine callsIn_of_wp_marks Tryd.func39 rfl trivial ?_ rfl
  simp only [Tryd.ntmps39, List.size_toArray, List.length_cons, List.length_nil, Nat.reduceAdd, Nat.reduceSub, Array.replicate_succ, Array.replicate_zero, List.push_toArray, List.append_toArray, List.nil_append, List.cons_append]
  refine wpIn_wide.2 ?_
  go_wp2_with fail
  generalize hV : World.alloc _ _ = V
  have HV := Lib.hid (show SW w [] V by
    rw [← hV]
    refine ⟨((Boxed.new w _ _).alloc _).alloc _, ⟨_, ?_, ⟨rfl, .inl ⟨rfl, rfl⟩⟩⟩, ?_, (((Below.refl _ _).alloc (Nat.le_refl _) _).alloc (by simp) _).alloc (by simp; omega) _, by simp⟩
    · have := (Boxed.new (w.alloc (.cells #[tx []] 9)) 23 (.slice none 0 0)).alloc (.cells #[.int .i64 0] 3)
      rw [World.size_alloc] at this
      exact this
    · have := Boxed.new ((w.alloc (.cells #[tx []] 9)).alloc (.cells #[.slice none 0 0] 23)) 3 (.int .i64 0)
      rw [World.size_alloc, World.size_alloc] at this
      exact this)
  clear hV
  refine (TW.out V).mono ?_; rintro _ w1 ⟨rfl, hw1⟩
  have HW1 := Lib.hid (show SW w [] w1 ∧ w1.cell? ⟨V.heap.size, 0, none⟩ = some (tx s) ∧ w.heap.size + 3 ≤ w1.heap.size by
    rw [hw1]
    exact ⟨HV.out.below ((Below.refl _ _).alloc (Nat.le_refl _) _), Ext.made_in rfl (Below.refl _ _) 0 _ rfl, by have := HV.out.sz; simp; omega⟩)
  clear hw1
  have HSEQ : SeqStopsK Fence.wide (10 - 1) Tryd.prog 56 #[.pointer (some ⟨V.heap.size, 0, none⟩)] (fun x : List UInt8 => #[tx x]) (fun A B => A.heap.size ≤ B.heap.size) (fun xs => xs = splitL 32 s) (fun _ => True) (splitL 32 s).length w1 :=
    fun l J Jx W hW hJ hJx hY h0 => witer_in (10 - 1) (by omega) l V.heap.size s HSL.out J Jx W (Ext.cell ⟨W, hW⟩ HW1.out.2.1) (Lib.hid hJ) (Lib.hid hY) (Lib.hid h0)
  generalize V.heap.size = vb at *
  go_wp2_with fail
  refine (wpIn_wide (n := 10)).1 ?_
  refine wpIn_rangeFunc_ownH (F := Fence.wide) rfl (by omega) (gf := 56) (lb := #[.pointer (some ⟨vb, 0, none⟩)]) rfl trivial (enters_of Tryd.func56 (by kernel_rfl) rfl) HSEQ (fun h k => Nat.le_trans h k) (fun W l o o' h1 h2 h3 h4 => (belowK_b (w := w1) (Nat.le_refl _) W l o o' h1 h2 h3 h4).size) (Below.refl _ _) (fun _ => rfl)
    (fun pre W => SW w pre W)
    (fun cc pre W => False)
    (fun pre X Y row hs hg hr => hs.grown (by have := HW1.out.2.2; omega) hg hr)
    (fun cc pre X Y row hs hg hr => hs.elim)
    HW1.out.1
    (fun x a' W => a' = { tmps := #[tx s, undef, .pointer (some ⟨w.heap.size, 0, none⟩), .pointer (some ⟨w.heap.size + 1, 0, none⟩), .pointer (some ⟨w.heap.size + 1 + 1, 0, none⟩), tx x, tx s, .func (.func 56) #[] #[.pointer (some ⟨vb, 0, none⟩)], tx x, undef, undef, undef, undef, undef, undef, undef, undef, undef, undef, undef], defers := [] })
    (fun x a' _ X Y row hs hg hr => hs)
    ?assign ?body ?done ?stop
  case assign =>
    rintro l pre x W K hI hK
    gi_wp2
    exact hK _ _ ((KeepsOthers.refl _).from _) (Nat.le_refl _) hI rfl
  case body =>
    rintro l pre x a' W hl ⟨r, hr⟩ hSt rfl hlen
    have HSt := Lib.hid hSt
    have hb2c := hSt.b2.cell
    have hb2f := hSt.b2.frozen
    have hb0c := hSt.b0.cell
    have hb0f := hSt.b0.frozen
    have HLN := Lib.hid hlen
    clear hSt hr hl hlen
    cases pre with
    | nil =>
      gi_wp2
      refine ⟨((KeepsOthers.setCell _ _ _).trans (KeepsOthers.setCell _ _ _)).from _, by simp [World.setCell], ?_⟩
      exact HSt.out.first x
    | cons y t =>
      obtain ⟨rv, hv, hrow⟩ := HSt.out.b1
      have hrow : OwnT W (w.heap.size+1) rv t := hrow
      have hc := hv.cell
      obtain ⟨i0, hi, hz0, hz1, hz2⟩ := infoStr
      have HLN2 := Lib.hid (show (y :: t).length ≤ 10001 by
        have := HLN.out
        have := splitL_len 32 s
        have := HSL.out
        omega)
      have hne : ((((y :: t).length : Nat) : Int) == 0) = false := beq_eq_false_iff_ne.2 (by simp; omega)
      have htl : (y :: t).tail.length = t.length := rfl
      generalize hk : (y :: t).length = k at *
      have hkt : t.length ≤ 10001 := by have := HLN2.out; simp at hk; omega
      gi_wp2_with (gi_at_builtin; refine wpListIn_append_t1 rfl (.tmp 12) (.tmp 14) rfl (w.heap.size + 1) _ t x W.heap.size 1 rfl (World.ownsRow.alloc hrow _) rfl (Ext.made_in rfl (Below.refl _ _) 0 _ rfl) (by omega) (by have := HSt.out.sz; simp; omega) ?_)
      intro v' w2 hown' hgrow
      obtain ⟨sp, sc, hv', _, _, _⟩ := own_SR hown'
      rw [show (t ++ [x]).length = t.length + 1 by simp] at hv'
      subst hv'
      obtain ⟨hv1, hv2, hr2, hk2, hb2⟩ := hv.appended (by decide) hrow (by have := HSt.out.sz; omega) (Nat.le_refl _) hown' hgrow
      have hc1 := hv1.cell
      have hf1 := hv1.frozen
      have hnr : some (w.heap.size + 1 + 1) ≠ rv.ownBlock := HSt.out.b2.not_row (by decide) hrow
      have hb2' := (HSt.out.b2.alloc (.cells #[tx x] 9)).kept hgrow hnr
      have hb0' : Boxed (w2.setCell ⟨w.heap.size + 1, 0, none⟩ (.slice sp (t.length + 1) sc)) w.heap.size 9 (tx y) := ((HSt.out.b0.alloc (.cells #[tx x] 9)).kept hgrow (fun e => by have := own_geT hrow _ e.symm; omega)).other (by omega) _
      have hc2 := hb2'.cell
      have hf2 := hb2'.frozen
      have hb2'' := hb2'.other (B' := w.heap.size + 1) (by omega) (.slice sp (t.length + 1) sc)
      have HF := Lib.hid (show SW w ((y :: t) ++ [x]) ((w2.setCell ⟨w.heap.size + 1, 0, none⟩ (.slice sp (t.length + 1) sc)).setCell ⟨w.heap.size + 1 + 1, 0, none⟩ (.int .i64 (((y :: t).length : Int) + 1))) from
        SW.next (by simp) HSt.out hb0' hv2 hr2 hb2'' (hb2.mono (by omega)))
      have HK := Lib.hid hk2
      have HZ := Lib.hid hb2.size
      have hw1 : wrap64 ((k : Int) + 1) = (k : Int) + 1 := wrap_id ⟨by omega, by have := HLN2.out; omega⟩
      have hw2 : IntKind.i64.wrap ((k : Int) + 1) = (k : Int) + 1 := wrapi_id ⟨by omega, by have := HLN2.out; omega⟩
      rw [hk] at HF
      clear hown' hgrow hv1 hv2 hr2 hk2 hb2 hb2' hb0' hb2'' hrow hv hnr
      gi_wp2
      refine ⟨(HK.out.trans (KeepsOthers.setCell _ _ _)).from _, ?_, HF.out⟩
      exact Nat.le_trans HZ.out (by simp [World.setCell])
  case done =>
    rintro D ys W hD rfl hSW hK
    have HSW := Lib.hid hSW
    have HK := Lib.hid hK
    obtain ⟨rv, hv, hrow⟩ := hSW.b1
    obtain ⟨sp, sc, rfl, _, _, _⟩ := own_SR hrow
    have cb0 := hSW.b0.cell
    have cb1 := hv.cell
    have fb0 := hSW.b0.frozen
    have fb1 := hv.frozen
    have HV1 := Lib.hid hrow
    clear hrow hSW hK hv
    go_wp2_with fail
    go_region
    generalize hU : World.drew _ = U
    have HU := Lib.hid (show Boxed U w.heap.size 9 (tx ((splitL 32 s).head?.getD [])) ∧ Boxed U (w.heap.size + 1) 23 (.slice sp ((splitL 32 s).length - 1) sc) ∧ SR U (.slice sp ((splitL 32 s).length - 1) sc) (splitL 32 s).tail ∧ U.heap[D]? = some (.deferred (some [])) ∧ OwnT U (w.heap.size + 1) (.slice sp ((splitL 32 s).length - 1) sc) (splitL 32 s).tail ∧ Below w.heap.size w U by
      have e1 : Value.slice sp ((splitL 32 s).length - 1) sc = .slice sp (splitL 32 s).tail.length sc := by simp
      have e2 : (splitL 32 s).headD [] = (splitL 32 s).head?.getD [] := by cases splitL 32 s <;> rfl
      rw [← hU, e1, ← e2]
      obtain ⟨_, hv, _⟩ := HSW.out.b1
      have hv2 : Boxed W (w.heap.size + 1) 23 (.slice sp (splitL 32 s).tail.length sc) := by
        simp [Boxed, World.cell?, World.frozen?] at cb1 hv ⊢
        rw [hv] at cb1 ⊢
        simpa using cb1
      have a0 := (HSW.out.b0.set (tx ((splitL 32 s).headD []))).other (B' := w.heap.size + 1) (by omega) (.slice sp (splitL 32 s).tail.length sc)
      have a1 := (hv2.other (B' := w.heap.size) (by omega) (tx ((splitL 32 s).headD [])))
      have a2 := (ownsRow_setCell_below HV1.out (a := ⟨w.heap.size, 0, none⟩) (by show w.heap.size < _; omega) (tx ((splitL 32 s).headD [])))
      have a3 := World.ownsRow.kept a2 (grownBy_setCell' _ (w.heap.size + 1) (.slice sp (splitL 32 s).tail.length sc)) (.inr (a1.not_row (by decide) a2).symm)
      have a4 := a3.drew
      have a5 := ((KeepsOthers.setCell W ⟨w.heap.size, 0, none⟩ (tx ((splitL 32 s).headD []))).trans (KeepsOthers.setCell _ ⟨w.heap.size + 1, 0, none⟩ (.slice sp (splitL 32 s).tail.length sc))).same D _ HK.out rfl
      exact ⟨a0, a1.set _, own_SR a4, a5, a4, ((HSW.out.bel.setCell (p := ⟨w.heap.size, 0, none⟩) (Nat.le_refl _) _).setCell (p := ⟨w.heap.size + 1, 0, none⟩) (by show w.heap.size ≤ w.heap.size + 1; omega) _).drew⟩)
    have e2 : (splitL 32 s).headD [] = (splitL 32 s).head?.getD [] := by cases splitL 32 s <;> rfl
    have hK' := HU.out.2.2.2.1
    clear hU cb0 cb1 fb0 fb1
    have cb0 := HU.out.1.cell
    have cb1 := HU.out.2.1.cell
    go_wp2_with fail
    refine ⟨by simp, .inl ⟨_, _, rfl, run_takeDeferred hK', ?_⟩⟩
    have HP := Lib.hid (show Boxed (U.putObj D (.deferred none)) w.heap.size 9 (tx ((splitL 32 s).head?.getD [])) ∧ Boxed (U.putObj D (.deferred none)) (w.heap.size + 1) 23 (.slice sp ((splitL 32 s).length - 1) sc) ∧ SR (U.putObj D (.deferred none)) (.slice sp ((splitL 32 s).length - 1) sc) (splitL 32 s).tail ∧ Below w.heap.size w (U.putObj D (.deferred none)) by
      have hlt := hD
      have hsz := HW1.out.2.2
      have h3 := ownsRow_putObj HU.out.2.2.2.2.1 (.deferred none) hK' rfl
      refine ⟨(World.putObj_heap_other (by omega)).trans HU.out.1, (World.putObj_heap_other (by omega)).trans HU.out.2.1, ?_, HU.out.2.2.2.2.2.trans (belowK_b (w := w) (Nat.le_refl _) U D _ _ (by omega) hK' rfl rfl)⟩
      exact own_SR h3)
    have cp0 := HP.out.1.cell
    have cp1 := HP.out.2.1.cell
    refine ⟨.tuple #[tx ((splitL 32 s).head?.getD []), .slice sp ((splitL 32 s).length - 1) sc], ?_, ?_⟩
    · simp [results, Tryd.results39, go_sem, cp0, cp1, asAddr]
    · rw [HQ.out]
      exact ⟨_, by rw [e2], HP.out.2.2.1, HP.out.2.2.2⟩
  case stop =>
    rintro D cc pre W _ _ h _
    exact h.elim
end Go.Proofs.YtdgplijnhkgeiaaDoor
