/- Layer 14: a configuration that is read. (By gen_takc.py.) -/
import Derived.Test.YtnikggdnlijkkaaTakB
import Derived.Deep.CutRange
import Derived.RegionCalls
import Derived.Test.YtnikggdnlijkkaaHldB
namespace Go.Proofs.Ytnikggdnlijkkaa
open Go.RowKit WordM
set_option linter.unusedVariables false
set_option linter.unusedSimpArgs false
theorem step_of {P : Program} {ops : Array Oper} {o : Oper} {a : Act} {w : World} {K : Act → World → Prop} {Q : Exit → Act → World → Prop} {E : Prop} (hgd : o.guard = none) (h : Oper.wp P o a w K Q) :
    if Region.wanted o (yielded ops a.tmps) = true then Oper.wp P o a w K Q else E := by
  rw [if_pos (by simp [Region.wanted, hgd])]; exact h
theorem EB.drew {w : World} {e : Nat} {lv rv : Value} (h : EB w e lv rv) : EB w.drew e lv rv := h
theorem EB.al {w : World} {e : Nat} {lv rv : Value} (h : EB w e lv rv) (o : Obj) : EB (w.alloc o) e lv rv := (Below.heap_alloc _ _ _ h.lt).trans h
theorem EB.st0 {w : World} {e : Nat} {lv rv v : Value} (h : EB w e lv rv) : EB (w.setCell ⟨e, 0, none⟩ v) e v rv := h.set0 v
theorem KE.drew {e : Nat} {a b : World} (h : KE e a b) : KE e a b.drew := ⟨h.os, h.tape, h.output, h.size, h.block⟩
theorem ble {N : Nat} {a b : World} (h : Below N a b) {e i : Nat} (he : N ≤ e) (v : Value) : Below N a (b.setCell ⟨e, i, none⟩ v) := h.setCell (p := ⟨e, i, none⟩) he v
/-- One box beside a reader. -/
structure CP (T : TypeId) (W0 w : World) (e b0 : Nat) (lv rv : Value) (A0 : Array Value) (V : World) : Prop where
  eb : EB V e lv rv
  ke : KE e w V
  bl : Below W0.heap.size W0 V
  r0 : V.heap[b0]? = some (.cells A0 T (0, 0))
  sz : V.heap.size = b0 + 1
  h0 : w.heap.size ≤ b0
  he : e < w.heap.size
  hW : W0.heap.size ≤ e
section
variable {T : TypeId} {W0 w V : World} {e b0 b1 : Nat} {lv rv v : Value} {A0 A1 : Array Value}
theorem CP.drew (h : CP T W0 w e b0 lv rv A0 V) : CP T W0 w e b0 lv rv A0 V.drew := ⟨h.eb.drew, h.ke.drew, h.bl.drew, h.r0, h.sz, h.h0, h.he, h.hW⟩
theorem CP.num (h : CP T W0 w e b0 lv rv A0 V) : CP T W0 w e b0 v rv A0 (V.setCell ⟨e, 0, none⟩ v) :=
  ⟨h.eb.set0 v, h.ke.set v, ble h.bl h.hW v, (heap_setCell_other V ⟨e, 0, none⟩ b0 v (by have := h.h0; have := h.he; show b0 ≠ e; omega)).trans h.r0, by have := h.sz; simp [World.setCell]; exact this, h.h0, h.he, h.hW⟩
theorem CP.al (h : CP T W0 w e b0 lv rv A0 V) : CW T W0 w e b0 (b0 + 1) lv rv A0 A1 (V.alloc (.cells A1 T)) :=
  ⟨h.eb.al _, h.ke.alloc _, h.bl.alloc (by have := h.bl.size; exact this) _, (Below.heap_alloc _ _ _ (by have := h.sz; omega)).trans h.r0, by rw [← h.sz]; exact heap_alloc_new V _, h.h0, by omega, h.he, h.hW⟩
theorem CW.drew (h : CW T W0 w e b0 b1 lv rv A0 A1 V) : CW T W0 w e b0 b1 lv rv A0 A1 V.drew := ⟨h.eb.drew, h.ke.drew, h.bl.drew, h.r0, h.r1, h.h0, h.h1, h.he, h.hW⟩
theorem CW.num1 (h : CW T W0 w e b0 b1 lv rv A0 A1 V) : CW T W0 w e b0 b1 v rv A0 A1 (V.setCell ⟨e, 0, none⟩ v) := h.num v
theorem CW.sto {i : Nat} (h : CW T W0 w e b0 b1 lv rv A0 A1 V) : CW T W0 w e b0 b1 lv rv A0 (A1.setIfInBounds i v) (V.setCell ⟨b1, i, none⟩ v) := h.st i v
theorem CW.below {V' : World} (h : CW T W0 w e b0 b1 lv rv A0 A1 V) (k : Below V.heap.size V V') : CW T W0 w e b0 b1 lv rv A0 A1 V' :=
  ⟨(k.block _ h.eb.lt).trans h.eb, h.ke.trans (.of_below k), below_on h.bl k, (k.block _ (Array.getElem?_eq_some_iff.1 h.r0).1).trans h.r0, (k.block _ (Array.getElem?_eq_some_iff.1 h.r1).1).trans h.r1, h.h0, h.h1, h.he, h.hW⟩
end
def fT (D : Nat → Int) : Int := numB D 1
def fS (D : Nat → Int) : Int := numB (dropD D 1) 2
def fK (D : Nat → Int) : Int := numB (dropD D 3) 8
def CutF (W0 : World) (D : Nat → Int) (n : Nat) (w : World) (e : Nat) (rv p3 : Value) (wc : World) : Prop :=
  p3 = .pointer (some ⟨w.heap.size + 1, 0, none⟩) ∧ ∃ l2, BR W0 l2 (n - 3) (dropD D 3) ∧ CW 26 W0 w e w.heap.size (w.heap.size + 1) l2 rv #[.int .i64 0, .int .i64 0, .int .u64 0] #[.int .i64 (fT D), .int .i64 (fS D), .int .u64 0] wc
set_option maxHeartbeats 4000000 in
theorem sconf (W0 : World) (D : Nat → Int) (n : Nat) (lv rv : Value) (e : Nat) (w : World) (hL : BR W0 lv n D) (hb : Below W0.heap.size W0 w) (hW : W0.heap.size ≤ e) (he : EB w e lv rv) (hn : 11 ≤ n) (hm : mayC (fT D) (fS D) (fK D) = true) (hD : BY D) :
    Calls Try.prog 14 #[.pointer (some ⟨e, 0, none⟩)] w fun E w' => E = .returned (.agg #[.int .i64 (fT D), .int .i64 (fS D), .int .u64 (fK D)]) ∧ ∃ lv', BR W0 lv' (n - 11) (dropD D 11) ∧ EB w' e lv' rv ∧ KE e w w' := by
  refine Calls.veil fun Q HQ => ?_
  have HL0 := Lib.hid hL
  have HE0 := Lib.hid (And.intro he (And.intro hb hW))
  have hel := he.lt
  clear hL he hb hW
  go_enter Try.func14, Try.ntmps14
  go_wp2_with fail
  generalize hV0 : World.alloc w _ = V0
  have C0 := Lib.hid (show CP 26 W0 w e w.heap.size lv rv #[.int .i64 0, .int .i64 0, .int .u64 0] V0 by
    rw [← hV0]
    exact ⟨HE0.out.1.al _, (KE.refl _ _).alloc _, HE0.out.2.1.alloc (by have := HE0.out.2.1.size; omega) _, heap_alloc_new w _, by simp, Nat.le_refl _, hel, HE0.out.2.2⟩)
  clear hV0
  have N1 : Hid (∀ V, EB V e lv rv → Below W0.heap.size W0 V → Calls Try.prog 23 #[.pointer (some ⟨e, 0, none⟩), .int .i64 1] V fun E w' => E = .returned (.int .u64 (numB D 1)) ∧ ∃ lv', BR W0 lv' (n - 1) (dropD D 1) ∧ w' = V.setCell ⟨e, 0, none⟩ lv') := Lib.hid (fun V h1 h2 => snumber W0 D n 1 lv rv e V HL0.out h2 h1 (by omega) (by decide) hD)
  obtain ⟨x1, x2⟩ := num_sm hD (m := 1) (by decide)
  have xi := wrapi_sm (numB D 1) x1 (by omega)
  have xw := wrap_sm (numB D 1) x1 (by omega)
  have N2 : Hid (∀ V l1, BR W0 l1 (n - 1) (dropD D 1) → EB V e l1 rv → Below W0.heap.size W0 V → Calls Try.prog 23 #[.pointer (some ⟨e, 0, none⟩), .int .i64 2] V fun E w' => E = .returned (.int .u64 (numB (dropD D 1) 2)) ∧ ∃ lv', BR W0 lv' (n - 1 - 2) (dropD (dropD D 1) 2) ∧ w' = V.setCell ⟨e, 0, none⟩ lv') := Lib.hid (fun V l1 h h1 h2 => snumber W0 (dropD D 1) (n - 1) 2 l1 rv e V h h2 h1 (by omega) (by decide) (hD.drop 1))
  obtain ⟨y1, y2⟩ := num_sm (hD.drop 1) (m := 2) (by decide)
  have yi := wrapi_sm (numB (dropD D 1) 2) y1 (by omega)
  have yw := wrap_sm (numB (dropD D 1) 2) y1 (by omega)
  have HT := Lib.hid (And.intro (show numB D 1 = fT D from rfl) (show numB (dropD D 1) 2 = fS D from rfl))
  rw [HT.out.1] at N1 x1 x2 xi xw
  rw [HT.out.2] at N2 y1 y2 yi yw
  generalize hx : fT D = x at *
  generalize hy : fS D = y at *
  have hx := Lib.hid hx
  have hy := Lib.hid hy
  go_cut [3] from 4 to 14 (fun p3 wc => CutF W0 D n w e rv p3 wc)
  case first =>
    refine wp_region_K (fun _ => True) 12 (by decide +kernel) ?_
    have C1 := C0.out.drew
    generalize World.drew V0 = V1 at *
    have hsz := C1.sz
    (refine wpAnyK_takeY (i := 0) (v := ?_) rfl (by decide +kernel) (by decide +kernel) (by decide +kernel) (by decide) (fun _ _ _ h => h) (Or.inl ⟨by rfl, ?_⟩) (.inr trivial) ?_; rotate_left; (intro w; go_simp); (try with_reducible rfl)); (try simp only [List.getElem_toArray, List.getElem_cons_succ, List.getElem_cons_zero, Act.put, List.setIfInBounds_toArray, List.set_cons_succ, List.set_cons_zero])
    (refine wpAnyK_takeY (i := 1) (v := ?_) rfl (by decide +kernel) (by decide +kernel) (by decide +kernel) (by decide) (fun _ _ _ h => h) (Or.inl ⟨by rfl, ?_⟩) (.inr trivial) ?_; rotate_left; (intro w; go_simp); (try with_reducible rfl)); (try simp only [List.getElem_toArray, List.getElem_cons_succ, List.getElem_cons_zero, Act.put, List.setIfInBounds_toArray, List.set_cons_succ, List.set_cons_zero])
    (refine wpAnyK_takeY (i := 2) (v := ?_) rfl (by decide +kernel) (by decide +kernel) (by decide +kernel) (by decide) (fun _ _ _ h => h) (Or.inl ⟨by rfl, ?_⟩) (.inr trivial) ?_; rotate_left; (intro w; go_simp); (try with_reducible rfl)); (try simp only [List.getElem_toArray, List.getElem_cons_succ, List.getElem_cons_zero, Act.put, List.setIfInBounds_toArray, List.set_cons_succ, List.set_cons_zero])
    (refine wpAnyK_takeY (i := 5) (v := ?_) rfl (by decide +kernel) (by decide +kernel) (by decide +kernel) (by decide) (fun _ _ _ h => h) (Or.inl ⟨by rfl, ?_⟩) (.inr trivial) ?_; rotate_left; (intro w; go_simp); (try with_reducible rfl)); (try simp only [List.getElem_toArray, List.getElem_cons_succ, List.getElem_cons_zero, Act.put, List.setIfInBounds_toArray, List.set_cons_succ, List.set_cons_zero])
    (refine wpAnyK_takeY (i := 6) (v := ?_) rfl (by decide +kernel) (by decide +kernel) (by decide +kernel) (by decide) (fun _ _ _ h => h) (Or.inl ⟨by rfl, ?_⟩) (.inr trivial) ?_; rotate_left; (intro w; go_simp); (try with_reducible rfl)); (try simp only [List.getElem_toArray, List.getElem_cons_succ, List.getElem_cons_zero, Act.put, List.setIfInBounds_toArray, List.set_cons_succ, List.set_cons_zero])
    (refine wpAnyK_takeY (i := 7) (v := ?_) rfl (by decide +kernel) (by decide +kernel) (by decide +kernel) (by decide) (fun _ _ _ h => h) (Or.inl ⟨by rfl, ?_⟩) (.inr trivial) ?_; rotate_left; (intro w; go_simp); (try with_reducible rfl)); (try simp only [List.getElem_toArray, List.getElem_cons_succ, List.getElem_cons_zero, Act.put, List.setIfInBounds_toArray, List.set_cons_succ, List.set_cons_zero])
    (refine wpAnyK_ready (rs := [3, 11]) (by decide +kernel) (by simp) ?_; refine (AllReadyK.cons rfl (fun K hK => ?_) (AllReadyK.cons rfl (fun K hK => ?_) AllReadyK.nil)))
    · refine step_of rfl ?_
      go_step
      refine (N1.out _ C1.eb C1.bl).mono ?_; rintro _ _ ⟨rfl, l1, hl1, rfl⟩
      refine hK _ _ (.inr trivial) ?_
      clear hK K
      (try simp only [List.getElem_toArray, List.getElem_cons_succ, List.getElem_cons_zero, Act.put, List.setIfInBounds_toArray, List.set_cons_succ, List.set_cons_zero])
      (refine wpAnyK_takeY (i := 4) (v := ?_) rfl (by decide +kernel) (by decide +kernel) (by decide +kernel) (by decide) (fun _ _ _ h => h) (Or.inl ⟨by rfl, ?_⟩) (.inr trivial) ?_; rotate_left; (intro w; go_simp); (try with_reducible rfl)); (try simp only [List.getElem_toArray, List.getElem_cons_succ, List.getElem_cons_zero, Act.put, List.setIfInBounds_toArray, List.set_cons_succ, List.set_cons_zero])
      (refine wpAnyK_ready (rs := [8, 11]) (by decide +kernel) (by simp) ?_; refine (AllReadyK.cons rfl (fun K hK => ?_) (AllReadyK.cons rfl (fun K hK => ?_) AllReadyK.nil)))
      · refine step_of rfl ?_
        go_step
        refine (N2.out _ l1 hl1 (C1.num (v := l1)).eb (C1.num (v := l1)).bl).mono ?_; rintro _ _ ⟨rfl, l2, hl2, rfl⟩
        refine hK _ _ (.inr trivial) ?_
        clear hK K
        (try simp only [List.getElem_toArray, List.getElem_cons_succ, List.getElem_cons_zero, Act.put, List.setIfInBounds_toArray, List.set_cons_succ, List.set_cons_zero])
        (refine wpAnyK_takeY (i := 9) (v := ?_) rfl (by decide +kernel) (by decide +kernel) (by decide +kernel) (by decide) (fun _ _ _ h => h) (Or.inl ⟨by rfl, ?_⟩) (.inr trivial) ?_; rotate_left; (intro w; go_simp); (try with_reducible rfl)); (try simp only [List.getElem_toArray, List.getElem_cons_succ, List.getElem_cons_zero, Act.put, List.setIfInBounds_toArray, List.set_cons_succ, List.set_cons_zero])
        (refine wpAnyK_takeY (i := 10) (v := ?_) rfl (by decide +kernel) (by decide +kernel) (by decide +kernel) (by decide) (fun _ _ _ h => h) (Or.inl ⟨by rfl, ?_⟩) (.inr trivial) ?_; rotate_left; (intro w; go_simp); (try with_reducible rfl)); (try simp only [List.getElem_toArray, List.getElem_cons_succ, List.getElem_cons_zero, Act.put, List.setIfInBounds_toArray, List.set_cons_succ, List.set_cons_zero])
        (refine wpAnyK_ready (rs := [11]) (by decide +kernel) (by simp) ?_; refine (AllReadyK.cons rfl (fun K hK => ?_) AllReadyK.nil))
        refine step_of rfl ?_
        go_step
        refine hK _ _ (.inr trivial) ?_
        clear hK K
        (try simp only [List.getElem_toArray, List.getElem_cons_succ, List.getElem_cons_zero, Act.put, List.setIfInBounds_toArray, List.set_cons_succ, List.set_cons_zero])
        (refine wpAnyK_ready (rs := [12]) (by decide +kernel) (by simp) ?_; refine (AllReadyK.cons rfl (fun K hK => ?_) AllReadyK.nil))
        refine step_of rfl ?_
        go_step
        refine hK _ _ (.inl rfl) ?_
        clear hK K
        refine wpAnyK_done (by decide +kernel) ?_ _
        generalize hwf : World.alloc _ _ = wf
        have CG := ((C1.num (v := l1)).num (v := l2)).al (A1 := #[.int .i64 x, .int .i64 y, .int .u64 0])
        have hfin : CutF W0 D n w e rv (.pointer (some ⟨w.heap.size + 1, 0, none⟩)) wf := ⟨rfl, l2, hl2.next rfl, by rw [hx.out, hy.out, ← hwf]; exact CG⟩
        have HFIN := Lib.hid hfin
        clear hfin CG hwf
        go_wp2_with fail
        go_meet
        case rel => exact HFIN.out
      · refine step_of rfl ?_
        go_step
        refine hK _ _ (.inr trivial) ?_
        clear hK K
        (try simp only [List.getElem_toArray, List.getElem_cons_succ, List.getElem_cons_zero, Act.put, List.setIfInBounds_toArray, List.set_cons_succ, List.set_cons_zero])
        (refine wpAnyK_ready (rs := [8]) (by decide +kernel) (by simp) ?_; refine (AllReadyK.cons rfl (fun K hK => ?_) AllReadyK.nil))
        refine step_of rfl ?_
        go_step
        refine (N2.out _ l1 hl1 ((C1.num (v := l1)).al (A1 := #[.int .i64 0, .int .i64 0, .int .u64 0])).eb ((C1.num (v := l1)).al (A1 := #[.int .i64 0, .int .i64 0, .int .u64 0])).bl).mono ?_; rintro _ _ ⟨rfl, l2, hl2, rfl⟩
        refine hK _ _ (.inr trivial) ?_
        clear hK K
        (try simp only [List.getElem_toArray, List.getElem_cons_succ, List.getElem_cons_zero, Act.put, List.setIfInBounds_toArray, List.set_cons_succ, List.set_cons_zero])
        (refine wpAnyK_takeY (i := 9) (v := ?_) rfl (by decide +kernel) (by decide +kernel) (by decide +kernel) (by decide) (fun _ _ _ h => h) (Or.inl ⟨by rfl, ?_⟩) (.inr trivial) ?_; rotate_left; (intro w; go_simp); (try with_reducible rfl)); (try simp only [List.getElem_toArray, List.getElem_cons_succ, List.getElem_cons_zero, Act.put, List.setIfInBounds_toArray, List.set_cons_succ, List.set_cons_zero])
        (refine wpAnyK_takeY (i := 10) (v := ?_) rfl (by decide +kernel) (by decide +kernel) (by decide +kernel) (by decide) (fun _ _ _ h => h) (Or.inl ⟨by rfl, ?_⟩) (.inr trivial) ?_; rotate_left; (intro w; go_simp); (try with_reducible rfl)); (try simp only [List.getElem_toArray, List.getElem_cons_succ, List.getElem_cons_zero, Act.put, List.setIfInBounds_toArray, List.set_cons_succ, List.set_cons_zero])
        (try simp only [List.getElem_toArray, List.getElem_cons_succ, List.getElem_cons_zero, Act.put, List.setIfInBounds_toArray, List.set_cons_succ, List.set_cons_zero])
        (refine wpAnyK_ready (rs := [12]) (by decide +kernel) (by simp) ?_; refine (AllReadyK.cons rfl (fun K hK => ?_) AllReadyK.nil))
        refine step_of rfl ?_
        go_step
        refine hK _ _ (.inl rfl) ?_
        clear hK K
        refine wpAnyK_done (by decide +kernel) ?_ _
        generalize hwf : World.alloc _ _ = wf
        have CG := ((C1.num (v := l1)).num (v := l2)).al (A1 := #[.int .i64 x, .int .i64 y, .int .u64 0])
        have hfin : CutF W0 D n w e rv (.pointer (some ⟨w.heap.size + 1, 0, none⟩)) wf := ⟨rfl, l2, hl2.next rfl, by rw [hx.out, hy.out, ← hwf]; exact CG⟩
        have HFIN := Lib.hid hfin
        clear hfin CG hwf
        go_wp2_with fail
        go_meet
        case rel => exact HFIN.out
    · refine step_of rfl ?_
      go_step
      refine hK _ _ (.inr trivial) ?_
      clear hK K
      (try simp only [List.getElem_toArray, List.getElem_cons_succ, List.getElem_cons_zero, Act.put, List.setIfInBounds_toArray, List.set_cons_succ, List.set_cons_zero])
      (refine wpAnyK_ready (rs := [3]) (by decide +kernel) (by simp) ?_; refine (AllReadyK.cons rfl (fun K hK => ?_) AllReadyK.nil))
      refine step_of rfl ?_
      go_step
      refine (N1.out _ (C1.al (A1 := #[.int .i64 0, .int .i64 0, .int .u64 0])).eb (C1.al (A1 := #[.int .i64 0, .int .i64 0, .int .u64 0])).bl).mono ?_; rintro _ _ ⟨rfl, l1, hl1, rfl⟩
      refine hK _ _ (.inr trivial) ?_
      clear hK K
      (try simp only [List.getElem_toArray, List.getElem_cons_succ, List.getElem_cons_zero, Act.put, List.setIfInBounds_toArray, List.set_cons_succ, List.set_cons_zero])
      (refine wpAnyK_takeY (i := 4) (v := ?_) rfl (by decide +kernel) (by decide +kernel) (by decide +kernel) (by decide) (fun _ _ _ h => h) (Or.inl ⟨by rfl, ?_⟩) (.inr trivial) ?_; rotate_left; (intro w; go_simp); (try with_reducible rfl)); (try simp only [List.getElem_toArray, List.getElem_cons_succ, List.getElem_cons_zero, Act.put, List.setIfInBounds_toArray, List.set_cons_succ, List.set_cons_zero])
      (refine wpAnyK_ready (rs := [8]) (by decide +kernel) (by simp) ?_; refine (AllReadyK.cons rfl (fun K hK => ?_) AllReadyK.nil))
      refine step_of rfl ?_
      go_step
      refine (N2.out _ l1 hl1 ((C1.num (v := l1)).al (A1 := #[.int .i64 0, .int .i64 0, .int .u64 0])).eb ((C1.num (v := l1)).al (A1 := #[.int .i64 0, .int .i64 0, .int .u64 0])).bl).mono ?_; rintro _ _ ⟨rfl, l2, hl2, rfl⟩
      refine hK _ _ (.inr trivial) ?_
      clear hK K
      (try simp only [List.getElem_toArray, List.getElem_cons_succ, List.getElem_cons_zero, Act.put, List.setIfInBounds_toArray, List.set_cons_succ, List.set_cons_zero])
      (refine wpAnyK_takeY (i := 9) (v := ?_) rfl (by decide +kernel) (by decide +kernel) (by decide +kernel) (by decide) (fun _ _ _ h => h) (Or.inl ⟨by rfl, ?_⟩) (.inr trivial) ?_; rotate_left; (intro w; go_simp); (try with_reducible rfl)); (try simp only [List.getElem_toArray, List.getElem_cons_succ, List.getElem_cons_zero, Act.put, List.setIfInBounds_toArray, List.set_cons_succ, List.set_cons_zero])
      (refine wpAnyK_takeY (i := 10) (v := ?_) rfl (by decide +kernel) (by decide +kernel) (by decide +kernel) (by decide) (fun _ _ _ h => h) (Or.inl ⟨by rfl, ?_⟩) (.inr trivial) ?_; rotate_left; (intro w; go_simp); (try with_reducible rfl)); (try simp only [List.getElem_toArray, List.getElem_cons_succ, List.getElem_cons_zero, Act.put, List.setIfInBounds_toArray, List.set_cons_succ, List.set_cons_zero])
      (try simp only [List.getElem_toArray, List.getElem_cons_succ, List.getElem_cons_zero, Act.put, List.setIfInBounds_toArray, List.set_cons_succ, List.set_cons_zero])
      (refine wpAnyK_ready (rs := [12]) (by decide +kernel) (by simp) ?_; refine (AllReadyK.cons rfl (fun K hK => ?_) AllReadyK.nil))
      refine step_of rfl ?_
      go_step
      refine hK _ _ (.inl rfl) ?_
      clear hK K
      refine wpAnyK_done (by decide +kernel) ?_ _
      generalize hwf : World.alloc _ _ = wf
      have CG := ((C1.num (v := l1)).num (v := l2)).al (A1 := #[.int .i64 x, .int .i64 y, .int .u64 0])
      have hfin : CutF W0 D n w e rv (.pointer (some ⟨w.heap.size + 1, 0, none⟩)) wf := ⟨rfl, l2, hl2.next rfl, by rw [hx.out, hy.out, ← hwf]; exact CG⟩
      have HFIN := Lib.hid hfin
      clear hfin CG hwf
      go_wp2_with fail
      go_meet
      case rel => exact HFIN.out
  case rest =>
    obtain ⟨rfl, l2, hl2, C2⟩ := hcut
    rw [hx.out, hy.out] at C2
    have HL2 := Lib.hid hl2
    have C2 := Lib.hid C2
    clear hl2 N1 N2
    go_wp2_with fail
    refine (snumber W0 (dropD D 3) (n - 3) 8 l2 rv e wc HL2.out C2.out.bl C2.out.eb (by omega) (by decide) (hD.drop 3)).mono ?_; rintro _ w3 ⟨rfl, l3, hl3, hw3⟩
    have HL3 := Lib.hid (BR.next hl3 (c := 11) rfl)
    have C3 := C2.out.num l3
    rw [← hw3] at C3
    clear hw3 hl3
    obtain ⟨z1, z2⟩ := num_max (hD.drop 3) (m := 8) (by decide)
    have HK := Lib.hid (show numB (dropD D 3) 8 = fK D from rfl)
    rw [HK.out] at z1 z2 ⊢
    generalize hz : fK D = z at *
    have hz := Lib.hid hz
    have PM := Lib.hid (fun V => pmay_calls x y z V)
    rw [hm] at PM
    have d0 := C3.c1 0 _ rfl
    have d1 := C3.c1 1 _ rfl
    have d2 := C3.c1 2 _ rfl
    have f := C3.f1
    go_wp2_with fail
    generalize hU : World.setCell w3 _ _ = U
    have C4 := C3.st 2 (.int .u64 z)
    rw [hU] at C4
    clear hU d0 d1 d2 f C3
    refine (PM.out U).mono ?_; rintro _ w4 ⟨rfl, hb4⟩
    have C5 := C4.below hb4
    clear hb4 C4
    have d0 := C5.c1 0 _ rfl
    have d1 := C5.c1 1 _ rfl
    have d2 := C5.c1 2 _ rfl
    have g0 := C5.c0 0 _ rfl
    have g1 := C5.c0 1 _ rfl
    have g2 := C5.c0 2 _ rfl
    have f0 := C5.f0
    go_wp2_with fail
    refine bodyPost_ret (v := .agg #[.int .i64 x, .int .i64 y, .int .u64 z]) (by simp [results, Try.results14, go_sem, d0, d1, d2, g0, g1, g2]) rfl ?_
    rw [HQ.out]
    have CF := ((C5.st0 0 (.int .i64 x)).st0 1 (.int .i64 y)).st0 2 (.int .u64 z)
    exact ⟨rfl, _, HL3.out, CF.eb, CF.ke⟩
set_option maxHeartbeats 4000000 in
theorem sconf_bad (W0 : World) (D : Nat → Int) (n : Nat) (lv rv : Value) (e : Nat) (w : World) (hL : BR W0 lv n D) (hb : Below W0.heap.size W0 w) (hW : W0.heap.size ≤ e) (he : EB w e lv rv) (hn : 11 ≤ n) (hm : mayC (fT D) (fS D) (fK D) = false) (hD : BY D) :
    Calls Try.prog 14 #[.pointer (some ⟨e, 0, none⟩)] w fun E w' => E = .panicked [{ v := .iface 43 (.agg #[.int .i64 2]), recovered := false }] ∧ KE e w w' := by
  refine Calls.veil fun Q HQ => ?_
  have HL0 := Lib.hid hL
  have HE0 := Lib.hid (And.intro he (And.intro hb hW))
  have hel := he.lt
  clear hL he hb hW
  go_enter Try.func14, Try.ntmps14
  go_wp2_with fail
  generalize hV0 : World.alloc w _ = V0
  have C0 := Lib.hid (show CP 26 W0 w e w.heap.size lv rv #[.int .i64 0, .int .i64 0, .int .u64 0] V0 by
    rw [← hV0]
    exact ⟨HE0.out.1.al _, (KE.refl _ _).alloc _, HE0.out.2.1.alloc (by have := HE0.out.2.1.size; omega) _, heap_alloc_new w _, by simp, Nat.le_refl _, hel, HE0.out.2.2⟩)
  clear hV0
  have N1 : Hid (∀ V, EB V e lv rv → Below W0.heap.size W0 V → Calls Try.prog 23 #[.pointer (some ⟨e, 0, none⟩), .int .i64 1] V fun E w' => E = .returned (.int .u64 (numB D 1)) ∧ ∃ lv', BR W0 lv' (n - 1) (dropD D 1) ∧ w' = V.setCell ⟨e, 0, none⟩ lv') := Lib.hid (fun V h1 h2 => snumber W0 D n 1 lv rv e V HL0.out h2 h1 (by omega) (by decide) hD)
  obtain ⟨x1, x2⟩ := num_sm hD (m := 1) (by decide)
  have xi := wrapi_sm (numB D 1) x1 (by omega)
  have xw := wrap_sm (numB D 1) x1 (by omega)
  have N2 : Hid (∀ V l1, BR W0 l1 (n - 1) (dropD D 1) → EB V e l1 rv → Below W0.heap.size W0 V → Calls Try.prog 23 #[.pointer (some ⟨e, 0, none⟩), .int .i64 2] V fun E w' => E = .returned (.int .u64 (numB (dropD D 1) 2)) ∧ ∃ lv', BR W0 lv' (n - 1 - 2) (dropD (dropD D 1) 2) ∧ w' = V.setCell ⟨e, 0, none⟩ lv') := Lib.hid (fun V l1 h h1 h2 => snumber W0 (dropD D 1) (n - 1) 2 l1 rv e V h h2 h1 (by omega) (by decide) (hD.drop 1))
  obtain ⟨y1, y2⟩ := num_sm (hD.drop 1) (m := 2) (by decide)
  have yi := wrapi_sm (numB (dropD D 1) 2) y1 (by omega)
  have yw := wrap_sm (numB (dropD D 1) 2) y1 (by omega)
  have HT := Lib.hid (And.intro (show numB D 1 = fT D from rfl) (show numB (dropD D 1) 2 = fS D from rfl))
  rw [HT.out.1] at N1 x1 x2 xi xw
  rw [HT.out.2] at N2 y1 y2 yi yw
  generalize hx : fT D = x at *
  generalize hy : fS D = y at *
  have hx := Lib.hid hx
  have hy := Lib.hid hy
  go_cut [3] from 4 to 14 (fun p3 wc => CutF W0 D n w e rv p3 wc)
  case first =>
    refine wp_region_K (fun _ => True) 12 (by decide +kernel) ?_
    have C1 := C0.out.drew
    generalize World.drew V0 = V1 at *
    have hsz := C1.sz
    (refine wpAnyK_takeY (i := 0) (v := ?_) rfl (by decide +kernel) (by decide +kernel) (by decide +kernel) (by decide) (fun _ _ _ h => h) (Or.inl ⟨by rfl, ?_⟩) (.inr trivial) ?_; rotate_left; (intro w; go_simp); (try with_reducible rfl)); (try simp only [List.getElem_toArray, List.getElem_cons_succ, List.getElem_cons_zero, Act.put, List.setIfInBounds_toArray, List.set_cons_succ, List.set_cons_zero])
    (refine wpAnyK_takeY (i := 1) (v := ?_) rfl (by decide +kernel) (by decide +kernel) (by decide +kernel) (by decide) (fun _ _ _ h => h) (Or.inl ⟨by rfl, ?_⟩) (.inr trivial) ?_; rotate_left; (intro w; go_simp); (try with_reducible rfl)); (try simp only [List.getElem_toArray, List.getElem_cons_succ, List.getElem_cons_zero, Act.put, List.setIfInBounds_toArray, List.set_cons_succ, List.set_cons_zero])
    (refine wpAnyK_takeY (i := 2) (v := ?_) rfl (by decide +kernel) (by decide +kernel) (by decide +kernel) (by decide) (fun _ _ _ h => h) (Or.inl ⟨by rfl, ?_⟩) (.inr trivial) ?_; rotate_left; (intro w; go_simp); (try with_reducible rfl)); (try simp only [List.getElem_toArray, List.getElem_cons_succ, List.getElem_cons_zero, Act.put, List.setIfInBounds_toArray, List.set_cons_succ, List.set_cons_zero])
    (refine wpAnyK_takeY (i := 5) (v := ?_) rfl (by decide +kernel) (by decide +kernel) (by decide +kernel) (by decide) (fun _ _ _ h => h) (Or.inl ⟨by rfl, ?_⟩) (.inr trivial) ?_; rotate_left; (intro w; go_simp); (try with_reducible rfl)); (try simp only [List.getElem_toArray, List.getElem_cons_succ, List.getElem_cons_zero, Act.put, List.setIfInBounds_toArray, List.set_cons_succ, List.set_cons_zero])
    (refine wpAnyK_takeY (i := 6) (v := ?_) rfl (by decide +kernel) (by decide +kernel) (by decide +kernel) (by decide) (fun _ _ _ h => h) (Or.inl ⟨by rfl, ?_⟩) (.inr trivial) ?_; rotate_left; (intro w; go_simp); (try with_reducible rfl)); (try simp only [List.getElem_toArray, List.getElem_cons_succ, List.getElem_cons_zero, Act.put, List.setIfInBounds_toArray, List.set_cons_succ, List.set_cons_zero])
    (refine wpAnyK_takeY (i := 7) (v := ?_) rfl (by decide +kernel) (by decide +kernel) (by decide +kernel) (by decide) (fun _ _ _ h => h) (Or.inl ⟨by rfl, ?_⟩) (.inr trivial) ?_; rotate_left; (intro w; go_simp); (try with_reducible rfl)); (try simp only [List.getElem_toArray, List.getElem_cons_succ, List.getElem_cons_zero, Act.put, List.setIfInBounds_toArray, List.set_cons_succ, List.set_cons_zero])
    (refine wpAnyK_ready (rs := [3, 11]) (by decide +kernel) (by simp) ?_; refine (AllReadyK.cons rfl (fun K hK => ?_) (AllReadyK.cons rfl (fun K hK => ?_) AllReadyK.nil)))
    · refine step_of rfl ?_
      go_step
      refine (N1.out _ C1.eb C1.bl).mono ?_; rintro _ _ ⟨rfl, l1, hl1, rfl⟩
      refine hK _ _ (.inr trivial) ?_
      clear hK K
      (try simp only [List.getElem_toArray, List.getElem_cons_succ, List.getElem_cons_zero, Act.put, List.setIfInBounds_toArray, List.set_cons_succ, List.set_cons_zero])
      (refine wpAnyK_takeY (i := 4) (v := ?_) rfl (by decide +kernel) (by decide +kernel) (by decide +kernel) (by decide) (fun _ _ _ h => h) (Or.inl ⟨by rfl, ?_⟩) (.inr trivial) ?_; rotate_left; (intro w; go_simp); (try with_reducible rfl)); (try simp only [List.getElem_toArray, List.getElem_cons_succ, List.getElem_cons_zero, Act.put, List.setIfInBounds_toArray, List.set_cons_succ, List.set_cons_zero])
      (refine wpAnyK_ready (rs := [8, 11]) (by decide +kernel) (by simp) ?_; refine (AllReadyK.cons rfl (fun K hK => ?_) (AllReadyK.cons rfl (fun K hK => ?_) AllReadyK.nil)))
      · refine step_of rfl ?_
        go_step
        refine (N2.out _ l1 hl1 (C1.num (v := l1)).eb (C1.num (v := l1)).bl).mono ?_; rintro _ _ ⟨rfl, l2, hl2, rfl⟩
        refine hK _ _ (.inr trivial) ?_
        clear hK K
        (try simp only [List.getElem_toArray, List.getElem_cons_succ, List.getElem_cons_zero, Act.put, List.setIfInBounds_toArray, List.set_cons_succ, List.set_cons_zero])
        (refine wpAnyK_takeY (i := 9) (v := ?_) rfl (by decide +kernel) (by decide +kernel) (by decide +kernel) (by decide) (fun _ _ _ h => h) (Or.inl ⟨by rfl, ?_⟩) (.inr trivial) ?_; rotate_left; (intro w; go_simp); (try with_reducible rfl)); (try simp only [List.getElem_toArray, List.getElem_cons_succ, List.getElem_cons_zero, Act.put, List.setIfInBounds_toArray, List.set_cons_succ, List.set_cons_zero])
        (refine wpAnyK_takeY (i := 10) (v := ?_) rfl (by decide +kernel) (by decide +kernel) (by decide +kernel) (by decide) (fun _ _ _ h => h) (Or.inl ⟨by rfl, ?_⟩) (.inr trivial) ?_; rotate_left; (intro w; go_simp); (try with_reducible rfl)); (try simp only [List.getElem_toArray, List.getElem_cons_succ, List.getElem_cons_zero, Act.put, List.setIfInBounds_toArray, List.set_cons_succ, List.set_cons_zero])
        (refine wpAnyK_ready (rs := [11]) (by decide +kernel) (by simp) ?_; refine (AllReadyK.cons rfl (fun K hK => ?_) AllReadyK.nil))
        refine step_of rfl ?_
        go_step
        refine hK _ _ (.inr trivial) ?_
        clear hK K
        (try simp only [List.getElem_toArray, List.getElem_cons_succ, List.getElem_cons_zero, Act.put, List.setIfInBounds_toArray, List.set_cons_succ, List.set_cons_zero])
        (refine wpAnyK_ready (rs := [12]) (by decide +kernel) (by simp) ?_; refine (AllReadyK.cons rfl (fun K hK => ?_) AllReadyK.nil))
        refine step_of rfl ?_
        go_step
        refine hK _ _ (.inl rfl) ?_
        clear hK K
        refine wpAnyK_done (by decide +kernel) ?_ _
        generalize hwf : World.alloc _ _ = wf
        have CG := ((C1.num (v := l1)).num (v := l2)).al (A1 := #[.int .i64 x, .int .i64 y, .int .u64 0])
        have hfin : CutF W0 D n w e rv (.pointer (some ⟨w.heap.size + 1, 0, none⟩)) wf := ⟨rfl, l2, hl2.next rfl, by rw [hx.out, hy.out, ← hwf]; exact CG⟩
        have HFIN := Lib.hid hfin
        clear hfin CG hwf
        go_wp2_with fail
        go_meet
        case rel => exact HFIN.out
      · refine step_of rfl ?_
        go_step
        refine hK _ _ (.inr trivial) ?_
        clear hK K
        (try simp only [List.getElem_toArray, List.getElem_cons_succ, List.getElem_cons_zero, Act.put, List.setIfInBounds_toArray, List.set_cons_succ, List.set_cons_zero])
        (refine wpAnyK_ready (rs := [8]) (by decide +kernel) (by simp) ?_; refine (AllReadyK.cons rfl (fun K hK => ?_) AllReadyK.nil))
        refine step_of rfl ?_
        go_step
        refine (N2.out _ l1 hl1 ((C1.num (v := l1)).al (A1 := #[.int .i64 0, .int .i64 0, .int .u64 0])).eb ((C1.num (v := l1)).al (A1 := #[.int .i64 0, .int .i64 0, .int .u64 0])).bl).mono ?_; rintro _ _ ⟨rfl, l2, hl2, rfl⟩
        refine hK _ _ (.inr trivial) ?_
        clear hK K
        (try simp only [List.getElem_toArray, List.getElem_cons_succ, List.getElem_cons_zero, Act.put, List.setIfInBounds_toArray, List.set_cons_succ, List.set_cons_zero])
        (refine wpAnyK_takeY (i := 9) (v := ?_) rfl (by decide +kernel) (by decide +kernel) (by decide +kernel) (by decide) (fun _ _ _ h => h) (Or.inl ⟨by rfl, ?_⟩) (.inr trivial) ?_; rotate_left; (intro w; go_simp); (try with_reducible rfl)); (try simp only [List.getElem_toArray, List.getElem_cons_succ, List.getElem_cons_zero, Act.put, List.setIfInBounds_toArray, List.set_cons_succ, List.set_cons_zero])
        (refine wpAnyK_takeY (i := 10) (v := ?_) rfl (by decide +kernel) (by decide +kernel) (by decide +kernel) (by decide) (fun _ _ _ h => h) (Or.inl ⟨by rfl, ?_⟩) (.inr trivial) ?_; rotate_left; (intro w; go_simp); (try with_reducible rfl)); (try simp only [List.getElem_toArray, List.getElem_cons_succ, List.getElem_cons_zero, Act.put, List.setIfInBounds_toArray, List.set_cons_succ, List.set_cons_zero])
        (try simp only [List.getElem_toArray, List.getElem_cons_succ, List.getElem_cons_zero, Act.put, List.setIfInBounds_toArray, List.set_cons_succ, List.set_cons_zero])
        (refine wpAnyK_ready (rs := [12]) (by decide +kernel) (by simp) ?_; refine (AllReadyK.cons rfl (fun K hK => ?_) AllReadyK.nil))
        refine step_of rfl ?_
        go_step
        refine hK _ _ (.inl rfl) ?_
        clear hK K
        refine wpAnyK_done (by decide +kernel) ?_ _
        generalize hwf : World.alloc _ _ = wf
        have CG := ((C1.num (v := l1)).num (v := l2)).al (A1 := #[.int .i64 x, .int .i64 y, .int .u64 0])
        have hfin : CutF W0 D n w e rv (.pointer (some ⟨w.heap.size + 1, 0, none⟩)) wf := ⟨rfl, l2, hl2.next rfl, by rw [hx.out, hy.out, ← hwf]; exact CG⟩
        have HFIN := Lib.hid hfin
        clear hfin CG hwf
        go_wp2_with fail
        go_meet
        case rel => exact HFIN.out
    · refine step_of rfl ?_
      go_step
      refine hK _ _ (.inr trivial) ?_
      clear hK K
      (try simp only [List.getElem_toArray, List.getElem_cons_succ, List.getElem_cons_zero, Act.put, List.setIfInBounds_toArray, List.set_cons_succ, List.set_cons_zero])
      (refine wpAnyK_ready (rs := [3]) (by decide +kernel) (by simp) ?_; refine (AllReadyK.cons rfl (fun K hK => ?_) AllReadyK.nil))
      refine step_of rfl ?_
      go_step
      refine (N1.out _ (C1.al (A1 := #[.int .i64 0, .int .i64 0, .int .u64 0])).eb (C1.al (A1 := #[.int .i64 0, .int .i64 0, .int .u64 0])).bl).mono ?_; rintro _ _ ⟨rfl, l1, hl1, rfl⟩
      refine hK _ _ (.inr trivial) ?_
      clear hK K
      (try simp only [List.getElem_toArray, List.getElem_cons_succ, List.getElem_cons_zero, Act.put, List.setIfInBounds_toArray, List.set_cons_succ, List.set_cons_zero])
      (refine wpAnyK_takeY (i := 4) (v := ?_) rfl (by decide +kernel) (by decide +kernel) (by decide +kernel) (by decide) (fun _ _ _ h => h) (Or.inl ⟨by rfl, ?_⟩) (.inr trivial) ?_; rotate_left; (intro w; go_simp); (try with_reducible rfl)); (try simp only [List.getElem_toArray, List.getElem_cons_succ, List.getElem_cons_zero, Act.put, List.setIfInBounds_toArray, List.set_cons_succ, List.set_cons_zero])
      (refine wpAnyK_ready (rs := [8]) (by decide +kernel) (by simp) ?_; refine (AllReadyK.cons rfl (fun K hK => ?_) AllReadyK.nil))
      refine step_of rfl ?_
      go_step
      refine (N2.out _ l1 hl1 ((C1.num (v := l1)).al (A1 := #[.int .i64 0, .int .i64 0, .int .u64 0])).eb ((C1.num (v := l1)).al (A1 := #[.int .i64 0, .int .i64 0, .int .u64 0])).bl).mono ?_; rintro _ _ ⟨rfl, l2, hl2, rfl⟩
      refine hK _ _ (.inr trivial) ?_
      clear hK K
      (try simp only [List.getElem_toArray, List.getElem_cons_succ, List.getElem_cons_zero, Act.put, List.setIfInBounds_toArray, List.set_cons_succ, List.set_cons_zero])
      (refine wpAnyK_takeY (i := 9) (v := ?_) rfl (by decide +kernel) (by decide +kernel) (by decide +kernel) (by decide) (fun _ _ _ h => h) (Or.inl ⟨by rfl, ?_⟩) (.inr trivial) ?_; rotate_left; (intro w; go_simp); (try with_reducible rfl)); (try simp only [List.getElem_toArray, List.getElem_cons_succ, List.getElem_cons_zero, Act.put, List.setIfInBounds_toArray, List.set_cons_succ, List.set_cons_zero])
      (refine wpAnyK_takeY (i := 10) (v := ?_) rfl (by decide +kernel) (by decide +kernel) (by decide +kernel) (by decide) (fun _ _ _ h => h) (Or.inl ⟨by rfl, ?_⟩) (.inr trivial) ?_; rotate_left; (intro w; go_simp); (try with_reducible rfl)); (try simp only [List.getElem_toArray, List.getElem_cons_succ, List.getElem_cons_zero, Act.put, List.setIfInBounds_toArray, List.set_cons_succ, List.set_cons_zero])
      (try simp only [List.getElem_toArray, List.getElem_cons_succ, List.getElem_cons_zero, Act.put, List.setIfInBounds_toArray, List.set_cons_succ, List.set_cons_zero])
      (refine wpAnyK_ready (rs := [12]) (by decide +kernel) (by simp) ?_; refine (AllReadyK.cons rfl (fun K hK => ?_) AllReadyK.nil))
      refine step_of rfl ?_
      go_step
      refine hK _ _ (.inl rfl) ?_
      clear hK K
      refine wpAnyK_done (by decide +kernel) ?_ _
      generalize hwf : World.alloc _ _ = wf
      have CG := ((C1.num (v := l1)).num (v := l2)).al (A1 := #[.int .i64 x, .int .i64 y, .int .u64 0])
      have hfin : CutF W0 D n w e rv (.pointer (some ⟨w.heap.size + 1, 0, none⟩)) wf := ⟨rfl, l2, hl2.next rfl, by rw [hx.out, hy.out, ← hwf]; exact CG⟩
      have HFIN := Lib.hid hfin
      clear hfin CG hwf
      go_wp2_with fail
      go_meet
      case rel => exact HFIN.out
  case rest =>
    obtain ⟨rfl, l2, hl2, C2⟩ := hcut
    rw [hx.out, hy.out] at C2
    have HL2 := Lib.hid hl2
    have C2 := Lib.hid C2
    clear hl2 N1 N2
    go_wp2_with fail
    refine (snumber W0 (dropD D 3) (n - 3) 8 l2 rv e wc HL2.out C2.out.bl C2.out.eb (by omega) (by decide) (hD.drop 3)).mono ?_; rintro _ w3 ⟨rfl, l3, hl3, hw3⟩
    have HL3 := Lib.hid (BR.next hl3 (c := 11) rfl)
    have C3 := C2.out.num l3
    rw [← hw3] at C3
    clear hw3 hl3
    obtain ⟨z1, z2⟩ := num_max (hD.drop 3) (m := 8) (by decide)
    have HK := Lib.hid (show numB (dropD D 3) 8 = fK D from rfl)
    rw [HK.out] at z1 z2 ⊢
    generalize hz : fK D = z at *
    have hz := Lib.hid hz
    have PM := Lib.hid (fun V => pmay_calls x y z V)
    rw [hm] at PM
    have d0 := C3.c1 0 _ rfl
    have d1 := C3.c1 1 _ rfl
    have d2 := C3.c1 2 _ rfl
    have f := C3.f1
    go_wp2_with fail
    generalize hU : World.setCell w3 _ _ = U
    have C4 := C3.st 2 (.int .u64 z)
    rw [hU] at C4
    clear hU d0 d1 d2 f C3
    refine (PM.out U).mono ?_; rintro _ w4 ⟨rfl, hb4⟩
    have C5 := C4.below hb4
    clear hb4 C4
    have d0 := C5.c1 0 _ rfl
    have d1 := C5.c1 1 _ rfl
    have d2 := C5.c1 2 _ rfl
    have g0 := C5.c0 0 _ rfl
    have g1 := C5.c0 1 _ rfl
    have g2 := C5.c0 2 _ rfl
    have f0 := C5.f0
    go_wp2_with fail
    rw [HQ.out]
    exact ⟨rfl, rfl, C5.ke⟩
set_option maxHeartbeats 4000000 in
theorem sconf_no0 (W0 : World) (D : Nat → Int) (n : Nat) (lv rv : Value) (e : Nat) (w : World) (hL : BR W0 lv n D) (hb : Below W0.heap.size W0 w) (hW : W0.heap.size ≤ e) (he : EB w e lv rv) (hn : n < 1) (hD : BY D) :
    Calls Try.prog 14 #[.pointer (some ⟨e, 0, none⟩)] w fun E w' => E = .panicked [{ v := .iface 41 (.agg #[]), recovered := false }] ∧ KE e w w' := by
  refine Calls.veil fun Q HQ => ?_
  have HL0 := Lib.hid hL
  have HE0 := Lib.hid (And.intro he (And.intro hb hW))
  have hel := he.lt
  clear hL he hb hW
  go_enter Try.func14, Try.ntmps14
  go_wp2_with fail
  generalize hV0 : World.alloc w _ = V0
  have C0 := Lib.hid (show CP 26 W0 w e w.heap.size lv rv #[.int .i64 0, .int .i64 0, .int .u64 0] V0 by
    rw [← hV0]
    exact ⟨HE0.out.1.al _, (KE.refl _ _).alloc _, HE0.out.2.1.alloc (by have := HE0.out.2.1.size; omega) _, heap_alloc_new w _, by simp, Nat.le_refl _, hel, HE0.out.2.2⟩)
  clear hV0
  have N0 : Hid (∀ V, EB V e lv rv → Calls Try.prog 23 #[.pointer (some ⟨e, 0, none⟩), .int .i64 1] V fun E w' => E = .panicked [{ v := .iface 41 (.agg #[]), recovered := false }] ∧ w' = V) := Lib.hid (fun V h1 => snumber_no W0 D n 1 lv rv e V HL0.out h1 (by omega))
  refine wp_region_K (fun _ => True) 12 (by decide +kernel) ?_
  have C1 := Lib.hid C0.out.drew
  generalize World.drew V0 = V1 at *
  (refine wpAnyK_takeY (i := 0) (v := ?_) rfl (by decide +kernel) (by decide +kernel) (by decide +kernel) (by decide) (fun _ _ _ h => h) (Or.inl ⟨by rfl, ?_⟩) (.inr trivial) ?_; rotate_left; (intro w; go_simp); (try with_reducible rfl)); (try simp only [List.getElem_toArray, List.getElem_cons_succ, List.getElem_cons_zero, Act.put, List.setIfInBounds_toArray, List.set_cons_succ, List.set_cons_zero])
  (refine wpAnyK_takeY (i := 1) (v := ?_) rfl (by decide +kernel) (by decide +kernel) (by decide +kernel) (by decide) (fun _ _ _ h => h) (Or.inl ⟨by rfl, ?_⟩) (.inr trivial) ?_; rotate_left; (intro w; go_simp); (try with_reducible rfl)); (try simp only [List.getElem_toArray, List.getElem_cons_succ, List.getElem_cons_zero, Act.put, List.setIfInBounds_toArray, List.set_cons_succ, List.set_cons_zero])
  (refine wpAnyK_takeY (i := 2) (v := ?_) rfl (by decide +kernel) (by decide +kernel) (by decide +kernel) (by decide) (fun _ _ _ h => h) (Or.inl ⟨by rfl, ?_⟩) (.inr trivial) ?_; rotate_left; (intro w; go_simp); (try with_reducible rfl)); (try simp only [List.getElem_toArray, List.getElem_cons_succ, List.getElem_cons_zero, Act.put, List.setIfInBounds_toArray, List.set_cons_succ, List.set_cons_zero])
  (refine wpAnyK_takeY (i := 5) (v := ?_) rfl (by decide +kernel) (by decide +kernel) (by decide +kernel) (by decide) (fun _ _ _ h => h) (Or.inl ⟨by rfl, ?_⟩) (.inr trivial) ?_; rotate_left; (intro w; go_simp); (try with_reducible rfl)); (try simp only [List.getElem_toArray, List.getElem_cons_succ, List.getElem_cons_zero, Act.put, List.setIfInBounds_toArray, List.set_cons_succ, List.set_cons_zero])
  (refine wpAnyK_takeY (i := 6) (v := ?_) rfl (by decide +kernel) (by decide +kernel) (by decide +kernel) (by decide) (fun _ _ _ h => h) (Or.inl ⟨by rfl, ?_⟩) (.inr trivial) ?_; rotate_left; (intro w; go_simp); (try with_reducible rfl)); (try simp only [List.getElem_toArray, List.getElem_cons_succ, List.getElem_cons_zero, Act.put, List.setIfInBounds_toArray, List.set_cons_succ, List.set_cons_zero])
  (refine wpAnyK_takeY (i := 7) (v := ?_) rfl (by decide +kernel) (by decide +kernel) (by decide +kernel) (by decide) (fun _ _ _ h => h) (Or.inl ⟨by rfl, ?_⟩) (.inr trivial) ?_; rotate_left; (intro w; go_simp); (try with_reducible rfl)); (try simp only [List.getElem_toArray, List.getElem_cons_succ, List.getElem_cons_zero, Act.put, List.setIfInBounds_toArray, List.set_cons_succ, List.set_cons_zero])
  (refine wpAnyK_ready (rs := [3, 11]) (by decide +kernel) (by simp) ?_; refine (AllReadyK.cons rfl (fun K hK => ?_) (AllReadyK.cons rfl (fun K hK => ?_) AllReadyK.nil)))
  · refine step_of rfl ?_
    go_step
    refine (N0.out _ C1.out.eb).mono ?_; rintro _ _ ⟨rfl, rfl⟩
    refine ⟨rfl, ?_⟩
    rw [HQ.out]
    exact ⟨rfl, C1.out.ke⟩
  · refine step_of rfl ?_
    go_step
    refine hK _ _ (.inr trivial) ?_
    clear hK K
    (try simp only [List.getElem_toArray, List.getElem_cons_succ, List.getElem_cons_zero, Act.put, List.setIfInBounds_toArray, List.set_cons_succ, List.set_cons_zero])
    (refine wpAnyK_ready (rs := [3]) (by decide +kernel) (by simp) ?_; refine (AllReadyK.cons rfl (fun K hK => ?_) AllReadyK.nil))
    refine step_of rfl ?_
    go_step
    refine (N0.out _ (C1.out.eb.al _)).mono ?_; rintro _ _ ⟨rfl, rfl⟩
    refine ⟨rfl, ?_⟩
    rw [HQ.out]
    exact ⟨rfl, C1.out.ke.alloc _⟩
set_option maxHeartbeats 4000000 in
theorem sconf_no1 (W0 : World) (D : Nat → Int) (n : Nat) (lv rv : Value) (e : Nat) (w : World) (hL : BR W0 lv n D) (hb : Below W0.heap.size W0 w) (hW : W0.heap.size ≤ e) (he : EB w e lv rv) (hn1 : 1 ≤ n) (hn : n < 3) (hD : BY D) :
    Calls Try.prog 14 #[.pointer (some ⟨e, 0, none⟩)] w fun E w' => E = .panicked [{ v := .iface 41 (.agg #[]), recovered := false }] ∧ KE e w w' := by
  refine Calls.veil fun Q HQ => ?_
  have HL0 := Lib.hid hL
  have HE0 := Lib.hid (And.intro he (And.intro hb hW))
  have hel := he.lt
  clear hL he hb hW
  go_enter Try.func14, Try.ntmps14
  go_wp2_with fail
  generalize hV0 : World.alloc w _ = V0
  have C0 := Lib.hid (show CP 26 W0 w e w.heap.size lv rv #[.int .i64 0, .int .i64 0, .int .u64 0] V0 by
    rw [← hV0]
    exact ⟨HE0.out.1.al _, (KE.refl _ _).alloc _, HE0.out.2.1.alloc (by have := HE0.out.2.1.size; omega) _, heap_alloc_new w _, by simp, Nat.le_refl _, hel, HE0.out.2.2⟩)
  clear hV0
  have N1 : Hid (∀ V, EB V e lv rv → Below W0.heap.size W0 V → Calls Try.prog 23 #[.pointer (some ⟨e, 0, none⟩), .int .i64 1] V fun E w' => E = .returned (.int .u64 (numB D 1)) ∧ ∃ lv', BR W0 lv' (n - 1) (dropD D 1) ∧ w' = V.setCell ⟨e, 0, none⟩ lv') := Lib.hid (fun V h1 h2 => snumber W0 D n 1 lv rv e V HL0.out h2 h1 (by omega) (by decide) hD)
  obtain ⟨x1, x2⟩ := num_sm hD (m := 1) (by decide)
  have xi := wrapi_sm (numB D 1) x1 (by omega)
  have xw := wrap_sm (numB D 1) x1 (by omega)
  have N0 : Hid (∀ V l1, BR W0 l1 (n - 1) (dropD D 1) → EB V e l1 rv → Calls Try.prog 23 #[.pointer (some ⟨e, 0, none⟩), .int .i64 2] V fun E w' => E = .panicked [{ v := .iface 41 (.agg #[]), recovered := false }] ∧ w' = V) := Lib.hid (fun V l1 h h1 => snumber_no W0 (dropD D 1) (n - 1) 2 l1 rv e V h h1 (by omega))
  generalize numB D 1 = x at *
  refine wp_region_K (fun _ => True) 12 (by decide +kernel) ?_
  have C1 := Lib.hid C0.out.drew
  generalize World.drew V0 = V1 at *
  (refine wpAnyK_takeY (i := 0) (v := ?_) rfl (by decide +kernel) (by decide +kernel) (by decide +kernel) (by decide) (fun _ _ _ h => h) (Or.inl ⟨by rfl, ?_⟩) (.inr trivial) ?_; rotate_left; (intro w; go_simp); (try with_reducible rfl)); (try simp only [List.getElem_toArray, List.getElem_cons_succ, List.getElem_cons_zero, Act.put, List.setIfInBounds_toArray, List.set_cons_succ, List.set_cons_zero])
  (refine wpAnyK_takeY (i := 1) (v := ?_) rfl (by decide +kernel) (by decide +kernel) (by decide +kernel) (by decide) (fun _ _ _ h => h) (Or.inl ⟨by rfl, ?_⟩) (.inr trivial) ?_; rotate_left; (intro w; go_simp); (try with_reducible rfl)); (try simp only [List.getElem_toArray, List.getElem_cons_succ, List.getElem_cons_zero, Act.put, List.setIfInBounds_toArray, List.set_cons_succ, List.set_cons_zero])
  (refine wpAnyK_takeY (i := 2) (v := ?_) rfl (by decide +kernel) (by decide +kernel) (by decide +kernel) (by decide) (fun _ _ _ h => h) (Or.inl ⟨by rfl, ?_⟩) (.inr trivial) ?_; rotate_left; (intro w; go_simp); (try with_reducible rfl)); (try simp only [List.getElem_toArray, List.getElem_cons_succ, List.getElem_cons_zero, Act.put, List.setIfInBounds_toArray, List.set_cons_succ, List.set_cons_zero])
  (refine wpAnyK_takeY (i := 5) (v := ?_) rfl (by decide +kernel) (by decide +kernel) (by decide +kernel) (by decide) (fun _ _ _ h => h) (Or.inl ⟨by rfl, ?_⟩) (.inr trivial) ?_; rotate_left; (intro w; go_simp); (try with_reducible rfl)); (try simp only [List.getElem_toArray, List.getElem_cons_succ, List.getElem_cons_zero, Act.put, List.setIfInBounds_toArray, List.set_cons_succ, List.set_cons_zero])
  (refine wpAnyK_takeY (i := 6) (v := ?_) rfl (by decide +kernel) (by decide +kernel) (by decide +kernel) (by decide) (fun _ _ _ h => h) (Or.inl ⟨by rfl, ?_⟩) (.inr trivial) ?_; rotate_left; (intro w; go_simp); (try with_reducible rfl)); (try simp only [List.getElem_toArray, List.getElem_cons_succ, List.getElem_cons_zero, Act.put, List.setIfInBounds_toArray, List.set_cons_succ, List.set_cons_zero])
  (refine wpAnyK_takeY (i := 7) (v := ?_) rfl (by decide +kernel) (by decide +kernel) (by decide +kernel) (by decide) (fun _ _ _ h => h) (Or.inl ⟨by rfl, ?_⟩) (.inr trivial) ?_; rotate_left; (intro w; go_simp); (try with_reducible rfl)); (try simp only [List.getElem_toArray, List.getElem_cons_succ, List.getElem_cons_zero, Act.put, List.setIfInBounds_toArray, List.set_cons_succ, List.set_cons_zero])
  (refine wpAnyK_ready (rs := [3, 11]) (by decide +kernel) (by simp) ?_; refine (AllReadyK.cons rfl (fun K hK => ?_) (AllReadyK.cons rfl (fun K hK => ?_) AllReadyK.nil)))
  · refine step_of rfl ?_
    go_step
    refine (N1.out _ C1.out.eb C1.out.bl).mono ?_; rintro _ _ ⟨rfl, l1, hl1, rfl⟩
    refine hK _ _ (.inr trivial) ?_
    clear hK K
    (try simp only [List.getElem_toArray, List.getElem_cons_succ, List.getElem_cons_zero, Act.put, List.setIfInBounds_toArray, List.set_cons_succ, List.set_cons_zero])
    (refine wpAnyK_takeY (i := 4) (v := ?_) rfl (by decide +kernel) (by decide +kernel) (by decide +kernel) (by decide) (fun _ _ _ h => h) (Or.inl ⟨by rfl, ?_⟩) (.inr trivial) ?_; rotate_left; (intro w; go_simp); (try with_reducible rfl)); (try simp only [List.getElem_toArray, List.getElem_cons_succ, List.getElem_cons_zero, Act.put, List.setIfInBounds_toArray, List.set_cons_succ, List.set_cons_zero])
    (refine wpAnyK_ready (rs := [8, 11]) (by decide +kernel) (by simp) ?_; refine (AllReadyK.cons rfl (fun K hK => ?_) (AllReadyK.cons rfl (fun K hK => ?_) AllReadyK.nil)))
    · refine step_of rfl ?_
      go_step
      refine (N0.out _ l1 hl1 (C1.out.num (v := l1)).eb).mono ?_; rintro _ _ ⟨rfl, rfl⟩
      refine ⟨rfl, ?_⟩
      rw [HQ.out]
      exact ⟨rfl, (C1.out.num (v := l1)).ke⟩
    · refine step_of rfl ?_
      go_step
      refine hK _ _ (.inr trivial) ?_
      clear hK K
      (try simp only [List.getElem_toArray, List.getElem_cons_succ, List.getElem_cons_zero, Act.put, List.setIfInBounds_toArray, List.set_cons_succ, List.set_cons_zero])
      (refine wpAnyK_ready (rs := [8]) (by decide +kernel) (by simp) ?_; refine (AllReadyK.cons rfl (fun K hK => ?_) AllReadyK.nil))
      refine step_of rfl ?_
      go_step
      refine (N0.out _ l1 hl1 ((C1.out.num (v := l1)).al (A1 := #[.int .i64 0, .int .i64 0, .int .u64 0])).eb).mono ?_; rintro _ _ ⟨rfl, rfl⟩
      refine ⟨rfl, ?_⟩
      rw [HQ.out]
      exact ⟨rfl, ((C1.out.num (v := l1)).al (A1 := #[.int .i64 0, .int .i64 0, .int .u64 0])).ke⟩
  · refine step_of rfl ?_
    go_step
    refine hK _ _ (.inr trivial) ?_
    clear hK K
    (try simp only [List.getElem_toArray, List.getElem_cons_succ, List.getElem_cons_zero, Act.put, List.setIfInBounds_toArray, List.set_cons_succ, List.set_cons_zero])
    (refine wpAnyK_ready (rs := [3]) (by decide +kernel) (by simp) ?_; refine (AllReadyK.cons rfl (fun K hK => ?_) AllReadyK.nil))
    refine step_of rfl ?_
    go_step
    refine (N1.out _ (C1.out.eb.al _) (C1.out.al (A1 := #[.int .i64 0, .int .i64 0, .int .u64 0])).bl).mono ?_; rintro _ _ ⟨rfl, l1, hl1, rfl⟩
    refine hK _ _ (.inr trivial) ?_
    clear hK K
    (try simp only [List.getElem_toArray, List.getElem_cons_succ, List.getElem_cons_zero, Act.put, List.setIfInBounds_toArray, List.set_cons_succ, List.set_cons_zero])
    (refine wpAnyK_takeY (i := 4) (v := ?_) rfl (by decide +kernel) (by decide +kernel) (by decide +kernel) (by decide) (fun _ _ _ h => h) (Or.inl ⟨by rfl, ?_⟩) (.inr trivial) ?_; rotate_left; (intro w; go_simp); (try with_reducible rfl)); (try simp only [List.getElem_toArray, List.getElem_cons_succ, List.getElem_cons_zero, Act.put, List.setIfInBounds_toArray, List.set_cons_succ, List.set_cons_zero])
    (refine wpAnyK_ready (rs := [8]) (by decide +kernel) (by simp) ?_; refine (AllReadyK.cons rfl (fun K hK => ?_) AllReadyK.nil))
    refine step_of rfl ?_
    go_step
    refine (N0.out _ l1 hl1 ((C1.out.al (A1 := #[.int .i64 0, .int .i64 0, .int .u64 0])).num l1).eb).mono ?_; rintro _ _ ⟨rfl, rfl⟩
    refine ⟨rfl, ?_⟩
    rw [HQ.out]
    exact ⟨rfl, ((C1.out.al (A1 := #[.int .i64 0, .int .i64 0, .int .u64 0])).num l1).ke⟩
set_option maxHeartbeats 4000000 in
theorem sconf_no2 (W0 : World) (D : Nat → Int) (n : Nat) (lv rv : Value) (e : Nat) (w : World) (hL : BR W0 lv n D) (hb : Below W0.heap.size W0 w) (hW : W0.heap.size ≤ e) (he : EB w e lv rv) (hn1 : 3 ≤ n) (hn : n < 11) (hD : BY D) :
    Calls Try.prog 14 #[.pointer (some ⟨e, 0, none⟩)] w fun E w' => E = .panicked [{ v := .iface 41 (.agg #[]), recovered := false }] ∧ KE e w w' := by
  refine Calls.veil fun Q HQ => ?_
  have HL0 := Lib.hid hL
  have HE0 := Lib.hid (And.intro he (And.intro hb hW))
  have hel := he.lt
  clear hL he hb hW
  go_enter Try.func14, Try.ntmps14
  go_wp2_with fail
  generalize hV0 : World.alloc w _ = V0
  have C0 := Lib.hid (show CP 26 W0 w e w.heap.size lv rv #[.int .i64 0, .int .i64 0, .int .u64 0] V0 by
    rw [← hV0]
    exact ⟨HE0.out.1.al _, (KE.refl _ _).alloc _, HE0.out.2.1.alloc (by have := HE0.out.2.1.size; omega) _, heap_alloc_new w _, by simp, Nat.le_refl _, hel, HE0.out.2.2⟩)
  clear hV0
  have N1 : Hid (∀ V, EB V e lv rv → Below W0.heap.size W0 V → Calls Try.prog 23 #[.pointer (some ⟨e, 0, none⟩), .int .i64 1] V fun E w' => E = .returned (.int .u64 (numB D 1)) ∧ ∃ lv', BR W0 lv' (n - 1) (dropD D 1) ∧ w' = V.setCell ⟨e, 0, none⟩ lv') := Lib.hid (fun V h1 h2 => snumber W0 D n 1 lv rv e V HL0.out h2 h1 (by omega) (by decide) hD)
  obtain ⟨x1, x2⟩ := num_sm hD (m := 1) (by decide)
  have xi := wrapi_sm (numB D 1) x1 (by omega)
  have xw := wrap_sm (numB D 1) x1 (by omega)
  have N2 : Hid (∀ V l1, BR W0 l1 (n - 1) (dropD D 1) → EB V e l1 rv → Below W0.heap.size W0 V → Calls Try.prog 23 #[.pointer (some ⟨e, 0, none⟩), .int .i64 2] V fun E w' => E = .returned (.int .u64 (numB (dropD D 1) 2)) ∧ ∃ lv', BR W0 lv' (n - 1 - 2) (dropD (dropD D 1) 2) ∧ w' = V.setCell ⟨e, 0, none⟩ lv') := Lib.hid (fun V l1 h h1 h2 => snumber W0 (dropD D 1) (n - 1) 2 l1 rv e V h h2 h1 (by omega) (by decide) (hD.drop 1))
  obtain ⟨y1, y2⟩ := num_sm (hD.drop 1) (m := 2) (by decide)
  have yi := wrapi_sm (numB (dropD D 1) 2) y1 (by omega)
  have yw := wrap_sm (numB (dropD D 1) 2) y1 (by omega)
  have HT := Lib.hid (And.intro (show numB D 1 = fT D from rfl) (show numB (dropD D 1) 2 = fS D from rfl))
  rw [HT.out.1] at N1 x1 x2 xi xw
  rw [HT.out.2] at N2 y1 y2 yi yw
  generalize hx : fT D = x at *
  generalize hy : fS D = y at *
  have hx := Lib.hid hx
  have hy := Lib.hid hy
  go_cut [3] from 4 to 14 (fun p3 wc => CutF W0 D n w e rv p3 wc)
  case first =>
    refine wp_region_K (fun _ => True) 12 (by decide +kernel) ?_
    have C1 := C0.out.drew
    generalize World.drew V0 = V1 at *
    have hsz := C1.sz
    (refine wpAnyK_takeY (i := 0) (v := ?_) rfl (by decide +kernel) (by decide +kernel) (by decide +kernel) (by decide) (fun _ _ _ h => h) (Or.inl ⟨by rfl, ?_⟩) (.inr trivial) ?_; rotate_left; (intro w; go_simp); (try with_reducible rfl)); (try simp only [List.getElem_toArray, List.getElem_cons_succ, List.getElem_cons_zero, Act.put, List.setIfInBounds_toArray, List.set_cons_succ, List.set_cons_zero])
    (refine wpAnyK_takeY (i := 1) (v := ?_) rfl (by decide +kernel) (by decide +kernel) (by decide +kernel) (by decide) (fun _ _ _ h => h) (Or.inl ⟨by rfl, ?_⟩) (.inr trivial) ?_; rotate_left; (intro w; go_simp); (try with_reducible rfl)); (try simp only [List.getElem_toArray, List.getElem_cons_succ, List.getElem_cons_zero, Act.put, List.setIfInBounds_toArray, List.set_cons_succ, List.set_cons_zero])
    (refine wpAnyK_takeY (i := 2) (v := ?_) rfl (by decide +kernel) (by decide +kernel) (by decide +kernel) (by decide) (fun _ _ _ h => h) (Or.inl ⟨by rfl, ?_⟩) (.inr trivial) ?_; rotate_left; (intro w; go_simp); (try with_reducible rfl)); (try simp only [List.getElem_toArray, List.getElem_cons_succ, List.getElem_cons_zero, Act.put, List.setIfInBounds_toArray, List.set_cons_succ, List.set_cons_zero])
    (refine wpAnyK_takeY (i := 5) (v := ?_) rfl (by decide +kernel) (by decide +kernel) (by decide +kernel) (by decide) (fun _ _ _ h => h) (Or.inl ⟨by rfl, ?_⟩) (.inr trivial) ?_; rotate_left; (intro w; go_simp); (try with_reducible rfl)); (try simp only [List.getElem_toArray, List.getElem_cons_succ, List.getElem_cons_zero, Act.put, List.setIfInBounds_toArray, List.set_cons_succ, List.set_cons_zero])
    (refine wpAnyK_takeY (i := 6) (v := ?_) rfl (by decide +kernel) (by decide +kernel) (by decide +kernel) (by decide) (fun _ _ _ h => h) (Or.inl ⟨by rfl, ?_⟩) (.inr trivial) ?_; rotate_left; (intro w; go_simp); (try with_reducible rfl)); (try simp only [List.getElem_toArray, List.getElem_cons_succ, List.getElem_cons_zero, Act.put, List.setIfInBounds_toArray, List.set_cons_succ, List.set_cons_zero])
    (refine wpAnyK_takeY (i := 7) (v := ?_) rfl (by decide +kernel) (by decide +kernel) (by decide +kernel) (by decide) (fun _ _ _ h => h) (Or.inl ⟨by rfl, ?_⟩) (.inr trivial) ?_; rotate_left; (intro w; go_simp); (try with_reducible rfl)); (try simp only [List.getElem_toArray, List.getElem_cons_succ, List.getElem_cons_zero, Act.put, List.setIfInBounds_toArray, List.set_cons_succ, List.set_cons_zero])
    (refine wpAnyK_ready (rs := [3, 11]) (by decide +kernel) (by simp) ?_; refine (AllReadyK.cons rfl (fun K hK => ?_) (AllReadyK.cons rfl (fun K hK => ?_) AllReadyK.nil)))
    · refine step_of rfl ?_
      go_step
      refine (N1.out _ C1.eb C1.bl).mono ?_; rintro _ _ ⟨rfl, l1, hl1, rfl⟩
      refine hK _ _ (.inr trivial) ?_
      clear hK K
      (try simp only [List.getElem_toArray, List.getElem_cons_succ, List.getElem_cons_zero, Act.put, List.setIfInBounds_toArray, List.set_cons_succ, List.set_cons_zero])
      (refine wpAnyK_takeY (i := 4) (v := ?_) rfl (by decide +kernel) (by decide +kernel) (by decide +kernel) (by decide) (fun _ _ _ h => h) (Or.inl ⟨by rfl, ?_⟩) (.inr trivial) ?_; rotate_left; (intro w; go_simp); (try with_reducible rfl)); (try simp only [List.getElem_toArray, List.getElem_cons_succ, List.getElem_cons_zero, Act.put, List.setIfInBounds_toArray, List.set_cons_succ, List.set_cons_zero])
      (refine wpAnyK_ready (rs := [8, 11]) (by decide +kernel) (by simp) ?_; refine (AllReadyK.cons rfl (fun K hK => ?_) (AllReadyK.cons rfl (fun K hK => ?_) AllReadyK.nil)))
      · refine step_of rfl ?_
        go_step
        refine (N2.out _ l1 hl1 (C1.num (v := l1)).eb (C1.num (v := l1)).bl).mono ?_; rintro _ _ ⟨rfl, l2, hl2, rfl⟩
        refine hK _ _ (.inr trivial) ?_
        clear hK K
        (try simp only [List.getElem_toArray, List.getElem_cons_succ, List.getElem_cons_zero, Act.put, List.setIfInBounds_toArray, List.set_cons_succ, List.set_cons_zero])
        (refine wpAnyK_takeY (i := 9) (v := ?_) rfl (by decide +kernel) (by decide +kernel) (by decide +kernel) (by decide) (fun _ _ _ h => h) (Or.inl ⟨by rfl, ?_⟩) (.inr trivial) ?_; rotate_left; (intro w; go_simp); (try with_reducible rfl)); (try simp only [List.getElem_toArray, List.getElem_cons_succ, List.getElem_cons_zero, Act.put, List.setIfInBounds_toArray, List.set_cons_succ, List.set_cons_zero])
        (refine wpAnyK_takeY (i := 10) (v := ?_) rfl (by decide +kernel) (by decide +kernel) (by decide +kernel) (by decide) (fun _ _ _ h => h) (Or.inl ⟨by rfl, ?_⟩) (.inr trivial) ?_; rotate_left; (intro w; go_simp); (try with_reducible rfl)); (try simp only [List.getElem_toArray, List.getElem_cons_succ, List.getElem_cons_zero, Act.put, List.setIfInBounds_toArray, List.set_cons_succ, List.set_cons_zero])
        (refine wpAnyK_ready (rs := [11]) (by decide +kernel) (by simp) ?_; refine (AllReadyK.cons rfl (fun K hK => ?_) AllReadyK.nil))
        refine step_of rfl ?_
        go_step
        refine hK _ _ (.inr trivial) ?_
        clear hK K
        (try simp only [List.getElem_toArray, List.getElem_cons_succ, List.getElem_cons_zero, Act.put, List.setIfInBounds_toArray, List.set_cons_succ, List.set_cons_zero])
        (refine wpAnyK_ready (rs := [12]) (by decide +kernel) (by simp) ?_; refine (AllReadyK.cons rfl (fun K hK => ?_) AllReadyK.nil))
        refine step_of rfl ?_
        go_step
        refine hK _ _ (.inl rfl) ?_
        clear hK K
        refine wpAnyK_done (by decide +kernel) ?_ _
        generalize hwf : World.alloc _ _ = wf
        have CG := ((C1.num (v := l1)).num (v := l2)).al (A1 := #[.int .i64 x, .int .i64 y, .int .u64 0])
        have hfin : CutF W0 D n w e rv (.pointer (some ⟨w.heap.size + 1, 0, none⟩)) wf := ⟨rfl, l2, hl2.next rfl, by rw [hx.out, hy.out, ← hwf]; exact CG⟩
        have HFIN := Lib.hid hfin
        clear hfin CG hwf
        go_wp2_with fail
        go_meet
        case rel => exact HFIN.out
      · refine step_of rfl ?_
        go_step
        refine hK _ _ (.inr trivial) ?_
        clear hK K
        (try simp only [List.getElem_toArray, List.getElem_cons_succ, List.getElem_cons_zero, Act.put, List.setIfInBounds_toArray, List.set_cons_succ, List.set_cons_zero])
        (refine wpAnyK_ready (rs := [8]) (by decide +kernel) (by simp) ?_; refine (AllReadyK.cons rfl (fun K hK => ?_) AllReadyK.nil))
        refine step_of rfl ?_
        go_step
        refine (N2.out _ l1 hl1 ((C1.num (v := l1)).al (A1 := #[.int .i64 0, .int .i64 0, .int .u64 0])).eb ((C1.num (v := l1)).al (A1 := #[.int .i64 0, .int .i64 0, .int .u64 0])).bl).mono ?_; rintro _ _ ⟨rfl, l2, hl2, rfl⟩
        refine hK _ _ (.inr trivial) ?_
        clear hK K
        (try simp only [List.getElem_toArray, List.getElem_cons_succ, List.getElem_cons_zero, Act.put, List.setIfInBounds_toArray, List.set_cons_succ, List.set_cons_zero])
        (refine wpAnyK_takeY (i := 9) (v := ?_) rfl (by decide +kernel) (by decide +kernel) (by decide +kernel) (by decide) (fun _ _ _ h => h) (Or.inl ⟨by rfl, ?_⟩) (.inr trivial) ?_; rotate_left; (intro w; go_simp); (try with_reducible rfl)); (try simp only [List.getElem_toArray, List.getElem_cons_succ, List.getElem_cons_zero, Act.put, List.setIfInBounds_toArray, List.set_cons_succ, List.set_cons_zero])
        (refine wpAnyK_takeY (i := 10) (v := ?_) rfl (by decide +kernel) (by decide +kernel) (by decide +kernel) (by decide) (fun _ _ _ h => h) (Or.inl ⟨by rfl, ?_⟩) (.inr trivial) ?_; rotate_left; (intro w; go_simp); (try with_reducible rfl)); (try simp only [List.getElem_toArray, List.getElem_cons_succ, List.getElem_cons_zero, Act.put, List.setIfInBounds_toArray, List.set_cons_succ, List.set_cons_zero])
        (try simp only [List.getElem_toArray, List.getElem_cons_succ, List.getElem_cons_zero, Act.put, List.setIfInBounds_toArray, List.set_cons_succ, List.set_cons_zero])
        (refine wpAnyK_ready (rs := [12]) (by decide +kernel) (by simp) ?_; refine (AllReadyK.cons rfl (fun K hK => ?_) AllReadyK.nil))
        refine step_of rfl ?_
        go_step
        refine hK _ _ (.inl rfl) ?_
        clear hK K
        refine wpAnyK_done (by decide +kernel) ?_ _
        generalize hwf : World.alloc _ _ = wf
        have CG := ((C1.num (v := l1)).num (v := l2)).al (A1 := #[.int .i64 x, .int .i64 y, .int .u64 0])
        have hfin : CutF W0 D n w e rv (.pointer (some ⟨w.heap.size + 1, 0, none⟩)) wf := ⟨rfl, l2, hl2.next rfl, by rw [hx.out, hy.out, ← hwf]; exact CG⟩
        have HFIN := Lib.hid hfin
        clear hfin CG hwf
        go_wp2_with fail
        go_meet
        case rel => exact HFIN.out
    · refine step_of rfl ?_
      go_step
      refine hK _ _ (.inr trivial) ?_
      clear hK K
      (try simp only [List.getElem_toArray, List.getElem_cons_succ, List.getElem_cons_zero, Act.put, List.setIfInBounds_toArray, List.set_cons_succ, List.set_cons_zero])
      (refine wpAnyK_ready (rs := [3]) (by decide +kernel) (by simp) ?_; refine (AllReadyK.cons rfl (fun K hK => ?_) AllReadyK.nil))
      refine step_of rfl ?_
      go_step
      refine (N1.out _ (C1.al (A1 := #[.int .i64 0, .int .i64 0, .int .u64 0])).eb (C1.al (A1 := #[.int .i64 0, .int .i64 0, .int .u64 0])).bl).mono ?_; rintro _ _ ⟨rfl, l1, hl1, rfl⟩
      refine hK _ _ (.inr trivial) ?_
      clear hK K
      (try simp only [List.getElem_toArray, List.getElem_cons_succ, List.getElem_cons_zero, Act.put, List.setIfInBounds_toArray, List.set_cons_succ, List.set_cons_zero])
      (refine wpAnyK_takeY (i := 4) (v := ?_) rfl (by decide +kernel) (by decide +kernel) (by decide +kernel) (by decide) (fun _ _ _ h => h) (Or.inl ⟨by rfl, ?_⟩) (.inr trivial) ?_; rotate_left; (intro w; go_simp); (try with_reducible rfl)); (try simp only [List.getElem_toArray, List.getElem_cons_succ, List.getElem_cons_zero, Act.put, List.setIfInBounds_toArray, List.set_cons_succ, List.set_cons_zero])
      (refine wpAnyK_ready (rs := [8]) (by decide +kernel) (by simp) ?_; refine (AllReadyK.cons rfl (fun K hK => ?_) AllReadyK.nil))
      refine step_of rfl ?_
      go_step
      refine (N2.out _ l1 hl1 ((C1.num (v := l1)).al (A1 := #[.int .i64 0, .int .i64 0, .int .u64 0])).eb ((C1.num (v := l1)).al (A1 := #[.int .i64 0, .int .i64 0, .int .u64 0])).bl).mono ?_; rintro _ _ ⟨rfl, l2, hl2, rfl⟩
      refine hK _ _ (.inr trivial) ?_
      clear hK K
      (try simp only [List.getElem_toArray, List.getElem_cons_succ, List.getElem_cons_zero, Act.put, List.setIfInBounds_toArray, List.set_cons_succ, List.set_cons_zero])
      (refine wpAnyK_takeY (i := 9) (v := ?_) rfl (by decide +kernel) (by decide +kernel) (by decide +kernel) (by decide) (fun _ _ _ h => h) (Or.inl ⟨by rfl, ?_⟩) (.inr trivial) ?_; rotate_left; (intro w; go_simp); (try with_reducible rfl)); (try simp only [List.getElem_toArray, List.getElem_cons_succ, List.getElem_cons_zero, Act.put, List.setIfInBounds_toArray, List.set_cons_succ, List.set_cons_zero])
      (refine wpAnyK_takeY (i := 10) (v := ?_) rfl (by decide +kernel) (by decide +kernel) (by decide +kernel) (by decide) (fun _ _ _ h => h) (Or.inl ⟨by rfl, ?_⟩) (.inr trivial) ?_; rotate_left; (intro w; go_simp); (try with_reducible rfl)); (try simp only [List.getElem_toArray, List.getElem_cons_succ, List.getElem_cons_zero, Act.put, List.setIfInBounds_toArray, List.set_cons_succ, List.set_cons_zero])
      (try simp only [List.getElem_toArray, List.getElem_cons_succ, List.getElem_cons_zero, Act.put, List.setIfInBounds_toArray, List.set_cons_succ, List.set_cons_zero])
      (refine wpAnyK_ready (rs := [12]) (by decide +kernel) (by simp) ?_; refine (AllReadyK.cons rfl (fun K hK => ?_) AllReadyK.nil))
      refine step_of rfl ?_
      go_step
      refine hK _ _ (.inl rfl) ?_
      clear hK K
      refine wpAnyK_done (by decide +kernel) ?_ _
      generalize hwf : World.alloc _ _ = wf
      have CG := ((C1.num (v := l1)).num (v := l2)).al (A1 := #[.int .i64 x, .int .i64 y, .int .u64 0])
      have hfin : CutF W0 D n w e rv (.pointer (some ⟨w.heap.size + 1, 0, none⟩)) wf := ⟨rfl, l2, hl2.next rfl, by rw [hx.out, hy.out, ← hwf]; exact CG⟩
      have HFIN := Lib.hid hfin
      clear hfin CG hwf
      go_wp2_with fail
      go_meet
      case rel => exact HFIN.out
  case rest =>
    obtain ⟨rfl, l2, hl2, C2⟩ := hcut
    have HL2 := Lib.hid hl2
    have C2 := Lib.hid C2
    clear hl2 N1 N2
    go_wp2_with fail
    refine (snumber_no W0 (dropD D 3) (n - 3) 8 l2 rv e wc HL2.out C2.out.eb (by omega)).mono ?_; rintro _ _ ⟨rfl, rfl⟩
    go_wp2_with fail
    rw [HQ.out]
    exact ⟨rfl, rfl, C2.out.ke⟩
end Go.Proofs.Ytnikggdnlijkkaa
