/- Layer 35, reading: a call, read. -/
import Derived.Test.YtdgplijnhkgeiaaDoorRtxH
import Derived.Deep.CutRange
import Derived.RegionCalls
import Derived.Test.YtdgplijnhkgeiaaDoorHldB
namespace Go.Proofs.YtdgplijnhkgeiaaDoor
open Go.RowKit
open Go.Lib (cut itoa)
set_option linter.unusedVariables false
set_option linter.unusedSimpArgs false
theorem splitL_word (c : UInt8) : ∀ l, ∀ x ∈ splitL c l, x.length ≤ l.length
  | [], x, h => by simp [splitL] at h; subst h; simp
  | a :: r, x, h => by
    have ih := splitL_word c r
    unfold splitL at h
    split at h
    · rcases List.mem_cons.1 h with rfl | h
      · simp
      · have := ih x h; simp; omega
    · cases hs : splitL c r with
      | nil => rw [hs] at h; simp at h; subst h; simp
      | cons y t =>
        rw [hs] at h
        rcases List.mem_cons.1 h with rfl | h
        · have := ih y (by rw [hs]; simp); simp; omega
        · have := ih x (by rw [hs]; simp [h]); simp; omega
/-- The numbers that texts are, or none. -/
noncomputable def numsOf : List (List UInt8) → Option (List Int)
  | [] => some []
  | x :: r => match numOf x, numsOf r with | some n, some l => some (n :: l) | _, _ => none
theorem numsOf_len : ∀ {l ns}, numsOf l = some ns → ns.length = l.length
  | [], ns, h => by simp [numsOf] at h; subst h; rfl
  | x :: r, ns, h => by
    unfold numsOf at h
    split at h
    · rename_i n l h1 h2
      cases h
      simp [numsOf_len h2]
    · cases h
theorem numsOf_I : ∀ {l ns}, numsOf l = some ns → ∀ n ∈ ns, I64 n
  | [], ns, h => by simp [numsOf] at h; subst h; simp
  | x :: r, ns, h => by
    unfold numsOf at h
    split at h
    · rename_i n l h1 h2
      cases h
      intro m hm
      rcases List.mem_cons.1 hm with rfl | hm
      · exact (numOf_is h1).1
      · exact numsOf_I h2 m hm
    · cases h
theorem numsOf_snoc : ∀ {l ns} (x : List UInt8) (n : Int), numsOf l = some ns → numOf x = some n → numsOf (l ++ [x]) = some (ns ++ [n])
  | [], ns, x, n, h, hx => by simp [numsOf] at h; subst h; simp [numsOf, hx]
  | y :: r, ns, x, n, h, hx => by
    unfold numsOf at h
    split at h
    · rename_i m l h1 h2
      cases h
      simp [numsOf, h1, numsOf_snoc x n h2 hx]
    · cases h
theorem numsOf_bad : ∀ {l : List (List UInt8)} {x}, x ∈ l → numOf x = none → numsOf l = none
  | y :: r, x, h, hx => by
    unfold numsOf
    rcases List.mem_cons.1 h with rfl | h
    · rw [hx]
    · rw [numsOf_bad h hx]; cases numOf y <;> rfl
/-- A call with its parts. -/
def withL (c : Ca) : List Int → List Int → Ca
  | p :: ps, n :: ns => withL (withI c p n) ps ns
  | _, _ => c
theorem withL_snoc : ∀ (ps ns : List Int) (c : Ca) (p n : Int), ps.length = ns.length → withL c (ps ++ [p]) (ns ++ [n]) = withI (withL c ps ns) p n
  | [], [], c, p, n, _ => rfl
  | q :: ps, m :: ns, c, p, n, h => by
    simp only [List.cons_append, withL]
    exact withL_snoc ps ns _ p n (by simpa using h)
  | [], _ :: _, _, _, _, h => by simp at h
  | _ :: _, [], _, _, _, h => by simp at h
/-- The call that words are, or why they are none. -/
noncomputable def callR (ws : List (List UInt8)) : Except Int Ca :=
  match opI ⟨(ws.headD []).toArray⟩ with
  | none => .error 3
  | some i => if ws.tail.length = (partsL i).length then (match numsOf ws.tail with | some ns => .ok (withL ⟨i, 0, 0, 0, 0⟩ (partsL i) ns) | none => .error 4) else .error 4
theorem callR_none {ws : List (List UInt8)} (h : opI ⟨(ws.headD []).toArray⟩ = none) : callR ws = .error 3 := by unfold callR; rw [h]
theorem callR_len {ws : List (List UInt8)} {i : Nat} (h : opI ⟨(ws.headD []).toArray⟩ = some i) (hl : ws.tail.length ≠ (partsL i).length) : callR ws = .error 4 := by unfold callR; rw [h]; simp only []; rw [if_neg hl]
theorem callR_bad {ws : List (List UInt8)} {i : Nat} (h : opI ⟨(ws.headD []).toArray⟩ = some i) (hn : numsOf ws.tail = none) : callR ws = .error 4 := by unfold callR; rw [h, hn]; simp only []; split <;> rfl
theorem callR_ok {ws : List (List UInt8)} {i : Nat} {ns : List Int} (h : opI ⟨(ws.headD []).toArray⟩ = some i) (hl : ws.tail.length = (partsL i).length) (hn : numsOf ws.tail = some ns) : callR ws = .ok (withL ⟨i, 0, 0, 0, 0⟩ (partsL i) ns) := by unfold callR; rw [h, hn]; simp only []; rw [if_pos hl]
theorem step_of {P : Program} {ops : Array Oper} {o : Oper} {a : Act} {w : World} {K : Act → World → Prop} {Q : Exit → Act → World → Prop} {E : Prop} (hgd : o.guard = none) (h : Oper.wp P o a w K Q) :
    if Region.wanted o (yielded ops a.tmps) = true then Oper.wp P o a w K Q else E := by
  rw [if_pos (by simp [Region.wanted, hgd])]; exact h
def put5 (W : World) (C : Nat) (dd : Ca) : World := ((((W.setCell ⟨C, 0, none⟩ (.int .i64 dd.op)).setCell ⟨C, 1, none⟩ (.int .i64 dd.key)).setCell ⟨C, 2, none⟩ (.int .i64 dd.val)).setCell ⟨C, 3, none⟩ (.int .i64 dd.hi)).setCell ⟨C, 4, none⟩ (.int .i64 dd.lim)
theorem put5_at {W : World} {C : Nat} {T : TypeId} {cc : Ca} (dd : Ca) (h : W.heap[C]? = some (.cells (cacells cc).toArray T (0, 0))) : (put5 W C dd).heap[C]? = some (.cells (cacells dd).toArray T (0, 0)) := by
  unfold put5
  exact heap_setCell_same _ _ 4 _ _ _ (heap_setCell_same _ _ 3 _ _ _ (heap_setCell_same _ _ 2 _ _ _ (heap_setCell_same _ _ 1 _ _ _ (heap_setCell_same _ _ 0 _ _ _ h))))
theorem put5_other (W : World) (C : Nat) (dd : Ca) {k : Nat} (h : k ≠ C) : (put5 W C dd).heap[k]? = W.heap[k]? := by
  unfold put5
  exact (Below.heap_setCell _ ⟨C, 4, none⟩ _ _ h).trans ((Below.heap_setCell _ ⟨C, 3, none⟩ _ _ h).trans ((Below.heap_setCell _ ⟨C, 2, none⟩ _ _ h).trans ((Below.heap_setCell _ ⟨C, 1, none⟩ _ _ h).trans (Below.heap_setCell _ ⟨C, 0, none⟩ _ _ h))))
theorem put5_below (W : World) (C : Nat) (dd : Ca) {B : Nat} (h : B ≤ C) : Below B W (put5 W C dd) := by
  unfold put5
  exact (((((Below.refl B W).setCell (p := ⟨C, 0, none⟩) h _).setCell (p := ⟨C, 1, none⟩) h _).setCell (p := ⟨C, 2, none⟩) h _).setCell (p := ⟨C, 3, none⟩) h _).setCell (p := ⟨C, 4, none⟩) h _
theorem cell_heap {w w' : World} {g i : Nat} (h : w'.heap[g]? = w.heap[g]?) : w'.cell? ⟨g, i, none⟩ = w.cell? ⟨g, i, none⟩ := by simp [World.cell?, h]
def endR {α : Type} (v : α → Value) : Except Int α → Ending
  | .ok a => .returned (v a)
  | .error y => wrP y
set_option maxHeartbeats 1000000 in
theorem tparts2 (op : Int) (w : World) :
    Calls Tryd.prog 37 #[.int .i64 op] w fun e w' => ∃ p k, e = .returned (.slice p (partsL op).length k) ∧ (∀ i x, (partsL op)[i]? = some x → ∃ g, p = some ⟨g, 0, none⟩ ∧ w.heap.size ≤ g ∧ w'.cell? ⟨g, i, none⟩ = some (.int .i64 x)) ∧ Below w.heap.size w w' := by
  refine Calls.veil fun Q HQ => ?_
  rcases op_ways op with rfl | rfl | rfl | rfl | rfl | rfl | rfl | rfl | rfl | hh
  case inr.inr.inr.inr.inr.inr.inr.inr.inr =>
    obtain ⟨h0, h1, h2, h3, h4, h7, h8, h9, h11⟩ := hh
    have HN := Lib.hid (partsL_none ⟨h0, h1, h2, h3, h4, h7, h8, h9, h11⟩)
    have h0 := neq_b h0; have h1 := neq_b h1; have h2 := neq_b h2; have h3 := neq_b h3; have h4 := neq_b h4; have h7 := neq_b h7; have h8 := neq_b h8; have h9 := neq_b h9; have h11 := neq_b h11
    go_enter Tryd.func37, Tryd.ntmps37
    go_wp2_with fail
    (try go_ret)
    rw [HQ.out, HN.out]
    exact ⟨_, _, rfl, fun i x hx => by simp at hx, Below.refl _ _⟩
  all_goals
    go_enter Tryd.func37, Tryd.ntmps37
    go_wp2_with fail
    (try go_ret)
    rw [HQ.out]
    refine ⟨some ⟨w.heap.size, 0, none⟩, _, rfl, fun i x hx => ⟨_, rfl, Nat.le_refl _, ?_⟩, by (repeat (first | exact Below.refl _ _ | assumption | refine below_new ?_ _ | refine Below.drew ?_ | refine below_drewN ?_ _ | refine below_on ?_ (by assumption)))⟩
    have hi := (List.getElem?_eq_some_iff.1 hx).1
    rcases (by simp [partsL] at hi; omega : i = 0 ∨ i = 1 ∨ i = 2) with rfl | rfl | rfl
    all_goals first
      | (simp [partsL] at hx; done)
      | (simp [partsL] at hx; subst hx; exact Ext.made_in rfl (Below.refl _ _) _ _ rfl)
set_option maxRecDepth 16000 in
set_option maxHeartbeats 4000000 in
theorem tocall (s : List UInt8) (w : World) (hs : s.length ≤ 10000) (hv : VB w.heap.size w) :
    Calls Tryd.prog 21 #[tx s] w fun e w' => e = endR caV (callR (splitL 32 s)) ∧ Below w.heap.size w w' := by
  refine Calls.veil fun Q HQ => ?_
  have HS := Lib.hid (fun W => tsplit s W hs)
  have HWL := Lib.hid (splitL_word 32 s)
  have HL := Lib.hid hs
  have HLN := Lib.hid (splitL_len 32 s)
  have HV := Lib.hid hv
  clear hs hv
  have hne := splitL_ne 32 s
  generalize splitL 32 s = ws at *
  obtain ⟨hd, tl, rfl⟩ := List.exists_cons_of_ne_nil hne
  have HS : Hid (∀ W, Calls Tryd.prog 39 #[tx s] W fun e w' => ∃ rv, e = .returned (.tuple #[tx hd, rv]) ∧ SR w' rv tl ∧ Below W.heap.size W w') := HS
  clear hne
  go_enter Tryd.func21, Tryd.ntmps21
  go_wp2_with fail
  generalize hVV : World.alloc w _ = V
  have HBV := Lib.hid (show Below w.heap.size w V ∧ V.heap[w.heap.size]? = some (.cells (cacells ⟨0, 0, 0, 0, 0⟩).toArray 26 (0, 0)) from ⟨by rw [← hVV]; exact below_new (Below.refl _ _) _, by rw [← hVV]; exact World.alloc_heap_new w _⟩)
  have HVS := Lib.hid (show V.heap.size = w.heap.size + 1 by rw [← hVV]; simp)
  clear hVV
  refine (HS.out V).mono ?_; rintro _ w1 ⟨rv, rfl, hr, hb⟩
  have HR := Lib.hid hr
  have HB := Lib.hid (below_on HBV.out.1 hb)
  have HX1 := Lib.hid (upk hb HBV.out.2)
  obtain ⟨rp, rc, hrv, hr2, hr3, hr4⟩ := hr
  have HR4 := Lib.hid hr4
  clear hr4 hb
  subst hrv
  go_wp2_with fail
  refine (cop _ _).mono ?_; rintro _ w2 ⟨rfl, hb⟩
  have HB2 := Lib.hid (below_on HB.out hb)
  have HB2' := Lib.hid hb
  clear hb
  cases ho : opI ⟨hd.toArray⟩ with
  | none =>
    have HE := Lib.hid (callR_none (ws := hd :: tl) ho)
    clear ho
    simp only [Option.getD_none, Option.isSome_none]
    go_wp2_with fail
    rw [HQ.out, HE.out]
    exact ⟨rfl, rfl, HB2.out⟩
  | some i =>
    simp only [Option.getD_some, Option.isSome_some]
    have HO := Lib.hid ho
    clear ho
    go_wp2_with fail
    generalize hVV : World.alloc w2 _ = V3
    have HX3 := Lib.hid (show V3.heap[w2.heap.size]? = some (.cells (cacells ⟨i, 0, 0, 0, 0⟩).toArray 26 (0, 0)) ∧ Below w2.heap.size w2 V3 ∧ V3.heap.size = w2.heap.size + 1 by
      rw [← hVV]; exact ⟨World.alloc_heap_new w2 _, below_new (Below.refl _ _) _, by simp⟩)
    clear hVV
    refine (tparts2 _ _).mono ?_; rintro _ w4 ⟨p, k, rfl, hr, hb⟩
    obtain ⟨l, hl⟩ : ∃ l, l = partsL (i : Int) := ⟨_, rfl⟩
    rw [← hl] at hr ⊢
    have HR := Lib.hid hr
    have HLL := Lib.hid hl
    have HL3 := Lib.hid (show l.length ≤ 3 by rw [hl]; exact partsL_len _)
    have HB4 := Lib.hid hb
    clear hl hr hb
    go_wp2_with fail
    refine (tmany _ _ _ _ _ _ rfl (by have := HLN.out; have := HL.out; simp only [List.length_cons] at *; omega)).mono ?_; rintro _ w5 ⟨he, hb⟩
    have HB5 := Lib.hid hb
    clear hb
    by_cases hlen : tl.length = l.length
    · rw [if_pos (by rw [hlen])] at he
      subst he
      have HLE := Lib.hid hlen
      clear hlen
      go_wp2_with fail
      have HW5 := Lib.hid (show (∃ ns, numsOf (tl.take 0) = some ns ∧ w5.heap[w2.heap.size]? = some (.cells (cacells (withL ⟨i, 0, 0, 0, 0⟩ (l.take 0) ns)).toArray 26 (0, 0))) ∧ (∀ i x, l[i]? = some x → ∃ g, p = some ⟨g, 0, none⟩ ∧ w2.heap.size < g ∧ w5.cell? ⟨g, i, none⟩ = some (.int .i64 x)) ∧ Below w2.heap.size w2 w5 by
        have h4 := upk HB4.out HX3.out.1
        refine ⟨⟨[], by simp [numsOf], by simpa [withL] using upk HB5.out h4⟩, fun i x hx => ?_, (HX3.out.2.1.trans (HB4.out.mono (by have := HX3.out.2.2; omega))).trans (HB5.out.mono (by have := HB4.out.size; have := HX3.out.2.2; omega))⟩
        obtain ⟨g, e1, e2, e3⟩ := HR.out i x hx
        exact ⟨g, e1, by have := HX3.out.2.2; omega, Ext.cell ⟨w5, HB5.out⟩ e3⟩)
      generalize hC : w2.heap.size = C at *
      generalize hm : tl.length = m at *
      go_loopw [35] (fun iv wr => ∃ j : Nat, j ≤ m ∧ iv = .int .i64 j ∧ Hid ((∃ ns, numsOf (tl.take j) = some ns ∧ wr.heap[C]? = some (.cells (cacells (withL ⟨i, 0, 0, 0, 0⟩ (l.take j) ns)).toArray 26 (0, 0))) ∧ (∀ i x, l[i]? = some x → ∃ g, p = some ⟨g, 0, none⟩ ∧ C < g ∧ wr.cell? ⟨g, i, none⟩ = some (.int .i64 x)) ∧ Below C w2 wr))
        (fun iv _ => m - (intOf iv).toNat)
      case atStart => exact ⟨0, by omega, rfl, HW5⟩
      case round =>
        obtain ⟨j, hj, rfl, HI⟩ := hrel
        rcases (by omega : j < m ∨ j = m) with hlt | heq
        · obtain ⟨x, hx⟩ : ∃ x, l[j]? = some x := ⟨l[j]'(by have := HLE.out; omega), List.getElem?_eq_getElem _⟩
          obtain ⟨wd, hwd⟩ : ∃ wd, tl[j]? = some wd := ⟨tl[j]'(by omega), List.getElem?_eq_getElem _⟩
          obtain ⟨g, rfl, hg, c0⟩ := HI.out.2.1 j x hx
          obtain ⟨g2, o2, rfl, c1⟩ := HR4.out j wd hwd
          have c1 : wr.cell? ⟨g2, o2 + j, none⟩ = some (tx wd) := Ext.cell ⟨wr, hC ▸ HI.out.2.2⟩ (Ext.cell ⟨w2, HB2'.out⟩ c1)
          obtain ⟨ns, hns, hcc⟩ := HI.out.1
          have HNS := Lib.hid hns
          have HCC := Lib.hid hcc
          generalize hgc : withL ⟨i, 0, 0, 0, 0⟩ (l.take j) ns = cc at hcc HCC
          have HGC := Lib.hid hgc
          have x0 : wr.cell? ⟨C, 0, none⟩ = some (.int .i64 cc.op) := by simp [World.cell?, hcc, cacells]
          have x1 : wr.cell? ⟨C, 1, none⟩ = some (.int .i64 cc.key) := by simp [World.cell?, hcc, cacells]
          have x2 : wr.cell? ⟨C, 2, none⟩ = some (.int .i64 cc.val) := by simp [World.cell?, hcc, cacells]
          have x3 : wr.cell? ⟨C, 3, none⟩ = some (.int .i64 cc.hi) := by simp [World.cell?, hcc, cacells]
          have x4 : wr.cell? ⟨C, 4, none⟩ = some (.int .i64 cc.lim) := by simp [World.cell?, hcc, cacells]
          have hjl : (j : Int) < (l.length : Int) := by have := HLE.out; omega
          have hjm : (j : Int) < (m : Int) := by omega
          clear hns hcc hgc
          go_wp2_with fail
          have HLD := Lib.hid (show ∀ W, Below wr.heap.size wr W → (Instr.loadAt 26 (.pointer (some ⟨C, 0, none⟩))).run Tryd.prog W = .ok (caV cc) W from fun W h => by
            have y0 := Ext.cell ⟨W, h⟩ x0; have y1 := Ext.cell ⟨W, h⟩ x1; have y2 := Ext.cell ⟨W, h⟩ x2; have y3 := Ext.cell ⟨W, h⟩ x3; have y4 := Ext.cell ⟨W, h⟩ x4
            simp only at y0 y1 y2 y3 y4
            clear x0 x1 x2 x3 x4 c0 c1
            go_simp)
          have HLW := Lib.hid (show ∀ W, Below wr.heap.size wr W → (Instr.loadAt 9 (.pointer (some ⟨g2, o2 + j, none⟩))).run Tryd.prog W = .ok (tx wd) W from fun W h => by
            have y0 := Ext.cell ⟨W, h⟩ c1
            simp only at y0
            clear x0 x1 x2 x3 x4 c0 c1
            go_simp)
          have hm0 : 0 < m := by omega
          have hm1 : (0 : Int) < (m : Int) := by omega
          have hjn : j < m := hlt
          clear x0 x1 x2 x3 x4 c0 c1
          refine wp_region_K (fun W => Below wr.heap.size wr W) 8 (by decide +kernel) ?_
          (refine wpAnyK_take (i := 0) (v := caV cc) [7, 8] rfl (by decide +kernel) (by decide +kernel) (by decide +kernel) (by decide +kernel) (fun _ _ _ h => h) (yields_loadK rfl 26 (.tmp 7) rfl rfl HLD.out) ((Below.refl _ _).drew) ?_)
          (try simp only [List.getElem_toArray, List.getElem_cons_succ, List.getElem_cons_zero, Act.put, List.setIfInBounds_toArray, List.set_cons_succ, List.set_cons_zero])
          (refine wpAnyK_takeY (i := 1) (v := ?_) rfl (by decide +kernel) (by decide +kernel) (by decide +kernel) (by decide) (fun _ _ _ h => h) (Or.inl ⟨by rfl, ?_⟩) (.inr ((Below.refl _ _).drew)) ?_; rotate_left; (intro w; go_simp); (try with_reducible rfl)); (try simp only [List.getElem_toArray, List.getElem_cons_succ, List.getElem_cons_zero, Act.put, List.setIfInBounds_toArray, List.set_cons_succ, List.set_cons_zero])
          (refine wpAnyK_takeY (i := 2) (v := ?_) rfl (by decide +kernel) (by decide +kernel) (by decide +kernel) (by decide) (fun _ _ _ h => h) (Or.inl ⟨by rfl, ?_⟩) (.inr ((Below.refl _ _).drew)) ?_; rotate_left; (intro w; go_simp); (try with_reducible rfl)); (try simp only [List.getElem_toArray, List.getElem_cons_succ, List.getElem_cons_zero, Act.put, List.setIfInBounds_toArray, List.set_cons_succ, List.set_cons_zero])
          (refine wpAnyK_takeY (i := 3) (v := ?_) rfl (by decide +kernel) (by decide +kernel) (by decide +kernel) (by decide) (fun _ _ _ h => h) (Or.inl ⟨by rfl, ?_⟩) (.inr ((Below.refl _ _).drew)) ?_; rotate_left; (intro w; go_simp); (try with_reducible rfl)); (try simp only [List.getElem_toArray, List.getElem_cons_succ, List.getElem_cons_zero, Act.put, List.setIfInBounds_toArray, List.set_cons_succ, List.set_cons_zero])
          (refine wpAnyK_takeY (i := 4) (v := ?_) rfl (by decide +kernel) (by decide +kernel) (by decide +kernel) (by decide) (fun _ _ _ h => h) (Or.inl ⟨by rfl, ?_⟩) (.inr ((Below.refl _ _).drew)) ?_; rotate_left; (intro w; go_simp); (try with_reducible rfl)); (try simp only [List.getElem_toArray, List.getElem_cons_succ, List.getElem_cons_zero, Act.put, List.setIfInBounds_toArray, List.set_cons_succ, List.set_cons_zero])
          (refine wpAnyK_take (i := 5) (v := tx wd) [6, 7, 8] rfl (by decide +kernel) (by decide +kernel) (by decide +kernel) (by decide +kernel) (fun _ _ _ h => h) (yields_loadK rfl 9 (.tmp 44) rfl rfl HLW.out) ((Below.refl _ _).drew) ?_)
          (try simp only [List.getElem_toArray, List.getElem_cons_succ, List.getElem_cons_zero, Act.put, List.setIfInBounds_toArray, List.set_cons_succ, List.set_cons_zero])
          refine wpAnyK_ready (rs := [6]) (by decide +kernel) (by simp) ?_
          refine (AllReadyK.cons rfl (fun K hK => ?_) AllReadyK.nil)
          refine step_of rfl ?_
          go_step
          have HBW := Lib.hid (show Below w.heap.size w wr.drew from (HB2.out.trans (HI.out.2.2.mono (by have := HB2.out.size; omega))).drew)
          have hwl : wd.length ≤ 100000 := by have := HWL.out wd (List.mem_cons_of_mem _ (List.mem_of_getElem? hwd)); have := HL.out; omega
          cases hnum : numOf wd with
          | none =>
            refine (tnumber_no wd w.heap.size wr.drew (fun n h => by rw [numOf_some h] at hnum; cases hnum) hwl (HV.out.below HBW.out) HBW.out.size).mono ?_; rintro _ wn ⟨rfl, hbn⟩
            have HE := Lib.hid (callR_bad (ws := hd :: tl) HO.out (numsOf_bad (List.mem_of_getElem? hwd) hnum))
            have HBN := Lib.hid hbn
            clear hbn hnum hK
            show bodyPost Tryd.prog Tryd.f21 Q (Exit.panic _) _ wn
            refine ⟨rfl, ?_⟩
            rw [HQ.out, HE.out]
            exact ⟨rfl, HBW.out.trans (HBN.out.mono HBW.out.size)⟩
          | some n =>
            refine (tnumber wd n w.heap.size wr.drew (numOf_is hnum) hwl (HV.out.below HBW.out) HBW.out.size).mono ?_; rintro _ wn ⟨rfl, hbn⟩
            have HNN := Lib.hid (show numsOf (tl.take (j + 1)) = some (ns ++ [n]) by
              rw [List.take_add_one, hwd]; exact numsOf_snoc wd n HNS.out hnum)
            have HIN := Lib.hid (numOf_is hnum).1
            have HB7 := Lib.hid (show Below wr.heap.size wr wn from (Below.refl _ _).drew.trans hbn)
            clear hnum hbn
            refine hK _ _ (.inr HB7.out) ?_
            clear hK K
            (try simp only [List.getElem_toArray, List.getElem_cons_succ, List.getElem_cons_zero, Act.put, List.setIfInBounds_toArray, List.set_cons_succ, List.set_cons_zero])
            refine wpAnyK_ready (rs := [7]) (by decide +kernel) (by simp) ?_
            refine (AllReadyK.cons rfl (fun K hK => ?_) AllReadyK.nil)
            refine step_of rfl ?_
            go_step
            refine (twith cc x n _ HIN.out).mono ?_; rintro _ wc ⟨rfl, hbn⟩
            have HB8 := Lib.hid (show Below wr.heap.size wr wc from HB7.out.trans (hbn.mono HB7.out.size))
            clear hbn
            refine hK _ _ (.inr HB8.out) ?_
            clear hK K
            (try simp only [List.getElem_toArray, List.getElem_cons_succ, List.getElem_cons_zero, Act.put, List.setIfInBounds_toArray, List.set_cons_succ, List.set_cons_zero])
            refine wpAnyK_ready (rs := [8]) (by decide +kernel) (by simp) ?_
            refine (AllReadyK.cons rfl (fun K hK => ?_) AllReadyK.nil)
            refine step_of rfl ?_
            have hcc := upk HB8.out HCC.out
            have x0 : wc.cell? ⟨C, 0, none⟩ = some (.int .i64 cc.op) := by simp [World.cell?, hcc, cacells]
            have x1 : wc.cell? ⟨C, 1, none⟩ = some (.int .i64 cc.key) := by simp [World.cell?, hcc, cacells]
            have x2 : wc.cell? ⟨C, 2, none⟩ = some (.int .i64 cc.val) := by simp [World.cell?, hcc, cacells]
            have x3 : wc.cell? ⟨C, 3, none⟩ = some (.int .i64 cc.hi) := by simp [World.cell?, hcc, cacells]
            have x4 : wc.cell? ⟨C, 4, none⟩ = some (.int .i64 cc.lim) := by simp [World.cell?, hcc, cacells]
            have f0 : wc.frozen? ⟨C, 0, none⟩ = false := by simp [World.frozen?, hcc]
            have f1 : wc.frozen? ⟨C, 1, none⟩ = false := by simp [World.frozen?, hcc]
            have f2 : wc.frozen? ⟨C, 2, none⟩ = false := by simp [World.frozen?, hcc]
            have f3 : wc.frozen? ⟨C, 3, none⟩ = false := by simp [World.frozen?, hcc]
            have f4 : wc.frozen? ⟨C, 4, none⟩ = false := by simp [World.frozen?, hcc]
            clear hcc
            go_step
            refine hK _ _ (.inl rfl) ?_
            clear hK K
            refine wpAnyK_done (by decide +kernel) ?_ _
            have HW6 := Lib.hid (show put5 wc C (withI cc x n) = put5 wc C (withI cc x n) from rfl)
            clear x0 x1 x2 x3 x4 f0 f1 f2 f3 f4
            generalize hW6 : World.setCell _ _ _ = w6
            have H6 := Lib.hid (show w6 = put5 wc C (withI cc x n) from hW6.symm)
            clear hW6
            go_wp2_with fail
            go_roundw
            case rel =>
              refine ⟨j + 1, by omega, by go_num, Lib.hid ⟨⟨ns ++ [n], HNN.out, ?_⟩, fun i' x' hx' => ?_, ?_⟩⟩
              · rw [H6.out, put5_at _ (upk HB8.out HCC.out), List.take_add_one, hx]
                show some (Obj.cells (cacells (withI cc x n)).toArray _ _) = some (Obj.cells (cacells (withL ⟨i, 0, 0, 0, 0⟩ (l.take j ++ [x]) (ns ++ [n]))).toArray _ _)
                rw [withL_snoc _ _ _ _ _ (by have h1 := numsOf_len HNS.out; have h2 := HLE.out; simp at h1 ⊢; omega), HGC.out]
              · obtain ⟨g', e1, e2, e3⟩ := HI.out.2.1 i' x' hx'
                refine ⟨g', e1, e2, ?_⟩
                rw [H6.out, cell_heap (put5_other wc C _ (by omega))]
                exact Ext.cell ⟨wc, HB8.out⟩ e3
              · rw [H6.out]
                exact (HI.out.2.2.trans (HB8.out.mono (Nat.le_of_lt (Array.getElem?_eq_some_iff.1 HCC.out).1))).trans (put5_below _ _ _ (Nat.le_refl _))
            case measure => simp [intOf]; omega
        · have hge : ¬ (j : Int) < (l.length : Int) := by have := HLE.out; omega
          obtain ⟨ns, hns, hcc⟩ := HI.out.1
          have HOK := Lib.hid (show callR (hd :: tl) = .ok (withL ⟨i, 0, 0, 0, 0⟩ (l.take j) ns) by
            have h1 : l.take j = l := List.take_of_length_le (by have := HLE.out; omega)
            have h2 : tl.take j = tl := List.take_of_length_le (by omega)
            rw [h2] at hns
            rw [h1]
            have h3 := callR_ok (ws := hd :: tl) HO.out (by rw [← HLL.out]; show tl.length = _; rw [hm]; exact HLE.out) hns
            rw [h3, ← HLL.out])
          generalize withL ⟨i, 0, 0, 0, 0⟩ (l.take j) ns = cc at hcc HOK
          have hr := upk HB2'.out HX1.out
          have hr := ((HI.out.2.2.block _ (by rw [← hC]; exact (Array.getElem?_eq_some_iff.1 hr).1)).trans hr)
          have hlt := (Array.getElem?_eq_some_iff.1 HX1.out).1
          have HRR := Lib.hid hr
          have HBW := Lib.hid (show Below w.heap.size w wr from HB2.out.trans (HI.out.2.2.mono (by have := HB2.out.size; omega)))
          have x0 : wr.cell? ⟨C, 0, none⟩ = some (.int .i64 cc.op) := by simp [World.cell?, hcc, cacells]
          have x1 : wr.cell? ⟨C, 1, none⟩ = some (.int .i64 cc.key) := by simp [World.cell?, hcc, cacells]
          have x2 : wr.cell? ⟨C, 2, none⟩ = some (.int .i64 cc.val) := by simp [World.cell?, hcc, cacells]
          have x3 : wr.cell? ⟨C, 3, none⟩ = some (.int .i64 cc.hi) := by simp [World.cell?, hcc, cacells]
          have x4 : wr.cell? ⟨C, 4, none⟩ = some (.int .i64 cc.lim) := by simp [World.cell?, hcc, cacells]
          have y0 : wr.cell? ⟨w.heap.size, 0, none⟩ = some (.int .i64 0) := by simp [World.cell?, hr, cacells]
          have y1 : wr.cell? ⟨w.heap.size, 1, none⟩ = some (.int .i64 0) := by simp [World.cell?, hr, cacells]
          have y2 : wr.cell? ⟨w.heap.size, 2, none⟩ = some (.int .i64 0) := by simp [World.cell?, hr, cacells]
          have y3 : wr.cell? ⟨w.heap.size, 3, none⟩ = some (.int .i64 0) := by simp [World.cell?, hr, cacells]
          have y4 : wr.cell? ⟨w.heap.size, 4, none⟩ = some (.int .i64 0) := by simp [World.cell?, hr, cacells]
          have f0 : wr.frozen? ⟨w.heap.size, 0, none⟩ = false := by simp [World.frozen?, hr]
          have f1 : wr.frozen? ⟨w.heap.size, 1, none⟩ = false := by simp [World.frozen?, hr]
          have f2 : wr.frozen? ⟨w.heap.size, 2, none⟩ = false := by simp [World.frozen?, hr]
          have f3 : wr.frozen? ⟨w.heap.size, 3, none⟩ = false := by simp [World.frozen?, hr]
          have f4 : wr.frozen? ⟨w.heap.size, 4, none⟩ = false := by simp [World.frozen?, hr]
          clear hr hcc hns hlt
          go_wp2_with fail
          generalize hW6 : World.setCell _ _ _ = w6
          have H6 := Lib.hid (show w6 = put5 wr w.heap.size cc from hW6.symm)
          clear hW6
          have h6 : w6.heap[w.heap.size]? = some (.cells (cacells cc).toArray 26 (0, 0)) := by rw [H6.out]; exact put5_at cc HRR.out
          have z0 : w6.cell? ⟨w.heap.size, 0, none⟩ = some (.int .i64 cc.op) := by simp [World.cell?, h6, cacells]
          have z1 : w6.cell? ⟨w.heap.size, 1, none⟩ = some (.int .i64 cc.key) := by simp [World.cell?, h6, cacells]
          have z2 : w6.cell? ⟨w.heap.size, 2, none⟩ = some (.int .i64 cc.val) := by simp [World.cell?, h6, cacells]
          have z3 : w6.cell? ⟨w.heap.size, 3, none⟩ = some (.int .i64 cc.hi) := by simp [World.cell?, h6, cacells]
          have z4 : w6.cell? ⟨w.heap.size, 4, none⟩ = some (.int .i64 cc.lim) := by simp [World.cell?, h6, cacells]
          refine bodyPost_ret (v := .agg #[.int .i64 cc.op, .int .i64 cc.key, .int .i64 cc.val, .int .i64 cc.hi, .int .i64 cc.lim]) (by simp [results, Tryd.results21, go_sem, z0, z1, z2, z3, z4]) rfl ?_
          rw [HQ.out, HOK.out]
          exact ⟨rfl, by rw [H6.out]; exact HBW.out.trans (put5_below _ _ _ (Nat.le_refl _))⟩
    · rw [if_neg (by omega)] at he
      subst he
      have HE := Lib.hid (callR_len (ws := hd :: tl) HO.out (by rw [← HLL.out]; exact hlen))
      clear hlen
      go_wp2_with fail
      rw [HQ.out, HE.out]
      exact ⟨rfl, rfl, HB2.out.trans ((HX3.out.2.1.trans (HB4.out.mono (by have := HX3.out.2.2; omega))).trans (HB5.out.mono (by have := HB4.out.size; have := HX3.out.2.2; omega)) |>.mono HB2.out.size)⟩
end Go.Proofs.YtdgplijnhkgeiaaDoor
