/- Layer 35, histories: ReadHistory. (By gen_rvtd.py.) -/
import Derived.Test.YtdgplijnhkgeiaaDoorRvtC
namespace Go.Proofs.YtdgplijnhkgeiaaDoor
open Go.RowKit
open Go.Lib (cut itoa)
set_option linter.unusedVariables false
set_option linter.unusedSimpArgs false
def strLen : Value → Nat
  | .string b => b.size
  | _ => 0
theorem strLen_tx (l : List UInt8) : strLen (tx l) = l.length := by show l.toArray.size = _; simp
/-- Where the history stands that is read so far. -/
structure HB (w : World) (ov : Value) (acc : List (Ev × Value)) (V : World) : Prop where
  r : V.heap[w.heap.size]? = some (.cells #[ov] 39 (0, 0))
  e : V.heap[w.heap.size + 1]? = some (.cells #[.int .i64 0] 27 (0, 0))
  own : OwnV V (w.heap.size + 2) ov acc
  qs : ∀ p ∈ acc, OwnQ V (w.heap.size + 2) p.2 p.1.an.ps
  bl : Below w.heap.size w V
  sz : w.heap.size + 2 ≤ V.heap.size
theorem HB.on {w : World} {ov : Value} {acc : List (Ev × Value)} {V V' : World} (h : HB w ov acc V) (k : Below V.heap.size V V') : HB w ov acc V' :=
  ⟨upk k h.r, upk k h.e, World.ownsRow.kept h.own (grown_of_below k) (by cases ov.ownBlock <;> simp), fun p hp => World.ownsRow.kept (h.qs p hp) (grown_of_below k) (by cases p.2.ownBlock <;> simp), below_on h.bl k, Nat.le_trans h.sz k.size⟩
/-- An event is appended, and the row stored. -/
theorem HB.step {w : World} {ov ov' : Value} {acc : List (Ev × Value)} {V V' : World} {e : Ev} {v : Value} (h : HB w ov acc V) (hv : OwnQ V (w.heap.size + 2) v e.an.ps) (hown : OwnV V' (w.heap.size + 2) ov' (acc ++ [(e, v)])) (hg : V.grownBy V' ov.ownBlock) :
    HB w ov' (acc ++ [(e, v)]) (V'.setCell ⟨w.heap.size, 0, none⟩ ov') := by
  have hs := h.sz
  have n1 : some w.heap.size ≠ ov.ownBlock := fun e => by have := ownV_ge h.own _ e.symm; omega
  have n2 : some (w.heap.size + 1) ≠ ov.ownBlock := fun e => by have := ownV_ge h.own _ e.symm; omega
  have r1 := (hg.block w.heap.size (by omega) n1).trans h.r
  have e1 := (hg.block (w.heap.size + 1) (by omega) n2).trans h.e
  refine ⟨heap_setCell_same V' w.heap.size 0 _ _ ov' r1, (heap_setCell_other V' ⟨w.heap.size, 0, none⟩ _ ov' (by show w.heap.size + 1 ≠ w.heap.size; omega)).trans e1, ownsRow_setCell_below hown (a := ⟨w.heap.size, 0, none⟩) (by show w.heap.size < w.heap.size + 2; omega) _, fun p hp => ?_, (h.bl.grown hg (by omega) (fun k hk => by have := ownV_ge h.own k hk; omega)).setCell (p := ⟨w.heap.size, 0, none⟩) (Nat.le_refl _) _, by have := hg.size; simp [World.setCell]; omega⟩
  refine ownsRow_setCell_below ?_ (a := ⟨w.heap.size, 0, none⟩) (by show w.heap.size < w.heap.size + 2; omega) _
  rcases List.mem_append.1 hp with hp | hp
  · exact World.ownsRow.kept (h.qs p hp) hg (ownQV_ne (h.qs p hp) h.own)
  · rw [List.mem_singleton.1 hp]
    exact World.ownsRow.kept hv hg (ownQV_ne hv h.own)
theorem leaves_of_results {P : Program} {fn : Func} {R : Ending → World → Prop} {t1 t2 : Array Value} (h : results fn t1 = results fn t2) : ∀ (ds : List Deferred) (u : FrameMode) (w : World), Leaves P fn t1 R ds u w → Leaves P fn t2 R ds u w
  | [], .returning, w, hh => by
    obtain ⟨v, h1, h2⟩ := hh
    exact ⟨v, by rw [← h]; exact h1, h2⟩
  | [], .panicking chain, w, hh => hh
  | [], .run, w, hh => hh
  | d :: ds, u, w, hh => by
    obtain ⟨hu, fv, cap, f, args, h1, h2, h3⟩ := hh
    refine ⟨hu, fv, cap, f, args, h1, h2, h3.mono fun e u' w' hp => ?_⟩
    cases e with
    | returned v => exact leaves_of_results h ds _ _ hp
    | panicked c => exact leaves_of_results h ds _ _ hp
    | outgrown => exact hp
theorem res_put {d : Nat} (hd : d ≠ 2 ∧ d ≠ 3) (t : Array Value) (v : Value) : results Tryd.f13 (t.setIfInBounds d v) = results Tryd.f13 t := by
  simp [results, Tryd.results13, Array.getElem?_setIfInBounds_ne hd.1, Array.getElem?_setIfInBounds_ne hd.2]
theorem leaves_put {Q : Ending → World → Prop} {d : Nat} {v : Value} {c : List PanicEntry} {a : Act} {w : World} (hd : d ≠ 2 ∧ d ≠ 3) (h : bodyPostD Tryd.prog Tryd.f13 Q (Exit.panic c) (a.put (some d) v) w) : bodyPostD Tryd.prog Tryd.f13 Q (Exit.panic c) a w :=
  leaves_of_results (res_put hd a.tmps v) _ _ _ h
theorem HB.ends {w : World} {ov : Value} {acc : List (Ev × Value)} {V : World} (h : HB w ov acc V) :
    HB w ov acc ((V.setCell ⟨w.heap.size, 0, none⟩ ov).setCell ⟨w.heap.size + 1, 0, none⟩ (.int .i64 0)) := by
  have hs := h.sz
  refine ⟨(heap_setCell_other _ ⟨w.heap.size + 1, 0, none⟩ _ _ (by show w.heap.size ≠ w.heap.size + 1; omega)).trans (heap_setCell_same V w.heap.size 0 _ _ ov h.r), heap_setCell_same _ (w.heap.size + 1) 0 _ _ _ ((heap_setCell_other V ⟨w.heap.size, 0, none⟩ _ ov (by show w.heap.size + 1 ≠ w.heap.size; omega)).trans h.e), ?_, fun p hp => ?_, (h.bl.setCell (p := ⟨w.heap.size, 0, none⟩) (Nat.le_refl _) _).setCell (p := ⟨w.heap.size + 1, 0, none⟩) (by show w.heap.size ≤ w.heap.size + 1; omega) _, by simp [World.setCell]; omega⟩
  · exact ownsRow_setCell_below (ownsRow_setCell_below h.own (a := ⟨w.heap.size, 0, none⟩) (by show w.heap.size < w.heap.size + 2; omega) _) (a := ⟨w.heap.size + 1, 0, none⟩) (by show w.heap.size + 1 < w.heap.size + 2; omega) _
  · exact ownsRow_setCell_below (ownsRow_setCell_below (h.qs p hp) (a := ⟨w.heap.size, 0, none⟩) (by show w.heap.size < w.heap.size + 2; omega) _) (a := ⟨w.heap.size + 1, 0, none⟩) (by show w.heap.size + 1 < w.heap.size + 2; omega) _
set_option maxRecDepth 16000 in
set_option maxHeartbeats 4000000 in
theorem treadhist (s : List UInt8) (w : World) (hs : s.length ≤ 4000) (hv : VB w.heap.size w) :
    Calls Tryd.prog 13 #[tx s] w fun e w' => ∃ v, e = .returned (.tuple #[v, .int .i64 (hisP (histL (splitL 10 s))).2]) ∧ VL w' v (hisP (histL (splitL 10 s))).1 ∧ Below w.heap.size w w' := by
  refine Calls.veil fun Q HQ => ?_
  have hmf : ∀ (fn : Fn) (first cap : Array Value) (w : World), (Instr.makeFunc fn first cap).run Tryd.prog w = .ok (.func fn first cap) w := fun _ _ _ _ => rfl
  have HV := Lib.hid hv
  have HS := Lib.hid hs
  obtain ⟨r0, hr0⟩ : ∃ r, r = histL (splitL 10 s) := ⟨_, rfl⟩
  rw [← hr0] at HQ
  have HR0 := Lib.hid hr0
  clear hv hs hr0
  go_enter_defers Tryd.func13, Tryd.ntmps13
  go_upto_region 2 with fail
  generalize hV : World.alloc _ _ = V
  have F0 := Lib.hid (show HB w (.slice none 0 0) [] V by
    rw [← hV]
    refine ⟨(Below.heap_alloc _ _ _ (by simp)).trans (heap_alloc_new w _), ?_, ownV_nil _ _, (fun p hp => by cases hp), ((Below.refl _ _).alloc (Nat.le_refl _) _).alloc (by simp) _, by simp⟩
    have := heap_alloc_new (w.alloc (.cells #[.slice none 0 0] 39)) (.cells #[.int .i64 0] 27)
    simp only [World.size_alloc] at this
    exact this)
  clear hV
  go_wp2_with fail
  go_loopw [0, 4, 5, 6] (fun sv _ _ _ wr => ∃ (s' : List UInt8) (acc : List (Ev × Value)) (ov : Value), acc.length + s'.length ≤ 4000 ∧ sv = tx s' ∧ Hid (r0 = preR (acc.map Prod.fst) (histL (splitL 10 s'))) ∧ Hid (HB w ov acc wr))
    (fun sv _ _ _ _ => strLen sv)
  case atStart => exact ⟨s, [], _, by simpa using HS.out, rfl, Lib.hid (by rw [HR0.out]; exact (preR_nil _).symm), F0⟩
  case round =>
    obtain ⟨s', acc, ov, hlen, rfl, HI, HW⟩ := hrel
    obtain ⟨p, c, rfl⟩ := ownV_slice HW.out.own
    by_cases hs' : s' = []
    · subst hs'
      have HOK := Lib.hid (show r0 = .ok (acc.map Prod.fst) by rw [HI.out, show splitL 10 [] = [[]] from rfl, hist_last0]; simp [preR])
      have y0 : wr.cell? ⟨w.heap.size, 0, none⟩ = some (.slice p acc.length c) := rowc HW.out.r _ rfl
      have y1 : wr.cell? ⟨w.heap.size + 1, 0, none⟩ = some (.int .i64 0) := rowc HW.out.e _ rfl
      have f0 : ∀ i, wr.frozen? ⟨w.heap.size, i, none⟩ = false := fun i => frozen_of_row _ _ _ _ _ HW.out.r
      have f1 : ∀ i, wr.frozen? ⟨w.heap.size + 1, i, none⟩ = false := fun i => frozen_of_row _ _ _ _ _ HW.out.e
      clear hlen
      go_wp2_with fail
      generalize hW6 : World.setCell _ _ _ = w6
      have H6 := Lib.hid (show HB w (.slice p acc.length c) acc w6 by
        rw [← hW6]
        exact HW.out.ends)
      clear hW6 y0 y1 f0 f1
      refine leaves_cons (f := 29) (args := #[.pointer (some ⟨w.heap.size, 0, none⟩), .pointer (some ⟨w.heap.size + 1, 0, none⟩)]) (by simp) (by simp [go_sem]) ?_
      refine (catchh_idle _ _ w6).mono ?_
      rintro e u' w9 ⟨rfl, rfl, h3⟩
      show Leaves _ _ _ _ [] .returning _
      have H9 := H6.out.on h3
      have x0 := rowc H9.r (i := 0) _ rfl
      have x1 := rowc H9.e (i := 0) _ rfl
      simp only [List.getElem_toArray, List.getElem_cons_zero] at x0 x1
      refine ⟨.tuple #[.slice p acc.length c, .int .i64 0], by simp [results, Tryd.results13, go_sem, x0, x1], ?_⟩
      rw [HQ.out, HOK.out]
      exact ⟨_, rfl, ownV_VL H9.own H9.qs, H9.bl⟩
    · have HNE := Lib.hid hs'
      have k2 : (s' == []) = false := beq_eq_false_iff_ne.2 hs'
      have HC := Lib.hid (tcut s' 10 wr (by omega))
      have HSP := cut_split 10 s'
      have HSM := Lib.hid (cutL_len 10 s')
      have HCW := Lib.hid (cut_words 10 s')
      have HCM := Lib.hid (fun (h : (cut s' [10]).2.2 = false) => cut_miss (c := 10) (l := s') h)
      obtain ⟨line, hf⟩ : ∃ f, f = (cut s' [10]).1 := ⟨_, rfl⟩
      obtain ⟨ended, hok⟩ : ∃ f, f = (cut s' [10]).2.2 := ⟨_, rfl⟩
      obtain ⟨rest, hb2⟩ : ∃ f, f = (cut s' [10]).2.1 := ⟨_, rfl⟩
      rw [← hf, ← hok, ← hb2] at HSP HC
      rw [← hok, ← hb2] at HSM
      rw [← hf, ← hb2] at HCW
      rw [← hf, ← hok, ← hb2] at HCM
      have HSP := Lib.hid HSP
      have HLN := Lib.hid hlen
      clear hf hok hb2 hlen
      go_wp2_with fail
      refine HC.out.mono ?_; rintro _ w1 ⟨rfl, hb⟩
      have HW1 := Lib.hid (HW.out.on hb)
      clear hb HC HW
      go_wp2_with fail
      have y0 : w1.cell? ⟨w.heap.size, 0, none⟩ = some (.slice p acc.length c) := rowc HW1.out.r _ rfl
      have HL0 := Lib.hid (show ∀ W, Below w1.heap.size w1 W → (Instr.loadAt 39 (.pointer (some ⟨w.heap.size, 0, none⟩))).run Tryd.prog W = .ok (.slice p acc.length c) W from fun W h => by
        have y0 := Ext.cell ⟨W, h⟩ y0
        simp only at y0
        go_simp)
      clear y0
      refine wp_region_K (fun W => Below w1.heap.size w1 W) 4 (by decide +kernel) ?_
      (refine wpAnyK_take (i := 0) (v := .slice p acc.length c) [4] rfl (by decide +kernel) (by decide +kernel) (by decide +kernel) (by decide +kernel) (fun _ _ _ h => leaves_put (by decide) h) (yields_loadK rfl 39 (.tmp 2) rfl rfl HL0.out) ((Below.refl _ _).drew) ?_)
      (try simp only [List.getElem_toArray, List.getElem_cons_succ, List.getElem_cons_zero, Act.put, List.setIfInBounds_toArray, List.set_cons_succ, List.set_cons_zero])
      (refine wpAnyK_takeY (i := 1) (v := ?_) rfl (by decide +kernel) (by decide +kernel) (by decide +kernel) (by decide) (fun _ _ _ h => leaves_put (by decide) h) (Or.inl ⟨by rfl, ?_⟩) (.inr ((Below.refl _ _).drew)) ?_; rotate_left; (intro w; go_simp); (try with_reducible rfl))
      (try simp only [List.getElem_toArray, List.getElem_cons_succ, List.getElem_cons_zero, Act.put, List.setIfInBounds_toArray, List.set_cons_succ, List.set_cons_zero])
      refine wpAnyK_ready (rs := [2]) (by decide +kernel) (by simp) ?_
      refine (AllReadyK.cons rfl (fun K hK => ?_) AllReadyK.nil)
      refine step_of rfl ?_
      go_step
      have HWD := Lib.hid (HW1.out.on (Below.refl _ _).drew)
      have HTE := toevent line w1.drew (by have := HCW.out.1; have := HLN.out; omega) ((HV.out.below HWD.out.bl).up HWD.out.bl.size)
      cases hev : eventW (splitL 32 line) with
      | error y =>
        have HOK := Lib.hid (show r0 = .error y by
          rw [HI.out]
          cases he : ended with
          | true => rw [HSP.out, if_pos he, hist_no (splitL_ne 10 _) hev]; rfl
          | false => rw [HSP.out, if_neg (by rw [he]; decide), hist_last_no (by rw [(HCM.out he).1]; exact HNE.out) hev]; rfl)
        rw [hev] at HTE
        refine HTE.mono ?_; rintro _ wn ⟨hx, hbn⟩
        have hx : _ = wrP y := hx
        subst hx
        have HWN := Lib.hid (HWD.out.on hbn)
        clear hbn HTE hev
        show bodyPostD Tryd.prog Tryd.f13 Q (Exit.panic _) _ wn
        refine leaves_cons (f := 29) (args := #[.pointer (some ⟨w.heap.size, 0, none⟩), .pointer (some ⟨w.heap.size + 1, 0, none⟩)]) (by simp) (by simp [go_sem]) ?_
        refine (catchh w.heap.size (w.heap.size + 1) _ 0 y [] _ HWN.out.r HWN.out.e (by omega)).mono ?_
        rintro e u' w9 ⟨rfl, rfl, h1, h2, h3⟩
        show Leaves _ _ _ _ [] .returning _
        have x0 := rowc h1 (i := 0) _ rfl
        have x1 := rowc h2 (i := 0) _ rfl
        simp only [List.getElem_toArray, List.getElem_cons_zero] at x0 x1
        refine ⟨.tuple #[.slice none 0 0, .int .i64 y], by simp [results, Tryd.results13, go_sem, x0, x1], ?_⟩
        rw [HQ.out, HOK.out]
        exact ⟨_, rfl, .nil _, HWN.out.bl.trans (h3 _ (Nat.le_refl _) (by omega) HWN.out.bl.size)⟩
      | ok ev =>
        rw [hev] at HTE
        refine HTE.mono ?_; rintro _ wn ⟨⟨v, hx, hown⟩, hbn⟩
        have HEV := Lib.hid hev
        obtain ⟨th, bk, ⟨cop, ckey, cval, chi, clim⟩, ⟨ak, akey, aval, an, ps⟩⟩ := ev
        have hx : _ = Ending.returned (.agg #[.int .i64 th, .bool bk, .int .i64 cop, .int .i64 ckey, .int .i64 cval, .int .i64 chi, .int .i64 clim, .int .i64 ak, .int .i64 akey, .int .i64 aval, .int .i64 an, v]) := hx
        subst hx
        have HO := Lib.hid (show OwnQ wn (w.heap.size + 2) v ps from ownQ_mono hown HWD.out.sz)
        obtain ⟨q, qc, rfl⟩ := ownQ_slice hown
        have HWN := Lib.hid (HWD.out.on hbn)
        have HBR := Lib.hid (show Below w1.heap.size w1 wn from (Below.refl _ _).drew.trans hbn)
        clear hbn HTE hev hown
        refine hK _ _ (.inr HBR.out) ?_
        clear hK K
        (try simp only [List.getElem_toArray, List.getElem_cons_succ, List.getElem_cons_zero, Act.put, List.setIfInBounds_toArray, List.set_cons_succ, List.set_cons_zero])
        refine wpAnyK_ready (rs := [3]) (by decide +kernel) (by simp) ?_
        refine (AllReadyK.cons rfl (fun K hK => ?_) AllReadyK.nil)
        refine step_of rfl ?_
        go_step
        have HBA := Lib.hid (show Below w1.heap.size w1 (wn.alloc (.cells #[.int .i64 th, .bool bk, .int .i64 cop, .int .i64 ckey, .int .i64 cval, .int .i64 chi, .int .i64 clim, .int .i64 ak, .int .i64 akey, .int .i64 aval, .int .i64 an, .slice q ps.length qc] 45)) from HBR.out.alloc HBR.out.size _)
        refine hK _ _ (.inr HBA.out) ?_
        clear hK K
        have HC0 := Lib.hid (new_cells wn (evcells ⟨th, bk, ⟨cop, ckey, cval, chi, clim⟩, ⟨ak, akey, aval, an, ps⟩⟩ (.slice q ps.length qc)) 45)
        have HWA := Lib.hid (HWN.out.on ((Below.refl wn.heap.size wn).alloc (Nat.le_refl _) (.cells #[.int .i64 th, .bool bk, .int .i64 cop, .int .i64 ckey, .int .i64 cval, .int .i64 chi, .int .i64 clim, .int .i64 ak, .int .i64 akey, .int .i64 aval, .int .i64 an, .slice q ps.length qc] 45)))
        have HOA := Lib.hid (show OwnQ (wn.alloc (.cells #[.int .i64 th, .bool bk, .int .i64 cop, .int .i64 ckey, .int .i64 cval, .int .i64 chi, .int .i64 clim, .int .i64 ak, .int .i64 akey, .int .i64 aval, .int .i64 an, .slice q ps.length qc] 45)) (w.heap.size + 2) (.slice q ps.length qc) ps from World.ownsRow.alloc HO.out _)
        have HC0 : Hid (∀ j u, (evcells ⟨th, bk, ⟨cop, ckey, cval, chi, clim⟩, ⟨ak, akey, aval, an, ps⟩⟩ (.slice q ps.length qc))[j]? = some u → (wn.alloc (.cells #[.int .i64 th, .bool bk, .int .i64 cop, .int .i64 ckey, .int .i64 cval, .int .i64 chi, .int .i64 clim, .int .i64 ak, .int .i64 akey, .int .i64 aval, .int .i64 an, .slice q ps.length qc] 45)).cell? ⟨wn.heap.size, j, none⟩ = some u) := HC0
        generalize wn.alloc (.cells #[.int .i64 th, .bool bk, .int .i64 cop, .int .i64 ckey, .int .i64 cval, .int .i64 chi, .int .i64 clim, .int .i64 ak, .int .i64 akey, .int .i64 aval, .int .i64 an, .slice q ps.length qc] 45) = wa at *
        (try simp only [List.getElem_toArray, List.getElem_cons_succ, List.getElem_cons_zero, Act.put, List.setIfInBounds_toArray, List.set_cons_succ, List.set_cons_zero])
        refine wpAnyK_ready (rs := [4]) (by decide +kernel) (by simp) ?_
        refine (AllReadyK.cons rfl (fun K hK => ?_) AllReadyK.nil)
        refine step_of rfl ?_
        refine wp_append_v1 (.tmp 16) (.tmp 19) rfl (w.heap.size + 2) (.slice p acc.length c) acc ⟨th, bk, ⟨cop, ckey, cval, chi, clim⟩, ⟨ak, akey, aval, an, ps⟩⟩ q ps.length qc wn.heap.size 1 rfl HWA.out.own rfl HC0.out (by have := HLN.out; omega) HWA.out.sz ?_
        intro v' w8 hown' hg
        have H9 := Lib.hid (HWA.out.step HOA.out hown' hg)
        have hr8 := (hg.block w.heap.size (by have := HWA.out.sz; omega) (fun e => by have := ownV_ge HWA.out.own _ e.symm; omega)).trans HWA.out.r
        obtain ⟨p2, c2, hv2⟩ := ownV_slice hown'
        rw [show (acc ++ [((⟨th, bk, ⟨cop, ckey, cval, chi, clim⟩, ⟨ak, akey, aval, an, ps⟩⟩ : Ev), Value.slice q ps.length qc)]).length = acc.length + 1 by simp] at hv2
        subst hv2
        clear hown' hg
        refine hK _ _ (.inl rfl) ?_
        clear hK K
        (try simp only [List.getElem_toArray, List.getElem_cons_succ, List.getElem_cons_zero, Act.put, List.setIfInBounds_toArray, List.set_cons_succ, List.set_cons_zero])
        have x4 : w8.cell? ⟨w.heap.size, 0, none⟩ = some (.slice p acc.length c) := rowc hr8 _ rfl
        have f4 : w8.frozen? ⟨w.heap.size, 0, none⟩ = false := frozen_of_row _ _ _ _ _ hr8
        clear hr8
        refine wpAnyK_ready (rs := [5]) (by decide +kernel) (by simp) ?_
        refine (AllReadyK.cons rfl (fun K hK => ?_) AllReadyK.nil)
        refine step_of rfl ?_
        go_step
        refine hK _ _ (.inl rfl) ?_
        clear hK K
        refine wpAnyK_done (by decide +kernel) ?_ _
        clear x4 f4
        generalize hW9 : World.setCell _ _ _ = w9
        rw [hW9] at H9
        clear hW9 HWA HOA HC0 HBA HBR HWN HO HWD HW1 HL0
        cases he : ended with
        | false =>
          have HOK := Lib.hid (show r0 = .error 5 by rw [HI.out, HSP.out, if_neg (by rw [he]; decide), hist_last_ok (by rw [(HCM.out he).1]; exact HNE.out) HEV.out]; rfl)
          clear he
          go_wp2_with fail
          refine leaves_cons (f := 29) (args := #[.pointer (some ⟨w.heap.size, 0, none⟩), .pointer (some ⟨w.heap.size + 1, 0, none⟩)]) (by simp) (by simp [go_sem]) ?_
          refine (catchh w.heap.size (w.heap.size + 1) _ 0 5 [] _ H9.out.r H9.out.e (by omega)).mono ?_
          rintro e u' w9 ⟨rfl, rfl, h1, h2, h3⟩
          show Leaves _ _ _ _ [] .returning _
          have x0 := rowc h1 (i := 0) _ rfl
          have x1 := rowc h2 (i := 0) _ rfl
          simp only [List.getElem_toArray, List.getElem_cons_zero] at x0 x1
          refine ⟨.tuple #[.slice none 0 0, .int .i64 5], by simp [results, Tryd.results13, go_sem, x0, x1], ?_⟩
          rw [HQ.out, HOK.out]
          exact ⟨_, rfl, .nil _, H9.out.bl.trans (h3 _ (Nat.le_refl _) (by omega) H9.out.bl.size)⟩
        | true =>
          have HIN := Lib.hid (show r0 = preR ((acc ++ [((⟨th, bk, ⟨cop, ckey, cval, chi, clim⟩, ⟨ak, akey, aval, an, ps⟩⟩ : Ev), Value.slice q ps.length qc)]).map Prod.fst) (histL (splitL 10 rest)) by
            rw [HI.out, HSP.out, if_pos he, hist_ok _ (splitL_ne 10 _) HEV.out]
            simp)
          have hlt : rest.length < s'.length := HSM.out he
          clear he
          go_wp2_with fail
          go_roundw
          case rel => exact ⟨rest, _, _, by have := HLN.out; simp; omega, rfl, HIN, H9⟩
          case measure => rw [strLen_tx, strLen_tx]; exact hlt
end Go.Proofs.YtdgplijnhkgeiaaDoor
