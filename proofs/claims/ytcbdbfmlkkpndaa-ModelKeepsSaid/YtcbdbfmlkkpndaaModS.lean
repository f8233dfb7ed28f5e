/- Layer 10: a state of the program's as the reference's. -/
import Derived.Test.YtcbdbfmlkkpndaaModR
import Derived.Deep.RegionLaw
import Derived.Deep.AppendLies
namespace Go.Proofs.Ytcbdbfmlkkpndaa
open Go.RowKit
set_option linter.unusedVariables false
set_option linter.unusedSimpArgs false
/-- Sessions under way, in a row of their own. -/
def GrX (w : World) (B : Nat) (v : Value) (n : Nat) (L : Nat → Se) (fv : Nat → Value) : Prop :=
  w.ownsRow B 61 4 v n ((List.range (n * 4)).map (cell4 L fv))
theorem GrX.slice {w : World} {B : Nat} {v : Value} {n : Nat} {L : Nat → Se} {fv : Nat → Value} (h : GrX w B v n L fv) : ∃ p c, v = .slice p n c := by
  rcases h.2 with ⟨rfl, hn⟩ | ⟨g, cap, cur, rfl, _⟩
  · subst hn; exact ⟨_, _, rfl⟩
  · exact ⟨_, _, rfl⟩
theorem GrX.own {w : World} {B : Nat} {v : Value} {n : Nat} {L : Nat → Se} {fv : Nat → Value} (h : GrX w B v n L fv) (hp : ∀ i, i < n → PO w (fv i) (L i).fz) : OwnT 61 w B v n L fv := by
  rcases h.2 with ⟨rfl, hn⟩ | ⟨g, cap, cur, rfl, hg, hh, hc, hm, hs2, ht⟩
  · exact ⟨hp, .inl ⟨hn, .inl rfl⟩⟩
  · exact ⟨hp, .inr ⟨g, cap, rfl, hc, hm, hg, cur, hh, ht⟩⟩
theorem GrX.below {w w' : World} {B : Nat} {v : Value} {n : Nat} {L : Nat → Se} {fv : Nat → Value} (h : GrX w B v n L fv) (k : Below w.heap.size w w') : GrX w' B v n L fv := by
  rcases h.2 with hn | ⟨g, cap, cur, rfl, hg, hh, rest⟩
  · exact ⟨h.1, .inl hn⟩
  · exact ⟨h.1, .inr ⟨g, cap, cur, rfl, hg, (k.block _ (Array.getElem?_eq_some_iff.1 hh).1).trans hh, rest⟩⟩
theorem c4_succ (L : Nat → Se) (fv : Nat → Value) (i : Nat) (x : Value) : (List.range (i * 4)).map (cell4 L fv) ++ [.bool (L i).j, .bool (L i).o, x, .int .i64 (L i).pt] = (List.range ((i + 1) * 4)).map (cell4 L (updW fv i x)) := by
  have e : (i + 1) * 4 = i * 4 + 1 + 1 + 1 + 1 := by omega
  rw [e, List.range_succ, List.range_succ, List.range_succ, List.range_succ]
  simp only [List.map_append, List.map_cons, List.map_nil, List.append_assoc, List.cons_append, List.nil_append]
  congr 1
  · apply List.map_congr_left
    intro j hj
    rw [List.mem_range] at hj
    rw [← cell4_updW, if_neg (by omega)]
  · rw [cell4_0, cell4_1, cell4_2, cell4_3]
    unfold updW
    rw [if_pos rfl]
/-- A session more, at a step of a region that draws. -/
theorem step_append_x {ops : Array Oper} {o : Oper} {a : Act} {w : World} {K : Act → World → Prop} {Q : Exit → Act → World → Prop} {E : Prop} (hgd : o.guard = none) (s x : Operand)
    (ho : o.op = .call { callee := .builtin .append, args := #[s, x], argTypes := #[29, 29] })
    (B : Nat) (v : Value) (n : Nat) (L : Nat → Se) (fv : Nat → Value) (p : Option Addr) (m c2 : Nat) (hs : a.eval s = v) (hown : GrX w B v n L fv) (ad : Addr) (c : Nat) (hx : a.eval x = .slice (some ad) 1 c)
    (hc : ∀ j u, ([.bool (L n).j, .bool (L n).o, .slice p m c2, .int .i64 (L n).pt] : List Value)[j]? = some u → w.cell? (ad.add j) = some u) (hlen : n ≤ 1000) (hB : B ≤ w.heap.size)
    (R : Nat) (mv : Value) (hR : w.heap[R]? = some (.cells #[mv, v] 31 (0, 0))) (hRB : R < B)
    (h : ∀ g cap w', GrX w' B (.slice (some ⟨g, 0, none⟩) (n + 1) cap) (n + 1) L (updW fv n (.slice p m c2)) → w.grownBy w' v.ownBlock → w'.heap[R]? = some (.cells #[mv, v] 31 (0, 0)) → w'.cell? ⟨R, 0, none⟩ = some mv → w'.cell? ⟨R, 1, none⟩ = some v → (∀ i, w'.frozen? ⟨R, i, none⟩ = false) → K (a.put o.dst (.slice (some ⟨g, 0, none⟩) (n + 1) cap)) w') :
    if Region.wanted o (yielded ops a.tmps) = true then Oper.wp Try.prog o a w K Q else E := by
  obtain ⟨i0, hi, hz0, hz1, hz2⟩ := info_parts infoX
  refine step_append_lies w hgd s x 29 ho B 61 i0 _ 4 40 uXs hi hz0 hz1 hz2 rfl (by decide) v n _ hs hown ad 1 c [.bool (L n).j, .bool (L n).o, .slice p m c2, .int .i64 (L n).pt] hx rfl hc ?_ (by decide) (by unfold maxLen; omega) (by omega) hB _ rfl ?_
  · intro u hu
    simp only [List.mem_cons, List.not_mem_nil, or_false] at hu
    rcases hu with rfl | rfl | rfl | rfl <;> rfl
  · intro g cap w' h4 h5 _ _
    have hR' : w'.heap[R]? = some (.cells #[mv, v] 31 (0, 0)) := (h5.block R (Array.getElem?_eq_some_iff.1 hR).1 (fun e => by
      have := (World.ownsRow.lt hown) R e.symm
      omega)).trans hR
    refine h g cap w' ?_ h5 hR' (by rw [cell_of_row _ _ _ _ _ (0, 0) hR']; rfl) (by rw [cell_of_row _ _ _ _ _ (0, 0) hR']; rfl) (fun i => frozen_of_row _ _ _ _ _ hR')
    unfold GrX
    rw [← c4_succ]
    exact h4
theorem grx_next {U wr W w2 : World} {B R : Nat} {mv v v' : Value} {n m : Nat} {L : Nat → Se} {fv fv' : Nat → Value} (hown : GrX w2 B v' m L fv') (hRB : R < B) (hr2 : w2.heap[R]? = some (.cells #[mv, v] 31 (0, 0))) (hold : GrX wr B v n L fv) (_ : R < B) (hk : KX [R] U wr) (hW : Below wr.heap.size wr W) (hg : W.grownBy w2 v.ownBlock) (hB : B = U.heap.size) :
    GrX (w2.setCell ⟨R, 1, none⟩ v') B v' m L fv' ∧ (w2.setCell ⟨R, 1, none⟩ v').heap[R]? = some (.cells #[mv, v'] 31 (0, 0)) ∧ KX [R] U (w2.setCell ⟨R, 1, none⟩ v') := by
  refine ⟨?_, ?_, ?_⟩
  · rcases hown.2 with hn | ⟨g, cap, cur, rfl, hg, hh, rest⟩
    · exact ⟨hown.1, .inl hn⟩
    · exact ⟨hown.1, .inr ⟨g, cap, cur, rfl, hg, (Below.heap_setCell _ _ _ _ (by show g ≠ R; omega)).trans hh, rest⟩⟩
  · rw [heap_setCell_same _ R 1 _ _ _ hr2]; rfl
  · have hs : U.heap.size ≤ wr.heap.size := hk.size
    refine ⟨hg.os.trans (hW.os.trans hk.os), hg.tape.trans (hW.tape.trans hk.tape), hg.output.trans (hW.output.trans hk.output), ?_, fun k hk2 hx => ?_⟩
    · have := hW.size; have := hg.size; simp; omega
    · simp only [List.mem_singleton] at hx
      rw [Below.heap_setCell _ _ _ _ (by show k ≠ R; exact hx), hg.block k (by have := hW.size; omega) (fun e => by have := (World.ownsRow.lt hold) k e.symm; omega), hW.block k (by omega), hk.block k hk2 (by simpa using hx)]
theorem heap3 (w : World) (a b c : Obj) : let U := ((w.alloc a).alloc b).alloc c
    U.heap[w.heap.size]? = some a ∧ U.heap[w.heap.size + 1]? = some b ∧ U.heap[w.heap.size + 1 + 1]? = some c ∧ U.heap.size = w.heap.size + 3 := by
  intro U
  have s1 : (w.alloc a).heap.size = w.heap.size + 1 := by simp
  have s2 : ((w.alloc a).alloc b).heap.size = w.heap.size + 1 + 1 := by simp
  have n0 := heap_alloc_new w a
  have n1 := heap_alloc_new (w.alloc a) b
  have n2 := heap_alloc_new ((w.alloc a).alloc b) c
  rw [s1] at n1; rw [s2] at n2
  have k : ∀ (W : World) (o : Obj) (j : Nat), j < W.heap.size → (W.alloc o).heap[j]? = W.heap[j]? := fun W o j hj => Below.heap_alloc _ _ _ hj
  refine ⟨?_, ?_, n2, by simp [U]⟩
  · rw [k _ _ _ (by omega), k _ _ _ (by omega)]; exact n0
  · rw [k _ _ _ (by omega)]; exact n1
set_option maxRecDepth 16000 in
set_option maxHeartbeats 4000000 in
theorem las {w : World} {st : Sm} {mv tv : Value} (hp : PR w mv st.mp) (ht : TR w tv st.n st.th) (hn6 : st.n ≤ 6) :
    Calls Try.prog 13 #[.agg #[mv, tv]] w fun e w' => ∃ tv', e = .returned (.agg #[mv, tv']) ∧ TR w' tv' st.n st.th ∧ Below w.heap.size w w' := by
  refine Calls.veil fun Q HQ => ?_
  obtain ⟨p, c, rfl, _, _⟩ := hp.slice
  obtain ⟨q, d, rfl, a1, a2, A3⟩ := ht.slice
  clear hp ht
  go_enter Try.func13, Try.ntmps13
  go_upto_region 2 with fail
  have h3 := heap3 w (.cells #[.slice p st.mp.length c, .slice q st.n d] 27) (.cells #[.slice none 0 0, .slice none 0 0] 31) (.cells #[.slice p st.mp.length c, .slice none 0 0] 31)
  simp only at h3
  have hBU : Below w.heap.size w (((w.alloc (.cells #[.slice p st.mp.length c, .slice q st.n d] 27)).alloc (.cells #[.slice none 0 0, .slice none 0 0] 31)).alloc (.cells #[.slice p st.mp.length c, .slice none 0 0] 31)) := by (repeat (first | exact Below.refl _ _ | assumption | refine below_new ?_ _ | refine Below.drew ?_ | refine below_drewN ?_ _ | refine below_on ?_ (by assumption)))
  generalize hU : World.alloc _ _ = U at h3 hBU
  clear hU
  obtain ⟨u0, u1, u2, u3⟩ := h3
  have HBU := Lib.hid hBU
  have HU1 := Lib.hid u1
  have HUS := Lib.hid u3
  obtain ⟨B, hB⟩ : ∃ B, B = U.heap.size := ⟨_, rfl⟩
  have HBE := Lib.hid hB
  obtain ⟨R, hR⟩ : ∃ R, R = w.heap.size + 1 + 1 := ⟨_, rfl⟩
  have HRE := Lib.hid hR
  have z1 : U.cell? ⟨w.heap.size, 1, none⟩ = some (.slice q st.n d) := by rw [cell_of_row _ _ _ _ _ (0, 0) u0]; rfl
  have HU2 := Lib.hid u2
  rw [← hR] at HU2 ⊢
  clear hBU u0 u1 u2 u3 hB hR
  go_wp2_with fail
  go_loopw [4] (fun iv wr => ∃ i : Nat, i ≤ st.n ∧ iv = .int .i64 i ∧ ∃ (fv : Nat → Value) (tv : Value), Hid (GrX wr B tv i st.th fv) ∧ Hid (∀ k, k < i → PO w (fv k) (st.th k).fz) ∧ Hid (wr.heap[R]? = some (.cells #[.slice p st.mp.length c, tv] 31 (0, 0))) ∧ Hid (KX [R] U wr))
    (fun iv _ => st.n - (intOf iv).toNat)
  case atStart => exact ⟨0, by omega, rfl, fun _ => undef, _, Lib.hid (World.ownsRow_nil _ _ _ _), Lib.hid (fun k hk => by omega), HU2, Lib.hid (KX.of_below (Below.refl _ _))⟩
  case round =>
    obtain ⟨i, hi, rfl, fv, tv, HG, HPO, HR, HK⟩ := hrel
    have hw0 : w.heap.size < U.heap.size := by have := HUS.out; omega
    have z1 : wr.cell? ⟨w.heap.size, 1, none⟩ = some (.slice q st.n d) := (World.cell?_of_block (a := ⟨w.heap.size, 1, none⟩) (HK.out.block _ hw0 (by have := HRE.out; simp; omega))).trans z1
    rcases (by omega : i < st.n ∨ i = st.n) with hlt | heq
    · obtain ⟨T, fa, rfl, hA⟩ := A3.out i hlt
      have hbw : Below w.heap.size w wr := (HBU.out.trans ⟨HK.out.os, HK.out.tape, HK.out.output, HK.out.size, fun k hk => HK.out.block k (by have := HBU.out.size; omega) (by have := HRE.out; simp; omega)⟩)
      have HFA := Lib.hid hA.p
      have hA := hA.below hbw
      have HBW := Lib.hid hbw
      obtain ⟨fp, fc, rfl, _, _⟩ := hA.p.1.slice
      obtain ⟨s, hs⟩ : ∃ s, s = st.th i := ⟨_, rfl⟩
      have HS := Lib.hid hs
      rw [← hs] at hA HFA
      clear hs
      obtain ⟨j, o, fz, pt⟩ := s
      have x0 := hA.c0; have x1 := hA.c1; have x2 := hA.c2; have x3 := hA.c3
      simp only at x0 x1 x2 x3
      clear hA hbw
      have h4 : i * 4 ≤ 24 := by omega
      obtain ⟨tp, tc, rfl⟩ := HG.out.slice
      have r1 : wr.cell? ⟨R, 1, none⟩ = some (.slice tp i tc) := by rw [cell_of_row _ _ _ _ _ (0, 0) HR.out]; rfl
      go_upto_region 5 with fail
      have r1n := fun o => Ext.on r1 o
      have HGD := Lib.hid (fun y : Ext wr => HG.out.below y.h)
      have HRD := Lib.hid (fun y : Ext wr => (y.h.block _ (Array.getElem?_eq_some_iff.1 HR.out).1).trans HR.out)
      have HSD := Lib.hid (fun y : Ext wr => (show B ≤ y.w.heap.size by have := HBE.out; have := HK.out.size; have := y.h.size; omega))
      have HRB := Lib.hid (show R < B by have := HBE.out; have := HRE.out; have := HUS.out; omega)
      have HS4 := Lib.hid (show ([.bool j, .bool o, .slice fp fz.length fc, .int .i64 pt] : List Value) = [.bool (st.th i).j, .bool (st.th i).o, .slice fp fz.length fc, .int .i64 (st.th i).pt] by rw [← HS.out])
      have hRB4 : R < B := HRB.out
      go_region_law ((refine step_append_x (by rfl) (.tmp 16) (.tmp 22) (by rfl) B _ i st.th fv fp fz.length fc (by rfl) (HGD.out ⟨_, by (repeat (first | exact Below.refl _ _ | assumption | refine below_new ?_ _ | refine Below.drew ?_ | refine below_drewN ?_ _ | refine below_on ?_ (by assumption)))⟩) _ _ (by rfl) (fun j u hu => World.news_of_block (heap_alloc_new _ _) j u (by rw [← HS4.out] at hu; simpa using hu)) (by omega) (HSD.out ⟨_, by (repeat (first | exact Below.refl _ _ | assumption | refine below_new ?_ _ | refine Below.drew ?_ | refine below_drewN ?_ _ | refine below_on ?_ (by assumption)))⟩) R _ (HRD.out ⟨_, by (repeat (first | exact Below.refl _ _ | assumption | refine below_new ?_ _ | refine Below.drew ?_ | refine below_drewN ?_ _ | refine below_on ?_ (by assumption)))⟩) HRB.out ?_; intro g1 cap1 w2 hown hgrow hr2 hc0 hc1 hcf))
      all_goals
        obtain ⟨W, hW, hgW⟩ : ∃ W, Below wr.heap.size wr W ∧ W.grownBy w2 (Value.slice tp i tc).ownBlock := ⟨_, by (repeat (first | exact Below.refl _ _ | assumption | refine below_new ?_ _ | refine Below.drew ?_ | refine below_drewN ?_ _ | refine below_on ?_ (by assumption))), hgrow⟩
        have hgn := grx_next hown hRB4 hr2 HG.out HRB.out HK.out hW hgW HBE.out
        have HN := Lib.hid hgn
        have HR2 := Lib.hid hr2
        clear hown hgrow hr2 hc0 hc1 hcf r1 r1n x0 x1 x2 x3 hW hgW hgn
        go_wp2_with fail
        go_roundw
        case rel =>
          refine ⟨i + 1, by omega, by go_num, updW fv i (.slice fp fz.length fc), _, Lib.hid HN.out.1, Lib.hid (fun k hk => ?_), Lib.hid HN.out.2.1, Lib.hid HN.out.2.2⟩
          unfold updW
          by_cases e : k = i
          · subst e
            rw [if_pos rfl, ← HS.out]; exact HFA.out
          · rw [if_neg e]; exact HPO.out k (by omega)
        case measure => simp [intOf]; omega
    · have hge : st.n ≤ i := by omega
      subst heq
      obtain ⟨tp, tc, rfl⟩ := HG.out.slice
      have r0 : wr.cell? ⟨R, 0, none⟩ = some (.slice p st.mp.length c) := by rw [cell_of_row _ _ _ _ _ (0, 0) HR.out]; rfl
      have r1 : wr.cell? ⟨R, 1, none⟩ = some (.slice tp st.n tc) := by rw [cell_of_row _ _ _ _ _ (0, 0) HR.out]; rfl
      have hu1 := (HK.out.block _ (by have := HUS.out; omega) (by have := HRE.out; simp; omega)).trans HU1.out
      have HU := Lib.hid hu1
      have y0 : wr.cell? ⟨w.heap.size + 1, 0, none⟩ = some (.slice none 0 0) := by rw [cell_of_row _ _ _ _ _ (0, 0) hu1]; rfl
      have y1 : wr.cell? ⟨w.heap.size + 1, 1, none⟩ = some (.slice none 0 0) := by rw [cell_of_row _ _ _ _ _ (0, 0) hu1]; rfl
      have yf : ∀ i, wr.frozen? ⟨w.heap.size + 1, i, none⟩ = false := fun i => frozen_of_row _ _ _ _ _ hu1
      clear hu1
      go_wp2_with fail
      refine bodyPost_ret (v := .agg #[.slice p st.mp.length c, .slice tp st.n tc]) (by simp [results, Try.results13, go_sem, y0, y1, World.cell?_setCell_same, World.cell?_setCell_other]) rfl ?_
      rw [HQ.out]
      have hbw : Below w.heap.size w wr := (HBU.out.trans ⟨HK.out.os, HK.out.tape, HK.out.output, HK.out.size, fun k hk => HK.out.block k (by have := HBU.out.size; omega) (by have := HRE.out; simp; omega)⟩)
      have hown := HG.out.own fun k hk => (HPO.out k hk).below hbw
      obtain ⟨k2, n2, o2⟩ := st2 (w := w) (X := []) (T := 31) (by decide) HU.out (by omega) (KX.of_below hbw) (.slice p st.mp.length c) (.slice tp st.n tc)
      have hfin : Below w.heap.size w _ := ⟨k2.os, k2.tape, k2.output, k2.size, fun k hk => k2.block k hk (by simp)⟩
      refine ⟨_, rfl, tr_keep2 hown.tr n2 fun b x hb => o2 b ?_, hfin⟩
      intro e; subst e; rw [y0] at hb; cases hb
end Go.Proofs.Ytcbdbfmlkkpndaa
