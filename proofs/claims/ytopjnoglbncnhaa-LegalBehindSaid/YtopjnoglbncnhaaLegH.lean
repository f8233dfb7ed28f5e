/- Layer 12: the walk of LegalBehind. -/
import Derived.Test.YtopjnoglbncnhaaLegG
namespace Go.Proofs.Ytopjnoglbncnhaa
open Go.RowKit
set_option linter.unusedVariables false
set_option linter.unusedSimpArgs false
theorem behN_ok {O : Nat → Op13} {n : Nat} {ord : Nat → Int} {t : Nat} (ht : t ≤ 6) (hk : ∀ i, i < n → (-9223372036854775808 ≤ (O i).c.key ∧ (O i).c.key ≤ 9223372036854775807) ∧ (O i).a.ps.length ≤ 1500) : ∀ m st, behN O n ord t m = some st → OkN m st
  | 0, st, h => by
    unfold behN at h
    simp only [Option.some.injEq] at h
    rw [← h]; exact OkN.new t ht
  | m + 1, st, h => by
    unfold behN at h
    cases hb : behN O n ord t m with
    | none => rw [hb] at h; cases h
    | some s =>
      rw [hb] at h
      simp only [Option.bind_some] at h
      have h0 := behN_ok ht hk m s hb
      split at h
      · rename_i hr
        split at h
        · simp only [Option.some.injEq] at h
          rw [← h]
          exact h0.aft _ (hk _ (by omega)).1
        · cases h
      · cases h
theorem OkN.mono {m k : Nat} {st : Sm} (h : OkN m st) (hk : m ≤ k) : OkN k st :=
  ⟨h.mr, Nat.le_trans h.ml hk, h.ki, h.n6, h.fr, fun i => Nat.le_trans (h.fl i) hk, h.p0, h.p1⟩
theorem behT_ok {O : Nat → Op13} {n : Nat} {ord : Nat → Int} {t m : Nat} (ht : t ≤ 6) (hm : m ≤ 60) (hk : ∀ i, i < n → (-9223372036854775808 ≤ (O i).c.key ∧ (O i).c.key ≤ 9223372036854775807) ∧ (O i).a.ps.length ≤ 1500) : OkN 60 (behT (behN O n ord t m)).1 := by
  cases h : behN O n ord t m with
  | none => exact (OkN.new 0 (by omega)).mono (by omega)
  | some st => exact (behN_ok ht hk m st h).mono hm
set_option maxRecDepth 16000 in
set_option maxHeartbeats 4000000 in
theorem legalBehind_walk (v0 v1 v2 : Value) (w : World) (s0 : Fr.ok1 w (.slice [.int .i64, .int .i64, .int .i64, .int .i64, .int .i64, .int .i64, .int .i64, .int .i64, .int .i64, .int .i64, .slice [.int .i64, .int .i64], .int .i64, .int .i64]) v0) (s1 : Fr.ok1 w (.slice [.int .i64]) v1) (s2 : Fr.ok1 w (.int .i64) v2) :
    Calls Try.prog 3 #[v0, v1, v2] w fun e w' => e = .returned (.bool true) ∧ Below w.heap.size w w' := by
  obtain ⟨n, O, fv0, hO⟩ := opers_open s0
  obtain ⟨m, ord, hR⟩ := ord_open s1
  obtain ⟨t, rfl, _⟩ := Fr.get_int s2
  have hkey : ∀ i, i < n → -9223372036854775808 ≤ (O i).c.key ∧ (O i).c.key ≤ 9223372036854775807 := fun i hi => by
    obtain ⟨_, _, _, _, _, h⟩ := hO
    obtain ⟨_, _, _, h⟩ := h i hi
    exact h.1.1.2.2.2.2.2.2
  have HO := Lib.hid hO; have HR := Lib.hid hR; have HKEY := Lib.hid hkey
  obtain ⟨oa, oc, rfl, _, _, _⟩ := hO
  obtain ⟨ra, rc, rfl, _, _, _⟩ := hR
  clear s0 s1 s2 hkey
  refine Calls.veil fun Q HQ => ?_
  go_enter Try.func3, Try.ntmps3
  go_wp2_with fail
  refine (lgreat HO.out HR.out).mono ?_; rintro _ w1 ⟨gb, rfl, hb1, hgr⟩
  have HB1 := Lib.hid hb1
  have HGR := Lib.hid hgr
  clear hb1 hgr
  cases gb with
  | true =>
    go_wp2_with fail
    refine (lives12_calls _).mono ?_; rintro _ w3 ⟨rfl, hb⟩
    go_wp2_with fail
    (try go_ret)
    rw [HQ.out]
    exact ⟨rfl, below_on HB1.out hb⟩
  | false =>
  obtain ⟨hn, hm, hps⟩ := HGR.out rfl
  have HKK := Lib.hid (fun i (hi : i < n) => And.intro (HKEY.out i hi) (hps i hi))
  clear hps HGR HKEY
  have HLE := Lib.hid (fun (W : World) (k : Below w.heap.size w W) => llegal (HO.out.below k) (HR.out.below k) HKK.out hn hm t)
  have OK := behT_ok (ord := ord) (clamp6 t) hm HKK.out
  have LB := lbehind (HO.out.below HB1.out) (HR.out.below HB1.out) HKK.out hn hm t
  have RB := Lib.hid (fun (W : World) (k : Below w.heap.size w W) => rbehind (HO.out.below k) (HR.out.below k) HKK.out hn hm t)
  unfold BehP at LB RB
  obtain ⟨xx, hxx⟩ : ∃ x, x = behT (behN O n ord (clampN t) m) := ⟨_, rfl⟩
  have HE := Lib.hid (show (behT (behN O n ord (clampN t) m)).2 = xx.2 by rw [hxx])
  rw [← hxx] at LB RB OK
  obtain ⟨st, b⟩ := xx
  clear hxx
  simp only [ToP] at LB RB
  simp only at OK HE
  have HOK := Lib.hid OK
  have LB := Lib.hid LB
  clear OK
  go_wp2_with fail
  refine LB.out.mono ?_; rintro _ w2 ⟨mv, tv, rfl, hp, ht, hb2⟩
  obtain ⟨p, c, rfl, _, _⟩ := hp.1.slice
  obtain ⟨q, d, rfl, a1, a2, A3⟩ := ht.slice
  have HB2 := Lib.hid (below_on HB1.out hb2)
  simp only
  clear hb2 LB a1 a2 A3 HB1
  go_upto_region 4 with fail
  generalize hV : World.alloc _ _ = V
  have hbv : Below w2.heap.size w2 V := by rw [← hV]; exact below_new (Below.refl _ _) _
  have hs : V.heap[w2.heap.size]? = some (.cells #[.slice p st.mp.length c, .slice q st.n d] 29) := by rw [← hV]; exact heap_alloc_new w2 _
  obtain ⟨S, hS⟩ : ∃ S, S = w2.heap.size := ⟨_, rfl⟩
  rw [← hS] at hs ⊢
  have HS := Lib.hid hs
  have HP := Lib.hid (hp.below hbv); have HT := Lib.hid (ht.below hbv)
  have HBV := Lib.hid (below_on HB2.out hbv)
  clear hV hbv hs hS hp ht HB2
  go_wp2_with fail
  refine (RB.out _ HBV.out).mono ?_; rintro _ w3 ⟨mv, tv, rfl, hp, ht, hb3⟩
  obtain ⟨p2, c2, rfl, _, _⟩ := hp.1.slice
  obtain ⟨q2, d2, rfl, a1, a2, A3⟩ := ht.slice
  have HS := Lib.hid (up hb3 HS.out)
  have HP := Lib.hid (HP.out.below hb3); have HT := Lib.hid (HT.out.below hb3)
  have HB3 := Lib.hid (below_on HBV.out hb3)
  simp only
  clear hb3 RB a1 a2 A3 HBV
  go_upto_region 5 with fail
  generalize hV : World.alloc _ _ = V2
  have hbv : Below w3.heap.size w3 V2 := by rw [← hV]; exact below_new (Below.refl _ _) _
  have hs : V2.heap[w3.heap.size]? = some (.cells #[.slice p2 st.mp.length c2, .slice q2 st.n d2] 34) := by rw [← hV]; exact heap_alloc_new w3 _
  obtain ⟨X, hX⟩ : ∃ X, X = w3.heap.size := ⟨_, rfl⟩
  rw [← hX] at hs ⊢
  have HX := Lib.hid hs
  have HS := Lib.hid (up hbv HS.out)
  have HP := Lib.hid (HP.out.below hbv); have HT := Lib.hid (HT.out.below hbv)
  have HP2 := Lib.hid (hp.below hbv); have HT2 := Lib.hid (ht.below hbv)
  have HBV := Lib.hid (below_on HB3.out hbv)
  clear hV hbv hs hX hp ht HB3
  have z0 : V2.cell? ⟨S, 0, none⟩ = some (.slice p st.mp.length c) := newcell HS.out 0 _ rfl
  go_upto_region 6 with fail
  generalize hV : World.alloc _ _ = U
  have hbv : Below V2.heap.size V2 U := by rw [← hV]; exact below_new (Below.refl _ _) _
  have hs : U.heap[V2.heap.size]? = some (.cells #[.slice p st.mp.length c, .slice none 0 0] 34) := by rw [← hV]; exact heap_alloc_new V2 _
  have hus : U.heap.size = V2.heap.size + 1 := by rw [← hV]; simp
  have hsl := blk_lt HS.out; have hxl := blk_lt HX.out
  obtain ⟨R, hR⟩ : ∃ R, R = V2.heap.size := ⟨_, rfl⟩
  rw [← hR] at hs hus hsl hxl ⊢
  have HNE := Lib.hid (show S < R ∧ X < R from ⟨hsl, hxl⟩)
  have HU2 := Lib.hid hs
  have HVU := Lib.hid hbv
  have HRW := Lib.hid (show w.heap.size ≤ R by have := HBV.out.size; omega)
  obtain ⟨B, hB⟩ : ∃ B, B = U.heap.size := ⟨_, rfl⟩
  have HBE := Lib.hid hB
  have HRE := Lib.hid hR
  have HUS := Lib.hid (show B = R + 1 by omega)
  obtain ⟨q', d', e', a1, a2, A3⟩ := HT.out.slice
  simp only [Value.slice.injEq, true_and] at e'
  obtain ⟨rfl, rfl⟩ := e'
  clear hV hbv hs hR hus hsl hxl z0 hB
  go_wp2_with fail
  go_loopw [12] (fun iv wr => ∃ i : Nat, i ≤ st.n ∧ iv = .int .i64 i ∧ ∃ (fv : Nat → Value) (tv : Value), Hid (GrX wr B tv i st.th fv) ∧ Hid (∀ k, k < i → PO V2 (fv k) (st.th k).fz) ∧ Hid (wr.heap[R]? = some (.cells #[.slice p st.mp.length c, tv] 34 (0, 0))) ∧ Hid (KX [R] U wr))
    (fun iv _ => st.n - (intOf iv).toNat)
  case atStart => exact ⟨0, by omega, rfl, fun _ => undef, _, Lib.hid (World.ownsRow_nil _ _ _ _), Lib.hid (fun k hk => by omega), HU2, Lib.hid (KX.of_below (Below.refl _ _))⟩
  case round =>
    obtain ⟨i, hi, rfl, fv, tv, HG, HPO, HR2, HK⟩ := hrel
    have hbw : Below V2.heap.size V2 wr := (HVU.out.trans ⟨HK.out.os, HK.out.tape, HK.out.output, HK.out.size, fun k hk => HK.out.block k (by have := HVU.out.size; omega) (by have := HRE.out; simp; omega)⟩)
    have HBW := Lib.hid hbw
    have z1 : wr.cell? ⟨S, 1, none⟩ = some (.slice q st.n d) := newcell (up hbw HS.out) 1 _ rfl
    have HN6 := HOK.out.n6
    rcases (by omega : i < st.n ∨ i = st.n) with hlt | heq
    · obtain ⟨T, fa, rfl, hA⟩ := A3.out i hlt
      have HFA := Lib.hid hA.p
      have hA := hA.below hbw
      obtain ⟨fp, fc, rfl, _, _⟩ := hA.p.1.slice
      obtain ⟨s, hs⟩ : ∃ s, s = st.th i := ⟨_, rfl⟩
      have HSS := Lib.hid hs
      rw [← hs] at hA HFA
      clear hs
      obtain ⟨j, o, fz, pt⟩ := s
      have x0 := hA.c0; have x1 := hA.c1; have x2 := hA.c2; have x3 := hA.c3
      simp only at x0 x1 x2 x3
      clear hA hbw
      have h4 : i * 4 ≤ 24 := by omega
      obtain ⟨tp, tc, rfl⟩ := HG.out.slice
      have r1 : wr.cell? ⟨R, 1, none⟩ = some (.slice tp i tc) := by rw [cell_of_row _ _ _ _ _ (0, 0) HR2.out]; rfl
      go_upto_region 9 with fail
      have r1n := fun o => Ext.on r1 o
      have HGD := Lib.hid (fun y : Ext wr => HG.out.below y.h)
      have HRD := Lib.hid (fun y : Ext wr => (y.h.block _ (Array.getElem?_eq_some_iff.1 HR2.out).1).trans HR2.out)
      have HSD := Lib.hid (fun y : Ext wr => (show B ≤ y.w.heap.size by have := HBE.out; have := HK.out.size; have := y.h.size; omega))
      have HRB := Lib.hid (show R < B by have := HUS.out; omega)
      have HS4 := Lib.hid (show ([.bool j, .bool o, .slice fp fz.length fc, .int .i64 pt] : List Value) = [.bool (st.th i).j, .bool (st.th i).o, .slice fp fz.length fc, .int .i64 (st.th i).pt] by rw [← HSS.out])
      have hRB4 : R < B := HRB.out
      go_region_law ((refine step_append_x (by rfl) (.tmp 42) (.tmp 48) (by rfl) B _ i st.th fv fp fz.length fc (by rfl) (HGD.out ⟨_, by (repeat (first | exact Below.refl _ _ | assumption | refine below_new ?_ _ | refine Below.drew ?_ | refine below_drewN ?_ _ | refine below_on ?_ (by assumption)))⟩) _ _ (by rfl) (fun j u hu => World.news_of_block (heap_alloc_new _ _) j u (by rw [← HS4.out] at hu; simpa using hu)) (by omega) (HSD.out ⟨_, by (repeat (first | exact Below.refl _ _ | assumption | refine below_new ?_ _ | refine Below.drew ?_ | refine below_drewN ?_ _ | refine below_on ?_ (by assumption)))⟩) R _ (HRD.out ⟨_, by (repeat (first | exact Below.refl _ _ | assumption | refine below_new ?_ _ | refine Below.drew ?_ | refine below_drewN ?_ _ | refine below_on ?_ (by assumption)))⟩) HRB.out ?_; intro g1 cap1 w2 hown hgrow hr2 hc0 hc1 hcf))
      all_goals
        obtain ⟨W, hW, hgW⟩ : ∃ W, Below wr.heap.size wr W ∧ W.grownBy w2 (Value.slice tp i tc).ownBlock := ⟨_, by (repeat (first | exact Below.refl _ _ | assumption | refine below_new ?_ _ | refine Below.drew ?_ | refine below_drewN ?_ _ | refine below_on ?_ (by assumption))), hgrow⟩
        have hgn := grx_next hown hRB4 hr2 HG.out HRB.out HK.out hW hgW HBE.out
        have HN := Lib.hid hgn
        have HRR := Lib.hid hr2
        clear hown hgrow hr2 hc0 hc1 hcf r1 r1n x0 x1 x2 x3 hW hgW hgn
        go_wp2_with fail
        go_roundw
        case rel =>
          refine ⟨i + 1, by omega, by go_num, updW fv i (.slice fp fz.length fc), _, Lib.hid HN.out.1, Lib.hid (fun k hk => ?_), Lib.hid HN.out.2.1, Lib.hid HN.out.2.2⟩
          unfold updW
          by_cases e : k = i
          · subst e
            rw [if_pos rfl, ← HSS.out]; exact HFA.out
          · rw [if_neg e]; exact HPO.out k (by omega)
        case measure => simp [intOf]; omega
    · have hge : st.n ≤ i := by omega
      subst heq
      obtain ⟨tp, tc, rfl⟩ := HG.out.slice
      have hown := (HG.out.own fun k hk => (HPO.out k hk).below hbw).tr
      have HTY := Lib.hid hown
      have HXW := Lib.hid (up hbw HX.out)
      have HRX := Lib.hid HR2.out
      have HPW := Lib.hid (HP.out.below hbw)
      have HPW2 := Lib.hid (HP2.out.below hbw); have HTW2 := Lib.hid (HT2.out.below hbw)
      have HBWW := Lib.hid (below_on HBV.out hbw)
      clear hown hbw
      cases b
      all_goals
        go_wp2_with fail
        refine (HLE.out _ HBWW.out).mono ?_; rintro _ w5 ⟨rfl, hb5⟩
        rw [HE.out]
        have x0 := newcell (up hb5 HXW.out) 0 _ rfl; have x1 := newcell (up hb5 HXW.out) 1 _ rfl
        have y0 := newcell (up hb5 HRX.out) 0 _ rfl; have y1 := newcell (up hb5 HRX.out) 1 _ rfl
        have HB5 := Lib.hid hb5
        clear hb5
        go_wp2_with fail
        refine (rsame10 (HPW2.out.below HB5.out).1 (HTW2.out.below HB5.out) (HPW.out.below HB5.out).1 (HTY.out.below HB5.out) (HOK.out.ok (by omega))).mono ?_; rintro _ w6 ⟨rfl, hb6⟩
        have HB6 := Lib.hid (below_on HBWW.out (below_on HB5.out hb6))
        clear hb6 x0 x1 y0 y1 z1
        go_wp2_with fail
        refine (lives12_calls _).mono ?_; rintro _ w7 ⟨rfl, hb7⟩
        have HB7 := Lib.hid (below_on HB6.out hb7)
        clear hb7
        go_wp2_with fail
        (try go_ret)
        rw [HQ.out]
        exact ⟨rfl, HB7.out⟩
end Go.Proofs.Ytopjnoglbncnhaa
