/- Layer 10: change. -/
import Derived.Test.YtkgfhomoipbjoaaDoorModH
import Derived.Test.YtkgfhomoipbjoaaDoorModP
namespace Go.Proofs.YtkgfhomoipbjoaaDoor
open Go.RowKit
set_option linter.unusedVariables false
set_option linter.unusedSimpArgs false
/-- What a call that changes the map leaves. -/
def ChgP (w : World) (S g c : Nat) (n : Nat) (l : PL) (a : An) (e : Ending) (w' : World) : Prop :=
  ∃ mv', e = .returned (anV a (.slice none 0 0)) ∧ w'.heap[S]? = some (.cells #[mv', .slice (some ⟨g, 0, none⟩) n c] 27 (0, 0)) ∧ PO w' mv' l ∧ KX [S] w w' ∧ NP w w'
theorem NP.a5 {w : World} {R : Nat} {cs : Array Value} (h : w.heap[R]? = some (.cells cs 34 (0, 0))) (i : Nat) (v : Value) : NP w (w.setCell ⟨R, i, none⟩ v) := NP.set v h (by decide)
theorem ans1 {w W : World} {X : List Nat} {R : Nat} {cs : Array Value} (hR : W.heap[R]? = some (.cells cs 34 (0, 0))) (hw : w.heap.size ≤ R) (k : KX X w W) (i : Nat) (v : Value) :
    (W.setCell ⟨R, i, none⟩ v).heap[R]? = some (.cells (cs.setIfInBounds i v) 34 (0, 0)) ∧ KX X w (W.setCell ⟨R, i, none⟩ v) ∧ NP W (W.setCell ⟨R, i, none⟩ v) ∧ ∀ b, b ≠ R → (W.setCell ⟨R, i, none⟩ v).heap[b]? = W.heap[b]? :=
  ⟨heap_setCell_same _ R i _ _ v hR, ⟨k.os, k.tape, k.output, by simpa [World.setCell] using k.size, fun a ha hx => (Below.heap_setCell _ _ _ _ (by show a ≠ R; omega)).trans (k.block a ha hx)⟩, NP.set v hR (by decide), fun b hb => Below.heap_setCell _ _ _ _ hb⟩
theorem ans5 {w W : World} {X : List Nat} {R : Nat} {cs : Array Value} (hR : W.heap[R]? = some (.cells cs 34 (0, 0))) (hw : w.heap.size ≤ R) (k : KX X w W) (v0 v1 v2 v3 v4 : Value) :
    KX X w (((((W.setCell ⟨R, 0, none⟩ v0).setCell ⟨R, 1, none⟩ v1).setCell ⟨R, 2, none⟩ v2).setCell ⟨R, 3, none⟩ v3).setCell ⟨R, 4, none⟩ v4) ∧ NP W (((((W.setCell ⟨R, 0, none⟩ v0).setCell ⟨R, 1, none⟩ v1).setCell ⟨R, 2, none⟩ v2).setCell ⟨R, 3, none⟩ v3).setCell ⟨R, 4, none⟩ v4) ∧
      ∀ b, b ≠ R → (((((W.setCell ⟨R, 0, none⟩ v0).setCell ⟨R, 1, none⟩ v1).setCell ⟨R, 2, none⟩ v2).setCell ⟨R, 3, none⟩ v3).setCell ⟨R, 4, none⟩ v4).heap[b]? = W.heap[b]? := by
  obtain ⟨r0, k0, n0, b0⟩ := ans1 hR hw k 0 v0
  obtain ⟨r1, k1, n1, b1⟩ := ans1 r0 hw k0 1 v1
  obtain ⟨r2, k2, n2, b2⟩ := ans1 r1 hw k1 2 v2
  obtain ⟨r3, k3, n3, b3⟩ := ans1 r2 hw k2 3 v3
  obtain ⟨r4, k4, n4, b4⟩ := ans1 r3 hw k3 4 v4
  exact ⟨k4, (((n0.trans n1).trans n2).trans n3).trans n4, fun b hb => (b4 b hb).trans ((b3 b hb).trans ((b2 b hb).trans ((b1 b hb).trans (b0 b hb))))⟩
set_option maxRecDepth 8000 in
set_option maxHeartbeats 2000000 in
theorem mchange_put {w : World} {S g c : Nat} {mv : Value} {st : Sm} {fv : Nat → Value} (h : MS w S g c mv st fv) (hpo : PO w mv st.mp) (key val hi lim : Int) (hr : riseB st.mp = true) (hn : st.mp.length ≤ 80000) :
    Calls Tryd.prog 31 #[.pointer (some ⟨S, 0, none⟩), .agg #[.int .i64 0, .int .i64 key, .int .i64 val, .int .i64 hi, .int .i64 lim]] w (ChgP w S g c st.n (putL st.mp (key, val)) (if hereB st.mp key = true then ⟨5, 0, 0, 0, []⟩ else ⟨0, 0, 0, 0, []⟩)) := by
  refine Calls.veil fun Q HQ => ?_
  have HM := Lib.hid h
  go_enter Tryd.func31, Tryd.ntmps31
  go_upto_region 1 with fail
  generalize hU : World.alloc _ _ = U
  have hBU : Below w.heap.size w U := by rw [← hU]; (repeat (first | exact Below.refl _ _ | assumption | refine below_new ?_ _ | refine Below.drew ?_ | refine below_drewN ?_ _ | refine below_on ?_ (by assumption)))
  obtain ⟨B, hB⟩ : ∃ B, B = w.heap.size := ⟨_, rfl⟩
  have e1 : (w.alloc (.cells #[.int .i64 0, .int .i64 key, .int .i64 val, .int .i64 hi, .int .i64 lim] 38)).heap.size = B + 1 := by rw [hB]; simp
  have b1 : Below (B + 1) (w.alloc (.cells #[.int .i64 0, .int .i64 key, .int .i64 val, .int .i64 hi, .int .i64 lim] 38)) U := by
    rw [← hU, ← e1]; (repeat (first | exact Below.refl _ _ | assumption | refine below_new ?_ _ | refine Below.drew ?_ | refine below_drewN ?_ _ | refine below_on ?_ (by assumption)))
  have z0 : U.cell? ⟨B, 0, none⟩ = some (.int .i64 0) := by rw [hB]; exact Ext.made_in rfl (by rw [e1]; exact b1) 0 _ rfl
  have z1 : U.cell? ⟨B, 1, none⟩ = some (.int .i64 key) := by rw [hB]; exact Ext.made_in rfl (by rw [e1]; exact b1) 1 _ rfl
  have z2 : U.cell? ⟨B, 2, none⟩ = some (.int .i64 val) := by rw [hB]; exact Ext.made_in rfl (by rw [e1]; exact b1) 2 _ rfl
  have z3 : U.cell? ⟨B, 3, none⟩ = some (.int .i64 hi) := by rw [hB]; exact Ext.made_in rfl (by rw [e1]; exact b1) 3 _ rfl
  have z4 : U.cell? ⟨B, 4, none⟩ = some (.int .i64 lim) := by rw [hB]; exact Ext.made_in rfl (by rw [e1]; exact b1) 4 _ rfl
  have HA := Lib.hid (show A5 U (B + 1) by unfold A5; rw [← e1, ← hU]; exact heap_alloc_new _ _)
  have HMU := Lib.hid (h.below hBU)
  have HBU := Lib.hid hBU
  have HL := Lib.hid (show S < B ∧ g < B by rw [hB]; exact ⟨h.sl, h.row.lt⟩)
  have HBE := Lib.hid hB
  rw [← hB]
  clear hU b1 e1 hBU hB h
  have HPO := Lib.hid (hpo.below HBU.out)
  have HR := Lib.hid hr
  have HN := Lib.hid hn
  obtain ⟨p9, c9, rfl, _, _⟩ := hpo.1.slice
  have s0 := Ext.cells HMU.out.s0
  have z1 := Ext.cells z1
  have z2 := Ext.cells z2
  clear hpo hr hn z3 z4
  go_upto_region 2 with fail
  (with_reducible refine wp_region_mix (fun w' => ∃ x : Ext U, w' = x.w) ?_ ?_ ?_ ?_; kernel_rfl; kernel_rfl; exact ⟨⟨U.drew, (Below.refl _ _).drew⟩, rfl⟩)
  repeat (first | ((with_reducible refine mix_plain (by kernel_rfl) ?_); (first | go_big_quiet_skip | (go_big_quiet_want; go_big_quiet_op; go_big_quiet_on)); (with_reducible refine mix_on ?_)) | ((with_reducible refine mix_skip (by kernel_rfl) ?_); go_big_quiet_skip; (with_reducible refine mix_on ?_)))
  ((with_reducible refine wpMix_chain (by kernel_rfl) (by kernel_rfl) (fun K HK => ?_)); go_step)
  refine (pputO st.mp _ key val U.drew (HPO.out.1.below (Below.refl _ _).drew) HR.out (by have := HN.out; omega)).mono ?_; rintro _ w1 ⟨v1, rfl, hp1, hb1⟩
  have hb1 : Below U.heap.size U w1 := ((Below.refl _ _).drew).trans hb1
  have HB1 := Lib.hid hb1
  have HP1 := Lib.hid hp1
  have HM1 := Lib.hid (HMU.out.below hb1)
  have HA1 := Lib.hid (HA.out.below hb1)
  obtain ⟨p1, cc1, rfl, _, _⟩ := hp1.1.slice
  refine HK.out _ _ ⟨⟨w1, hb1⟩, rfl⟩ ?_
  clear HK K hp1 hb1 s0 z1 z2
  obtain ⟨c0, c1, c2, c3, c4, cf⟩ := HA1.out.c
  cases hh : hereB st.mp key with
  | true =>
    rw [hh] at HQ
    have HPE := Lib.hid (show putL st.mp (key, val) = st.mp from putL_old hh)
    have HHH := Lib.hid hh
    repeat (first | ((with_reducible refine mix_plain (by kernel_rfl) ?_); (first | go_big_quiet_skip | (go_big_quiet_want; go_big_quiet_op; go_big_quiet_on)); (with_reducible refine mix_on ?_)) | ((with_reducible refine mix_skip (by kernel_rfl) ?_); go_big_quiet_skip; (with_reducible refine mix_on ?_)))
    refine wpMix_nil ?_
    go_wp2_with fail
    refine bodyPost_ret (v := .agg #[.int .i64 5, .int .i64 0, .int .i64 0, .int .i64 0, .slice none 0 0]) (by simp [results, Tryd.results31, go_sem, c0, c1, c2, c3, c4, World.cell?_setCell_same, World.cell?_setCell_other]) rfl ?_
    rw [HQ.out]
    have hBE := HBE.out
    obtain ⟨l1, l2⟩ := HL.out
    obtain ⟨k1, k2, k3⟩ := ans5 (w := w) (X := [S]) HA1.out (by omega) (KX.of_below (HBU.out.trans (HB1.out.mono HBU.out.size))) (.int .i64 5) (.int .i64 0) (.int .i64 0) (.int .i64 0) (.slice none 0 0)
    refine ⟨_, rfl, (k3 S (by omega)).trans HM1.out.hS, ?_, k1, (NP.below (HBU.out.trans (HB1.out.mono HBU.out.size))).trans k2⟩
    rw [HPE.out]
    exact (HPO.out.below HB1.out).np k2
  | false =>
    rw [hh] at HQ
    have HHH := Lib.hid hh
    have s0 := HM1.out.s0
    have sf : ∀ i, w1.frozen? ⟨S, i, none⟩ = false := fun i => frozen_of_row _ _ _ _ _ HM1.out.hS
    repeat (first | ((with_reducible refine mix_plain (by kernel_rfl) ?_); (first | go_big_quiet_skip | (go_big_quiet_want; go_big_quiet_op; go_big_quiet_on)); (with_reducible refine mix_on ?_)) | ((with_reducible refine mix_skip (by kernel_rfl) ?_); go_big_quiet_skip; (with_reducible refine mix_on ?_)))
    refine wpMix_nil ?_
    go_upto_region 6 with fail
    generalize hV : World.setCell _ _ _ = V
    have hT : 27 ≠ 75 := by decide
    have hVS : V.heap[S]? = some (.cells #[.slice p1 (putL st.mp (key, val)).length cc1, .slice (some ⟨g, 0, none⟩) st.n c] 27 (0, 0)) := by rw [← hV, heap_setCell_same _ S 0 _ _ _ HM1.out.hS]; rfl
    have hNP : NP w1 V := by rw [← hV]; exact NP.set _ HM1.out.hS hT
    have hKX : KX [S] w1 V := by rw [← hV]; exact KX.set (by simp)
    have HV := Lib.hid (And.intro hVS (And.intro hNP hKX))
    have HAV := Lib.hid (HA1.out.of (hKX.block _ HA1.out.lt (by have := HL.out; simp; omega)))
    obtain ⟨c0, c1, c2, c3, c4, cf⟩ := HAV.out.c
    clear hV hVS hNP hKX s0 sf
    go_wp2_with fail
    refine bodyPost_ret (v := .agg #[.int .i64 0, .int .i64 0, .int .i64 0, .int .i64 0, .slice none 0 0]) (by simp [results, Tryd.results31, go_sem, c0, c1, c2, c3, c4, World.cell?_setCell_same, World.cell?_setCell_other]) rfl ?_
    rw [HQ.out]
    have hBE := HBE.out
    obtain ⟨l1, l2⟩ := HL.out
    obtain ⟨h1, h2, h3⟩ := HV.out
    have hb0 := HBU.out.trans (HB1.out.mono HBU.out.size)
    obtain ⟨k1, k2, k3⟩ := ans5 (w := w) (X := [S]) HAV.out (by omega) ((KX.of_below hb0).trans h3) (.int .i64 0) (.int .i64 0) (.int .i64 0) (.int .i64 0) (.slice none 0 0)
    exact ⟨_, rfl, (k3 S (by omega)).trans h1, (HP1.out.np h2).np k2, k1, ((NP.below hb0).trans h2).trans k2⟩
set_option maxRecDepth 8000 in
set_option maxHeartbeats 2000000 in
theorem mchange_drop {w : World} {S g c : Nat} {mv : Value} {st : Sm} {fv : Nat → Value} (h : MS w S g c mv st fv) (hpo : PO w mv st.mp) (key val hi lim : Int) (hr : riseB st.mp = true) (hn : st.mp.length ≤ 80000) :
    Calls Tryd.prog 31 #[.pointer (some ⟨S, 0, none⟩), .agg #[.int .i64 1, .int .i64 key, .int .i64 val, .int .i64 hi, .int .i64 lim]] w (ChgP w S g c st.n (dropL st.mp key) (foundA (atL st.mp key))) := by
  refine Calls.veil fun Q HQ => ?_
  have HM := Lib.hid h
  go_enter Tryd.func31, Tryd.ntmps31
  go_upto_region 1 with fail
  generalize hU : World.alloc _ _ = U
  have hBU : Below w.heap.size w U := by rw [← hU]; (repeat (first | exact Below.refl _ _ | assumption | refine below_new ?_ _ | refine Below.drew ?_ | refine below_drewN ?_ _ | refine below_on ?_ (by assumption)))
  obtain ⟨B, hB⟩ : ∃ B, B = w.heap.size := ⟨_, rfl⟩
  have e1 : (w.alloc (.cells #[.int .i64 1, .int .i64 key, .int .i64 val, .int .i64 hi, .int .i64 lim] 38)).heap.size = B + 1 := by rw [hB]; simp
  have b1 : Below (B + 1) (w.alloc (.cells #[.int .i64 1, .int .i64 key, .int .i64 val, .int .i64 hi, .int .i64 lim] 38)) U := by
    rw [← hU, ← e1]; (repeat (first | exact Below.refl _ _ | assumption | refine below_new ?_ _ | refine Below.drew ?_ | refine below_drewN ?_ _ | refine below_on ?_ (by assumption)))
  have z0 : U.cell? ⟨B, 0, none⟩ = some (.int .i64 1) := by rw [hB]; exact Ext.made_in rfl (by rw [e1]; exact b1) 0 _ rfl
  have z1 : U.cell? ⟨B, 1, none⟩ = some (.int .i64 key) := by rw [hB]; exact Ext.made_in rfl (by rw [e1]; exact b1) 1 _ rfl
  have z2 : U.cell? ⟨B, 2, none⟩ = some (.int .i64 val) := by rw [hB]; exact Ext.made_in rfl (by rw [e1]; exact b1) 2 _ rfl
  have z3 : U.cell? ⟨B, 3, none⟩ = some (.int .i64 hi) := by rw [hB]; exact Ext.made_in rfl (by rw [e1]; exact b1) 3 _ rfl
  have z4 : U.cell? ⟨B, 4, none⟩ = some (.int .i64 lim) := by rw [hB]; exact Ext.made_in rfl (by rw [e1]; exact b1) 4 _ rfl
  have HA := Lib.hid (show A5 U (B + 1) by unfold A5; rw [← e1, ← hU]; exact heap_alloc_new _ _)
  have HMU := Lib.hid (h.below hBU)
  have HBU := Lib.hid hBU
  have HL := Lib.hid (show S < B ∧ g < B by rw [hB]; exact ⟨h.sl, h.row.lt⟩)
  have HBE := Lib.hid hB
  rw [← hB]
  clear hU b1 e1 hBU hB h
  have HPO := Lib.hid (hpo.below HBU.out)
  have HR := Lib.hid hr
  have HN := Lib.hid hn
  obtain ⟨p9, c9, rfl, _, _⟩ := hpo.1.slice
  clear hpo hr hn z3 z4
  go_wp2_with fail
  have hone := mone st.mp _ S ⟨2, key, 0, 0, 0⟩ U HMU.out.s0 HPO.out.1 HR.out (by have := HN.out; omega)
  rw [show oneA st.mp ⟨2, key, 0, 0, 0⟩ = atL st.mp key by unfold oneA; simp] at hone
  refine hone.mono ?_; rintro _ w1 ⟨rfl, hb1⟩
  clear hone
  obtain ⟨an, hoa⟩ : ∃ an, an = foundA (atL st.mp key) := ⟨_, rfl⟩
  have HOA := Lib.hid hoa
  unfold fA
  rw [← hoa] at HQ ⊢
  unfold anV
  clear hoa
  have z1 := Ext.use (Ext.cells z1) hb1
  have HB1 := Lib.hid hb1
  have HPO := Lib.hid (HPO.out.below hb1)
  have HM1 := Lib.hid (HMU.out.below hb1)
  have HA1 := Lib.hid (HA.out.below hb1)
  clear hb1 z0 z2
  go_upto_region 8 with fail
  generalize hV : World.alloc w1 _ = V
  obtain ⟨Y, hY⟩ : ∃ Y, Y = w1.heap.size := ⟨_, rfl⟩
  have hbV : Below w1.heap.size w1 V := by rw [← hV]; (repeat (first | exact Below.refl _ _ | assumption | refine below_new ?_ _ | refine Below.drew ?_ | refine below_drewN ?_ _ | refine below_on ?_ (by assumption)))
  have HYV := Lib.hid (show V.heap[Y]? = some (.cells #[.int .i64 an.kind, .int .i64 an.key, .int .i64 an.val, .int .i64 an.n, .slice none 0 0] 34 (0, 0)) by rw [hY, ← hV]; exact heap_alloc_new _ _)
  have HYB := Lib.hid (show B + 1 < Y by rw [hY]; exact HA1.out.lt)
  rw [← hY]
  have z1 := Ext.use (Ext.cells z1) hbV
  have HBV := Lib.hid (HB1.out.trans (hbV.mono HB1.out.size))
  have HPO := Lib.hid (HPO.out.below hbV)
  have HMV := Lib.hid (HM1.out.below hbV)
  have HAV := Lib.hid (HA1.out.below hbV)
  have s0 := HMV.out.s0
  have sf : ∀ i, V.frozen? ⟨S, i, none⟩ = false := fun i => frozen_of_row _ _ _ _ _ HMV.out.hS
  have s0x := Ext.cells s0
  have z1x := Ext.cells z1
  have C3 := Lib.hid (fun (W : World) (k : Below V.heap.size V W) => pdropO st.mp _ key W (HPO.out.1.below k) HR.out (by have := HN.out; omega))
  clear hV hbV hY
  go_region_with (go_at_call 45; (with_reducible refine (C3.out _ (by (repeat (first | exact Below.refl _ _ | assumption | refine below_new ?_ _ | refine Below.drew ?_ | refine below_drewN ?_ _ | refine below_on ?_ (by assumption))))).mono ?_); rintro _ w5 ⟨v5, rfl, hp5, hb5⟩; obtain ⟨p6, c6, e6, _, _⟩ := hp5.1.slice; subst e6; have HP5 := Lib.hid hp5; clear hp5; have HB5 := Lib.hid (show Below V.heap.size V w5 by (repeat (first | exact Below.refl _ _ | assumption | refine below_new ?_ _ | refine Below.drew ?_ | refine below_drewN ?_ _ | refine below_on ?_ (by assumption)))); have s0y := Ext.use s0x HB5.out; have z1y := Ext.use z1x HB5.out; have sfy : ∀ k, w5.frozen? ⟨S, k, none⟩ = false := (fun k => frozen_of_row _ _ _ _ _ (HMV.out.below HB5.out).hS))
  all_goals
    generalize hereB st.mp key = hb
    have HM5 := Lib.hid (HMV.out.below HB5.out)
    have y5 := (HB5.out.block Y (Array.getElem?_eq_some_iff.1 HYV.out).1).trans HYV.out
    have hT : 27 ≠ 75 := by decide
    go_upto_region 9 with fail
    generalize hX : World.setCell _ _ _ = X
    have hVS : X.heap[S]? = some (.cells #[.slice p6 (dropL st.mp key).length c6, .slice (some ⟨g, 0, none⟩) st.n c] 27 (0, 0)) := by rw [← hX, heap_setCell_same _ S 0 _ _ _ HM5.out.hS]; rfl
    have hNP : NP w5 X := by rw [← hX]; exact NP.set _ HM5.out.hS hT
    have hKX : KX [S] w5 X := by rw [← hX]; exact KX.set (by simp)
    have HV := Lib.hid (And.intro hVS (And.intro hNP hKX))
    have HA5 := Lib.hid (HAV.out.below HB5.out)
    have HAX := Lib.hid (HA5.out.of (hKX.block _ HA5.out.lt (by have := HL.out; simp; omega)))
    have hyX : X.heap[Y]? = _ := (hKX.block Y (Array.getElem?_eq_some_iff.1 y5).1 (by have := HL.out; have := HYB.out; simp; omega)).trans y5
    have y0 : X.cell? ⟨Y, 0, none⟩ = some (.int .i64 an.kind) := by rw [cell_of_row _ _ _ _ _ (0, 0) hyX]; rfl
    have y1 : X.cell? ⟨Y, 1, none⟩ = some (.int .i64 an.key) := by rw [cell_of_row _ _ _ _ _ (0, 0) hyX]; rfl
    have y2 : X.cell? ⟨Y, 2, none⟩ = some (.int .i64 an.val) := by rw [cell_of_row _ _ _ _ _ (0, 0) hyX]; rfl
    have y3 : X.cell? ⟨Y, 3, none⟩ = some (.int .i64 an.n) := by rw [cell_of_row _ _ _ _ _ (0, 0) hyX]; rfl
    have y4 : X.cell? ⟨Y, 4, none⟩ = some (.slice none 0 0) := by rw [cell_of_row _ _ _ _ _ (0, 0) hyX]; rfl
    obtain ⟨c0, c1, c2, c3, c4, cf⟩ := HAX.out.c
    clear hX hVS hNP hKX hyX y5 s0 sf s0x z1x s0y z1y sfy z1
    go_wp2_with fail
    refine bodyPost_ret (v := .agg #[.int .i64 an.kind, .int .i64 an.key, .int .i64 an.val, .int .i64 an.n, .slice none 0 0]) (by simp [results, Tryd.results31, go_sem, c0, c1, c2, c3, c4, World.cell?_setCell_same, World.cell?_setCell_other]) rfl ?_
    rw [HQ.out]
    have hBE := HBE.out
    obtain ⟨l1, l2⟩ := HL.out
    obtain ⟨h1, h2, h3⟩ := HV.out
    have hb0 := HBU.out.trans (HBV.out.mono HBU.out.size)
    have hb5 := hb0.trans (HB5.out.mono hb0.size)
    obtain ⟨k1, k2, k3⟩ := ans5 (w := w) (X := [S]) HAX.out (by omega) ((KX.of_below hb5).trans h3) (.int .i64 an.kind) (.int .i64 an.key) (.int .i64 an.val) (.int .i64 an.n) (.slice none 0 0)
    exact ⟨_, rfl, (k3 S (by omega)).trans h1, (HP5.out.np h2).np k2, k1, ((NP.below hb5).trans h2).trans k2⟩
end Go.Proofs.YtkgfhomoipbjoaaDoor
