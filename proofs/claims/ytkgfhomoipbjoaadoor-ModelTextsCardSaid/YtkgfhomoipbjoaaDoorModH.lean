/- Layer 10: seek, next; session, whatever call. -/
import Derived.Test.YtkgfhomoipbjoaaDoorModG
import Derived.Deep.QuietTactic
namespace Go.Proofs.YtkgfhomoipbjoaaDoor
open Go.RowKit
set_option linter.unusedVariables false
set_option linter.unusedSimpArgs false
set_option maxRecDepth 8000 in
set_option maxHeartbeats 2000000 in
theorem mses_seek {w : World} {S g c : Nat} {mv : Value} {st : Sm} {fv : Nat → Value} (h : MS w S g c mv st fv) {i : Nat} (hi0 : i < st.n) (key val hi lim : Int) (hr : riseB (st.th i).fz = true) (hn : (st.th i).fz.length ≤ 90000) :
    Calls Tryd.prog 34 #[.pointer (some ⟨S, 0, none⟩), .pointer (some ⟨g, i * 4, none⟩), .agg #[.int .i64 11, .int .i64 key, .int .i64 val, .int .i64 hi, .int .i64 lim]] w (SesP w S g c mv st i { st.th i with pt := (lbN (st.th i).fz key : Nat) } ⟨0, 0, 0, 0, []⟩) := by
  refine Calls.veil fun Q HQ => ?_
  have HM := Lib.hid h
  go_enter Tryd.func34, Tryd.ntmps34
  go_upto_region 1 with fail
  generalize hU : World.alloc _ _ = U
  have hBU : Below w.heap.size w U := by rw [← hU]; (repeat (first | exact Below.refl _ _ | assumption | refine below_new ?_ _ | refine Below.drew ?_ | refine below_drewN ?_ _ | refine below_on ?_ (by assumption)))
  obtain ⟨B, hB⟩ : ∃ B, B = w.heap.size := ⟨_, rfl⟩
  have e1 : (w.alloc (.cells #[.int .i64 11, .int .i64 key, .int .i64 val, .int .i64 hi, .int .i64 lim] 38)).heap.size = B + 1 := by rw [hB]; simp
  have b1 : Below (B + 1) (w.alloc (.cells #[.int .i64 11, .int .i64 key, .int .i64 val, .int .i64 hi, .int .i64 lim] 38)) U := by
    rw [← hU, ← e1]; (repeat (first | exact Below.refl _ _ | assumption | refine below_new ?_ _ | refine Below.drew ?_ | refine below_drewN ?_ _ | refine below_on ?_ (by assumption)))
  have z0 : U.cell? ⟨B, 0, none⟩ = some (.int .i64 11) := by rw [hB]; exact Ext.made_in rfl (by rw [e1]; exact b1) 0 _ rfl
  have z1 : U.cell? ⟨B, 1, none⟩ = some (.int .i64 key) := by rw [hB]; exact Ext.made_in rfl (by rw [e1]; exact b1) 1 _ rfl
  have z3 : U.cell? ⟨B, 3, none⟩ = some (.int .i64 hi) := by rw [hB]; exact Ext.made_in rfl (by rw [e1]; exact b1) 3 _ rfl
  have HA := Lib.hid (show A5 U (B + 1) by unfold A5; rw [← e1, ← hU]; exact heap_alloc_new _ _)
  have HMU := Lib.hid (h.below hBU)
  have HBU := Lib.hid hBU
  have HL := Lib.hid (show S < B ∧ g < B by rw [hB]; exact ⟨h.sl, h.row.lt⟩)
  have HMV := Lib.hid (show ∀ b o n c, mv = .slice (some ⟨b, o, none⟩) n c → 0 < n → b < B by
    intro b o n c e hn
    rw [hB]
    exact h.mp.blk e hn)
  have HBE := Lib.hid hB
  have se := HMU.out.se hi0
  obtain ⟨t0, t1, t2, t3, tp⟩ := se
  have tf : ∀ k, U.frozen? ⟨g, k, none⟩ = false := HMU.out.row.fr
  rw [← hB]
  clear hU b1 e1 hBU hB h
  obtain ⟨p9, c9, e9, _, _⟩ := tp.1.slice
  have HR := Lib.hid hr
  have HN := Lib.hid hn
  have HP := Lib.hid (show PR U (.slice p9 (st.th i).fz.length c9) (st.th i).fz by rw [← e9]; exact tp.1)
  rw [e9] at t2
  have hne : Nonempty (E5 U g (i * 4 + 2) (.slice p9 (st.th i).fz.length c9)) := ⟨⟨U, .of_below (Below.refl _ _), t2⟩⟩
  have z1 : ∀ x : E5 U g (i * 4 + 2) (.slice p9 (st.th i).fz.length c9), x.w.cell? ⟨B, 1, none⟩ = some (.int .i64 key) := fun x => x.h.cell z1 (by have := HL.out; simp; omega)
  have y2 : ∀ x : E5 U g (i * 4 + 2) (.slice p9 (st.th i).fz.length c9), x.w.cell? ⟨g, i * 4 + 2, none⟩ = some (.slice p9 (st.th i).fz.length c9) := fun x => x.c
  have HT2 := Lib.hid t2
  clear e9 hr hn
  go_upto_region 9 with fail
  (with_reducible refine wp_region_mix (fun w' => ∃ x : E5 U g (i * 4 + 2) (.slice p9 (st.th i).fz.length c9), w' = x.w) ?_ ?_ ?_ ?_; kernel_rfl; kernel_rfl; exact ⟨⟨U.drew, .of_below (Below.refl _ _).drew, Ext.use (Ext.cells HT2.out) (Below.refl _ _).drew⟩, rfl⟩)
  repeat (first | ((with_reducible refine mix_plain (by kernel_rfl) ?_); (first | go_big_quiet_skip | (go_big_quiet_want; go_big_quiet_op; go_big_quiet_on)); (with_reducible refine mix_on ?_)) | ((with_reducible refine mix_skip (by kernel_rfl) ?_); go_big_quiet_skip; (with_reducible refine mix_on ?_)))
  ((with_reducible refine wpMix_chain (by kernel_rfl) (by kernel_rfl) (fun K HK => ?_)); go_step)
  refine (pfind (st.th i).fz _ key U.drew (HP.out.below (Below.refl _ _).drew) HR.out (by have := HN.out; omega)).mono ?_; rintro _ w1 ⟨rfl, hb1⟩
  have hb1 : Below U.heap.size U w1 := ((Below.refl _ _).drew).trans hb1
  have HB1 := Lib.hid hb1
  have HM1 := Lib.hid (HMU.out.below hb1)
  have hc1 : w1.cell? ⟨g, i * 4 + 2, none⟩ = some (.slice p9 (st.th i).fz.length c9) := Ext.use (Ext.cells HT2.out) hb1
  have HC1 := Lib.hid hc1
  refine HK.out _ _ ⟨⟨w1, .of_below hb1, hc1⟩, rfl⟩ ?_
  obtain ⟨t0, t1, t2, t3, _⟩ := HM1.out.se hi0
  have tf : ∀ k, w1.frozen? ⟨g, k, none⟩ = false := HM1.out.row.fr
  clear HK K hb1 hc1 t0 t1 t2
  generalize hereB (st.th i).fz key = hb
  obtain ⟨r, hrr⟩ : ∃ r : Nat, r = lbN (st.th i).fz key := ⟨_, rfl⟩
  rw [← hrr] at HQ ⊢
  clear hrr
  repeat (first | ((with_reducible refine mix_plain (by kernel_rfl) ?_); (first | go_big_quiet_skip | (go_big_quiet_want; go_big_quiet_op; go_big_quiet_on)); (with_reducible refine mix_on ?_)) | ((with_reducible refine mix_skip (by kernel_rfl) ?_); go_big_quiet_skip; (with_reducible refine mix_on ?_)))
  ((with_reducible refine wpMix_chain (by kernel_rfl) (by kernel_rfl) (fun K HK => ?_)); go_step)
  generalize hV : World.setCell _ _ _ = V
  have hMV : MS V S g c mv { st with th := updT st.th i { st.th i with pt := (r : Nat) } } fv := by rw [← hV]; exact HM1.out.put1 i hi0 _
  have hKV : KX [g] U V := by rw [← hV]; exact (KX.of_below HB1.out).trans (KX.set (by simp))
  have hc2 : V.cell? ⟨g, i * 4 + 2, none⟩ = some (.slice p9 (st.th i).fz.length c9) := by rw [← hV]; exact scO HC1.out (by simp)
  refine HK.out _ _ ⟨⟨V, hKV, hc2⟩, rfl⟩ ?_
  clear HK K hc2
  repeat (first | ((with_reducible refine mix_plain (by kernel_rfl) ?_); (first | go_big_quiet_skip | (go_big_quiet_want; go_big_quiet_op; go_big_quiet_on)); (with_reducible refine mix_on ?_)) | ((with_reducible refine mix_skip (by kernel_rfl) ?_); go_big_quiet_skip; (with_reducible refine mix_on ?_)))
  refine wpMix_nil ?_
  have HMV2 := Lib.hid hMV
  have HKV := Lib.hid hKV
  have HAV := Lib.hid (HA.out.of (hKV.block _ HA.out.lt (by have := HL.out; simp; omega)))
  obtain ⟨c0, c1, c2, c3, c4, cf⟩ := HAV.out.c
  clear hV hMV hKV t3 tf z0 z1 z3 y2
  go_wp2_with fail
  refine bodyPost_ret (v := .agg #[.int .i64 0, .int .i64 0, .int .i64 0, .int .i64 0, .slice none 0 0]) (by simp [results, Tryd.results34, go_sem, c0, c1, c2, c3, c4, World.cell?_setCell_same, World.cell?_setCell_other]) rfl ?_
  rw [HQ.out]
  obtain ⟨l1, l2⟩ := HL.out
  have hBE := HBE.out
  have hK0 : KX [g] w V := (KX.of_below HBU.out).trans HKV.out
  exact ⟨_, rfl, HMV2.out.ans5 HAV.out (by omega) (by omega) (by omega) (fun b o n c e hn => by have := HMV.out b o n c e hn; omega) hK0 _ _ _ _ _⟩
theorem MS.same {w : World} {S g c : Nat} {mv : Value} {st : Sm} {fv : Nat → Value} (h : MS w S g c mv st fv) (i : Nat) : MS w S g c mv { st with th := updT st.th i (st.th i) } fv := by
  have e : updT st.th i (st.th i) = st.th := funext fun j => by unfold updT; split <;> simp_all
  rw [e]; exact h
set_option maxRecDepth 8000 in
set_option maxHeartbeats 2000000 in
theorem mnext_no {w : World} {S g c : Nat} {mv : Value} {st : Sm} {fv : Nat → Value} (h : MS w S g c mv st fv) {i : Nat} (hi0 : i < st.n) (h0 : 0 ≤ (st.th i).pt) (h1 : (st.th i).fz.length ≤ (st.th i).pt) :
    Calls Tryd.prog 51 #[.pointer (some ⟨g, i * 4, none⟩)] w (SesP w S g c mv st i (st.th i) ⟨4, 0, 0, 0, []⟩) := by
  refine Calls.veil fun Q HQ => ?_
  have HM := Lib.hid h
  go_enter Tryd.func51, Tryd.ntmps51
  go_upto_region 1 with fail
  generalize hU : World.alloc _ _ = U
  have hBU : Below w.heap.size w U := by rw [← hU]; (repeat (first | exact Below.refl _ _ | assumption | refine below_new ?_ _ | refine Below.drew ?_ | refine below_drewN ?_ _ | refine below_on ?_ (by assumption)))
  obtain ⟨B, hB⟩ : ∃ B, B = w.heap.size := ⟨_, rfl⟩
  have HA := Lib.hid (show A5 U B by unfold A5; rw [hB, ← hU]; exact heap_alloc_new _ _)
  have HMU := Lib.hid (h.below hBU)
  have HBU := Lib.hid hBU
  have HL := Lib.hid (show S < B ∧ g < B by rw [hB]; exact ⟨h.sl, h.row.lt⟩)
  have HMV := Lib.hid (show ∀ b o n c, mv = .slice (some ⟨b, o, none⟩) n c → 0 < n → b < B by
    intro b o n c e hn
    rw [hB]
    exact h.mp.blk e hn)
  have HBE := Lib.hid hB
  obtain ⟨t0, t1, t2, t3, tp⟩ := HMU.out.se hi0
  obtain ⟨p9, c9, e9, _, _⟩ := tp.1.slice
  rw [e9] at t2
  rw [← hB]
  have hd1 : decide ((st.th i).pt < 0) = false := decide_eq_false (by omega)
  have hd2 : decide (((st.th i).fz.length : Int) ≤ (st.th i).pt) = true := decide_eq_true h1
  clear hU hBU hB h e9 tp t0 t1 h0 h1
  obtain ⟨c0, c1, c2, c3, c4, cf⟩ := HA.out.c
  go_quiet (fail)
  go_wp2_with fail
  refine bodyPost_ret (v := .agg #[.int .i64 4, .int .i64 0, .int .i64 0, .int .i64 0, .slice none 0 0]) (by simp [results, Tryd.results51, go_sem, c0, c1, c2, c3, c4, World.cell?_setCell_same, World.cell?_setCell_other]) rfl ?_
  rw [HQ.out]
  obtain ⟨l1, l2⟩ := HL.out
  have hBE := HBE.out
  have hb := below_drewN (Below.refl U.heap.size U) nq
  exact ⟨_, rfl, (((HMU.out.below hb).same i).ans5 (HA.out.below hb) (by omega) (by omega) (by omega) HMV.out ((KX.of_below HBU.out).trans (.of_below hb)) _ _ _ _ _)⟩
set_option maxRecDepth 8000 in
set_option maxHeartbeats 2000000 in
theorem mnext_yes {w : World} {S g c : Nat} {mv : Value} {st : Sm} {fv : Nat → Value} (h : MS w S g c mv st fv) {i : Nat} (hi0 : i < st.n) (r : Nat) (h0 : (st.th i).pt = r) (h1 : r < (st.th i).fz.length) (h2 : (st.th i).fz.length ≤ 90000) :
    Calls Tryd.prog 51 #[.pointer (some ⟨g, i * 4, none⟩)] w (SesP w S g c mv st i { st.th i with pt := (r : Int) + 1 } ⟨1, ky (st.th i).fz r, vl (st.th i).fz r, 0, []⟩) := by
  refine Calls.veil fun Q HQ => ?_
  have HM := Lib.hid h
  go_enter Tryd.func51, Tryd.ntmps51
  go_upto_region 1 with fail
  generalize hU : World.alloc _ _ = U
  have hBU : Below w.heap.size w U := by rw [← hU]; (repeat (first | exact Below.refl _ _ | assumption | refine below_new ?_ _ | refine Below.drew ?_ | refine below_drewN ?_ _ | refine below_on ?_ (by assumption)))
  obtain ⟨B, hB⟩ : ∃ B, B = w.heap.size := ⟨_, rfl⟩
  have HA := Lib.hid (show A5 U B by unfold A5; rw [hB, ← hU]; exact heap_alloc_new _ _)
  have HMU := Lib.hid (h.below hBU)
  have HBU := Lib.hid hBU
  have HL := Lib.hid (show S < B ∧ g < B by rw [hB]; exact ⟨h.sl, h.row.lt⟩)
  have HMV := Lib.hid (show ∀ b o n c, mv = .slice (some ⟨b, o, none⟩) n c → 0 < n → b < B by
    intro b o n c e hn
    rw [hB]
    exact h.mp.blk e hn)
  have HBE := Lib.hid hB
  obtain ⟨t0, t1, t2, t3, tp⟩ := HMU.out.se hi0
  have tf : ∀ k, U.frozen? ⟨g, k, none⟩ = false := HMU.out.row.fr
  rw [h0] at t3
  obtain ⟨p9, c9, e9, k1, k2, k3⟩ := tp.1.parts
  obtain ⟨g9, o9, rfl, x0, x1⟩ := k3.out r h1
  rw [e9] at t2
  have HE9 := Lib.hid e9
  have HTP := Lib.hid tp
  rw [← hB]
  have hlt : (r : Int) < (st.th i).fz.length := by omega
  have hd1 : decide ((r : Int) < 0) = false := decide_eq_false (by omega)
  have hd2 : decide (((st.th i).fz.length : Int) ≤ r) = false := decide_eq_false (by omega)
  have HLT := Lib.hid h1
  have HH2 := Lib.hid h2
  have hr9 : (r : Int) ≤ 90000 := by omega
  obtain ⟨kk, hkk⟩ : ∃ kk, kk = ky (st.th i).fz r := ⟨_, rfl⟩
  obtain ⟨vv, hvv⟩ : ∃ vv, vv = vl (st.th i).fz r := ⟨_, rfl⟩
  rw [← hkk] at x0 HQ
  rw [← hvv] at x1 HQ
  have HX := Lib.hid (And.intro x0 x1)
  clear hU hBU hB h e9 tp t0 t1 h0 k3 h1 h2 hkk hvv x0 x1
  obtain ⟨m9, hm9⟩ : ∃ m9, m9 = (st.th i).fz.length := ⟨_, rfl⟩
  rw [← hm9] at t2 hlt hd2 k1
  have HM9 := Lib.hid hm9
  clear hm9
  go_quiet (fail)
  go_wp2_with fail
  generalize hV : World.setCell _ _ _ = V
  have hb0 := below_drewN (Below.refl U.heap.size U) nq
  have hMV : MS V S g c mv { st with th := updT st.th i { st.th i with pt := (r : Int) + 1 } } fv := by rw [← hV]; exact (HMU.out.below hb0).put1 i hi0 _
  have hKV : KX [g] U V := by rw [← hV]; exact (KX.of_below hb0).trans (KX.set (by simp))
  have HMV2 := Lib.hid hMV
  have HKV := Lib.hid hKV
  have HAV := Lib.hid (HA.out.of (hKV.block _ HA.out.lt (by have := HL.out; simp; omega)))
  have hnp : NP U V := by rw [← hV]; exact (NP.below hb0).trans (NP.rowF (HMU.out.below hb0).row _ (by decide))
  have hpo := HTP.out.np hnp
  rw [HE9.out] at hpo
  obtain ⟨_, _, e8, _, _, k8⟩ := hpo.1.parts
  obtain ⟨g8, o8, e7, y0, y1⟩ := k8.out r HLT.out
  simp only [Value.slice.injEq] at e8
  obtain ⟨e8, _, _⟩ := e8
  rw [← e8] at e7
  simp only [Option.some.injEq, Addr.mk.injEq] at e7
  obtain ⟨rfl, rfl, _⟩ := e7
  have e5 : ky (st.th i).fz r = kk ∧ vl (st.th i).fz r = vv := by
    obtain ⟨q0, q1⟩ := HX.out
    obtain ⟨_, _, e8', _, _, k8'⟩ := HTP.out.1.parts
    obtain ⟨g8', o8', e7', y0', y1'⟩ := k8'.out r HLT.out
    rw [HE9.out] at e8'
    simp only [Value.slice.injEq] at e8'
    rw [← e8'.1] at e7'
    simp only [Option.some.injEq, Addr.mk.injEq] at e7'
    obtain ⟨rfl, rfl, _⟩ := e7'
    rw [q0] at y0'; rw [q1] at y1'
    simp only [Option.some.injEq, Value.int.injEq, true_and] at y0' y1'
    exact ⟨y0'.symm, y1'.symm⟩
  rw [e5.1] at y0
  rw [e5.2] at y1
  obtain ⟨_, _, v2, v3, _⟩ := hMV.se hi0
  have ev : (updT st.th i { st.th i with pt := (r : Int) + 1 } i) = { st.th i with pt := (r : Int) + 1 } := by unfold updT; rw [if_pos rfl]
  simp only [ev] at v3
  rw [HE9.out, ← HM9.out] at v2
  have hgB : g ≠ B := by have := HL.out; omega
  have hg9 : g9 ≠ B := by
    intro e
    subst e
    have h1 := HAV.out.c.1
    have h2 := HAV.out.c.2.1
    have h3 := HAV.out
    rw [cell_of_row _ _ _ _ _ (0, 0) h3] at y0 y1
    have := HX.out.1
    have h4 := HA.out
    obtain ⟨cur, hcur⟩ := HTP.out.2 _ _ _ HE9.out (by have := HLT.out; omega)
    rw [show U.heap[g9]? = _ from h4] at hcur
    simp only [Option.some.injEq, Obj.cells.injEq] at hcur
    exact absurd hcur.2.1 (by decide)
  have v2 : ∀ x : E4 V [B], x.w.cell? ⟨g, i * 4 + 2, none⟩ = some (.slice (some ⟨g9, o9, none⟩) m9 c9) := E4.cells v2 (by simp; exact hgB)
  have v3 : ∀ x : E4 V [B], x.w.cell? ⟨g, i * 4 + 3, none⟩ = some (.int .i64 ((r : Int) + 1)) := E4.cells v3 (by simp; exact hgB)
  have y0 : ∀ x : E4 V [B], x.w.cell? ⟨g9, o9 + r * 2, none⟩ = some (.int .i64 kk) := E4.cells y0 (by simp; exact hg9)
  have y1 : ∀ x : E4 V [B], x.w.cell? ⟨g9, o9 + r * 2 + 1, none⟩ = some (.int .i64 vv) := E4.cells y1 (by simp; exact hg9)
  clear hV hMV hKV hnp hpo t2 t3 tf k8 e8 ev hgB hg9 hb0 hd1 hd2
  (with_reducible refine wp_region_mix (fun w' => ∃ x : E4 V [B], w' = x.w) ?_ ?_ ?_ ?_; kernel_rfl; kernel_rfl; exact ⟨⟨V.drew, .of_below (Below.refl _ _).drew⟩, rfl⟩)
  repeat (first | ((with_reducible refine mix_plain (by kernel_rfl) ?_); (first | go_big_quiet_skip | (go_big_quiet_want; go_big_quiet_op; go_big_quiet_on)); (with_reducible refine mix_on ?_)) | ((with_reducible refine mix_skip (by kernel_rfl) ?_); go_big_quiet_skip; (with_reducible refine mix_on ?_)))
  ((with_reducible refine wpMix_chain (by kernel_rfl) (by kernel_rfl) (fun K HK => ?_)); go_step)
  refine (mfound_at kk vv V.drew).mono ?_; rintro _ w2 ⟨rfl, hb2⟩
  have hb2 : Below V.heap.size V w2 := ((Below.refl _ _).drew).trans hb2
  have HB2 := Lib.hid hb2
  have HA2 := Lib.hid (HAV.out.below hb2)
  obtain ⟨c0, c1, c2, c3, c4, cf⟩ := HA2.out.c
  refine HK.out _ _ ⟨⟨w2, .of_below hb2⟩, rfl⟩ ?_
  clear HK K hb2
  repeat (first | ((with_reducible refine mix_plain (by kernel_rfl) ?_); (first | go_big_quiet_skip | (go_big_quiet_want; go_big_quiet_op; go_big_quiet_on)); (with_reducible refine mix_on ?_)) | ((with_reducible refine mix_skip (by kernel_rfl) ?_); go_big_quiet_skip; (with_reducible refine mix_on ?_)))
  ((with_reducible refine wpMix_chain (by kernel_rfl) (by kernel_rfl) (fun K HK => ?_)); go_step)
  refine HK.out _ _ ⟨⟨_, ((((((KX.of_below HB2.out).trans (KX.set (by simp))).trans (KX.set (by simp))).trans (KX.set (by simp))).trans (KX.set (by simp))).trans (KX.set (by simp)))⟩, rfl⟩ ?_
  clear HK K
  repeat (first | ((with_reducible refine mix_plain (by kernel_rfl) ?_); (first | go_big_quiet_skip | (go_big_quiet_want; go_big_quiet_op; go_big_quiet_on)); (with_reducible refine mix_on ?_)) | ((with_reducible refine mix_skip (by kernel_rfl) ?_); go_big_quiet_skip; (with_reducible refine mix_on ?_)))
  refine wpMix_nil ?_
  go_wp2_with fail
  refine bodyPost_ret (v := .agg #[.int .i64 1, .int .i64 kk, .int .i64 vv, .int .i64 0, .slice none 0 0]) (by simp [results, Tryd.results51, go_sem, c0, c1, c2, c3, c4, World.cell?_setCell_same, World.cell?_setCell_other]) rfl ?_
  rw [HQ.out]
  obtain ⟨l1, l2⟩ := HL.out
  have hBE := HBE.out
  exact ⟨_, rfl, ((HMV2.out.below HB2.out).ans5 HA2.out (by omega) (by omega) (by omega) HMV.out (((KX.of_below HBU.out).trans HKV.out).trans (.of_below HB2.out)) _ _ _ _ _)⟩
end Go.Proofs.YtkgfhomoipbjoaaDoor
