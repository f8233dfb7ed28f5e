/- Layer 10: next, session. -/
import Derived.Test.YtkgfhomoipbjoaaDoorModF
namespace Go.Proofs.YtkgfhomoipbjoaaDoor
open Go.RowKit
set_option linter.unusedVariables false
set_option linter.unusedSimpArgs false
/-- What a call of a session leaves. -/
def SesP (w : World) (S g c : Nat) (mv : Value) (st : Sm) (i : Nat) (s : Se) (a : An) (e : Ending) (w' : World) : Prop :=
  ∃ fv, e = .returned (anV a (.slice none 0 0)) ∧ MS w' S g c mv { st with th := updT st.th i s } fv ∧ KX [g] w w'
structure E5 (W : World) (g o : Nat) (v : Value) where
  w : World
  h : KX [g] W w
  c : w.cell? ⟨g, o, none⟩ = some v
set_option maxRecDepth 8000 in
set_option maxHeartbeats 2000000 in
theorem mses_join {w : World} {S g c : Nat} {mv : Value} {st : Sm} {fv : Nat → Value} (h : MS w S g c mv st fv) {i : Nat} (hi0 : i < st.n) (key val hi lim : Int) :
    Calls Tryd.prog 34 #[.pointer (some ⟨S, 0, none⟩), .pointer (some ⟨g, i * 4, none⟩), .agg #[.int .i64 13, .int .i64 key, .int .i64 val, .int .i64 hi, .int .i64 lim]] w (SesP w S g c mv st i ⟨true, false, [], 0⟩ ⟨0, 0, 0, 0, []⟩) := by
  refine Calls.veil fun Q HQ => ?_
  have HM := Lib.hid h
  go_enter Tryd.func34, Tryd.ntmps34
  go_upto_region 1 with fail
  generalize hU : World.alloc _ _ = U
  have hBU : Below w.heap.size w U := by rw [← hU]; (repeat (first | exact Below.refl _ _ | assumption | refine below_new ?_ _ | refine Below.drew ?_ | refine below_drewN ?_ _ | refine below_on ?_ (by assumption)))
  obtain ⟨B, hB⟩ : ∃ B, B = w.heap.size := ⟨_, rfl⟩
  have e1 : (w.alloc (.cells #[.int .i64 13, .int .i64 key, .int .i64 val, .int .i64 hi, .int .i64 lim] 38)).heap.size = B + 1 := by rw [hB]; simp
  have b1 : Below (B + 1) (w.alloc (.cells #[.int .i64 13, .int .i64 key, .int .i64 val, .int .i64 hi, .int .i64 lim] 38)) U := by
    rw [← hU, ← e1]; (repeat (first | exact Below.refl _ _ | assumption | refine below_new ?_ _ | refine Below.drew ?_ | refine below_drewN ?_ _ | refine below_on ?_ (by assumption)))
  have z0 : U.cell? ⟨B, 0, none⟩ = some (.int .i64 13) := by rw [hB]; exact Ext.made_in rfl (by rw [e1]; exact b1) 0 _ rfl
  have z1 : U.cell? ⟨B, 1, none⟩ = some (.int .i64 key) := by rw [hB]; exact Ext.made_in rfl (by rw [e1]; exact b1) 1 _ rfl
  have z3 : U.cell? ⟨B, 3, none⟩ = some (.int .i64 hi) := by rw [hB]; exact Ext.made_in rfl (by rw [e1]; exact b1) 3 _ rfl
  have HA := Lib.hid (show A5 U (B + 1) by unfold A5; rw [← e1, ← hU]; exact heap_alloc_new _ _)
  have HMU := Lib.hid (h.below hBU)
  have HBU := Lib.hid hBU
  have HL := Lib.hid (show S < B ∧ g < B by rw [hB]; exact ⟨h.sl, h.row.lt⟩)
  have HMV := Lib.hid (show ∀ b o n c, mv = .slice (some ⟨b, o, none⟩) n c → 0 < n → b < B by
    intro b o n c e hn
    rw [hB]
    exact h.mp.blk e hn)
  have HBE := Lib.hid hB
  have se := HMU.out.se hi0
  obtain ⟨t0, t1, t2, t3, tp⟩ := se
  have tf : ∀ k, U.frozen? ⟨g, k, none⟩ = false := HMU.out.row.fr
  rw [← hB]
  clear hU b1 e1 hBU hB h
  obtain ⟨p9, n9, c9, e9⟩ : ∃ p n c, fv i = .slice p n c := by obtain ⟨p, c, e, _⟩ := tp.1.slice; exact ⟨_, _, _, e⟩
  rw [e9] at t2
  clear e9
  go_upto_region 14 with fail
  generalize hV : World.setCell _ _ _ = V
  have hMV : MS V S g c mv { st with th := updT st.th i ⟨true, false, [], 0⟩ } (updV fv i (.slice none 0 0)) := by rw [← hV]; exact HMU.out.put4 i ⟨true, false, [], 0⟩ (.slice none 0 0) (PO.nil _)
  have hKV : KX [g] U V := by rw [← hV]; exact (((KX.set (by simp)).trans (KX.set (by simp))).trans (KX.set (by simp))).trans (KX.set (by simp))
  have HMV2 := Lib.hid hMV
  have HKV := Lib.hid hKV
  have HAV := Lib.hid (HA.out.of (hKV.block _ HA.out.lt (by have := HL.out; simp; omega)))
  obtain ⟨c0, c1, c2, c3, c4, cf⟩ := HAV.out.c
  clear hV hMV hKV t0 t1 t2 t3 tf z0 z1 z3
  go_wp2_with fail
  refine bodyPost_ret (v := .agg #[.int .i64 0, .int .i64 0, .int .i64 0, .int .i64 0, .slice none 0 0]) (by simp [results, Tryd.results34, go_sem, c0, c1, c2, c3, c4, World.cell?_setCell_same, World.cell?_setCell_other]) rfl ?_
  rw [HQ.out]
  obtain ⟨l1, l2⟩ := HL.out
  have hBE := HBE.out
  have hK0 : KX [g] w V := (KX.of_below HBU.out).trans HKV.out
  exact ⟨_, rfl, HMV2.out.ans5 HAV.out (by omega) (by omega) (by omega) (fun b o n c e hn => by have := HMV.out b o n c e hn; omega) hK0 _ _ _ _ _⟩
set_option maxRecDepth 8000 in
set_option maxHeartbeats 2000000 in
theorem mses_quit {w : World} {S g c : Nat} {mv : Value} {st : Sm} {fv : Nat → Value} (h : MS w S g c mv st fv) {i : Nat} (hi0 : i < st.n) (key val hi lim : Int) :
    Calls Tryd.prog 34 #[.pointer (some ⟨S, 0, none⟩), .pointer (some ⟨g, i * 4, none⟩), .agg #[.int .i64 14, .int .i64 key, .int .i64 val, .int .i64 hi, .int .i64 lim]] w (SesP w S g c mv st i ⟨false, false, [], 0⟩ ⟨0, 0, 0, 0, []⟩) := by
  refine Calls.veil fun Q HQ => ?_
  have HM := Lib.hid h
  go_enter Tryd.func34, Tryd.ntmps34
  go_upto_region 1 with fail
  generalize hU : World.alloc _ _ = U
  have hBU : Below w.heap.size w U := by rw [← hU]; (repeat (first | exact Below.refl _ _ | assumption | refine below_new ?_ _ | refine Below.drew ?_ | refine below_drewN ?_ _ | refine below_on ?_ (by assumption)))
  obtain ⟨B, hB⟩ : ∃ B, B = w.heap.size := ⟨_, rfl⟩
  have e1 : (w.alloc (.cells #[.int .i64 14, .int .i64 key, .int .i64 val, .int .i64 hi, .int .i64 lim] 38)).heap.size = B + 1 := by rw [hB]; simp
  have b1 : Below (B + 1) (w.alloc (.cells #[.int .i64 14, .int .i64 key, .int .i64 val, .int .i64 hi, .int .i64 lim] 38)) U := by
    rw [← hU, ← e1]; (repeat (first | exact Below.refl _ _ | assumption | refine below_new ?_ _ | refine Below.drew ?_ | refine below_drewN ?_ _ | refine below_on ?_ (by assumption)))
  have z0 : U.cell? ⟨B, 0, none⟩ = some (.int .i64 14) := by rw [hB]; exact Ext.made_in rfl (by rw [e1]; exact b1) 0 _ rfl
  have z1 : U.cell? ⟨B, 1, none⟩ = some (.int .i64 key) := by rw [hB]; exact Ext.made_in rfl (by rw [e1]; exact b1) 1 _ rfl
  have z3 : U.cell? ⟨B, 3, none⟩ = some (.int .i64 hi) := by rw [hB]; exact Ext.made_in rfl (by rw [e1]; exact b1) 3 _ rfl
  have HA := Lib.hid (show A5 U (B + 1) by unfold A5; rw [← e1, ← hU]; exact heap_alloc_new _ _)
  have HMU := Lib.hid (h.below hBU)
  have HBU := Lib.hid hBU
  have HL := Lib.hid (show S < B ∧ g < B by rw [hB]; exact ⟨h.sl, h.row.lt⟩)
  have HMV := Lib.hid (show ∀ b o n c, mv = .slice (some ⟨b, o, none⟩) n c → 0 < n → b < B by
    intro b o n c e hn
    rw [hB]
    exact h.mp.blk e hn)
  have HBE := Lib.hid hB
  have se := HMU.out.se hi0
  obtain ⟨t0, t1, t2, t3, tp⟩ := se
  have tf : ∀ k, U.frozen? ⟨g, k, none⟩ = false := HMU.out.row.fr
  rw [← hB]
  clear hU b1 e1 hBU hB h
  obtain ⟨p9, n9, c9, e9⟩ : ∃ p n c, fv i = .slice p n c := by obtain ⟨p, c, e, _⟩ := tp.1.slice; exact ⟨_, _, _, e⟩
  rw [e9] at t2
  clear e9
  go_upto_region 14 with fail
  generalize hV : World.setCell _ _ _ = V
  have hMV : MS V S g c mv { st with th := updT st.th i ⟨false, false, [], 0⟩ } (updV fv i (.slice none 0 0)) := by rw [← hV]; exact HMU.out.put4 i ⟨false, false, [], 0⟩ (.slice none 0 0) (PO.nil _)
  have hKV : KX [g] U V := by rw [← hV]; exact (((KX.set (by simp)).trans (KX.set (by simp))).trans (KX.set (by simp))).trans (KX.set (by simp))
  have HMV2 := Lib.hid hMV
  have HKV := Lib.hid hKV
  have HAV := Lib.hid (HA.out.of (hKV.block _ HA.out.lt (by have := HL.out; simp; omega)))
  obtain ⟨c0, c1, c2, c3, c4, cf⟩ := HAV.out.c
  clear hV hMV hKV t0 t1 t2 t3 tf z0 z1 z3
  go_wp2_with fail
  refine bodyPost_ret (v := .agg #[.int .i64 0, .int .i64 0, .int .i64 0, .int .i64 0, .slice none 0 0]) (by simp [results, Tryd.results34, go_sem, c0, c1, c2, c3, c4, World.cell?_setCell_same, World.cell?_setCell_other]) rfl ?_
  rw [HQ.out]
  obtain ⟨l1, l2⟩ := HL.out
  have hBE := HBE.out
  have hK0 : KX [g] w V := (KX.of_below HBU.out).trans HKV.out
  exact ⟨_, rfl, HMV2.out.ans5 HAV.out (by omega) (by omega) (by omega) (fun b o n c e hn => by have := HMV.out b o n c e hn; omega) hK0 _ _ _ _ _⟩
set_option maxRecDepth 8000 in
set_option maxHeartbeats 2000000 in
theorem mses_close {w : World} {S g c : Nat} {mv : Value} {st : Sm} {fv : Nat → Value} (h : MS w S g c mv st fv) {i : Nat} (hi0 : i < st.n) (key val hi lim : Int) :
    Calls Tryd.prog 34 #[.pointer (some ⟨S, 0, none⟩), .pointer (some ⟨g, i * 4, none⟩), .agg #[.int .i64 12, .int .i64 key, .int .i64 val, .int .i64 hi, .int .i64 lim]] w (SesP w S g c mv st i ⟨true, false, [], 0⟩ ⟨0, 0, 0, 0, []⟩) := by
  refine Calls.veil fun Q HQ => ?_
  have HM := Lib.hid h
  go_enter Tryd.func34, Tryd.ntmps34
  go_upto_region 1 with fail
  generalize hU : World.alloc _ _ = U
  have hBU : Below w.heap.size w U := by rw [← hU]; (repeat (first | exact Below.refl _ _ | assumption | refine below_new ?_ _ | refine Below.drew ?_ | refine below_drewN ?_ _ | refine below_on ?_ (by assumption)))
  obtain ⟨B, hB⟩ : ∃ B, B = w.heap.size := ⟨_, rfl⟩
  have e1 : (w.alloc (.cells #[.int .i64 12, .int .i64 key, .int .i64 val, .int .i64 hi, .int .i64 lim] 38)).heap.size = B + 1 := by rw [hB]; simp
  have b1 : Below (B + 1) (w.alloc (.cells #[.int .i64 12, .int .i64 key, .int .i64 val, .int .i64 hi, .int .i64 lim] 38)) U := by
    rw [← hU, ← e1]; (repeat (first | exact Below.refl _ _ | assumption | refine below_new ?_ _ | refine Below.drew ?_ | refine below_drewN ?_ _ | refine below_on ?_ (by assumption)))
  have z0 : U.cell? ⟨B, 0, none⟩ = some (.int .i64 12) := by rw [hB]; exact Ext.made_in rfl (by rw [e1]; exact b1) 0 _ rfl
  have z1 : U.cell? ⟨B, 1, none⟩ = some (.int .i64 key) := by rw [hB]; exact Ext.made_in rfl (by rw [e1]; exact b1) 1 _ rfl
  have z3 : U.cell? ⟨B, 3, none⟩ = some (.int .i64 hi) := by rw [hB]; exact Ext.made_in rfl (by rw [e1]; exact b1) 3 _ rfl
  have HA := Lib.hid (show A5 U (B + 1) by unfold A5; rw [← e1, ← hU]; exact heap_alloc_new _ _)
  have HMU := Lib.hid (h.below hBU)
  have HBU := Lib.hid hBU
  have HL := Lib.hid (show S < B ∧ g < B by rw [hB]; exact ⟨h.sl, h.row.lt⟩)
  have HMV := Lib.hid (show ∀ b o n c, mv = .slice (some ⟨b, o, none⟩) n c → 0 < n → b < B by
    intro b o n c e hn
    rw [hB]
    exact h.mp.blk e hn)
  have HBE := Lib.hid hB
  have se := HMU.out.se hi0
  obtain ⟨t0, t1, t2, t3, tp⟩ := se
  have tf : ∀ k, U.frozen? ⟨g, k, none⟩ = false := HMU.out.row.fr
  rw [← hB]
  clear hU b1 e1 hBU hB h
  obtain ⟨p9, n9, c9, e9⟩ : ∃ p n c, fv i = .slice p n c := by obtain ⟨p, c, e, _⟩ := tp.1.slice; exact ⟨_, _, _, e⟩
  rw [e9] at t2
  clear e9
  go_upto_region 14 with fail
  generalize hV : World.setCell _ _ _ = V
  have hMV : MS V S g c mv { st with th := updT st.th i ⟨true, false, [], 0⟩ } (updV fv i (.slice none 0 0)) := by rw [← hV]; exact HMU.out.put4 i ⟨true, false, [], 0⟩ (.slice none 0 0) (PO.nil _)
  have hKV : KX [g] U V := by rw [← hV]; exact (((KX.set (by simp)).trans (KX.set (by simp))).trans (KX.set (by simp))).trans (KX.set (by simp))
  have HMV2 := Lib.hid hMV
  have HKV := Lib.hid hKV
  have HAV := Lib.hid (HA.out.of (hKV.block _ HA.out.lt (by have := HL.out; simp; omega)))
  obtain ⟨c0, c1, c2, c3, c4, cf⟩ := HAV.out.c
  clear hV hMV hKV t0 t1 t2 t3 tf z0 z1 z3
  go_wp2_with fail
  refine bodyPost_ret (v := .agg #[.int .i64 0, .int .i64 0, .int .i64 0, .int .i64 0, .slice none 0 0]) (by simp [results, Tryd.results34, go_sem, c0, c1, c2, c3, c4, World.cell?_setCell_same, World.cell?_setCell_other]) rfl ?_
  rw [HQ.out]
  obtain ⟨l1, l2⟩ := HL.out
  have hBE := HBE.out
  have hK0 : KX [g] w V := (KX.of_below HBU.out).trans HKV.out
  exact ⟨_, rfl, HMV2.out.ans5 HAV.out (by omega) (by omega) (by omega) (fun b o n c e hn => by have := HMV.out b o n c e hn; omega) hK0 _ _ _ _ _⟩
set_option maxRecDepth 8000 in
set_option maxHeartbeats 2000000 in
theorem mses_open {w : World} {S g c : Nat} {mv : Value} {st : Sm} {fv : Nat → Value} (h : MS w S g c mv st fv) {i : Nat} (hi0 : i < st.n) (key val hi lim : Int) (hr : riseB st.mp = true) (hn : st.mp.length ≤ 90000) :
    Calls Tryd.prog 34 #[.pointer (some ⟨S, 0, none⟩), .pointer (some ⟨g, i * 4, none⟩), .agg #[.int .i64 9, .int .i64 key, .int .i64 val, .int .i64 hi, .int .i64 lim]] w (SesP w S g c mv st i ⟨true, true, cutL st.mp key hi 9223372036854775807, 0⟩ ⟨0, 0, 0, 0, []⟩) := by
  refine Calls.veil fun Q HQ => ?_
  have HM := Lib.hid h
  go_enter Tryd.func34, Tryd.ntmps34
  go_upto_region 1 with fail
  generalize hU : World.alloc _ _ = U
  have hBU : Below w.heap.size w U := by rw [← hU]; (repeat (first | exact Below.refl _ _ | assumption | refine below_new ?_ _ | refine Below.drew ?_ | refine below_drewN ?_ _ | refine below_on ?_ (by assumption)))
  obtain ⟨B, hB⟩ : ∃ B, B = w.heap.size := ⟨_, rfl⟩
  have e1 : (w.alloc (.cells #[.int .i64 9, .int .i64 key, .int .i64 val, .int .i64 hi, .int .i64 lim] 38)).heap.size = B + 1 := by rw [hB]; simp
  have b1 : Below (B + 1) (w.alloc (.cells #[.int .i64 9, .int .i64 key, .int .i64 val, .int .i64 hi, .int .i64 lim] 38)) U := by
    rw [← hU, ← e1]; (repeat (first | exact Below.refl _ _ | assumption | refine below_new ?_ _ | refine Below.drew ?_ | refine below_drewN ?_ _ | refine below_on ?_ (by assumption)))
  have z0 : U.cell? ⟨B, 0, none⟩ = some (.int .i64 9) := by rw [hB]; exact Ext.made_in rfl (by rw [e1]; exact b1) 0 _ rfl
  have z1 : U.cell? ⟨B, 1, none⟩ = some (.int .i64 key) := by rw [hB]; exact Ext.made_in rfl (by rw [e1]; exact b1) 1 _ rfl
  have z3 : U.cell? ⟨B, 3, none⟩ = some (.int .i64 hi) := by rw [hB]; exact Ext.made_in rfl (by rw [e1]; exact b1) 3 _ rfl
  have HA := Lib.hid (show A5 U (B + 1) by unfold A5; rw [← e1, ← hU]; exact heap_alloc_new _ _)
  have HMU := Lib.hid (h.below hBU)
  have HBU := Lib.hid hBU
  have HL := Lib.hid (show S < B ∧ g < B by rw [hB]; exact ⟨h.sl, h.row.lt⟩)
  have HMV := Lib.hid (show ∀ b o n c, mv = .slice (some ⟨b, o, none⟩) n c → 0 < n → b < B by
    intro b o n c e hn
    rw [hB]
    exact h.mp.blk e hn)
  have HBE := Lib.hid hB
  have se := HMU.out.se hi0
  obtain ⟨t0, t1, t2, t3, tp⟩ := se
  have tf : ∀ k, U.frozen? ⟨g, k, none⟩ = false := HMU.out.row.fr
  rw [← hB]
  clear hU b1 e1 hBU hB h
  obtain ⟨p9, n9, c9, e9⟩ : ∃ p n c, fv i = .slice p n c := by obtain ⟨p, c, e, _⟩ := tp.1.slice; exact ⟨_, _, _, e⟩
  rw [e9] at t2
  have HR := Lib.hid hr
  have HN := Lib.hid hn
  have s0 := HMU.out.s0
  obtain ⟨p, cc, e8, m1, m2⟩ := HMU.out.mp.slice
  have HPM := Lib.hid HMU.out.mp
  have HEM := Lib.hid e8
  rw [e8] at s0
  have s0 : ∀ x : E4 U [g], x.w.cell? ⟨S, 0, none⟩ = some (.slice p st.mp.length cc) := E4.cells s0 (by have := HMU.out.ne; simp; omega)
  have z1 : ∀ x : E4 U [g], x.w.cell? ⟨B, 1, none⟩ = some (.int .i64 key) := E4.cells z1 (by have := HL.out; simp; omega)
  have z3 : ∀ x : E4 U [g], x.w.cell? ⟨B, 3, none⟩ = some (.int .i64 hi) := E4.cells z3 (by have := HL.out; simp; omega)
  clear e9 e8 hr hn
  go_upto_region 7 with fail
  (with_reducible refine wp_region_mix (fun w' => ∃ x : E4 U [g], w' = x.w) ?_ ?_ ?_ ?_; kernel_rfl; kernel_rfl; exact ⟨⟨U.drew, .of_below (Below.refl _ _).drew⟩, rfl⟩)
  repeat (first | ((with_reducible refine mix_plain (by kernel_rfl) ?_); (first | go_big_quiet_skip | (go_big_quiet_want; go_big_quiet_op; go_big_quiet_on)); (with_reducible refine mix_on ?_)) | ((with_reducible refine mix_skip (by kernel_rfl) ?_); go_big_quiet_skip; (with_reducible refine mix_on ?_)))
  ((with_reducible refine wpMix_chain (by kernel_rfl) (by kernel_rfl) (fun K HK => ?_)); go_step)
  refine (pcutO st.mp _ key hi 9223372036854775807 U.drew (by rw [← HEM.out]; exact HPM.out.below (Below.refl _ _).drew) HR.out HN.out).mono ?_; rintro _ w1 ⟨v1, rfl, hp1, hb1⟩
  have hb1 : Below U.heap.size U w1 := ((Below.refl _ _).drew).trans hb1
  have HB1 := Lib.hid hb1
  have HM1 := Lib.hid (HMU.out.below hb1)
  have HP1 := Lib.hid hp1
  obtain ⟨p1, cc1, rfl, _, _⟩ := hp1.1.slice
  refine HK.out _ _ ⟨⟨w1, .of_below hb1⟩, rfl⟩ ?_
  obtain ⟨t0, t1, t2, t3, _⟩ := HM1.out.se hi0
  have tf : ∀ k, w1.frozen? ⟨g, k, none⟩ = false := HM1.out.row.fr
  obtain ⟨p9, n9, c9, e9⟩ : ∃ p n c, fv i = .slice p n c := by obtain ⟨p, c, e, _⟩ := (HM1.out.po i hi0).1.slice; exact ⟨_, _, _, e⟩
  rw [e9] at t2
  clear HK K hp1 hb1 e9
  repeat (first | ((with_reducible refine mix_plain (by kernel_rfl) ?_); (first | go_big_quiet_skip | (go_big_quiet_want; go_big_quiet_op; go_big_quiet_on)); (with_reducible refine mix_on ?_)) | ((with_reducible refine mix_skip (by kernel_rfl) ?_); go_big_quiet_skip; (with_reducible refine mix_on ?_)))
  ((with_reducible refine wpMix_chain (by kernel_rfl) (by kernel_rfl) (fun K HK => ?_)); go_step)
  generalize hV : World.setCell _ _ _ = V
  have hMV : MS V S g c mv { st with th := updT st.th i ⟨true, true, cutL st.mp key hi 9223372036854775807, 0⟩ } (updV fv i (.slice p1 (cutL st.mp key hi 9223372036854775807).length cc1)) := by rw [← hV]; exact HM1.out.put4 i ⟨true, true, cutL st.mp key hi 9223372036854775807, 0⟩ _ HP1.out
  have hKV : KX [g] U V := by rw [← hV]; exact (KX.of_below HB1.out).trans ((((KX.set (by simp)).trans (KX.set (by simp))).trans (KX.set (by simp))).trans (KX.set (by simp)))
  refine HK.out _ _ ⟨⟨V, hKV⟩, rfl⟩ ?_
  clear HK K
  repeat (first | ((with_reducible refine mix_plain (by kernel_rfl) ?_); (first | go_big_quiet_skip | (go_big_quiet_want; go_big_quiet_op; go_big_quiet_on)); (with_reducible refine mix_on ?_)) | ((with_reducible refine mix_skip (by kernel_rfl) ?_); go_big_quiet_skip; (with_reducible refine mix_on ?_)))
  refine wpMix_nil ?_
  have HMV2 := Lib.hid hMV
  have HKV := Lib.hid hKV
  have HAV := Lib.hid (HA.out.of (hKV.block _ HA.out.lt (by have := HL.out; simp; omega)))
  obtain ⟨c0, c1, c2, c3, c4, cf⟩ := HAV.out.c
  clear hV hMV hKV t0 t1 t2 t3 tf z0 z1 z3 s0
  go_wp2_with fail
  refine bodyPost_ret (v := .agg #[.int .i64 0, .int .i64 0, .int .i64 0, .int .i64 0, .slice none 0 0]) (by simp [results, Tryd.results34, go_sem, c0, c1, c2, c3, c4, World.cell?_setCell_same, World.cell?_setCell_other]) rfl ?_
  rw [HQ.out]
  obtain ⟨l1, l2⟩ := HL.out
  have hBE := HBE.out
  have hK0 : KX [g] w V := (KX.of_below HBU.out).trans HKV.out
  exact ⟨_, rfl, HMV2.out.ans5 HAV.out (by omega) (by omega) (by omega) (fun b o n c e hn => by have := HMV.out b o n c e hn; omega) hK0 _ _ _ _ _⟩
end Go.Proofs.YtkgfhomoipbjoaaDoor
