/- Layer 10: puts and drops, in rows of their own. -/
import Derived.Test.YtkgfhomoipbjoaaDoorModC
import Derived.Test.YtkgfhomoipbjoaaDoorPairF
namespace Go.Proofs.YtkgfhomoipbjoaaDoor
open Go.RowKit
set_option linter.unusedVariables false
set_option linter.unusedSimpArgs false
set_option maxHeartbeats 1000000 in
theorem pjoinO (m c g : Nat) (vs : Nat → Value) (ls : Nat → PL) (w : World) (hm : m ≤ 3) (hmc : m ≤ c) (hc : c ≤ 9223372036854775807) (hv : ∀ i, i < m → w.cell? ⟨g, i, none⟩ = some (vs i)) (hp : ∀ i, i < m → PR w (vs i) (ls i)) (hl : ∀ i, i < m → (ls i).length ≤ 100000) :
    Calls Tryd.prog 54 #[.slice (some ⟨g, 0, none⟩) m c] w fun e w' => ∃ v', e = .returned v' ∧ PO w' v' (catL ls m) ∧ Below w.heap.size w w' := by
  have HV := Lib.hid hv; have HP := Lib.hid hp; have HL := Lib.hid hl
  clear hv hp hl
  refine Calls.veil fun Q HQ => ?_
  go_enter Tryd.func54, Tryd.ntmps54
  go_wp2_with fail
  go_loopw [3, 8] (fun ov iv wr => ∃ k : Nat, k ≤ m ∧ iv = .int .i64 k ∧ Hid (OwnP wr w.heap.size ov (catL ls k)) ∧ Below w.heap.size w wr)
    (fun _ iv _ => m - (intOf iv).toNat)
  case atStart => exact ⟨0, by omega, rfl, Lib.hid (own_nil _ _), Below.refl _ _⟩
  case round =>
    obtain ⟨k, hk, rfl, HO, hbel⟩ := hrel
    rcases (by omega : k < m ∨ k = m) with hlt | heq
    · obtain ⟨p, cc, hvk, _, _⟩ := (HP.out k hlt).slice
      have c0 := Ext.cell ⟨wr, hbel⟩ (HV.out k hlt)
      rw [hvk] at c0
      simp only at c0
      have HPK := Lib.hid ((HP.out k hlt).below hbel)
      have HVK := Lib.hid hvk
      have hlen : (catL ls k).length ≤ k * 100000 := catL_len ls _ k (fun i hi => HL.out i (by omega))
      have hlk := HL.out k hlt
      have HLEN := Lib.hid (show (catL ls k).length + (ls k).length ≤ 1000000 by
        have : k * 100000 ≤ 3 * 100000 := Nat.mul_le_mul_right _ (by omega)
        omega)
      clear hvk hlen hlk
      go_wp2_with (at_builtin; refine wpList_append_pr rfl (.tmp 12) (.tmp 13) rfl w.heap.size _ (catL ls k) rfl HO.out _ (ls k) rfl (by have := HPK.out; rw [HVK.out] at this; exact this) HLEN.out hbel.size ?_)
      intro v1 w1 hown hg
      have hb := grow_step HO.out hbel (Nat.le_refl _) hg
      have HO1 := Lib.hid hown
      clear hown hg c0
      go_wp2_with fail
      go_roundw
      case rel => exact ⟨k + 1, by omega, by go_num, HO1.out, hb⟩
      case measure => simp [intOf]; omega
    · subst heq
      have HPR := Lib.hid (own_PO HO.out)
      go_wp2_with fail
      (try go_ret)
      rw [HQ.out]
      exact ⟨_, rfl, HPR.out, hbel⟩
theorem pjoin3O (c g : Nat) (v0 v1 v2 : Value) (l0 l1 l2 : PL) (w : World) (hmc : 3 ≤ c) (hc : c ≤ 9223372036854775807) (c0 : w.cell? ⟨g, 0, none⟩ = some v0) (c1 : w.cell? ⟨g, 1, none⟩ = some v1) (c2 : w.cell? ⟨g, 2, none⟩ = some v2) (p0 : PR w v0 l0) (p1 : PR w v1 l1) (p2 : PR w v2 l2) (hl : l0.length ≤ 100000 ∧ l1.length ≤ 100000 ∧ l2.length ≤ 100000) :
    Calls Tryd.prog 54 #[.slice (some ⟨g, 0, none⟩) 3 c] w fun e w' => ∃ v', e = .returned v' ∧ PO w' v' (l0 ++ l1 ++ l2) ∧ Below w.heap.size w w' := by
  have := pjoinO 3 c g (fun i => if i = 0 then v0 else if i = 1 then v1 else v2) (fun i => if i = 0 then l0 else if i = 1 then l1 else l2) w (by omega) hmc hc
    (fun i hi => by rcases (by omega : i = 0 ∨ i = 1 ∨ i = 2) with rfl | rfl | rfl <;> simpa) (fun i hi => by rcases (by omega : i = 0 ∨ i = 1 ∨ i = 2) with rfl | rfl | rfl <;> simpa) (fun i hi => by rcases (by omega : i = 0 ∨ i = 1 ∨ i = 2) with rfl | rfl | rfl <;> simp [hl])
  simpa [catL] using this
theorem pjoin2O (c g : Nat) (v0 v1 : Value) (l0 l1 : PL) (w : World) (hmc : 2 ≤ c) (hc : c ≤ 9223372036854775807) (c0 : w.cell? ⟨g, 0, none⟩ = some v0) (c1 : w.cell? ⟨g, 1, none⟩ = some v1) (p0 : PR w v0 l0) (p1 : PR w v1 l1) (hl : l0.length ≤ 100000 ∧ l1.length ≤ 100000) :
    Calls Tryd.prog 54 #[.slice (some ⟨g, 0, none⟩) 2 c] w fun e w' => ∃ v', e = .returned v' ∧ PO w' v' (l0 ++ l1) ∧ Below w.heap.size w w' := by
  have := pjoinO 2 c g (fun i => if i = 0 then v0 else v1) (fun i => if i = 0 then l0 else l1) w (by omega) hmc hc
    (fun i hi => by rcases (by omega : i = 0 ∨ i = 1) with rfl | rfl <;> simpa) (fun i hi => by rcases (by omega : i = 0 ∨ i = 1) with rfl | rfl <;> simpa) (fun i hi => by rcases (by omega : i = 0 ∨ i = 1) with rfl | rfl <;> simp [hl])
  simpa [catL] using this
theorem put_endO (w1 : World) (v0 v2 : Value) (l0 l2 : PL) (k x : Int) (T T' : TypeId) (p0 : PR w1 v0 l0) (p2 : PR w1 v2 l2) (hl : l0.length ≤ 100000 ∧ l2.length ≤ 100000) :
    Calls Tryd.prog 54 #[.slice (some ⟨w1.heap.size + 1, 0, none⟩) 3 3] ((w1.drew.alloc (.cells #[.int .i64 k, .int .i64 x] T)).alloc (.cells #[v0, .slice (some ⟨w1.heap.size, 0, none⟩) 1 1, v2] T')) fun e w' => ∃ v', e = .returned v' ∧ PO w' v' (l0 ++ [(k, x)] ++ l2) ∧ Below w1.heap.size w1 w' := by
  have hd : Below w1.heap.size w1 w1.drew := (Below.refl _ _).drew
  have hs : (w1.drew.alloc (.cells #[.int .i64 k, .int .i64 x] T)).heap.size = w1.heap.size + 1 := by show (w1.alloc _).heap.size = _; simp
  generalize hU : w1.drew.alloc (.cells #[.int .i64 k, .int .i64 x] T) = U at *
  have hb : Below w1.heap.size w1 U := by rw [← hU]; (repeat (first | exact Below.refl _ _ | assumption | refine below_new ?_ _ | refine Below.drew ?_ | refine below_drewN ?_ _ | refine below_on ?_ (by assumption)))
  have p1 : PR U (.slice (some ⟨w1.heap.size, 0, none⟩) 1 1) [(k, x)] := by rw [← hU]; exact PR.single (w := w1.drew)
  rw [← hs]
  refine (pjoin3O 3 _ v0 _ v2 l0 [(k, x)] l2 _ (by omega) (by omega) (Ext.made_in rfl (Below.refl _ _) 0 _ rfl) (Ext.made_in rfl (Below.refl _ _) 1 _ rfl) (Ext.made_in rfl (Below.refl _ _) 2 _ rfl) ((p0.below hb).alloc _) (p1.alloc _) ((p2.below hb).alloc _) ⟨hl.1, by simp, hl.2⟩).mono ?_
  rintro _ w' ⟨v', rfl, h1, h2⟩
  exact ⟨v', rfl, h1, below_on (below_new hb _) h2⟩
set_option maxHeartbeats 1000000 in
theorem pputO (l : PL) (v : Value) (k x : Int) (w : World) (h : PR w v l) (hr : riseB l = true) (hn : l.length ≤ 90000) :
    Calls Tryd.prog 44 #[v, .agg #[.int .i64 k, .int .i64 x]] w fun e w' => ∃ v', e = .returned (.tuple #[v', .bool (!hereB l k)]) ∧ PO w' v' (putL l (k, x)) ∧ Below w.heap.size w w' := by
  have H := Lib.hid h; have HR := Lib.hid hr
  have hle := lbN_le l k
  refine Calls.veil fun Q HQ => ?_
  cases hh : hereB l k
  · have HPUT := Lib.hid (putL_new (p := (k, x)) hh)
    have HH := Lib.hid hh
    obtain ⟨r, hr2⟩ : ∃ r : Nat, r = lbN l k := ⟨_, rfl⟩
    clear hr
    rw [← hr2] at hle HPUT
    cases h with
    | nil =>
      have hr0 : r = 0 := by simpa using hle
      subst hr0
      clear hle hn
      have hn : ([] : PL).length ≤ 90000 := by simp
      go_enter Tryd.func44, Tryd.ntmps44
      have HRR := Lib.hid hr2
      clear hr2 hh
      go_wp2_with fail
      generalize hW : World.alloc w _ = W
      have hBW : Below w.heap.size w W := by rw [← hW]; (repeat (first | exact Below.refl _ _ | assumption | refine below_new ?_ _ | refine Below.drew ?_ | refine below_drewN ?_ _ | refine below_on ?_ (by assumption)))
      have hC : Cell2 W w.heap.size k x := by rw [← hW]; exact Cell2.new w k x _
      clear hW
      refine (pfind _ _ k W (H.out.below hBW) HR.out (by omega)).mono ?_; rintro _ w1 ⟨rfl, hb1⟩
      rw [HH.out, ← HRR.out]
      have hC := hC.below hb1
      have hB1 := below_on hBW hb1
      clear hBW hb1
      have z0 : ∀ y : Ext w1, y.w.cell? ⟨w.heap.size, 0, none⟩ = some (.int .i64 k) := Ext.cells hC.c0
      have z1 : ∀ y : Ext w1, y.w.cell? ⟨w.heap.size, 1, none⟩ = some (.int .i64 x) := Ext.cells hC.c1
      have HB := Lib.hid hB1
      clear hC hB1
      go_wp2_with fail
      (with_reducible refine wp_region_mix (fun w' => ∃ y : Ext w1, w' = y.w) ?_ ?_ ?_ ?_; kernel_rfl; kernel_rfl; exact ⟨⟨w1.drew, (Below.refl _ _).drew⟩, rfl⟩)
      repeat (first | ((with_reducible refine mix_plain (by kernel_rfl) ?_); (first | go_big_quiet_skip | (go_big_quiet_want; go_big_quiet_op; go_big_quiet_on)); (with_reducible refine mix_on ?_)) | ((with_reducible refine mix_skip (by kernel_rfl) ?_); go_big_quiet_skip; (with_reducible refine mix_on ?_)))
      ((with_reducible refine wpMix_chain (by kernel_rfl) (by kernel_rfl) (fun K HK => ?_)); go_step)
      refine HK.out _ _ ⟨⟨_, by (repeat (first | exact Below.refl _ _ | assumption | refine below_new ?_ _ | refine Below.drew ?_ | refine below_drewN ?_ _ | refine below_on ?_ (by assumption)))⟩, rfl⟩ ?_
      clear HK K
      repeat (first | ((with_reducible refine mix_plain (by kernel_rfl) ?_); (first | go_big_quiet_skip | (go_big_quiet_want; go_big_quiet_op; go_big_quiet_on)); (with_reducible refine mix_on ?_)) | ((with_reducible refine mix_skip (by kernel_rfl) ?_); go_big_quiet_skip; (with_reducible refine mix_on ?_)))
      ((with_reducible refine wpMix_chain (by kernel_rfl) (by kernel_rfl) (fun K HK => ?_)); go_step)
      refine HK.out _ _ ⟨⟨_, by (repeat (first | exact Below.refl _ _ | assumption | refine below_new ?_ _ | refine Below.drew ?_ | refine below_drewN ?_ _ | refine below_on ?_ (by assumption)))⟩, rfl⟩ ?_
      clear HK K
      repeat (first | ((with_reducible refine mix_plain (by kernel_rfl) ?_); (first | go_big_quiet_skip | (go_big_quiet_want; go_big_quiet_op; go_big_quiet_on)); (with_reducible refine mix_on ?_)) | ((with_reducible refine mix_skip (by kernel_rfl) ?_); go_big_quiet_skip; (with_reducible refine mix_on ?_)))
      ((with_reducible refine wpMix_chain (by kernel_rfl) (by kernel_rfl) (fun K HK => ?_)); go_step)
      refine (put_endO w1 _ _ _ _ k x _ _ (.nil) (.nil) ⟨by simp <;> omega, by simp <;> omega⟩).mono ?_; rintro _ w2 ⟨v', rfl, hP, hb2⟩
      have HP := Lib.hid hP
      refine HK.out _ _ ⟨⟨w2, hb2⟩, rfl⟩ ?_
      have hB := Lib.hid (below_on HB.out hb2)
      clear HK K hP hb2 z0 z1
      repeat (first | ((with_reducible refine mix_plain (by kernel_rfl) ?_); (first | go_big_quiet_skip | (go_big_quiet_want; go_big_quiet_op; go_big_quiet_on)); (with_reducible refine mix_on ?_)) | ((with_reducible refine mix_skip (by kernel_rfl) ?_); go_big_quiet_skip; (with_reducible refine mix_on ?_)))
      refine wpMix_nil ?_
      go_wp2_with fail
      (try go_ret2)
      rw [HQ.out]
      exact ⟨v', by first | rfl | (rw [HH.out]; rfl), by rw [HPUT.out]; exact HP.out, hB.out⟩
    | odd ad c hc0 =>
      have hr0 : r = 0 := by simpa using hle
      subst hr0
      clear hle hn
      have hn : ([] : PL).length ≤ 90000 := by simp
      go_enter Tryd.func44, Tryd.ntmps44
      have HRR := Lib.hid hr2
      clear hr2 hh
      go_wp2_with fail
      generalize hW : World.alloc w _ = W
      have hBW : Below w.heap.size w W := by rw [← hW]; (repeat (first | exact Below.refl _ _ | assumption | refine below_new ?_ _ | refine Below.drew ?_ | refine below_drewN ?_ _ | refine below_on ?_ (by assumption)))
      have hC : Cell2 W w.heap.size k x := by rw [← hW]; exact Cell2.new w k x _
      clear hW
      refine (pfind _ _ k W (H.out.below hBW) HR.out (by omega)).mono ?_; rintro _ w1 ⟨rfl, hb1⟩
      rw [HH.out, ← HRR.out]
      have hC := hC.below hb1
      have hB1 := below_on hBW hb1
      clear hBW hb1
      have z0 : ∀ y : Ext w1, y.w.cell? ⟨w.heap.size, 0, none⟩ = some (.int .i64 k) := Ext.cells hC.c0
      have z1 : ∀ y : Ext w1, y.w.cell? ⟨w.heap.size, 1, none⟩ = some (.int .i64 x) := Ext.cells hC.c1
      have HB := Lib.hid hB1
      clear hC hB1
      go_wp2_with fail
      rcases (by omega : c = 0 ∨ 0 < c) with rfl | hrc
      · skip
        (with_reducible refine wp_region_mix (fun w' => ∃ y : Ext w1, w' = y.w) ?_ ?_ ?_ ?_; kernel_rfl; kernel_rfl; exact ⟨⟨w1.drew, (Below.refl _ _).drew⟩, rfl⟩)
        repeat (first | ((with_reducible refine mix_plain (by kernel_rfl) ?_); (first | go_big_quiet_skip | (go_big_quiet_want; go_big_quiet_op; go_big_quiet_on)); (with_reducible refine mix_on ?_)) | ((with_reducible refine mix_skip (by kernel_rfl) ?_); go_big_quiet_skip; (with_reducible refine mix_on ?_)))
        ((with_reducible refine wpMix_chain (by kernel_rfl) (by kernel_rfl) (fun K HK => ?_)); go_step)
        refine HK.out _ _ ⟨⟨_, by (repeat (first | exact Below.refl _ _ | assumption | refine below_new ?_ _ | refine Below.drew ?_ | refine below_drewN ?_ _ | refine below_on ?_ (by assumption)))⟩, rfl⟩ ?_
        clear HK K
        repeat (first | ((with_reducible refine mix_plain (by kernel_rfl) ?_); (first | go_big_quiet_skip | (go_big_quiet_want; go_big_quiet_op; go_big_quiet_on)); (with_reducible refine mix_on ?_)) | ((with_reducible refine mix_skip (by kernel_rfl) ?_); go_big_quiet_skip; (with_reducible refine mix_on ?_)))
        ((with_reducible refine wpMix_chain (by kernel_rfl) (by kernel_rfl) (fun K HK => ?_)); go_step)
        refine HK.out _ _ ⟨⟨_, by (repeat (first | exact Below.refl _ _ | assumption | refine below_new ?_ _ | refine Below.drew ?_ | refine below_drewN ?_ _ | refine below_on ?_ (by assumption)))⟩, rfl⟩ ?_
        clear HK K
        repeat (first | ((with_reducible refine mix_plain (by kernel_rfl) ?_); (first | go_big_quiet_skip | (go_big_quiet_want; go_big_quiet_op; go_big_quiet_on)); (with_reducible refine mix_on ?_)) | ((with_reducible refine mix_skip (by kernel_rfl) ?_); go_big_quiet_skip; (with_reducible refine mix_on ?_)))
        ((with_reducible refine wpMix_chain (by kernel_rfl) (by kernel_rfl) (fun K HK => ?_)); go_step)
        refine (put_endO w1 _ _ _ _ k x _ _ (.odd _ _ (by omega)) (.odd _ _ (by omega)) ⟨by simp <;> omega, by simp <;> omega⟩).mono ?_; rintro _ w2 ⟨v', rfl, hP, hb2⟩
        have HP := Lib.hid hP
        refine HK.out _ _ ⟨⟨w2, hb2⟩, rfl⟩ ?_
        have hB := Lib.hid (below_on HB.out hb2)
        clear HK K hP hb2 z0 z1
        repeat (first | ((with_reducible refine mix_plain (by kernel_rfl) ?_); (first | go_big_quiet_skip | (go_big_quiet_want; go_big_quiet_op; go_big_quiet_on)); (with_reducible refine mix_on ?_)) | ((with_reducible refine mix_skip (by kernel_rfl) ?_); go_big_quiet_skip; (with_reducible refine mix_on ?_)))
        refine wpMix_nil ?_
        go_wp2_with fail
        (try go_ret2)
        rw [HQ.out]
        exact ⟨v', by first | rfl | (rw [HH.out]; rfl), by rw [HPUT.out]; exact HP.out, hB.out⟩
      · have hne : c ≠ 0 := by omega
        (with_reducible refine wp_region_mix (fun w' => ∃ y : Ext w1, w' = y.w) ?_ ?_ ?_ ?_; kernel_rfl; kernel_rfl; exact ⟨⟨w1.drew, (Below.refl _ _).drew⟩, rfl⟩)
        repeat (first | ((with_reducible refine mix_plain (by kernel_rfl) ?_); (first | go_big_quiet_skip | (go_big_quiet_want; go_big_quiet_op; go_big_quiet_on)); (with_reducible refine mix_on ?_)) | ((with_reducible refine mix_skip (by kernel_rfl) ?_); go_big_quiet_skip; (with_reducible refine mix_on ?_)))
        ((with_reducible refine wpMix_chain (by kernel_rfl) (by kernel_rfl) (fun K HK => ?_)); go_step)
        refine HK.out _ _ ⟨⟨_, by (repeat (first | exact Below.refl _ _ | assumption | refine below_new ?_ _ | refine Below.drew ?_ | refine below_drewN ?_ _ | refine below_on ?_ (by assumption)))⟩, rfl⟩ ?_
        clear HK K
        repeat (first | ((with_reducible refine mix_plain (by kernel_rfl) ?_); (first | go_big_quiet_skip | (go_big_quiet_want; go_big_quiet_op; go_big_quiet_on)); (with_reducible refine mix_on ?_)) | ((with_reducible refine mix_skip (by kernel_rfl) ?_); go_big_quiet_skip; (with_reducible refine mix_on ?_)))
        ((with_reducible refine wpMix_chain (by kernel_rfl) (by kernel_rfl) (fun K HK => ?_)); go_step)
        refine HK.out _ _ ⟨⟨_, by (repeat (first | exact Below.refl _ _ | assumption | refine below_new ?_ _ | refine Below.drew ?_ | refine below_drewN ?_ _ | refine below_on ?_ (by assumption)))⟩, rfl⟩ ?_
        clear HK K
        repeat (first | ((with_reducible refine mix_plain (by kernel_rfl) ?_); (first | go_big_quiet_skip | (go_big_quiet_want; go_big_quiet_op; go_big_quiet_on)); (with_reducible refine mix_on ?_)) | ((with_reducible refine mix_skip (by kernel_rfl) ?_); go_big_quiet_skip; (with_reducible refine mix_on ?_)))
        ((with_reducible refine wpMix_chain (by kernel_rfl) (by kernel_rfl) (fun K HK => ?_)); go_step)
        refine (put_endO w1 _ _ _ _ k x _ _ (.odd _ _ (by omega)) (.odd _ _ (by omega)) ⟨by simp <;> omega, by simp <;> omega⟩).mono ?_; rintro _ w2 ⟨v', rfl, hP, hb2⟩
        have HP := Lib.hid hP
        refine HK.out _ _ ⟨⟨w2, hb2⟩, rfl⟩ ?_
        have hB := Lib.hid (below_on HB.out hb2)
        clear HK K hP hb2 z0 z1
        repeat (first | ((with_reducible refine mix_plain (by kernel_rfl) ?_); (first | go_big_quiet_skip | (go_big_quiet_want; go_big_quiet_op; go_big_quiet_on)); (with_reducible refine mix_on ?_)) | ((with_reducible refine mix_skip (by kernel_rfl) ?_); go_big_quiet_skip; (with_reducible refine mix_on ?_)))
        refine wpMix_nil ?_
        go_wp2_with fail
        (try go_ret2)
        rw [HQ.out]
        exact ⟨v', by first | rfl | (rw [HH.out]; rfl), by rw [HPUT.out]; exact HP.out, hB.out⟩
    | row g o c _ h1 h2 h3 =>
      clear h3
      go_enter Tryd.func44, Tryd.ntmps44
      have HRR := Lib.hid hr2
      clear hr2 hh
      go_wp2_with fail
      generalize hW : World.alloc w _ = W
      have hBW : Below w.heap.size w W := by rw [← hW]; (repeat (first | exact Below.refl _ _ | assumption | refine below_new ?_ _ | refine Below.drew ?_ | refine below_drewN ?_ _ | refine below_on ?_ (by assumption)))
      have hC : Cell2 W w.heap.size k x := by rw [← hW]; exact Cell2.new w k x _
      clear hW
      refine (pfind _ _ k W (H.out.below hBW) HR.out (by omega)).mono ?_; rintro _ w1 ⟨rfl, hb1⟩
      rw [HH.out, ← HRR.out]
      have hC := hC.below hb1
      have hB1 := below_on hBW hb1
      clear hBW hb1
      have z0 : ∀ y : Ext w1, y.w.cell? ⟨w.heap.size, 0, none⟩ = some (.int .i64 k) := Ext.cells hC.c0
      have z1 : ∀ y : Ext w1, y.w.cell? ⟨w.heap.size, 1, none⟩ = some (.int .i64 x) := Ext.cells hC.c1
      have HB := Lib.hid hB1
      clear hC hB1
      go_wp2_with fail
      rcases (by omega : r < c ∨ r = c) with hrc | hrc
      · have hne : c ≠ r := by omega
        (with_reducible refine wp_region_mix (fun w' => ∃ y : Ext w1, w' = y.w) ?_ ?_ ?_ ?_; kernel_rfl; kernel_rfl; exact ⟨⟨w1.drew, (Below.refl _ _).drew⟩, rfl⟩)
        repeat (first | ((with_reducible refine mix_plain (by kernel_rfl) ?_); (first | go_big_quiet_skip | (go_big_quiet_want; go_big_quiet_op; go_big_quiet_on)); (with_reducible refine mix_on ?_)) | ((with_reducible refine mix_skip (by kernel_rfl) ?_); go_big_quiet_skip; (with_reducible refine mix_on ?_)))
        ((with_reducible refine wpMix_chain (by kernel_rfl) (by kernel_rfl) (fun K HK => ?_)); go_step)
        refine HK.out _ _ ⟨⟨_, by (repeat (first | exact Below.refl _ _ | assumption | refine below_new ?_ _ | refine Below.drew ?_ | refine below_drewN ?_ _ | refine below_on ?_ (by assumption)))⟩, rfl⟩ ?_
        clear HK K
        repeat (first | ((with_reducible refine mix_plain (by kernel_rfl) ?_); (first | go_big_quiet_skip | (go_big_quiet_want; go_big_quiet_op; go_big_quiet_on)); (with_reducible refine mix_on ?_)) | ((with_reducible refine mix_skip (by kernel_rfl) ?_); go_big_quiet_skip; (with_reducible refine mix_on ?_)))
        ((with_reducible refine wpMix_chain (by kernel_rfl) (by kernel_rfl) (fun K HK => ?_)); go_step)
        refine HK.out _ _ ⟨⟨_, by (repeat (first | exact Below.refl _ _ | assumption | refine below_new ?_ _ | refine Below.drew ?_ | refine below_drewN ?_ _ | refine below_on ?_ (by assumption)))⟩, rfl⟩ ?_
        clear HK K
        repeat (first | ((with_reducible refine mix_plain (by kernel_rfl) ?_); (first | go_big_quiet_skip | (go_big_quiet_want; go_big_quiet_op; go_big_quiet_on)); (with_reducible refine mix_on ?_)) | ((with_reducible refine mix_skip (by kernel_rfl) ?_); go_big_quiet_skip; (with_reducible refine mix_on ?_)))
        ((with_reducible refine wpMix_chain (by kernel_rfl) (by kernel_rfl) (fun K HK => ?_)); go_step)
        refine (put_endO w1 _ _ _ _ k x _ _ (((H.out.below HB.out).take hle)) (((H.out.below HB.out).drop hle)) ⟨by simp <;> omega, by simp <;> omega⟩).mono ?_; rintro _ w2 ⟨v', rfl, hP, hb2⟩
        have HP := Lib.hid hP
        refine HK.out _ _ ⟨⟨w2, hb2⟩, rfl⟩ ?_
        have hB := Lib.hid (below_on HB.out hb2)
        clear HK K hP hb2 z0 z1
        repeat (first | ((with_reducible refine mix_plain (by kernel_rfl) ?_); (first | go_big_quiet_skip | (go_big_quiet_want; go_big_quiet_op; go_big_quiet_on)); (with_reducible refine mix_on ?_)) | ((with_reducible refine mix_skip (by kernel_rfl) ?_); go_big_quiet_skip; (with_reducible refine mix_on ?_)))
        refine wpMix_nil ?_
        go_wp2_with fail
        (try go_ret2)
        rw [HQ.out]
        exact ⟨v', by first | rfl | (rw [HH.out]; rfl), by rw [HPUT.out]; exact HP.out, hB.out⟩
      · have hlr : l.length = r := by omega
        have HLR := Lib.hid hlr
        subst hrc
        clear hlr
        (with_reducible refine wp_region_mix (fun w' => ∃ y : Ext w1, w' = y.w) ?_ ?_ ?_ ?_; kernel_rfl; kernel_rfl; exact ⟨⟨w1.drew, (Below.refl _ _).drew⟩, rfl⟩)
        repeat (first | ((with_reducible refine mix_plain (by kernel_rfl) ?_); (first | go_big_quiet_skip | (go_big_quiet_want; go_big_quiet_op; go_big_quiet_on)); (with_reducible refine mix_on ?_)) | ((with_reducible refine mix_skip (by kernel_rfl) ?_); go_big_quiet_skip; (with_reducible refine mix_on ?_)))
        ((with_reducible refine wpMix_chain (by kernel_rfl) (by kernel_rfl) (fun K HK => ?_)); go_step)
        refine HK.out _ _ ⟨⟨_, by (repeat (first | exact Below.refl _ _ | assumption | refine below_new ?_ _ | refine Below.drew ?_ | refine below_drewN ?_ _ | refine below_on ?_ (by assumption)))⟩, rfl⟩ ?_
        clear HK K
        repeat (first | ((with_reducible refine mix_plain (by kernel_rfl) ?_); (first | go_big_quiet_skip | (go_big_quiet_want; go_big_quiet_op; go_big_quiet_on)); (with_reducible refine mix_on ?_)) | ((with_reducible refine mix_skip (by kernel_rfl) ?_); go_big_quiet_skip; (with_reducible refine mix_on ?_)))
        ((with_reducible refine wpMix_chain (by kernel_rfl) (by kernel_rfl) (fun K HK => ?_)); go_step)
        refine HK.out _ _ ⟨⟨_, by (repeat (first | exact Below.refl _ _ | assumption | refine below_new ?_ _ | refine Below.drew ?_ | refine below_drewN ?_ _ | refine below_on ?_ (by assumption)))⟩, rfl⟩ ?_
        clear HK K
        repeat (first | ((with_reducible refine mix_plain (by kernel_rfl) ?_); (first | go_big_quiet_skip | (go_big_quiet_want; go_big_quiet_op; go_big_quiet_on)); (with_reducible refine mix_on ?_)) | ((with_reducible refine mix_skip (by kernel_rfl) ?_); go_big_quiet_skip; (with_reducible refine mix_on ?_)))
        ((with_reducible refine wpMix_chain (by kernel_rfl) (by kernel_rfl) (fun K HK => ?_)); go_step)
        refine (put_endO w1 _ _ _ _ k x _ _ (((H.out.below HB.out).take hle)) (PR.drop_all (l := l) (by omega)) ⟨by simp <;> omega, by simp <;> omega⟩).mono ?_; rintro _ w2 ⟨v', rfl, hP, hb2⟩
        have HP := Lib.hid hP
        refine HK.out _ _ ⟨⟨w2, hb2⟩, rfl⟩ ?_
        have hB := Lib.hid (below_on HB.out hb2)
        clear HK K hP hb2 z0 z1
        repeat (first | ((with_reducible refine mix_plain (by kernel_rfl) ?_); (first | go_big_quiet_skip | (go_big_quiet_want; go_big_quiet_op; go_big_quiet_on)); (with_reducible refine mix_on ?_)) | ((with_reducible refine mix_skip (by kernel_rfl) ?_); go_big_quiet_skip; (with_reducible refine mix_on ?_)))
        refine wpMix_nil ?_
        go_wp2_with fail
        (try go_ret2)
        rw [HQ.out]
        exact ⟨v', by first | rfl | (rw [HH.out]; rfl), by rw [HPUT.out]; exact (by have := HP.out; rw [HLR.out] at this; exact this), hB.out⟩
  · have HPUT := Lib.hid (putL_old (p := (k, x)) hh)
    have HH := Lib.hid hh
    clear h hr
    go_enter Tryd.func44, Tryd.ntmps44
    clear hh
    go_wp2_with fail
    generalize hW : World.alloc w _ = W
    have hBW : Below w.heap.size w W := by rw [← hW]; (repeat (first | exact Below.refl _ _ | assumption | refine below_new ?_ _ | refine Below.drew ?_ | refine below_drewN ?_ _ | refine below_on ?_ (by assumption)))
    have hC : Cell2 W w.heap.size k x := by rw [← hW]; exact Cell2.new w k x _
    clear hW
    refine (pfind _ _ k W (H.out.below hBW) HR.out (by omega)).mono ?_; rintro _ w1 ⟨rfl, hb1⟩
    rw [HH.out]
    have hB1 := below_on hBW hb1
    clear hBW hb1 hC
    go_wp2_with fail
    refine (pcloneO l _ w1 (H.out.below hB1) (by omega)).mono ?_; rintro _ w2 ⟨v', rfl, hP, hb2⟩
    have HP := Lib.hid hP
    have hB2 := below_on hB1 hb2
    clear hP
    go_wp2_with fail
    (try go_ret2)
    rw [HQ.out]
    exact ⟨v', by first | rfl | (rw [HH.out]; rfl), by rw [HPUT.out]; exact HP.out, hB2⟩
set_option maxHeartbeats 1000000 in
theorem rputO (l : PL) (v : Value) (k x : Int) (w : World) (hO : PO w v l) (hn : l.length ≤ 90000) :
    Calls Tryd.prog 36 #[v, .agg #[.int .i64 k, .int .i64 x]] w fun e w' => ∃ v', e = .returned (.tuple #[v', .bool (!hereB l k)]) ∧ PO w' v' (putL l (k, x)) ∧ Below w.heap.size w w' := by
  have HO0 := Lib.hid hO
  have h := hO.1
  have H := Lib.hid h
  clear hO
  have hle := lbN_le l k
  refine Calls.veil fun Q HQ => ?_
  cases hh : hereB l k
  · have HPUT := Lib.hid (putL_new (p := (k, x)) hh)
    have HH := Lib.hid hh
    obtain ⟨r, hr2⟩ : ∃ r : Nat, r = lbN l k := ⟨_, rfl⟩
    rw [← hr2] at hle HPUT
    cases h with
    | nil =>
      have hr0 : r = 0 := by simpa using hle
      subst hr0
      clear hle hn
      have hn : ([] : PL).length ≤ 90000 := by simp
      go_enter Tryd.func36, Tryd.ntmps36
      have HRR := Lib.hid hr2
      clear hr2 hh
      go_wp2_with fail
      generalize hW : World.alloc w _ = W
      have hBW : Below w.heap.size w W := by rw [← hW]; (repeat (first | exact Below.refl _ _ | assumption | refine below_new ?_ _ | refine Below.drew ?_ | refine below_drewN ?_ _ | refine below_on ?_ (by assumption)))
      have hC : Cell2 W w.heap.size k x := by rw [← hW]; exact Cell2.new w k x _
      clear hW
      refine (rat _ _ k W (H.out.below hBW) (by omega)).mono ?_; rintro _ w1 ⟨rfl, hb1⟩
      rw [HH.out, ← HRR.out]
      have hC := hC.below hb1
      have hB1 := below_on hBW hb1
      clear hBW hb1
      have HB := Lib.hid hB1
      have HC := Lib.hid hC
      clear hC hB1
      go_wp2_with (at_builtin; refine wpList_append_pr rfl (.tmp 18) (.tmp 21) rfl w1.heap.size _ [] rfl (own_none w1) _ ([]) rfl ((.nil : PR w1 _ _).alloc _) (by simp <;> omega) (by simp) ?_)
      intro v1 w2 hown hg
      have hb2 := grow_step (W := w1) (own_none w1) (by (repeat (first | exact Below.refl _ _ | assumption | refine below_new ?_ _ | refine Below.drew ?_ | refine below_drewN ?_ _ | refine below_on ?_ (by assumption)))) (Nat.le_refl _) hg
      have HO := Lib.hid hown
      have hC2 := HC.out.below hb2
      have z0 := hC2.c0; have z1 := hC2.c1
      clear hown hg hC2
      go_wp2_with (at_builtin; refine wpList_append_pr rfl (.tmp 23) (.tmp 25) rfl w1.heap.size _ _ rfl (HO.out.alloc _) _ [(k, x)] rfl PR.single (by simp <;> omega) (by have := hb2.size; simp; omega) ?_)
      intro v2 w3 hown hg
      have hb3 := grow_step (W := w1) (HO.out.alloc _) (by exact hb2.alloc (by have := hb2.size; omega) _) (Nat.le_refl _) hg
      have HO2 := Lib.hid hown
      clear hown hg z0 z1
      go_wp2_with (at_builtin; refine wpList_append_pr rfl (.tmp 27) (.tmp 30) rfl w1.heap.size _ _ rfl HO2.out _ ([]) rfl ((.nil : PR w1 _ _).below hb3) (by simp <;> omega) (by have := hb3.size; omega) ?_)
      intro v3 w4 hown hg
      have hb4 := grow_step (W := w1) HO2.out hb3 (Nat.le_refl _) hg
      have HP := Lib.hid (own_PO hown)
      have HB4 := Lib.hid (below_on HB.out hb4)
      clear hown hg hb2 hb3 hb4
      go_wp2_with fail
      (try go_ret2)
      rw [HQ.out]
      exact ⟨v3, by first | rfl | (rw [HH.out]; rfl), by rw [HPUT.out]; simpa using HP.out, HB4.out⟩
    | odd ad c hc0 =>
      have hr0 : r = 0 := by simpa using hle
      subst hr0
      clear hle hn
      have hn : ([] : PL).length ≤ 90000 := by simp
      go_enter Tryd.func36, Tryd.ntmps36
      have HRR := Lib.hid hr2
      clear hr2 hh
      go_wp2_with fail
      generalize hW : World.alloc w _ = W
      have hBW : Below w.heap.size w W := by rw [← hW]; (repeat (first | exact Below.refl _ _ | assumption | refine below_new ?_ _ | refine Below.drew ?_ | refine below_drewN ?_ _ | refine below_on ?_ (by assumption)))
      have hC : Cell2 W w.heap.size k x := by rw [← hW]; exact Cell2.new w k x _
      clear hW
      refine (rat _ _ k W (H.out.below hBW) (by omega)).mono ?_; rintro _ w1 ⟨rfl, hb1⟩
      rw [HH.out, ← HRR.out]
      have hC := hC.below hb1
      have hB1 := below_on hBW hb1
      clear hBW hb1
      have HB := Lib.hid hB1
      have HC := Lib.hid hC
      clear hC hB1
      rcases (by omega : c = 0 ∨ 0 < c) with rfl | hrc
      · skip
        go_wp2_with (at_builtin; refine wpList_append_pr rfl (.tmp 18) (.tmp 21) rfl w1.heap.size _ [] rfl (own_none w1) _ ([]) rfl ((.odd _ _ (by omega) : PR w1 _ _).alloc _) (by simp <;> omega) (by simp) ?_)
        intro v1 w2 hown hg
        have hb2 := grow_step (W := w1) (own_none w1) (by (repeat (first | exact Below.refl _ _ | assumption | refine below_new ?_ _ | refine Below.drew ?_ | refine below_drewN ?_ _ | refine below_on ?_ (by assumption)))) (Nat.le_refl _) hg
        have HO := Lib.hid hown
        have hC2 := HC.out.below hb2
        have z0 := hC2.c0; have z1 := hC2.c1
        clear hown hg hC2
        go_wp2_with (at_builtin; refine wpList_append_pr rfl (.tmp 23) (.tmp 25) rfl w1.heap.size _ _ rfl (HO.out.alloc _) _ [(k, x)] rfl PR.single (by simp <;> omega) (by have := hb2.size; simp; omega) ?_)
        intro v2 w3 hown hg
        have hb3 := grow_step (W := w1) (HO.out.alloc _) (by exact hb2.alloc (by have := hb2.size; omega) _) (Nat.le_refl _) hg
        have HO2 := Lib.hid hown
        clear hown hg z0 z1
        go_wp2_with (at_builtin; refine wpList_append_pr rfl (.tmp 27) (.tmp 30) rfl w1.heap.size _ _ rfl HO2.out _ ([]) rfl ((.odd _ _ (by omega) : PR w1 _ _).below hb3) (by simp <;> omega) (by have := hb3.size; omega) ?_)
        intro v3 w4 hown hg
        have hb4 := grow_step (W := w1) HO2.out hb3 (Nat.le_refl _) hg
        have HP := Lib.hid (own_PO hown)
        have HB4 := Lib.hid (below_on HB.out hb4)
        clear hown hg hb2 hb3 hb4
        go_wp2_with fail
        (try go_ret2)
        rw [HQ.out]
        exact ⟨v3, by first | rfl | (rw [HH.out]; rfl), by rw [HPUT.out]; simpa using HP.out, HB4.out⟩
      · have hne : c ≠ 0 := by omega
        go_wp2_with (at_builtin; refine wpList_append_pr rfl (.tmp 18) (.tmp 21) rfl w1.heap.size _ [] rfl (own_none w1) _ ([]) rfl ((.odd _ _ (by omega) : PR w1 _ _).alloc _) (by simp <;> omega) (by simp) ?_)
        intro v1 w2 hown hg
        have hb2 := grow_step (W := w1) (own_none w1) (by (repeat (first | exact Below.refl _ _ | assumption | refine below_new ?_ _ | refine Below.drew ?_ | refine below_drewN ?_ _ | refine below_on ?_ (by assumption)))) (Nat.le_refl _) hg
        have HO := Lib.hid hown
        have hC2 := HC.out.below hb2
        have z0 := hC2.c0; have z1 := hC2.c1
        clear hown hg hC2
        go_wp2_with (at_builtin; refine wpList_append_pr rfl (.tmp 23) (.tmp 25) rfl w1.heap.size _ _ rfl (HO.out.alloc _) _ [(k, x)] rfl PR.single (by simp <;> omega) (by have := hb2.size; simp; omega) ?_)
        intro v2 w3 hown hg
        have hb3 := grow_step (W := w1) (HO.out.alloc _) (by exact hb2.alloc (by have := hb2.size; omega) _) (Nat.le_refl _) hg
        have HO2 := Lib.hid hown
        clear hown hg z0 z1
        go_wp2_with (at_builtin; refine wpList_append_pr rfl (.tmp 27) (.tmp 30) rfl w1.heap.size _ _ rfl HO2.out _ ([]) rfl ((.odd _ _ (by omega) : PR w1 _ _).below hb3) (by simp <;> omega) (by have := hb3.size; omega) ?_)
        intro v3 w4 hown hg
        have hb4 := grow_step (W := w1) HO2.out hb3 (Nat.le_refl _) hg
        have HP := Lib.hid (own_PO hown)
        have HB4 := Lib.hid (below_on HB.out hb4)
        clear hown hg hb2 hb3 hb4
        go_wp2_with fail
        (try go_ret2)
        rw [HQ.out]
        exact ⟨v3, by first | rfl | (rw [HH.out]; rfl), by rw [HPUT.out]; simpa using HP.out, HB4.out⟩
    | row g o c _ h1 h2 h3 =>
      clear h3
      go_enter Tryd.func36, Tryd.ntmps36
      have HRR := Lib.hid hr2
      clear hr2 hh
      go_wp2_with fail
      generalize hW : World.alloc w _ = W
      have hBW : Below w.heap.size w W := by rw [← hW]; (repeat (first | exact Below.refl _ _ | assumption | refine below_new ?_ _ | refine Below.drew ?_ | refine below_drewN ?_ _ | refine below_on ?_ (by assumption)))
      have hC : Cell2 W w.heap.size k x := by rw [← hW]; exact Cell2.new w k x _
      clear hW
      refine (rat _ _ k W (H.out.below hBW) (by omega)).mono ?_; rintro _ w1 ⟨rfl, hb1⟩
      rw [HH.out, ← HRR.out]
      have hC := hC.below hb1
      have hB1 := below_on hBW hb1
      clear hBW hb1
      have HB := Lib.hid hB1
      have HC := Lib.hid hC
      clear hC hB1
      rcases (by omega : r < c ∨ r = c) with hrc | hrc
      · have hne : c ≠ r := by omega
        go_wp2_with (at_builtin; refine wpList_append_pr rfl (.tmp 18) (.tmp 21) rfl w1.heap.size _ [] rfl (own_none w1) _ (l.take r) rfl ((((H.out.below HB.out).take hle) : PR w1 _ _).alloc _) (by simp <;> omega) (by simp) ?_)
        intro v1 w2 hown hg
        have hb2 := grow_step (W := w1) (own_none w1) (by (repeat (first | exact Below.refl _ _ | assumption | refine below_new ?_ _ | refine Below.drew ?_ | refine below_drewN ?_ _ | refine below_on ?_ (by assumption)))) (Nat.le_refl _) hg
        have HO := Lib.hid hown
        have hC2 := HC.out.below hb2
        have z0 := hC2.c0; have z1 := hC2.c1
        clear hown hg hC2
        go_wp2_with (at_builtin; refine wpList_append_pr rfl (.tmp 23) (.tmp 25) rfl w1.heap.size _ _ rfl (HO.out.alloc _) _ [(k, x)] rfl PR.single (by simp <;> omega) (by have := hb2.size; simp; omega) ?_)
        intro v2 w3 hown hg
        have hb3 := grow_step (W := w1) (HO.out.alloc _) (by exact hb2.alloc (by have := hb2.size; omega) _) (Nat.le_refl _) hg
        have HO2 := Lib.hid hown
        clear hown hg z0 z1
        go_wp2_with (at_builtin; refine wpList_append_pr rfl (.tmp 27) (.tmp 30) rfl w1.heap.size _ _ rfl HO2.out _ (l.drop r) rfl ((((H.out.below HB.out).drop hle) : PR w1 _ _).below hb3) (by simp <;> omega) (by have := hb3.size; omega) ?_)
        intro v3 w4 hown hg
        have hb4 := grow_step (W := w1) HO2.out hb3 (Nat.le_refl _) hg
        have HP := Lib.hid (own_PO hown)
        have HB4 := Lib.hid (below_on HB.out hb4)
        clear hown hg hb2 hb3 hb4
        go_wp2_with fail
        (try go_ret2)
        rw [HQ.out]
        exact ⟨v3, by first | rfl | (rw [HH.out]; rfl), by rw [HPUT.out]; simpa using HP.out, HB4.out⟩
      · have hlr : l.length = r := by omega
        have HLR := Lib.hid hlr
        subst hrc
        clear hlr
        go_wp2_with (at_builtin; refine wpList_append_pr rfl (.tmp 18) (.tmp 21) rfl w1.heap.size _ [] rfl (own_none w1) _ (l.take r) rfl ((((H.out.below HB.out).take hle) : PR w1 _ _).alloc _) (by simp <;> omega) (by simp) ?_)
        intro v1 w2 hown hg
        have hb2 := grow_step (W := w1) (own_none w1) (by (repeat (first | exact Below.refl _ _ | assumption | refine below_new ?_ _ | refine Below.drew ?_ | refine below_drewN ?_ _ | refine below_on ?_ (by assumption)))) (Nat.le_refl _) hg
        have HO := Lib.hid hown
        have hC2 := HC.out.below hb2
        have z0 := hC2.c0; have z1 := hC2.c1
        clear hown hg hC2
        go_wp2_with (at_builtin; refine wpList_append_pr rfl (.tmp 23) (.tmp 25) rfl w1.heap.size _ _ rfl (HO.out.alloc _) _ [(k, x)] rfl PR.single (by simp <;> omega) (by have := hb2.size; simp; omega) ?_)
        intro v2 w3 hown hg
        have hb3 := grow_step (W := w1) (HO.out.alloc _) (by exact hb2.alloc (by have := hb2.size; omega) _) (Nat.le_refl _) hg
        have HO2 := Lib.hid hown
        clear hown hg z0 z1
        go_wp2_with (at_builtin; refine wpList_append_pr rfl (.tmp 27) (.tmp 30) rfl w1.heap.size _ _ rfl HO2.out _ (l.drop l.length) rfl (((PR.drop_all (l := l) (by omega)) : PR w1 _ _).below hb3) (by simp <;> omega) (by have := hb3.size; omega) ?_)
        intro v3 w4 hown hg
        have hb4 := grow_step (W := w1) HO2.out hb3 (Nat.le_refl _) hg
        have HP := Lib.hid (own_PO hown)
        have HB4 := Lib.hid (below_on HB.out hb4)
        clear hown hg hb2 hb3 hb4
        go_wp2_with fail
        (try go_ret2)
        rw [HQ.out]
        exact ⟨v3, by first | rfl | (rw [HH.out]; rfl), by rw [HPUT.out]; (have := HP.out; rw [List.drop_eq_nil_of_le (show l.length ≤ r by have := HLR.out; omega)]; simpa using this), HB4.out⟩
  · have HPUT := Lib.hid (putL_old (p := (k, x)) hh)
    have HH := Lib.hid hh
    obtain ⟨p, c, rfl, _, _⟩ := h.slice
    clear h
    go_enter Tryd.func36, Tryd.ntmps36
    clear hh
    go_wp2_with fail
    generalize hW : World.alloc w _ = W
    have hBW : Below w.heap.size w W := by rw [← hW]; (repeat (first | exact Below.refl _ _ | assumption | refine below_new ?_ _ | refine Below.drew ?_ | refine below_drewN ?_ _ | refine below_on ?_ (by assumption)))
    have hC : Cell2 W w.heap.size k x := by rw [← hW]; exact Cell2.new w k x _
    clear hW
    refine (rat _ _ k W (H.out.below hBW) (by omega)).mono ?_; rintro _ w1 ⟨rfl, hb1⟩
    rw [HH.out]
    have hB1 := below_on hBW hb1
    clear hBW hb1 hC
    go_wp2_with fail
    (try go_ret2)
    rw [HQ.out]
    exact ⟨_, by first | rfl | (rw [HH.out]; rfl), by rw [HPUT.out]; exact HO0.out.below hB1, hB1⟩
set_option maxHeartbeats 1000000 in
theorem rdropO (l : PL) (v : Value) (k : Int) (w : World) (hO : PO w v l) (hr : riseB l = true) (hn : l.length ≤ 90000) :
    Calls Tryd.prog 37 #[v, .int .i64 k] w fun e w' => ∃ v', e = .returned (.tuple #[v', .bool (hereB l k)]) ∧ PO w' v' (dropL l k) ∧ Below w.heap.size w w' := by
  have HO0 := Lib.hid hO
  have h := hO.1
  have H := Lib.hid h
  clear hO
  have hle := lbN_le l k
  refine Calls.veil fun Q HQ => ?_
  cases hh : hereB l k
  · have HPUT := Lib.hid (dropL_not hh)
    have HH := Lib.hid hh
    obtain ⟨p, c, rfl, _, _⟩ := h.slice
    clear h hr
    go_enter Tryd.func37, Tryd.ntmps37
    clear hh
    go_wp2_with fail
    refine (rat _ _ k w H.out (by omega)).mono ?_; rintro _ w1 ⟨rfl, hb1⟩
    rw [HH.out]
    go_wp2_with fail
    (try go_ret2)
    rw [HQ.out]
    exact ⟨_, by first | rfl | (rw [HH.out]; rfl), by rw [HPUT.out]; exact HO0.out.below hb1, hb1⟩
  · have HPUT := Lib.hid (dropL_here hh)
    have HH := Lib.hid hh
    have hlt : lbN l k < l.length := by
      have := here_at hr k
      rw [hh] at this
      have := this.symm
      simp only [Bool.and_eq_true, decide_eq_true_eq] at this
      exact this.1
    obtain ⟨r, hr2⟩ : ∃ r : Nat, r = lbN l k := ⟨_, rfl⟩
    rw [← hr2] at hle hlt HPUT
    clear hr
    cases h with
    | nil => simp at hlt
    | odd a c _ => simp at hlt
    | row g o c _ h1 h2 h3 =>
      clear h3
      go_enter Tryd.func37, Tryd.ntmps37
      have HRR := Lib.hid hr2
      clear hr2 hh
      go_wp2_with fail
      refine (rat _ _ k w H.out (by omega)).mono ?_; rintro _ w1 ⟨rfl, hb1⟩
      rw [HH.out, ← HRR.out]
      have HB := Lib.hid hb1
      clear hb1
      rcases (by omega : r + 1 < c ∨ r + 1 = c) with hrc | hrc
      · have hne : c ≠ r + 1 := by omega
        go_wp2_with (at_builtin; refine wpList_append_pr rfl (.tmp 18) (.tmp 21) rfl w1.heap.size _ [] rfl (own_none w1) _ (l.take r) rfl ((((H.out.below HB.out).take hle) : PR w1 _ _).alloc _) (by simp <;> omega) (by simp) ?_)
        intro v1 w2 hown hg
        have hb2 := grow_step (W := w1) (own_none w1) (by (repeat (first | exact Below.refl _ _ | assumption | refine below_new ?_ _ | refine Below.drew ?_ | refine below_drewN ?_ _ | refine below_on ?_ (by assumption)))) (Nat.le_refl _) hg
        have HO := Lib.hid hown
        clear hown hg
        go_wp2_with (at_builtin; refine wpList_append_pr rfl (.tmp 23) (.tmp 27) rfl w1.heap.size _ _ rfl HO.out _ (l.drop (r + 1)) rfl ((((H.out.below HB.out).drop (r := r + 1) hlt) : PR w1 _ _).below hb2) (by simp <;> omega) (by have := hb2.size; omega) ?_)
        intro v3 w4 hown hg
        have hb4 := grow_step (W := w1) HO.out hb2 (Nat.le_refl _) hg
        have HP := Lib.hid (own_PO hown)
        have HB4 := Lib.hid (below_on HB.out hb4)
        clear hown hg hb2 hb4
        go_wp2_with fail
        (try go_ret2)
        rw [HQ.out]
        exact ⟨v3, by first | rfl | (rw [HH.out]; rfl), by rw [HPUT.out]; simpa using HP.out, HB4.out⟩
      · have hlr : l.length = r + 1 := by omega
        have HLR := Lib.hid hlr
        subst hrc
        clear hlr
        go_wp2_with (at_builtin; refine wpList_append_pr rfl (.tmp 18) (.tmp 21) rfl w1.heap.size _ [] rfl (own_none w1) _ (l.take r) rfl ((((H.out.below HB.out).take hle) : PR w1 _ _).alloc _) (by simp <;> omega) (by simp) ?_)
        intro v1 w2 hown hg
        have hb2 := grow_step (W := w1) (own_none w1) (by (repeat (first | exact Below.refl _ _ | assumption | refine below_new ?_ _ | refine Below.drew ?_ | refine below_drewN ?_ _ | refine below_on ?_ (by assumption)))) (Nat.le_refl _) hg
        have HO := Lib.hid hown
        clear hown hg
        go_wp2_with (at_builtin; refine wpList_append_pr rfl (.tmp 23) (.tmp 27) rfl w1.heap.size _ _ rfl HO.out _ (l.drop l.length) rfl (((PR.drop_all (l := l) (by omega)) : PR w1 _ _).below hb2) (by simp <;> omega) (by have := hb2.size; omega) ?_)
        intro v3 w4 hown hg
        have hb4 := grow_step (W := w1) HO.out hb2 (Nat.le_refl _) hg
        have HP := Lib.hid (own_PO hown)
        have HB4 := Lib.hid (below_on HB.out hb4)
        clear hown hg hb2 hb4
        go_wp2_with fail
        (try go_ret2)
        rw [HQ.out]
        exact ⟨v3, by first | rfl | (rw [HH.out]; rfl), by rw [HPUT.out]; (have := HP.out; rw [List.drop_eq_nil_of_le (show l.length ≤ r + 1 by have := HLR.out; omega)]; simpa using this), HB4.out⟩
theorem drop_endO (w1 : World) (v0 v2 : Value) (l0 l2 : PL) (T' : TypeId) (p0 : PR w1 v0 l0) (p2 : PR w1 v2 l2) (hl : l0.length ≤ 100000 ∧ l2.length ≤ 100000) :
    Calls Tryd.prog 54 #[.slice (some ⟨w1.heap.size, 0, none⟩) 2 2] (w1.drew.alloc (.cells #[v0, v2] T')) fun e w' => ∃ v', e = .returned v' ∧ PO w' v' (l0 ++ l2) ∧ Below w1.heap.size w1 w' := by
  have hd : Below w1.heap.size w1 w1.drew := (Below.refl _ _).drew
  refine (pjoin2O 2 _ v0 v2 l0 l2 _ (by omega) (by omega) (Ext.made_in (w := w1.drew) rfl (Below.refl _ _) 0 _ rfl) (Ext.made_in (w := w1.drew) rfl (Below.refl _ _) 1 _ rfl) ((p0.below hd).alloc _) ((p2.below hd).alloc _) hl).mono ?_
  rintro _ w' ⟨v', rfl, h1, h2⟩
  exact ⟨v', rfl, h1, below_on (below_new hd _) h2⟩
set_option maxHeartbeats 1000000 in
theorem pdropO (l : PL) (v : Value) (k : Int) (w : World) (h : PR w v l) (hr : riseB l = true) (hn : l.length ≤ 90000) :
    Calls Tryd.prog 45 #[v, .int .i64 k] w fun e w' => ∃ v', e = .returned (.tuple #[v', .bool (hereB l k)]) ∧ PO w' v' (dropL l k) ∧ Below w.heap.size w w' := by
  have H := Lib.hid h; have HR := Lib.hid hr
  have hle := lbN_le l k
  refine Calls.veil fun Q HQ => ?_
  cases hh : hereB l k
  · have HPUT := Lib.hid (dropL_not hh)
    have HH := Lib.hid hh
    obtain ⟨p, c, rfl, _, _⟩ := h.slice
    clear h hr
    go_enter Tryd.func45, Tryd.ntmps45
    clear hh
    go_wp2_with fail
    refine (pfind _ _ k w H.out HR.out (by omega)).mono ?_; rintro _ w1 ⟨rfl, hb1⟩
    rw [HH.out]
    go_wp2_with fail
    refine (pcloneO l _ w1 (H.out.below hb1) (by omega)).mono ?_; rintro _ w2 ⟨v', rfl, hP, hb2⟩
    have HP := Lib.hid hP
    have hB2 := below_on hb1 hb2
    clear hP
    go_wp2_with fail
    (try go_ret2)
    rw [HQ.out]
    exact ⟨v', by first | rfl | (rw [HH.out]; rfl), by rw [HPUT.out]; exact HP.out, hB2⟩
  · have HPUT := Lib.hid (dropL_here hh)
    have HH := Lib.hid hh
    have hlt : lbN l k < l.length := by
      have := here_at hr k
      rw [hh] at this
      have := this.symm
      simp only [Bool.and_eq_true, decide_eq_true_eq] at this
      exact this.1
    obtain ⟨r, hr2⟩ : ∃ r : Nat, r = lbN l k := ⟨_, rfl⟩
    rw [← hr2] at hle hlt HPUT
    clear hr
    cases h with
    | nil => simp at hlt
    | odd a c _ => simp at hlt
    | row g o c _ h1 h2 h3 =>
      clear h3
      go_enter Tryd.func45, Tryd.ntmps45
      have HRR := Lib.hid hr2
      clear hr2 hh
      go_wp2_with fail
      refine (pfind _ _ k w H.out HR.out (by omega)).mono ?_; rintro _ w1 ⟨rfl, hb1⟩
      rw [HH.out, ← HRR.out]
      have HB := Lib.hid hb1
      clear hb1
      go_wp2_with fail
      have hA : IntKind.i64.wrap ((r : Int) + 1) = ((r + 1 : Nat) : Int) := by rw [show ((r + 1 : Nat) : Int) = (r : Int) + 1 by omega]; exact IntWalk.i64_in _ (by omega)
      rcases (by omega : r + 1 < c ∨ r + 1 = c) with hrc | hrc
      · have hne : c ≠ r + 1 := by omega
        (with_reducible refine wp_region_mix (fun w' => ∃ y : Ext w1, w' = y.w) ?_ ?_ ?_ ?_; kernel_rfl; kernel_rfl; exact ⟨⟨w1.drew, (Below.refl _ _).drew⟩, rfl⟩)
        repeat (first | ((with_reducible refine mix_plain (by kernel_rfl) ?_); (first | go_big_quiet_skip | (go_big_quiet_want; go_big_quiet_op; go_big_quiet_on)); (with_reducible refine mix_on ?_)) | ((with_reducible refine mix_skip (by kernel_rfl) ?_); go_big_quiet_skip; (with_reducible refine mix_on ?_)))
        ((with_reducible refine wpMix_chain (by kernel_rfl) (by kernel_rfl) (fun K HK => ?_)); go_step)
        refine HK.out _ _ ⟨⟨_, by (repeat (first | exact Below.refl _ _ | assumption | refine below_new ?_ _ | refine Below.drew ?_ | refine below_drewN ?_ _ | refine below_on ?_ (by assumption)))⟩, rfl⟩ ?_
        clear HK K
        repeat (first | ((with_reducible refine mix_plain (by kernel_rfl) ?_); (first | go_big_quiet_skip | (go_big_quiet_want; go_big_quiet_op; go_big_quiet_on)); (with_reducible refine mix_on ?_)) | ((with_reducible refine mix_skip (by kernel_rfl) ?_); go_big_quiet_skip; (with_reducible refine mix_on ?_)))
        ((with_reducible refine wpMix_chain (by kernel_rfl) (by kernel_rfl) (fun K HK => ?_)); go_step)
        refine (drop_endO w1 _ _ _ _ _ ((H.out.below HB.out).take hle) ((H.out.below HB.out).drop (r := r + 1) hlt) ⟨by simp <;> omega, by simp <;> omega⟩).mono ?_; rintro _ w2 ⟨v', rfl, hP, hb2⟩
        have HP := Lib.hid hP
        refine HK.out _ _ ⟨⟨w2, hb2⟩, rfl⟩ ?_
        have hB := Lib.hid (below_on HB.out hb2)
        clear HK K hP hb2 hA
        repeat (first | ((with_reducible refine mix_plain (by kernel_rfl) ?_); (first | go_big_quiet_skip | (go_big_quiet_want; go_big_quiet_op; go_big_quiet_on)); (with_reducible refine mix_on ?_)) | ((with_reducible refine mix_skip (by kernel_rfl) ?_); go_big_quiet_skip; (with_reducible refine mix_on ?_)))
        refine wpMix_nil ?_
        go_wp2_with fail
        (try go_ret2)
        rw [HQ.out]
        exact ⟨v', by first | rfl | (rw [HH.out]; rfl), by rw [HPUT.out]; simpa using HP.out, hB.out⟩
      · have hlr : l.length = r + 1 := by omega
        have HLR := Lib.hid hlr
        subst hrc
        clear hlr
        (with_reducible refine wp_region_mix (fun w' => ∃ y : Ext w1, w' = y.w) ?_ ?_ ?_ ?_; kernel_rfl; kernel_rfl; exact ⟨⟨w1.drew, (Below.refl _ _).drew⟩, rfl⟩)
        repeat (first | ((with_reducible refine mix_plain (by kernel_rfl) ?_); (first | go_big_quiet_skip | (go_big_quiet_want; go_big_quiet_op; go_big_quiet_on)); (with_reducible refine mix_on ?_)) | ((with_reducible refine mix_skip (by kernel_rfl) ?_); go_big_quiet_skip; (with_reducible refine mix_on ?_)))
        ((with_reducible refine wpMix_chain (by kernel_rfl) (by kernel_rfl) (fun K HK => ?_)); go_step)
        refine HK.out _ _ ⟨⟨_, by (repeat (first | exact Below.refl _ _ | assumption | refine below_new ?_ _ | refine Below.drew ?_ | refine below_drewN ?_ _ | refine below_on ?_ (by assumption)))⟩, rfl⟩ ?_
        clear HK K
        repeat (first | ((with_reducible refine mix_plain (by kernel_rfl) ?_); (first | go_big_quiet_skip | (go_big_quiet_want; go_big_quiet_op; go_big_quiet_on)); (with_reducible refine mix_on ?_)) | ((with_reducible refine mix_skip (by kernel_rfl) ?_); go_big_quiet_skip; (with_reducible refine mix_on ?_)))
        ((with_reducible refine wpMix_chain (by kernel_rfl) (by kernel_rfl) (fun K HK => ?_)); go_step)
        refine (drop_endO w1 _ _ _ _ _ ((H.out.below HB.out).take hle) (PR.drop_all (l := l) (by omega)) ⟨by simp <;> omega, by simp <;> omega⟩).mono ?_; rintro _ w2 ⟨v', rfl, hP, hb2⟩
        have HP := Lib.hid hP
        refine HK.out _ _ ⟨⟨w2, hb2⟩, rfl⟩ ?_
        have hB := Lib.hid (below_on HB.out hb2)
        clear HK K hP hb2 hA
        repeat (first | ((with_reducible refine mix_plain (by kernel_rfl) ?_); (first | go_big_quiet_skip | (go_big_quiet_want; go_big_quiet_op; go_big_quiet_on)); (with_reducible refine mix_on ?_)) | ((with_reducible refine mix_skip (by kernel_rfl) ?_); go_big_quiet_skip; (with_reducible refine mix_on ?_)))
        refine wpMix_nil ?_
        go_wp2_with fail
        (try go_ret2)
        rw [HQ.out]
        exact ⟨v', by first | rfl | (rw [HH.out]; rfl), by rw [HPUT.out]; (have := HP.out; rw [HLR.out] at this; simpa using this), hB.out⟩
end Go.Proofs.YtkgfhomoipbjoaaDoor
