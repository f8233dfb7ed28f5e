/- Layer 16: the reference's Do, where the edge leads. -/
import Derived.Test.YtkkdehniheajeaaCorW
import Derived.Deep.MidRow
namespace Go.Proofs.Ytkkdehniheajeaa
open Go.RowKit WordM EdgeM
set_option linter.unusedVariables false
set_option linter.unusedSimpArgs false
theorem infoM6 : (Try.prog.info? 46).map (·.size) = some 3 := by kernel_rfl
set_option maxRecDepth 16000 in
set_option maxHeartbeats 4000000 in
theorem rdo_yes (t s C wg gb gc : Nat) (Kc acc sl : Int) (flt odd : Bool) (f : Nat → Int) (H : Nat → Bool) (G : Nat → Int) (k fi e tm old x : Int) (w : World) (n : Nat) (hn : n = 3 + 8 * t + 7 * s) (hr : Mm.RowAt w wg n f) (h : Gd.SR w gb s H G) (t2 : t ≤ 6) (s2 : s ≤ 250) (sc : s ≤ gc) (c2 : gc ≤ 9223372036854775807) (nC : n ≤ C) (cC : C ≤ 9223372036854775807) (hG : ∀ i, 0 ≤ G i ∧ G i < 1125899906842624) (a0 : 0 ≤ acc) (a1 : acc < 4611686018427387904) (rng : ∀ i, i < n → 0 ≤ f i ∧ f i < 18446744073709551616) (x0 : 0 ≤ x) (x1 : x < 18446744073709551616) (e0 : 0 ≤ e) (e1 : e < 18446744073709551616) (hl : Gd.leadsB s H G e = true) :
    Calls Try.prog 25 #[.agg (mV t s Kc (.slice (some ⟨wg, 0, none⟩) n C) acc flt gb gc sl odd), op16 k fi e tm old x] w fun x' w' => ∃ g' C', (g' = wg ∨ w.heap.size ≤ g') ∧ x' = .returned (.tuple #[.agg (mV t s Kc (.slice (some ⟨g', 0, none⟩) n C') (acc + 1) (flt || !Mm.okD n (kc k) (nodeI t s (e % 4096) fi) 0) gb gc sl odd), .int .u64 (Mm.toldD n f (kc k) (nodeI t s (e % 4096) fi)), .bool (Mm.doneD n f (kc k) (nodeI t s (e % 4096) fi) 0 tm old)]) ∧ Mm.RowAt w' g' n (Mm.nextD n f (kc k) (nodeI t s (e % 4096) fi) 0 tm old x) ∧ n ≤ C' ∧ C' ≤ 9223372036854775807 ∧ Below w.heap.size w w' := by
  refine Calls.veil fun Q HQ => ?_
  have HH := Lib.hid h; have HL := Lib.hid hl; have HG := Lib.hid hG; have HR := Lib.hid hr; have RN := Lib.hid rng; have HNN := Lib.hid hn
  clear h hl hG hr rng hn
  unfold op16 mV
  go_enter Try.func25, Try.ntmps25
  go_upto_region 1 with fail
  generalize hV : World.alloc _ _ = U
  obtain ⟨u0, u1, u2, hbu⟩ := heap3c hV
  obtain ⟨cb, h1⟩ : ∃ a, a = w.heap.size := ⟨_, rfl⟩
  obtain ⟨ob, h2⟩ : ∃ b, b = w.heap.size + 1 := ⟨_, rfl⟩
  obtain ⟨rb, h3⟩ : ∃ b, b = w.heap.size + 1 + 1 := ⟨_, rfl⟩
  have n12 : cb ≠ ob := by omega
  have n13 : cb ≠ rb := by omega
  have n23 : ob ≠ rb := by omega
  simp only [← h3] at u2 ⊢
  simp only [← h2] at u1 ⊢
  simp only [← h1] at u0 ⊢
  have HB := Lib.hid hbu; have HE1 := Lib.hid h1; have HE2 := Lib.hid h2; have HE3 := Lib.hid h3
  have m0 := Th.newcell u0 0 _ rfl
  have m1 := Th.newcell u0 1 _ rfl
  have m2 := Th.newcell u0 2 _ rfl
  have m3 := Th.newcell u0 3 _ rfl
  have m4 := Th.newcell u0 4 _ rfl
  have m5 := Th.newcell u0 5 _ rfl
  have m6 := Th.newcell u0 6 _ rfl
  have m7 := Th.newcell u0 7 _ rfl
  have m8 := Th.newcell u0 8 _ rfl
  have o0 := Th.newcell u1 0 _ rfl
  have o1 := Th.newcell u1 1 _ rfl
  have o2 := Th.newcell u1 2 _ rfl
  have o3 := Th.newcell u1 3 _ rfl
  have o4 := Th.newcell u1 4 _ rfl
  have o5 := Th.newcell u1 5 _ rfl
  have r0 := Th.newcell u2 0 _ rfl
  have r1 := Th.newcell u2 1 _ rfl
  have r2 := Th.newcell u2 2 _ rfl
  have r3 := Th.newcell u2 3 _ rfl
  have r4 := Th.newcell u2 4 _ rfl
  have r5 := Th.newcell u2 5 _ rfl
  have r6 := Th.newcell u2 6 _ rfl
  have r7 := Th.newcell u2 7 _ rfl
  have r8 := Th.newcell u2 8 _ rfl
  have HU := Lib.hid (HH.out.below HB.out); have HCB := Lib.hid (show U.heap[cb]? = some (.cells (mV t s Kc (.slice (some ⟨wg, 0, none⟩) n C) acc flt gb gc sl odd) 51 (0, 0)) from u0); have HRB := Lib.hid (show U.heap[rb]? = some (.cells mZ 51 (0, 0)) from u2); have HOB := Lib.hid u1
  clear hV u0 u1 u2 hbu h1 h2 h3
  go_wp2_with fail
  refine (Gd.rleads sl HU.out s2 sc c2 HG.out e e0 e1).mono ?_; rintro _ w1 ⟨rfl, hb1⟩
  rw [HL.out]
  have HBC := Lib.hid (Th.up hb1 HCB.out); have HBR := Lib.hid (Th.up hb1 HRB.out); have HBO := Lib.hid (Th.up hb1 HOB.out)
  have HB1 := Lib.hid (below_on HB.out hb1)
  clear m0 m1 m2 m3 m4 m5 m6 m7 m8 o0 o1 o2 o3 o4 o5 r0 r1 r2 r3 r4 r5 r6 r7 r8 HOB HCB HRB HU
  have HLM := Lib.hid (show ∀ y : Ext w1, (Instr.loadAt 46 (.pointer (some ⟨cb, 3, none⟩))).run Try.prog y.w = .ok (.agg #[.slice (some ⟨wg, 0, none⟩) n C, .int .i64 acc, .bool flt]) y.w from fun y => by
    have q3 := Ext.use (Ext.cells (Th.newcell HBC.out 3 _ rfl)) y.h; have q4 := Ext.use (Ext.cells (Th.newcell HBC.out 4 _ rfl)) y.h; have q5 := Ext.use (Ext.cells (Th.newcell HBC.out 5 _ rfl)) y.h
    go_simp
    try exact ⟨rfl, rfl, rfl⟩)
  have HLC := Lib.hid (show ∀ y : Ext w1, (Instr.loadAt 24 (.pointer (some ⟨cb, 0, none⟩))).run Try.prog y.w = .ok (.agg #[.int .i64 t, .int .i64 s, .int .u64 Kc]) y.w from fun y => by
    have q3 := Ext.use (Ext.cells (Th.newcell HBC.out 0 _ rfl)) y.h; have q4 := Ext.use (Ext.cells (Th.newcell HBC.out 1 _ rfl)) y.h; have q5 := Ext.use (Ext.cells (Th.newcell HBC.out 2 _ rfl)) y.h
    go_simp
    try exact ⟨rfl, rfl, rfl⟩)
  have HL1 := Lib.hid (show ∀ y : Ext w1, (Instr.loadAt 3 (.pointer (some ⟨ob, 1, none⟩))).run Try.prog y.w = .ok (.int .i64 fi) y.w from fun y => by
    have q3 := Ext.use (Ext.cells (Th.newcell HBO.out 1 _ rfl)) y.h
    go_simp
    try exact ⟨rfl, rfl, rfl⟩)
  have HL2 := Lib.hid (show ∀ y : Ext w1, (Instr.loadAt 22 (.pointer (some ⟨ob, 2, none⟩))).run Try.prog y.w = .ok (.int .u64 e) y.w from fun y => by
    have q3 := Ext.use (Ext.cells (Th.newcell HBO.out 2 _ rfl)) y.h
    go_simp
    try exact ⟨rfl, rfl, rfl⟩)
  have HL3 := Lib.hid (show ∀ y : Ext w1, (Instr.loadAt 22 (.pointer (some ⟨ob, 3, none⟩))).run Try.prog y.w = .ok (.int .u64 tm) y.w from fun y => by
    have q3 := Ext.use (Ext.cells (Th.newcell HBO.out 3 _ rfl)) y.h
    go_simp
    try exact ⟨rfl, rfl, rfl⟩)
  have HL4 := Lib.hid (show ∀ y : Ext w1, (Instr.loadAt 22 (.pointer (some ⟨ob, 4, none⟩))).run Try.prog y.w = .ok (.int .u64 old) y.w from fun y => by
    have q3 := Ext.use (Ext.cells (Th.newcell HBO.out 4 _ rfl)) y.h
    go_simp
    try exact ⟨rfl, rfl, rfl⟩)
  have HL5 := Lib.hid (show ∀ y : Ext w1, (Instr.loadAt 22 (.pointer (some ⟨ob, 5, none⟩))).run Try.prog y.w = .ok (.int .u64 x) y.w from fun y => by
    have q3 := Ext.use (Ext.cells (Th.newcell HBO.out 5 _ rfl)) y.h
    go_simp
    try exact ⟨rfl, rfl, rfl⟩)
  have o0 : w1.cell? ⟨ob, 0, none⟩ = some (.int .i64 k) := Th.newcell HBO.out 0 _ rfl
  have hcase : (k < 0 ∧ kc k = 5) ∨ (¬ k < 0 ∧ 3 < k ∧ kc k = 5) ∨ (¬ k < 0 ∧ ¬ 3 < k ∧ kc k = k) := by
    unfold kc
    by_cases g1 : k < 0
    · exact .inl ⟨g1, if_neg (by omega)⟩
    · by_cases g2 : 3 < k
      · exact .inr (.inl ⟨g1, g2, if_neg (by omega)⟩)
      · exact .inr (.inr ⟨g1, g2, if_pos (by omega)⟩)
  rcases hcase with ⟨k0, hk⟩ | ⟨k0, k3, hk⟩ | ⟨k0, k3, hk⟩
  · go_upto_region 7 with fail
    have HK := Lib.hid hk
    clear o0 hk
    have n1 : 1 ≤ n := by have := HNN.out; omega
    have n2 : n ≤ 4096 := by have := HNN.out; omega
    refine Th.wp_region_K (fun w' => ∃ y : Ext w1, w' = y.w) 25 (by decide +kernel) ?_
    generalize hwd : World.drew w1 = wd
    have hbd : Below w1.heap.size w1 wd := by rw [← hwd]; exact (Below.refl _ _).drew
    clear hwd
    (refine Th.wpAnyK_takeY (i := 0) (v := ?_) rfl (by decide +kernel) (by decide +kernel) (by decide +kernel) (by decide) (fun _ _ _ h => h) (Or.inl ⟨by rfl, ?_⟩) (.inr ⟨⟨wd, hbd⟩, rfl⟩) ?_; rotate_left; (intro w; go_simp); (try with_reducible rfl))
    (try simp only [List.getElem_toArray, List.getElem_cons_succ, List.getElem_cons_zero, Act.put, List.setIfInBounds_toArray, List.set_cons_succ, List.set_cons_zero])
    (refine Th.wpAnyK_take (i := 1) (v := .agg #[.slice (some ⟨wg, 0, none⟩) n C, .int .i64 acc, .bool flt]) [19, 20, 21, 25] rfl (by decide +kernel) (by decide +kernel) (by decide +kernel) (by decide +kernel) (fun _ _ _ h => h) (Th.yields_loadK rfl 46 (.tmp 28) rfl rfl (by rintro _ ⟨y, rfl⟩; exact HLM.out y)) ⟨⟨wd, hbd⟩, rfl⟩ ?_)
    (try simp only [List.getElem_toArray, List.getElem_cons_succ, List.getElem_cons_zero, Act.put, List.setIfInBounds_toArray, List.set_cons_succ, List.set_cons_zero])
    (refine Th.wpAnyK_takeY (i := 2) (v := ?_) rfl (by decide +kernel) (by decide +kernel) (by decide +kernel) (by decide) (fun _ _ _ h => h) (Or.inl ⟨by rfl, ?_⟩) (.inr ⟨⟨wd, hbd⟩, rfl⟩) ?_; rotate_left; (intro w; go_simp); (try with_reducible rfl))
    (try simp only [List.getElem_toArray, List.getElem_cons_succ, List.getElem_cons_zero, Act.put, List.setIfInBounds_toArray, List.set_cons_succ, List.set_cons_zero])
    (refine Th.wpAnyK_takeY (i := 3) (v := ?_) rfl (by decide +kernel) (by decide +kernel) (by decide +kernel) (by decide) (fun _ _ _ h => h) (Or.inl ⟨by rfl, ?_⟩) (.inr ⟨⟨wd, hbd⟩, rfl⟩) ?_; rotate_left; (intro w; go_simp); (try with_reducible rfl))
    (try simp only [List.getElem_toArray, List.getElem_cons_succ, List.getElem_cons_zero, Act.put, List.setIfInBounds_toArray, List.set_cons_succ, List.set_cons_zero])
    (refine Th.wpAnyK_take (i := 4) (v := .agg #[.int .i64 t, .int .i64 s, .int .u64 Kc]) [11, 18, 19, 20, 21, 25] rfl (by decide +kernel) (by decide +kernel) (by decide +kernel) (by decide +kernel) (fun _ _ _ h => h) (Th.yields_loadK rfl 24 (.tmp 31) rfl rfl (by rintro _ ⟨y, rfl⟩; exact HLC.out y)) ⟨⟨wd, hbd⟩, rfl⟩ ?_)
    (try simp only [List.getElem_toArray, List.getElem_cons_succ, List.getElem_cons_zero, Act.put, List.setIfInBounds_toArray, List.set_cons_succ, List.set_cons_zero])
    (refine Th.wpAnyK_takeY (i := 5) (v := ?_) rfl (by decide +kernel) (by decide +kernel) (by decide +kernel) (by decide) (fun _ _ _ h => h) (Or.inl ⟨by rfl, ?_⟩) (.inr ⟨⟨wd, hbd⟩, rfl⟩) ?_; rotate_left; (intro w; go_simp); (try with_reducible rfl))
    (try simp only [List.getElem_toArray, List.getElem_cons_succ, List.getElem_cons_zero, Act.put, List.setIfInBounds_toArray, List.set_cons_succ, List.set_cons_zero])
    (refine Th.wpAnyK_take (i := 6) (v := .int .u64 e) [7, 8, 11, 18, 19, 20, 21, 25] rfl (by decide +kernel) (by decide +kernel) (by decide +kernel) (by decide +kernel) (fun _ _ _ h => h) (Th.yields_loadK rfl 22 (.tmp 33) rfl rfl (by rintro _ ⟨y, rfl⟩; exact HL2.out y)) ⟨⟨wd, hbd⟩, rfl⟩ ?_)
    (try simp only [List.getElem_toArray, List.getElem_cons_succ, List.getElem_cons_zero, Act.put, List.setIfInBounds_toArray, List.set_cons_succ, List.set_cons_zero])
    (refine Th.wpAnyK_takeY (i := 7) (v := ?_) rfl (by decide +kernel) (by decide +kernel) (by decide +kernel) (by decide) (fun _ _ _ h => h) (Or.inl ⟨by rfl, ?_⟩) (.inr ⟨⟨wd, hbd⟩, rfl⟩) ?_; rotate_left; (intro w; go_simp); (try with_reducible rfl))
    (try simp only [List.getElem_toArray, List.getElem_cons_succ, List.getElem_cons_zero, Act.put, List.setIfInBounds_toArray, List.set_cons_succ, List.set_cons_zero])
    (refine Th.wpAnyK_takeY (i := 8) (v := ?_) rfl (by decide +kernel) (by decide +kernel) (by decide +kernel) (by decide) (fun _ _ _ h => h) (Or.inl ⟨by rfl, ?_⟩) (.inr ⟨⟨wd, hbd⟩, rfl⟩) ?_; rotate_left; (intro w; go_simp); (try with_reducible rfl))
    (try simp only [List.getElem_toArray, List.getElem_cons_succ, List.getElem_cons_zero, Act.put, List.setIfInBounds_toArray, List.set_cons_succ, List.set_cons_zero])
    (refine Th.wpAnyK_takeY (i := 9) (v := ?_) rfl (by decide +kernel) (by decide +kernel) (by decide +kernel) (by decide) (fun _ _ _ h => h) (Or.inl ⟨by rfl, ?_⟩) (.inr ⟨⟨wd, hbd⟩, rfl⟩) ?_; rotate_left; (intro w; go_simp); (try with_reducible rfl))
    (try simp only [List.getElem_toArray, List.getElem_cons_succ, List.getElem_cons_zero, Act.put, List.setIfInBounds_toArray, List.set_cons_succ, List.set_cons_zero])
    (refine Th.wpAnyK_take (i := 10) (v := .int .i64 fi) [11, 18, 19, 20, 21, 25] rfl (by decide +kernel) (by decide +kernel) (by decide +kernel) (by decide +kernel) (fun _ _ _ h => h) (Th.yields_loadK rfl 3 (.tmp 37) rfl rfl (by rintro _ ⟨y, rfl⟩; exact HL1.out y)) ⟨⟨wd, hbd⟩, rfl⟩ ?_)
    (try simp only [List.getElem_toArray, List.getElem_cons_succ, List.getElem_cons_zero, Act.put, List.setIfInBounds_toArray, List.set_cons_succ, List.set_cons_zero])
    (refine Th.wpAnyK_takeY (i := 12) (v := ?_) rfl (by decide +kernel) (by decide +kernel) (by decide +kernel) (by decide) (fun _ _ _ h => h) (Or.inl ⟨by rfl, ?_⟩) (.inr ⟨⟨wd, hbd⟩, rfl⟩) ?_; rotate_left; (intro w; go_simp); (try with_reducible rfl))
    (try simp only [List.getElem_toArray, List.getElem_cons_succ, List.getElem_cons_zero, Act.put, List.setIfInBounds_toArray, List.set_cons_succ, List.set_cons_zero])
    (refine Th.wpAnyK_take (i := 13) (v := .int .u64 tm) [18, 19, 20, 21, 25] rfl (by decide +kernel) (by decide +kernel) (by decide +kernel) (by decide +kernel) (fun _ _ _ h => h) (Th.yields_loadK rfl 22 (.tmp 40) rfl rfl (by rintro _ ⟨y, rfl⟩; exact HL3.out y)) ⟨⟨wd, hbd⟩, rfl⟩ ?_)
    (try simp only [List.getElem_toArray, List.getElem_cons_succ, List.getElem_cons_zero, Act.put, List.setIfInBounds_toArray, List.set_cons_succ, List.set_cons_zero])
    (refine Th.wpAnyK_takeY (i := 14) (v := ?_) rfl (by decide +kernel) (by decide +kernel) (by decide +kernel) (by decide) (fun _ _ _ h => h) (Or.inl ⟨by rfl, ?_⟩) (.inr ⟨⟨wd, hbd⟩, rfl⟩) ?_; rotate_left; (intro w; go_simp); (try with_reducible rfl))
    (try simp only [List.getElem_toArray, List.getElem_cons_succ, List.getElem_cons_zero, Act.put, List.setIfInBounds_toArray, List.set_cons_succ, List.set_cons_zero])
    (refine Th.wpAnyK_take (i := 15) (v := .int .u64 old) [18, 19, 20, 21, 25] rfl (by decide +kernel) (by decide +kernel) (by decide +kernel) (by decide +kernel) (fun _ _ _ h => h) (Th.yields_loadK rfl 22 (.tmp 42) rfl rfl (by rintro _ ⟨y, rfl⟩; exact HL4.out y)) ⟨⟨wd, hbd⟩, rfl⟩ ?_)
    (try simp only [List.getElem_toArray, List.getElem_cons_succ, List.getElem_cons_zero, Act.put, List.setIfInBounds_toArray, List.set_cons_succ, List.set_cons_zero])
    (refine Th.wpAnyK_takeY (i := 16) (v := ?_) rfl (by decide +kernel) (by decide +kernel) (by decide +kernel) (by decide) (fun _ _ _ h => h) (Or.inl ⟨by rfl, ?_⟩) (.inr ⟨⟨wd, hbd⟩, rfl⟩) ?_; rotate_left; (intro w; go_simp); (try with_reducible rfl))
    (try simp only [List.getElem_toArray, List.getElem_cons_succ, List.getElem_cons_zero, Act.put, List.setIfInBounds_toArray, List.set_cons_succ, List.set_cons_zero])
    (refine Th.wpAnyK_take (i := 17) (v := .int .u64 x) [18, 19, 20, 21, 25] rfl (by decide +kernel) (by decide +kernel) (by decide +kernel) (by decide +kernel) (fun _ _ _ h => h) (Th.yields_loadK rfl 22 (.tmp 44) rfl rfl (by rintro _ ⟨y, rfl⟩; exact HL5.out y)) ⟨⟨wd, hbd⟩, rfl⟩ ?_)
    (try simp only [List.getElem_toArray, List.getElem_cons_succ, List.getElem_cons_zero, Act.put, List.setIfInBounds_toArray, List.set_cons_succ, List.set_cons_zero])
    (refine Th.wpAnyK_ready (rs := [11, 24]) (by decide +kernel) (by simp) ?_; refine (Th.AllReadyK.cons rfl (fun K hK => ?_) (Th.AllReadyK.cons rfl (fun K hK => ?_) Th.AllReadyK.nil)))
    · refine step_of rfl ?_
      go_step
      refine (rat t s Kc (e % 4096) fi wd t2 s2).mono ?_; rintro _ v0 ⟨rfl, hbv0⟩
      have hbv0 := below_on hbd hbv0
      refine hK _ _ (.inr ⟨⟨v0, hbv0⟩, rfl⟩) ?_
      clear hK K
      (try simp only [List.getElem_toArray, List.getElem_cons_succ, List.getElem_cons_zero, Act.put, List.setIfInBounds_toArray, List.set_cons_succ, List.set_cons_zero])
      (refine Th.wpAnyK_takeY (i := 18) (v := ?_) rfl (by decide +kernel) (by decide +kernel) (by decide +kernel) (by decide) (fun _ _ _ h => h) (Or.inl ⟨by rfl, ?_⟩) (.inr ⟨⟨v0, hbv0⟩, rfl⟩) ?_; rotate_left; (intro w; go_simp); (try with_reducible rfl))
      (try simp only [List.getElem_toArray, List.getElem_cons_succ, List.getElem_cons_zero, Act.put, List.setIfInBounds_toArray, List.set_cons_succ, List.set_cons_zero])
      (refine Th.wpAnyK_ready (rs := [19, 24]) (by decide +kernel) (by simp) ?_; refine (Th.AllReadyK.cons rfl (fun K hK => ?_) (Th.AllReadyK.cons rfl (fun K hK => ?_) Th.AllReadyK.nil)))
      · refine step_of rfl ?_
        go_step
        refine (Mm.rdo wg n C f acc 5 (nodeI t s (e % 4096) fi) 0 tm old x flt v0 (HR.out.below (below_on HB1.out hbv0)) n1 n2 nC cC a0 a1 RN.out x0 x1).mono ?_
        rintro _ v1 ⟨g', C', hg, rfl, hrow, hc1, hc2, hbv1⟩
        have hg : g' = wg ∨ w1.heap.size ≤ g' := by have := hbv0.size; exact hg.imp id fun e => (by omega)
        have hbv1 := below_on hbv0 hbv1
        refine hK _ _ (.inr ⟨⟨v1, hbv1⟩, rfl⟩) ?_
        clear hK K
        (try simp only [List.getElem_toArray, List.getElem_cons_succ, List.getElem_cons_zero, Act.put, List.setIfInBounds_toArray, List.set_cons_succ, List.set_cons_zero])
        (refine Th.wpAnyK_takeY (i := 20) (v := ?_) rfl (by decide +kernel) (by decide +kernel) (by decide +kernel) (by decide) (fun _ _ _ h => h) (Or.inl ⟨by rfl, ?_⟩) (.inr ⟨⟨v1, hbv1⟩, rfl⟩) ?_; rotate_left; (intro w; go_simp); (try with_reducible rfl))
        (try simp only [List.getElem_toArray, List.getElem_cons_succ, List.getElem_cons_zero, Act.put, List.setIfInBounds_toArray, List.set_cons_succ, List.set_cons_zero])
        (refine Th.wpAnyK_takeY (i := 21) (v := ?_) rfl (by decide +kernel) (by decide +kernel) (by decide +kernel) (by decide) (fun _ _ _ h => h) (Or.inl ⟨by rfl, ?_⟩) (.inr ⟨⟨v1, hbv1⟩, rfl⟩) ?_; rotate_left; (intro w; go_simp); (try with_reducible rfl))
        (try simp only [List.getElem_toArray, List.getElem_cons_succ, List.getElem_cons_zero, Act.put, List.setIfInBounds_toArray, List.set_cons_succ, List.set_cons_zero])
        (refine Th.wpAnyK_takeY (i := 22) (v := ?_) rfl (by decide +kernel) (by decide +kernel) (by decide +kernel) (by decide) (fun _ _ _ h => h) (Or.inl ⟨by rfl, ?_⟩) (.inr ⟨⟨v1, hbv1⟩, rfl⟩) ?_; rotate_left; (intro w; go_simp); (try with_reducible rfl))
        (try simp only [List.getElem_toArray, List.getElem_cons_succ, List.getElem_cons_zero, Act.put, List.setIfInBounds_toArray, List.set_cons_succ, List.set_cons_zero])
        (refine Th.wpAnyK_takeY (i := 23) (v := ?_) rfl (by decide +kernel) (by decide +kernel) (by decide +kernel) (by decide) (fun _ _ _ h => h) (Or.inl ⟨by rfl, ?_⟩) (.inr ⟨⟨v1, hbv1⟩, rfl⟩) ?_; rotate_left; (intro w; go_simp); (try with_reducible rfl))
        (try simp only [List.getElem_toArray, List.getElem_cons_succ, List.getElem_cons_zero, Act.put, List.setIfInBounds_toArray, List.set_cons_succ, List.set_cons_zero])
        (refine Th.wpAnyK_ready (rs := [24]) (by decide +kernel) (by simp) ?_; refine (Th.AllReadyK.cons rfl (fun K hK => ?_) Th.AllReadyK.nil))
        refine step_of rfl ?_
        go_step
        generalize hwe : World.alloc v1 _ = v2
        obtain ⟨hXv2, hbv2⟩ := Th.heapnewE hwe
        obtain ⟨Z, hZ⟩ : ∃ Z, Z = v1.heap.size := ⟨_, rfl⟩
        rw [← hZ] at hXv2; simp only [← hZ]
        have hZ1 : w1.heap.size ≤ Z := by have := hbv1.size; omega
        have hZ2 : Z < v2.heap.size := Th.blk_lt hXv2
        have hne : g' ≠ Z := by have := hrow.lt; omega
        have hrow := hrow.below hbv2
        have HZ := Lib.hid hXv2; clear hwe
        have hbv2 := below_on hbv1 hbv2
        refine hK _ _ (.inr ⟨⟨v2, hbv2⟩, rfl⟩) ?_
        clear hK K
        (try simp only [List.getElem_toArray, List.getElem_cons_succ, List.getElem_cons_zero, Act.put, List.setIfInBounds_toArray, List.set_cons_succ, List.set_cons_zero])
        (try simp only [← hZ])
        (refine Th.wpAnyK_ready (rs := [25]) (by decide +kernel) (by simp) ?_; refine (Th.AllReadyK.cons rfl (fun K hK => ?_) Th.AllReadyK.nil))
        subst hZ
        refine step_of rfl ?_
        refine wp_store_row 46 (.tmp 8) (.tmp 48) rfl (v1.heap.size) #[.slice (some ⟨g', 0, none⟩) n C', .int .i64 (acc + 1), .bool (flt || !Mm.okD n 5 (nodeI t s (e % 4096) fi) 0)] rfl rfl 46 _ HZ.out infoM6 rfl (by kernel_rfl) ?_
        refine hK _ _ (.inl rfl) ?_
        clear hK K
        (try simp only [List.getElem_toArray, List.getElem_cons_succ, List.getElem_cons_zero, Act.put, List.setIfInBounds_toArray, List.set_cons_succ, List.set_cons_zero])
        (refine Th.wpAnyK_takeY (i := 26) (v := ?_) rfl (by decide +kernel) (by decide +kernel) (by decide +kernel) (by decide) (fun _ _ _ h => h) (Or.inl ⟨by rfl, ?_⟩) (.inl rfl) ?_; rotate_left; (intro w; go_simp); (try with_reducible rfl))
        (try simp only [List.getElem_toArray, List.getElem_cons_succ, List.getElem_cons_zero, Act.put, List.setIfInBounds_toArray, List.set_cons_succ, List.set_cons_zero])
        (refine Th.wpAnyK_takeY (i := 27) (v := ?_) rfl (by decide +kernel) (by decide +kernel) (by decide +kernel) (by decide) (fun _ _ _ h => h) (Or.inl ⟨by rfl, ?_⟩) (.inl rfl) ?_; rotate_left; (intro w; go_simp); (try with_reducible rfl))
        (try simp only [List.getElem_toArray, List.getElem_cons_succ, List.getElem_cons_zero, Act.put, List.setIfInBounds_toArray, List.set_cons_succ, List.set_cons_zero])
        refine Th.wpAnyK_done (by decide +kernel) ?_ _
        have hoth : ∀ jj, jj ≠ (v1.heap.size) → (v2.setRow (v1.heap.size) #[.slice (some ⟨g', 0, none⟩) n C', .int .i64 (acc + 1), .bool (flt || !Mm.okD n 5 (nodeI t s (e % 4096) fi) 0)]).heap[jj]? = v2.heap[jj]? := fun jj hj => setRow_other _ _ _ _ hj
        have hsz : (v2.setRow (v1.heap.size) #[.slice (some ⟨g', 0, none⟩) n C', .int .i64 (acc + 1), .bool (flt || !Mm.okD n 5 (nodeI t s (e % 4096) fi) 0)]).heap.size = v2.heap.size := by simp [World.setRow]
        have hzz : (v2.setRow (v1.heap.size) #[.slice (some ⟨g', 0, none⟩) n C', .int .i64 (acc + 1), .bool (flt || !Mm.okD n 5 (nodeI t s (e % 4096) fi) 0)]).heap[v1.heap.size]? = some (.cells #[.slice (some ⟨g', 0, none⟩) n C', .int .i64 (acc + 1), .bool (flt || !Mm.okD n 5 (nodeI t s (e % 4096) fi) 0)] 46 (0, 0)) := setRow_heap _ _ _ _ _ _ HZ.out
        have hos : (v2.setRow (v1.heap.size) #[.slice (some ⟨g', 0, none⟩) n C', .int .i64 (acc + 1), .bool (flt || !Mm.okD n 5 (nodeI t s (e % 4096) fi) 0)]).os = v2.os ∧ (v2.setRow (v1.heap.size) #[.slice (some ⟨g', 0, none⟩) n C', .int .i64 (acc + 1), .bool (flt || !Mm.okD n 5 (nodeI t s (e % 4096) fi) 0)]).tape = v2.tape ∧ (v2.setRow (v1.heap.size) #[.slice (some ⟨g', 0, none⟩) n C', .int .i64 (acc + 1), .bool (flt || !Mm.okD n 5 (nodeI t s (e % 4096) fi) 0)]).output = v2.output := ⟨rfl, rfl, rfl⟩
        generalize hW : World.setRow _ _ _ = W
        rw [hW] at hoth hsz hzz hos
        have HBW := Lib.hid (show Below w1.heap.size w1 W from ⟨hos.1.trans hbv2.os, hos.2.1.trans hbv2.tape, hos.2.2.trans hbv2.output, by have := hbv2.size; omega, fun j hj => (hoth j (by omega)).trans (hbv2.block j hj)⟩)
        have HRW := Lib.hid (hrow.keep (by omega) (hoth _ hne))
        have z0 : W.cell? ⟨(v1.heap.size), 0, none⟩ = some (.slice (some ⟨g', 0, none⟩) n C') := Th.newcell hzz 0 _ rfl; have z1 : W.cell? ⟨(v1.heap.size), 1, none⟩ = some (.int .i64 (acc + 1)) := Th.newcell hzz 1 _ rfl; have z2 : W.cell? ⟨(v1.heap.size), 2, none⟩ = some (.bool (flt || !Mm.okD n 5 (nodeI t s (e % 4096) fi) 0)) := Th.newcell hzz 2 _ rfl
        have HCW := Lib.hid (Th.up HBW.out HBC.out); have HRBW := Lib.hid (Th.up HBW.out HBR.out)
        clear hW hoth hsz hos hrow HZ
        have HTH := Lib.hid (show W.there cb 3 3 from fun j hj => by
        match j, hj with
        | 0, _ => exact ⟨by rw [Th.newcell HCW.out 3 _ rfl]; rfl, frozen_of_row _ _ _ _ _ HCW.out⟩
        | 1, _ => exact ⟨by rw [Th.newcell HCW.out 4 _ rfl]; rfl, frozen_of_row _ _ _ _ _ HCW.out⟩
        | 2, _ => exact ⟨by rw [Th.newcell HCW.out 5 _ rfl]; rfl, frozen_of_row _ _ _ _ _ HCW.out⟩)
        have HBW1 := Lib.hid (below_on HB1.out HBW.out)
        go_upto_region 9 with (refine wpList_store_mid rfl 46 (.tmp 52) (.tmp 51) rfl cb 3 #[.slice (some ⟨g', 0, none⟩) n C', .int .i64 (acc + 1), .bool (flt || !Mm.okD n 5 (nodeI t s (e % 4096) fi) 0)] rfl rfl HTH.out infoM6 (by kernel_rfl) ?_)
        generalize hV : World.setCells _ _ _ _ = V
        have HV := Lib.hid (show V.heap[cb]? = some (.cells (mV t s Kc (.slice (some ⟨g', 0, none⟩) n C') (acc + 1) (flt || !Mm.okD n 5 (nodeI t s (e % 4096) fi) 0) gb gc sl odd) 51 (0, 0)) by rw [← hV]; have := heap_setCell_same _ cb 5 _ _ (.bool (flt || !Mm.okD n 5 (nodeI t s (e % 4096) fi) 0)) (heap_setCell_same _ cb 4 _ _ (.int .i64 (acc + 1)) (heap_setCell_same _ cb 3 _ _ (.slice (some ⟨g', 0, none⟩) n C') HCW.out)); exact this) --X (heap_setCell_same _ cb 4 _ _ _ (heap_setCell_same _ cb 3 _ _ _ HCW.out)))
        have hvo : ∀ j, j ≠ cb → V.heap[j]? = W.heap[j]? := fun j hj => by rw [← hV]; exact (heap_setCell_other _ ⟨cb, 5, none⟩ j _ hj).trans ((heap_setCell_other _ ⟨cb, 4, none⟩ j _ hj).trans (heap_setCell_other _ ⟨cb, 3, none⟩ j _ hj))
        have hvs : Below w.heap.size w V := by (rw [← hV]; have := HE1.out; have h := ((HBW1.out.setCell (p := ⟨cb, 3, none⟩) (by show w.heap.size ≤ cb; omega) (.slice (some ⟨g', 0, none⟩) n C')).setCell (p := ⟨cb, 4, none⟩) (by show w.heap.size ≤ cb; omega) (.int .i64 (acc + 1))).setCell (p := ⟨cb, 5, none⟩) (by show w.heap.size ≤ cb; omega) (.bool (flt || !Mm.okD n 5 (nodeI t s (e % 4096) fi) 0)); exact h)
        have hvz : V.heap.size = W.heap.size := by rw [← hV]; simp [World.setCells]
        have HRV := Lib.hid ((hvo rb (Ne.symm n13)).trans HRBW.out)
        have HRWV := Lib.hid (HRW.out.keep (by omega) (hvo g' (by have := HE1.out; have := HR.out.lt; have := Th.blk_lt HBC.out; rcases hg with e | e <;> omega)))
        clear hV z0 z1 z2
        obtain ⟨d, hdu, hdr⟩ := uM
        have HRG := Lib.hid (mV_range HV.out)
        have HDU := Lib.hid hdu; have HDR := Lib.hid hdr
        clear hdu hdr
        go_wp2_with (first | (refine wpList_load_mid rfl 51 (.tmp 2) rfl cb 0 rfl ((mV t s Kc (.slice (some ⟨g', 0, none⟩) n C') (acc + 1) (flt || !Mm.okD n 5 (nodeI t s (e % 4096) fi) 0) gb gc sl odd)).toList d HRG.out HDU.out HDR.out infoM ?_) | (refine wpList_store_row (by rfl) 51 (.tmp 4) (.tmp 53) (by rfl) rb (mV t s Kc (.slice (some ⟨g', 0, none⟩) n C') (acc + 1) (flt || !Mm.okD n 5 (nodeI t s (e % 4096) fi) 0) gb gc sl odd) (by rfl) (by rfl) 51 _ HRV.out infoM rfl (mV_one _ _ _ _ _ _ _ _ _ _ _ _) ?_))
        have hrw : (V.setRow rb (mV t s Kc (.slice (some ⟨g', 0, none⟩) n C') (acc + 1) (flt || !Mm.okD n 5 (nodeI t s (e % 4096) fi) 0) gb gc sl odd)).heap[rb]? = some (.cells (mV t s Kc (.slice (some ⟨g', 0, none⟩) n C') (acc + 1) (flt || !Mm.okD n 5 (nodeI t s (e % 4096) fi) 0) gb gc sl odd) 51 (0, 0)) := setRow_heap _ _ _ _ _ _ HRV.out
        refine bodyPost_ret (v := .tuple #[.agg (mV t s Kc (.slice (some ⟨g', 0, none⟩) n C') (acc + 1) (flt || !Mm.okD n 5 (nodeI t s (e % 4096) fi) 0) gb gc sl odd), .int .u64 (Mm.toldD n f 5 (nodeI t s (e % 4096) fi)), .bool (Mm.doneD n f 5 (nodeI t s (e % 4096) fi) 0 tm old)]) (fin16d (cs := ((mV t s Kc (.slice (some ⟨g', 0, none⟩) n C') (acc + 1) (flt || !Mm.okD n 5 (nodeI t s (e % 4096) fi) 0) gb gc sl odd)).toList) rfl _ _ (mV_range hrw) rfl rfl rfl) rfl ?_
        rw [HQ.out, HK.out]
        have hg' : g' = wg ∨ w.heap.size ≤ g' := by have := HB1.out.size; exact hg.imp id fun e => (by omega)
        have hgr : g' ≠ rb := by have := HE3.out; have := HR.out.lt; have := Th.blk_lt HBR.out; rcases hg with e | e <;> omega
        refine ⟨g', C', hg', rfl, HRWV.out.keep (by simp [World.setRow]) (setRow_other _ _ _ _ hgr), hc1, hc2, hvs.os, hvs.tape, hvs.output, by have := hvs.size; simpa [World.setRow] using this, fun j hj => (setRow_other _ _ _ _ (by have := HE3.out; omega)).trans (hvs.block j hj)⟩
      · refine step_of rfl ?_
        go_step
        generalize hwe : World.alloc v0 _ = v1
        obtain ⟨hXv1, hbv1⟩ := Th.heapnewE hwe
        obtain ⟨Z, hZ⟩ : ∃ Z, Z = v0.heap.size := ⟨_, rfl⟩
        rw [← hZ] at hXv1; simp only [← hZ]
        have hZ1 : w1.heap.size ≤ Z := by have := hbv0.size; omega
        have hZ2 : Z < v1.heap.size := Th.blk_lt hXv1
        have HZ := Lib.hid hXv1; clear hwe
        have hbv1 := below_on hbv0 hbv1
        refine hK _ _ (.inr ⟨⟨v1, hbv1⟩, rfl⟩) ?_
        clear hK K
        (try simp only [List.getElem_toArray, List.getElem_cons_succ, List.getElem_cons_zero, Act.put, List.setIfInBounds_toArray, List.set_cons_succ, List.set_cons_zero])
        (try simp only [← hZ])
        (refine Th.wpAnyK_ready (rs := [19]) (by decide +kernel) (by simp) ?_; refine (Th.AllReadyK.cons rfl (fun K hK => ?_) Th.AllReadyK.nil))
        refine step_of rfl ?_
        go_step
        refine (Mm.rdo wg n C f acc 5 (nodeI t s (e % 4096) fi) 0 tm old x flt v1 (HR.out.below (below_on HB1.out hbv1)) n1 n2 nC cC a0 a1 RN.out x0 x1).mono ?_
        rintro _ v2 ⟨g', C', hg, rfl, hrow, hc1, hc2, hbv2⟩
        have HZ := Lib.hid (Th.up hbv2 HZ.out)
        have hne : g' ≠ Z := by have := HR.out.lt; have := HB1.out.size; have := hbv1.size; rcases hg with e | e <;> omega
        have hg : g' = wg ∨ w1.heap.size ≤ g' := by have := hbv1.size; exact hg.imp id fun e => (by omega)
        have hbv2 := below_on hbv1 hbv2
        refine hK _ _ (.inr ⟨⟨v2, hbv2⟩, rfl⟩) ?_
        clear hK K
        (try simp only [List.getElem_toArray, List.getElem_cons_succ, List.getElem_cons_zero, Act.put, List.setIfInBounds_toArray, List.set_cons_succ, List.set_cons_zero])
        (refine Th.wpAnyK_takeY (i := 20) (v := ?_) rfl (by decide +kernel) (by decide +kernel) (by decide +kernel) (by decide) (fun _ _ _ h => h) (Or.inl ⟨by rfl, ?_⟩) (.inr ⟨⟨v2, hbv2⟩, rfl⟩) ?_; rotate_left; (intro w; go_simp); (try with_reducible rfl))
        (try simp only [List.getElem_toArray, List.getElem_cons_succ, List.getElem_cons_zero, Act.put, List.setIfInBounds_toArray, List.set_cons_succ, List.set_cons_zero])
        (refine Th.wpAnyK_takeY (i := 21) (v := ?_) rfl (by decide +kernel) (by decide +kernel) (by decide +kernel) (by decide) (fun _ _ _ h => h) (Or.inl ⟨by rfl, ?_⟩) (.inr ⟨⟨v2, hbv2⟩, rfl⟩) ?_; rotate_left; (intro w; go_simp); (try with_reducible rfl))
        (try simp only [List.getElem_toArray, List.getElem_cons_succ, List.getElem_cons_zero, Act.put, List.setIfInBounds_toArray, List.set_cons_succ, List.set_cons_zero])
        (refine Th.wpAnyK_takeY (i := 22) (v := ?_) rfl (by decide +kernel) (by decide +kernel) (by decide +kernel) (by decide) (fun _ _ _ h => h) (Or.inl ⟨by rfl, ?_⟩) (.inr ⟨⟨v2, hbv2⟩, rfl⟩) ?_; rotate_left; (intro w; go_simp); (try with_reducible rfl))
        (try simp only [List.getElem_toArray, List.getElem_cons_succ, List.getElem_cons_zero, Act.put, List.setIfInBounds_toArray, List.set_cons_succ, List.set_cons_zero])
        (refine Th.wpAnyK_takeY (i := 23) (v := ?_) rfl (by decide +kernel) (by decide +kernel) (by decide +kernel) (by decide) (fun _ _ _ h => h) (Or.inl ⟨by rfl, ?_⟩) (.inr ⟨⟨v2, hbv2⟩, rfl⟩) ?_; rotate_left; (intro w; go_simp); (try with_reducible rfl))
        (try simp only [List.getElem_toArray, List.getElem_cons_succ, List.getElem_cons_zero, Act.put, List.setIfInBounds_toArray, List.set_cons_succ, List.set_cons_zero])
        (refine Th.wpAnyK_ready (rs := [25]) (by decide +kernel) (by simp) ?_; refine (Th.AllReadyK.cons rfl (fun K hK => ?_) Th.AllReadyK.nil))
        subst hZ
        refine step_of rfl ?_
        refine wp_store_row 46 (.tmp 8) (.tmp 48) rfl (v0.heap.size) #[.slice (some ⟨g', 0, none⟩) n C', .int .i64 (acc + 1), .bool (flt || !Mm.okD n 5 (nodeI t s (e % 4096) fi) 0)] rfl rfl 46 _ HZ.out infoM6 rfl (by kernel_rfl) ?_
        refine hK _ _ (.inl rfl) ?_
        clear hK K
        (try simp only [List.getElem_toArray, List.getElem_cons_succ, List.getElem_cons_zero, Act.put, List.setIfInBounds_toArray, List.set_cons_succ, List.set_cons_zero])
        (refine Th.wpAnyK_takeY (i := 26) (v := ?_) rfl (by decide +kernel) (by decide +kernel) (by decide +kernel) (by decide) (fun _ _ _ h => h) (Or.inl ⟨by rfl, ?_⟩) (.inl rfl) ?_; rotate_left; (intro w; go_simp); (try with_reducible rfl))
        (try simp only [List.getElem_toArray, List.getElem_cons_succ, List.getElem_cons_zero, Act.put, List.setIfInBounds_toArray, List.set_cons_succ, List.set_cons_zero])
        (refine Th.wpAnyK_takeY (i := 27) (v := ?_) rfl (by decide +kernel) (by decide +kernel) (by decide +kernel) (by decide) (fun _ _ _ h => h) (Or.inl ⟨by rfl, ?_⟩) (.inl rfl) ?_; rotate_left; (intro w; go_simp); (try with_reducible rfl))
        (try simp only [List.getElem_toArray, List.getElem_cons_succ, List.getElem_cons_zero, Act.put, List.setIfInBounds_toArray, List.set_cons_succ, List.set_cons_zero])
        refine Th.wpAnyK_done (by decide +kernel) ?_ _
        have hoth : ∀ jj, jj ≠ (v0.heap.size) → (v2.setRow (v0.heap.size) #[.slice (some ⟨g', 0, none⟩) n C', .int .i64 (acc + 1), .bool (flt || !Mm.okD n 5 (nodeI t s (e % 4096) fi) 0)]).heap[jj]? = v2.heap[jj]? := fun jj hj => setRow_other _ _ _ _ hj
        have hsz : (v2.setRow (v0.heap.size) #[.slice (some ⟨g', 0, none⟩) n C', .int .i64 (acc + 1), .bool (flt || !Mm.okD n 5 (nodeI t s (e % 4096) fi) 0)]).heap.size = v2.heap.size := by simp [World.setRow]
        have hzz : (v2.setRow (v0.heap.size) #[.slice (some ⟨g', 0, none⟩) n C', .int .i64 (acc + 1), .bool (flt || !Mm.okD n 5 (nodeI t s (e % 4096) fi) 0)]).heap[v0.heap.size]? = some (.cells #[.slice (some ⟨g', 0, none⟩) n C', .int .i64 (acc + 1), .bool (flt || !Mm.okD n 5 (nodeI t s (e % 4096) fi) 0)] 46 (0, 0)) := setRow_heap _ _ _ _ _ _ HZ.out
        have hos : (v2.setRow (v0.heap.size) #[.slice (some ⟨g', 0, none⟩) n C', .int .i64 (acc + 1), .bool (flt || !Mm.okD n 5 (nodeI t s (e % 4096) fi) 0)]).os = v2.os ∧ (v2.setRow (v0.heap.size) #[.slice (some ⟨g', 0, none⟩) n C', .int .i64 (acc + 1), .bool (flt || !Mm.okD n 5 (nodeI t s (e % 4096) fi) 0)]).tape = v2.tape ∧ (v2.setRow (v0.heap.size) #[.slice (some ⟨g', 0, none⟩) n C', .int .i64 (acc + 1), .bool (flt || !Mm.okD n 5 (nodeI t s (e % 4096) fi) 0)]).output = v2.output := ⟨rfl, rfl, rfl⟩
        generalize hW : World.setRow _ _ _ = W
        rw [hW] at hoth hsz hzz hos
        have HBW := Lib.hid (show Below w1.heap.size w1 W from ⟨hos.1.trans hbv2.os, hos.2.1.trans hbv2.tape, hos.2.2.trans hbv2.output, by have := hbv2.size; omega, fun j hj => (hoth j (by omega)).trans (hbv2.block j hj)⟩)
        have HRW := Lib.hid (hrow.keep (by omega) (hoth _ hne))
        have z0 : W.cell? ⟨(v0.heap.size), 0, none⟩ = some (.slice (some ⟨g', 0, none⟩) n C') := Th.newcell hzz 0 _ rfl; have z1 : W.cell? ⟨(v0.heap.size), 1, none⟩ = some (.int .i64 (acc + 1)) := Th.newcell hzz 1 _ rfl; have z2 : W.cell? ⟨(v0.heap.size), 2, none⟩ = some (.bool (flt || !Mm.okD n 5 (nodeI t s (e % 4096) fi) 0)) := Th.newcell hzz 2 _ rfl
        have HCW := Lib.hid (Th.up HBW.out HBC.out); have HRBW := Lib.hid (Th.up HBW.out HBR.out)
        clear hW hoth hsz hos hrow HZ
        have HTH := Lib.hid (show W.there cb 3 3 from fun j hj => by
        match j, hj with
        | 0, _ => exact ⟨by rw [Th.newcell HCW.out 3 _ rfl]; rfl, frozen_of_row _ _ _ _ _ HCW.out⟩
        | 1, _ => exact ⟨by rw [Th.newcell HCW.out 4 _ rfl]; rfl, frozen_of_row _ _ _ _ _ HCW.out⟩
        | 2, _ => exact ⟨by rw [Th.newcell HCW.out 5 _ rfl]; rfl, frozen_of_row _ _ _ _ _ HCW.out⟩)
        have HBW1 := Lib.hid (below_on HB1.out HBW.out)
        go_upto_region 9 with (refine wpList_store_mid rfl 46 (.tmp 52) (.tmp 51) rfl cb 3 #[.slice (some ⟨g', 0, none⟩) n C', .int .i64 (acc + 1), .bool (flt || !Mm.okD n 5 (nodeI t s (e % 4096) fi) 0)] rfl rfl HTH.out infoM6 (by kernel_rfl) ?_)
        generalize hV : World.setCells _ _ _ _ = V
        have HV := Lib.hid (show V.heap[cb]? = some (.cells (mV t s Kc (.slice (some ⟨g', 0, none⟩) n C') (acc + 1) (flt || !Mm.okD n 5 (nodeI t s (e % 4096) fi) 0) gb gc sl odd) 51 (0, 0)) by rw [← hV]; have := heap_setCell_same _ cb 5 _ _ (.bool (flt || !Mm.okD n 5 (nodeI t s (e % 4096) fi) 0)) (heap_setCell_same _ cb 4 _ _ (.int .i64 (acc + 1)) (heap_setCell_same _ cb 3 _ _ (.slice (some ⟨g', 0, none⟩) n C') HCW.out)); exact this) --X (heap_setCell_same _ cb 4 _ _ _ (heap_setCell_same _ cb 3 _ _ _ HCW.out)))
        have hvo : ∀ j, j ≠ cb → V.heap[j]? = W.heap[j]? := fun j hj => by rw [← hV]; exact (heap_setCell_other _ ⟨cb, 5, none⟩ j _ hj).trans ((heap_setCell_other _ ⟨cb, 4, none⟩ j _ hj).trans (heap_setCell_other _ ⟨cb, 3, none⟩ j _ hj))
        have hvs : Below w.heap.size w V := by (rw [← hV]; have := HE1.out; have h := ((HBW1.out.setCell (p := ⟨cb, 3, none⟩) (by show w.heap.size ≤ cb; omega) (.slice (some ⟨g', 0, none⟩) n C')).setCell (p := ⟨cb, 4, none⟩) (by show w.heap.size ≤ cb; omega) (.int .i64 (acc + 1))).setCell (p := ⟨cb, 5, none⟩) (by show w.heap.size ≤ cb; omega) (.bool (flt || !Mm.okD n 5 (nodeI t s (e % 4096) fi) 0)); exact h)
        have hvz : V.heap.size = W.heap.size := by rw [← hV]; simp [World.setCells]
        have HRV := Lib.hid ((hvo rb (Ne.symm n13)).trans HRBW.out)
        have HRWV := Lib.hid (HRW.out.keep (by omega) (hvo g' (by have := HE1.out; have := HR.out.lt; have := Th.blk_lt HBC.out; rcases hg with e | e <;> omega)))
        clear hV z0 z1 z2
        obtain ⟨d, hdu, hdr⟩ := uM
        have HRG := Lib.hid (mV_range HV.out)
        have HDU := Lib.hid hdu; have HDR := Lib.hid hdr
        clear hdu hdr
        go_wp2_with (first | (refine wpList_load_mid rfl 51 (.tmp 2) rfl cb 0 rfl ((mV t s Kc (.slice (some ⟨g', 0, none⟩) n C') (acc + 1) (flt || !Mm.okD n 5 (nodeI t s (e % 4096) fi) 0) gb gc sl odd)).toList d HRG.out HDU.out HDR.out infoM ?_) | (refine wpList_store_row (by rfl) 51 (.tmp 4) (.tmp 53) (by rfl) rb (mV t s Kc (.slice (some ⟨g', 0, none⟩) n C') (acc + 1) (flt || !Mm.okD n 5 (nodeI t s (e % 4096) fi) 0) gb gc sl odd) (by rfl) (by rfl) 51 _ HRV.out infoM rfl (mV_one _ _ _ _ _ _ _ _ _ _ _ _) ?_))
        have hrw : (V.setRow rb (mV t s Kc (.slice (some ⟨g', 0, none⟩) n C') (acc + 1) (flt || !Mm.okD n 5 (nodeI t s (e % 4096) fi) 0) gb gc sl odd)).heap[rb]? = some (.cells (mV t s Kc (.slice (some ⟨g', 0, none⟩) n C') (acc + 1) (flt || !Mm.okD n 5 (nodeI t s (e % 4096) fi) 0) gb gc sl odd) 51 (0, 0)) := setRow_heap _ _ _ _ _ _ HRV.out
        refine bodyPost_ret (v := .tuple #[.agg (mV t s Kc (.slice (some ⟨g', 0, none⟩) n C') (acc + 1) (flt || !Mm.okD n 5 (nodeI t s (e % 4096) fi) 0) gb gc sl odd), .int .u64 (Mm.toldD n f 5 (nodeI t s (e % 4096) fi)), .bool (Mm.doneD n f 5 (nodeI t s (e % 4096) fi) 0 tm old)]) (fin16d (cs := ((mV t s Kc (.slice (some ⟨g', 0, none⟩) n C') (acc + 1) (flt || !Mm.okD n 5 (nodeI t s (e % 4096) fi) 0) gb gc sl odd)).toList) rfl _ _ (mV_range hrw) rfl rfl rfl) rfl ?_
        rw [HQ.out, HK.out]
        have hg' : g' = wg ∨ w.heap.size ≤ g' := by have := HB1.out.size; exact hg.imp id fun e => (by omega)
        have hgr : g' ≠ rb := by have := HE3.out; have := HR.out.lt; have := Th.blk_lt HBR.out; rcases hg with e | e <;> omega
        refine ⟨g', C', hg', rfl, HRWV.out.keep (by simp [World.setRow]) (setRow_other _ _ _ _ hgr), hc1, hc2, hvs.os, hvs.tape, hvs.output, by have := hvs.size; simpa [World.setRow] using this, fun j hj => (setRow_other _ _ _ _ (by have := HE3.out; omega)).trans (hvs.block j hj)⟩
    · refine step_of rfl ?_
      go_step
      generalize hwe : World.alloc wd _ = v0
      obtain ⟨hXv0, hbv0⟩ := Th.heapnewE hwe
      obtain ⟨Z, hZ⟩ : ∃ Z, Z = wd.heap.size := ⟨_, rfl⟩
      rw [← hZ] at hXv0; simp only [← hZ]
      have hZ1 : w1.heap.size ≤ Z := by have := hbd.size; omega
      have hZ2 : Z < v0.heap.size := Th.blk_lt hXv0
      have HZ := Lib.hid hXv0; clear hwe
      have hbv0 := below_on hbd hbv0
      refine hK _ _ (.inr ⟨⟨v0, hbv0⟩, rfl⟩) ?_
      clear hK K
      (try simp only [List.getElem_toArray, List.getElem_cons_succ, List.getElem_cons_zero, Act.put, List.setIfInBounds_toArray, List.set_cons_succ, List.set_cons_zero])
      (try simp only [← hZ])
      (refine Th.wpAnyK_ready (rs := [11]) (by decide +kernel) (by simp) ?_; refine (Th.AllReadyK.cons rfl (fun K hK => ?_) Th.AllReadyK.nil))
      refine step_of rfl ?_
      go_step
      refine (rat t s Kc (e % 4096) fi v0 t2 s2).mono ?_; rintro _ v1 ⟨rfl, hbv1⟩
      have HZ := Lib.hid (Th.up hbv1 HZ.out)
      have hZ2 := Nat.lt_of_lt_of_le hZ2 hbv1.size
      have hbv1 := below_on hbv0 hbv1
      refine hK _ _ (.inr ⟨⟨v1, hbv1⟩, rfl⟩) ?_
      clear hK K
      (try simp only [List.getElem_toArray, List.getElem_cons_succ, List.getElem_cons_zero, Act.put, List.setIfInBounds_toArray, List.set_cons_succ, List.set_cons_zero])
      (refine Th.wpAnyK_takeY (i := 18) (v := ?_) rfl (by decide +kernel) (by decide +kernel) (by decide +kernel) (by decide) (fun _ _ _ h => h) (Or.inl ⟨by rfl, ?_⟩) (.inr ⟨⟨v1, hbv1⟩, rfl⟩) ?_; rotate_left; (intro w; go_simp); (try with_reducible rfl))
      (try simp only [List.getElem_toArray, List.getElem_cons_succ, List.getElem_cons_zero, Act.put, List.setIfInBounds_toArray, List.set_cons_succ, List.set_cons_zero])
      (refine Th.wpAnyK_ready (rs := [19]) (by decide +kernel) (by simp) ?_; refine (Th.AllReadyK.cons rfl (fun K hK => ?_) Th.AllReadyK.nil))
      refine step_of rfl ?_
      go_step
      refine (Mm.rdo wg n C f acc 5 (nodeI t s (e % 4096) fi) 0 tm old x flt v1 (HR.out.below (below_on HB1.out hbv1)) n1 n2 nC cC a0 a1 RN.out x0 x1).mono ?_
      rintro _ v2 ⟨g', C', hg, rfl, hrow, hc1, hc2, hbv2⟩
      have HZ := Lib.hid (Th.up hbv2 HZ.out)
      have hne : g' ≠ Z := by have := HR.out.lt; have := HB1.out.size; have := hbv1.size; rcases hg with e | e <;> omega
      have hg : g' = wg ∨ w1.heap.size ≤ g' := by have := hbv1.size; exact hg.imp id fun e => (by omega)
      have hbv2 := below_on hbv1 hbv2
      refine hK _ _ (.inr ⟨⟨v2, hbv2⟩, rfl⟩) ?_
      clear hK K
      (try simp only [List.getElem_toArray, List.getElem_cons_succ, List.getElem_cons_zero, Act.put, List.setIfInBounds_toArray, List.set_cons_succ, List.set_cons_zero])
      (refine Th.wpAnyK_takeY (i := 20) (v := ?_) rfl (by decide +kernel) (by decide +kernel) (by decide +kernel) (by decide) (fun _ _ _ h => h) (Or.inl ⟨by rfl, ?_⟩) (.inr ⟨⟨v2, hbv2⟩, rfl⟩) ?_; rotate_left; (intro w; go_simp); (try with_reducible rfl))
      (try simp only [List.getElem_toArray, List.getElem_cons_succ, List.getElem_cons_zero, Act.put, List.setIfInBounds_toArray, List.set_cons_succ, List.set_cons_zero])
      (refine Th.wpAnyK_takeY (i := 21) (v := ?_) rfl (by decide +kernel) (by decide +kernel) (by decide +kernel) (by decide) (fun _ _ _ h => h) (Or.inl ⟨by rfl, ?_⟩) (.inr ⟨⟨v2, hbv2⟩, rfl⟩) ?_; rotate_left; (intro w; go_simp); (try with_reducible rfl))
      (try simp only [List.getElem_toArray, List.getElem_cons_succ, List.getElem_cons_zero, Act.put, List.setIfInBounds_toArray, List.set_cons_succ, List.set_cons_zero])
      (refine Th.wpAnyK_takeY (i := 22) (v := ?_) rfl (by decide +kernel) (by decide +kernel) (by decide +kernel) (by decide) (fun _ _ _ h => h) (Or.inl ⟨by rfl, ?_⟩) (.inr ⟨⟨v2, hbv2⟩, rfl⟩) ?_; rotate_left; (intro w; go_simp); (try with_reducible rfl))
      (try simp only [List.getElem_toArray, List.getElem_cons_succ, List.getElem_cons_zero, Act.put, List.setIfInBounds_toArray, List.set_cons_succ, List.set_cons_zero])
      (refine Th.wpAnyK_takeY (i := 23) (v := ?_) rfl (by decide +kernel) (by decide +kernel) (by decide +kernel) (by decide) (fun _ _ _ h => h) (Or.inl ⟨by rfl, ?_⟩) (.inr ⟨⟨v2, hbv2⟩, rfl⟩) ?_; rotate_left; (intro w; go_simp); (try with_reducible rfl))
      (try simp only [List.getElem_toArray, List.getElem_cons_succ, List.getElem_cons_zero, Act.put, List.setIfInBounds_toArray, List.set_cons_succ, List.set_cons_zero])
      (refine Th.wpAnyK_ready (rs := [25]) (by decide +kernel) (by simp) ?_; refine (Th.AllReadyK.cons rfl (fun K hK => ?_) Th.AllReadyK.nil))
      subst hZ
      refine step_of rfl ?_
      refine wp_store_row 46 (.tmp 8) (.tmp 48) rfl (wd.heap.size) #[.slice (some ⟨g', 0, none⟩) n C', .int .i64 (acc + 1), .bool (flt || !Mm.okD n 5 (nodeI t s (e % 4096) fi) 0)] rfl rfl 46 _ HZ.out infoM6 rfl (by kernel_rfl) ?_
      refine hK _ _ (.inl rfl) ?_
      clear hK K
      (try simp only [List.getElem_toArray, List.getElem_cons_succ, List.getElem_cons_zero, Act.put, List.setIfInBounds_toArray, List.set_cons_succ, List.set_cons_zero])
      (refine Th.wpAnyK_takeY (i := 26) (v := ?_) rfl (by decide +kernel) (by decide +kernel) (by decide +kernel) (by decide) (fun _ _ _ h => h) (Or.inl ⟨by rfl, ?_⟩) (.inl rfl) ?_; rotate_left; (intro w; go_simp); (try with_reducible rfl))
      (try simp only [List.getElem_toArray, List.getElem_cons_succ, List.getElem_cons_zero, Act.put, List.setIfInBounds_toArray, List.set_cons_succ, List.set_cons_zero])
      (refine Th.wpAnyK_takeY (i := 27) (v := ?_) rfl (by decide +kernel) (by decide +kernel) (by decide +kernel) (by decide) (fun _ _ _ h => h) (Or.inl ⟨by rfl, ?_⟩) (.inl rfl) ?_; rotate_left; (intro w; go_simp); (try with_reducible rfl))
      (try simp only [List.getElem_toArray, List.getElem_cons_succ, List.getElem_cons_zero, Act.put, List.setIfInBounds_toArray, List.set_cons_succ, List.set_cons_zero])
      refine Th.wpAnyK_done (by decide +kernel) ?_ _
      have hoth : ∀ jj, jj ≠ (wd.heap.size) → (v2.setRow (wd.heap.size) #[.slice (some ⟨g', 0, none⟩) n C', .int .i64 (acc + 1), .bool (flt || !Mm.okD n 5 (nodeI t s (e % 4096) fi) 0)]).heap[jj]? = v2.heap[jj]? := fun jj hj => setRow_other _ _ _ _ hj
      have hsz : (v2.setRow (wd.heap.size) #[.slice (some ⟨g', 0, none⟩) n C', .int .i64 (acc + 1), .bool (flt || !Mm.okD n 5 (nodeI t s (e % 4096) fi) 0)]).heap.size = v2.heap.size := by simp [World.setRow]
      have hzz : (v2.setRow (wd.heap.size) #[.slice (some ⟨g', 0, none⟩) n C', .int .i64 (acc + 1), .bool (flt || !Mm.okD n 5 (nodeI t s (e % 4096) fi) 0)]).heap[wd.heap.size]? = some (.cells #[.slice (some ⟨g', 0, none⟩) n C', .int .i64 (acc + 1), .bool (flt || !Mm.okD n 5 (nodeI t s (e % 4096) fi) 0)] 46 (0, 0)) := setRow_heap _ _ _ _ _ _ HZ.out
      have hos : (v2.setRow (wd.heap.size) #[.slice (some ⟨g', 0, none⟩) n C', .int .i64 (acc + 1), .bool (flt || !Mm.okD n 5 (nodeI t s (e % 4096) fi) 0)]).os = v2.os ∧ (v2.setRow (wd.heap.size) #[.slice (some ⟨g', 0, none⟩) n C', .int .i64 (acc + 1), .bool (flt || !Mm.okD n 5 (nodeI t s (e % 4096) fi) 0)]).tape = v2.tape ∧ (v2.setRow (wd.heap.size) #[.slice (some ⟨g', 0, none⟩) n C', .int .i64 (acc + 1), .bool (flt || !Mm.okD n 5 (nodeI t s (e % 4096) fi) 0)]).output = v2.output := ⟨rfl, rfl, rfl⟩
      generalize hW : World.setRow _ _ _ = W
      rw [hW] at hoth hsz hzz hos
      have HBW := Lib.hid (show Below w1.heap.size w1 W from ⟨hos.1.trans hbv2.os, hos.2.1.trans hbv2.tape, hos.2.2.trans hbv2.output, by have := hbv2.size; omega, fun j hj => (hoth j (by omega)).trans (hbv2.block j hj)⟩)
      have HRW := Lib.hid (hrow.keep (by omega) (hoth _ hne))
      have z0 : W.cell? ⟨(wd.heap.size), 0, none⟩ = some (.slice (some ⟨g', 0, none⟩) n C') := Th.newcell hzz 0 _ rfl; have z1 : W.cell? ⟨(wd.heap.size), 1, none⟩ = some (.int .i64 (acc + 1)) := Th.newcell hzz 1 _ rfl; have z2 : W.cell? ⟨(wd.heap.size), 2, none⟩ = some (.bool (flt || !Mm.okD n 5 (nodeI t s (e % 4096) fi) 0)) := Th.newcell hzz 2 _ rfl
      have HCW := Lib.hid (Th.up HBW.out HBC.out); have HRBW := Lib.hid (Th.up HBW.out HBR.out)
      clear hW hoth hsz hos hrow HZ
      have HTH := Lib.hid (show W.there cb 3 3 from fun j hj => by
      match j, hj with
      | 0, _ => exact ⟨by rw [Th.newcell HCW.out 3 _ rfl]; rfl, frozen_of_row _ _ _ _ _ HCW.out⟩
      | 1, _ => exact ⟨by rw [Th.newcell HCW.out 4 _ rfl]; rfl, frozen_of_row _ _ _ _ _ HCW.out⟩
      | 2, _ => exact ⟨by rw [Th.newcell HCW.out 5 _ rfl]; rfl, frozen_of_row _ _ _ _ _ HCW.out⟩)
      have HBW1 := Lib.hid (below_on HB1.out HBW.out)
      go_upto_region 9 with (refine wpList_store_mid rfl 46 (.tmp 52) (.tmp 51) rfl cb 3 #[.slice (some ⟨g', 0, none⟩) n C', .int .i64 (acc + 1), .bool (flt || !Mm.okD n 5 (nodeI t s (e % 4096) fi) 0)] rfl rfl HTH.out infoM6 (by kernel_rfl) ?_)
      generalize hV : World.setCells _ _ _ _ = V
      have HV := Lib.hid (show V.heap[cb]? = some (.cells (mV t s Kc (.slice (some ⟨g', 0, none⟩) n C') (acc + 1) (flt || !Mm.okD n 5 (nodeI t s (e % 4096) fi) 0) gb gc sl odd) 51 (0, 0)) by rw [← hV]; have := heap_setCell_same _ cb 5 _ _ (.bool (flt || !Mm.okD n 5 (nodeI t s (e % 4096) fi) 0)) (heap_setCell_same _ cb 4 _ _ (.int .i64 (acc + 1)) (heap_setCell_same _ cb 3 _ _ (.slice (some ⟨g', 0, none⟩) n C') HCW.out)); exact this) --X (heap_setCell_same _ cb 4 _ _ _ (heap_setCell_same _ cb 3 _ _ _ HCW.out)))
      have hvo : ∀ j, j ≠ cb → V.heap[j]? = W.heap[j]? := fun j hj => by rw [← hV]; exact (heap_setCell_other _ ⟨cb, 5, none⟩ j _ hj).trans ((heap_setCell_other _ ⟨cb, 4, none⟩ j _ hj).trans (heap_setCell_other _ ⟨cb, 3, none⟩ j _ hj))
      have hvs : Below w.heap.size w V := by (rw [← hV]; have := HE1.out; have h := ((HBW1.out.setCell (p := ⟨cb, 3, none⟩) (by show w.heap.size ≤ cb; omega) (.slice (some ⟨g', 0, none⟩) n C')).setCell (p := ⟨cb, 4, none⟩) (by show w.heap.size ≤ cb; omega) (.int .i64 (acc + 1))).setCell (p := ⟨cb, 5, none⟩) (by show w.heap.size ≤ cb; omega) (.bool (flt || !Mm.okD n 5 (nodeI t s (e % 4096) fi) 0)); exact h)
      have hvz : V.heap.size = W.heap.size := by rw [← hV]; simp [World.setCells]
      have HRV := Lib.hid ((hvo rb (Ne.symm n13)).trans HRBW.out)
      have HRWV := Lib.hid (HRW.out.keep (by omega) (hvo g' (by have := HE1.out; have := HR.out.lt; have := Th.blk_lt HBC.out; rcases hg with e | e <;> omega)))
      clear hV z0 z1 z2
      obtain ⟨d, hdu, hdr⟩ := uM
      have HRG := Lib.hid (mV_range HV.out)
      have HDU := Lib.hid hdu; have HDR := Lib.hid hdr
      clear hdu hdr
      go_wp2_with (first | (refine wpList_load_mid rfl 51 (.tmp 2) rfl cb 0 rfl ((mV t s Kc (.slice (some ⟨g', 0, none⟩) n C') (acc + 1) (flt || !Mm.okD n 5 (nodeI t s (e % 4096) fi) 0) gb gc sl odd)).toList d HRG.out HDU.out HDR.out infoM ?_) | (refine wpList_store_row (by rfl) 51 (.tmp 4) (.tmp 53) (by rfl) rb (mV t s Kc (.slice (some ⟨g', 0, none⟩) n C') (acc + 1) (flt || !Mm.okD n 5 (nodeI t s (e % 4096) fi) 0) gb gc sl odd) (by rfl) (by rfl) 51 _ HRV.out infoM rfl (mV_one _ _ _ _ _ _ _ _ _ _ _ _) ?_))
      have hrw : (V.setRow rb (mV t s Kc (.slice (some ⟨g', 0, none⟩) n C') (acc + 1) (flt || !Mm.okD n 5 (nodeI t s (e % 4096) fi) 0) gb gc sl odd)).heap[rb]? = some (.cells (mV t s Kc (.slice (some ⟨g', 0, none⟩) n C') (acc + 1) (flt || !Mm.okD n 5 (nodeI t s (e % 4096) fi) 0) gb gc sl odd) 51 (0, 0)) := setRow_heap _ _ _ _ _ _ HRV.out
      refine bodyPost_ret (v := .tuple #[.agg (mV t s Kc (.slice (some ⟨g', 0, none⟩) n C') (acc + 1) (flt || !Mm.okD n 5 (nodeI t s (e % 4096) fi) 0) gb gc sl odd), .int .u64 (Mm.toldD n f 5 (nodeI t s (e % 4096) fi)), .bool (Mm.doneD n f 5 (nodeI t s (e % 4096) fi) 0 tm old)]) (fin16d (cs := ((mV t s Kc (.slice (some ⟨g', 0, none⟩) n C') (acc + 1) (flt || !Mm.okD n 5 (nodeI t s (e % 4096) fi) 0) gb gc sl odd)).toList) rfl _ _ (mV_range hrw) rfl rfl rfl) rfl ?_
      rw [HQ.out, HK.out]
      have hg' : g' = wg ∨ w.heap.size ≤ g' := by have := HB1.out.size; exact hg.imp id fun e => (by omega)
      have hgr : g' ≠ rb := by have := HE3.out; have := HR.out.lt; have := Th.blk_lt HBR.out; rcases hg with e | e <;> omega
      refine ⟨g', C', hg', rfl, HRWV.out.keep (by simp [World.setRow]) (setRow_other _ _ _ _ hgr), hc1, hc2, hvs.os, hvs.tape, hvs.output, by have := hvs.size; simpa [World.setRow] using this, fun j hj => (setRow_other _ _ _ _ (by have := HE3.out; omega)).trans (hvs.block j hj)⟩
  · go_upto_region 7 with fail
    have HK := Lib.hid hk
    clear o0 hk
    have n1 : 1 ≤ n := by have := HNN.out; omega
    have n2 : n ≤ 4096 := by have := HNN.out; omega
    refine Th.wp_region_K (fun w' => ∃ y : Ext w1, w' = y.w) 25 (by decide +kernel) ?_
    generalize hwd : World.drew w1 = wd
    have hbd : Below w1.heap.size w1 wd := by rw [← hwd]; exact (Below.refl _ _).drew
    clear hwd
    (refine Th.wpAnyK_takeY (i := 0) (v := ?_) rfl (by decide +kernel) (by decide +kernel) (by decide +kernel) (by decide) (fun _ _ _ h => h) (Or.inl ⟨by rfl, ?_⟩) (.inr ⟨⟨wd, hbd⟩, rfl⟩) ?_; rotate_left; (intro w; go_simp); (try with_reducible rfl))
    (try simp only [List.getElem_toArray, List.getElem_cons_succ, List.getElem_cons_zero, Act.put, List.setIfInBounds_toArray, List.set_cons_succ, List.set_cons_zero])
    (refine Th.wpAnyK_take (i := 1) (v := .agg #[.slice (some ⟨wg, 0, none⟩) n C, .int .i64 acc, .bool flt]) [19, 20, 21, 25] rfl (by decide +kernel) (by decide +kernel) (by decide +kernel) (by decide +kernel) (fun _ _ _ h => h) (Th.yields_loadK rfl 46 (.tmp 28) rfl rfl (by rintro _ ⟨y, rfl⟩; exact HLM.out y)) ⟨⟨wd, hbd⟩, rfl⟩ ?_)
    (try simp only [List.getElem_toArray, List.getElem_cons_succ, List.getElem_cons_zero, Act.put, List.setIfInBounds_toArray, List.set_cons_succ, List.set_cons_zero])
    (refine Th.wpAnyK_takeY (i := 2) (v := ?_) rfl (by decide +kernel) (by decide +kernel) (by decide +kernel) (by decide) (fun _ _ _ h => h) (Or.inl ⟨by rfl, ?_⟩) (.inr ⟨⟨wd, hbd⟩, rfl⟩) ?_; rotate_left; (intro w; go_simp); (try with_reducible rfl))
    (try simp only [List.getElem_toArray, List.getElem_cons_succ, List.getElem_cons_zero, Act.put, List.setIfInBounds_toArray, List.set_cons_succ, List.set_cons_zero])
    (refine Th.wpAnyK_takeY (i := 3) (v := ?_) rfl (by decide +kernel) (by decide +kernel) (by decide +kernel) (by decide) (fun _ _ _ h => h) (Or.inl ⟨by rfl, ?_⟩) (.inr ⟨⟨wd, hbd⟩, rfl⟩) ?_; rotate_left; (intro w; go_simp); (try with_reducible rfl))
    (try simp only [List.getElem_toArray, List.getElem_cons_succ, List.getElem_cons_zero, Act.put, List.setIfInBounds_toArray, List.set_cons_succ, List.set_cons_zero])
    (refine Th.wpAnyK_take (i := 4) (v := .agg #[.int .i64 t, .int .i64 s, .int .u64 Kc]) [11, 18, 19, 20, 21, 25] rfl (by decide +kernel) (by decide +kernel) (by decide +kernel) (by decide +kernel) (fun _ _ _ h => h) (Th.yields_loadK rfl 24 (.tmp 31) rfl rfl (by rintro _ ⟨y, rfl⟩; exact HLC.out y)) ⟨⟨wd, hbd⟩, rfl⟩ ?_)
    (try simp only [List.getElem_toArray, List.getElem_cons_succ, List.getElem_cons_zero, Act.put, List.setIfInBounds_toArray, List.set_cons_succ, List.set_cons_zero])
    (refine Th.wpAnyK_takeY (i := 5) (v := ?_) rfl (by decide +kernel) (by decide +kernel) (by decide +kernel) (by decide) (fun _ _ _ h => h) (Or.inl ⟨by rfl, ?_⟩) (.inr ⟨⟨wd, hbd⟩, rfl⟩) ?_; rotate_left; (intro w; go_simp); (try with_reducible rfl))
    (try simp only [List.getElem_toArray, List.getElem_cons_succ, List.getElem_cons_zero, Act.put, List.setIfInBounds_toArray, List.set_cons_succ, List.set_cons_zero])
    (refine Th.wpAnyK_take (i := 6) (v := .int .u64 e) [7, 8, 11, 18, 19, 20, 21, 25] rfl (by decide +kernel) (by decide +kernel) (by decide +kernel) (by decide +kernel) (fun _ _ _ h => h) (Th.yields_loadK rfl 22 (.tmp 33) rfl rfl (by rintro _ ⟨y, rfl⟩; exact HL2.out y)) ⟨⟨wd, hbd⟩, rfl⟩ ?_)
    (try simp only [List.getElem_toArray, List.getElem_cons_succ, List.getElem_cons_zero, Act.put, List.setIfInBounds_toArray, List.set_cons_succ, List.set_cons_zero])
    (refine Th.wpAnyK_takeY (i := 7) (v := ?_) rfl (by decide +kernel) (by decide +kernel) (by decide +kernel) (by decide) (fun _ _ _ h => h) (Or.inl ⟨by rfl, ?_⟩) (.inr ⟨⟨wd, hbd⟩, rfl⟩) ?_; rotate_left; (intro w; go_simp); (try with_reducible rfl))
    (try simp only [List.getElem_toArray, List.getElem_cons_succ, List.getElem_cons_zero, Act.put, List.setIfInBounds_toArray, List.set_cons_succ, List.set_cons_zero])
    (refine Th.wpAnyK_takeY (i := 8) (v := ?_) rfl (by decide +kernel) (by decide +kernel) (by decide +kernel) (by decide) (fun _ _ _ h => h) (Or.inl ⟨by rfl, ?_⟩) (.inr ⟨⟨wd, hbd⟩, rfl⟩) ?_; rotate_left; (intro w; go_simp); (try with_reducible rfl))
    (try simp only [List.getElem_toArray, List.getElem_cons_succ, List.getElem_cons_zero, Act.put, List.setIfInBounds_toArray, List.set_cons_succ, List.set_cons_zero])
    (refine Th.wpAnyK_takeY (i := 9) (v := ?_) rfl (by decide +kernel) (by decide +kernel) (by decide +kernel) (by decide) (fun _ _ _ h => h) (Or.inl ⟨by rfl, ?_⟩) (.inr ⟨⟨wd, hbd⟩, rfl⟩) ?_; rotate_left; (intro w; go_simp); (try with_reducible rfl))
    (try simp only [List.getElem_toArray, List.getElem_cons_succ, List.getElem_cons_zero, Act.put, List.setIfInBounds_toArray, List.set_cons_succ, List.set_cons_zero])
    (refine Th.wpAnyK_take (i := 10) (v := .int .i64 fi) [11, 18, 19, 20, 21, 25] rfl (by decide +kernel) (by decide +kernel) (by decide +kernel) (by decide +kernel) (fun _ _ _ h => h) (Th.yields_loadK rfl 3 (.tmp 37) rfl rfl (by rintro _ ⟨y, rfl⟩; exact HL1.out y)) ⟨⟨wd, hbd⟩, rfl⟩ ?_)
    (try simp only [List.getElem_toArray, List.getElem_cons_succ, List.getElem_cons_zero, Act.put, List.setIfInBounds_toArray, List.set_cons_succ, List.set_cons_zero])
    (refine Th.wpAnyK_takeY (i := 12) (v := ?_) rfl (by decide +kernel) (by decide +kernel) (by decide +kernel) (by decide) (fun _ _ _ h => h) (Or.inl ⟨by rfl, ?_⟩) (.inr ⟨⟨wd, hbd⟩, rfl⟩) ?_; rotate_left; (intro w; go_simp); (try with_reducible rfl))
    (try simp only [List.getElem_toArray, List.getElem_cons_succ, List.getElem_cons_zero, Act.put, List.setIfInBounds_toArray, List.set_cons_succ, List.set_cons_zero])
    (refine Th.wpAnyK_take (i := 13) (v := .int .u64 tm) [18, 19, 20, 21, 25] rfl (by decide +kernel) (by decide +kernel) (by decide +kernel) (by decide +kernel) (fun _ _ _ h => h) (Th.yields_loadK rfl 22 (.tmp 40) rfl rfl (by rintro _ ⟨y, rfl⟩; exact HL3.out y)) ⟨⟨wd, hbd⟩, rfl⟩ ?_)
    (try simp only [List.getElem_toArray, List.getElem_cons_succ, List.getElem_cons_zero, Act.put, List.setIfInBounds_toArray, List.set_cons_succ, List.set_cons_zero])
    (refine Th.wpAnyK_takeY (i := 14) (v := ?_) rfl (by decide +kernel) (by decide +kernel) (by decide +kernel) (by decide) (fun _ _ _ h => h) (Or.inl ⟨by rfl, ?_⟩) (.inr ⟨⟨wd, hbd⟩, rfl⟩) ?_; rotate_left; (intro w; go_simp); (try with_reducible rfl))
    (try simp only [List.getElem_toArray, List.getElem_cons_succ, List.getElem_cons_zero, Act.put, List.setIfInBounds_toArray, List.set_cons_succ, List.set_cons_zero])
    (refine Th.wpAnyK_take (i := 15) (v := .int .u64 old) [18, 19, 20, 21, 25] rfl (by decide +kernel) (by decide +kernel) (by decide +kernel) (by decide +kernel) (fun _ _ _ h => h) (Th.yields_loadK rfl 22 (.tmp 42) rfl rfl (by rintro _ ⟨y, rfl⟩; exact HL4.out y)) ⟨⟨wd, hbd⟩, rfl⟩ ?_)
    (try simp only [List.getElem_toArray, List.getElem_cons_succ, List.getElem_cons_zero, Act.put, List.setIfInBounds_toArray, List.set_cons_succ, List.set_cons_zero])
    (refine Th.wpAnyK_takeY (i := 16) (v := ?_) rfl (by decide +kernel) (by decide +kernel) (by decide +kernel) (by decide) (fun _ _ _ h => h) (Or.inl ⟨by rfl, ?_⟩) (.inr ⟨⟨wd, hbd⟩, rfl⟩) ?_; rotate_left; (intro w; go_simp); (try with_reducible rfl))
    (try simp only [List.getElem_toArray, List.getElem_cons_succ, List.getElem_cons_zero, Act.put, List.setIfInBounds_toArray, List.set_cons_succ, List.set_cons_zero])
    (refine Th.wpAnyK_take (i := 17) (v := .int .u64 x) [18, 19, 20, 21, 25] rfl (by decide +kernel) (by decide +kernel) (by decide +kernel) (by decide +kernel) (fun _ _ _ h => h) (Th.yields_loadK rfl 22 (.tmp 44) rfl rfl (by rintro _ ⟨y, rfl⟩; exact HL5.out y)) ⟨⟨wd, hbd⟩, rfl⟩ ?_)
    (try simp only [List.getElem_toArray, List.getElem_cons_succ, List.getElem_cons_zero, Act.put, List.setIfInBounds_toArray, List.set_cons_succ, List.set_cons_zero])
    (refine Th.wpAnyK_ready (rs := [11, 24]) (by decide +kernel) (by simp) ?_; refine (Th.AllReadyK.cons rfl (fun K hK => ?_) (Th.AllReadyK.cons rfl (fun K hK => ?_) Th.AllReadyK.nil)))
    · refine step_of rfl ?_
      go_step
      refine (rat t s Kc (e % 4096) fi wd t2 s2).mono ?_; rintro _ v0 ⟨rfl, hbv0⟩
      have hbv0 := below_on hbd hbv0
      refine hK _ _ (.inr ⟨⟨v0, hbv0⟩, rfl⟩) ?_
      clear hK K
      (try simp only [List.getElem_toArray, List.getElem_cons_succ, List.getElem_cons_zero, Act.put, List.setIfInBounds_toArray, List.set_cons_succ, List.set_cons_zero])
      (refine Th.wpAnyK_takeY (i := 18) (v := ?_) rfl (by decide +kernel) (by decide +kernel) (by decide +kernel) (by decide) (fun _ _ _ h => h) (Or.inl ⟨by rfl, ?_⟩) (.inr ⟨⟨v0, hbv0⟩, rfl⟩) ?_; rotate_left; (intro w; go_simp); (try with_reducible rfl))
      (try simp only [List.getElem_toArray, List.getElem_cons_succ, List.getElem_cons_zero, Act.put, List.setIfInBounds_toArray, List.set_cons_succ, List.set_cons_zero])
      (refine Th.wpAnyK_ready (rs := [19, 24]) (by decide +kernel) (by simp) ?_; refine (Th.AllReadyK.cons rfl (fun K hK => ?_) (Th.AllReadyK.cons rfl (fun K hK => ?_) Th.AllReadyK.nil)))
      · refine step_of rfl ?_
        go_step
        refine (Mm.rdo wg n C f acc 5 (nodeI t s (e % 4096) fi) 0 tm old x flt v0 (HR.out.below (below_on HB1.out hbv0)) n1 n2 nC cC a0 a1 RN.out x0 x1).mono ?_
        rintro _ v1 ⟨g', C', hg, rfl, hrow, hc1, hc2, hbv1⟩
        have hg : g' = wg ∨ w1.heap.size ≤ g' := by have := hbv0.size; exact hg.imp id fun e => (by omega)
        have hbv1 := below_on hbv0 hbv1
        refine hK _ _ (.inr ⟨⟨v1, hbv1⟩, rfl⟩) ?_
        clear hK K
        (try simp only [List.getElem_toArray, List.getElem_cons_succ, List.getElem_cons_zero, Act.put, List.setIfInBounds_toArray, List.set_cons_succ, List.set_cons_zero])
        (refine Th.wpAnyK_takeY (i := 20) (v := ?_) rfl (by decide +kernel) (by decide +kernel) (by decide +kernel) (by decide) (fun _ _ _ h => h) (Or.inl ⟨by rfl, ?_⟩) (.inr ⟨⟨v1, hbv1⟩, rfl⟩) ?_; rotate_left; (intro w; go_simp); (try with_reducible rfl))
        (try simp only [List.getElem_toArray, List.getElem_cons_succ, List.getElem_cons_zero, Act.put, List.setIfInBounds_toArray, List.set_cons_succ, List.set_cons_zero])
        (refine Th.wpAnyK_takeY (i := 21) (v := ?_) rfl (by decide +kernel) (by decide +kernel) (by decide +kernel) (by decide) (fun _ _ _ h => h) (Or.inl ⟨by rfl, ?_⟩) (.inr ⟨⟨v1, hbv1⟩, rfl⟩) ?_; rotate_left; (intro w; go_simp); (try with_reducible rfl))
        (try simp only [List.getElem_toArray, List.getElem_cons_succ, List.getElem_cons_zero, Act.put, List.setIfInBounds_toArray, List.set_cons_succ, List.set_cons_zero])
        (refine Th.wpAnyK_takeY (i := 22) (v := ?_) rfl (by decide +kernel) (by decide +kernel) (by decide +kernel) (by decide) (fun _ _ _ h => h) (Or.inl ⟨by rfl, ?_⟩) (.inr ⟨⟨v1, hbv1⟩, rfl⟩) ?_; rotate_left; (intro w; go_simp); (try with_reducible rfl))
        (try simp only [List.getElem_toArray, List.getElem_cons_succ, List.getElem_cons_zero, Act.put, List.setIfInBounds_toArray, List.set_cons_succ, List.set_cons_zero])
        (refine Th.wpAnyK_takeY (i := 23) (v := ?_) rfl (by decide +kernel) (by decide +kernel) (by decide +kernel) (by decide) (fun _ _ _ h => h) (Or.inl ⟨by rfl, ?_⟩) (.inr ⟨⟨v1, hbv1⟩, rfl⟩) ?_; rotate_left; (intro w; go_simp); (try with_reducible rfl))
        (try simp only [List.getElem_toArray, List.getElem_cons_succ, List.getElem_cons_zero, Act.put, List.setIfInBounds_toArray, List.set_cons_succ, List.set_cons_zero])
        (refine Th.wpAnyK_ready (rs := [24]) (by decide +kernel) (by simp) ?_; refine (Th.AllReadyK.cons rfl (fun K hK => ?_) Th.AllReadyK.nil))
        refine step_of rfl ?_
        go_step
        generalize hwe : World.alloc v1 _ = v2
        obtain ⟨hXv2, hbv2⟩ := Th.heapnewE hwe
        obtain ⟨Z, hZ⟩ : ∃ Z, Z = v1.heap.size := ⟨_, rfl⟩
        rw [← hZ] at hXv2; simp only [← hZ]
        have hZ1 : w1.heap.size ≤ Z := by have := hbv1.size; omega
        have hZ2 : Z < v2.heap.size := Th.blk_lt hXv2
        have hne : g' ≠ Z := by have := hrow.lt; omega
        have hrow := hrow.below hbv2
        have HZ := Lib.hid hXv2; clear hwe
        have hbv2 := below_on hbv1 hbv2
        refine hK _ _ (.inr ⟨⟨v2, hbv2⟩, rfl⟩) ?_
        clear hK K
        (try simp only [List.getElem_toArray, List.getElem_cons_succ, List.getElem_cons_zero, Act.put, List.setIfInBounds_toArray, List.set_cons_succ, List.set_cons_zero])
        (try simp only [← hZ])
        (refine Th.wpAnyK_ready (rs := [25]) (by decide +kernel) (by simp) ?_; refine (Th.AllReadyK.cons rfl (fun K hK => ?_) Th.AllReadyK.nil))
        subst hZ
        refine step_of rfl ?_
        refine wp_store_row 46 (.tmp 8) (.tmp 48) rfl (v1.heap.size) #[.slice (some ⟨g', 0, none⟩) n C', .int .i64 (acc + 1), .bool (flt || !Mm.okD n 5 (nodeI t s (e % 4096) fi) 0)] rfl rfl 46 _ HZ.out infoM6 rfl (by kernel_rfl) ?_
        refine hK _ _ (.inl rfl) ?_
        clear hK K
        (try simp only [List.getElem_toArray, List.getElem_cons_succ, List.getElem_cons_zero, Act.put, List.setIfInBounds_toArray, List.set_cons_succ, List.set_cons_zero])
        (refine Th.wpAnyK_takeY (i := 26) (v := ?_) rfl (by decide +kernel) (by decide +kernel) (by decide +kernel) (by decide) (fun _ _ _ h => h) (Or.inl ⟨by rfl, ?_⟩) (.inl rfl) ?_; rotate_left; (intro w; go_simp); (try with_reducible rfl))
        (try simp only [List.getElem_toArray, List.getElem_cons_succ, List.getElem_cons_zero, Act.put, List.setIfInBounds_toArray, List.set_cons_succ, List.set_cons_zero])
        (refine Th.wpAnyK_takeY (i := 27) (v := ?_) rfl (by decide +kernel) (by decide +kernel) (by decide +kernel) (by decide) (fun _ _ _ h => h) (Or.inl ⟨by rfl, ?_⟩) (.inl rfl) ?_; rotate_left; (intro w; go_simp); (try with_reducible rfl))
        (try simp only [List.getElem_toArray, List.getElem_cons_succ, List.getElem_cons_zero, Act.put, List.setIfInBounds_toArray, List.set_cons_succ, List.set_cons_zero])
        refine Th.wpAnyK_done (by decide +kernel) ?_ _
        have hoth : ∀ jj, jj ≠ (v1.heap.size) → (v2.setRow (v1.heap.size) #[.slice (some ⟨g', 0, none⟩) n C', .int .i64 (acc + 1), .bool (flt || !Mm.okD n 5 (nodeI t s (e % 4096) fi) 0)]).heap[jj]? = v2.heap[jj]? := fun jj hj => setRow_other _ _ _ _ hj
        have hsz : (v2.setRow (v1.heap.size) #[.slice (some ⟨g', 0, none⟩) n C', .int .i64 (acc + 1), .bool (flt || !Mm.okD n 5 (nodeI t s (e % 4096) fi) 0)]).heap.size = v2.heap.size := by simp [World.setRow]
        have hzz : (v2.setRow (v1.heap.size) #[.slice (some ⟨g', 0, none⟩) n C', .int .i64 (acc + 1), .bool (flt || !Mm.okD n 5 (nodeI t s (e % 4096) fi) 0)]).heap[v1.heap.size]? = some (.cells #[.slice (some ⟨g', 0, none⟩) n C', .int .i64 (acc + 1), .bool (flt || !Mm.okD n 5 (nodeI t s (e % 4096) fi) 0)] 46 (0, 0)) := setRow_heap _ _ _ _ _ _ HZ.out
        have hos : (v2.setRow (v1.heap.size) #[.slice (some ⟨g', 0, none⟩) n C', .int .i64 (acc + 1), .bool (flt || !Mm.okD n 5 (nodeI t s (e % 4096) fi) 0)]).os = v2.os ∧ (v2.setRow (v1.heap.size) #[.slice (some ⟨g', 0, none⟩) n C', .int .i64 (acc + 1), .bool (flt || !Mm.okD n 5 (nodeI t s (e % 4096) fi) 0)]).tape = v2.tape ∧ (v2.setRow (v1.heap.size) #[.slice (some ⟨g', 0, none⟩) n C', .int .i64 (acc + 1), .bool (flt || !Mm.okD n 5 (nodeI t s (e % 4096) fi) 0)]).output = v2.output := ⟨rfl, rfl, rfl⟩
        generalize hW : World.setRow _ _ _ = W
        rw [hW] at hoth hsz hzz hos
        have HBW := Lib.hid (show Below w1.heap.size w1 W from ⟨hos.1.trans hbv2.os, hos.2.1.trans hbv2.tape, hos.2.2.trans hbv2.output, by have := hbv2.size; omega, fun j hj => (hoth j (by omega)).trans (hbv2.block j hj)⟩)
        have HRW := Lib.hid (hrow.keep (by omega) (hoth _ hne))
        have z0 : W.cell? ⟨(v1.heap.size), 0, none⟩ = some (.slice (some ⟨g', 0, none⟩) n C') := Th.newcell hzz 0 _ rfl; have z1 : W.cell? ⟨(v1.heap.size), 1, none⟩ = some (.int .i64 (acc + 1)) := Th.newcell hzz 1 _ rfl; have z2 : W.cell? ⟨(v1.heap.size), 2, none⟩ = some (.bool (flt || !Mm.okD n 5 (nodeI t s (e % 4096) fi) 0)) := Th.newcell hzz 2 _ rfl
        have HCW := Lib.hid (Th.up HBW.out HBC.out); have HRBW := Lib.hid (Th.up HBW.out HBR.out)
        clear hW hoth hsz hos hrow HZ
        have HTH := Lib.hid (show W.there cb 3 3 from fun j hj => by
        match j, hj with
        | 0, _ => exact ⟨by rw [Th.newcell HCW.out 3 _ rfl]; rfl, frozen_of_row _ _ _ _ _ HCW.out⟩
        | 1, _ => exact ⟨by rw [Th.newcell HCW.out 4 _ rfl]; rfl, frozen_of_row _ _ _ _ _ HCW.out⟩
        | 2, _ => exact ⟨by rw [Th.newcell HCW.out 5 _ rfl]; rfl, frozen_of_row _ _ _ _ _ HCW.out⟩)
        have HBW1 := Lib.hid (below_on HB1.out HBW.out)
        go_upto_region 9 with (refine wpList_store_mid rfl 46 (.tmp 52) (.tmp 51) rfl cb 3 #[.slice (some ⟨g', 0, none⟩) n C', .int .i64 (acc + 1), .bool (flt || !Mm.okD n 5 (nodeI t s (e % 4096) fi) 0)] rfl rfl HTH.out infoM6 (by kernel_rfl) ?_)
        generalize hV : World.setCells _ _ _ _ = V
        have HV := Lib.hid (show V.heap[cb]? = some (.cells (mV t s Kc (.slice (some ⟨g', 0, none⟩) n C') (acc + 1) (flt || !Mm.okD n 5 (nodeI t s (e % 4096) fi) 0) gb gc sl odd) 51 (0, 0)) by rw [← hV]; have := heap_setCell_same _ cb 5 _ _ (.bool (flt || !Mm.okD n 5 (nodeI t s (e % 4096) fi) 0)) (heap_setCell_same _ cb 4 _ _ (.int .i64 (acc + 1)) (heap_setCell_same _ cb 3 _ _ (.slice (some ⟨g', 0, none⟩) n C') HCW.out)); exact this) --X (heap_setCell_same _ cb 4 _ _ _ (heap_setCell_same _ cb 3 _ _ _ HCW.out)))
        have hvo : ∀ j, j ≠ cb → V.heap[j]? = W.heap[j]? := fun j hj => by rw [← hV]; exact (heap_setCell_other _ ⟨cb, 5, none⟩ j _ hj).trans ((heap_setCell_other _ ⟨cb, 4, none⟩ j _ hj).trans (heap_setCell_other _ ⟨cb, 3, none⟩ j _ hj))
        have hvs : Below w.heap.size w V := by (rw [← hV]; have := HE1.out; have h := ((HBW1.out.setCell (p := ⟨cb, 3, none⟩) (by show w.heap.size ≤ cb; omega) (.slice (some ⟨g', 0, none⟩) n C')).setCell (p := ⟨cb, 4, none⟩) (by show w.heap.size ≤ cb; omega) (.int .i64 (acc + 1))).setCell (p := ⟨cb, 5, none⟩) (by show w.heap.size ≤ cb; omega) (.bool (flt || !Mm.okD n 5 (nodeI t s (e % 4096) fi) 0)); exact h)
        have hvz : V.heap.size = W.heap.size := by rw [← hV]; simp [World.setCells]
        have HRV := Lib.hid ((hvo rb (Ne.symm n13)).trans HRBW.out)
        have HRWV := Lib.hid (HRW.out.keep (by omega) (hvo g' (by have := HE1.out; have := HR.out.lt; have := Th.blk_lt HBC.out; rcases hg with e | e <;> omega)))
        clear hV z0 z1 z2
        obtain ⟨d, hdu, hdr⟩ := uM
        have HRG := Lib.hid (mV_range HV.out)
        have HDU := Lib.hid hdu; have HDR := Lib.hid hdr
        clear hdu hdr
        go_wp2_with (first | (refine wpList_load_mid rfl 51 (.tmp 2) rfl cb 0 rfl ((mV t s Kc (.slice (some ⟨g', 0, none⟩) n C') (acc + 1) (flt || !Mm.okD n 5 (nodeI t s (e % 4096) fi) 0) gb gc sl odd)).toList d HRG.out HDU.out HDR.out infoM ?_) | (refine wpList_store_row (by rfl) 51 (.tmp 4) (.tmp 53) (by rfl) rb (mV t s Kc (.slice (some ⟨g', 0, none⟩) n C') (acc + 1) (flt || !Mm.okD n 5 (nodeI t s (e % 4096) fi) 0) gb gc sl odd) (by rfl) (by rfl) 51 _ HRV.out infoM rfl (mV_one _ _ _ _ _ _ _ _ _ _ _ _) ?_))
        have hrw : (V.setRow rb (mV t s Kc (.slice (some ⟨g', 0, none⟩) n C') (acc + 1) (flt || !Mm.okD n 5 (nodeI t s (e % 4096) fi) 0) gb gc sl odd)).heap[rb]? = some (.cells (mV t s Kc (.slice (some ⟨g', 0, none⟩) n C') (acc + 1) (flt || !Mm.okD n 5 (nodeI t s (e % 4096) fi) 0) gb gc sl odd) 51 (0, 0)) := setRow_heap _ _ _ _ _ _ HRV.out
        refine bodyPost_ret (v := .tuple #[.agg (mV t s Kc (.slice (some ⟨g', 0, none⟩) n C') (acc + 1) (flt || !Mm.okD n 5 (nodeI t s (e % 4096) fi) 0) gb gc sl odd), .int .u64 (Mm.toldD n f 5 (nodeI t s (e % 4096) fi)), .bool (Mm.doneD n f 5 (nodeI t s (e % 4096) fi) 0 tm old)]) (fin16d (cs := ((mV t s Kc (.slice (some ⟨g', 0, none⟩) n C') (acc + 1) (flt || !Mm.okD n 5 (nodeI t s (e % 4096) fi) 0) gb gc sl odd)).toList) rfl _ _ (mV_range hrw) rfl rfl rfl) rfl ?_
        rw [HQ.out, HK.out]
        have hg' : g' = wg ∨ w.heap.size ≤ g' := by have := HB1.out.size; exact hg.imp id fun e => (by omega)
        have hgr : g' ≠ rb := by have := HE3.out; have := HR.out.lt; have := Th.blk_lt HBR.out; rcases hg with e | e <;> omega
        refine ⟨g', C', hg', rfl, HRWV.out.keep (by simp [World.setRow]) (setRow_other _ _ _ _ hgr), hc1, hc2, hvs.os, hvs.tape, hvs.output, by have := hvs.size; simpa [World.setRow] using this, fun j hj => (setRow_other _ _ _ _ (by have := HE3.out; omega)).trans (hvs.block j hj)⟩
      · refine step_of rfl ?_
        go_step
        generalize hwe : World.alloc v0 _ = v1
        obtain ⟨hXv1, hbv1⟩ := Th.heapnewE hwe
        obtain ⟨Z, hZ⟩ : ∃ Z, Z = v0.heap.size := ⟨_, rfl⟩
        rw [← hZ] at hXv1; simp only [← hZ]
        have hZ1 : w1.heap.size ≤ Z := by have := hbv0.size; omega
        have hZ2 : Z < v1.heap.size := Th.blk_lt hXv1
        have HZ := Lib.hid hXv1; clear hwe
        have hbv1 := below_on hbv0 hbv1
        refine hK _ _ (.inr ⟨⟨v1, hbv1⟩, rfl⟩) ?_
        clear hK K
        (try simp only [List.getElem_toArray, List.getElem_cons_succ, List.getElem_cons_zero, Act.put, List.setIfInBounds_toArray, List.set_cons_succ, List.set_cons_zero])
        (try simp only [← hZ])
        (refine Th.wpAnyK_ready (rs := [19]) (by decide +kernel) (by simp) ?_; refine (Th.AllReadyK.cons rfl (fun K hK => ?_) Th.AllReadyK.nil))
        refine step_of rfl ?_
        go_step
        refine (Mm.rdo wg n C f acc 5 (nodeI t s (e % 4096) fi) 0 tm old x flt v1 (HR.out.below (below_on HB1.out hbv1)) n1 n2 nC cC a0 a1 RN.out x0 x1).mono ?_
        rintro _ v2 ⟨g', C', hg, rfl, hrow, hc1, hc2, hbv2⟩
        have HZ := Lib.hid (Th.up hbv2 HZ.out)
        have hne : g' ≠ Z := by have := HR.out.lt; have := HB1.out.size; have := hbv1.size; rcases hg with e | e <;> omega
        have hg : g' = wg ∨ w1.heap.size ≤ g' := by have := hbv1.size; exact hg.imp id fun e => (by omega)
        have hbv2 := below_on hbv1 hbv2
        refine hK _ _ (.inr ⟨⟨v2, hbv2⟩, rfl⟩) ?_
        clear hK K
        (try simp only [List.getElem_toArray, List.getElem_cons_succ, List.getElem_cons_zero, Act.put, List.setIfInBounds_toArray, List.set_cons_succ, List.set_cons_zero])
        (refine Th.wpAnyK_takeY (i := 20) (v := ?_) rfl (by decide +kernel) (by decide +kernel) (by decide +kernel) (by decide) (fun _ _ _ h => h) (Or.inl ⟨by rfl, ?_⟩) (.inr ⟨⟨v2, hbv2⟩, rfl⟩) ?_; rotate_left; (intro w; go_simp); (try with_reducible rfl))
        (try simp only [List.getElem_toArray, List.getElem_cons_succ, List.getElem_cons_zero, Act.put, List.setIfInBounds_toArray, List.set_cons_succ, List.set_cons_zero])
        (refine Th.wpAnyK_takeY (i := 21) (v := ?_) rfl (by decide +kernel) (by decide +kernel) (by decide +kernel) (by decide) (fun _ _ _ h => h) (Or.inl ⟨by rfl, ?_⟩) (.inr ⟨⟨v2, hbv2⟩, rfl⟩) ?_; rotate_left; (intro w; go_simp); (try with_reducible rfl))
        (try simp only [List.getElem_toArray, List.getElem_cons_succ, List.getElem_cons_zero, Act.put, List.setIfInBounds_toArray, List.set_cons_succ, List.set_cons_zero])
        (refine Th.wpAnyK_takeY (i := 22) (v := ?_) rfl (by decide +kernel) (by decide +kernel) (by decide +kernel) (by decide) (fun _ _ _ h => h) (Or.inl ⟨by rfl, ?_⟩) (.inr ⟨⟨v2, hbv2⟩, rfl⟩) ?_; rotate_left; (intro w; go_simp); (try with_reducible rfl))
        (try simp only [List.getElem_toArray, List.getElem_cons_succ, List.getElem_cons_zero, Act.put, List.setIfInBounds_toArray, List.set_cons_succ, List.set_cons_zero])
        (refine Th.wpAnyK_takeY (i := 23) (v := ?_) rfl (by decide +kernel) (by decide +kernel) (by decide +kernel) (by decide) (fun _ _ _ h => h) (Or.inl ⟨by rfl, ?_⟩) (.inr ⟨⟨v2, hbv2⟩, rfl⟩) ?_; rotate_left; (intro w; go_simp); (try with_reducible rfl))
        (try simp only [List.getElem_toArray, List.getElem_cons_succ, List.getElem_cons_zero, Act.put, List.setIfInBounds_toArray, List.set_cons_succ, List.set_cons_zero])
        (refine Th.wpAnyK_ready (rs := [25]) (by decide +kernel) (by simp) ?_; refine (Th.AllReadyK.cons rfl (fun K hK => ?_) Th.AllReadyK.nil))
        subst hZ
        refine step_of rfl ?_
        refine wp_store_row 46 (.tmp 8) (.tmp 48) rfl (v0.heap.size) #[.slice (some ⟨g', 0, none⟩) n C', .int .i64 (acc + 1), .bool (flt || !Mm.okD n 5 (nodeI t s (e % 4096) fi) 0)] rfl rfl 46 _ HZ.out infoM6 rfl (by kernel_rfl) ?_
        refine hK _ _ (.inl rfl) ?_
        clear hK K
        (try simp only [List.getElem_toArray, List.getElem_cons_succ, List.getElem_cons_zero, Act.put, List.setIfInBounds_toArray, List.set_cons_succ, List.set_cons_zero])
        (refine Th.wpAnyK_takeY (i := 26) (v := ?_) rfl (by decide +kernel) (by decide +kernel) (by decide +kernel) (by decide) (fun _ _ _ h => h) (Or.inl ⟨by rfl, ?_⟩) (.inl rfl) ?_; rotate_left; (intro w; go_simp); (try with_reducible rfl))
        (try simp only [List.getElem_toArray, List.getElem_cons_succ, List.getElem_cons_zero, Act.put, List.setIfInBounds_toArray, List.set_cons_succ, List.set_cons_zero])
        (refine Th.wpAnyK_takeY (i := 27) (v := ?_) rfl (by decide +kernel) (by decide +kernel) (by decide +kernel) (by decide) (fun _ _ _ h => h) (Or.inl ⟨by rfl, ?_⟩) (.inl rfl) ?_; rotate_left; (intro w; go_simp); (try with_reducible rfl))
        (try simp only [List.getElem_toArray, List.getElem_cons_succ, List.getElem_cons_zero, Act.put, List.setIfInBounds_toArray, List.set_cons_succ, List.set_cons_zero])
        refine Th.wpAnyK_done (by decide +kernel) ?_ _
        have hoth : ∀ jj, jj ≠ (v0.heap.size) → (v2.setRow (v0.heap.size) #[.slice (some ⟨g', 0, none⟩) n C', .int .i64 (acc + 1), .bool (flt || !Mm.okD n 5 (nodeI t s (e % 4096) fi) 0)]).heap[jj]? = v2.heap[jj]? := fun jj hj => setRow_other _ _ _ _ hj
        have hsz : (v2.setRow (v0.heap.size) #[.slice (some ⟨g', 0, none⟩) n C', .int .i64 (acc + 1), .bool (flt || !Mm.okD n 5 (nodeI t s (e % 4096) fi) 0)]).heap.size = v2.heap.size := by simp [World.setRow]
        have hzz : (v2.setRow (v0.heap.size) #[.slice (some ⟨g', 0, none⟩) n C', .int .i64 (acc + 1), .bool (flt || !Mm.okD n 5 (nodeI t s (e % 4096) fi) 0)]).heap[v0.heap.size]? = some (.cells #[.slice (some ⟨g', 0, none⟩) n C', .int .i64 (acc + 1), .bool (flt || !Mm.okD n 5 (nodeI t s (e % 4096) fi) 0)] 46 (0, 0)) := setRow_heap _ _ _ _ _ _ HZ.out
        have hos : (v2.setRow (v0.heap.size) #[.slice (some ⟨g', 0, none⟩) n C', .int .i64 (acc + 1), .bool (flt || !Mm.okD n 5 (nodeI t s (e % 4096) fi) 0)]).os = v2.os ∧ (v2.setRow (v0.heap.size) #[.slice (some ⟨g', 0, none⟩) n C', .int .i64 (acc + 1), .bool (flt || !Mm.okD n 5 (nodeI t s (e % 4096) fi) 0)]).tape = v2.tape ∧ (v2.setRow (v0.heap.size) #[.slice (some ⟨g', 0, none⟩) n C', .int .i64 (acc + 1), .bool (flt || !Mm.okD n 5 (nodeI t s (e % 4096) fi) 0)]).output = v2.output := ⟨rfl, rfl, rfl⟩
        generalize hW : World.setRow _ _ _ = W
        rw [hW] at hoth hsz hzz hos
        have HBW := Lib.hid (show Below w1.heap.size w1 W from ⟨hos.1.trans hbv2.os, hos.2.1.trans hbv2.tape, hos.2.2.trans hbv2.output, by have := hbv2.size; omega, fun j hj => (hoth j (by omega)).trans (hbv2.block j hj)⟩)
        have HRW := Lib.hid (hrow.keep (by omega) (hoth _ hne))
        have z0 : W.cell? ⟨(v0.heap.size), 0, none⟩ = some (.slice (some ⟨g', 0, none⟩) n C') := Th.newcell hzz 0 _ rfl; have z1 : W.cell? ⟨(v0.heap.size), 1, none⟩ = some (.int .i64 (acc + 1)) := Th.newcell hzz 1 _ rfl; have z2 : W.cell? ⟨(v0.heap.size), 2, none⟩ = some (.bool (flt || !Mm.okD n 5 (nodeI t s (e % 4096) fi) 0)) := Th.newcell hzz 2 _ rfl
        have HCW := Lib.hid (Th.up HBW.out HBC.out); have HRBW := Lib.hid (Th.up HBW.out HBR.out)
        clear hW hoth hsz hos hrow HZ
        have HTH := Lib.hid (show W.there cb 3 3 from fun j hj => by
        match j, hj with
        | 0, _ => exact ⟨by rw [Th.newcell HCW.out 3 _ rfl]; rfl, frozen_of_row _ _ _ _ _ HCW.out⟩
        | 1, _ => exact ⟨by rw [Th.newcell HCW.out 4 _ rfl]; rfl, frozen_of_row _ _ _ _ _ HCW.out⟩
        | 2, _ => exact ⟨by rw [Th.newcell HCW.out 5 _ rfl]; rfl, frozen_of_row _ _ _ _ _ HCW.out⟩)
        have HBW1 := Lib.hid (below_on HB1.out HBW.out)
        go_upto_region 9 with (refine wpList_store_mid rfl 46 (.tmp 52) (.tmp 51) rfl cb 3 #[.slice (some ⟨g', 0, none⟩) n C', .int .i64 (acc + 1), .bool (flt || !Mm.okD n 5 (nodeI t s (e % 4096) fi) 0)] rfl rfl HTH.out infoM6 (by kernel_rfl) ?_)
        generalize hV : World.setCells _ _ _ _ = V
        have HV := Lib.hid (show V.heap[cb]? = some (.cells (mV t s Kc (.slice (some ⟨g', 0, none⟩) n C') (acc + 1) (flt || !Mm.okD n 5 (nodeI t s (e % 4096) fi) 0) gb gc sl odd) 51 (0, 0)) by rw [← hV]; have := heap_setCell_same _ cb 5 _ _ (.bool (flt || !Mm.okD n 5 (nodeI t s (e % 4096) fi) 0)) (heap_setCell_same _ cb 4 _ _ (.int .i64 (acc + 1)) (heap_setCell_same _ cb 3 _ _ (.slice (some ⟨g', 0, none⟩) n C') HCW.out)); exact this) --X (heap_setCell_same _ cb 4 _ _ _ (heap_setCell_same _ cb 3 _ _ _ HCW.out)))
        have hvo : ∀ j, j ≠ cb → V.heap[j]? = W.heap[j]? := fun j hj => by rw [← hV]; exact (heap_setCell_other _ ⟨cb, 5, none⟩ j _ hj).trans ((heap_setCell_other _ ⟨cb, 4, none⟩ j _ hj).trans (heap_setCell_other _ ⟨cb, 3, none⟩ j _ hj))
        have hvs : Below w.heap.size w V := by (rw [← hV]; have := HE1.out; have h := ((HBW1.out.setCell (p := ⟨cb, 3, none⟩) (by show w.heap.size ≤ cb; omega) (.slice (some ⟨g', 0, none⟩) n C')).setCell (p := ⟨cb, 4, none⟩) (by show w.heap.size ≤ cb; omega) (.int .i64 (acc + 1))).setCell (p := ⟨cb, 5, none⟩) (by show w.heap.size ≤ cb; omega) (.bool (flt || !Mm.okD n 5 (nodeI t s (e % 4096) fi) 0)); exact h)
        have hvz : V.heap.size = W.heap.size := by rw [← hV]; simp [World.setCells]
        have HRV := Lib.hid ((hvo rb (Ne.symm n13)).trans HRBW.out)
        have HRWV := Lib.hid (HRW.out.keep (by omega) (hvo g' (by have := HE1.out; have := HR.out.lt; have := Th.blk_lt HBC.out; rcases hg with e | e <;> omega)))
        clear hV z0 z1 z2
        obtain ⟨d, hdu, hdr⟩ := uM
        have HRG := Lib.hid (mV_range HV.out)
        have HDU := Lib.hid hdu; have HDR := Lib.hid hdr
        clear hdu hdr
        go_wp2_with (first | (refine wpList_load_mid rfl 51 (.tmp 2) rfl cb 0 rfl ((mV t s Kc (.slice (some ⟨g', 0, none⟩) n C') (acc + 1) (flt || !Mm.okD n 5 (nodeI t s (e % 4096) fi) 0) gb gc sl odd)).toList d HRG.out HDU.out HDR.out infoM ?_) | (refine wpList_store_row (by rfl) 51 (.tmp 4) (.tmp 53) (by rfl) rb (mV t s Kc (.slice (some ⟨g', 0, none⟩) n C') (acc + 1) (flt || !Mm.okD n 5 (nodeI t s (e % 4096) fi) 0) gb gc sl odd) (by rfl) (by rfl) 51 _ HRV.out infoM rfl (mV_one _ _ _ _ _ _ _ _ _ _ _ _) ?_))
        have hrw : (V.setRow rb (mV t s Kc (.slice (some ⟨g', 0, none⟩) n C') (acc + 1) (flt || !Mm.okD n 5 (nodeI t s (e % 4096) fi) 0) gb gc sl odd)).heap[rb]? = some (.cells (mV t s Kc (.slice (some ⟨g', 0, none⟩) n C') (acc + 1) (flt || !Mm.okD n 5 (nodeI t s (e % 4096) fi) 0) gb gc sl odd) 51 (0, 0)) := setRow_heap _ _ _ _ _ _ HRV.out
        refine bodyPost_ret (v := .tuple #[.agg (mV t s Kc (.slice (some ⟨g', 0, none⟩) n C') (acc + 1) (flt || !Mm.okD n 5 (nodeI t s (e % 4096) fi) 0) gb gc sl odd), .int .u64 (Mm.toldD n f 5 (nodeI t s (e % 4096) fi)), .bool (Mm.doneD n f 5 (nodeI t s (e % 4096) fi) 0 tm old)]) (fin16d (cs := ((mV t s Kc (.slice (some ⟨g', 0, none⟩) n C') (acc + 1) (flt || !Mm.okD n 5 (nodeI t s (e % 4096) fi) 0) gb gc sl odd)).toList) rfl _ _ (mV_range hrw) rfl rfl rfl) rfl ?_
        rw [HQ.out, HK.out]
        have hg' : g' = wg ∨ w.heap.size ≤ g' := by have := HB1.out.size; exact hg.imp id fun e => (by omega)
        have hgr : g' ≠ rb := by have := HE3.out; have := HR.out.lt; have := Th.blk_lt HBR.out; rcases hg with e | e <;> omega
        refine ⟨g', C', hg', rfl, HRWV.out.keep (by simp [World.setRow]) (setRow_other _ _ _ _ hgr), hc1, hc2, hvs.os, hvs.tape, hvs.output, by have := hvs.size; simpa [World.setRow] using this, fun j hj => (setRow_other _ _ _ _ (by have := HE3.out; omega)).trans (hvs.block j hj)⟩
    · refine step_of rfl ?_
      go_step
      generalize hwe : World.alloc wd _ = v0
      obtain ⟨hXv0, hbv0⟩ := Th.heapnewE hwe
      obtain ⟨Z, hZ⟩ : ∃ Z, Z = wd.heap.size := ⟨_, rfl⟩
      rw [← hZ] at hXv0; simp only [← hZ]
      have hZ1 : w1.heap.size ≤ Z := by have := hbd.size; omega
      have hZ2 : Z < v0.heap.size := Th.blk_lt hXv0
      have HZ := Lib.hid hXv0; clear hwe
      have hbv0 := below_on hbd hbv0
      refine hK _ _ (.inr ⟨⟨v0, hbv0⟩, rfl⟩) ?_
      clear hK K
      (try simp only [List.getElem_toArray, List.getElem_cons_succ, List.getElem_cons_zero, Act.put, List.setIfInBounds_toArray, List.set_cons_succ, List.set_cons_zero])
      (try simp only [← hZ])
      (refine Th.wpAnyK_ready (rs := [11]) (by decide +kernel) (by simp) ?_; refine (Th.AllReadyK.cons rfl (fun K hK => ?_) Th.AllReadyK.nil))
      refine step_of rfl ?_
      go_step
      refine (rat t s Kc (e % 4096) fi v0 t2 s2).mono ?_; rintro _ v1 ⟨rfl, hbv1⟩
      have HZ := Lib.hid (Th.up hbv1 HZ.out)
      have hZ2 := Nat.lt_of_lt_of_le hZ2 hbv1.size
      have hbv1 := below_on hbv0 hbv1
      refine hK _ _ (.inr ⟨⟨v1, hbv1⟩, rfl⟩) ?_
      clear hK K
      (try simp only [List.getElem_toArray, List.getElem_cons_succ, List.getElem_cons_zero, Act.put, List.setIfInBounds_toArray, List.set_cons_succ, List.set_cons_zero])
      (refine Th.wpAnyK_takeY (i := 18) (v := ?_) rfl (by decide +kernel) (by decide +kernel) (by decide +kernel) (by decide) (fun _ _ _ h => h) (Or.inl ⟨by rfl, ?_⟩) (.inr ⟨⟨v1, hbv1⟩, rfl⟩) ?_; rotate_left; (intro w; go_simp); (try with_reducible rfl))
      (try simp only [List.getElem_toArray, List.getElem_cons_succ, List.getElem_cons_zero, Act.put, List.setIfInBounds_toArray, List.set_cons_succ, List.set_cons_zero])
      (refine Th.wpAnyK_ready (rs := [19]) (by decide +kernel) (by simp) ?_; refine (Th.AllReadyK.cons rfl (fun K hK => ?_) Th.AllReadyK.nil))
      refine step_of rfl ?_
      go_step
      refine (Mm.rdo wg n C f acc 5 (nodeI t s (e % 4096) fi) 0 tm old x flt v1 (HR.out.below (below_on HB1.out hbv1)) n1 n2 nC cC a0 a1 RN.out x0 x1).mono ?_
      rintro _ v2 ⟨g', C', hg, rfl, hrow, hc1, hc2, hbv2⟩
      have HZ := Lib.hid (Th.up hbv2 HZ.out)
      have hne : g' ≠ Z := by have := HR.out.lt; have := HB1.out.size; have := hbv1.size; rcases hg with e | e <;> omega
      have hg : g' = wg ∨ w1.heap.size ≤ g' := by have := hbv1.size; exact hg.imp id fun e => (by omega)
      have hbv2 := below_on hbv1 hbv2
      refine hK _ _ (.inr ⟨⟨v2, hbv2⟩, rfl⟩) ?_
      clear hK K
      (try simp only [List.getElem_toArray, List.getElem_cons_succ, List.getElem_cons_zero, Act.put, List.setIfInBounds_toArray, List.set_cons_succ, List.set_cons_zero])
      (refine Th.wpAnyK_takeY (i := 20) (v := ?_) rfl (by decide +kernel) (by decide +kernel) (by decide +kernel) (by decide) (fun _ _ _ h => h) (Or.inl ⟨by rfl, ?_⟩) (.inr ⟨⟨v2, hbv2⟩, rfl⟩) ?_; rotate_left; (intro w; go_simp); (try with_reducible rfl))
      (try simp only [List.getElem_toArray, List.getElem_cons_succ, List.getElem_cons_zero, Act.put, List.setIfInBounds_toArray, List.set_cons_succ, List.set_cons_zero])
      (refine Th.wpAnyK_takeY (i := 21) (v := ?_) rfl (by decide +kernel) (by decide +kernel) (by decide +kernel) (by decide) (fun _ _ _ h => h) (Or.inl ⟨by rfl, ?_⟩) (.inr ⟨⟨v2, hbv2⟩, rfl⟩) ?_; rotate_left; (intro w; go_simp); (try with_reducible rfl))
      (try simp only [List.getElem_toArray, List.getElem_cons_succ, List.getElem_cons_zero, Act.put, List.setIfInBounds_toArray, List.set_cons_succ, List.set_cons_zero])
      (refine Th.wpAnyK_takeY (i := 22) (v := ?_) rfl (by decide +kernel) (by decide +kernel) (by decide +kernel) (by decide) (fun _ _ _ h => h) (Or.inl ⟨by rfl, ?_⟩) (.inr ⟨⟨v2, hbv2⟩, rfl⟩) ?_; rotate_left; (intro w; go_simp); (try with_reducible rfl))
      (try simp only [List.getElem_toArray, List.getElem_cons_succ, List.getElem_cons_zero, Act.put, List.setIfInBounds_toArray, List.set_cons_succ, List.set_cons_zero])
      (refine Th.wpAnyK_takeY (i := 23) (v := ?_) rfl (by decide +kernel) (by decide +kernel) (by decide +kernel) (by decide) (fun _ _ _ h => h) (Or.inl ⟨by rfl, ?_⟩) (.inr ⟨⟨v2, hbv2⟩, rfl⟩) ?_; rotate_left; (intro w; go_simp); (try with_reducible rfl))
      (try simp only [List.getElem_toArray, List.getElem_cons_succ, List.getElem_cons_zero, Act.put, List.setIfInBounds_toArray, List.set_cons_succ, List.set_cons_zero])
      (refine Th.wpAnyK_ready (rs := [25]) (by decide +kernel) (by simp) ?_; refine (Th.AllReadyK.cons rfl (fun K hK => ?_) Th.AllReadyK.nil))
      subst hZ
      refine step_of rfl ?_
      refine wp_store_row 46 (.tmp 8) (.tmp 48) rfl (wd.heap.size) #[.slice (some ⟨g', 0, none⟩) n C', .int .i64 (acc + 1), .bool (flt || !Mm.okD n 5 (nodeI t s (e % 4096) fi) 0)] rfl rfl 46 _ HZ.out infoM6 rfl (by kernel_rfl) ?_
      refine hK _ _ (.inl rfl) ?_
      clear hK K
      (try simp only [List.getElem_toArray, List.getElem_cons_succ, List.getElem_cons_zero, Act.put, List.setIfInBounds_toArray, List.set_cons_succ, List.set_cons_zero])
      (refine Th.wpAnyK_takeY (i := 26) (v := ?_) rfl (by decide +kernel) (by decide +kernel) (by decide +kernel) (by decide) (fun _ _ _ h => h) (Or.inl ⟨by rfl, ?_⟩) (.inl rfl) ?_; rotate_left; (intro w; go_simp); (try with_reducible rfl))
      (try simp only [List.getElem_toArray, List.getElem_cons_succ, List.getElem_cons_zero, Act.put, List.setIfInBounds_toArray, List.set_cons_succ, List.set_cons_zero])
      (refine Th.wpAnyK_takeY (i := 27) (v := ?_) rfl (by decide +kernel) (by decide +kernel) (by decide +kernel) (by decide) (fun _ _ _ h => h) (Or.inl ⟨by rfl, ?_⟩) (.inl rfl) ?_; rotate_left; (intro w; go_simp); (try with_reducible rfl))
      (try simp only [List.getElem_toArray, List.getElem_cons_succ, List.getElem_cons_zero, Act.put, List.setIfInBounds_toArray, List.set_cons_succ, List.set_cons_zero])
      refine Th.wpAnyK_done (by decide +kernel) ?_ _
      have hoth : ∀ jj, jj ≠ (wd.heap.size) → (v2.setRow (wd.heap.size) #[.slice (some ⟨g', 0, none⟩) n C', .int .i64 (acc + 1), .bool (flt || !Mm.okD n 5 (nodeI t s (e % 4096) fi) 0)]).heap[jj]? = v2.heap[jj]? := fun jj hj => setRow_other _ _ _ _ hj
      have hsz : (v2.setRow (wd.heap.size) #[.slice (some ⟨g', 0, none⟩) n C', .int .i64 (acc + 1), .bool (flt || !Mm.okD n 5 (nodeI t s (e % 4096) fi) 0)]).heap.size = v2.heap.size := by simp [World.setRow]
      have hzz : (v2.setRow (wd.heap.size) #[.slice (some ⟨g', 0, none⟩) n C', .int .i64 (acc + 1), .bool (flt || !Mm.okD n 5 (nodeI t s (e % 4096) fi) 0)]).heap[wd.heap.size]? = some (.cells #[.slice (some ⟨g', 0, none⟩) n C', .int .i64 (acc + 1), .bool (flt || !Mm.okD n 5 (nodeI t s (e % 4096) fi) 0)] 46 (0, 0)) := setRow_heap _ _ _ _ _ _ HZ.out
      have hos : (v2.setRow (wd.heap.size) #[.slice (some ⟨g', 0, none⟩) n C', .int .i64 (acc + 1), .bool (flt || !Mm.okD n 5 (nodeI t s (e % 4096) fi) 0)]).os = v2.os ∧ (v2.setRow (wd.heap.size) #[.slice (some ⟨g', 0, none⟩) n C', .int .i64 (acc + 1), .bool (flt || !Mm.okD n 5 (nodeI t s (e % 4096) fi) 0)]).tape = v2.tape ∧ (v2.setRow (wd.heap.size) #[.slice (some ⟨g', 0, none⟩) n C', .int .i64 (acc + 1), .bool (flt || !Mm.okD n 5 (nodeI t s (e % 4096) fi) 0)]).output = v2.output := ⟨rfl, rfl, rfl⟩
      generalize hW : World.setRow _ _ _ = W
      rw [hW] at hoth hsz hzz hos
      have HBW := Lib.hid (show Below w1.heap.size w1 W from ⟨hos.1.trans hbv2.os, hos.2.1.trans hbv2.tape, hos.2.2.trans hbv2.output, by have := hbv2.size; omega, fun j hj => (hoth j (by omega)).trans (hbv2.block j hj)⟩)
      have HRW := Lib.hid (hrow.keep (by omega) (hoth _ hne))
      have z0 : W.cell? ⟨(wd.heap.size), 0, none⟩ = some (.slice (some ⟨g', 0, none⟩) n C') := Th.newcell hzz 0 _ rfl; have z1 : W.cell? ⟨(wd.heap.size), 1, none⟩ = some (.int .i64 (acc + 1)) := Th.newcell hzz 1 _ rfl; have z2 : W.cell? ⟨(wd.heap.size), 2, none⟩ = some (.bool (flt || !Mm.okD n 5 (nodeI t s (e % 4096) fi) 0)) := Th.newcell hzz 2 _ rfl
      have HCW := Lib.hid (Th.up HBW.out HBC.out); have HRBW := Lib.hid (Th.up HBW.out HBR.out)
      clear hW hoth hsz hos hrow HZ
      have HTH := Lib.hid (show W.there cb 3 3 from fun j hj => by
      match j, hj with
      | 0, _ => exact ⟨by rw [Th.newcell HCW.out 3 _ rfl]; rfl, frozen_of_row _ _ _ _ _ HCW.out⟩
      | 1, _ => exact ⟨by rw [Th.newcell HCW.out 4 _ rfl]; rfl, frozen_of_row _ _ _ _ _ HCW.out⟩
      | 2, _ => exact ⟨by rw [Th.newcell HCW.out 5 _ rfl]; rfl, frozen_of_row _ _ _ _ _ HCW.out⟩)
      have HBW1 := Lib.hid (below_on HB1.out HBW.out)
      go_upto_region 9 with (refine wpList_store_mid rfl 46 (.tmp 52) (.tmp 51) rfl cb 3 #[.slice (some ⟨g', 0, none⟩) n C', .int .i64 (acc + 1), .bool (flt || !Mm.okD n 5 (nodeI t s (e % 4096) fi) 0)] rfl rfl HTH.out infoM6 (by kernel_rfl) ?_)
      generalize hV : World.setCells _ _ _ _ = V
      have HV := Lib.hid (show V.heap[cb]? = some (.cells (mV t s Kc (.slice (some ⟨g', 0, none⟩) n C') (acc + 1) (flt || !Mm.okD n 5 (nodeI t s (e % 4096) fi) 0) gb gc sl odd) 51 (0, 0)) by rw [← hV]; have := heap_setCell_same _ cb 5 _ _ (.bool (flt || !Mm.okD n 5 (nodeI t s (e % 4096) fi) 0)) (heap_setCell_same _ cb 4 _ _ (.int .i64 (acc + 1)) (heap_setCell_same _ cb 3 _ _ (.slice (some ⟨g', 0, none⟩) n C') HCW.out)); exact this) --X (heap_setCell_same _ cb 4 _ _ _ (heap_setCell_same _ cb 3 _ _ _ HCW.out)))
      have hvo : ∀ j, j ≠ cb → V.heap[j]? = W.heap[j]? := fun j hj => by rw [← hV]; exact (heap_setCell_other _ ⟨cb, 5, none⟩ j _ hj).trans ((heap_setCell_other _ ⟨cb, 4, none⟩ j _ hj).trans (heap_setCell_other _ ⟨cb, 3, none⟩ j _ hj))
      have hvs : Below w.heap.size w V := by (rw [← hV]; have := HE1.out; have h := ((HBW1.out.setCell (p := ⟨cb, 3, none⟩) (by show w.heap.size ≤ cb; omega) (.slice (some ⟨g', 0, none⟩) n C')).setCell (p := ⟨cb, 4, none⟩) (by show w.heap.size ≤ cb; omega) (.int .i64 (acc + 1))).setCell (p := ⟨cb, 5, none⟩) (by show w.heap.size ≤ cb; omega) (.bool (flt || !Mm.okD n 5 (nodeI t s (e % 4096) fi) 0)); exact h)
      have hvz : V.heap.size = W.heap.size := by rw [← hV]; simp [World.setCells]
      have HRV := Lib.hid ((hvo rb (Ne.symm n13)).trans HRBW.out)
      have HRWV := Lib.hid (HRW.out.keep (by omega) (hvo g' (by have := HE1.out; have := HR.out.lt; have := Th.blk_lt HBC.out; rcases hg with e | e <;> omega)))
      clear hV z0 z1 z2
      obtain ⟨d, hdu, hdr⟩ := uM
      have HRG := Lib.hid (mV_range HV.out)
      have HDU := Lib.hid hdu; have HDR := Lib.hid hdr
      clear hdu hdr
      go_wp2_with (first | (refine wpList_load_mid rfl 51 (.tmp 2) rfl cb 0 rfl ((mV t s Kc (.slice (some ⟨g', 0, none⟩) n C') (acc + 1) (flt || !Mm.okD n 5 (nodeI t s (e % 4096) fi) 0) gb gc sl odd)).toList d HRG.out HDU.out HDR.out infoM ?_) | (refine wpList_store_row (by rfl) 51 (.tmp 4) (.tmp 53) (by rfl) rb (mV t s Kc (.slice (some ⟨g', 0, none⟩) n C') (acc + 1) (flt || !Mm.okD n 5 (nodeI t s (e % 4096) fi) 0) gb gc sl odd) (by rfl) (by rfl) 51 _ HRV.out infoM rfl (mV_one _ _ _ _ _ _ _ _ _ _ _ _) ?_))
      have hrw : (V.setRow rb (mV t s Kc (.slice (some ⟨g', 0, none⟩) n C') (acc + 1) (flt || !Mm.okD n 5 (nodeI t s (e % 4096) fi) 0) gb gc sl odd)).heap[rb]? = some (.cells (mV t s Kc (.slice (some ⟨g', 0, none⟩) n C') (acc + 1) (flt || !Mm.okD n 5 (nodeI t s (e % 4096) fi) 0) gb gc sl odd) 51 (0, 0)) := setRow_heap _ _ _ _ _ _ HRV.out
      refine bodyPost_ret (v := .tuple #[.agg (mV t s Kc (.slice (some ⟨g', 0, none⟩) n C') (acc + 1) (flt || !Mm.okD n 5 (nodeI t s (e % 4096) fi) 0) gb gc sl odd), .int .u64 (Mm.toldD n f 5 (nodeI t s (e % 4096) fi)), .bool (Mm.doneD n f 5 (nodeI t s (e % 4096) fi) 0 tm old)]) (fin16d (cs := ((mV t s Kc (.slice (some ⟨g', 0, none⟩) n C') (acc + 1) (flt || !Mm.okD n 5 (nodeI t s (e % 4096) fi) 0) gb gc sl odd)).toList) rfl _ _ (mV_range hrw) rfl rfl rfl) rfl ?_
      rw [HQ.out, HK.out]
      have hg' : g' = wg ∨ w.heap.size ≤ g' := by have := HB1.out.size; exact hg.imp id fun e => (by omega)
      have hgr : g' ≠ rb := by have := HE3.out; have := HR.out.lt; have := Th.blk_lt HBR.out; rcases hg with e | e <;> omega
      refine ⟨g', C', hg', rfl, HRWV.out.keep (by simp [World.setRow]) (setRow_other _ _ _ _ hgr), hc1, hc2, hvs.os, hvs.tape, hvs.output, by have := hvs.size; simpa [World.setRow] using this, fun j hj => (setRow_other _ _ _ _ (by have := HE3.out; omega)).trans (hvs.block j hj)⟩
  · go_upto_region 7 with fail
    have HK := Lib.hid hk
    clear o0 hk
    have n1 : 1 ≤ n := by have := HNN.out; omega
    have n2 : n ≤ 4096 := by have := HNN.out; omega
    refine Th.wp_region_K (fun w' => ∃ y : Ext w1, w' = y.w) 25 (by decide +kernel) ?_
    generalize hwd : World.drew w1 = wd
    have hbd : Below w1.heap.size w1 wd := by rw [← hwd]; exact (Below.refl _ _).drew
    clear hwd
    (refine Th.wpAnyK_takeY (i := 0) (v := ?_) rfl (by decide +kernel) (by decide +kernel) (by decide +kernel) (by decide) (fun _ _ _ h => h) (Or.inl ⟨by rfl, ?_⟩) (.inr ⟨⟨wd, hbd⟩, rfl⟩) ?_; rotate_left; (intro w; go_simp); (try with_reducible rfl))
    (try simp only [List.getElem_toArray, List.getElem_cons_succ, List.getElem_cons_zero, Act.put, List.setIfInBounds_toArray, List.set_cons_succ, List.set_cons_zero])
    (refine Th.wpAnyK_take (i := 1) (v := .agg #[.slice (some ⟨wg, 0, none⟩) n C, .int .i64 acc, .bool flt]) [19, 20, 21, 25] rfl (by decide +kernel) (by decide +kernel) (by decide +kernel) (by decide +kernel) (fun _ _ _ h => h) (Th.yields_loadK rfl 46 (.tmp 28) rfl rfl (by rintro _ ⟨y, rfl⟩; exact HLM.out y)) ⟨⟨wd, hbd⟩, rfl⟩ ?_)
    (try simp only [List.getElem_toArray, List.getElem_cons_succ, List.getElem_cons_zero, Act.put, List.setIfInBounds_toArray, List.set_cons_succ, List.set_cons_zero])
    (refine Th.wpAnyK_takeY (i := 2) (v := ?_) rfl (by decide +kernel) (by decide +kernel) (by decide +kernel) (by decide) (fun _ _ _ h => h) (Or.inl ⟨by rfl, ?_⟩) (.inr ⟨⟨wd, hbd⟩, rfl⟩) ?_; rotate_left; (intro w; go_simp); (try with_reducible rfl))
    (try simp only [List.getElem_toArray, List.getElem_cons_succ, List.getElem_cons_zero, Act.put, List.setIfInBounds_toArray, List.set_cons_succ, List.set_cons_zero])
    (refine Th.wpAnyK_takeY (i := 3) (v := ?_) rfl (by decide +kernel) (by decide +kernel) (by decide +kernel) (by decide) (fun _ _ _ h => h) (Or.inl ⟨by rfl, ?_⟩) (.inr ⟨⟨wd, hbd⟩, rfl⟩) ?_; rotate_left; (intro w; go_simp); (try with_reducible rfl))
    (try simp only [List.getElem_toArray, List.getElem_cons_succ, List.getElem_cons_zero, Act.put, List.setIfInBounds_toArray, List.set_cons_succ, List.set_cons_zero])
    (refine Th.wpAnyK_take (i := 4) (v := .agg #[.int .i64 t, .int .i64 s, .int .u64 Kc]) [11, 18, 19, 20, 21, 25] rfl (by decide +kernel) (by decide +kernel) (by decide +kernel) (by decide +kernel) (fun _ _ _ h => h) (Th.yields_loadK rfl 24 (.tmp 31) rfl rfl (by rintro _ ⟨y, rfl⟩; exact HLC.out y)) ⟨⟨wd, hbd⟩, rfl⟩ ?_)
    (try simp only [List.getElem_toArray, List.getElem_cons_succ, List.getElem_cons_zero, Act.put, List.setIfInBounds_toArray, List.set_cons_succ, List.set_cons_zero])
    (refine Th.wpAnyK_takeY (i := 5) (v := ?_) rfl (by decide +kernel) (by decide +kernel) (by decide +kernel) (by decide) (fun _ _ _ h => h) (Or.inl ⟨by rfl, ?_⟩) (.inr ⟨⟨wd, hbd⟩, rfl⟩) ?_; rotate_left; (intro w; go_simp); (try with_reducible rfl))
    (try simp only [List.getElem_toArray, List.getElem_cons_succ, List.getElem_cons_zero, Act.put, List.setIfInBounds_toArray, List.set_cons_succ, List.set_cons_zero])
    (refine Th.wpAnyK_take (i := 6) (v := .int .u64 e) [7, 8, 11, 18, 19, 20, 21, 25] rfl (by decide +kernel) (by decide +kernel) (by decide +kernel) (by decide +kernel) (fun _ _ _ h => h) (Th.yields_loadK rfl 22 (.tmp 33) rfl rfl (by rintro _ ⟨y, rfl⟩; exact HL2.out y)) ⟨⟨wd, hbd⟩, rfl⟩ ?_)
    (try simp only [List.getElem_toArray, List.getElem_cons_succ, List.getElem_cons_zero, Act.put, List.setIfInBounds_toArray, List.set_cons_succ, List.set_cons_zero])
    (refine Th.wpAnyK_takeY (i := 7) (v := ?_) rfl (by decide +kernel) (by decide +kernel) (by decide +kernel) (by decide) (fun _ _ _ h => h) (Or.inl ⟨by rfl, ?_⟩) (.inr ⟨⟨wd, hbd⟩, rfl⟩) ?_; rotate_left; (intro w; go_simp); (try with_reducible rfl))
    (try simp only [List.getElem_toArray, List.getElem_cons_succ, List.getElem_cons_zero, Act.put, List.setIfInBounds_toArray, List.set_cons_succ, List.set_cons_zero])
    (refine Th.wpAnyK_takeY (i := 8) (v := ?_) rfl (by decide +kernel) (by decide +kernel) (by decide +kernel) (by decide) (fun _ _ _ h => h) (Or.inl ⟨by rfl, ?_⟩) (.inr ⟨⟨wd, hbd⟩, rfl⟩) ?_; rotate_left; (intro w; go_simp); (try with_reducible rfl))
    (try simp only [List.getElem_toArray, List.getElem_cons_succ, List.getElem_cons_zero, Act.put, List.setIfInBounds_toArray, List.set_cons_succ, List.set_cons_zero])
    (refine Th.wpAnyK_takeY (i := 9) (v := ?_) rfl (by decide +kernel) (by decide +kernel) (by decide +kernel) (by decide) (fun _ _ _ h => h) (Or.inl ⟨by rfl, ?_⟩) (.inr ⟨⟨wd, hbd⟩, rfl⟩) ?_; rotate_left; (intro w; go_simp); (try with_reducible rfl))
    (try simp only [List.getElem_toArray, List.getElem_cons_succ, List.getElem_cons_zero, Act.put, List.setIfInBounds_toArray, List.set_cons_succ, List.set_cons_zero])
    (refine Th.wpAnyK_take (i := 10) (v := .int .i64 fi) [11, 18, 19, 20, 21, 25] rfl (by decide +kernel) (by decide +kernel) (by decide +kernel) (by decide +kernel) (fun _ _ _ h => h) (Th.yields_loadK rfl 3 (.tmp 37) rfl rfl (by rintro _ ⟨y, rfl⟩; exact HL1.out y)) ⟨⟨wd, hbd⟩, rfl⟩ ?_)
    (try simp only [List.getElem_toArray, List.getElem_cons_succ, List.getElem_cons_zero, Act.put, List.setIfInBounds_toArray, List.set_cons_succ, List.set_cons_zero])
    (refine Th.wpAnyK_takeY (i := 12) (v := ?_) rfl (by decide +kernel) (by decide +kernel) (by decide +kernel) (by decide) (fun _ _ _ h => h) (Or.inl ⟨by rfl, ?_⟩) (.inr ⟨⟨wd, hbd⟩, rfl⟩) ?_; rotate_left; (intro w; go_simp); (try with_reducible rfl))
    (try simp only [List.getElem_toArray, List.getElem_cons_succ, List.getElem_cons_zero, Act.put, List.setIfInBounds_toArray, List.set_cons_succ, List.set_cons_zero])
    (refine Th.wpAnyK_take (i := 13) (v := .int .u64 tm) [18, 19, 20, 21, 25] rfl (by decide +kernel) (by decide +kernel) (by decide +kernel) (by decide +kernel) (fun _ _ _ h => h) (Th.yields_loadK rfl 22 (.tmp 40) rfl rfl (by rintro _ ⟨y, rfl⟩; exact HL3.out y)) ⟨⟨wd, hbd⟩, rfl⟩ ?_)
    (try simp only [List.getElem_toArray, List.getElem_cons_succ, List.getElem_cons_zero, Act.put, List.setIfInBounds_toArray, List.set_cons_succ, List.set_cons_zero])
    (refine Th.wpAnyK_takeY (i := 14) (v := ?_) rfl (by decide +kernel) (by decide +kernel) (by decide +kernel) (by decide) (fun _ _ _ h => h) (Or.inl ⟨by rfl, ?_⟩) (.inr ⟨⟨wd, hbd⟩, rfl⟩) ?_; rotate_left; (intro w; go_simp); (try with_reducible rfl))
    (try simp only [List.getElem_toArray, List.getElem_cons_succ, List.getElem_cons_zero, Act.put, List.setIfInBounds_toArray, List.set_cons_succ, List.set_cons_zero])
    (refine Th.wpAnyK_take (i := 15) (v := .int .u64 old) [18, 19, 20, 21, 25] rfl (by decide +kernel) (by decide +kernel) (by decide +kernel) (by decide +kernel) (fun _ _ _ h => h) (Th.yields_loadK rfl 22 (.tmp 42) rfl rfl (by rintro _ ⟨y, rfl⟩; exact HL4.out y)) ⟨⟨wd, hbd⟩, rfl⟩ ?_)
    (try simp only [List.getElem_toArray, List.getElem_cons_succ, List.getElem_cons_zero, Act.put, List.setIfInBounds_toArray, List.set_cons_succ, List.set_cons_zero])
    (refine Th.wpAnyK_takeY (i := 16) (v := ?_) rfl (by decide +kernel) (by decide +kernel) (by decide +kernel) (by decide) (fun _ _ _ h => h) (Or.inl ⟨by rfl, ?_⟩) (.inr ⟨⟨wd, hbd⟩, rfl⟩) ?_; rotate_left; (intro w; go_simp); (try with_reducible rfl))
    (try simp only [List.getElem_toArray, List.getElem_cons_succ, List.getElem_cons_zero, Act.put, List.setIfInBounds_toArray, List.set_cons_succ, List.set_cons_zero])
    (refine Th.wpAnyK_take (i := 17) (v := .int .u64 x) [18, 19, 20, 21, 25] rfl (by decide +kernel) (by decide +kernel) (by decide +kernel) (by decide +kernel) (fun _ _ _ h => h) (Th.yields_loadK rfl 22 (.tmp 44) rfl rfl (by rintro _ ⟨y, rfl⟩; exact HL5.out y)) ⟨⟨wd, hbd⟩, rfl⟩ ?_)
    (try simp only [List.getElem_toArray, List.getElem_cons_succ, List.getElem_cons_zero, Act.put, List.setIfInBounds_toArray, List.set_cons_succ, List.set_cons_zero])
    (refine Th.wpAnyK_ready (rs := [11, 24]) (by decide +kernel) (by simp) ?_; refine (Th.AllReadyK.cons rfl (fun K hK => ?_) (Th.AllReadyK.cons rfl (fun K hK => ?_) Th.AllReadyK.nil)))
    · refine step_of rfl ?_
      go_step
      refine (rat t s Kc (e % 4096) fi wd t2 s2).mono ?_; rintro _ v0 ⟨rfl, hbv0⟩
      have hbv0 := below_on hbd hbv0
      refine hK _ _ (.inr ⟨⟨v0, hbv0⟩, rfl⟩) ?_
      clear hK K
      (try simp only [List.getElem_toArray, List.getElem_cons_succ, List.getElem_cons_zero, Act.put, List.setIfInBounds_toArray, List.set_cons_succ, List.set_cons_zero])
      (refine Th.wpAnyK_takeY (i := 18) (v := ?_) rfl (by decide +kernel) (by decide +kernel) (by decide +kernel) (by decide) (fun _ _ _ h => h) (Or.inl ⟨by rfl, ?_⟩) (.inr ⟨⟨v0, hbv0⟩, rfl⟩) ?_; rotate_left; (intro w; go_simp); (try with_reducible rfl))
      (try simp only [List.getElem_toArray, List.getElem_cons_succ, List.getElem_cons_zero, Act.put, List.setIfInBounds_toArray, List.set_cons_succ, List.set_cons_zero])
      (refine Th.wpAnyK_ready (rs := [19, 24]) (by decide +kernel) (by simp) ?_; refine (Th.AllReadyK.cons rfl (fun K hK => ?_) (Th.AllReadyK.cons rfl (fun K hK => ?_) Th.AllReadyK.nil)))
      · refine step_of rfl ?_
        go_step
        refine (Mm.rdo wg n C f acc k (nodeI t s (e % 4096) fi) 0 tm old x flt v0 (HR.out.below (below_on HB1.out hbv0)) n1 n2 nC cC a0 a1 RN.out x0 x1).mono ?_
        rintro _ v1 ⟨g', C', hg, rfl, hrow, hc1, hc2, hbv1⟩
        have hg : g' = wg ∨ w1.heap.size ≤ g' := by have := hbv0.size; exact hg.imp id fun e => (by omega)
        have hbv1 := below_on hbv0 hbv1
        refine hK _ _ (.inr ⟨⟨v1, hbv1⟩, rfl⟩) ?_
        clear hK K
        (try simp only [List.getElem_toArray, List.getElem_cons_succ, List.getElem_cons_zero, Act.put, List.setIfInBounds_toArray, List.set_cons_succ, List.set_cons_zero])
        (refine Th.wpAnyK_takeY (i := 20) (v := ?_) rfl (by decide +kernel) (by decide +kernel) (by decide +kernel) (by decide) (fun _ _ _ h => h) (Or.inl ⟨by rfl, ?_⟩) (.inr ⟨⟨v1, hbv1⟩, rfl⟩) ?_; rotate_left; (intro w; go_simp); (try with_reducible rfl))
        (try simp only [List.getElem_toArray, List.getElem_cons_succ, List.getElem_cons_zero, Act.put, List.setIfInBounds_toArray, List.set_cons_succ, List.set_cons_zero])
        (refine Th.wpAnyK_takeY (i := 21) (v := ?_) rfl (by decide +kernel) (by decide +kernel) (by decide +kernel) (by decide) (fun _ _ _ h => h) (Or.inl ⟨by rfl, ?_⟩) (.inr ⟨⟨v1, hbv1⟩, rfl⟩) ?_; rotate_left; (intro w; go_simp); (try with_reducible rfl))
        (try simp only [List.getElem_toArray, List.getElem_cons_succ, List.getElem_cons_zero, Act.put, List.setIfInBounds_toArray, List.set_cons_succ, List.set_cons_zero])
        (refine Th.wpAnyK_takeY (i := 22) (v := ?_) rfl (by decide +kernel) (by decide +kernel) (by decide +kernel) (by decide) (fun _ _ _ h => h) (Or.inl ⟨by rfl, ?_⟩) (.inr ⟨⟨v1, hbv1⟩, rfl⟩) ?_; rotate_left; (intro w; go_simp); (try with_reducible rfl))
        (try simp only [List.getElem_toArray, List.getElem_cons_succ, List.getElem_cons_zero, Act.put, List.setIfInBounds_toArray, List.set_cons_succ, List.set_cons_zero])
        (refine Th.wpAnyK_takeY (i := 23) (v := ?_) rfl (by decide +kernel) (by decide +kernel) (by decide +kernel) (by decide) (fun _ _ _ h => h) (Or.inl ⟨by rfl, ?_⟩) (.inr ⟨⟨v1, hbv1⟩, rfl⟩) ?_; rotate_left; (intro w; go_simp); (try with_reducible rfl))
        (try simp only [List.getElem_toArray, List.getElem_cons_succ, List.getElem_cons_zero, Act.put, List.setIfInBounds_toArray, List.set_cons_succ, List.set_cons_zero])
        (refine Th.wpAnyK_ready (rs := [24]) (by decide +kernel) (by simp) ?_; refine (Th.AllReadyK.cons rfl (fun K hK => ?_) Th.AllReadyK.nil))
        refine step_of rfl ?_
        go_step
        generalize hwe : World.alloc v1 _ = v2
        obtain ⟨hXv2, hbv2⟩ := Th.heapnewE hwe
        obtain ⟨Z, hZ⟩ : ∃ Z, Z = v1.heap.size := ⟨_, rfl⟩
        rw [← hZ] at hXv2; simp only [← hZ]
        have hZ1 : w1.heap.size ≤ Z := by have := hbv1.size; omega
        have hZ2 : Z < v2.heap.size := Th.blk_lt hXv2
        have hne : g' ≠ Z := by have := hrow.lt; omega
        have hrow := hrow.below hbv2
        have HZ := Lib.hid hXv2; clear hwe
        have hbv2 := below_on hbv1 hbv2
        refine hK _ _ (.inr ⟨⟨v2, hbv2⟩, rfl⟩) ?_
        clear hK K
        (try simp only [List.getElem_toArray, List.getElem_cons_succ, List.getElem_cons_zero, Act.put, List.setIfInBounds_toArray, List.set_cons_succ, List.set_cons_zero])
        (try simp only [← hZ])
        (refine Th.wpAnyK_ready (rs := [25]) (by decide +kernel) (by simp) ?_; refine (Th.AllReadyK.cons rfl (fun K hK => ?_) Th.AllReadyK.nil))
        subst hZ
        refine step_of rfl ?_
        refine wp_store_row 46 (.tmp 8) (.tmp 48) rfl (v1.heap.size) #[.slice (some ⟨g', 0, none⟩) n C', .int .i64 (acc + 1), .bool (flt || !Mm.okD n k (nodeI t s (e % 4096) fi) 0)] rfl rfl 46 _ HZ.out infoM6 rfl (by kernel_rfl) ?_
        refine hK _ _ (.inl rfl) ?_
        clear hK K
        (try simp only [List.getElem_toArray, List.getElem_cons_succ, List.getElem_cons_zero, Act.put, List.setIfInBounds_toArray, List.set_cons_succ, List.set_cons_zero])
        (refine Th.wpAnyK_takeY (i := 26) (v := ?_) rfl (by decide +kernel) (by decide +kernel) (by decide +kernel) (by decide) (fun _ _ _ h => h) (Or.inl ⟨by rfl, ?_⟩) (.inl rfl) ?_; rotate_left; (intro w; go_simp); (try with_reducible rfl))
        (try simp only [List.getElem_toArray, List.getElem_cons_succ, List.getElem_cons_zero, Act.put, List.setIfInBounds_toArray, List.set_cons_succ, List.set_cons_zero])
        (refine Th.wpAnyK_takeY (i := 27) (v := ?_) rfl (by decide +kernel) (by decide +kernel) (by decide +kernel) (by decide) (fun _ _ _ h => h) (Or.inl ⟨by rfl, ?_⟩) (.inl rfl) ?_; rotate_left; (intro w; go_simp); (try with_reducible rfl))
        (try simp only [List.getElem_toArray, List.getElem_cons_succ, List.getElem_cons_zero, Act.put, List.setIfInBounds_toArray, List.set_cons_succ, List.set_cons_zero])
        refine Th.wpAnyK_done (by decide +kernel) ?_ _
        have hoth : ∀ jj, jj ≠ (v1.heap.size) → (v2.setRow (v1.heap.size) #[.slice (some ⟨g', 0, none⟩) n C', .int .i64 (acc + 1), .bool (flt || !Mm.okD n k (nodeI t s (e % 4096) fi) 0)]).heap[jj]? = v2.heap[jj]? := fun jj hj => setRow_other _ _ _ _ hj
        have hsz : (v2.setRow (v1.heap.size) #[.slice (some ⟨g', 0, none⟩) n C', .int .i64 (acc + 1), .bool (flt || !Mm.okD n k (nodeI t s (e % 4096) fi) 0)]).heap.size = v2.heap.size := by simp [World.setRow]
        have hzz : (v2.setRow (v1.heap.size) #[.slice (some ⟨g', 0, none⟩) n C', .int .i64 (acc + 1), .bool (flt || !Mm.okD n k (nodeI t s (e % 4096) fi) 0)]).heap[v1.heap.size]? = some (.cells #[.slice (some ⟨g', 0, none⟩) n C', .int .i64 (acc + 1), .bool (flt || !Mm.okD n k (nodeI t s (e % 4096) fi) 0)] 46 (0, 0)) := setRow_heap _ _ _ _ _ _ HZ.out
        have hos : (v2.setRow (v1.heap.size) #[.slice (some ⟨g', 0, none⟩) n C', .int .i64 (acc + 1), .bool (flt || !Mm.okD n k (nodeI t s (e % 4096) fi) 0)]).os = v2.os ∧ (v2.setRow (v1.heap.size) #[.slice (some ⟨g', 0, none⟩) n C', .int .i64 (acc + 1), .bool (flt || !Mm.okD n k (nodeI t s (e % 4096) fi) 0)]).tape = v2.tape ∧ (v2.setRow (v1.heap.size) #[.slice (some ⟨g', 0, none⟩) n C', .int .i64 (acc + 1), .bool (flt || !Mm.okD n k (nodeI t s (e % 4096) fi) 0)]).output = v2.output := ⟨rfl, rfl, rfl⟩
        generalize hW : World.setRow _ _ _ = W
        rw [hW] at hoth hsz hzz hos
        have HBW := Lib.hid (show Below w1.heap.size w1 W from ⟨hos.1.trans hbv2.os, hos.2.1.trans hbv2.tape, hos.2.2.trans hbv2.output, by have := hbv2.size; omega, fun j hj => (hoth j (by omega)).trans (hbv2.block j hj)⟩)
        have HRW := Lib.hid (hrow.keep (by omega) (hoth _ hne))
        have z0 : W.cell? ⟨(v1.heap.size), 0, none⟩ = some (.slice (some ⟨g', 0, none⟩) n C') := Th.newcell hzz 0 _ rfl; have z1 : W.cell? ⟨(v1.heap.size), 1, none⟩ = some (.int .i64 (acc + 1)) := Th.newcell hzz 1 _ rfl; have z2 : W.cell? ⟨(v1.heap.size), 2, none⟩ = some (.bool (flt || !Mm.okD n k (nodeI t s (e % 4096) fi) 0)) := Th.newcell hzz 2 _ rfl
        have HCW := Lib.hid (Th.up HBW.out HBC.out); have HRBW := Lib.hid (Th.up HBW.out HBR.out)
        clear hW hoth hsz hos hrow HZ
        have HTH := Lib.hid (show W.there cb 3 3 from fun j hj => by
        match j, hj with
        | 0, _ => exact ⟨by rw [Th.newcell HCW.out 3 _ rfl]; rfl, frozen_of_row _ _ _ _ _ HCW.out⟩
        | 1, _ => exact ⟨by rw [Th.newcell HCW.out 4 _ rfl]; rfl, frozen_of_row _ _ _ _ _ HCW.out⟩
        | 2, _ => exact ⟨by rw [Th.newcell HCW.out 5 _ rfl]; rfl, frozen_of_row _ _ _ _ _ HCW.out⟩)
        have HBW1 := Lib.hid (below_on HB1.out HBW.out)
        go_upto_region 9 with (refine wpList_store_mid rfl 46 (.tmp 52) (.tmp 51) rfl cb 3 #[.slice (some ⟨g', 0, none⟩) n C', .int .i64 (acc + 1), .bool (flt || !Mm.okD n k (nodeI t s (e % 4096) fi) 0)] rfl rfl HTH.out infoM6 (by kernel_rfl) ?_)
        generalize hV : World.setCells _ _ _ _ = V
        have HV := Lib.hid (show V.heap[cb]? = some (.cells (mV t s Kc (.slice (some ⟨g', 0, none⟩) n C') (acc + 1) (flt || !Mm.okD n k (nodeI t s (e % 4096) fi) 0) gb gc sl odd) 51 (0, 0)) by rw [← hV]; have := heap_setCell_same _ cb 5 _ _ (.bool (flt || !Mm.okD n k (nodeI t s (e % 4096) fi) 0)) (heap_setCell_same _ cb 4 _ _ (.int .i64 (acc + 1)) (heap_setCell_same _ cb 3 _ _ (.slice (some ⟨g', 0, none⟩) n C') HCW.out)); exact this) --X (heap_setCell_same _ cb 4 _ _ _ (heap_setCell_same _ cb 3 _ _ _ HCW.out)))
        have hvo : ∀ j, j ≠ cb → V.heap[j]? = W.heap[j]? := fun j hj => by rw [← hV]; exact (heap_setCell_other _ ⟨cb, 5, none⟩ j _ hj).trans ((heap_setCell_other _ ⟨cb, 4, none⟩ j _ hj).trans (heap_setCell_other _ ⟨cb, 3, none⟩ j _ hj))
        have hvs : Below w.heap.size w V := by (rw [← hV]; have := HE1.out; have h := ((HBW1.out.setCell (p := ⟨cb, 3, none⟩) (by show w.heap.size ≤ cb; omega) (.slice (some ⟨g', 0, none⟩) n C')).setCell (p := ⟨cb, 4, none⟩) (by show w.heap.size ≤ cb; omega) (.int .i64 (acc + 1))).setCell (p := ⟨cb, 5, none⟩) (by show w.heap.size ≤ cb; omega) (.bool (flt || !Mm.okD n k (nodeI t s (e % 4096) fi) 0)); exact h)
        have hvz : V.heap.size = W.heap.size := by rw [← hV]; simp [World.setCells]
        have HRV := Lib.hid ((hvo rb (Ne.symm n13)).trans HRBW.out)
        have HRWV := Lib.hid (HRW.out.keep (by omega) (hvo g' (by have := HE1.out; have := HR.out.lt; have := Th.blk_lt HBC.out; rcases hg with e | e <;> omega)))
        clear hV z0 z1 z2
        obtain ⟨d, hdu, hdr⟩ := uM
        have HRG := Lib.hid (mV_range HV.out)
        have HDU := Lib.hid hdu; have HDR := Lib.hid hdr
        clear hdu hdr
        go_wp2_with (first | (refine wpList_load_mid rfl 51 (.tmp 2) rfl cb 0 rfl ((mV t s Kc (.slice (some ⟨g', 0, none⟩) n C') (acc + 1) (flt || !Mm.okD n k (nodeI t s (e % 4096) fi) 0) gb gc sl odd)).toList d HRG.out HDU.out HDR.out infoM ?_) | (refine wpList_store_row (by rfl) 51 (.tmp 4) (.tmp 53) (by rfl) rb (mV t s Kc (.slice (some ⟨g', 0, none⟩) n C') (acc + 1) (flt || !Mm.okD n k (nodeI t s (e % 4096) fi) 0) gb gc sl odd) (by rfl) (by rfl) 51 _ HRV.out infoM rfl (mV_one _ _ _ _ _ _ _ _ _ _ _ _) ?_))
        have hrw : (V.setRow rb (mV t s Kc (.slice (some ⟨g', 0, none⟩) n C') (acc + 1) (flt || !Mm.okD n k (nodeI t s (e % 4096) fi) 0) gb gc sl odd)).heap[rb]? = some (.cells (mV t s Kc (.slice (some ⟨g', 0, none⟩) n C') (acc + 1) (flt || !Mm.okD n k (nodeI t s (e % 4096) fi) 0) gb gc sl odd) 51 (0, 0)) := setRow_heap _ _ _ _ _ _ HRV.out
        refine bodyPost_ret (v := .tuple #[.agg (mV t s Kc (.slice (some ⟨g', 0, none⟩) n C') (acc + 1) (flt || !Mm.okD n k (nodeI t s (e % 4096) fi) 0) gb gc sl odd), .int .u64 (Mm.toldD n f k (nodeI t s (e % 4096) fi)), .bool (Mm.doneD n f k (nodeI t s (e % 4096) fi) 0 tm old)]) (fin16d (cs := ((mV t s Kc (.slice (some ⟨g', 0, none⟩) n C') (acc + 1) (flt || !Mm.okD n k (nodeI t s (e % 4096) fi) 0) gb gc sl odd)).toList) rfl _ _ (mV_range hrw) rfl rfl rfl) rfl ?_
        rw [HQ.out, HK.out]
        have hg' : g' = wg ∨ w.heap.size ≤ g' := by have := HB1.out.size; exact hg.imp id fun e => (by omega)
        have hgr : g' ≠ rb := by have := HE3.out; have := HR.out.lt; have := Th.blk_lt HBR.out; rcases hg with e | e <;> omega
        refine ⟨g', C', hg', rfl, HRWV.out.keep (by simp [World.setRow]) (setRow_other _ _ _ _ hgr), hc1, hc2, hvs.os, hvs.tape, hvs.output, by have := hvs.size; simpa [World.setRow] using this, fun j hj => (setRow_other _ _ _ _ (by have := HE3.out; omega)).trans (hvs.block j hj)⟩
      · refine step_of rfl ?_
        go_step
        generalize hwe : World.alloc v0 _ = v1
        obtain ⟨hXv1, hbv1⟩ := Th.heapnewE hwe
        obtain ⟨Z, hZ⟩ : ∃ Z, Z = v0.heap.size := ⟨_, rfl⟩
        rw [← hZ] at hXv1; simp only [← hZ]
        have hZ1 : w1.heap.size ≤ Z := by have := hbv0.size; omega
        have hZ2 : Z < v1.heap.size := Th.blk_lt hXv1
        have HZ := Lib.hid hXv1; clear hwe
        have hbv1 := below_on hbv0 hbv1
        refine hK _ _ (.inr ⟨⟨v1, hbv1⟩, rfl⟩) ?_
        clear hK K
        (try simp only [List.getElem_toArray, List.getElem_cons_succ, List.getElem_cons_zero, Act.put, List.setIfInBounds_toArray, List.set_cons_succ, List.set_cons_zero])
        (try simp only [← hZ])
        (refine Th.wpAnyK_ready (rs := [19]) (by decide +kernel) (by simp) ?_; refine (Th.AllReadyK.cons rfl (fun K hK => ?_) Th.AllReadyK.nil))
        refine step_of rfl ?_
        go_step
        refine (Mm.rdo wg n C f acc k (nodeI t s (e % 4096) fi) 0 tm old x flt v1 (HR.out.below (below_on HB1.out hbv1)) n1 n2 nC cC a0 a1 RN.out x0 x1).mono ?_
        rintro _ v2 ⟨g', C', hg, rfl, hrow, hc1, hc2, hbv2⟩
        have HZ := Lib.hid (Th.up hbv2 HZ.out)
        have hne : g' ≠ Z := by have := HR.out.lt; have := HB1.out.size; have := hbv1.size; rcases hg with e | e <;> omega
        have hg : g' = wg ∨ w1.heap.size ≤ g' := by have := hbv1.size; exact hg.imp id fun e => (by omega)
        have hbv2 := below_on hbv1 hbv2
        refine hK _ _ (.inr ⟨⟨v2, hbv2⟩, rfl⟩) ?_
        clear hK K
        (try simp only [List.getElem_toArray, List.getElem_cons_succ, List.getElem_cons_zero, Act.put, List.setIfInBounds_toArray, List.set_cons_succ, List.set_cons_zero])
        (refine Th.wpAnyK_takeY (i := 20) (v := ?_) rfl (by decide +kernel) (by decide +kernel) (by decide +kernel) (by decide) (fun _ _ _ h => h) (Or.inl ⟨by rfl, ?_⟩) (.inr ⟨⟨v2, hbv2⟩, rfl⟩) ?_; rotate_left; (intro w; go_simp); (try with_reducible rfl))
        (try simp only [List.getElem_toArray, List.getElem_cons_succ, List.getElem_cons_zero, Act.put, List.setIfInBounds_toArray, List.set_cons_succ, List.set_cons_zero])
        (refine Th.wpAnyK_takeY (i := 21) (v := ?_) rfl (by decide +kernel) (by decide +kernel) (by decide +kernel) (by decide) (fun _ _ _ h => h) (Or.inl ⟨by rfl, ?_⟩) (.inr ⟨⟨v2, hbv2⟩, rfl⟩) ?_; rotate_left; (intro w; go_simp); (try with_reducible rfl))
        (try simp only [List.getElem_toArray, List.getElem_cons_succ, List.getElem_cons_zero, Act.put, List.setIfInBounds_toArray, List.set_cons_succ, List.set_cons_zero])
        (refine Th.wpAnyK_takeY (i := 22) (v := ?_) rfl (by decide +kernel) (by decide +kernel) (by decide +kernel) (by decide) (fun _ _ _ h => h) (Or.inl ⟨by rfl, ?_⟩) (.inr ⟨⟨v2, hbv2⟩, rfl⟩) ?_; rotate_left; (intro w; go_simp); (try with_reducible rfl))
        (try simp only [List.getElem_toArray, List.getElem_cons_succ, List.getElem_cons_zero, Act.put, List.setIfInBounds_toArray, List.set_cons_succ, List.set_cons_zero])
        (refine Th.wpAnyK_takeY (i := 23) (v := ?_) rfl (by decide +kernel) (by decide +kernel) (by decide +kernel) (by decide) (fun _ _ _ h => h) (Or.inl ⟨by rfl, ?_⟩) (.inr ⟨⟨v2, hbv2⟩, rfl⟩) ?_; rotate_left; (intro w; go_simp); (try with_reducible rfl))
        (try simp only [List.getElem_toArray, List.getElem_cons_succ, List.getElem_cons_zero, Act.put, List.setIfInBounds_toArray, List.set_cons_succ, List.set_cons_zero])
        (refine Th.wpAnyK_ready (rs := [25]) (by decide +kernel) (by simp) ?_; refine (Th.AllReadyK.cons rfl (fun K hK => ?_) Th.AllReadyK.nil))
        subst hZ
        refine step_of rfl ?_
        refine wp_store_row 46 (.tmp 8) (.tmp 48) rfl (v0.heap.size) #[.slice (some ⟨g', 0, none⟩) n C', .int .i64 (acc + 1), .bool (flt || !Mm.okD n k (nodeI t s (e % 4096) fi) 0)] rfl rfl 46 _ HZ.out infoM6 rfl (by kernel_rfl) ?_
        refine hK _ _ (.inl rfl) ?_
        clear hK K
        (try simp only [List.getElem_toArray, List.getElem_cons_succ, List.getElem_cons_zero, Act.put, List.setIfInBounds_toArray, List.set_cons_succ, List.set_cons_zero])
        (refine Th.wpAnyK_takeY (i := 26) (v := ?_) rfl (by decide +kernel) (by decide +kernel) (by decide +kernel) (by decide) (fun _ _ _ h => h) (Or.inl ⟨by rfl, ?_⟩) (.inl rfl) ?_; rotate_left; (intro w; go_simp); (try with_reducible rfl))
        (try simp only [List.getElem_toArray, List.getElem_cons_succ, List.getElem_cons_zero, Act.put, List.setIfInBounds_toArray, List.set_cons_succ, List.set_cons_zero])
        (refine Th.wpAnyK_takeY (i := 27) (v := ?_) rfl (by decide +kernel) (by decide +kernel) (by decide +kernel) (by decide) (fun _ _ _ h => h) (Or.inl ⟨by rfl, ?_⟩) (.inl rfl) ?_; rotate_left; (intro w; go_simp); (try with_reducible rfl))
        (try simp only [List.getElem_toArray, List.getElem_cons_succ, List.getElem_cons_zero, Act.put, List.setIfInBounds_toArray, List.set_cons_succ, List.set_cons_zero])
        refine Th.wpAnyK_done (by decide +kernel) ?_ _
        have hoth : ∀ jj, jj ≠ (v0.heap.size) → (v2.setRow (v0.heap.size) #[.slice (some ⟨g', 0, none⟩) n C', .int .i64 (acc + 1), .bool (flt || !Mm.okD n k (nodeI t s (e % 4096) fi) 0)]).heap[jj]? = v2.heap[jj]? := fun jj hj => setRow_other _ _ _ _ hj
        have hsz : (v2.setRow (v0.heap.size) #[.slice (some ⟨g', 0, none⟩) n C', .int .i64 (acc + 1), .bool (flt || !Mm.okD n k (nodeI t s (e % 4096) fi) 0)]).heap.size = v2.heap.size := by simp [World.setRow]
        have hzz : (v2.setRow (v0.heap.size) #[.slice (some ⟨g', 0, none⟩) n C', .int .i64 (acc + 1), .bool (flt || !Mm.okD n k (nodeI t s (e % 4096) fi) 0)]).heap[v0.heap.size]? = some (.cells #[.slice (some ⟨g', 0, none⟩) n C', .int .i64 (acc + 1), .bool (flt || !Mm.okD n k (nodeI t s (e % 4096) fi) 0)] 46 (0, 0)) := setRow_heap _ _ _ _ _ _ HZ.out
        have hos : (v2.setRow (v0.heap.size) #[.slice (some ⟨g', 0, none⟩) n C', .int .i64 (acc + 1), .bool (flt || !Mm.okD n k (nodeI t s (e % 4096) fi) 0)]).os = v2.os ∧ (v2.setRow (v0.heap.size) #[.slice (some ⟨g', 0, none⟩) n C', .int .i64 (acc + 1), .bool (flt || !Mm.okD n k (nodeI t s (e % 4096) fi) 0)]).tape = v2.tape ∧ (v2.setRow (v0.heap.size) #[.slice (some ⟨g', 0, none⟩) n C', .int .i64 (acc + 1), .bool (flt || !Mm.okD n k (nodeI t s (e % 4096) fi) 0)]).output = v2.output := ⟨rfl, rfl, rfl⟩
        generalize hW : World.setRow _ _ _ = W
        rw [hW] at hoth hsz hzz hos
        have HBW := Lib.hid (show Below w1.heap.size w1 W from ⟨hos.1.trans hbv2.os, hos.2.1.trans hbv2.tape, hos.2.2.trans hbv2.output, by have := hbv2.size; omega, fun j hj => (hoth j (by omega)).trans (hbv2.block j hj)⟩)
        have HRW := Lib.hid (hrow.keep (by omega) (hoth _ hne))
        have z0 : W.cell? ⟨(v0.heap.size), 0, none⟩ = some (.slice (some ⟨g', 0, none⟩) n C') := Th.newcell hzz 0 _ rfl; have z1 : W.cell? ⟨(v0.heap.size), 1, none⟩ = some (.int .i64 (acc + 1)) := Th.newcell hzz 1 _ rfl; have z2 : W.cell? ⟨(v0.heap.size), 2, none⟩ = some (.bool (flt || !Mm.okD n k (nodeI t s (e % 4096) fi) 0)) := Th.newcell hzz 2 _ rfl
        have HCW := Lib.hid (Th.up HBW.out HBC.out); have HRBW := Lib.hid (Th.up HBW.out HBR.out)
        clear hW hoth hsz hos hrow HZ
        have HTH := Lib.hid (show W.there cb 3 3 from fun j hj => by
        match j, hj with
        | 0, _ => exact ⟨by rw [Th.newcell HCW.out 3 _ rfl]; rfl, frozen_of_row _ _ _ _ _ HCW.out⟩
        | 1, _ => exact ⟨by rw [Th.newcell HCW.out 4 _ rfl]; rfl, frozen_of_row _ _ _ _ _ HCW.out⟩
        | 2, _ => exact ⟨by rw [Th.newcell HCW.out 5 _ rfl]; rfl, frozen_of_row _ _ _ _ _ HCW.out⟩)
        have HBW1 := Lib.hid (below_on HB1.out HBW.out)
        go_upto_region 9 with (refine wpList_store_mid rfl 46 (.tmp 52) (.tmp 51) rfl cb 3 #[.slice (some ⟨g', 0, none⟩) n C', .int .i64 (acc + 1), .bool (flt || !Mm.okD n k (nodeI t s (e % 4096) fi) 0)] rfl rfl HTH.out infoM6 (by kernel_rfl) ?_)
        generalize hV : World.setCells _ _ _ _ = V
        have HV := Lib.hid (show V.heap[cb]? = some (.cells (mV t s Kc (.slice (some ⟨g', 0, none⟩) n C') (acc + 1) (flt || !Mm.okD n k (nodeI t s (e % 4096) fi) 0) gb gc sl odd) 51 (0, 0)) by rw [← hV]; have := heap_setCell_same _ cb 5 _ _ (.bool (flt || !Mm.okD n k (nodeI t s (e % 4096) fi) 0)) (heap_setCell_same _ cb 4 _ _ (.int .i64 (acc + 1)) (heap_setCell_same _ cb 3 _ _ (.slice (some ⟨g', 0, none⟩) n C') HCW.out)); exact this) --X (heap_setCell_same _ cb 4 _ _ _ (heap_setCell_same _ cb 3 _ _ _ HCW.out)))
        have hvo : ∀ j, j ≠ cb → V.heap[j]? = W.heap[j]? := fun j hj => by rw [← hV]; exact (heap_setCell_other _ ⟨cb, 5, none⟩ j _ hj).trans ((heap_setCell_other _ ⟨cb, 4, none⟩ j _ hj).trans (heap_setCell_other _ ⟨cb, 3, none⟩ j _ hj))
        have hvs : Below w.heap.size w V := by (rw [← hV]; have := HE1.out; have h := ((HBW1.out.setCell (p := ⟨cb, 3, none⟩) (by show w.heap.size ≤ cb; omega) (.slice (some ⟨g', 0, none⟩) n C')).setCell (p := ⟨cb, 4, none⟩) (by show w.heap.size ≤ cb; omega) (.int .i64 (acc + 1))).setCell (p := ⟨cb, 5, none⟩) (by show w.heap.size ≤ cb; omega) (.bool (flt || !Mm.okD n k (nodeI t s (e % 4096) fi) 0)); exact h)
        have hvz : V.heap.size = W.heap.size := by rw [← hV]; simp [World.setCells]
        have HRV := Lib.hid ((hvo rb (Ne.symm n13)).trans HRBW.out)
        have HRWV := Lib.hid (HRW.out.keep (by omega) (hvo g' (by have := HE1.out; have := HR.out.lt; have := Th.blk_lt HBC.out; rcases hg with e | e <;> omega)))
        clear hV z0 z1 z2
        obtain ⟨d, hdu, hdr⟩ := uM
        have HRG := Lib.hid (mV_range HV.out)
        have HDU := Lib.hid hdu; have HDR := Lib.hid hdr
        clear hdu hdr
        go_wp2_with (first | (refine wpList_load_mid rfl 51 (.tmp 2) rfl cb 0 rfl ((mV t s Kc (.slice (some ⟨g', 0, none⟩) n C') (acc + 1) (flt || !Mm.okD n k (nodeI t s (e % 4096) fi) 0) gb gc sl odd)).toList d HRG.out HDU.out HDR.out infoM ?_) | (refine wpList_store_row (by rfl) 51 (.tmp 4) (.tmp 53) (by rfl) rb (mV t s Kc (.slice (some ⟨g', 0, none⟩) n C') (acc + 1) (flt || !Mm.okD n k (nodeI t s (e % 4096) fi) 0) gb gc sl odd) (by rfl) (by rfl) 51 _ HRV.out infoM rfl (mV_one _ _ _ _ _ _ _ _ _ _ _ _) ?_))
        have hrw : (V.setRow rb (mV t s Kc (.slice (some ⟨g', 0, none⟩) n C') (acc + 1) (flt || !Mm.okD n k (nodeI t s (e % 4096) fi) 0) gb gc sl odd)).heap[rb]? = some (.cells (mV t s Kc (.slice (some ⟨g', 0, none⟩) n C') (acc + 1) (flt || !Mm.okD n k (nodeI t s (e % 4096) fi) 0) gb gc sl odd) 51 (0, 0)) := setRow_heap _ _ _ _ _ _ HRV.out
        refine bodyPost_ret (v := .tuple #[.agg (mV t s Kc (.slice (some ⟨g', 0, none⟩) n C') (acc + 1) (flt || !Mm.okD n k (nodeI t s (e % 4096) fi) 0) gb gc sl odd), .int .u64 (Mm.toldD n f k (nodeI t s (e % 4096) fi)), .bool (Mm.doneD n f k (nodeI t s (e % 4096) fi) 0 tm old)]) (fin16d (cs := ((mV t s Kc (.slice (some ⟨g', 0, none⟩) n C') (acc + 1) (flt || !Mm.okD n k (nodeI t s (e % 4096) fi) 0) gb gc sl odd)).toList) rfl _ _ (mV_range hrw) rfl rfl rfl) rfl ?_
        rw [HQ.out, HK.out]
        have hg' : g' = wg ∨ w.heap.size ≤ g' := by have := HB1.out.size; exact hg.imp id fun e => (by omega)
        have hgr : g' ≠ rb := by have := HE3.out; have := HR.out.lt; have := Th.blk_lt HBR.out; rcases hg with e | e <;> omega
        refine ⟨g', C', hg', rfl, HRWV.out.keep (by simp [World.setRow]) (setRow_other _ _ _ _ hgr), hc1, hc2, hvs.os, hvs.tape, hvs.output, by have := hvs.size; simpa [World.setRow] using this, fun j hj => (setRow_other _ _ _ _ (by have := HE3.out; omega)).trans (hvs.block j hj)⟩
    · refine step_of rfl ?_
      go_step
      generalize hwe : World.alloc wd _ = v0
      obtain ⟨hXv0, hbv0⟩ := Th.heapnewE hwe
      obtain ⟨Z, hZ⟩ : ∃ Z, Z = wd.heap.size := ⟨_, rfl⟩
      rw [← hZ] at hXv0; simp only [← hZ]
      have hZ1 : w1.heap.size ≤ Z := by have := hbd.size; omega
      have hZ2 : Z < v0.heap.size := Th.blk_lt hXv0
      have HZ := Lib.hid hXv0; clear hwe
      have hbv0 := below_on hbd hbv0
      refine hK _ _ (.inr ⟨⟨v0, hbv0⟩, rfl⟩) ?_
      clear hK K
      (try simp only [List.getElem_toArray, List.getElem_cons_succ, List.getElem_cons_zero, Act.put, List.setIfInBounds_toArray, List.set_cons_succ, List.set_cons_zero])
      (try simp only [← hZ])
      (refine Th.wpAnyK_ready (rs := [11]) (by decide +kernel) (by simp) ?_; refine (Th.AllReadyK.cons rfl (fun K hK => ?_) Th.AllReadyK.nil))
      refine step_of rfl ?_
      go_step
      refine (rat t s Kc (e % 4096) fi v0 t2 s2).mono ?_; rintro _ v1 ⟨rfl, hbv1⟩
      have HZ := Lib.hid (Th.up hbv1 HZ.out)
      have hZ2 := Nat.lt_of_lt_of_le hZ2 hbv1.size
      have hbv1 := below_on hbv0 hbv1
      refine hK _ _ (.inr ⟨⟨v1, hbv1⟩, rfl⟩) ?_
      clear hK K
      (try simp only [List.getElem_toArray, List.getElem_cons_succ, List.getElem_cons_zero, Act.put, List.setIfInBounds_toArray, List.set_cons_succ, List.set_cons_zero])
      (refine Th.wpAnyK_takeY (i := 18) (v := ?_) rfl (by decide +kernel) (by decide +kernel) (by decide +kernel) (by decide) (fun _ _ _ h => h) (Or.inl ⟨by rfl, ?_⟩) (.inr ⟨⟨v1, hbv1⟩, rfl⟩) ?_; rotate_left; (intro w; go_simp); (try with_reducible rfl))
      (try simp only [List.getElem_toArray, List.getElem_cons_succ, List.getElem_cons_zero, Act.put, List.setIfInBounds_toArray, List.set_cons_succ, List.set_cons_zero])
      (refine Th.wpAnyK_ready (rs := [19]) (by decide +kernel) (by simp) ?_; refine (Th.AllReadyK.cons rfl (fun K hK => ?_) Th.AllReadyK.nil))
      refine step_of rfl ?_
      go_step
      refine (Mm.rdo wg n C f acc k (nodeI t s (e % 4096) fi) 0 tm old x flt v1 (HR.out.below (below_on HB1.out hbv1)) n1 n2 nC cC a0 a1 RN.out x0 x1).mono ?_
      rintro _ v2 ⟨g', C', hg, rfl, hrow, hc1, hc2, hbv2⟩
      have HZ := Lib.hid (Th.up hbv2 HZ.out)
      have hne : g' ≠ Z := by have := HR.out.lt; have := HB1.out.size; have := hbv1.size; rcases hg with e | e <;> omega
      have hg : g' = wg ∨ w1.heap.size ≤ g' := by have := hbv1.size; exact hg.imp id fun e => (by omega)
      have hbv2 := below_on hbv1 hbv2
      refine hK _ _ (.inr ⟨⟨v2, hbv2⟩, rfl⟩) ?_
      clear hK K
      (try simp only [List.getElem_toArray, List.getElem_cons_succ, List.getElem_cons_zero, Act.put, List.setIfInBounds_toArray, List.set_cons_succ, List.set_cons_zero])
      (refine Th.wpAnyK_takeY (i := 20) (v := ?_) rfl (by decide +kernel) (by decide +kernel) (by decide +kernel) (by decide) (fun _ _ _ h => h) (Or.inl ⟨by rfl, ?_⟩) (.inr ⟨⟨v2, hbv2⟩, rfl⟩) ?_; rotate_left; (intro w; go_simp); (try with_reducible rfl))
      (try simp only [List.getElem_toArray, List.getElem_cons_succ, List.getElem_cons_zero, Act.put, List.setIfInBounds_toArray, List.set_cons_succ, List.set_cons_zero])
      (refine Th.wpAnyK_takeY (i := 21) (v := ?_) rfl (by decide +kernel) (by decide +kernel) (by decide +kernel) (by decide) (fun _ _ _ h => h) (Or.inl ⟨by rfl, ?_⟩) (.inr ⟨⟨v2, hbv2⟩, rfl⟩) ?_; rotate_left; (intro w; go_simp); (try with_reducible rfl))
      (try simp only [List.getElem_toArray, List.getElem_cons_succ, List.getElem_cons_zero, Act.put, List.setIfInBounds_toArray, List.set_cons_succ, List.set_cons_zero])
      (refine Th.wpAnyK_takeY (i := 22) (v := ?_) rfl (by decide +kernel) (by decide +kernel) (by decide +kernel) (by decide) (fun _ _ _ h => h) (Or.inl ⟨by rfl, ?_⟩) (.inr ⟨⟨v2, hbv2⟩, rfl⟩) ?_; rotate_left; (intro w; go_simp); (try with_reducible rfl))
      (try simp only [List.getElem_toArray, List.getElem_cons_succ, List.getElem_cons_zero, Act.put, List.setIfInBounds_toArray, List.set_cons_succ, List.set_cons_zero])
      (refine Th.wpAnyK_takeY (i := 23) (v := ?_) rfl (by decide +kernel) (by decide +kernel) (by decide +kernel) (by decide) (fun _ _ _ h => h) (Or.inl ⟨by rfl, ?_⟩) (.inr ⟨⟨v2, hbv2⟩, rfl⟩) ?_; rotate_left; (intro w; go_simp); (try with_reducible rfl))
      (try simp only [List.getElem_toArray, List.getElem_cons_succ, List.getElem_cons_zero, Act.put, List.setIfInBounds_toArray, List.set_cons_succ, List.set_cons_zero])
      (refine Th.wpAnyK_ready (rs := [25]) (by decide +kernel) (by simp) ?_; refine (Th.AllReadyK.cons rfl (fun K hK => ?_) Th.AllReadyK.nil))
      subst hZ
      refine step_of rfl ?_
      refine wp_store_row 46 (.tmp 8) (.tmp 48) rfl (wd.heap.size) #[.slice (some ⟨g', 0, none⟩) n C', .int .i64 (acc + 1), .bool (flt || !Mm.okD n k (nodeI t s (e % 4096) fi) 0)] rfl rfl 46 _ HZ.out infoM6 rfl (by kernel_rfl) ?_
      refine hK _ _ (.inl rfl) ?_
      clear hK K
      (try simp only [List.getElem_toArray, List.getElem_cons_succ, List.getElem_cons_zero, Act.put, List.setIfInBounds_toArray, List.set_cons_succ, List.set_cons_zero])
      (refine Th.wpAnyK_takeY (i := 26) (v := ?_) rfl (by decide +kernel) (by decide +kernel) (by decide +kernel) (by decide) (fun _ _ _ h => h) (Or.inl ⟨by rfl, ?_⟩) (.inl rfl) ?_; rotate_left; (intro w; go_simp); (try with_reducible rfl))
      (try simp only [List.getElem_toArray, List.getElem_cons_succ, List.getElem_cons_zero, Act.put, List.setIfInBounds_toArray, List.set_cons_succ, List.set_cons_zero])
      (refine Th.wpAnyK_takeY (i := 27) (v := ?_) rfl (by decide +kernel) (by decide +kernel) (by decide +kernel) (by decide) (fun _ _ _ h => h) (Or.inl ⟨by rfl, ?_⟩) (.inl rfl) ?_; rotate_left; (intro w; go_simp); (try with_reducible rfl))
      (try simp only [List.getElem_toArray, List.getElem_cons_succ, List.getElem_cons_zero, Act.put, List.setIfInBounds_toArray, List.set_cons_succ, List.set_cons_zero])
      refine Th.wpAnyK_done (by decide +kernel) ?_ _
      have hoth : ∀ jj, jj ≠ (wd.heap.size) → (v2.setRow (wd.heap.size) #[.slice (some ⟨g', 0, none⟩) n C', .int .i64 (acc + 1), .bool (flt || !Mm.okD n k (nodeI t s (e % 4096) fi) 0)]).heap[jj]? = v2.heap[jj]? := fun jj hj => setRow_other _ _ _ _ hj
      have hsz : (v2.setRow (wd.heap.size) #[.slice (some ⟨g', 0, none⟩) n C', .int .i64 (acc + 1), .bool (flt || !Mm.okD n k (nodeI t s (e % 4096) fi) 0)]).heap.size = v2.heap.size := by simp [World.setRow]
      have hzz : (v2.setRow (wd.heap.size) #[.slice (some ⟨g', 0, none⟩) n C', .int .i64 (acc + 1), .bool (flt || !Mm.okD n k (nodeI t s (e % 4096) fi) 0)]).heap[wd.heap.size]? = some (.cells #[.slice (some ⟨g', 0, none⟩) n C', .int .i64 (acc + 1), .bool (flt || !Mm.okD n k (nodeI t s (e % 4096) fi) 0)] 46 (0, 0)) := setRow_heap _ _ _ _ _ _ HZ.out
      have hos : (v2.setRow (wd.heap.size) #[.slice (some ⟨g', 0, none⟩) n C', .int .i64 (acc + 1), .bool (flt || !Mm.okD n k (nodeI t s (e % 4096) fi) 0)]).os = v2.os ∧ (v2.setRow (wd.heap.size) #[.slice (some ⟨g', 0, none⟩) n C', .int .i64 (acc + 1), .bool (flt || !Mm.okD n k (nodeI t s (e % 4096) fi) 0)]).tape = v2.tape ∧ (v2.setRow (wd.heap.size) #[.slice (some ⟨g', 0, none⟩) n C', .int .i64 (acc + 1), .bool (flt || !Mm.okD n k (nodeI t s (e % 4096) fi) 0)]).output = v2.output := ⟨rfl, rfl, rfl⟩
      generalize hW : World.setRow _ _ _ = W
      rw [hW] at hoth hsz hzz hos
      have HBW := Lib.hid (show Below w1.heap.size w1 W from ⟨hos.1.trans hbv2.os, hos.2.1.trans hbv2.tape, hos.2.2.trans hbv2.output, by have := hbv2.size; omega, fun j hj => (hoth j (by omega)).trans (hbv2.block j hj)⟩)
      have HRW := Lib.hid (hrow.keep (by omega) (hoth _ hne))
      have z0 : W.cell? ⟨(wd.heap.size), 0, none⟩ = some (.slice (some ⟨g', 0, none⟩) n C') := Th.newcell hzz 0 _ rfl; have z1 : W.cell? ⟨(wd.heap.size), 1, none⟩ = some (.int .i64 (acc + 1)) := Th.newcell hzz 1 _ rfl; have z2 : W.cell? ⟨(wd.heap.size), 2, none⟩ = some (.bool (flt || !Mm.okD n k (nodeI t s (e % 4096) fi) 0)) := Th.newcell hzz 2 _ rfl
      have HCW := Lib.hid (Th.up HBW.out HBC.out); have HRBW := Lib.hid (Th.up HBW.out HBR.out)
      clear hW hoth hsz hos hrow HZ
      have HTH := Lib.hid (show W.there cb 3 3 from fun j hj => by
      match j, hj with
      | 0, _ => exact ⟨by rw [Th.newcell HCW.out 3 _ rfl]; rfl, frozen_of_row _ _ _ _ _ HCW.out⟩
      | 1, _ => exact ⟨by rw [Th.newcell HCW.out 4 _ rfl]; rfl, frozen_of_row _ _ _ _ _ HCW.out⟩
      | 2, _ => exact ⟨by rw [Th.newcell HCW.out 5 _ rfl]; rfl, frozen_of_row _ _ _ _ _ HCW.out⟩)
      have HBW1 := Lib.hid (below_on HB1.out HBW.out)
      go_upto_region 9 with (refine wpList_store_mid rfl 46 (.tmp 52) (.tmp 51) rfl cb 3 #[.slice (some ⟨g', 0, none⟩) n C', .int .i64 (acc + 1), .bool (flt || !Mm.okD n k (nodeI t s (e % 4096) fi) 0)] rfl rfl HTH.out infoM6 (by kernel_rfl) ?_)
      generalize hV : World.setCells _ _ _ _ = V
      have HV := Lib.hid (show V.heap[cb]? = some (.cells (mV t s Kc (.slice (some ⟨g', 0, none⟩) n C') (acc + 1) (flt || !Mm.okD n k (nodeI t s (e % 4096) fi) 0) gb gc sl odd) 51 (0, 0)) by rw [← hV]; have := heap_setCell_same _ cb 5 _ _ (.bool (flt || !Mm.okD n k (nodeI t s (e % 4096) fi) 0)) (heap_setCell_same _ cb 4 _ _ (.int .i64 (acc + 1)) (heap_setCell_same _ cb 3 _ _ (.slice (some ⟨g', 0, none⟩) n C') HCW.out)); exact this) --X (heap_setCell_same _ cb 4 _ _ _ (heap_setCell_same _ cb 3 _ _ _ HCW.out)))
      have hvo : ∀ j, j ≠ cb → V.heap[j]? = W.heap[j]? := fun j hj => by rw [← hV]; exact (heap_setCell_other _ ⟨cb, 5, none⟩ j _ hj).trans ((heap_setCell_other _ ⟨cb, 4, none⟩ j _ hj).trans (heap_setCell_other _ ⟨cb, 3, none⟩ j _ hj))
      have hvs : Below w.heap.size w V := by (rw [← hV]; have := HE1.out; have h := ((HBW1.out.setCell (p := ⟨cb, 3, none⟩) (by show w.heap.size ≤ cb; omega) (.slice (some ⟨g', 0, none⟩) n C')).setCell (p := ⟨cb, 4, none⟩) (by show w.heap.size ≤ cb; omega) (.int .i64 (acc + 1))).setCell (p := ⟨cb, 5, none⟩) (by show w.heap.size ≤ cb; omega) (.bool (flt || !Mm.okD n k (nodeI t s (e % 4096) fi) 0)); exact h)
      have hvz : V.heap.size = W.heap.size := by rw [← hV]; simp [World.setCells]
      have HRV := Lib.hid ((hvo rb (Ne.symm n13)).trans HRBW.out)
      have HRWV := Lib.hid (HRW.out.keep (by omega) (hvo g' (by have := HE1.out; have := HR.out.lt; have := Th.blk_lt HBC.out; rcases hg with e | e <;> omega)))
      clear hV z0 z1 z2
      obtain ⟨d, hdu, hdr⟩ := uM
      have HRG := Lib.hid (mV_range HV.out)
      have HDU := Lib.hid hdu; have HDR := Lib.hid hdr
      clear hdu hdr
      go_wp2_with (first | (refine wpList_load_mid rfl 51 (.tmp 2) rfl cb 0 rfl ((mV t s Kc (.slice (some ⟨g', 0, none⟩) n C') (acc + 1) (flt || !Mm.okD n k (nodeI t s (e % 4096) fi) 0) gb gc sl odd)).toList d HRG.out HDU.out HDR.out infoM ?_) | (refine wpList_store_row (by rfl) 51 (.tmp 4) (.tmp 53) (by rfl) rb (mV t s Kc (.slice (some ⟨g', 0, none⟩) n C') (acc + 1) (flt || !Mm.okD n k (nodeI t s (e % 4096) fi) 0) gb gc sl odd) (by rfl) (by rfl) 51 _ HRV.out infoM rfl (mV_one _ _ _ _ _ _ _ _ _ _ _ _) ?_))
      have hrw : (V.setRow rb (mV t s Kc (.slice (some ⟨g', 0, none⟩) n C') (acc + 1) (flt || !Mm.okD n k (nodeI t s (e % 4096) fi) 0) gb gc sl odd)).heap[rb]? = some (.cells (mV t s Kc (.slice (some ⟨g', 0, none⟩) n C') (acc + 1) (flt || !Mm.okD n k (nodeI t s (e % 4096) fi) 0) gb gc sl odd) 51 (0, 0)) := setRow_heap _ _ _ _ _ _ HRV.out
      refine bodyPost_ret (v := .tuple #[.agg (mV t s Kc (.slice (some ⟨g', 0, none⟩) n C') (acc + 1) (flt || !Mm.okD n k (nodeI t s (e % 4096) fi) 0) gb gc sl odd), .int .u64 (Mm.toldD n f k (nodeI t s (e % 4096) fi)), .bool (Mm.doneD n f k (nodeI t s (e % 4096) fi) 0 tm old)]) (fin16d (cs := ((mV t s Kc (.slice (some ⟨g', 0, none⟩) n C') (acc + 1) (flt || !Mm.okD n k (nodeI t s (e % 4096) fi) 0) gb gc sl odd)).toList) rfl _ _ (mV_range hrw) rfl rfl rfl) rfl ?_
      rw [HQ.out, HK.out]
      have hg' : g' = wg ∨ w.heap.size ≤ g' := by have := HB1.out.size; exact hg.imp id fun e => (by omega)
      have hgr : g' ≠ rb := by have := HE3.out; have := HR.out.lt; have := Th.blk_lt HBR.out; rcases hg with e | e <;> omega
      refine ⟨g', C', hg', rfl, HRWV.out.keep (by simp [World.setRow]) (setRow_other _ _ _ _ hgr), hc1, hc2, hvs.os, hvs.tape, hvs.output, by have := hvs.size; simpa [World.setRow] using this, fun j hj => (setRow_other _ _ _ _ (by have := HE3.out; omega)).trans (hvs.block j hj)⟩
end Go.Proofs.Ytkkdehniheajeaa
