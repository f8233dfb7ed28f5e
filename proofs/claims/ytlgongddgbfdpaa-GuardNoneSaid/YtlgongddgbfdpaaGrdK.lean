/- Layer 7: the law's do. -/
import Derived.Test.YtlgongddgbfdpaaGrdJ
namespace Go.Proofs.Ytlgongddgbfdpaa
open Go.RowKit Go.Maps WordM EdgeM
set_option linter.unusedVariables false
set_option linter.unusedSimpArgs false
structure KX (X : List Nat) (w w' : World) : Prop where
  os : w'.os = w.os
  tape : w'.tape = w.tape
  output : w'.output = w.output
  size : w.heap.size ≤ w'.heap.size
  block : ∀ k, k < w.heap.size → k ∉ X → w'.heap[k]? = w.heap[k]?
theorem KX.trans {X : List Nat} {w w1 w2 : World} (h : KX X w w1) (k : KX X w1 w2) : KX X w w2 :=
  ⟨k.os.trans h.os, k.tape.trans h.tape, k.output.trans h.output, Nat.le_trans h.size k.size, fun j hj a => (k.block j (Nat.lt_of_lt_of_le hj h.size) a).trans (h.block j hj a)⟩
theorem KX.of_below {X : List Nat} {w w' : World} (h : Below w.heap.size w w') : KX X w w' := ⟨h.os, h.tape, h.output, h.size, fun k hk _ => h.block k hk⟩
theorem KX.of_k3 {w w' : World} {q g m : Nat} {X : List Nat} (h : K3 w w' q g m) (hX : q ∈ X ∧ g ∈ X ∧ m ∈ X) : KX X w w' :=
  ⟨h.os, h.tape, h.output, h.size, fun k hk ha => h.block k hk (by rintro rfl; exact ha hX.1) (by rintro rfl; exact ha hX.2.1) (by rintro rfl; exact ha hX.2.2)⟩
theorem KX.set {w : World} {X : List Nat} {b i : Nat} {v : Value} (hb : b ∈ X) : KX X w (w.setCell ⟨b, i, none⟩ v) :=
  ⟨rfl, rfl, rfl, by simp [World.setCell], fun k hk ha => Below.heap_setCell _ _ _ _ (by rintro rfl; exact ha hb)⟩
structure E4 (W : World) (X : List Nat) where
  w : World
  h : KX X W w
instance (W : World) (X : List Nat) : Nonempty (E4 W X) := ⟨⟨W, .of_below (Below.refl _ _)⟩⟩
theorem KX.cell {W w : World} {X : List Nat} (x : KX X W w) {b o : Nat} {v : Value} (h : W.cell? ⟨b, o, none⟩ = some v) (hb : b ∉ X) : w.cell? ⟨b, o, none⟩ = some v :=
  (World.cell?_of_block (a := ⟨b, o, none⟩) (x.block b (World.block_lt_of_cell? W ⟨b, o, none⟩ h) hb)).trans h
theorem E4.cells {W : World} {X : List Nat} {b o : Nat} {v : Value} (h : W.cell? ⟨b, o, none⟩ = some v) (hb : b ∉ X) : ∀ x : E4 W X, x.w.cell? ⟨b, o, none⟩ = some v := fun x => x.h.cell h hb
theorem K3.cell {W w : World} {q g m : Nat} (x : K3 W w q g m) {b o : Nat} {v : Value} (h : W.cell? ⟨b, o, none⟩ = some v) (h1 : b ≠ q) (h2 : b ≠ g) (h3 : b ≠ m) : w.cell? ⟨b, o, none⟩ = some v :=
  (World.cell?_of_block (a := ⟨b, o, none⟩) (x.block b (World.block_lt_of_cell? W ⟨b, o, none⟩ h) h1 h2 h3)).trans h
def DoPost (w : World) (q g m b n : Nat) (H : Nat → Bool) (G : Nat → Int) (s : Int) (x : Ending) (w' : World) : Prop :=
  ∃ b' c', x = .returned (.tuple #[xV b' n c' s, .bool true]) ∧ GB w' q g m b' n c' H G s ∧ K3 w w' q g m ∧ (b' = b ∨ w.heap.size ≤ b')
set_option maxRecDepth 16000 in
set_option maxHeartbeats 4000000 in
theorem ldo_take {w : World} {q g m b n c : Nat} {H : Nat → Bool} {G : Nat → Int} {s : Int} (h : GB w q g m b n c H G s) (slot e : Int) (hs : s < 1000000) (H' : Nat → Bool) (G' : Nat → Int) (s' : Int) (t : Bool) (HT : Hid (H' = takeH n H slot ∧ G' = G ∧ s' = (if canT n H slot = true then s else s + 1) ∧ t = canT n H slot)) :
    Calls Try.prog 9 #[.pointer (some ⟨q, 0, none⟩), xV b n c s, .agg #[.int .i64 0, .int .i64 slot, .int .u64 e]] w (DoPost w q g m b n H' G' s') := by
  refine Calls.veil fun Q HQ => ?_
  have HH := Lib.hid h
  have HN := Lib.hid (And.intro h.ga.n1 (And.intro h.ga.n0 (And.intro h.nc h.cc)))
  have HGG := Lib.hid h.ga.gb
  have HSB := Lib.hid h.ga.sb
  have HLT := Lib.hid (And.intro h.ga.lt h.lt)
  clear h
  unfold xV
  go_enter Try.func9, Try.ntmps9
  go_upto_region 1 with fail
  generalize hU : World.alloc _ _ = U
  obtain ⟨B, hB⟩ : ∃ B, B = w.heap.size := ⟨_, rfl⟩
  have hBU : Below w.heap.size w U := by rw [← hU]; (repeat (first | exact Below.refl _ _ | assumption | refine below_new ?_ _ | refine Below.drew ?_ | refine below_drewN ?_ _ | refine below_on ?_ (by assumption)))
  have e1 : (w.alloc (.cells #[.slice (some ⟨b, 0, none⟩) n c, .int .i64 s] 29)).heap.size = B + 1 := by rw [hB]; simp
  have e2 : ((w.alloc (.cells #[.slice (some ⟨b, 0, none⟩) n c, .int .i64 s] 29)).alloc (.cells #[.int .i64 0, .int .i64 slot, .int .u64 e] 35)).heap.size = B + 1 + 1 := by rw [hB]; simp
  have hz : U.heap.size = B + 1 + 1 + 1 := by rw [← hU, hB]; simp
  have b1 : Below (B + 1) (w.alloc (.cells #[.slice (some ⟨b, 0, none⟩) n c, .int .i64 s] 29)) U := by
    rw [← hU, ← e1]; (repeat (first | exact Below.refl _ _ | assumption | refine below_new ?_ _ | refine Below.drew ?_ | refine below_drewN ?_ _ | refine below_on ?_ (by assumption)))
  have b2 : Below (B + 1 + 1) ((w.alloc (.cells #[.slice (some ⟨b, 0, none⟩) n c, .int .i64 s] 29)).alloc (.cells #[.int .i64 0, .int .i64 slot, .int .u64 e] 35)) U := by
    rw [← hU, ← e2]; (repeat (first | exact Below.refl _ _ | assumption | refine below_new ?_ _ | refine Below.drew ?_ | refine below_drewN ?_ _ | refine below_on ?_ (by assumption)))
  have z0 : U.cell? ⟨w.heap.size, 0, none⟩ = some (.slice (some ⟨b, 0, none⟩) n c) := Ext.made_in rfl (by rw [e1]; exact b1) 0 _ rfl
  have z1 : U.cell? ⟨w.heap.size, 1, none⟩ = some (.int .i64 s) := Ext.made_in rfl (by rw [e1]; exact b1) 1 _ rfl
  have p0 : U.cell? ⟨w.heap.size + 1, 0, none⟩ = some (.int .i64 0) := by rw [← hB, ← e1]; exact Ext.made_in rfl (by rw [e2]; exact b2) 0 _ rfl
  have p1 : U.cell? ⟨w.heap.size + 1, 1, none⟩ = some (.int .i64 slot) := by rw [← hB, ← e1]; exact Ext.made_in rfl (by rw [e2]; exact b2) 1 _ rfl
  have p2 : U.cell? ⟨w.heap.size + 1, 2, none⟩ = some (.int .u64 e) := by rw [← hB, ← e1]; exact Ext.made_in rfl (by rw [e2]; exact b2) 2 _ rfl
  have hr : U.heap[w.heap.size + 1 + 1]? = some (.cells #[.slice none 0 0, .int .i64 0] 29 (0, 0)) := by rw [← hB, ← e2, ← hU]; exact heap_alloc_new _ _
  have HBU := Lib.hid (HH.out.below hBU)
  have HWU := Lib.hid hBU
  clear hU b1 b2 e1 e2 hBU
  rw [← hB] at z0 z1 p0 p1 p2 hr
  rw [← hB]
  have HBE := Lib.hid hB
  have HZ := Lib.hid hz
  have HR := Lib.hid hr
  have HL := Lib.hid (show q < B ∧ g < B ∧ m < B ∧ b < B from ⟨hB ▸ HLT.out.1.1, hB ▸ HLT.out.1.2.1, hB ▸ HLT.out.1.2.2, hB ▸ HLT.out.2⟩)
  clear hB hz hr
  · go_wp2_with fail
    have RT := rtake (w := U) (b := b) (n := n) (c := c) (H := H) (G := G) s HBU.out.sr HN.out.1 HN.out.2.1 HN.out.2.2.1 HN.out.2.2.2 HSB.out.1 hs slot
    rw [← HT.out.1, ← HT.out.2.2.1, ← HT.out.2.2.2] at RT
    unfold xV at RT
    refine RT.mono ?_; rintro _ U2 ⟨b2, c2, rfl, hSR2, hnc2, hcc2, hp2, hb2⟩
    clear RT
    have GE := HT.out.2.1
    rw [← GE] at hSR2
    clear GE
    have HS2 := Lib.hid hSR2
    have HW2 := Lib.hid (And.intro hnc2 hcc2)
    have HB2 := Lib.hid hb2
    have HP2 := Lib.hid (show b2 = b ∨ B + 1 + 1 + 1 ≤ b2 by have := HZ.out; omega)
    clear hSR2 hnc2 hcc2 hb2 hp2
    unfold xV
    go_upto_region 3 with fail
    generalize hV : World.alloc U2 _ = V
    obtain ⟨Y, hY⟩ : ∃ Y, Y = U2.heap.size := ⟨_, rfl⟩
    have y0 : V.cell? ⟨Y, 0, none⟩ = some (.slice (some ⟨b2, 0, none⟩) n c2) := by rw [hY]; exact Ext.made_in hV (Below.refl _ _) 0 _ rfl
    have y1 : V.cell? ⟨Y, 1, none⟩ = some (.int .i64 s') := by rw [hY]; exact Ext.made_in hV (Below.refl _ _) 1 _ rfl
    have HU2V := Lib.hid (show Below U2.heap.size U2 V by rw [← hV]; (repeat (first | exact Below.refl _ _ | assumption | refine below_new ?_ _ | refine Below.drew ?_ | refine below_drewN ?_ _ | refine below_on ?_ (by assumption))))
    have HUV := Lib.hid (show Below U.heap.size U V from HB2.out.trans (HU2V.out.mono HB2.out.size))
    have HY := Lib.hid (show B + 1 + 1 + 1 ≤ Y by rw [hY]; have := HB2.out.size; have := HZ.out; omega)
    rw [← hY]
    clear hV hY
    have p1V : V.cell? ⟨B + 1, 1, none⟩ = some (.int .i64 slot) := Ext.use (Ext.cells p1) HUV.out
    have rV : V.heap[B + 1 + 1]? = some (.cells #[.slice none 0 0, .int .i64 0] 29 (0, 0)) := (HUV.out.block _ (by have := HZ.out; omega)).trans HR.out
    have HV := Lib.hid (HBU.out.ga.below HUV.out)
    have HSV := Lib.hid (HS2.out.below HU2V.out)
    have hq := HL.out
    have hy := HY.out
    have y0 : ∀ x : E4 V [q, g, m, B + 1 + 1], x.w.cell? ⟨Y, 0, none⟩ = some (.slice (some ⟨b2, 0, none⟩) n c2) := E4.cells y0 (by simp; omega)
    have y1 : ∀ x : E4 V [q, g, m, B + 1 + 1], x.w.cell? ⟨Y, 1, none⟩ = some (.int .i64 s') := E4.cells y1 (by simp; omega)
    have p1 : ∀ x : E4 V [q, g, m, B + 1 + 1], x.w.cell? ⟨B + 1, 1, none⟩ = some (.int .i64 slot) := E4.cells p1V (by simp; omega)
    have HRV := Lib.hid rV
    clear hq hy p1V rV z0 z1 p0 p2
    (with_reducible refine wp_region_mix (fun w' => ∃ x : E4 V [q, g, m, B + 1 + 1], w' = x.w) ?_ ?_ ?_ ?_; kernel_rfl; kernel_rfl; exact ⟨⟨V.drew, .of_below (Below.refl _ _).drew⟩, rfl⟩)
    repeat (first | ((with_reducible refine mix_plain (by kernel_rfl) ?_); (first | go_big_quiet_skip | (go_big_quiet_want; go_big_quiet_op; go_big_quiet_on)); (with_reducible refine mix_on ?_)) | ((with_reducible refine mix_skip (by kernel_rfl) ?_); go_big_quiet_skip; (with_reducible refine mix_on ?_)))
    ((with_reducible refine wpMix_chain (by kernel_rfl) (by kernel_rfl) (fun K HK => ?_)); go_step)
    refine (gtake (HV.out.below (Below.refl _ _).drew) slot hs).mono ?_; rintro _ W9 ⟨rfl, h1, h2⟩
    obtain ⟨a1, a2, a3, a4⟩ := HT.out
    rw [← a1, ← a2, ← a3] at h1
    rw [← a4]
    clear a1 a2 a3 a4
    have H1 := Lib.hid h1
    have h2' : K3 V W9 q g m := (K3.of_below (Below.refl _ _).drew q g m).trans h2
    have H2 := Lib.hid h2'
    refine HK.out _ _ ⟨⟨W9, KX.of_k3 h2' (by simp)⟩, rfl⟩ ?_
    clear HK K h1 h2 h2'
    have rW : W9.heap[B + 1 + 1]? = some (.cells #[.slice none 0 0, .int .i64 0] 29 (0, 0)) := by
      have := HL.out
      exact (H2.out.block _ (by have := HUV.out.size; have := HZ.out; omega) (by omega) (by omega) (by omega)).trans HRV.out
    have rf : ∀ i, W9.frozen? ⟨B + 1 + 1, i, none⟩ = false := fun i => frozen_of_row _ _ _ _ _ rW
    have r0 : W9.cell? ⟨B + 1 + 1, 0, none⟩ = some (.slice none 0 0) := by rw [cell_of_row _ _ _ _ _ (0, 0) rW]; rfl
    have r1 : W9.cell? ⟨B + 1 + 1, 1, none⟩ = some (.int .i64 0) := by rw [cell_of_row _ _ _ _ _ (0, 0) rW]; rfl
    clear rW
    repeat (first | ((with_reducible refine mix_plain (by kernel_rfl) ?_); (first | go_big_quiet_skip | (go_big_quiet_want; go_big_quiet_op; go_big_quiet_on)); (with_reducible refine mix_on ?_)) | ((with_reducible refine mix_skip (by kernel_rfl) ?_); go_big_quiet_skip; (with_reducible refine mix_on ?_)))
    ((with_reducible refine wpMix_chain (by kernel_rfl) (by kernel_rfl) (fun K HK => ?_)); go_step)
    refine HK.out _ _ ⟨⟨_, ((KX.of_k3 H2.out (by simp)).trans (KX.set (by simp))).trans (KX.set (by simp))⟩, rfl⟩ ?_
    clear HK K
    repeat (first | ((with_reducible refine mix_plain (by kernel_rfl) ?_); (first | go_big_quiet_skip | (go_big_quiet_want; go_big_quiet_op; go_big_quiet_on)); (with_reducible refine mix_on ?_)) | ((with_reducible refine mix_skip (by kernel_rfl) ?_); go_big_quiet_skip; (with_reducible refine mix_on ?_)))
    refine wpMix_nil ?_
    go_wp2_with fail
    refine bodyPost_ret (v := .tuple #[.agg #[.slice (some ⟨b2, 0, none⟩) n c2, .int .i64 s'], .bool true]) (by simp [results, Try.results9, go_sem, r0, r1, World.cell?_setCell_same, World.cell?_setCell_other]) rfl ?_
    rw [HQ.out]
    have hBE := HBE.out
    obtain ⟨l1, l2, l3, l4⟩ := HL.out
    have hp2 := HP2.out
    have hbl : Below W9.heap.size W9 W9 := Below.refl _ _
    have hgh := HH.out
    have nq : b2 ≠ q ∧ b2 ≠ g ∧ b2 ≠ m := by
      rcases hp2 with rfl | hp2
      · exact ⟨hgh.bq, hgh.bg, hgh.bm⟩
      · omega
    have hob : Below w.heap.size w V := by
      have h1 := HWU.out
      exact h1.trans (HUV.out.mono h1.size)
    have HX : ∀ (W : World) (i : Nat) (v : Value), GA W q g m n H' G' s' → GA (W.setCell ⟨B + 1 + 1, i, none⟩ v) q g m n H' G' s' := by
      intro W i v hh
      obtain ⟨D, d1, d2⟩ := hh.held
      refine ⟨?_, ?_, ⟨D, d1.setCell (by show _ ≠ B + 1 + 1; omega) _, d2⟩, hh.g1, hh.g2, hh.g3, hh.n0, hh.n1, hh.gb, hh.sb⟩
      · exact hh.obj.of (Below.heap_setCell _ _ _ _ (by show _ ≠ B + 1 + 1; omega))
      · exact hh.gens.of (Below.heap_setCell _ _ _ _ (by show _ ≠ B + 1 + 1; omega))
    have HX3 : ∀ (W : World) (i : Nat) (v : Value), K3 w W q g m → K3 w (W.setCell ⟨B + 1 + 1, i, none⟩ v) q g m := by
      intro W i v hh
      exact ⟨hh.os, hh.tape, hh.output, by simpa [World.setCell] using hh.size, fun k hk a b c => (Below.heap_setCell _ _ _ _ (by show _ ≠ B + 1 + 1; omega)).trans (hh.block k hk a b c)⟩
    refine ⟨b2, c2, rfl, ⟨HX _ _ _ (HX _ _ _ H1.out), ((HSV.out.k3 H2.out nq.1 nq.2.1 nq.2.2).setOther (by omega) _).setOther (by omega) _, nq.1, nq.2.1, nq.2.2, HW2.out.1, HW2.out.2⟩, HX3 _ _ _ (HX3 _ _ _ ((K3.of_below hob q g m).trans H2.out)), ?_⟩
    rcases hp2 with rfl | hp2
    · exact .inl rfl
    · exact .inr (by omega)
set_option maxRecDepth 16000 in
set_option maxHeartbeats 4000000 in
theorem ldo_edge {w : World} {q g m b n c : Nat} {H : Nat → Bool} {G : Nat → Int} {s : Int} (h : GB w q g m b n c H G s) (slot e : Int) (e1 : 0 ≤ e) (e2 : e < 18446744073709551616) (hs : s < 1000000) (H' : Nat → Bool) (G' : Nat → Int) (s' : Int) (t : Bool) (HT : Hid (H' = dropH n H G (edgeN n G slot) ∧ G' = dropG n H G (edgeN n G slot) ∧ s' = (if leadsB n H G (edgeN n G slot) = true then s else s + 1) ∧ t = leadsB n H G (edgeN n G slot))) :
    Calls Try.prog 9 #[.pointer (some ⟨q, 0, none⟩), xV b n c s, .agg #[.int .i64 1, .int .i64 slot, .int .u64 e]] w (DoPost w q g m b n H' G' s') := by
  have HED := Lib.hid (show 0 ≤ (edgeN n G slot) ∧ (edgeN n G slot) < 18446744073709551616 from edgeN_bd h.ga.gb slot)
  clear e1 e2
  refine Calls.veil fun Q HQ => ?_
  have HH := Lib.hid h
  have HN := Lib.hid (And.intro h.ga.n1 (And.intro h.ga.n0 (And.intro h.nc h.cc)))
  have HGG := Lib.hid h.ga.gb
  have HSB := Lib.hid h.ga.sb
  have HLT := Lib.hid (And.intro h.ga.lt h.lt)
  clear h
  unfold xV
  go_enter Try.func9, Try.ntmps9
  go_upto_region 1 with fail
  generalize hU : World.alloc _ _ = U
  obtain ⟨B, hB⟩ : ∃ B, B = w.heap.size := ⟨_, rfl⟩
  have hBU : Below w.heap.size w U := by rw [← hU]; (repeat (first | exact Below.refl _ _ | assumption | refine below_new ?_ _ | refine Below.drew ?_ | refine below_drewN ?_ _ | refine below_on ?_ (by assumption)))
  have e1 : (w.alloc (.cells #[.slice (some ⟨b, 0, none⟩) n c, .int .i64 s] 29)).heap.size = B + 1 := by rw [hB]; simp
  have e2 : ((w.alloc (.cells #[.slice (some ⟨b, 0, none⟩) n c, .int .i64 s] 29)).alloc (.cells #[.int .i64 1, .int .i64 slot, .int .u64 e] 35)).heap.size = B + 1 + 1 := by rw [hB]; simp
  have hz : U.heap.size = B + 1 + 1 + 1 := by rw [← hU, hB]; simp
  have b1 : Below (B + 1) (w.alloc (.cells #[.slice (some ⟨b, 0, none⟩) n c, .int .i64 s] 29)) U := by
    rw [← hU, ← e1]; (repeat (first | exact Below.refl _ _ | assumption | refine below_new ?_ _ | refine Below.drew ?_ | refine below_drewN ?_ _ | refine below_on ?_ (by assumption)))
  have b2 : Below (B + 1 + 1) ((w.alloc (.cells #[.slice (some ⟨b, 0, none⟩) n c, .int .i64 s] 29)).alloc (.cells #[.int .i64 1, .int .i64 slot, .int .u64 e] 35)) U := by
    rw [← hU, ← e2]; (repeat (first | exact Below.refl _ _ | assumption | refine below_new ?_ _ | refine Below.drew ?_ | refine below_drewN ?_ _ | refine below_on ?_ (by assumption)))
  have z0 : U.cell? ⟨w.heap.size, 0, none⟩ = some (.slice (some ⟨b, 0, none⟩) n c) := Ext.made_in rfl (by rw [e1]; exact b1) 0 _ rfl
  have z1 : U.cell? ⟨w.heap.size, 1, none⟩ = some (.int .i64 s) := Ext.made_in rfl (by rw [e1]; exact b1) 1 _ rfl
  have p0 : U.cell? ⟨w.heap.size + 1, 0, none⟩ = some (.int .i64 1) := by rw [← hB, ← e1]; exact Ext.made_in rfl (by rw [e2]; exact b2) 0 _ rfl
  have p1 : U.cell? ⟨w.heap.size + 1, 1, none⟩ = some (.int .i64 slot) := by rw [← hB, ← e1]; exact Ext.made_in rfl (by rw [e2]; exact b2) 1 _ rfl
  have p2 : U.cell? ⟨w.heap.size + 1, 2, none⟩ = some (.int .u64 e) := by rw [← hB, ← e1]; exact Ext.made_in rfl (by rw [e2]; exact b2) 2 _ rfl
  have hr : U.heap[w.heap.size + 1 + 1]? = some (.cells #[.slice none 0 0, .int .i64 0] 29 (0, 0)) := by rw [← hB, ← e2, ← hU]; exact heap_alloc_new _ _
  have HBU := Lib.hid (HH.out.below hBU)
  have HWU := Lib.hid hBU
  clear hU b1 b2 e1 e2 hBU
  rw [← hB] at z0 z1 p0 p1 p2 hr
  rw [← hB]
  have HBE := Lib.hid hB
  have HZ := Lib.hid hz
  have HR := Lib.hid hr
  have HL := Lib.hid (show q < B ∧ g < B ∧ m < B ∧ b < B from ⟨hB ▸ HLT.out.1.1, hB ▸ HLT.out.1.2.1, hB ▸ HLT.out.1.2.2, hB ▸ HLT.out.2⟩)
  clear hB hz hr
  · go_wp2_with fail
    have RE := redge7 (w := U) s HBU.out.sr HN.out.1 HN.out.2.2.1 HN.out.2.2.2 HGG.out slot
    unfold xV at RE
    refine RE.mono ?_; rintro _ U1 ⟨rfl, hb1⟩
    clear RE
    have z0 := Ext.use (Ext.cells z0) hb1; have z1 := Ext.use (Ext.cells z1) hb1; have p1 := Ext.use (Ext.cells p1) hb1
    have HBU := Lib.hid (HBU.out.below hb1)
    have HWU := Lib.hid (show Below w.heap.size w U1 from HWU.out.trans (hb1.mono HWU.out.size))
    have HR := Lib.hid ((hb1.block (B + 1 + 1) (by have := HZ.out; omega)).trans HR.out)
    have HZ := Lib.hid (show B + 1 + 1 + 1 ≤ U1.heap.size by have := HZ.out; have := hb1.size; omega)
    clear hb1
    go_wp2_with fail
    have RT := rdrop (w := U1) (b := b) (n := n) (c := c) (H := H) (G := G) s HBU.out.sr HN.out.1 HN.out.2.1 HN.out.2.2.1 HN.out.2.2.2 HGG.out HSB.out.1 hs (edgeN n G slot) HED.out.1 HED.out.2
    rw [← HT.out.1, ← HT.out.2.1, ← HT.out.2.2.1, ← HT.out.2.2.2] at RT
    unfold xV at RT
    refine RT.mono ?_; rintro _ U2 ⟨b2, c2, rfl, hSR2, hnc2, hcc2, hp2, hb2⟩
    clear RT
    have HS2 := Lib.hid hSR2
    have HW2 := Lib.hid (And.intro hnc2 hcc2)
    have HB2 := Lib.hid hb2
    have HP2 := Lib.hid (show b2 = b ∨ B + 1 + 1 + 1 ≤ b2 by have := HZ.out; omega)
    clear hSR2 hnc2 hcc2 hb2 hp2
    unfold xV
    go_upto_region 8 with fail
    generalize hV : World.alloc U2 _ = V
    obtain ⟨Y, hY⟩ : ∃ Y, Y = U2.heap.size := ⟨_, rfl⟩
    have y0 : V.cell? ⟨Y, 0, none⟩ = some (.slice (some ⟨b2, 0, none⟩) n c2) := by rw [hY]; exact Ext.made_in hV (Below.refl _ _) 0 _ rfl
    have y1 : V.cell? ⟨Y, 1, none⟩ = some (.int .i64 s') := by rw [hY]; exact Ext.made_in hV (Below.refl _ _) 1 _ rfl
    have HU2V := Lib.hid (show Below U2.heap.size U2 V by rw [← hV]; (repeat (first | exact Below.refl _ _ | assumption | refine below_new ?_ _ | refine Below.drew ?_ | refine below_drewN ?_ _ | refine below_on ?_ (by assumption))))
    have HUV := Lib.hid (show Below U1.heap.size U1 V from HB2.out.trans (HU2V.out.mono HB2.out.size))
    have HY := Lib.hid (show B + 1 + 1 + 1 ≤ Y by rw [hY]; have := HB2.out.size; have := HZ.out; omega)
    rw [← hY]
    clear hV hY
    have p1V : V.cell? ⟨B + 1, 1, none⟩ = some (.int .i64 slot) := Ext.use (Ext.cells p1) HUV.out
    have rV : V.heap[B + 1 + 1]? = some (.cells #[.slice none 0 0, .int .i64 0] 29 (0, 0)) := (HUV.out.block _ (by have := HZ.out; omega)).trans HR.out
    have HV := Lib.hid (HBU.out.ga.below HUV.out)
    have HSV := Lib.hid (HS2.out.below HU2V.out)
    have hq := HL.out
    have hy := HY.out
    have y0 : ∀ x : E4 V [q, g, m, B + 1 + 1], x.w.cell? ⟨Y, 0, none⟩ = some (.slice (some ⟨b2, 0, none⟩) n c2) := E4.cells y0 (by simp; omega)
    have y1 : ∀ x : E4 V [q, g, m, B + 1 + 1], x.w.cell? ⟨Y, 1, none⟩ = some (.int .i64 s') := E4.cells y1 (by simp; omega)
    have p1 : ∀ x : E4 V [q, g, m, B + 1 + 1], x.w.cell? ⟨B + 1, 1, none⟩ = some (.int .i64 slot) := E4.cells p1V (by simp; omega)
    have HRV := Lib.hid rV
    clear hq hy p1V rV z0 z1
    (with_reducible refine wp_region_mix (fun w' => ∃ x : E4 V [q, g, m, B + 1 + 1], w' = x.w) ?_ ?_ ?_ ?_; kernel_rfl; kernel_rfl; exact ⟨⟨V.drew, .of_below (Below.refl _ _).drew⟩, rfl⟩)
    repeat (first | ((with_reducible refine mix_plain (by kernel_rfl) ?_); (first | go_big_quiet_skip | (go_big_quiet_want; go_big_quiet_op; go_big_quiet_on)); (with_reducible refine mix_on ?_)) | ((with_reducible refine mix_skip (by kernel_rfl) ?_); go_big_quiet_skip; (with_reducible refine mix_on ?_)))
    ((with_reducible refine wpMix_chain (by kernel_rfl) (by kernel_rfl) (fun K HK => ?_)); go_step)
    refine (gdrop (HV.out.below (Below.refl _ _).drew) (edgeN n G slot) HED.out.1 HED.out.2 hs).mono ?_; rintro _ W9 ⟨rfl, h1, h2⟩
    obtain ⟨a1, a2, a3, a4⟩ := HT.out
    rw [← a1, ← a2, ← a3] at h1
    rw [← a4]
    clear a1 a2 a3 a4
    have H1 := Lib.hid h1
    have h2' : K3 V W9 q g m := (K3.of_below (Below.refl _ _).drew q g m).trans h2
    have H2 := Lib.hid h2'
    refine HK.out _ _ ⟨⟨W9, KX.of_k3 h2' (by simp)⟩, rfl⟩ ?_
    clear HK K h1 h2 h2'
    have rW : W9.heap[B + 1 + 1]? = some (.cells #[.slice none 0 0, .int .i64 0] 29 (0, 0)) := by
      have := HL.out
      exact (H2.out.block _ (by have := HUV.out.size; have := HZ.out; omega) (by omega) (by omega) (by omega)).trans HRV.out
    have rf : ∀ i, W9.frozen? ⟨B + 1 + 1, i, none⟩ = false := fun i => frozen_of_row _ _ _ _ _ rW
    have r0 : W9.cell? ⟨B + 1 + 1, 0, none⟩ = some (.slice none 0 0) := by rw [cell_of_row _ _ _ _ _ (0, 0) rW]; rfl
    have r1 : W9.cell? ⟨B + 1 + 1, 1, none⟩ = some (.int .i64 0) := by rw [cell_of_row _ _ _ _ _ (0, 0) rW]; rfl
    clear rW
    repeat (first | ((with_reducible refine mix_plain (by kernel_rfl) ?_); (first | go_big_quiet_skip | (go_big_quiet_want; go_big_quiet_op; go_big_quiet_on)); (with_reducible refine mix_on ?_)) | ((with_reducible refine mix_skip (by kernel_rfl) ?_); go_big_quiet_skip; (with_reducible refine mix_on ?_)))
    ((with_reducible refine wpMix_chain (by kernel_rfl) (by kernel_rfl) (fun K HK => ?_)); go_step)
    refine HK.out _ _ ⟨⟨_, ((KX.of_k3 H2.out (by simp)).trans (KX.set (by simp))).trans (KX.set (by simp))⟩, rfl⟩ ?_
    clear HK K
    repeat (first | ((with_reducible refine mix_plain (by kernel_rfl) ?_); (first | go_big_quiet_skip | (go_big_quiet_want; go_big_quiet_op; go_big_quiet_on)); (with_reducible refine mix_on ?_)) | ((with_reducible refine mix_skip (by kernel_rfl) ?_); go_big_quiet_skip; (with_reducible refine mix_on ?_)))
    refine wpMix_nil ?_
    go_wp2_with fail
    refine bodyPost_ret (v := .tuple #[.agg #[.slice (some ⟨b2, 0, none⟩) n c2, .int .i64 s'], .bool true]) (by simp [results, Try.results9, go_sem, r0, r1, World.cell?_setCell_same, World.cell?_setCell_other]) rfl ?_
    rw [HQ.out]
    have hBE := HBE.out
    obtain ⟨l1, l2, l3, l4⟩ := HL.out
    have hp2 := HP2.out
    have hbl : Below W9.heap.size W9 W9 := Below.refl _ _
    have hgh := HH.out
    have nq : b2 ≠ q ∧ b2 ≠ g ∧ b2 ≠ m := by
      rcases hp2 with rfl | hp2
      · exact ⟨hgh.bq, hgh.bg, hgh.bm⟩
      · omega
    have hob : Below w.heap.size w V := by
      have h1 := HWU.out
      exact h1.trans (HUV.out.mono h1.size)
    have HX : ∀ (W : World) (i : Nat) (v : Value), GA W q g m n H' G' s' → GA (W.setCell ⟨B + 1 + 1, i, none⟩ v) q g m n H' G' s' := by
      intro W i v hh
      obtain ⟨D, d1, d2⟩ := hh.held
      refine ⟨?_, ?_, ⟨D, d1.setCell (by show _ ≠ B + 1 + 1; omega) _, d2⟩, hh.g1, hh.g2, hh.g3, hh.n0, hh.n1, hh.gb, hh.sb⟩
      · exact hh.obj.of (Below.heap_setCell _ _ _ _ (by show _ ≠ B + 1 + 1; omega))
      · exact hh.gens.of (Below.heap_setCell _ _ _ _ (by show _ ≠ B + 1 + 1; omega))
    have HX3 : ∀ (W : World) (i : Nat) (v : Value), K3 w W q g m → K3 w (W.setCell ⟨B + 1 + 1, i, none⟩ v) q g m := by
      intro W i v hh
      exact ⟨hh.os, hh.tape, hh.output, by simpa [World.setCell] using hh.size, fun k hk a b c => (Below.heap_setCell _ _ _ _ (by show _ ≠ B + 1 + 1; omega)).trans (hh.block k hk a b c)⟩
    refine ⟨b2, c2, rfl, ⟨HX _ _ _ (HX _ _ _ H1.out), ((HSV.out.k3 H2.out nq.1 nq.2.1 nq.2.2).setOther (by omega) _).setOther (by omega) _, nq.1, nq.2.1, nq.2.2, HW2.out.1, HW2.out.2⟩, HX3 _ _ _ (HX3 _ _ _ ((K3.of_below hob q g m).trans H2.out)), ?_⟩
    rcases hp2 with rfl | hp2
    · exact .inl rfl
    · exact .inr (by omega)
set_option maxRecDepth 16000 in
set_option maxHeartbeats 4000000 in
theorem ldo_drop {w : World} {q g m b n c : Nat} {H : Nat → Bool} {G : Nat → Int} {s : Int} (h : GB w q g m b n c H G s) (slot e : Int) (k : Int) (k0 : ¬ k = 0) (k1 : ¬ k = 1) (e1 : 0 ≤ e) (e2 : e < 18446744073709551616) (hs : s < 1000000) (H' : Nat → Bool) (G' : Nat → Int) (s' : Int) (t : Bool) (HT : Hid (H' = dropH n H G e ∧ G' = dropG n H G e ∧ s' = (if leadsB n H G e = true then s else s + 1) ∧ t = leadsB n H G e)) :
    Calls Try.prog 9 #[.pointer (some ⟨q, 0, none⟩), xV b n c s, .agg #[.int .i64 k, .int .i64 slot, .int .u64 e]] w (DoPost w q g m b n H' G' s') := by
  have HED := Lib.hid (show 0 ≤ e ∧ e < 18446744073709551616 from ⟨e1, e2⟩)
  clear e1 e2
  refine Calls.veil fun Q HQ => ?_
  have HH := Lib.hid h
  have HN := Lib.hid (And.intro h.ga.n1 (And.intro h.ga.n0 (And.intro h.nc h.cc)))
  have HGG := Lib.hid h.ga.gb
  have HSB := Lib.hid h.ga.sb
  have HLT := Lib.hid (And.intro h.ga.lt h.lt)
  clear h
  unfold xV
  go_enter Try.func9, Try.ntmps9
  go_upto_region 1 with fail
  generalize hU : World.alloc _ _ = U
  obtain ⟨B, hB⟩ : ∃ B, B = w.heap.size := ⟨_, rfl⟩
  have hBU : Below w.heap.size w U := by rw [← hU]; (repeat (first | exact Below.refl _ _ | assumption | refine below_new ?_ _ | refine Below.drew ?_ | refine below_drewN ?_ _ | refine below_on ?_ (by assumption)))
  have e1 : (w.alloc (.cells #[.slice (some ⟨b, 0, none⟩) n c, .int .i64 s] 29)).heap.size = B + 1 := by rw [hB]; simp
  have e2 : ((w.alloc (.cells #[.slice (some ⟨b, 0, none⟩) n c, .int .i64 s] 29)).alloc (.cells #[.int .i64 k, .int .i64 slot, .int .u64 e] 35)).heap.size = B + 1 + 1 := by rw [hB]; simp
  have hz : U.heap.size = B + 1 + 1 + 1 := by rw [← hU, hB]; simp
  have b1 : Below (B + 1) (w.alloc (.cells #[.slice (some ⟨b, 0, none⟩) n c, .int .i64 s] 29)) U := by
    rw [← hU, ← e1]; (repeat (first | exact Below.refl _ _ | assumption | refine below_new ?_ _ | refine Below.drew ?_ | refine below_drewN ?_ _ | refine below_on ?_ (by assumption)))
  have b2 : Below (B + 1 + 1) ((w.alloc (.cells #[.slice (some ⟨b, 0, none⟩) n c, .int .i64 s] 29)).alloc (.cells #[.int .i64 k, .int .i64 slot, .int .u64 e] 35)) U := by
    rw [← hU, ← e2]; (repeat (first | exact Below.refl _ _ | assumption | refine below_new ?_ _ | refine Below.drew ?_ | refine below_drewN ?_ _ | refine below_on ?_ (by assumption)))
  have z0 : U.cell? ⟨w.heap.size, 0, none⟩ = some (.slice (some ⟨b, 0, none⟩) n c) := Ext.made_in rfl (by rw [e1]; exact b1) 0 _ rfl
  have z1 : U.cell? ⟨w.heap.size, 1, none⟩ = some (.int .i64 s) := Ext.made_in rfl (by rw [e1]; exact b1) 1 _ rfl
  have p0 : U.cell? ⟨w.heap.size + 1, 0, none⟩ = some (.int .i64 k) := by rw [← hB, ← e1]; exact Ext.made_in rfl (by rw [e2]; exact b2) 0 _ rfl
  have p1 : U.cell? ⟨w.heap.size + 1, 1, none⟩ = some (.int .i64 slot) := by rw [← hB, ← e1]; exact Ext.made_in rfl (by rw [e2]; exact b2) 1 _ rfl
  have p2 : U.cell? ⟨w.heap.size + 1, 2, none⟩ = some (.int .u64 e) := by rw [← hB, ← e1]; exact Ext.made_in rfl (by rw [e2]; exact b2) 2 _ rfl
  have hr : U.heap[w.heap.size + 1 + 1]? = some (.cells #[.slice none 0 0, .int .i64 0] 29 (0, 0)) := by rw [← hB, ← e2, ← hU]; exact heap_alloc_new _ _
  have HBU := Lib.hid (HH.out.below hBU)
  have HWU := Lib.hid hBU
  clear hU b1 b2 e1 e2 hBU
  rw [← hB] at z0 z1 p0 p1 p2 hr
  rw [← hB]
  have HBE := Lib.hid hB
  have HZ := Lib.hid hz
  have HR := Lib.hid hr
  have HL := Lib.hid (show q < B ∧ g < B ∧ m < B ∧ b < B from ⟨hB ▸ HLT.out.1.1, hB ▸ HLT.out.1.2.1, hB ▸ HLT.out.1.2.2, hB ▸ HLT.out.2⟩)
  clear hB hz hr
  · have k0' : (k == 0) = false := by rw [beq_eq_false_iff_ne]; exact k0
    have k1' : (k == 1) = false := by rw [beq_eq_false_iff_ne]; exact k1
    go_wp2_with fail
    have RT := rdrop (w := U) (b := b) (n := n) (c := c) (H := H) (G := G) s HBU.out.sr HN.out.1 HN.out.2.1 HN.out.2.2.1 HN.out.2.2.2 HGG.out HSB.out.1 hs e HED.out.1 HED.out.2
    rw [← HT.out.1, ← HT.out.2.1, ← HT.out.2.2.1, ← HT.out.2.2.2] at RT
    unfold xV at RT
    refine RT.mono ?_; rintro _ U2 ⟨b2, c2, rfl, hSR2, hnc2, hcc2, hp2, hb2⟩
    clear RT
    have HS2 := Lib.hid hSR2
    have HW2 := Lib.hid (And.intro hnc2 hcc2)
    have HB2 := Lib.hid hb2
    have HP2 := Lib.hid (show b2 = b ∨ B + 1 + 1 + 1 ≤ b2 by have := HZ.out; omega)
    clear hSR2 hnc2 hcc2 hb2 hp2
    unfold xV
    go_upto_region 8 with fail
    generalize hV : World.alloc U2 _ = V
    obtain ⟨Y, hY⟩ : ∃ Y, Y = U2.heap.size := ⟨_, rfl⟩
    have y0 : V.cell? ⟨Y, 0, none⟩ = some (.slice (some ⟨b2, 0, none⟩) n c2) := by rw [hY]; exact Ext.made_in hV (Below.refl _ _) 0 _ rfl
    have y1 : V.cell? ⟨Y, 1, none⟩ = some (.int .i64 s') := by rw [hY]; exact Ext.made_in hV (Below.refl _ _) 1 _ rfl
    have HU2V := Lib.hid (show Below U2.heap.size U2 V by rw [← hV]; (repeat (first | exact Below.refl _ _ | assumption | refine below_new ?_ _ | refine Below.drew ?_ | refine below_drewN ?_ _ | refine below_on ?_ (by assumption))))
    have HUV := Lib.hid (show Below U.heap.size U V from HB2.out.trans (HU2V.out.mono HB2.out.size))
    have HY := Lib.hid (show B + 1 + 1 + 1 ≤ Y by rw [hY]; have := HB2.out.size; have := HZ.out; omega)
    rw [← hY]
    clear hV hY
    have p1V : V.cell? ⟨B + 1, 1, none⟩ = some (.int .i64 slot) := Ext.use (Ext.cells p1) HUV.out
    have rV : V.heap[B + 1 + 1]? = some (.cells #[.slice none 0 0, .int .i64 0] 29 (0, 0)) := (HUV.out.block _ (by have := HZ.out; omega)).trans HR.out
    have HV := Lib.hid (HBU.out.ga.below HUV.out)
    have HSV := Lib.hid (HS2.out.below HU2V.out)
    have hq := HL.out
    have hy := HY.out
    have y0 : ∀ x : E4 V [q, g, m, B + 1 + 1], x.w.cell? ⟨Y, 0, none⟩ = some (.slice (some ⟨b2, 0, none⟩) n c2) := E4.cells y0 (by simp; omega)
    have y1 : ∀ x : E4 V [q, g, m, B + 1 + 1], x.w.cell? ⟨Y, 1, none⟩ = some (.int .i64 s') := E4.cells y1 (by simp; omega)
    have p1 : ∀ x : E4 V [q, g, m, B + 1 + 1], x.w.cell? ⟨B + 1, 1, none⟩ = some (.int .i64 slot) := E4.cells p1V (by simp; omega)
    have HRV := Lib.hid rV
    clear hq hy p1V rV z0 z1 p0 p2
    (with_reducible refine wp_region_mix (fun w' => ∃ x : E4 V [q, g, m, B + 1 + 1], w' = x.w) ?_ ?_ ?_ ?_; kernel_rfl; kernel_rfl; exact ⟨⟨V.drew, .of_below (Below.refl _ _).drew⟩, rfl⟩)
    repeat (first | ((with_reducible refine mix_plain (by kernel_rfl) ?_); (first | go_big_quiet_skip | (go_big_quiet_want; go_big_quiet_op; go_big_quiet_on)); (with_reducible refine mix_on ?_)) | ((with_reducible refine mix_skip (by kernel_rfl) ?_); go_big_quiet_skip; (with_reducible refine mix_on ?_)))
    ((with_reducible refine wpMix_chain (by kernel_rfl) (by kernel_rfl) (fun K HK => ?_)); go_step)
    refine (gdrop (HV.out.below (Below.refl _ _).drew) e HED.out.1 HED.out.2 hs).mono ?_; rintro _ W9 ⟨rfl, h1, h2⟩
    obtain ⟨a1, a2, a3, a4⟩ := HT.out
    rw [← a1, ← a2, ← a3] at h1
    rw [← a4]
    clear a1 a2 a3 a4
    have H1 := Lib.hid h1
    have h2' : K3 V W9 q g m := (K3.of_below (Below.refl _ _).drew q g m).trans h2
    have H2 := Lib.hid h2'
    refine HK.out _ _ ⟨⟨W9, KX.of_k3 h2' (by simp)⟩, rfl⟩ ?_
    clear HK K h1 h2 h2'
    have rW : W9.heap[B + 1 + 1]? = some (.cells #[.slice none 0 0, .int .i64 0] 29 (0, 0)) := by
      have := HL.out
      exact (H2.out.block _ (by have := HUV.out.size; have := HZ.out; omega) (by omega) (by omega) (by omega)).trans HRV.out
    have rf : ∀ i, W9.frozen? ⟨B + 1 + 1, i, none⟩ = false := fun i => frozen_of_row _ _ _ _ _ rW
    have r0 : W9.cell? ⟨B + 1 + 1, 0, none⟩ = some (.slice none 0 0) := by rw [cell_of_row _ _ _ _ _ (0, 0) rW]; rfl
    have r1 : W9.cell? ⟨B + 1 + 1, 1, none⟩ = some (.int .i64 0) := by rw [cell_of_row _ _ _ _ _ (0, 0) rW]; rfl
    clear rW
    repeat (first | ((with_reducible refine mix_plain (by kernel_rfl) ?_); (first | go_big_quiet_skip | (go_big_quiet_want; go_big_quiet_op; go_big_quiet_on)); (with_reducible refine mix_on ?_)) | ((with_reducible refine mix_skip (by kernel_rfl) ?_); go_big_quiet_skip; (with_reducible refine mix_on ?_)))
    ((with_reducible refine wpMix_chain (by kernel_rfl) (by kernel_rfl) (fun K HK => ?_)); go_step)
    refine HK.out _ _ ⟨⟨_, ((KX.of_k3 H2.out (by simp)).trans (KX.set (by simp))).trans (KX.set (by simp))⟩, rfl⟩ ?_
    clear HK K
    repeat (first | ((with_reducible refine mix_plain (by kernel_rfl) ?_); (first | go_big_quiet_skip | (go_big_quiet_want; go_big_quiet_op; go_big_quiet_on)); (with_reducible refine mix_on ?_)) | ((with_reducible refine mix_skip (by kernel_rfl) ?_); go_big_quiet_skip; (with_reducible refine mix_on ?_)))
    refine wpMix_nil ?_
    go_wp2_with fail
    refine bodyPost_ret (v := .tuple #[.agg #[.slice (some ⟨b2, 0, none⟩) n c2, .int .i64 s'], .bool true]) (by simp [results, Try.results9, go_sem, r0, r1, World.cell?_setCell_same, World.cell?_setCell_other]) rfl ?_
    rw [HQ.out]
    have hBE := HBE.out
    obtain ⟨l1, l2, l3, l4⟩ := HL.out
    have hp2 := HP2.out
    have hbl : Below W9.heap.size W9 W9 := Below.refl _ _
    have hgh := HH.out
    have nq : b2 ≠ q ∧ b2 ≠ g ∧ b2 ≠ m := by
      rcases hp2 with rfl | hp2
      · exact ⟨hgh.bq, hgh.bg, hgh.bm⟩
      · omega
    have hob : Below w.heap.size w V := by
      have h1 := HWU.out
      exact h1.trans (HUV.out.mono h1.size)
    have HX : ∀ (W : World) (i : Nat) (v : Value), GA W q g m n H' G' s' → GA (W.setCell ⟨B + 1 + 1, i, none⟩ v) q g m n H' G' s' := by
      intro W i v hh
      obtain ⟨D, d1, d2⟩ := hh.held
      refine ⟨?_, ?_, ⟨D, d1.setCell (by show _ ≠ B + 1 + 1; omega) _, d2⟩, hh.g1, hh.g2, hh.g3, hh.n0, hh.n1, hh.gb, hh.sb⟩
      · exact hh.obj.of (Below.heap_setCell _ _ _ _ (by show _ ≠ B + 1 + 1; omega))
      · exact hh.gens.of (Below.heap_setCell _ _ _ _ (by show _ ≠ B + 1 + 1; omega))
    have HX3 : ∀ (W : World) (i : Nat) (v : Value), K3 w W q g m → K3 w (W.setCell ⟨B + 1 + 1, i, none⟩ v) q g m := by
      intro W i v hh
      exact ⟨hh.os, hh.tape, hh.output, by simpa [World.setCell] using hh.size, fun k hk a b c => (Below.heap_setCell _ _ _ _ (by show _ ≠ B + 1 + 1; omega)).trans (hh.block k hk a b c)⟩
    refine ⟨b2, c2, rfl, ⟨HX _ _ _ (HX _ _ _ H1.out), ((HSV.out.k3 H2.out nq.1 nq.2.1 nq.2.2).setOther (by omega) _).setOther (by omega) _, nq.1, nq.2.1, nq.2.2, HW2.out.1, HW2.out.2⟩, HX3 _ _ _ (HX3 _ _ _ ((K3.of_below hob q g m).trans H2.out)), ?_⟩
    rcases hp2 with rfl | hp2
    · exact .inl rfl
    · exact .inr (by omega)
end Go.Proofs.Ytlgongddgbfdpaa
