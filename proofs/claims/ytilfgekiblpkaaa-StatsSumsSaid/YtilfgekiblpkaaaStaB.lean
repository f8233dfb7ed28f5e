/- Layer 38: the function that StatsCalls hands to the iterator. -/
import Derived.Test.YtilfgekiblpkaaaStaA
namespace Go.Proofs.Ytilfgekiblpkaaa
open Go.RowKit
set_option linter.unusedVariables false
set_option linter.unusedSimpArgs false
/-- What the function's two boxes hold when so many opers were told: behind z, whose blocks lie as they lay. -/
structure CB (z : World) (i : Nat) (W : World) : Prop where
  cnt : Boxed W z.heap.size 3 (.int .i64 i)
  fine : Boxed W (z.heap.size + 1) 4 (.bool true)
  bel : Below z.heap.size z W
theorem CB.below {z : World} {i : Nat} {W W' : World} (h : CB z i W) (hb : Below W.heap.size W W') : CB z i W' :=
  ⟨(hb.block _ h.cnt.lt).trans h.cnt, (hb.block _ h.fine.lt).trans h.fine, h.bel.trans (hb.mono h.bel.size)⟩
set_option maxHeartbeats 8000000 in
theorem hcb (z : World) (a3 a4 : Nat) (till : Int) (X : List Opr) (p : Option Addr) (c m : Nat) (hm : m = X.length) (h3 : z.cell? ⟨a3, 0, none⟩ = some (.slice p m c)) (h4 : z.cell? ⟨a4, 0, none⟩ = some (.int .i64 till)) (hc1 : m ≤ c) (hc2 : c ≤ 9223372036854775807)
    (HX : Hid (0 < m → ∃ g, p = some ⟨g, 0, none⟩ ∧ ∀ (i : Nat) (x : Opr), X[i]? = some x → ∃ u, OpC z g (i * 13) x u ∧ PR z u x.an.ps)) (hX : m ≤ 1000)
    (i : Nat) (x : Opr) (px : Option Addr) (cx : Nat) (W : World) (hJ : CB z i W) (hx : X[i]? = some x) (hP : PR W (.slice px x.an.ps.length cx) x.an.ps) (hps : x.an.ps.length ≤ 1500) :
    Calls Try.prog 11 #[tv (x, px, cx), .pointer (some ⟨z.heap.size + 1, 0, none⟩), .pointer (some ⟨z.heap.size, 0, none⟩), .pointer (some ⟨a3, 0, none⟩), .pointer (some ⟨a4, 0, none⟩)] W fun e W' => ∃ bb, e = .returned (.bool bb) ∧ CB z (i + 1) W' ∧ (bb = true → ((i + 1 : Nat) : Int) ≠ till) ∧ (bb = false → ((i + 1 : Nat) : Int) = till) := by
  refine Calls.veil fun Q HQ => ?_
  have him : i < m := by rw [hm]; exact (List.getElem?_eq_some_iff.1 hx).1
  obtain ⟨g, rfl, hD⟩ := HX.out (by omega)
  obtain ⟨u, hC, hPu⟩ := hD i x hx
  clear hD
  have HPX := Lib.hid hP
  have HPY := Lib.hid hPu
  have HPS := Lib.hid hps
  have HJ := Lib.hid hJ
  have HA4 := Lib.hid (show a4 ≠ z.heap.size by have := World.block_lt_of_cell? z ⟨a4, 0, none⟩ h4; simp only at this; omega)
  obtain ⟨py, cy, rfl, _, _⟩ := HPY.out.slice
  clear hP hPu hps hx hm
  dsimp only [tv]
  go_enter Try.func11, Try.ntmps11
  go_upto_region 1 with fail
  generalize hV : World.alloc W _ = V
  obtain ⟨Z, hZ⟩ : ∃ Z, Z = W.heap.size := ⟨_, rfl⟩
  rw [← hZ]
  have HRV := Lib.hid (show R13 V Z x (.slice px x.an.ps.length cx) by
    rw [← hV, hZ]; exact heap_alloc_new W _)
  have HVB := Lib.hid (show Below W.heap.size W V by rw [← hV]; exact below_new (Below.refl _ _) _)
  clear hV hZ
  have HJV := Lib.hid (HJ.out.below HVB.out)
  have HPX := Lib.hid (HPX.out.below HVB.out)
  have HPY := Lib.hid (HPY.out.below HJV.out.bel)
  have b1 := Ext.cells HJV.out.fine.cell
  have b2 := Ext.cells HJV.out.cnt.cell
  have b3 := Ext.cells (Ext.cell ⟨V, HJV.out.bel⟩ h3)
  have b4 := Ext.cells (Ext.cell ⟨V, HJV.out.bel⟩ h4)
  obtain ⟨x0, x1, x2, x3, x4, x5, x6, x7, x8, x9, x10, x11, x12⟩ := hC.below HJV.out.bel
  obtain ⟨e0, e1, e2, e3, e4, e5, e6, e7, e8, e9, e10, e11, e12⟩ := HRV.out.cells
  simp only [Nat.zero_add] at e0 e1 e2 e3 e4 e5 e6 e7 e8 e9 e10 e11 e12
  clear hC h3 h4
  have x0 := Ext.cells x0; have x1 := Ext.cells x1; have x2 := Ext.cells x2; have x3 := Ext.cells x3; have x4 := Ext.cells x4; have x5 := Ext.cells x5; have x6 := Ext.cells x6; have x7 := Ext.cells x7; have x8 := Ext.cells x8; have x9 := Ext.cells x9; have x10 := Ext.cells x10; have x11 := Ext.cells x11; have x12 := Ext.cells x12
  have e0 := Ext.cells e0; have e1 := Ext.cells e1; have e2 := Ext.cells e2; have e3 := Ext.cells e3; have e4 := Ext.cells e4; have e5 := Ext.cells e5; have e6 := Ext.cells e6; have e7 := Ext.cells e7; have e8 := Ext.cells e8; have e9 := Ext.cells e9; have e10 := Ext.cells e10; have e11 := Ext.cells e11; have e12 := Ext.cells e12
  (with_reducible refine wp_region_mix (fun w' => ∃ y : Ext V, w' = y.w) ?_ ?_ ?_ ?_; kernel_rfl; kernel_rfl; exact ⟨⟨V.drew, (Below.refl _ _).drew⟩, rfl⟩)
  repeat (first | ((with_reducible refine mix_skip (by kernel_rfl) ?_); go_big_quiet_skip; (with_reducible refine mix_on ?_)) | ((with_reducible refine mix_plain (by kernel_rfl) ?_); (first | go_big_quiet_skip | (go_big_quiet_want; go_big_quiet_op; go_big_quiet_on)); (with_reducible refine mix_on ?_)))
  ((with_reducible refine wpMix_chain (by kernel_rfl) (by kernel_rfl) (fun K HK => ?_)); go_step)
  refine (rsame11e x _ _ _ (HPX.out.below (Below.refl _ _).drew) (HPY.out.below (Below.refl _ _).drew) (by have := HPS.out; omega)).mono ?_; rintro _ z8 ⟨rfl, hb2⟩
  have HZ8 := Lib.hid (show Below V.heap.size V z8 from below_on (Below.refl _ _).drew hb2)
  refine HK.out _ _ ⟨⟨z8, HZ8.out⟩, rfl⟩ ?_
  clear HK K hb2
  repeat (first | ((with_reducible refine mix_skip (by kernel_rfl) ?_); go_big_quiet_skip; (with_reducible refine mix_on ?_)) | ((with_reducible refine mix_plain (by kernel_rfl) ?_); (first | go_big_quiet_skip | (go_big_quiet_want; go_big_quiet_op; go_big_quiet_on)); (with_reducible refine mix_on ?_)))
  have f1 := (HJV.out.below HZ8.out).fine.frozen
  have g1 := (HJV.out.below HZ8.out).fine.cell
  ((with_reducible refine wpMix_chain (by kernel_rfl) (by kernel_rfl) (fun K HK => ?_)); go_step)
  generalize hU : World.setCell _ _ _ = U
  have HUB := Lib.hid (show Below V.heap.size V U by
    rw [← hU]
    refine ⟨HZ8.out.os, HZ8.out.tape, HZ8.out.output, by simpa using HZ8.out.size, fun k hk => ?_⟩
    by_cases e : k = z.heap.size + 1
    · subst e
      rw [heap_setCell_same _ _ _ _ _ _ (HJV.out.below HZ8.out).fine]
      exact HJV.out.fine.symm
    · rw [Below.heap_setCell _ _ _ _ (by exact e)]
      exact HZ8.out.block k hk)
  clear hU
  refine HK.out _ _ ⟨⟨U, HUB.out⟩, rfl⟩ ?_
  clear HK K
  refine wpMix_nil ?_
  clear x0 x1 x2 x3 x4 x5 x6 x7 x8 x9 x10 x11 x12 e0 e1 e2 e3 e4 e5 e6 e7 e8 e9 e10 e11 e12 b1 b2 b3 f1 g1
  have HJU := Lib.hid (HJV.out.below HUB.out)
  have b2 := HJU.out.cnt.cell
  have f2 := HJU.out.cnt.frozen
  have b4 := b4 ⟨U, HUB.out⟩
  simp only at b4
  have ha4 := HA4.out
  by_cases hte : ((i : Int) + 1) = till
  · have HTE := Lib.hid hte
    go_wp2_with fail
    have e : ((i + 1 : Nat) : Int) = till := by have := HTE.out; omega
    rw [HQ.out]
    refine ⟨false, rfl, ⟨?_, HJU.out.fine.other (by omega) _, HJU.out.bel.setCell (p := ⟨z.heap.size, 0, none⟩) (Nat.le_refl _) _⟩, by simp, fun _ => e⟩
    rw [← e]
    exact HJU.out.cnt.set _
  · have HTE := Lib.hid hte
    go_wp2_with fail
    have hb : ((i : Int) + 1 != till) = true := by rw [bne_iff_ne]; exact HTE.out
    rw [hb, HQ.out]
    refine ⟨true, rfl, ⟨HJU.out.cnt.set _, HJU.out.fine.other (by omega) _, HJU.out.bel.setCell (p := ⟨z.heap.size, 0, none⟩) (Nat.le_refl _) _⟩, fun _ => ?_, by simp⟩
    have := HTE.out
    omega
end Go.Proofs.Ytilfgekiblpkaaa
