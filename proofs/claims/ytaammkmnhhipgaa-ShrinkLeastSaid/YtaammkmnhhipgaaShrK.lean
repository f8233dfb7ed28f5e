/- Layer 42: Least. -/
import Derived.Test.YtaammkmnhhipgaaShrJ
namespace Go.Proofs.Ytaammkmnhhipgaa
open Go.RowKit
set_option linter.unusedVariables false
set_option linter.unusedSimpArgs false
def leastF (P : List Ent → Bool) (l : List Ent) : List Ent × Int := if P l then halves P (l.length / 2) (l.length / 2) l 1 else (l, 1)
theorem qN : ∀ w : World, (binOp BinOp.eql 34 .nilFunc .nilFunc).run Try.prog w = .ok (.bool true) w := fun _ => by kernel_rfl
theorem qF (fid : FuncId) (caps : Array Value) : ∀ w : World, (binOp BinOp.eql 34 (.func (.func fid) #[] caps) .nilFunc).run Try.prog w = .ok (.bool false) w := fun _ => by kernel_rfl
theorem own_before {w : World} {B : Nat} {v : Value} {l : List Ent} (h : OwnL w B v l) {b : Nat} (hb : w.heap.size ≤ b) : Aside b v := by
  intro p n c e
  have := (World.ownsRow.lt h p.block (by rw [e]; rfl)).2
  omega
theorem own_res {w : World} {B : Nat} {v : Value} {l : List Ent} (h : OwnL w B v l) {b : Nat} (hb : b < B) : Aside b v := own_aside h hb
set_option maxHeartbeats 4000000 in
theorem sleast (T S C : Int) (v : Value) (fid : FuncId) (caps : Array Value) (l : List Ent) (w : World) (P : List Ent → Bool) (W : World → Prop) (h : EL w v l) (hn : l.length ≤ 1000)
    (hP : Says fid caps T S C P W) (hW : ∀ b, w.heap.size ≤ b → Stays W b) (hw : W w) (hcf : ∀ (args : Array Value) (w : World), (callFunc fid args).run Try.prog w = .ok (.enter fid args) w) :
    Calls Try.prog 5 #[.agg #[.int .i64 T, .int .i64 S, .int .u64 C, v], .func (.func fid) #[] caps] w fun e w' => ∃ v', e = .returned (.tuple #[.agg #[.int .i64 T, .int .i64 S, .int .u64 C, v'], .int .i64 (leastF P l).2]) ∧ EL w' v' (leastF P l).1 ∧ Below w.heap.size w w' := by
  refine Calls.veil fun Q HQ => ?_
  have HE := Lib.hid h
  obtain ⟨p, c, rfl, a1, a2⟩ := h.slice
  have HPR := Lib.hid (And.intro hP (And.intro hW hw))
  have HCF := Lib.hid hcf
  clear h hP hW hw hcf
  have hq := qF fid caps
  go_enter Try.func5, Try.ntmps5
  go_wp2_with fail
  clear hq
  generalize hV : World.alloc (World.alloc w _) _ = V
  have hs : V.heap.size = w.heap.size + 2 := by rw [← hV]; simp
  have HBV := Lib.hid (show Below w.heap.size w V by rw [← hV]; (repeat (first | exact Below.refl _ _ | assumption | refine below_new ?_ _ | refine Below.drew ?_ | refine below_drewN ?_ _ | refine below_on ?_ (by assumption))))
  have hr1 : V.heap[w.heap.size + 1]? = some (.cells #[.int .i64 0, .int .i64 0, .int .u64 0, .slice none 0 0] 27 (0, 0)) := by
    rw [← hV]; exact (by simp : (w.alloc (.cells #[.int .i64 T, .int .i64 S, .int .u64 C, .slice p l.length c] 27)).heap.size = w.heap.size + 1) ▸ heap_alloc_new (w.alloc (.cells #[.int .i64 T, .int .i64 S, .int .u64 C, .slice p l.length c] 27)) _
  have HEV := Lib.hid (HE.out.below HBV.out)
  clear hV
  refine (scopied T S C l _ V HEV.out (by omega)).mono ?_; rintro _ w2 ⟨v2, rfl, ho2, hb2⟩
  have HB2 := Lib.hid hb2
  have HO2 := Lib.hid ho2
  obtain ⟨p2, c2, rfl, _, _⟩ := own_slice ho2
  clear ho2 hb2
  go_upto_region 4 with fail
  generalize hU : World.alloc w2 _ = U
  have HKU := Lib.hid (show KAt U w2.heap.size T S C (.slice p2 l.length c2) (.func (.func fid) #[] caps) 0 by rw [← hU]; exact heap_alloc_new w2 _)
  have HB := Lib.hid (show Below w.heap.size w U ∧ Below w2.heap.size w2 U ∧ w.heap.size + 2 ≤ w2.heap.size ∧ w.heap.size + 1 < U.heap.size from by
    have h1 := HB2.out.size
    have h2 : w2.heap.size ≤ U.heap.size := by rw [← hU]; simp
    refine ⟨?_, ?_, by omega, by omega⟩
    · rw [← hU]; exact (HBV.out.trans (HB2.out.mono (by omega))).alloc (by omega) _
    · rw [← hU]; exact (Below.refl _ _).alloc (Nat.le_refl _) _)
  have HR1 := Lib.hid (show U.heap[w.heap.size + 1]? = some (.cells #[.int .i64 0, .int .i64 0, .int .u64 0, .slice none 0 0] 27 (0, 0)) by
    rw [HB.out.2.1.block _ (by have := HB.out.2.2.1; omega), HB2.out.block _ (by omega)]; exact hr1)
  have HEU := Lib.hid ((own_EL HO2.out).below HB.out.2.1)
  have HAU := Lib.hid (own_before (b := w2.heap.size) HO2.out (Nat.le_refl _))
  have HRES := Lib.hid (own_aside (b := w.heap.size + 1) HO2.out (by omega))
  have HSZ := Lib.hid (show w.heap.size ≤ w2.heap.size by have := HB.out.2.2.1; omega)
  clear hU hs hr1
  obtain ⟨b, hb⟩ : ∃ b, b = w2.heap.size := ⟨_, rfl⟩
  rw [← hb] at HKU HB HAU HSZ
  obtain ⟨k0, k1, k2, k3, _, _, _, _⟩ := HKU.out.cells
  have HWU := Lib.hid (show W U from HPR.out.2.1 U.heap.size (by have := HB.out.1.size; omega) _ _ HPR.out.2.2 ⟨HB.out.1.os, HB.out.1.tape, HB.out.1.output, HB.out.1.size, fun i hi _ => HB.out.1.block i hi⟩)
  rw [← hb]
  clear HB2 HO2 hb
  go_wp2_with fail
  refine (sisbad b T S C (.slice p2 l.length c2) fid caps 0 l (.slice p2 l.length c2) U P W HKU.out HEU.out HAU.out hn HPR.out.1 (HPR.out.2.1 b HSZ.out) HWU.out (Int.le_refl _) (by omega) HCF.out).mono ?_
  rintro _ w3 ⟨rfl, hx3, hk3⟩
  have HX3 := Lib.hid hx3
  have HK3 := Lib.hid (show KAt w3 b T S C (.slice p2 l.length c2) (.func (.func fid) #[] caps) 1 from hk3)
  have HE3 := Lib.hid (ER.kx HEU.out HAU.out hx3)
  clear hx3 hk3 k0 k1 k2 k3
  cases hp : P l with
  | true =>
    have HLF := Lib.hid (show leastF P l = halves P (l.length / 2) (l.length / 2) l 1 by unfold leastF; rw [if_pos hp])
    generalize leastF P l = r at HLF HQ
    clear hp
    go_wp2_with fail
    refine (srounds b T S C (.slice p2 l.length c2) fid caps 1 l w3 P W HK3.out HE3.out HAU.out hn HPR.out.1 (HPR.out.2.1 b HSZ.out) (HPR.out.2.1 b HSZ.out _ _ HWU.out HX3.out) (by omega) (by omega) HCF.out).mono ?_
    rintro _ w6 ⟨v6, rfl, hk6, he6, ha6, hx6⟩
    rw [← HLF.out] at hk6 he6
    have HX6 := Lib.hid (HX3.out.trans hx6)
    have HK6 := Lib.hid hk6
    have HE6 := Lib.hid he6
    have HA6 := Lib.hid (ha6 (w.heap.size + 1) (by have := HX3.out.size; have := HB.out.2.2.2; omega) HRES.out)
    clear hk6 he6 ha6 hx6 HLF

    have HRS := Lib.hid (show w6.heap[w.heap.size + 1]? = some (.cells #[.int .i64 0, .int .i64 0, .int .u64 0, .slice none 0 0] 27 (0, 0)) by
      have h1 := HB.out.2.2.2
      rw [HX6.out.block (w.heap.size + 1) h1 (by have := HB.out.2.2.1; omega)]
      exact HR1.out)
    obtain ⟨k0, k1, k2, k3, _, k5, _, _⟩ := HK6.out.cells
    obtain ⟨p6, c6, rfl, _, _⟩ := HE6.out.slice
    have hb6 : b ≠ w.heap.size + 1 := by have := HB.out.2.2.1; omega
    have z0 := KX.cells k0 hb6; have z1 := KX.cells k1 hb6; have z2 := KX.cells k2 hb6; have z3 := KX.cells k3 hb6; have z5 := KX.cells k5 hb6
    clear k0 k1 k2 k3 k5 hb6
    go_upto_region 6 with fail
    (with_reducible refine wp_region_mix (fun w' => ∃ x : KX (w.heap.size + 1) w6, w' = x.w) ?_ ?_ ?_ ?_; kernel_rfl; kernel_rfl; exact ⟨⟨w6.drew, (Kx.refl _ _).drew⟩, rfl⟩)
    have HD := Lib.hid (show Kx (w.heap.size + 1) w6 w6.drew ∧ w6.drew.heap = w6.heap from ⟨(Kx.refl _ _).drew, rfl⟩)
    generalize w6.drew = w7 at *
    repeat (first | ((with_reducible refine mix_plain (by kernel_rfl) ?_); (first | go_big_quiet_skip | (go_big_quiet_want; go_big_quiet_op; go_big_quiet_on)); (with_reducible refine mix_on ?_)) | ((with_reducible refine mix_skip (by kernel_rfl) ?_); go_big_quiet_skip; (with_reducible refine mix_on ?_)))
    have f0 : w7.cell? ⟨w.heap.size + 1, 0, none⟩ = some (.int .i64 0) := by rw [cell_of_row w7 _ _ _ _ (0, 0) (by rw [HD.out.2]; exact HRS.out)]; rfl
    have f1 : w7.cell? ⟨w.heap.size + 1, 1, none⟩ = some (.int .i64 0) := by rw [cell_of_row w7 _ _ _ _ (0, 0) (by rw [HD.out.2]; exact HRS.out)]; rfl
    have f2 : w7.cell? ⟨w.heap.size + 1, 2, none⟩ = some (.int .u64 0) := by rw [cell_of_row w7 _ _ _ _ (0, 0) (by rw [HD.out.2]; exact HRS.out)]; rfl
    have f3 : w7.cell? ⟨w.heap.size + 1, 3, none⟩ = some (.slice none 0 0) := by rw [cell_of_row w7 _ _ _ _ (0, 0) (by rw [HD.out.2]; exact HRS.out)]; rfl
    have ff : ∀ i, w7.frozen? ⟨w.heap.size + 1, i, none⟩ = false := fun i => frozen_of_row w7 _ _ _ _ (by rw [HD.out.2]; exact HRS.out)
    ((with_reducible refine wpMix_chain (by kernel_rfl) (by kernel_rfl) (fun K HK => ?_)); go_step)
    refine HK.out _ _ ⟨⟨_, ((((HD.out.1).set 0 _).set 1 _).set 2 _).set 3 _⟩, rfl⟩ ?_
    clear HK K
    repeat (first | ((with_reducible refine mix_plain (by kernel_rfl) ?_); (first | go_big_quiet_skip | (go_big_quiet_want; go_big_quiet_op; go_big_quiet_on)); (with_reducible refine mix_on ?_)) | ((with_reducible refine mix_skip (by kernel_rfl) ?_); go_big_quiet_skip; (with_reducible refine mix_on ?_)))
    refine wpMix_nil ?_
    generalize hY : World.setCell _ _ _ = Y
    have hXY : Kx (w.heap.size + 1) w6 Y := by rw [← hY]; exact ((((HD.out.1).set 0 _).set 1 _).set 2 _).set 3 _
    have g0 : Y.cell? ⟨w.heap.size + 1, 0, none⟩ = some (.int .i64 T) := by subst hY; go_simp
    have g1 : Y.cell? ⟨w.heap.size + 1, 1, none⟩ = some (.int .i64 S) := by subst hY; go_simp
    have g2 : Y.cell? ⟨w.heap.size + 1, 2, none⟩ = some (.int .u64 C) := by subst hY; go_simp
    have g3 : Y.cell? ⟨w.heap.size + 1, 3, none⟩ = some (.slice p6 r.1.length c6) := by subst hY; go_simp
    clear hY f0 f1 f2 f3 ff z0 z1 z2 z3 z5
    have HF := Lib.hid (show EL Y (.slice p6 r.1.length c6) r.1 ∧ Below w.heap.size w Y by
      refine ⟨ER.kx HE6.out HA6.out hXY, ?_⟩
      have h1 : Below w.heap.size U w6 := HX6.out.to (by have := HB.out.2.2.1; omega) (by have := HB.out.2.2.2; omega)
      have h2 : Below w.heap.size w6 Y := hXY.to (by omega) (by have := h1.size; have := HB.out.2.2.2; omega)
      exact (HB.out.1.trans h1).trans h2)
    clear hXY
    go_wp2_with fail
    refine bodyPost_ret (v := .tuple #[.agg #[.int .i64 T, .int .i64 S, .int .u64 C, .slice p6 r.1.length c6], .int .i64 r.2]) (by simp [results, Try.results5, go_sem, g0, g1, g2, g3]) rfl ?_
    rw [HQ.out]
    exact ⟨_, rfl, HF.out⟩
  | false =>
    have HLF : leastF P l = (l, 1) := by unfold leastF; rw [hp]; rfl
    rw [HLF] at HQ
    clear hp HLF
    have HX6 := HX3
    have HK6 := HK3
    have HE6 := HE3
    have HA6 := HRES
    go_wp2_with fail

    have HRS := Lib.hid (show w3.heap[w.heap.size + 1]? = some (.cells #[.int .i64 0, .int .i64 0, .int .u64 0, .slice none 0 0] 27 (0, 0)) by
      have h1 := HB.out.2.2.2
      rw [HX6.out.block (w.heap.size + 1) h1 (by have := HB.out.2.2.1; omega)]
      exact HR1.out)
    obtain ⟨k0, k1, k2, k3, _, k5, _, _⟩ := HK6.out.cells
    have hb6 : b ≠ w.heap.size + 1 := by have := HB.out.2.2.1; omega
    have z0 := KX.cells k0 hb6; have z1 := KX.cells k1 hb6; have z2 := KX.cells k2 hb6; have z3 := KX.cells k3 hb6; have z5 := KX.cells k5 hb6
    clear k0 k1 k2 k3 k5 hb6
    go_upto_region 6 with fail
    (with_reducible refine wp_region_mix (fun w' => ∃ x : KX (w.heap.size + 1) w3, w' = x.w) ?_ ?_ ?_ ?_; kernel_rfl; kernel_rfl; exact ⟨⟨w3.drew, (Kx.refl _ _).drew⟩, rfl⟩)
    have HD := Lib.hid (show Kx (w.heap.size + 1) w3 w3.drew ∧ w3.drew.heap = w3.heap from ⟨(Kx.refl _ _).drew, rfl⟩)
    generalize w3.drew = w7 at *
    repeat (first | ((with_reducible refine mix_plain (by kernel_rfl) ?_); (first | go_big_quiet_skip | (go_big_quiet_want; go_big_quiet_op; go_big_quiet_on)); (with_reducible refine mix_on ?_)) | ((with_reducible refine mix_skip (by kernel_rfl) ?_); go_big_quiet_skip; (with_reducible refine mix_on ?_)))
    have f0 : w7.cell? ⟨w.heap.size + 1, 0, none⟩ = some (.int .i64 0) := by rw [cell_of_row w7 _ _ _ _ (0, 0) (by rw [HD.out.2]; exact HRS.out)]; rfl
    have f1 : w7.cell? ⟨w.heap.size + 1, 1, none⟩ = some (.int .i64 0) := by rw [cell_of_row w7 _ _ _ _ (0, 0) (by rw [HD.out.2]; exact HRS.out)]; rfl
    have f2 : w7.cell? ⟨w.heap.size + 1, 2, none⟩ = some (.int .u64 0) := by rw [cell_of_row w7 _ _ _ _ (0, 0) (by rw [HD.out.2]; exact HRS.out)]; rfl
    have f3 : w7.cell? ⟨w.heap.size + 1, 3, none⟩ = some (.slice none 0 0) := by rw [cell_of_row w7 _ _ _ _ (0, 0) (by rw [HD.out.2]; exact HRS.out)]; rfl
    have ff : ∀ i, w7.frozen? ⟨w.heap.size + 1, i, none⟩ = false := fun i => frozen_of_row w7 _ _ _ _ (by rw [HD.out.2]; exact HRS.out)
    ((with_reducible refine wpMix_chain (by kernel_rfl) (by kernel_rfl) (fun K HK => ?_)); go_step)
    refine HK.out _ _ ⟨⟨_, ((((HD.out.1).set 0 _).set 1 _).set 2 _).set 3 _⟩, rfl⟩ ?_
    clear HK K
    repeat (first | ((with_reducible refine mix_plain (by kernel_rfl) ?_); (first | go_big_quiet_skip | (go_big_quiet_want; go_big_quiet_op; go_big_quiet_on)); (with_reducible refine mix_on ?_)) | ((with_reducible refine mix_skip (by kernel_rfl) ?_); go_big_quiet_skip; (with_reducible refine mix_on ?_)))
    refine wpMix_nil ?_
    generalize hY : World.setCell _ _ _ = Y
    have hXY : Kx (w.heap.size + 1) w3 Y := by rw [← hY]; exact ((((HD.out.1).set 0 _).set 1 _).set 2 _).set 3 _
    have g0 : Y.cell? ⟨w.heap.size + 1, 0, none⟩ = some (.int .i64 T) := by subst hY; go_simp
    have g1 : Y.cell? ⟨w.heap.size + 1, 1, none⟩ = some (.int .i64 S) := by subst hY; go_simp
    have g2 : Y.cell? ⟨w.heap.size + 1, 2, none⟩ = some (.int .u64 C) := by subst hY; go_simp
    have g3 : Y.cell? ⟨w.heap.size + 1, 3, none⟩ = some (.slice p2 l.length c2) := by subst hY; go_simp
    clear hY f0 f1 f2 f3 ff z0 z1 z2 z3 z5
    have HF := Lib.hid (show EL Y (.slice p2 l.length c2) l ∧ Below w.heap.size w Y by
      refine ⟨ER.kx HE6.out HA6.out hXY, ?_⟩
      have h1 : Below w.heap.size U w3 := HX6.out.to (by have := HB.out.2.2.1; omega) (by have := HB.out.2.2.2; omega)
      have h2 : Below w.heap.size w3 Y := hXY.to (by omega) (by have := h1.size; have := HB.out.2.2.2; omega)
      exact (HB.out.1.trans h1).trans h2)
    clear hXY
    go_wp2_with fail
    refine bodyPost_ret (v := .tuple #[.agg #[.int .i64 T, .int .i64 S, .int .u64 C, .slice p2 l.length c2], .int .i64 1]) (by simp [results, Try.results5, go_sem, g0, g1, g2, g3]) rfl ?_
    rw [HQ.out]
    exact ⟨_, rfl, HF.out⟩
set_option maxHeartbeats 2000000 in
theorem sleast0 (T S C : Int) (v : Value) (l : List Ent) (w : World) (h : EL w v l) (hn : l.length ≤ 2513169434843) :
    Calls Try.prog 5 #[.agg #[.int .i64 T, .int .i64 S, .int .u64 C, v], .nilFunc] w fun e w' => ∃ v', e = .returned (.tuple #[.agg #[.int .i64 T, .int .i64 S, .int .u64 C, v'], .int .i64 0]) ∧ OwnL w' w.heap.size v' l ∧ Below w.heap.size w w' := by
  refine Calls.veil fun Q HQ => ?_
  have HE := Lib.hid h
  obtain ⟨p, c, rfl, a1, a2⟩ := h.slice
  clear h
  have hq := qN
  go_enter Try.func5, Try.ntmps5
  go_wp2_with fail
  clear hq
  generalize hV : World.alloc (World.alloc w _) _ = V
  have hs : V.heap.size = w.heap.size + 2 := by rw [← hV]; simp
  have HB := Lib.hid (show Below w.heap.size w V by rw [← hV]; (repeat (first | exact Below.refl _ _ | assumption | refine below_new ?_ _ | refine Below.drew ?_ | refine below_drewN ?_ _ | refine below_on ?_ (by assumption))))
  have HEV := Lib.hid (HE.out.below HB.out)
  have hv1 : V.heap[w.heap.size + 1]? = some (.cells #[.int .i64 0, .int .i64 0, .int .u64 0, .slice none 0 0] 27 (0, 0)) := by
    rw [← hV]; exact (by simp : (w.alloc (.cells #[.int .i64 T, .int .i64 S, .int .u64 C, .slice p l.length c] 27)).heap.size = w.heap.size + 1) ▸ heap_alloc_new (w.alloc (.cells #[.int .i64 T, .int .i64 S, .int .u64 C, .slice p l.length c] 27)) _
  clear hV
  have HS := Lib.hid hs
  have HV1 := Lib.hid hv1
  clear hs hv1
  refine (scopied T S C l _ V HEV.out hn).mono ?_; rintro _ w2 ⟨v', rfl, hE, hb2⟩
  have hh : w2.heap[w.heap.size + 1]? = some (.cells #[.int .i64 0, .int .i64 0, .int .u64 0, .slice none 0 0] 27 (0, 0)) := by rw [hb2.block _ (by have := HS.out; omega)]; exact HV1.out
  have f0 : w2.cell? ⟨w.heap.size + 1, 0, none⟩ = some (.int .i64 0) := by rw [cell_of_row _ _ _ _ _ (0, 0) hh]; rfl
  have f1 : w2.cell? ⟨w.heap.size + 1, 1, none⟩ = some (.int .i64 0) := by rw [cell_of_row _ _ _ _ _ (0, 0) hh]; rfl
  have f2 : w2.cell? ⟨w.heap.size + 1, 2, none⟩ = some (.int .u64 0) := by rw [cell_of_row _ _ _ _ _ (0, 0) hh]; rfl
  have f3 : w2.cell? ⟨w.heap.size + 1, 3, none⟩ = some (.slice none 0 0) := by rw [cell_of_row _ _ _ _ _ (0, 0) hh]; rfl
  have ff : ∀ i, w2.frozen? ⟨w.heap.size + 1, i, none⟩ = false := fun i => frozen_of_row _ _ _ _ _ hh
  have HB2 := Lib.hid hb2
  obtain ⟨p', c', rfl, _, _⟩ := own_slice hE
  have HE2 := Lib.hid hE
  clear hE hb2 hh
  go_wp2_with fail
  generalize hU : World.setCell _ _ _ = U
  have hBU : Below w.heap.size w U := by
    rw [← hU]
    have hs := HS.out
    exact HB.out.trans ((((((Kx.refl (w.heap.size + 1) V).below HB2.out).set 0 _).set 1 _).set 2 _ |>.set 3 _).to (by omega) (by omega))
  have hEU : OwnL U V.heap.size (.slice p' l.length c') l := by
    have hs := HS.out
    rw [← hU]
    exact own_kx HE2.out (b := w.heap.size + 1) (by omega) (((((Kx.refl (w.heap.size + 1) w2).set 0 _).set 1 _).set 2 _).set 3 _)
  have g0 : U.cell? ⟨w.heap.size + 1, 0, none⟩ = some (.int .i64 T) := by subst hU; go_simp
  have g1 : U.cell? ⟨w.heap.size + 1, 1, none⟩ = some (.int .i64 S) := by subst hU; go_simp
  have g2 : U.cell? ⟨w.heap.size + 1, 2, none⟩ = some (.int .u64 C) := by subst hU; go_simp
  have g3 : U.cell? ⟨w.heap.size + 1, 3, none⟩ = some (.slice p' l.length c') := by subst hU; go_simp
  clear hU f0 f1 f2 f3 ff
  have HBU := Lib.hid hBU; have HEU := Lib.hid (own_low7 hEU (by show w.heap.size ≤ V.heap.size; have := HS.out; omega))
  clear hBU hEU
  refine bodyPost_ret (v := .tuple #[.agg #[.int .i64 T, .int .i64 S, .int .u64 C, .slice p' l.length c'], .int .i64 0]) (by simp [results, Try.results5, go_sem, g0, g1, g2, g3]) rfl ?_
  rw [HQ.out]
  exact ⟨_, rfl, HEU.out, HBU.out⟩
end Go.Proofs.Ytaammkmnhhipgaa
