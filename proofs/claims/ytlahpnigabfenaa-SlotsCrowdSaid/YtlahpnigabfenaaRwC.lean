/- RwC: several texts in one. -/
import Derived.Test.YtlahpnigabfenaaRwB
/- Layer 17: a node's field is written. -/
namespace Go.Proofs.Ytlahpnigabfenaa
open Go.RowKit WordM EdgeM
set_option linter.unusedVariables false
set_option linter.unusedSimpArgs false
set_option maxRecDepth 8000 in
set_option maxHeartbeats 1000000 in
theorem cwclos {w : World} {B q pl mb mg C gq gg gm : Nat} {fv : Value} {tq : Nat → Nat} {t s : Nat} {Kc : Int} {f : Nat → Int} {acc : Int} {flt : Bool} {H : Nat → Bool} {G : Nat → Int} {sl steps : Int} {odd : Bool} (h : MC w B q pl mb mg C gq gg gm fv tq t s Kc f acc flt H G sl steps odd) {bx : Nat} {b0 : Nat} {x : Int} (hb : w.cell? ⟨bx, 0, none⟩ = some (.pointer (some ⟨q, 0, none⟩))) (h0 : w.cell? ⟨b0, 0, none⟩ = some (.int .u64 x)) (a0 : 0 ≤ acc) (a1 : acc < 1000000) (x0 : 0 ≤ x) (x1 : x < 18446744073709551616) (p : Int) :
    Calls Try.prog 83 #[.int .i64 p, .pointer (some ⟨bx, 0, none⟩), .pointer (some ⟨b0, 0, none⟩)] w fun e w' => e = .returned (.tuple #[]) ∧ Mm.MemAt w' mb mg (3 + 8 * t + 7 * s) C (if Mm.okA (3 + 8 * t + 7 * s) p = true then Mm.upd f (p).toNat x else f) (acc + 1) (flt || !Mm.okA (3 + 8 * t + 7 * s) p) ∧ Mm.Only mb mg w w' := by
  refine Calls.veil fun Q HQ => ?_
  have HH := Lib.hid h; have HB := Lib.hid hb
  have HV0 := Lib.hid h0
  have HLM := Lib.hid (show ∀ y : Ext w, (Instr.loadAt 28 (.pointer (some ⟨bx, 0, none⟩))).run Try.prog y.w = .ok (.pointer (some ⟨q, 0, none⟩)) y.w from fun y => by have hc := Ext.use (Ext.cells HB.out) y.h; clear hb h0; go_simp)
  have HLB := Lib.hid (show ∀ y : Ext w, (Instr.loadAt 80 (.pointer (some ⟨q, 1, none⟩))).run Try.prog y.w = .ok (.pointer (some ⟨mb, 0, none⟩)) y.w from fun y => by have hc := (HH.out.below y.h).c1; clear hb h0; go_simp)
  have HLV0 := Lib.hid (show ∀ y : Ext w, (Instr.loadAt 22 (.pointer (some ⟨b0, 0, none⟩))).run Try.prog y.w = .ok (.int .u64 x) y.w from fun y => by have hc := Ext.use (Ext.cells HV0.out) y.h; clear hb h0; go_simp)
  clear h hb h0
  go_enter Try.func83, Try.ntmps83
  (try go_upto_region 0 with fail)
  refine Th.wp_region_K (fun w' => ∃ y : Ext w, w' = y.w) 6 (by decide +kernel) ?_
  generalize hwd : World.drew w = wd
  have hbd : Below w.heap.size w wd := by rw [← hwd]; exact (Below.refl _ _).drew
  clear hwd
  (refine Th.wpAnyK_take (i := 0) (v := .pointer (some ⟨q, 0, none⟩)) [1, 2, 3, 6] rfl (by decide +kernel) (by decide +kernel) (by decide +kernel) (by decide +kernel) (fun _ _ _ h => h) (Th.yields_loadK rfl 28 (.tmp 1) rfl rfl (by rintro _ ⟨y, rfl⟩; exact HLM.out y)) ⟨⟨wd, hbd⟩, rfl⟩ ?_)
  (try simp only [List.getElem_toArray, List.getElem_cons_succ, List.getElem_cons_zero, Act.put, List.setIfInBounds_toArray, List.set_cons_succ, List.set_cons_zero])
  (refine Th.wpAnyK_takeY (i := 1) (v := ?_) rfl (by decide +kernel) (by decide +kernel) (by decide +kernel) (by decide) (fun _ _ _ h => h) (Or.inl ⟨by rfl, ?_⟩) (.inr ⟨⟨wd, hbd⟩, rfl⟩) ?_; rotate_left; (intro w; go_simp); (try with_reducible rfl))
  (try simp only [List.getElem_toArray, List.getElem_cons_succ, List.getElem_cons_zero, Act.put, List.setIfInBounds_toArray, List.set_cons_succ, List.set_cons_zero])
  (refine Th.wpAnyK_takeY (i := 2) (v := ?_) rfl (by decide +kernel) (by decide +kernel) (by decide +kernel) (by decide) (fun _ _ _ h => h) (Or.inl ⟨by rfl, ?_⟩) (.inr ⟨⟨wd, hbd⟩, rfl⟩) ?_; rotate_left; (intro w; go_simp); (try with_reducible rfl))
  (try simp only [List.getElem_toArray, List.getElem_cons_succ, List.getElem_cons_zero, Act.put, List.setIfInBounds_toArray, List.set_cons_succ, List.set_cons_zero])
  (refine Th.wpAnyK_take (i := 3) (v := .pointer (some ⟨mb, 0, none⟩)) [6] rfl (by decide +kernel) (by decide +kernel) (by decide +kernel) (by decide +kernel) (fun _ _ _ h => h) (Th.yields_loadK rfl 80 (.tmp 6) rfl rfl (by rintro _ ⟨y, rfl⟩; exact HLB.out y)) ⟨⟨wd, hbd⟩, rfl⟩ ?_)
  (try simp only [List.getElem_toArray, List.getElem_cons_succ, List.getElem_cons_zero, Act.put, List.setIfInBounds_toArray, List.set_cons_succ, List.set_cons_zero])
  (refine Th.wpAnyK_takeY (i := 4) (v := ?_) rfl (by decide +kernel) (by decide +kernel) (by decide +kernel) (by decide) (fun _ _ _ h => h) (Or.inl ⟨by rfl, ?_⟩) (.inr ⟨⟨wd, hbd⟩, rfl⟩) ?_; rotate_left; (intro w; go_simp); (try with_reducible rfl))
  (try simp only [List.getElem_toArray, List.getElem_cons_succ, List.getElem_cons_zero, Act.put, List.setIfInBounds_toArray, List.set_cons_succ, List.set_cons_zero])
  (refine Th.wpAnyK_take (i := 5) (v := .int .u64 x) [6] rfl (by decide +kernel) (by decide +kernel) (by decide +kernel) (by decide +kernel) (fun _ _ _ h => h) (Th.yields_loadK rfl 22 (.tmp 2) rfl rfl (by rintro _ ⟨y, rfl⟩; exact HLV0.out y)) ⟨⟨wd, hbd⟩, rfl⟩ ?_)
  (try simp only [List.getElem_toArray, List.getElem_cons_succ, List.getElem_cons_zero, Act.put, List.setIfInBounds_toArray, List.set_cons_succ, List.set_cons_zero])
  (refine Th.wpAnyK_ready (rs := [6]) (by decide +kernel) (by simp) ?_; refine (Th.AllReadyK.cons rfl (fun K hK => ?_) Th.AllReadyK.nil))
  refine step_of rfl ?_
  go_step
  refine (Mm.mstore _ _ _ _ _ _ p x _ _ (HH.out.below hbd).mem a0 (by omega) x0 x1).mono ?_; rintro _ w1 ⟨rfl, hm, ho⟩
  refine hK _ _ (.inl rfl) ?_
  clear hK K
  have HM := Lib.hid hm; have HO := Lib.hid ((Mm.Only.of_below hbd).trans ho)
  clear hm ho
  refine Th.wpAnyK_done (by decide +kernel) ?_ _
  go_wp2_with fail
  refine bodyPost_end (v := .tuple #[]) (by simp [results, Try.results83, go_sem]) rfl ?_
  rw [HQ.out]
  exact ⟨rfl, HM.out, HO.out⟩
set_option maxRecDepth 8000 in
set_option maxHeartbeats 1000000 in
theorem cwreach {w : World} {B q pl mb mg C gq gg gm : Nat} {fv : Value} {tq : Nat → Nat} {t s : Nat} {Kc : Int} {f : Nat → Int} {acc : Int} {flt : Bool} {H : Nat → Bool} {G : Nat → Int} {sl steps : Int} {odd : Bool} (h : MC w B q pl mb mg C gq gg gm fv tq t s Kc f acc flt H G sl steps odd) {bx : Nat} {b0 : Nat} {x : Int} (hb : w.cell? ⟨bx, 0, none⟩ = some (.pointer (some ⟨q, 0, none⟩))) (h0 : w.cell? ⟨b0, 0, none⟩ = some (.int .u64 x)) (a0 : 0 ≤ acc) (a1 : acc < 1000000) (x0 : 0 ≤ x) (x1 : x < 18446744073709551616) (e fi : Int) (e0 : 0 ≤ e) (e1 : e < 18446744073709551616) (hl : Gd.leadsB s H G e = true) :
    Calls Try.prog 82 #[.pointer (some ⟨q, 0, none⟩), .int .u64 e, .int .i64 fi, .func (Fn.func 83) #[] #[.pointer (some ⟨bx, 0, none⟩), .pointer (some ⟨b0, 0, none⟩)]] w fun x' w' => x' = .returned (.tuple #[]) ∧ Mm.MemAt w' mb mg (3 + 8 * t + 7 * s) C (if Mm.okA (3 + 8 * t + 7 * s) (nodeI t s (e % 4096) fi) = true then Mm.upd f ((nodeI t s (e % 4096) fi)).toNat x else f) (acc + 1) (flt || !Mm.okA (3 + 8 * t + 7 * s) (nodeI t s (e % 4096) fi)) ∧ Mm.Only mb mg w w' := by
  refine Calls.veil fun Q HQ => ?_
  have HH := Lib.hid h; have HB := Lib.hid hb; have HL := Lib.hid hl
  have HV0 := Lib.hid h0
  have c2 := h.c2
  clear h hb hl h0
  go_enter Try.func82, Try.ntmps82
  go_wp2_with fail
  refine (Gd.gleads HH.out.grd e e0 e1).mono ?_; rintro _ w1 ⟨rfl, hb1⟩
  rw [HL.out]
  have HH1 := Lib.hid (HH.out.below hb1); have HB1 := Lib.hid hb1
  clear hb1 c2
  go_upto_region 3 with fail
  have HLP := Lib.hid (show ∀ y : Ext w1, (Instr.loadAt 77 (.pointer (some ⟨q, 0, none⟩))).run Try.prog y.w = .ok (.pointer (some ⟨pl, 0, none⟩)) y.w from fun y => by have hc := (HH1.out.below y.h).c0; go_simp)
  refine Th.wp_region_K (fun w' => ∃ y : Ext w1, w' = y.w) 9 (by decide +kernel) ?_
  generalize hwd : World.drew w1 = wd
  have hbd : Below w1.heap.size w1 wd := by rw [← hwd]; exact (Below.refl _ _).drew
  clear hwd
  (refine Th.wpAnyK_takeY (i := 0) (v := ?_) rfl (by decide +kernel) (by decide +kernel) (by decide +kernel) (by decide) (fun _ _ _ h => h) (Or.inl ⟨by rfl, ?_⟩) (.inr ⟨⟨wd, hbd⟩, rfl⟩) ?_; rotate_left; (intro w; go_simp); (try with_reducible rfl))
  (try simp only [List.getElem_toArray, List.getElem_cons_succ, List.getElem_cons_zero, Act.put, List.setIfInBounds_toArray, List.set_cons_succ, List.set_cons_zero])
  (refine Th.wpAnyK_takeY (i := 1) (v := ?_) rfl (by decide +kernel) (by decide +kernel) (by decide +kernel) (by decide) (fun _ _ _ h => h) (Or.inl ⟨by rfl, ?_⟩) (.inr ⟨⟨wd, hbd⟩, rfl⟩) ?_; rotate_left; (intro w; go_simp); (try with_reducible rfl))
  (try simp only [List.getElem_toArray, List.getElem_cons_succ, List.getElem_cons_zero, Act.put, List.setIfInBounds_toArray, List.set_cons_succ, List.set_cons_zero])
  (refine Th.wpAnyK_takeY (i := 2) (v := ?_) rfl (by decide +kernel) (by decide +kernel) (by decide +kernel) (by decide) (fun _ _ _ h => h) (Or.inl ⟨by rfl, ?_⟩) (.inr ⟨⟨wd, hbd⟩, rfl⟩) ?_; rotate_left; (intro w; go_simp); (try with_reducible rfl))
  (try simp only [List.getElem_toArray, List.getElem_cons_succ, List.getElem_cons_zero, Act.put, List.setIfInBounds_toArray, List.set_cons_succ, List.set_cons_zero])
  (refine Th.wpAnyK_takeY (i := 3) (v := ?_) rfl (by decide +kernel) (by decide +kernel) (by decide +kernel) (by decide) (fun _ _ _ h => h) (Or.inl ⟨by rfl, ?_⟩) (.inr ⟨⟨wd, hbd⟩, rfl⟩) ?_; rotate_left; (intro w; go_simp); (try with_reducible rfl))
  (try simp only [List.getElem_toArray, List.getElem_cons_succ, List.getElem_cons_zero, Act.put, List.setIfInBounds_toArray, List.set_cons_succ, List.set_cons_zero])
  (refine Th.wpAnyK_take (i := 4) (v := .pointer (some ⟨pl, 0, none⟩)) [8, 9] rfl (by decide +kernel) (by decide +kernel) (by decide +kernel) (by decide +kernel) (fun _ _ _ h => h) (Th.yields_loadK rfl 77 (.tmp 23) rfl rfl (by rintro _ ⟨y, rfl⟩; exact HLP.out y)) ⟨⟨wd, hbd⟩, rfl⟩ ?_)
  (try simp only [List.getElem_toArray, List.getElem_cons_succ, List.getElem_cons_zero, Act.put, List.setIfInBounds_toArray, List.set_cons_succ, List.set_cons_zero])
  (refine Th.wpAnyK_takeY (i := 5) (v := ?_) rfl (by decide +kernel) (by decide +kernel) (by decide +kernel) (by decide) (fun _ _ _ h => h) (Or.inl ⟨by rfl, ?_⟩) (.inr ⟨⟨wd, hbd⟩, rfl⟩) ?_; rotate_left; (intro w; go_simp); (try with_reducible rfl))
  (try simp only [List.getElem_toArray, List.getElem_cons_succ, List.getElem_cons_zero, Act.put, List.setIfInBounds_toArray, List.set_cons_succ, List.set_cons_zero])
  (refine Th.wpAnyK_takeY (i := 7) (v := ?_) rfl (by decide +kernel) (by decide +kernel) (by decide +kernel) (by decide) (fun _ _ _ h => h) (Or.inl ⟨by rfl, ?_⟩) (.inr ⟨⟨wd, hbd⟩, rfl⟩) ?_; rotate_left; (intro w; go_simp); (try with_reducible rfl))
  (try simp only [List.getElem_toArray, List.getElem_cons_succ, List.getElem_cons_zero, Act.put, List.setIfInBounds_toArray, List.set_cons_succ, List.set_cons_zero])
  (refine Th.wpAnyK_ready (rs := [6]) (by decide +kernel) (by simp) ?_; refine (Th.AllReadyK.cons rfl (fun K hK => ?_) Th.AllReadyK.nil))
  refine step_of rfl ?_
  go_step
  refine (eslot_calls e _ e0 e1).mono ?_; rintro _ w6 ⟨rfl, hw6⟩
  rw [← hw6]
  refine hK _ _ (.inr ⟨⟨wd, hbd⟩, rfl⟩) ?_
  clear hK K hw6
  (try simp only [List.getElem_toArray, List.getElem_cons_succ, List.getElem_cons_zero, Act.put, List.setIfInBounds_toArray, List.set_cons_succ, List.set_cons_zero])
  (refine Th.wpAnyK_ready (rs := [8]) (by decide +kernel) (by simp) ?_; refine (Th.AllReadyK.cons rfl (fun K hK => ?_) Th.AllReadyK.nil))
  refine step_of rfl ?_
  go_step
  have hbb := HH.out.bd
  refine (pnode_calls t s pl (e % 4096) fi _ (HH1.out.below hbd).p0 (HH1.out.below hbd).p1 (by omega) (by omega) (by omega) (by omega)).mono ?_; rintro _ w2 ⟨rfl, hb2⟩
  have hb2 := below_on hbd hb2
  refine hK _ _ (.inr ⟨⟨w2, hb2⟩, rfl⟩) ?_
  clear hK K hbb
  (try simp only [List.getElem_toArray, List.getElem_cons_succ, List.getElem_cons_zero, Act.put, List.setIfInBounds_toArray, List.set_cons_succ, List.set_cons_zero])
  (refine Th.wpAnyK_ready (rs := [9]) (by decide +kernel) (by simp) ?_; refine (Th.AllReadyK.cons rfl (fun K hK => ?_) Th.AllReadyK.nil))
  refine step_of rfl ?_
  have hb3 := below_on HB1.out hb2
  go_step
  refine (cwclos (HH.out.below hb3) (Ext.use (Ext.cells HB.out) hb3) (Ext.use (Ext.cells HV0.out) hb3) a0 a1 x0 x1 ((nodeI t s (e % 4096) fi))).mono ?_; rintro _ w3 ⟨rfl, hm, ho⟩
  have HF := Lib.hid (And.intro hm ((Mm.Only.of_below hb3).trans ho))
  refine hK _ _ (.inl rfl) ?_
  clear hK K hm ho
  refine Th.wpAnyK_done (by decide +kernel) ?_ _
  go_wp2_with fail
  refine bodyPost_end (v := .tuple #[]) (by simp [results, Try.results82, go_sem]) rfl ?_
  rw [HQ.out]
  exact ⟨rfl, HF.out⟩
set_option maxRecDepth 8000 in
set_option maxHeartbeats 1000000 in
theorem cwacc {w : World} {B q pl mb mg C gq gg gm : Nat} {fv : Value} {tq : Nat → Nat} {t s : Nat} {Kc : Int} {f : Nat → Int} {acc : Int} {flt : Bool} {H : Nat → Bool} {G : Nat → Int} {sl steps : Int} {odd : Bool} (h : MC w B q pl mb mg C gq gg gm fv tq t s Kc f acc flt H G sl steps odd) {x : Int} (e fi : Int) (e0 : 0 ≤ e) (e1 : e < 18446744073709551616) (hl : Gd.leadsB s H G e = true) (a0 : 0 ≤ acc) (a1 : acc < 1000000) (x0 : 0 ≤ x) (x1 : x < 18446744073709551616) :
    Calls Try.prog 66 #[.pointer (some ⟨q, 0, none⟩), .int .u64 e, .int .i64 fi, .int .u64 x] w fun x' w' => x' = .returned (.tuple #[]) ∧ MC w' B q pl mb mg C gq gg gm fv tq t s Kc (if Mm.okA (3 + 8 * t + 7 * s) (nodeI t s (e % 4096) fi) = true then Mm.upd f ((nodeI t s (e % 4096) fi)).toNat x else f) (acc + 1) (flt || !Mm.okA (3 + 8 * t + 7 * s) (nodeI t s (e % 4096) fi)) H G sl steps odd ∧ Mm.Only mb mg w w' := by
  refine Calls.veil fun Q HQ => ?_
  have HH := Lib.hid h; have HL := Lib.hid hl
  clear h hl
  go_enter Try.func66, Try.ntmps66
  go_upto_region 1 with fail
  generalize hV : World.alloc _ _ = U
  obtain ⟨u0, u1, hbu⟩ := heap2c hV
  obtain ⟨b0, hb0⟩ : ∃ z, z = w.heap.size + 1 := ⟨_, rfl⟩
  rw [← hb0] at u1 ⊢
  obtain ⟨bx, hbx⟩ : ∃ z, z = w.heap.size := ⟨_, rfl⟩
  rw [← hbx] at u0 ⊢
  have HU := Lib.hid (HH.out.below hbu); have HBU := Lib.hid hbu
  have bc := Th.newcell u0 0 _ rfl
  have v0 := Th.newcell u1 0 _ rfl
  have HBC := Lib.hid bc
  have HV0 := Lib.hid v0
  clear hV hbu u0 u1 hbx hb0 v0
  go_wp2_with fail
  clear bc
  refine (cwreach HU.out HBC.out HV0.out a0 a1 x0 x1 e fi e0 e1 HL.out).mono ?_; rintro _ w2 ⟨rfl, hm, ho⟩
  have HM := Lib.hid hm; have HO := Lib.hid ((Mm.Only.of_below HBU.out).trans ho)
  clear hm ho
  go_wp2_with fail
  refine bodyPost_end (v := .tuple #[]) (by simp [results, Try.results66, go_sem]) rfl ?_
  rw [HQ.out]
  exact ⟨rfl, HH.out.only HO.out HM.out, HO.out⟩
end Go.Proofs.Ytlahpnigabfenaa

/- Layer 17: Give's first two steps. -/
namespace Go.Proofs.Ytlahpnigabfenaa
open Go.RowKit WordM EdgeM
set_option linter.unusedVariables false
set_option linter.unusedSimpArgs false
theorem make_bd (s g : Int) : 0 ≤ makeI s g ∧ makeI s g < 18446744073709551616 := by
  have := slotI_bd s
  unfold makeI; omega
set_option maxRecDepth 8000 in
set_option maxHeartbeats 2000000 in
theorem give0 {w : World} {B q pl mb mg C gq gg gm : Nat} {fv : Value} {tq : Nat → Nat} {t s : Nat} {K : Int} {f : Nat → Int} {acc : Int} {flt : Bool} {H : Nat → Bool} {G : Nat → Int} {sl steps : Int} {odd : Bool} (h : MC w B q pl mb mg C gq gg gm fv tq t s K f acc flt H G sl steps odd) {Ts : Nat → Th.Td} {ps : Nat → Nat → Nat} {fvs : Nat → Value} (tf : TF w q t tq Ts ps fvs) {k m : Nat} (hk : k < t) (hm : (Ts k).nf = m + 1) (hpc : ((Ts k).fs m).pc = 0) (hr : 0 ≤ ((Ts k).fs m).r 0 ∧ ((Ts k).fs m).r 0 < 18446744073709551616) (hl : Gd.leadsB s H G (((Ts k).fs m).r 0) = true) (hsl : sl < 1000000) (a0 : 0 ≤ acc) (a1 : acc < 1000000) :
    Calls Try.prog 35 #[.agg #[.pointer (some ⟨q, 0, none⟩), .pointer (some ⟨tq k, 0, none⟩), .pointer (some ⟨ps k m, 0, none⟩)]] w fun x w' => x = .returned (.tuple #[]) ∧ MC w' B q pl mb mg C gq gg gm fv tq t s K (if Mm.okA (3 + 8 * t + 7 * s) (nodeI t s ((((Ts k).fs m).r 0) % 4096) 1) = true then Mm.upd f ((nodeI t s ((((Ts k).fs m).r 0) % 4096) 1)).toNat ((((((Ts k).fs m).r 0) / 4096 % 1125899906842624) + 1) % 1125899906842624) else f) (acc + 1) (flt || !Mm.okA (3 + 8 * t + 7 * s) (nodeI t s ((((Ts k).fs m).r 0) % 4096) 1)) (Gd.dropH s H G (((Ts k).fs m).r 0)) (Gd.dropG s H G (((Ts k).fs m).r 0)) (sl) steps odd ∧ TF w' q t tq (fun i => if i = k then { Ts k with fs := Th.upM (Ts k).fs m ⟨((Ts k).fs m).fn, 1, ((Ts k).fs m).r⟩ } else Ts i) ps fvs ∧ Th.KS (fun j => j = mb ∨ j = mg ∨ j = gq ∨ j = gg ∨ j = gm ∨ j = ps k m) w w' := by
  refine Calls.veil fun Q HQ => ?_
  have hmm : m < (Ts k).nf := by omega
  obtain ⟨fb, hfb⟩ : ∃ fb, fb = ps k m := ⟨_, rfl⟩
  have hbk := ((tf.th k hk).a.fb m hmm).1
  have hfl := (tf.th k hk).frm hmm
  rw [← hfb] at hbk hfl ⊢
  have HH := Lib.hid h; have HT := Lib.hid tf
  have HFB := Lib.hid hbk
  have hql := h.qlt
  have HNE := Lib.hid (show fb ≠ mb ∧ fb ≠ mg ∧ q < fb from by omega)
  obtain ⟨F, hF⟩ : ∃ F, F = (Ts k).fs m := ⟨_, rfl⟩
  rw [← hF] at HFB hpc hr hl
  have HFE := Lib.hid (And.intro hfb hF)
  have HL := Lib.hid hl
  clear h tf hbk hfl hfb hF hl
  go_enter Try.func35, Try.ntmps35
  go_upto_region 1 with fail
  generalize hV : World.alloc _ _ = U
  obtain ⟨u0, hbu⟩ := Th.heapnewE hV
  obtain ⟨X, hX⟩ : ∃ X, X = w.heap.size := ⟨_, rfl⟩
  rw [← hX] at u0 ⊢
  have HXW := Lib.hid hX
  have HU := Lib.hid (HH.out.below hbu); have HBU := Lib.hid hbu; have HX := Lib.hid u0; have HFU := Lib.hid (HFB.out.below hbu)
  have HNX := Lib.hid (show X ≠ mb ∧ X ≠ mg ∧ X ≠ fb ∧ X ≠ q from by have := Th.blk_lt HFB.out; have := HH.out.qlt; omega)
  clear hV u0 hbu hX
  have x2 : U.cell? ⟨X, 2, none⟩ = some (.pointer (some ⟨fb, 0, none⟩)) := Th.newcell HX.out 2 _ rfl
  have f1 : U.cell? ⟨fb, 1, none⟩ = some (.int .i64 0) := by rw [HFU.out.get (i := 1) (by omega)]; unfold Th.frF; rw [if_neg (by decide), if_pos rfl, hpc]
  have f2 : U.cell? ⟨fb, 2, none⟩ = some (.int .u64 (F.r 0)) := by rw [HFU.out.get (i := 2) (by omega)]; rfl
  go_upto_region 4 with fail
  clear x2 f1 f2
  have HLM := Lib.hid (show ∀ y : KX U mb mg mg, (Instr.loadAt 28 (.pointer (some ⟨X, 0, none⟩))).run Try.prog y.w = .ok (.pointer (some ⟨q, 0, none⟩)) y.w from fun y => by have hc := KX.cells (Th.newcell HX.out 0 _ rfl) HNX.out.1 HNX.out.2.1 HNX.out.2.1 y; go_simp)
  obtain ⟨ge, hge⟩ : ∃ ge, ge = F.r 0 / 4096 % 1125899906842624 := ⟨_, rfl⟩
  have hg0 : 0 ≤ ge ∧ ge < 1125899906842624 := by omega
  have HGE := Lib.hid hge
  have hwg : IntKind.u64.wrap (ge + 1) = ge + 1 := by rw [IntKind.wrap_u64]; omega
  have HMK := Lib.hid (make_bd (F.r 0 % 4096) (ge + 1))
  have HMG := Lib.hid (Gd.make_gen (F.r 0 % 4096) (x := ge + 1) (by omega))
  clear hge
  refine Th.wp_region_K (fun w' => ∃ y : KX U mb mg mg, w' = y.w) 11 (by decide +kernel) ?_
  generalize hwd : World.drew U = wd
  have hdd : Below U.heap.size U wd := by rw [← hwd]; exact (Below.refl _ _).drew
  have hbd : Th.KS (fun j => j = mb ∨ j = mg ∨ j = mg) U wd := .of_below hdd
  clear hwd
  (refine Th.wpAnyK_takeY (i := 0) (v := ?_) rfl (by decide +kernel) (by decide +kernel) (by decide +kernel) (by decide) (fun _ _ _ h => h) (Or.inl ⟨by rfl, ?_⟩) (.inr ⟨⟨wd, hbd⟩, rfl⟩) ?_; rotate_left; (intro w; go_simp); (try with_reducible rfl))
  (try simp only [List.getElem_toArray, List.getElem_cons_succ, List.getElem_cons_zero, Act.put, List.setIfInBounds_toArray, List.set_cons_succ, List.set_cons_zero])
  (refine Th.wpAnyK_takeY (i := 1) (v := ?_) rfl (by decide +kernel) (by decide +kernel) (by decide +kernel) (by decide) (fun _ _ _ h => h) (Or.inl ⟨by rfl, ?_⟩) (.inr ⟨⟨wd, hbd⟩, rfl⟩) ?_; rotate_left; (intro w; go_simp); (try with_reducible rfl))
  (try simp only [List.getElem_toArray, List.getElem_cons_succ, List.getElem_cons_zero, Act.put, List.setIfInBounds_toArray, List.set_cons_succ, List.set_cons_zero])
  (refine Th.wpAnyK_take (i := 2) (v := .pointer (some ⟨q, 0, none⟩)) [11] rfl (by decide +kernel) (by decide +kernel) (by decide +kernel) (by decide +kernel) (fun _ _ _ h => h) (Th.yields_loadK rfl 28 (.tmp 20) rfl rfl (by rintro _ ⟨y, rfl⟩; exact HLM.out y)) ⟨⟨wd, hbd⟩, rfl⟩ ?_)
  (try simp only [List.getElem_toArray, List.getElem_cons_succ, List.getElem_cons_zero, Act.put, List.setIfInBounds_toArray, List.set_cons_succ, List.set_cons_zero])
  (refine Th.wpAnyK_takeY (i := 3) (v := ?_) rfl (by decide +kernel) (by decide +kernel) (by decide +kernel) (by decide) (fun _ _ _ h => h) (Or.inl ⟨by rfl, ?_⟩) (.inr ⟨⟨wd, hbd⟩, rfl⟩) ?_; rotate_left; (intro w; go_simp); (try with_reducible rfl))
  (try simp only [List.getElem_toArray, List.getElem_cons_succ, List.getElem_cons_zero, Act.put, List.setIfInBounds_toArray, List.set_cons_succ, List.set_cons_zero])
  (refine Th.wpAnyK_takeY (i := 4) (v := ?_) rfl (by decide +kernel) (by decide +kernel) (by decide +kernel) (by decide) (fun _ _ _ h => h) (Or.inl ⟨by rfl, ?_⟩) (.inr ⟨⟨wd, hbd⟩, rfl⟩) ?_; rotate_left; (intro w; go_simp); (try with_reducible rfl))
  (try simp only [List.getElem_toArray, List.getElem_cons_succ, List.getElem_cons_zero, Act.put, List.setIfInBounds_toArray, List.set_cons_succ, List.set_cons_zero])
  (refine Th.wpAnyK_takeY (i := 6) (v := ?_) rfl (by decide +kernel) (by decide +kernel) (by decide +kernel) (by decide) (fun _ _ _ h => h) (Or.inl ⟨by rfl, ?_⟩) (.inr ⟨⟨wd, hbd⟩, rfl⟩) ?_; rotate_left; (intro w; go_simp); (try with_reducible rfl))
  (try simp only [List.getElem_toArray, List.getElem_cons_succ, List.getElem_cons_zero, Act.put, List.setIfInBounds_toArray, List.set_cons_succ, List.set_cons_zero])
  (refine Th.wpAnyK_ready (rs := [5]) (by decide +kernel) (by simp) ?_; refine (Th.AllReadyK.cons rfl (fun K hK => ?_) Th.AllReadyK.nil))
  refine step_of rfl ?_
  go_step
  refine (eslot_calls _ _ hr.1 hr.2).mono ?_; rintro _ w6 ⟨rfl, hw6⟩
  rw [← hw6]
  refine hK _ _ (.inr ⟨⟨wd, hbd⟩, rfl⟩) ?_
  clear hK K hw6
  (try simp only [List.getElem_toArray, List.getElem_cons_succ, List.getElem_cons_zero, Act.put, List.setIfInBounds_toArray, List.set_cons_succ, List.set_cons_zero])
  (refine Th.wpAnyK_ready (rs := [7]) (by decide +kernel) (by simp) ?_; refine (Th.AllReadyK.cons rfl (fun K hK => ?_) Th.AllReadyK.nil))
  refine step_of rfl ?_
  go_step
  refine (egen_calls _ _ hr.1 hr.2).mono ?_; rintro _ w6 ⟨rfl, hw6⟩
  rw [← hw6, ← HGE.out]
  refine hK _ _ (.inr ⟨⟨wd, hbd⟩, rfl⟩) ?_
  clear hK K hw6
  (try simp only [List.getElem_toArray, List.getElem_cons_succ, List.getElem_cons_zero, Act.put, List.setIfInBounds_toArray, List.set_cons_succ, List.set_cons_zero])
  (refine Th.wpAnyK_takeY (i := 8) (v := ?_) rfl (by decide +kernel) (by decide +kernel) (by decide +kernel) (by decide) (fun _ _ _ h => h) (Or.inl ⟨by rfl, ?_⟩) (.inr ⟨⟨wd, hbd⟩, rfl⟩) ?_; rotate_left; (intro w; go_simp); (try with_reducible rfl))
  (try simp only [List.getElem_toArray, List.getElem_cons_succ, List.getElem_cons_zero, Act.put, List.setIfInBounds_toArray, List.set_cons_succ, List.set_cons_zero])
  (refine Th.wpAnyK_ready (rs := [9]) (by decide +kernel) (by simp) ?_; refine (Th.AllReadyK.cons rfl (fun K hK => ?_) Th.AllReadyK.nil))
  refine step_of rfl ?_
  go_step
  refine (emake_calls _ _ _ (by omega)).mono ?_; rintro _ w6 ⟨rfl, hw6⟩
  rw [← hw6]
  refine hK _ _ (.inr ⟨⟨wd, hbd⟩, rfl⟩) ?_
  clear hK K hw6
  (try simp only [List.getElem_toArray, List.getElem_cons_succ, List.getElem_cons_zero, Act.put, List.setIfInBounds_toArray, List.set_cons_succ, List.set_cons_zero])
  (refine Th.wpAnyK_ready (rs := [10]) (by decide +kernel) (by simp) ?_; refine (Th.AllReadyK.cons rfl (fun K hK => ?_) Th.AllReadyK.nil))
  refine step_of rfl ?_
  go_step
  refine (egen_calls _ _ HMK.out.1 HMK.out.2).mono ?_; rintro _ w6 ⟨rfl, hw6⟩
  rw [← hw6, HMG.out]
  refine hK _ _ (.inr ⟨⟨wd, hbd⟩, rfl⟩) ?_
  clear hK K hw6
  (try simp only [List.getElem_toArray, List.getElem_cons_succ, List.getElem_cons_zero, Act.put, List.setIfInBounds_toArray, List.set_cons_succ, List.set_cons_zero])
  (refine Th.wpAnyK_ready (rs := [11]) (by decide +kernel) (by simp) ?_; refine (Th.AllReadyK.cons rfl (fun K hK => ?_) Th.AllReadyK.nil))
  refine step_of rfl ?_
  go_step
  refine (cwacc (HU.out.below hdd) (F.r 0) 1 hr.1 hr.2 HL.out a0 a1 (by omega) (by omega)).mono ?_; rintro _ w3 ⟨rfl, hm3, ho⟩
  have HM3 := Lib.hid (hm3)
  have hkw : Th.KS (fun j => j = mb ∨ j = mg ∨ j = mg) U w3 := hbd.trans ⟨ho.os, ho.tape, ho.output, ho.size, fun j hj hx => ho.block j hj (fun e => hx (.inl e)) (fun e => hx (.inr (.inl e)))⟩
  refine hK _ _ (.inl rfl) ?_
  clear hK K
  (try simp only [List.getElem_toArray, List.getElem_cons_succ, List.getElem_cons_zero, Act.put, List.setIfInBounds_toArray, List.set_cons_succ, List.set_cons_zero])
  have HF3 := Lib.hid (HFU.out.of (hkw.block fb (Th.blk_lt HFU.out) (by have := HNE.out; omega)))
  have HX3 := Lib.hid ((hkw.block X (Th.blk_lt HX.out) (by have := HNX.out; omega)).trans HX.out)
  have HK3 := Lib.hid hkw
  clear ho hm3 hkw
  refine Th.wpAnyK_done (by decide +kernel) ?_ _
  clear hwg
  have x0 : w3.cell? ⟨X, 0, none⟩ = some (.pointer (some ⟨q, 0, none⟩)) := Th.newcell HX3.out 0 _ rfl
  go_wp2_with fail
  refine (cGuard HM3.out).mono ?_; rintro _ _ ⟨rfl, rfl⟩
  go_wp2_with fail
  refine (Gd.gdrop HM3.out.grd (F.r 0) hr.1 hr.2 hsl).mono ?_; rintro _ w4 ⟨rfl, hga, hk4⟩
  rw [HL.out, if_pos rfl] at hga
  clear x0
  have hqb := HM3.out.o5
  have HM4 := Lib.hid (HM3.out.gd hk4 hga)
  have HF4 := Lib.hid (HF3.out.of (hk4.block fb (Th.blk_lt HF3.out) (by have := HNE.out; omega) (by have := HNE.out; omega) (by have := HNE.out; omega)))
  have HX4 := Lib.hid ((hk4.block X (Th.blk_lt HX3.out) (by have := HNX.out; have := HXW.out; have := HH.out.qlt; omega) (by have := HXW.out; have := HH.out.qlt; omega) (by have := HXW.out; have := HH.out.qlt; omega)).trans HX3.out)
  have HK4 := Lib.hid ((HK3.out.mono fun j e => by rcases e with e | e | e; exact .inl e; exact .inr (.inl e); exact .inr (.inl e) : Th.KS (fun j => j = mb ∨ j = mg ∨ j = gq ∨ j = gg ∨ j = gm) U w3).trans ⟨hk4.os, hk4.tape, hk4.output, hk4.size, fun j hj hx => hk4.block j hj (fun e => hx (.inr (.inr (.inl e)))) (fun e => hx (.inr (.inr (.inr (.inl e))))) (fun e => hx (.inr (.inr (.inr (.inr e)))))⟩)
  have HQB := Lib.hid hqb
  clear hga hk4 hqb HM3 HF3 HX3 HK3
  have x2 : w4.cell? ⟨X, 2, none⟩ = some (.pointer (some ⟨fb, 0, none⟩)) := Th.newcell HX4.out 2 _ rfl
  have f1 : w4.cell? ⟨fb, 1, none⟩ = some (.int .i64 0) := by rw [HF4.out.get (i := 1) (by omega)]; unfold Th.frF; rw [if_neg (by decide), if_pos rfl, hpc]
  have rf : ∀ i, w4.frozen? ⟨fb, i, none⟩ = false := fun i => HF4.out.fr i
  go_wp2_with fail
  clear x2 f1 rf
  generalize hW2 : World.setCell _ _ _ = V
  have hbV : Th.Blk 69 V fb 26 (Th.upF (Th.frF F) 1 (.int .i64 1)) := by rw [← hW2]; exact HF4.out.set 1 _
  have hbV := hbV.congr (Th.frF_pc _ 1)
  have hkV : Th.KS (fun j => j = fb) w4 V := by rw [← hW2]; exact Th.KS.set w4 fb 1 _
  have HFV := Lib.hid hbV; have HKV := Lib.hid hkV
  clear hW2 hbV hkV
  refine bodyPost_end (v := .tuple #[]) (by simp [results, Try.results35, go_sem]) rfl ?_
  rw [HQ.out]
  have hTF := ((HT.out.below HBU.out).hi HK4.out.size fun j hj hjq => HK4.out.block j hj (by have := HH.out.qlt; have := HQB.out; omega)).frm hk (by omega : m < (Ts k).nf) (f := ⟨F.fn, 1, F.r⟩) (by rw [← HFE.out.1]; exact HKV.out) (by rw [← HFE.out.1]; exact HFV.out)
  have hwk : Th.KS (fun j => j = mb ∨ j = mg ∨ j = gq ∨ j = gg ∨ j = gm ∨ j = fb) w V := (Th.KS.of_below HBU.out).trans ((HK4.out.mono fun j e => by rcases e with e | e | e | e | e; exact .inl e; exact .inr (.inl e); exact .inr (.inr (.inl e)); exact .inr (.inr (.inr (.inl e))); exact .inr (.inr (.inr (.inr (.inl e))))).trans (HKV.out.mono fun j e => .inr (.inr (.inr (.inr (.inr e))))))
  refine ⟨rfl, ?_, ?_, ?_⟩
  · rw [← HFE.out.2, ← HGE.out]; exact HM4.out.ksT HF4.out HNE.out.2.2 (by decide) HKV.out
  · rw [← HFE.out.2]; exact hTF
  rw [← HFE.out.1]; exact hwk
set_option maxRecDepth 8000 in
set_option maxHeartbeats 2000000 in
theorem give1 {w : World} {B q pl mb mg C gq gg gm : Nat} {fv : Value} {tq : Nat → Nat} {t s : Nat} {K : Int} {f : Nat → Int} {acc : Int} {flt : Bool} {H : Nat → Bool} {G : Nat → Int} {sl steps : Int} {odd : Bool} (h : MC w B q pl mb mg C gq gg gm fv tq t s K f acc flt H G sl steps odd) {Ts : Nat → Th.Td} {ps : Nat → Nat → Nat} {fvs : Nat → Value} (tf : TF w q t tq Ts ps fvs) {k m : Nat} (hk : k < t) (hm : (Ts k).nf = m + 1) (hpc : ((Ts k).fs m).pc = 1) (hr : 0 ≤ ((Ts k).fs m).r 0 ∧ ((Ts k).fs m).r 0 < 18446744073709551616) (a0 : 0 ≤ acc) (a1 : acc < 1000000) :
    Calls Try.prog 35 #[.agg #[.pointer (some ⟨q, 0, none⟩), .pointer (some ⟨tq k, 0, none⟩), .pointer (some ⟨ps k m, 0, none⟩)]] w fun x w' => x = .returned (.tuple #[]) ∧ MC w' B q pl mb mg C gq gg gm fv tq t s K f (acc + 1) flt H G sl steps odd ∧ TF w' q t tq (fun i => if i = k then { Ts k with fs := Th.upM (Ts k).fs m ⟨((Ts k).fs m).fn, 2, fun a => if a = 1 then f 2 else ((Ts k).fs m).r a⟩ } else Ts i) ps fvs ∧ Th.KS (fun j => j = mb ∨ j = mg ∨ j = ps k m) w w' := by
  refine Calls.veil fun Q HQ => ?_
  have hmm : m < (Ts k).nf := by omega
  obtain ⟨fb, hfb⟩ : ∃ fb, fb = ps k m := ⟨_, rfl⟩
  have hbk := ((tf.th k hk).a.fb m hmm).1
  have hfl := (tf.th k hk).frm hmm
  rw [← hfb] at hbk hfl ⊢
  have HH := Lib.hid h; have HT := Lib.hid tf
  have HFB := Lib.hid hbk
  have hql := h.qlt
  have HNE := Lib.hid (show fb ≠ mb ∧ fb ≠ mg ∧ q < fb from by omega)
  obtain ⟨F, hF⟩ : ∃ F, F = (Ts k).fs m := ⟨_, rfl⟩
  rw [← hF] at HFB hpc hr
  have HFE := Lib.hid (And.intro hfb hF)
  clear h tf hbk hfl hfb hF
  go_enter Try.func35, Try.ntmps35
  go_upto_region 1 with fail
  generalize hV : World.alloc _ _ = U
  obtain ⟨u0, hbu⟩ := Th.heapnewE hV
  obtain ⟨X, hX⟩ : ∃ X, X = w.heap.size := ⟨_, rfl⟩
  rw [← hX] at u0 ⊢
  have HXW := Lib.hid hX
  have HU := Lib.hid (HH.out.below hbu); have HBU := Lib.hid hbu; have HX := Lib.hid u0; have HFU := Lib.hid (HFB.out.below hbu)
  have HNX := Lib.hid (show X ≠ mb ∧ X ≠ mg ∧ X ≠ fb ∧ X ≠ q from by have := Th.blk_lt HFB.out; have := HH.out.qlt; omega)
  clear hV u0 hbu hX
  have x2 : U.cell? ⟨X, 2, none⟩ = some (.pointer (some ⟨fb, 0, none⟩)) := Th.newcell HX.out 2 _ rfl
  have f1 : U.cell? ⟨fb, 1, none⟩ = some (.int .i64 1) := by rw [HFU.out.get (i := 1) (by omega)]; unfold Th.frF; rw [if_neg (by decide), if_pos rfl, hpc]
  have f2 : U.cell? ⟨fb, 2, none⟩ = some (.int .u64 (F.r 0)) := by rw [HFU.out.get (i := 2) (by omega)]; rfl
  go_upto_region 8 with fail
  clear x2 f1 f2
  have HLF := Lib.hid (show ∀ y : KX U mb mg mg, (Instr.loadAt 65 (.pointer (some ⟨X, 2, none⟩))).run Try.prog y.w = .ok (.pointer (some ⟨fb, 0, none⟩)) y.w from fun y => by have hc := KX.cells (Th.newcell HX.out 2 _ rfl) HNX.out.1 HNX.out.2.1 HNX.out.2.1 y; go_simp)
  have HLM := Lib.hid (show ∀ y : KX U mb mg mg, (Instr.loadAt 28 (.pointer (some ⟨X, 0, none⟩))).run Try.prog y.w = .ok (.pointer (some ⟨q, 0, none⟩)) y.w from fun y => by have hc := KX.cells (Th.newcell HX.out 0 _ rfl) HNX.out.1 HNX.out.2.1 HNX.out.2.1 y; go_simp)
  refine Th.wp_region_K (fun w' => ∃ y : KX U mb mg mg, w' = y.w) 11 (by decide +kernel) ?_
  generalize hwd : World.drew U = wd
  have hdd : Below U.heap.size U wd := by rw [← hwd]; exact (Below.refl _ _).drew
  have hbd : Th.KS (fun j => j = mb ∨ j = mg ∨ j = mg) U wd := .of_below hdd
  clear hwd
  (refine Th.wpAnyK_takeY (i := 0) (v := ?_) rfl (by decide +kernel) (by decide +kernel) (by decide +kernel) (by decide) (fun _ _ _ h => h) (Or.inl ⟨by rfl, ?_⟩) (.inr ⟨⟨wd, hbd⟩, rfl⟩) ?_; rotate_left; (intro w; go_simp); (try with_reducible rfl))
  (try simp only [List.getElem_toArray, List.getElem_cons_succ, List.getElem_cons_zero, Act.put, List.setIfInBounds_toArray, List.set_cons_succ, List.set_cons_zero])
  (refine Th.wpAnyK_takeY (i := 1) (v := ?_) rfl (by decide +kernel) (by decide +kernel) (by decide +kernel) (by decide) (fun _ _ _ h => h) (Or.inl ⟨by rfl, ?_⟩) (.inr ⟨⟨wd, hbd⟩, rfl⟩) ?_; rotate_left; (intro w; go_simp); (try with_reducible rfl))
  (try simp only [List.getElem_toArray, List.getElem_cons_succ, List.getElem_cons_zero, Act.put, List.setIfInBounds_toArray, List.set_cons_succ, List.set_cons_zero])
  (refine Th.wpAnyK_take (i := 2) (v := .pointer (some ⟨fb, 0, none⟩)) [8, 9, 10, 11] rfl (by decide +kernel) (by decide +kernel) (by decide +kernel) (by decide +kernel) (fun _ _ _ h => h) (Th.yields_loadK rfl 65 (.tmp 45) rfl rfl (by rintro _ ⟨y, rfl⟩; exact HLF.out y)) ⟨⟨wd, hbd⟩, rfl⟩ ?_)
  (try simp only [List.getElem_toArray, List.getElem_cons_succ, List.getElem_cons_zero, Act.put, List.setIfInBounds_toArray, List.set_cons_succ, List.set_cons_zero])
  (refine Th.wpAnyK_takeY (i := 3) (v := ?_) rfl (by decide +kernel) (by decide +kernel) (by decide +kernel) (by decide) (fun _ _ _ h => h) (Or.inl ⟨by rfl, ?_⟩) (.inr ⟨⟨wd, hbd⟩, rfl⟩) ?_; rotate_left; (intro w; go_simp); (try with_reducible rfl))
  (try simp only [List.getElem_toArray, List.getElem_cons_succ, List.getElem_cons_zero, Act.put, List.setIfInBounds_toArray, List.set_cons_succ, List.set_cons_zero])
  (refine Th.wpAnyK_takeY (i := 4) (v := ?_) rfl (by decide +kernel) (by decide +kernel) (by decide +kernel) (by decide) (fun _ _ _ h => h) (Or.inl ⟨by rfl, ?_⟩) (.inr ⟨⟨wd, hbd⟩, rfl⟩) ?_; rotate_left; (intro w; go_simp); (try with_reducible rfl))
  (try simp only [List.getElem_toArray, List.getElem_cons_succ, List.getElem_cons_zero, Act.put, List.setIfInBounds_toArray, List.set_cons_succ, List.set_cons_zero])
  (refine Th.wpAnyK_take (i := 5) (v := .pointer (some ⟨q, 0, none⟩)) [6, 7, 11] rfl (by decide +kernel) (by decide +kernel) (by decide +kernel) (by decide +kernel) (fun _ _ _ h => h) (Th.yields_loadK rfl 28 (.tmp 48) rfl rfl (by rintro _ ⟨y, rfl⟩; exact HLM.out y)) ⟨⟨wd, hbd⟩, rfl⟩ ?_)
  (try simp only [List.getElem_toArray, List.getElem_cons_succ, List.getElem_cons_zero, Act.put, List.setIfInBounds_toArray, List.set_cons_succ, List.set_cons_zero])
  (refine Th.wpAnyK_takeY (i := 8) (v := ?_) rfl (by decide +kernel) (by decide +kernel) (by decide +kernel) (by decide) (fun _ _ _ h => h) (Or.inl ⟨by rfl, ?_⟩) (.inr ⟨⟨wd, hbd⟩, rfl⟩) ?_; rotate_left; (intro w; go_simp); (try with_reducible rfl))
  (try simp only [List.getElem_toArray, List.getElem_cons_succ, List.getElem_cons_zero, Act.put, List.setIfInBounds_toArray, List.set_cons_succ, List.set_cons_zero])
  (refine Th.wpAnyK_takeY (i := 9) (v := ?_) rfl (by decide +kernel) (by decide +kernel) (by decide +kernel) (by decide) (fun _ _ _ h => h) (Or.inl ⟨by rfl, ?_⟩) (.inr ⟨⟨wd, hbd⟩, rfl⟩) ?_; rotate_left; (intro w; go_simp); (try with_reducible rfl))
  (try simp only [List.getElem_toArray, List.getElem_cons_succ, List.getElem_cons_zero, Act.put, List.setIfInBounds_toArray, List.set_cons_succ, List.set_cons_zero])
  (refine Th.wpAnyK_ready (rs := [6]) (by decide +kernel) (by simp) ?_; refine (Th.AllReadyK.cons rfl (fun K hK => ?_) Th.AllReadyK.nil))
  refine step_of rfl ?_
  go_step
  refine (cMem (HU.out.below hdd)).mono ?_; rintro _ w6 ⟨rfl, hw6⟩
  rw [← hw6]
  refine hK _ _ (.inr ⟨⟨wd, hbd⟩, rfl⟩) ?_
  clear hK K hw6
  (try simp only [List.getElem_toArray, List.getElem_cons_succ, List.getElem_cons_zero, Act.put, List.setIfInBounds_toArray, List.set_cons_succ, List.set_cons_zero])
  (refine Th.wpAnyK_ready (rs := [7]) (by decide +kernel) (by simp) ?_; refine (Th.AllReadyK.cons rfl (fun K hK => ?_) Th.AllReadyK.nil))
  refine step_of rfl ?_
  go_step
  have hbb := HH.out.bd
  refine (Mm.mload _ _ _ _ _ _ 2 _ _ (HU.out.below hdd).mem a0 (by omega)).mono ?_; rintro _ w3 ⟨rfl, hm3, ho⟩
  rw [okA2 _ (by omega)] at hm3
  have hli : Mm.ldI (3 + 8 * t + 7 * s) f 2 = f 2 := by unfold Mm.ldI; rw [okA2 _ (by omega)]; rfl
  rw [hli]
  have hkw : Th.KS (fun j => j = mb ∨ j = mg ∨ j = mg) U w3 := hbd.trans ⟨ho.os, ho.tape, ho.output, ho.size, fun j hj hx => ho.block j hj (fun e => hx (.inl e)) (fun e => hx (.inr (.inl e)))⟩
  refine hK _ _ (.inr ⟨⟨w3, hkw⟩, rfl⟩) ?_
  clear hK K hli hbb
  (try simp only [List.getElem_toArray, List.getElem_cons_succ, List.getElem_cons_zero, Act.put, List.setIfInBounds_toArray, List.set_cons_succ, List.set_cons_zero])
  have HM3 := Lib.hid ((HU.out.below hdd).only ho (by simpa using hm3))
  have HF3 := Lib.hid (HFU.out.of (hkw.block fb (Th.blk_lt HFU.out) (by have := HNE.out; omega)))
  have HX3 := Lib.hid ((hkw.block X (Th.blk_lt HX.out) (by have := HNX.out; omega)).trans HX.out)
  have HK3 := Lib.hid hkw
  clear ho hm3 hkw
  have r2 : w3.cell? ⟨fb, 3, none⟩ = some (.int .u64 (F.r 1)) := by rw [HF3.out.get (i := 3) (by omega)]; rfl
  have rf : ∀ i, w3.frozen? ⟨fb, i, none⟩ = false := fun i => HF3.out.fr i
  (refine Th.wpAnyK_takeY (i := 10) (v := ?_) rfl (by decide +kernel) (by decide +kernel) (by decide +kernel) (by decide) (fun _ _ _ h => h) (Or.inl ⟨by rfl, ?_⟩) (.inr ⟨⟨w3, HK3.out⟩, rfl⟩) ?_; rotate_left; (intro w; go_simp); (try with_reducible rfl))
  (try simp only [List.getElem_toArray, List.getElem_cons_succ, List.getElem_cons_zero, Act.put, List.setIfInBounds_toArray, List.set_cons_succ, List.set_cons_zero])
  (refine Th.wpAnyK_ready (rs := [11]) (by decide +kernel) (by simp) ?_; refine (Th.AllReadyK.cons rfl (fun K hK => ?_) Th.AllReadyK.nil))
  refine step_of rfl ?_
  go_step
  refine hK _ _ (.inl rfl) ?_
  clear hK K
  refine Th.wpAnyK_done (by decide +kernel) ?_ _
  clear r2 rf
  generalize hW : World.setCell _ _ _ = W
  have hbW : Th.Blk 69 W fb 26 (Th.upF (Th.frF F) (2 + 1) (.int .u64 (f 2))) := by rw [← hW]; exact HF3.out.set 3 _
  have hbW := hbW.congr (Th.frF_r F 1 (f 2))
  have hkW : Th.KS (fun j => j = fb) w3 W := by rw [← hW]; exact Th.KS.set w3 fb 3 _
  have HFW := Lib.hid hbW; have HKW := Lib.hid hkW
  clear hW hbW hkW
  have x2 : W.cell? ⟨X, 2, none⟩ = some (.pointer (some ⟨fb, 0, none⟩)) := Th.newcell ((HKW.out.block X (Th.blk_lt HX3.out) HNX.out.2.2.1).trans HX3.out) 2 _ rfl
  have f1 : W.cell? ⟨fb, 1, none⟩ = some (.int .i64 1) := by rw [HFW.out.get (i := 1) (by omega)]; unfold Th.frF; rw [if_neg (by decide), if_pos rfl, hpc]
  have rf : ∀ i, W.frozen? ⟨fb, i, none⟩ = false := fun i => HFW.out.fr i
  go_wp2_with fail
  clear x2 f1 rf
  generalize hW2 : World.setCell _ _ _ = V
  have hbV : Th.Blk 69 V fb 26 (Th.upF (Th.frF ⟨F.fn, F.pc, fun i => if i = 1 then f 2 else F.r i⟩) 1 (.int .i64 2)) := by rw [← hW2]; exact HFW.out.set 1 _
  have hbV := hbV.congr (Th.frF_pc _ 2)
  have hkV : Th.KS (fun j => j = fb) w3 V := by rw [← hW2]; exact HKW.out.trans (Th.KS.set W fb 1 _)
  have HFV := Lib.hid hbV; have HKV := Lib.hid hkV
  clear hW2 hbV hkV HFW HKW
  refine bodyPost_end (v := .tuple #[]) (by simp [results, Try.results35, go_sem]) rfl ?_
  rw [HQ.out]
  have hwk : Th.KS (fun j => j = mb ∨ j = mg ∨ j = fb) w V := (Th.KS.of_below HBU.out).trans ((HK3.out.mono fun j e => by rcases e with e | e | e; exact .inl e; exact .inr (.inl e); exact .inr (.inl e)).trans (HKV.out.mono fun j e => .inr (.inr e)))
  have hTF := ((HT.out.below HBU.out).hi HK3.out.size fun j hj hjq => HK3.out.block j hj (by have := HH.out.qlt; omega)).frm hk (by omega : m < (Ts k).nf) (f := ⟨F.fn, 2, fun i => if i = 1 then f 2 else F.r i⟩) (by rw [← HFE.out.1]; exact HKV.out) (by rw [← HFE.out.1]; exact HFV.out)
  refine ⟨rfl, HM3.out.ksT HF3.out HNE.out.2.2 (by decide) HKV.out, ?_, ?_⟩
  · rw [← HFE.out.2]; exact hTF
  rw [← HFE.out.1]; exact hwk
end Go.Proofs.Ytlahpnigabfenaa

/- Layer 17: Give's last two steps. -/
namespace Go.Proofs.Ytlahpnigabfenaa
open Go.RowKit WordM EdgeM
set_option linter.unusedVariables false
set_option linter.unusedSimpArgs false
set_option maxRecDepth 8000 in
set_option maxHeartbeats 2000000 in
theorem give2 {w : World} {B q pl mb mg C gq gg gm : Nat} {fv : Value} {tq : Nat → Nat} {t s : Nat} {K : Int} {f : Nat → Int} {acc : Int} {flt : Bool} {H : Nat → Bool} {G : Nat → Int} {sl steps : Int} {odd : Bool} (h : MC w B q pl mb mg C gq gg gm fv tq t s K f acc flt H G sl steps odd) {Ts : Nat → Th.Td} {ps : Nat → Nat → Nat} {fvs : Nat → Value} (tf : TF w q t tq Ts ps fvs) {k m : Nat} (hk : k < t) (hm : (Ts k).nf = m + 1) (hpc : ((Ts k).fs m).pc = 2) (hr : 0 ≤ ((Ts k).fs m).r 0 ∧ ((Ts k).fs m).r 0 < 18446744073709551616) (hr1 : 0 ≤ (((Ts k).fs m).r 1) ∧ (((Ts k).fs m).r 1) < 18446744073709551616) (a0 : 0 ≤ acc) (a1 : acc < 1000000) :
    Calls Try.prog 35 #[.agg #[.pointer (some ⟨q, 0, none⟩), .pointer (some ⟨tq k, 0, none⟩), .pointer (some ⟨ps k m, 0, none⟩)]] w fun x w' => x = .returned (.tuple #[]) ∧ MC w' B q pl mb mg C gq gg gm fv tq t s K (if Mm.okA (3 + 8 * t + 7 * s) (nodeI t s ((((Ts k).fs m).r 0) % 4096) 0) = true then Mm.upd f ((nodeI t s ((((Ts k).fs m).r 0) % 4096) 0)).toNat ((((Ts k).fs m).r 1) % 4096) else f) (acc + 1) (flt || !Mm.okA (3 + 8 * t + 7 * s) (nodeI t s ((((Ts k).fs m).r 0) % 4096) 0)) (H) (G) (sl) steps odd ∧ TF w' q t tq (fun i => if i = k then { Ts k with fs := Th.upM (Ts k).fs m ⟨((Ts k).fs m).fn, 3, ((Ts k).fs m).r⟩ } else Ts i) ps fvs ∧ Th.KS (fun j => j = mb ∨ j = mg ∨ j = ps k m) w w' := by
  refine Calls.veil fun Q HQ => ?_
  have hmm : m < (Ts k).nf := by omega
  obtain ⟨fb, hfb⟩ : ∃ fb, fb = ps k m := ⟨_, rfl⟩
  have hbk := ((tf.th k hk).a.fb m hmm).1
  have hfl := (tf.th k hk).frm hmm
  rw [← hfb] at hbk hfl ⊢
  have HH := Lib.hid h; have HT := Lib.hid tf
  have HFB := Lib.hid hbk
  have hql := h.qlt
  have HNE := Lib.hid (show fb ≠ mb ∧ fb ≠ mg ∧ q < fb from by omega)
  obtain ⟨F, hF⟩ : ∃ F, F = (Ts k).fs m := ⟨_, rfl⟩
  rw [← hF] at HFB hpc hr hr1
  have HFE := Lib.hid (And.intro hfb hF)
  have HR1 := Lib.hid hr1
  clear h tf hbk hfl hfb hF hr1
  go_enter Try.func35, Try.ntmps35
  go_upto_region 1 with fail
  generalize hV : World.alloc _ _ = U
  obtain ⟨u0, hbu⟩ := Th.heapnewE hV
  obtain ⟨X, hX⟩ : ∃ X, X = w.heap.size := ⟨_, rfl⟩
  rw [← hX] at u0 ⊢
  have HXW := Lib.hid hX
  have HU := Lib.hid (HH.out.below hbu); have HBU := Lib.hid hbu; have HX := Lib.hid u0; have HFU := Lib.hid (HFB.out.below hbu)
  have HNX := Lib.hid (show X ≠ mb ∧ X ≠ mg ∧ X ≠ fb ∧ X ≠ q from by have := Th.blk_lt HFB.out; have := HH.out.qlt; omega)
  clear hV u0 hbu hX
  have x2 : U.cell? ⟨X, 2, none⟩ = some (.pointer (some ⟨fb, 0, none⟩)) := Th.newcell HX.out 2 _ rfl
  have f1 : U.cell? ⟨fb, 1, none⟩ = some (.int .i64 2) := by rw [HFU.out.get (i := 1) (by omega)]; unfold Th.frF; rw [if_neg (by decide), if_pos rfl, hpc]
  have f2 : U.cell? ⟨fb, 2, none⟩ = some (.int .u64 (F.r 0)) := by rw [HFU.out.get (i := 2) (by omega)]; rfl
  go_upto_region 11 with fail
  clear x2 f1 f2
  have x2 : U.cell? ⟨X, 2, none⟩ = some (.pointer (some ⟨fb, 0, none⟩)) := Th.newcell HX.out 2 _ rfl
  have f3 : U.cell? ⟨fb, 3, none⟩ = some (.int .u64 (F.r 1)) := by rw [HFU.out.get (i := 3) (by omega)]; rfl
  go_wp2_with fail
  refine (bslot_calls _ _ HR1.out.1 HR1.out.2).mono ?_; rintro _ _ ⟨rfl, rfl⟩
  go_upto_region 12 with fail
  clear x2 f3
  obtain ⟨lk, hlk⟩ : ∃ lk, lk = F.r 1 % 4096 := ⟨_, rfl⟩
  have HLK := Lib.hid hlk
  have hl0 : 0 ≤ lk ∧ lk < 4096 := by omega
  have hwl : IntKind.u64.wrap lk = lk := by rw [IntKind.wrap_u64]; omega
  rw [← hlk]
  clear hlk
  have hbb := HH.out.bd
  have HLM := Lib.hid (show ∀ y : KX U mb mg mg, (Instr.loadAt 28 (.pointer (some ⟨X, 0, none⟩))).run Try.prog y.w = .ok (.pointer (some ⟨q, 0, none⟩)) y.w from fun y => by have hc := KX.cells (Th.newcell HX.out 0 _ rfl) HNX.out.1 HNX.out.2.1 HNX.out.2.1 y; go_simp)
  refine Th.wp_region_K (fun w' => ∃ y : KX U mb mg mg, w' = y.w) 13 (by decide +kernel) ?_
  generalize hwd : World.drew U = wd
  have hdd : Below U.heap.size U wd := by rw [← hwd]; exact (Below.refl _ _).drew
  have hbd : Th.KS (fun j => j = mb ∨ j = mg ∨ j = mg) U wd := .of_below hdd
  clear hwd
  (refine Th.wpAnyK_takeY (i := 0) (v := ?_) rfl (by decide +kernel) (by decide +kernel) (by decide +kernel) (by decide) (fun _ _ _ h => h) (Or.inl ⟨by rfl, ?_⟩) (.inr ⟨⟨wd, hbd⟩, rfl⟩) ?_; rotate_left; (intro w; go_simp); (try with_reducible rfl))
  (try simp only [List.getElem_toArray, List.getElem_cons_succ, List.getElem_cons_zero, Act.put, List.setIfInBounds_toArray, List.set_cons_succ, List.set_cons_zero])
  (refine Th.wpAnyK_takeY (i := 1) (v := ?_) rfl (by decide +kernel) (by decide +kernel) (by decide +kernel) (by decide) (fun _ _ _ h => h) (Or.inl ⟨by rfl, ?_⟩) (.inr ⟨⟨wd, hbd⟩, rfl⟩) ?_; rotate_left; (intro w; go_simp); (try with_reducible rfl))
  (try simp only [List.getElem_toArray, List.getElem_cons_succ, List.getElem_cons_zero, Act.put, List.setIfInBounds_toArray, List.set_cons_succ, List.set_cons_zero])
  (refine Th.wpAnyK_take (i := 2) (v := .pointer (some ⟨q, 0, none⟩)) [3, 13] rfl (by decide +kernel) (by decide +kernel) (by decide +kernel) (by decide +kernel) (fun _ _ _ h => h) (Th.yields_loadK rfl 28 (.tmp 71) rfl rfl (by rintro _ ⟨y, rfl⟩; exact HLM.out y)) ⟨⟨wd, hbd⟩, rfl⟩ ?_)
  (try simp only [List.getElem_toArray, List.getElem_cons_succ, List.getElem_cons_zero, Act.put, List.setIfInBounds_toArray, List.set_cons_succ, List.set_cons_zero])
  (refine Th.wpAnyK_takeY (i := 4) (v := ?_) rfl (by decide +kernel) (by decide +kernel) (by decide +kernel) (by decide) (fun _ _ _ h => h) (Or.inl ⟨by rfl, ?_⟩) (.inr ⟨⟨wd, hbd⟩, rfl⟩) ?_; rotate_left; (intro w; go_simp); (try with_reducible rfl))
  (try simp only [List.getElem_toArray, List.getElem_cons_succ, List.getElem_cons_zero, Act.put, List.setIfInBounds_toArray, List.set_cons_succ, List.set_cons_zero])
  (refine Th.wpAnyK_takeY (i := 5) (v := ?_) rfl (by decide +kernel) (by decide +kernel) (by decide +kernel) (by decide) (fun _ _ _ h => h) (Or.inl ⟨by rfl, ?_⟩) (.inr ⟨⟨wd, hbd⟩, rfl⟩) ?_; rotate_left; (intro w; go_simp); (try with_reducible rfl))
  (try simp only [List.getElem_toArray, List.getElem_cons_succ, List.getElem_cons_zero, Act.put, List.setIfInBounds_toArray, List.set_cons_succ, List.set_cons_zero])
  (refine Th.wpAnyK_take (i := 6) (v := .pointer (some ⟨q, 0, none⟩)) [7, 10, 13] rfl (by decide +kernel) (by decide +kernel) (by decide +kernel) (by decide +kernel) (fun _ _ _ h => h) (Th.yields_loadK rfl 28 (.tmp 75) rfl rfl (by rintro _ ⟨y, rfl⟩; exact HLM.out y)) ⟨⟨wd, hbd⟩, rfl⟩ ?_)
  (try simp only [List.getElem_toArray, List.getElem_cons_succ, List.getElem_cons_zero, Act.put, List.setIfInBounds_toArray, List.set_cons_succ, List.set_cons_zero])
  (refine Th.wpAnyK_takeY (i := 8) (v := ?_) rfl (by decide +kernel) (by decide +kernel) (by decide +kernel) (by decide) (fun _ _ _ h => h) (Or.inl ⟨by rfl, ?_⟩) (.inr ⟨⟨wd, hbd⟩, rfl⟩) ?_; rotate_left; (intro w; go_simp); (try with_reducible rfl))
  (try simp only [List.getElem_toArray, List.getElem_cons_succ, List.getElem_cons_zero, Act.put, List.setIfInBounds_toArray, List.set_cons_succ, List.set_cons_zero])
  (refine Th.wpAnyK_takeY (i := 11) (v := ?_) rfl (by decide +kernel) (by decide +kernel) (by decide +kernel) (by decide) (fun _ _ _ h => h) (Or.inl ⟨by rfl, ?_⟩) (.inr ⟨⟨wd, hbd⟩, rfl⟩) ?_; rotate_left; (intro w; go_simp); (try with_reducible rfl))
  (try simp only [List.getElem_toArray, List.getElem_cons_succ, List.getElem_cons_zero, Act.put, List.setIfInBounds_toArray, List.set_cons_succ, List.set_cons_zero])
  (refine Th.wpAnyK_takeY (i := 12) (v := ?_) rfl (by decide +kernel) (by decide +kernel) (by decide +kernel) (by decide) (fun _ _ _ h => h) (Or.inl ⟨by rfl, ?_⟩) (.inr ⟨⟨wd, hbd⟩, rfl⟩) ?_; rotate_left; (intro w; go_simp); (try with_reducible rfl))
  (try simp only [List.getElem_toArray, List.getElem_cons_succ, List.getElem_cons_zero, Act.put, List.setIfInBounds_toArray, List.set_cons_succ, List.set_cons_zero])
  (refine Th.wpAnyK_ready (rs := [3]) (by decide +kernel) (by simp) ?_; refine (Th.AllReadyK.cons rfl (fun K hK => ?_) Th.AllReadyK.nil))
  refine step_of rfl ?_
  go_step
  refine (cMem (HU.out.below hdd)).mono ?_; rintro _ w6 ⟨rfl, hw6⟩
  rw [← hw6]
  refine hK _ _ (.inr ⟨⟨wd, hbd⟩, rfl⟩) ?_
  clear hK K hw6
  (try simp only [List.getElem_toArray, List.getElem_cons_succ, List.getElem_cons_zero, Act.put, List.setIfInBounds_toArray, List.set_cons_succ, List.set_cons_zero])
  (refine Th.wpAnyK_ready (rs := [7]) (by decide +kernel) (by simp) ?_; refine (Th.AllReadyK.cons rfl (fun K hK => ?_) Th.AllReadyK.nil))
  refine step_of rfl ?_
  go_step
  refine (cPlan (HU.out.below hdd)).mono ?_; rintro _ w6 ⟨rfl, hw6⟩
  rw [← hw6]
  refine hK _ _ (.inr ⟨⟨wd, hbd⟩, rfl⟩) ?_
  clear hK K hw6
  (try simp only [List.getElem_toArray, List.getElem_cons_succ, List.getElem_cons_zero, Act.put, List.setIfInBounds_toArray, List.set_cons_succ, List.set_cons_zero])
  (refine Th.wpAnyK_ready (rs := [9]) (by decide +kernel) (by simp) ?_; refine (Th.AllReadyK.cons rfl (fun K hK => ?_) Th.AllReadyK.nil))
  refine step_of rfl ?_
  go_step
  refine (eslot_calls _ _ hr.1 hr.2).mono ?_; rintro _ w6 ⟨rfl, hw6⟩
  rw [← hw6]
  refine hK _ _ (.inr ⟨⟨wd, hbd⟩, rfl⟩) ?_
  clear hK K hw6
  (try simp only [List.getElem_toArray, List.getElem_cons_succ, List.getElem_cons_zero, Act.put, List.setIfInBounds_toArray, List.set_cons_succ, List.set_cons_zero])
  (refine Th.wpAnyK_ready (rs := [10]) (by decide +kernel) (by simp) ?_; refine (Th.AllReadyK.cons rfl (fun K hK => ?_) Th.AllReadyK.nil))
  refine step_of rfl ?_
  go_step
  refine (pnode_calls t s pl (F.r 0 % 4096) 0 _ (HU.out.below hdd).p0 (HU.out.below hdd).p1 (by omega) (by omega) (by omega) (by omega)).mono ?_; rintro _ w2 ⟨rfl, hb2⟩
  have hd2 := below_on hdd hb2
  have hb2 : Th.KS (fun j => j = mb ∨ j = mg ∨ j = mg) U w2 := .of_below hd2
  refine hK _ _ (.inr ⟨⟨w2, hb2⟩, rfl⟩) ?_
  clear hK K
  (try simp only [List.getElem_toArray, List.getElem_cons_succ, List.getElem_cons_zero, Act.put, List.setIfInBounds_toArray, List.set_cons_succ, List.set_cons_zero])
  (refine Th.wpAnyK_ready (rs := [13]) (by decide +kernel) (by simp) ?_; refine (Th.AllReadyK.cons rfl (fun K hK => ?_) Th.AllReadyK.nil))
  refine step_of rfl ?_
  go_step
  refine (Mm.mstore _ _ _ _ _ _ (nodeI t s (F.r 0 % 4096) 0) lk _ _ (HU.out.below hd2).mem a0 (by omega) (by omega) (by omega)).mono ?_; rintro _ w3 ⟨rfl, hm3, ho⟩
  have HM3 := Lib.hid ((HU.out.below hd2).only ho hm3)
  have hkw : Th.KS (fun j => j = mb ∨ j = mg ∨ j = mg) U w3 := hb2.trans ⟨ho.os, ho.tape, ho.output, ho.size, fun j hj hx => ho.block j hj (fun e => hx (.inl e)) (fun e => hx (.inr (.inl e)))⟩
  refine hK _ _ (.inl rfl) ?_
  clear hK K
  (try simp only [List.getElem_toArray, List.getElem_cons_succ, List.getElem_cons_zero, Act.put, List.setIfInBounds_toArray, List.set_cons_succ, List.set_cons_zero])
  have HF3 := Lib.hid (HFU.out.of (hkw.block fb (Th.blk_lt HFU.out) (by have := HNE.out; omega)))
  have HX3 := Lib.hid ((hkw.block X (Th.blk_lt HX.out) (by have := HNX.out; omega)).trans HX.out)
  have HK3 := Lib.hid hkw
  clear ho hm3 hkw
  refine Th.wpAnyK_done (by decide +kernel) ?_ _
  clear hwl hbb
  have x2 : w3.cell? ⟨X, 2, none⟩ = some (.pointer (some ⟨fb, 0, none⟩)) := Th.newcell HX3.out 2 _ rfl
  have f1 : w3.cell? ⟨fb, 1, none⟩ = some (.int .i64 2) := by rw [HF3.out.get (i := 1) (by omega)]; unfold Th.frF; rw [if_neg (by decide), if_pos rfl, hpc]
  have rf : ∀ i, w3.frozen? ⟨fb, i, none⟩ = false := fun i => HF3.out.fr i
  go_wp2_with fail
  clear x2 f1 rf
  generalize hW2 : World.setCell _ _ _ = V
  have hbV : Th.Blk 69 V fb 26 (Th.upF (Th.frF F) 1 (.int .i64 3)) := by rw [← hW2]; exact HF3.out.set 1 _
  have hbV := hbV.congr (Th.frF_pc _ 3)
  have hkV : Th.KS (fun j => j = fb) w3 V := by rw [← hW2]; exact Th.KS.set w3 fb 1 _
  have HFV := Lib.hid hbV; have HKV := Lib.hid hkV
  clear hW2 hbV hkV
  refine bodyPost_end (v := .tuple #[]) (by simp [results, Try.results35, go_sem]) rfl ?_
  rw [HQ.out]
  have hTF := ((HT.out.below HBU.out).hi HK3.out.size fun j hj hjq => HK3.out.block j hj (by have := HH.out.qlt; omega)).frm hk (by omega : m < (Ts k).nf) (f := ⟨F.fn, 3, F.r⟩) (by rw [← HFE.out.1]; exact HKV.out) (by rw [← HFE.out.1]; exact HFV.out)
  have hwk : Th.KS (fun j => j = mb ∨ j = mg ∨ j = fb) w V := (Th.KS.of_below HBU.out).trans ((HK3.out.mono fun j e => by rcases e with e | e | e; exact .inl e; exact .inr (.inl e); exact .inr (.inl e)).trans (HKV.out.mono fun j e => .inr (.inr e)))
  refine ⟨rfl, by rw [← HFE.out.2, ← HLK.out]; exact HM3.out.ksT HF3.out HNE.out.2.2 (by decide) HKV.out, ?_, ?_⟩
  · rw [← HFE.out.2]; exact hTF
  rw [← HFE.out.1]; exact hwk
set_option maxRecDepth 8000 in
set_option maxHeartbeats 2000000 in
theorem give3n {w : World} {B q pl mb mg C gq gg gm : Nat} {fv : Value} {tq : Nat → Nat} {t s : Nat} {K : Int} {f : Nat → Int} {acc : Int} {flt : Bool} {H : Nat → Bool} {G : Nat → Int} {sl steps : Int} {odd : Bool} (h : MC w B q pl mb mg C gq gg gm fv tq t s K f acc flt H G sl steps odd) {Ts : Nat → Th.Td} {ps : Nat → Nat → Nat} {fvs : Nat → Value} (tf : TF w q t tq Ts ps fvs) {k m : Nat} (hk : k < t) (hm : (Ts k).nf = m + 1) (hpc : ((Ts k).fs m).pc = 3) (hr : 0 ≤ ((Ts k).fs m).r 0 ∧ ((Ts k).fs m).r 0 < 18446744073709551616) (hr1 : 0 ≤ (((Ts k).fs m).r 1) ∧ (((Ts k).fs m).r 1) < 18446744073709551616) (hz : (f 2 == (((Ts k).fs m).r 1)) = false) (a0 : 0 ≤ acc) (a1 : acc < 1000000) :
    Calls Try.prog 35 #[.agg #[.pointer (some ⟨q, 0, none⟩), .pointer (some ⟨tq k, 0, none⟩), .pointer (some ⟨ps k m, 0, none⟩)]] w fun x w' => x = .returned (.tuple #[]) ∧ MC w' B q pl mb mg C gq gg gm fv tq t s K (f) (acc + 1) (flt) (H) (G) (sl) steps odd ∧ TF w' q t tq (fun i => if i = k then { Ts k with fs := Th.upM (Ts k).fs m ⟨((Ts k).fs m).fn, 1, ((Ts k).fs m).r⟩ } else Ts i) ps fvs ∧ Th.KS (fun j => j = mb ∨ j = mg ∨ j = ps k m) w w' := by
  refine Calls.veil fun Q HQ => ?_
  have hmm : m < (Ts k).nf := by omega
  obtain ⟨fb, hfb⟩ : ∃ fb, fb = ps k m := ⟨_, rfl⟩
  have hbk := ((tf.th k hk).a.fb m hmm).1
  have hfl := (tf.th k hk).frm hmm
  rw [← hfb] at hbk hfl ⊢
  have HH := Lib.hid h; have HT := Lib.hid tf
  have HFB := Lib.hid hbk
  have hql := h.qlt
  have HNE := Lib.hid (show fb ≠ mb ∧ fb ≠ mg ∧ q < fb from by omega)
  obtain ⟨F, hF⟩ : ∃ F, F = (Ts k).fs m := ⟨_, rfl⟩
  rw [← hF] at HFB hpc hr hr1 hz
  have HFE := Lib.hid (And.intro hfb hF)
  have HR1 := Lib.hid hr1; have HZ := Lib.hid hz
  clear h tf hbk hfl hfb hF hr1 hz
  go_enter Try.func35, Try.ntmps35
  go_upto_region 1 with fail
  generalize hV : World.alloc _ _ = U
  obtain ⟨u0, hbu⟩ := Th.heapnewE hV
  obtain ⟨X, hX⟩ : ∃ X, X = w.heap.size := ⟨_, rfl⟩
  rw [← hX] at u0 ⊢
  have HXW := Lib.hid hX
  have HU := Lib.hid (HH.out.below hbu); have HBU := Lib.hid hbu; have HX := Lib.hid u0; have HFU := Lib.hid (HFB.out.below hbu)
  have HNX := Lib.hid (show X ≠ mb ∧ X ≠ mg ∧ X ≠ fb ∧ X ≠ q from by have := Th.blk_lt HFB.out; have := HH.out.qlt; omega)
  clear hV u0 hbu hX
  have x2 : U.cell? ⟨X, 2, none⟩ = some (.pointer (some ⟨fb, 0, none⟩)) := Th.newcell HX.out 2 _ rfl
  have f1 : U.cell? ⟨fb, 1, none⟩ = some (.int .i64 3) := by rw [HFU.out.get (i := 1) (by omega)]; unfold Th.frF; rw [if_neg (by decide), if_pos rfl, hpc]
  have f2 : U.cell? ⟨fb, 2, none⟩ = some (.int .u64 (F.r 0)) := by rw [HFU.out.get (i := 2) (by omega)]; rfl
  go_upto_region 15 with fail
  clear x2 f1 f2
  have HLF := Lib.hid (show ∀ y : KX U mb mg mg, (Instr.loadAt 65 (.pointer (some ⟨X, 2, none⟩))).run Try.prog y.w = .ok (.pointer (some ⟨fb, 0, none⟩)) y.w from fun y => by have hc := KX.cells (Th.newcell HX.out 2 _ rfl) HNX.out.1 HNX.out.2.1 HNX.out.2.1 y; go_simp)
  have HLM := Lib.hid (show ∀ y : KX U mb mg mg, (Instr.loadAt 91 (.pointer (some ⟨X, 0, none⟩))).run Try.prog y.w = .ok (.agg #[.pointer (some ⟨q, 0, none⟩), .pointer (some ⟨tq k, 0, none⟩), .pointer (some ⟨fb, 0, none⟩)]) y.w from fun y => by
    have hc0 := KX.cells (Th.newcell HX.out 0 _ rfl) HNX.out.1 HNX.out.2.1 HNX.out.2.1 y; have hc1 := KX.cells (Th.newcell HX.out 1 _ rfl) HNX.out.1 HNX.out.2.1 HNX.out.2.1 y; have hc2 := KX.cells (Th.newcell HX.out 2 _ rfl) HNX.out.1 HNX.out.2.1 HNX.out.2.1 y
    go_simp)
  have HL1 := Lib.hid (show ∀ y : KX U mb mg mg, (Instr.loadAt 22 (.pointer (some ⟨fb, 3, none⟩))).run Try.prog y.w = .ok (.int .u64 (F.r 1)) y.w from fun y => by have hc := KX.cells (show U.cell? ⟨fb, 3, none⟩ = some (.int .u64 (F.r 1)) by rw [HFU.out.get (i := 3) (by omega)]; rfl) HNE.out.1 HNE.out.2.1 HNE.out.2.1 y; go_simp)
  refine Th.wp_region_K (fun w' => ∃ y : KX U mb mg mg, w' = y.w) 11 (by decide +kernel) ?_
  generalize hwd : World.drew U = wd
  have hdd : Below U.heap.size U wd := by rw [← hwd]; exact (Below.refl _ _).drew
  have hbd : Th.KS (fun j => j = mb ∨ j = mg ∨ j = mg) U wd := .of_below hdd
  clear hwd
  (refine Th.wpAnyK_takeY (i := 0) (v := ?_) rfl (by decide +kernel) (by decide +kernel) (by decide +kernel) (by decide) (fun _ _ _ h => h) (Or.inl ⟨by rfl, ?_⟩) (.inr ⟨⟨wd, hbd⟩, rfl⟩) ?_; rotate_left; (intro w; go_simp); (try with_reducible rfl))
  (try simp only [List.getElem_toArray, List.getElem_cons_succ, List.getElem_cons_zero, Act.put, List.setIfInBounds_toArray, List.set_cons_succ, List.set_cons_zero])
  (refine Th.wpAnyK_take (i := 1) (v := .agg #[.pointer (some ⟨q, 0, none⟩), .pointer (some ⟨tq k, 0, none⟩), .pointer (some ⟨fb, 0, none⟩)]) [11] rfl (by decide +kernel) (by decide +kernel) (by decide +kernel) (by decide +kernel) (fun _ _ _ h => h) (Th.yields_loadK rfl 91 (.tmp 91) rfl rfl (by rintro _ ⟨y, rfl⟩; exact HLM.out y)) ⟨⟨wd, hbd⟩, rfl⟩ ?_)
  (try simp only [List.getElem_toArray, List.getElem_cons_succ, List.getElem_cons_zero, Act.put, List.setIfInBounds_toArray, List.set_cons_succ, List.set_cons_zero])
  (refine Th.wpAnyK_takeY (i := 2) (v := ?_) rfl (by decide +kernel) (by decide +kernel) (by decide +kernel) (by decide) (fun _ _ _ h => h) (Or.inl ⟨by rfl, ?_⟩) (.inr ⟨⟨wd, hbd⟩, rfl⟩) ?_; rotate_left; (intro w; go_simp); (try with_reducible rfl))
  (try simp only [List.getElem_toArray, List.getElem_cons_succ, List.getElem_cons_zero, Act.put, List.setIfInBounds_toArray, List.set_cons_succ, List.set_cons_zero])
  (refine Th.wpAnyK_takeY (i := 3) (v := ?_) rfl (by decide +kernel) (by decide +kernel) (by decide +kernel) (by decide) (fun _ _ _ h => h) (Or.inl ⟨by rfl, ?_⟩) (.inr ⟨⟨wd, hbd⟩, rfl⟩) ?_; rotate_left; (intro w; go_simp); (try with_reducible rfl))
  (try simp only [List.getElem_toArray, List.getElem_cons_succ, List.getElem_cons_zero, Act.put, List.setIfInBounds_toArray, List.set_cons_succ, List.set_cons_zero])
  (refine Th.wpAnyK_take (i := 4) (v := .pointer (some ⟨fb, 0, none⟩)) [5, 6, 7, 8, 11] rfl (by decide +kernel) (by decide +kernel) (by decide +kernel) (by decide +kernel) (fun _ _ _ h => h) (Th.yields_loadK rfl 65 (.tmp 94) rfl rfl (by rintro _ ⟨y, rfl⟩; exact HLF.out y)) ⟨⟨wd, hbd⟩, rfl⟩ ?_)
  (try simp only [List.getElem_toArray, List.getElem_cons_succ, List.getElem_cons_zero, Act.put, List.setIfInBounds_toArray, List.set_cons_succ, List.set_cons_zero])
  (refine Th.wpAnyK_takeY (i := 5) (v := ?_) rfl (by decide +kernel) (by decide +kernel) (by decide +kernel) (by decide) (fun _ _ _ h => h) (Or.inl ⟨by rfl, ?_⟩) (.inr ⟨⟨wd, hbd⟩, rfl⟩) ?_; rotate_left; (intro w; go_simp); (try with_reducible rfl))
  (try simp only [List.getElem_toArray, List.getElem_cons_succ, List.getElem_cons_zero, Act.put, List.setIfInBounds_toArray, List.set_cons_succ, List.set_cons_zero])
  (refine Th.wpAnyK_takeY (i := 6) (v := ?_) rfl (by decide +kernel) (by decide +kernel) (by decide +kernel) (by decide) (fun _ _ _ h => h) (Or.inl ⟨by rfl, ?_⟩) (.inr ⟨⟨wd, hbd⟩, rfl⟩) ?_; rotate_left; (intro w; go_simp); (try with_reducible rfl))
  (try simp only [List.getElem_toArray, List.getElem_cons_succ, List.getElem_cons_zero, Act.put, List.setIfInBounds_toArray, List.set_cons_succ, List.set_cons_zero])
  (refine Th.wpAnyK_takeY (i := 7) (v := ?_) rfl (by decide +kernel) (by decide +kernel) (by decide +kernel) (by decide) (fun _ _ _ h => h) (Or.inl ⟨by rfl, ?_⟩) (.inr ⟨⟨wd, hbd⟩, rfl⟩) ?_; rotate_left; (intro w; go_simp); (try with_reducible rfl))
  (try simp only [List.getElem_toArray, List.getElem_cons_succ, List.getElem_cons_zero, Act.put, List.setIfInBounds_toArray, List.set_cons_succ, List.set_cons_zero])
  (refine Th.wpAnyK_take (i := 8) (v := .int .u64 (F.r 1)) [11] rfl (by decide +kernel) (by decide +kernel) (by decide +kernel) (by decide +kernel) (fun _ _ _ h => h) (Th.yields_loadK rfl 22 (.tmp 98) rfl rfl (by rintro _ ⟨y, rfl⟩; exact HL1.out y)) ⟨⟨wd, hbd⟩, rfl⟩ ?_)
  (try simp only [List.getElem_toArray, List.getElem_cons_succ, List.getElem_cons_zero, Act.put, List.setIfInBounds_toArray, List.set_cons_succ, List.set_cons_zero])
  (refine Th.wpAnyK_takeY (i := 9) (v := ?_) rfl (by decide +kernel) (by decide +kernel) (by decide +kernel) (by decide) (fun _ _ _ h => h) (Or.inl ⟨by rfl, ?_⟩) (.inr ⟨⟨wd, hbd⟩, rfl⟩) ?_; rotate_left; (intro w; go_simp); (try with_reducible rfl))
  (try simp only [List.getElem_toArray, List.getElem_cons_succ, List.getElem_cons_zero, Act.put, List.setIfInBounds_toArray, List.set_cons_succ, List.set_cons_zero])
  (refine Th.wpAnyK_ready (rs := [10]) (by decide +kernel) (by simp) ?_; refine (Th.AllReadyK.cons rfl (fun K hK => ?_) Th.AllReadyK.nil))
  refine step_of rfl ?_
  go_step
  refine (eslot_calls _ _ hr.1 hr.2).mono ?_; rintro _ w6 ⟨rfl, hw6⟩
  rw [← hw6]
  refine hK _ _ (.inr ⟨⟨wd, hbd⟩, rfl⟩) ?_
  clear hK K hw6
  (try simp only [List.getElem_toArray, List.getElem_cons_succ, List.getElem_cons_zero, Act.put, List.setIfInBounds_toArray, List.set_cons_succ, List.set_cons_zero])
  (refine Th.wpAnyK_ready (rs := [11]) (by decide +kernel) (by simp) ?_; refine (Th.AllReadyK.cons rfl (fun K hK => ?_) Th.AllReadyK.nil))
  refine step_of rfl ?_
  go_step
  refine (rchange (HU.out.below hdd) (F.r 1) (F.r 0 % 4096) (tq k) fb HR1.out.1 HR1.out.2 a0 a1).mono ?_; rintro _ w3 ⟨rfl, hm3, ho⟩
  rw [HZ.out] at hm3 ⊢
  rw [if_neg (by decide)] at hm3
  have HM3 := Lib.hid (hm3)
  have hkw : Th.KS (fun j => j = mb ∨ j = mg ∨ j = mg) U w3 := hbd.trans ⟨ho.os, ho.tape, ho.output, ho.size, fun j hj hx => ho.block j hj (fun e => hx (.inl e)) (fun e => hx (.inr (.inl e)))⟩
  refine hK _ _ (.inl rfl) ?_
  clear hK K
  (try simp only [List.getElem_toArray, List.getElem_cons_succ, List.getElem_cons_zero, Act.put, List.setIfInBounds_toArray, List.set_cons_succ, List.set_cons_zero])
  have HF3 := Lib.hid (HFU.out.of (hkw.block fb (Th.blk_lt HFU.out) (by have := HNE.out; omega)))
  have HX3 := Lib.hid ((hkw.block X (Th.blk_lt HX.out) (by have := HNX.out; omega)).trans HX.out)
  have HK3 := Lib.hid hkw
  clear ho hm3 hkw
  (refine Th.wpAnyK_takeY (i := 12) (v := ?_) rfl (by decide +kernel) (by decide +kernel) (by decide +kernel) (by decide) (fun _ _ _ h => h) (Or.inl ⟨by rfl, ?_⟩) (.inr ⟨⟨w3, HK3.out⟩, rfl⟩) ?_; rotate_left; (intro w; go_simp); (try with_reducible rfl))
  (try simp only [List.getElem_toArray, List.getElem_cons_succ, List.getElem_cons_zero, Act.put, List.setIfInBounds_toArray, List.set_cons_succ, List.set_cons_zero])
  refine Th.wpAnyK_done (by decide +kernel) ?_ _
  have x2 : w3.cell? ⟨X, 2, none⟩ = some (.pointer (some ⟨fb, 0, none⟩)) := Th.newcell HX3.out 2 _ rfl
  have f1 : w3.cell? ⟨fb, 1, none⟩ = some (.int .i64 3) := by rw [HF3.out.get (i := 1) (by omega)]; unfold Th.frF; rw [if_neg (by decide), if_pos rfl, hpc]
  have rf : ∀ i, w3.frozen? ⟨fb, i, none⟩ = false := fun i => HF3.out.fr i
  go_wp2_with fail
  clear x2 f1 rf
  generalize hW2 : World.setCell _ _ _ = V
  have hbV : Th.Blk 69 V fb 26 (Th.upF (Th.frF F) 1 (.int .i64 1)) := by rw [← hW2]; exact HF3.out.set 1 _
  have hbV := hbV.congr (Th.frF_pc _ 1)
  have hkV : Th.KS (fun j => j = fb) w3 V := by rw [← hW2]; exact Th.KS.set w3 fb 1 _
  have HFV := Lib.hid hbV; have HKV := Lib.hid hkV
  clear hW2 hbV hkV
  refine bodyPost_end (v := .tuple #[]) (by simp [results, Try.results35, go_sem]) rfl ?_
  rw [HQ.out]
  have hTF := ((HT.out.below HBU.out).hi HK3.out.size fun j hj hjq => HK3.out.block j hj (by have := HH.out.qlt; omega)).frm hk (by omega : m < (Ts k).nf) (f := ⟨F.fn, 1, F.r⟩) (by rw [← HFE.out.1]; exact HKV.out) (by rw [← HFE.out.1]; exact HFV.out)
  have hwk : Th.KS (fun j => j = mb ∨ j = mg ∨ j = fb) w V := (Th.KS.of_below HBU.out).trans ((HK3.out.mono fun j e => by rcases e with e | e | e; exact .inl e; exact .inr (.inl e); exact .inr (.inl e)).trans (HKV.out.mono fun j e => .inr (.inr e)))
  refine ⟨rfl, HM3.out.ksT HF3.out HNE.out.2.2 (by decide) HKV.out, ?_, ?_⟩
  · rw [← HFE.out.2]; exact hTF
  rw [← HFE.out.1]; exact hwk
set_option maxRecDepth 8000 in
set_option maxHeartbeats 2000000 in
theorem give3y {w : World} {B q pl mb mg C gq gg gm : Nat} {fv : Value} {tq : Nat → Nat} {t s : Nat} {K : Int} {f : Nat → Int} {acc : Int} {flt : Bool} {H : Nat → Bool} {G : Nat → Int} {sl steps : Int} {odd : Bool} (h : MC w B q pl mb mg C gq gg gm fv tq t s K f acc flt H G sl steps odd) {Ts : Nat → Th.Td} {ps : Nat → Nat → Nat} {fvs : Nat → Value} (tf : TF w q t tq Ts ps fvs) {k m : Nat} (hk : k < t) (hm : (Ts k).nf = m + 1) (hpc : ((Ts k).fs m).pc = 3) (hr : 0 ≤ ((Ts k).fs m).r 0 ∧ ((Ts k).fs m).r 0 < 18446744073709551616) (hr1 : 0 ≤ (((Ts k).fs m).r 1) ∧ (((Ts k).fs m).r 1) < 18446744073709551616) (hz : (f 2 == (((Ts k).fs m).r 1)) = true) (hN : m ≤ 1000) (a0 : 0 ≤ acc) (a1 : acc < 1000000) :
    Calls Try.prog 35 #[.agg #[.pointer (some ⟨q, 0, none⟩), .pointer (some ⟨tq k, 0, none⟩), .pointer (some ⟨ps k m, 0, none⟩)]] w fun x w' => x = .returned (.tuple #[]) ∧ MC w' B q pl mb mg C gq gg gm fv tq t s K (Mm.upd f 2 (chgI (((Ts k).fs m).r 1) ((((Ts k).fs m).r 0) % 4096))) (acc + 1) (flt) (H) (G) (sl) steps odd ∧ (∃ fv', TF w' q t tq (fun i => if i = k then Th.backT (Ts k) 0 (fun _ => 0) else Ts i) ps (fun i => if i = k then fv' else fvs i) ∧ ∀ j, fv'.ownBlock = some j → (fvs k).ownBlock = some j) ∧ Th.KS (fun j => j = mb ∨ j = mg ∨ j = tq k ∨ (fvs k).ownBlock = some j) w w' := by
  refine Calls.veil fun Q HQ => ?_
  have hmm : m < (Ts k).nf := by omega
  obtain ⟨fb, hfb⟩ : ∃ fb, fb = ps k m := ⟨_, rfl⟩
  have hbk := ((tf.th k hk).a.fb m hmm).1
  have hfl := (tf.th k hk).frm hmm
  rw [← hfb] at hbk hfl ⊢
  have HH := Lib.hid h; have HT := Lib.hid tf
  have HFB := Lib.hid hbk
  have hql := h.qlt
  have HNE := Lib.hid (show fb ≠ mb ∧ fb ≠ mg ∧ q < fb from by omega)
  obtain ⟨F, hF⟩ : ∃ F, F = (Ts k).fs m := ⟨_, rfl⟩
  rw [← hF] at HFB hpc hr hr1 hz
  have HFE := Lib.hid (And.intro hfb hF)
  have HR1 := Lib.hid hr1; have HZ := Lib.hid hz
  clear h tf hbk hfl hfb hF hr1 hz
  go_enter Try.func35, Try.ntmps35
  go_upto_region 1 with fail
  generalize hV : World.alloc _ _ = U
  obtain ⟨u0, hbu⟩ := Th.heapnewE hV
  obtain ⟨X, hX⟩ : ∃ X, X = w.heap.size := ⟨_, rfl⟩
  rw [← hX] at u0 ⊢
  have HXW := Lib.hid hX
  have HU := Lib.hid (HH.out.below hbu); have HBU := Lib.hid hbu; have HX := Lib.hid u0; have HFU := Lib.hid (HFB.out.below hbu)
  have HNX := Lib.hid (show X ≠ mb ∧ X ≠ mg ∧ X ≠ fb ∧ X ≠ q from by have := Th.blk_lt HFB.out; have := HH.out.qlt; omega)
  clear hV u0 hbu hX
  have x2 : U.cell? ⟨X, 2, none⟩ = some (.pointer (some ⟨fb, 0, none⟩)) := Th.newcell HX.out 2 _ rfl
  have f1 : U.cell? ⟨fb, 1, none⟩ = some (.int .i64 3) := by rw [HFU.out.get (i := 1) (by omega)]; unfold Th.frF; rw [if_neg (by decide), if_pos rfl, hpc]
  have f2 : U.cell? ⟨fb, 2, none⟩ = some (.int .u64 (F.r 0)) := by rw [HFU.out.get (i := 2) (by omega)]; rfl
  go_upto_region 15 with fail
  clear x2 f1 f2
  have HLF := Lib.hid (show ∀ y : KX U mb mg mg, (Instr.loadAt 65 (.pointer (some ⟨X, 2, none⟩))).run Try.prog y.w = .ok (.pointer (some ⟨fb, 0, none⟩)) y.w from fun y => by have hc := KX.cells (Th.newcell HX.out 2 _ rfl) HNX.out.1 HNX.out.2.1 HNX.out.2.1 y; go_simp)
  have HLM := Lib.hid (show ∀ y : KX U mb mg mg, (Instr.loadAt 91 (.pointer (some ⟨X, 0, none⟩))).run Try.prog y.w = .ok (.agg #[.pointer (some ⟨q, 0, none⟩), .pointer (some ⟨tq k, 0, none⟩), .pointer (some ⟨fb, 0, none⟩)]) y.w from fun y => by
    have hc0 := KX.cells (Th.newcell HX.out 0 _ rfl) HNX.out.1 HNX.out.2.1 HNX.out.2.1 y; have hc1 := KX.cells (Th.newcell HX.out 1 _ rfl) HNX.out.1 HNX.out.2.1 HNX.out.2.1 y; have hc2 := KX.cells (Th.newcell HX.out 2 _ rfl) HNX.out.1 HNX.out.2.1 HNX.out.2.1 y
    go_simp)
  have HL1 := Lib.hid (show ∀ y : KX U mb mg mg, (Instr.loadAt 22 (.pointer (some ⟨fb, 3, none⟩))).run Try.prog y.w = .ok (.int .u64 (F.r 1)) y.w from fun y => by have hc := KX.cells (show U.cell? ⟨fb, 3, none⟩ = some (.int .u64 (F.r 1)) by rw [HFU.out.get (i := 3) (by omega)]; rfl) HNE.out.1 HNE.out.2.1 HNE.out.2.1 y; go_simp)
  refine Th.wp_region_K (fun w' => ∃ y : KX U mb mg mg, w' = y.w) 11 (by decide +kernel) ?_
  generalize hwd : World.drew U = wd
  have hdd : Below U.heap.size U wd := by rw [← hwd]; exact (Below.refl _ _).drew
  have hbd : Th.KS (fun j => j = mb ∨ j = mg ∨ j = mg) U wd := .of_below hdd
  clear hwd
  (refine Th.wpAnyK_takeY (i := 0) (v := ?_) rfl (by decide +kernel) (by decide +kernel) (by decide +kernel) (by decide) (fun _ _ _ h => h) (Or.inl ⟨by rfl, ?_⟩) (.inr ⟨⟨wd, hbd⟩, rfl⟩) ?_; rotate_left; (intro w; go_simp); (try with_reducible rfl))
  (try simp only [List.getElem_toArray, List.getElem_cons_succ, List.getElem_cons_zero, Act.put, List.setIfInBounds_toArray, List.set_cons_succ, List.set_cons_zero])
  (refine Th.wpAnyK_take (i := 1) (v := .agg #[.pointer (some ⟨q, 0, none⟩), .pointer (some ⟨tq k, 0, none⟩), .pointer (some ⟨fb, 0, none⟩)]) [11] rfl (by decide +kernel) (by decide +kernel) (by decide +kernel) (by decide +kernel) (fun _ _ _ h => h) (Th.yields_loadK rfl 91 (.tmp 91) rfl rfl (by rintro _ ⟨y, rfl⟩; exact HLM.out y)) ⟨⟨wd, hbd⟩, rfl⟩ ?_)
  (try simp only [List.getElem_toArray, List.getElem_cons_succ, List.getElem_cons_zero, Act.put, List.setIfInBounds_toArray, List.set_cons_succ, List.set_cons_zero])
  (refine Th.wpAnyK_takeY (i := 2) (v := ?_) rfl (by decide +kernel) (by decide +kernel) (by decide +kernel) (by decide) (fun _ _ _ h => h) (Or.inl ⟨by rfl, ?_⟩) (.inr ⟨⟨wd, hbd⟩, rfl⟩) ?_; rotate_left; (intro w; go_simp); (try with_reducible rfl))
  (try simp only [List.getElem_toArray, List.getElem_cons_succ, List.getElem_cons_zero, Act.put, List.setIfInBounds_toArray, List.set_cons_succ, List.set_cons_zero])
  (refine Th.wpAnyK_takeY (i := 3) (v := ?_) rfl (by decide +kernel) (by decide +kernel) (by decide +kernel) (by decide) (fun _ _ _ h => h) (Or.inl ⟨by rfl, ?_⟩) (.inr ⟨⟨wd, hbd⟩, rfl⟩) ?_; rotate_left; (intro w; go_simp); (try with_reducible rfl))
  (try simp only [List.getElem_toArray, List.getElem_cons_succ, List.getElem_cons_zero, Act.put, List.setIfInBounds_toArray, List.set_cons_succ, List.set_cons_zero])
  (refine Th.wpAnyK_take (i := 4) (v := .pointer (some ⟨fb, 0, none⟩)) [5, 6, 7, 8, 11] rfl (by decide +kernel) (by decide +kernel) (by decide +kernel) (by decide +kernel) (fun _ _ _ h => h) (Th.yields_loadK rfl 65 (.tmp 94) rfl rfl (by rintro _ ⟨y, rfl⟩; exact HLF.out y)) ⟨⟨wd, hbd⟩, rfl⟩ ?_)
  (try simp only [List.getElem_toArray, List.getElem_cons_succ, List.getElem_cons_zero, Act.put, List.setIfInBounds_toArray, List.set_cons_succ, List.set_cons_zero])
  (refine Th.wpAnyK_takeY (i := 5) (v := ?_) rfl (by decide +kernel) (by decide +kernel) (by decide +kernel) (by decide) (fun _ _ _ h => h) (Or.inl ⟨by rfl, ?_⟩) (.inr ⟨⟨wd, hbd⟩, rfl⟩) ?_; rotate_left; (intro w; go_simp); (try with_reducible rfl))
  (try simp only [List.getElem_toArray, List.getElem_cons_succ, List.getElem_cons_zero, Act.put, List.setIfInBounds_toArray, List.set_cons_succ, List.set_cons_zero])
  (refine Th.wpAnyK_takeY (i := 6) (v := ?_) rfl (by decide +kernel) (by decide +kernel) (by decide +kernel) (by decide) (fun _ _ _ h => h) (Or.inl ⟨by rfl, ?_⟩) (.inr ⟨⟨wd, hbd⟩, rfl⟩) ?_; rotate_left; (intro w; go_simp); (try with_reducible rfl))
  (try simp only [List.getElem_toArray, List.getElem_cons_succ, List.getElem_cons_zero, Act.put, List.setIfInBounds_toArray, List.set_cons_succ, List.set_cons_zero])
  (refine Th.wpAnyK_takeY (i := 7) (v := ?_) rfl (by decide +kernel) (by decide +kernel) (by decide +kernel) (by decide) (fun _ _ _ h => h) (Or.inl ⟨by rfl, ?_⟩) (.inr ⟨⟨wd, hbd⟩, rfl⟩) ?_; rotate_left; (intro w; go_simp); (try with_reducible rfl))
  (try simp only [List.getElem_toArray, List.getElem_cons_succ, List.getElem_cons_zero, Act.put, List.setIfInBounds_toArray, List.set_cons_succ, List.set_cons_zero])
  (refine Th.wpAnyK_take (i := 8) (v := .int .u64 (F.r 1)) [11] rfl (by decide +kernel) (by decide +kernel) (by decide +kernel) (by decide +kernel) (fun _ _ _ h => h) (Th.yields_loadK rfl 22 (.tmp 98) rfl rfl (by rintro _ ⟨y, rfl⟩; exact HL1.out y)) ⟨⟨wd, hbd⟩, rfl⟩ ?_)
  (try simp only [List.getElem_toArray, List.getElem_cons_succ, List.getElem_cons_zero, Act.put, List.setIfInBounds_toArray, List.set_cons_succ, List.set_cons_zero])
  (refine Th.wpAnyK_takeY (i := 9) (v := ?_) rfl (by decide +kernel) (by decide +kernel) (by decide +kernel) (by decide) (fun _ _ _ h => h) (Or.inl ⟨by rfl, ?_⟩) (.inr ⟨⟨wd, hbd⟩, rfl⟩) ?_; rotate_left; (intro w; go_simp); (try with_reducible rfl))
  (try simp only [List.getElem_toArray, List.getElem_cons_succ, List.getElem_cons_zero, Act.put, List.setIfInBounds_toArray, List.set_cons_succ, List.set_cons_zero])
  (refine Th.wpAnyK_ready (rs := [10]) (by decide +kernel) (by simp) ?_; refine (Th.AllReadyK.cons rfl (fun K hK => ?_) Th.AllReadyK.nil))
  refine step_of rfl ?_
  go_step
  refine (eslot_calls _ _ hr.1 hr.2).mono ?_; rintro _ w6 ⟨rfl, hw6⟩
  rw [← hw6]
  refine hK _ _ (.inr ⟨⟨wd, hbd⟩, rfl⟩) ?_
  clear hK K hw6
  (try simp only [List.getElem_toArray, List.getElem_cons_succ, List.getElem_cons_zero, Act.put, List.setIfInBounds_toArray, List.set_cons_succ, List.set_cons_zero])
  (refine Th.wpAnyK_ready (rs := [11]) (by decide +kernel) (by simp) ?_; refine (Th.AllReadyK.cons rfl (fun K hK => ?_) Th.AllReadyK.nil))
  refine step_of rfl ?_
  go_step
  refine (rchange (HU.out.below hdd) (F.r 1) (F.r 0 % 4096) (tq k) fb HR1.out.1 HR1.out.2 a0 a1).mono ?_; rintro _ w3 ⟨rfl, hm3, ho⟩
  rw [HZ.out] at hm3 ⊢
  rw [if_pos rfl] at hm3
  have HM3 := Lib.hid (hm3)
  have hkw : Th.KS (fun j => j = mb ∨ j = mg ∨ j = mg) U w3 := hbd.trans ⟨ho.os, ho.tape, ho.output, ho.size, fun j hj hx => ho.block j hj (fun e => hx (.inl e)) (fun e => hx (.inr (.inl e)))⟩
  refine hK _ _ (.inl rfl) ?_
  clear hK K
  (try simp only [List.getElem_toArray, List.getElem_cons_succ, List.getElem_cons_zero, Act.put, List.setIfInBounds_toArray, List.set_cons_succ, List.set_cons_zero])
  have HF3 := Lib.hid (HFU.out.of (hkw.block fb (Th.blk_lt HFU.out) (by have := HNE.out; omega)))
  have HX3 := Lib.hid ((hkw.block X (Th.blk_lt HX.out) (by have := HNX.out; omega)).trans HX.out)
  have HK3 := Lib.hid hkw
  clear ho hm3 hkw
  (refine Th.wpAnyK_takeY (i := 12) (v := ?_) rfl (by decide +kernel) (by decide +kernel) (by decide +kernel) (by decide) (fun _ _ _ h => h) (Or.inl ⟨by rfl, ?_⟩) (.inr ⟨⟨w3, HK3.out⟩, rfl⟩) ?_; rotate_left; (intro w; go_simp); (try with_reducible rfl))
  (try simp only [List.getElem_toArray, List.getElem_cons_succ, List.getElem_cons_zero, Act.put, List.setIfInBounds_toArray, List.set_cons_succ, List.set_cons_zero])
  refine Th.wpAnyK_done (by decide +kernel) ?_ _
  have x1 : w3.cell? ⟨X, 1, none⟩ = some (.pointer (some ⟨tq k, 0, none⟩)) := Th.newcell HX3.out 1 _ rfl
  have hTF := ((HT.out.below HBU.out).hi HK3.out.size fun j hj hjq => HK3.out.block j hj (by have := HH.out.qlt; omega))
  have HTF := Lib.hid hTF; have HTH := Lib.hid (hTF.th k hk)
  have HKY := Lib.hid ((Th.KS.of_below HBU.out : Th.KS (fun j => j = mb ∨ j = mg ∨ j = tq k ∨ (fvs k).ownBlock = some j) w U).trans (HK3.out.mono fun j e => by rcases e with e | e | e; exact .inl e; exact .inr (.inl e); exact .inr (.inl e)))
  clear hTF
  go_wp2_with fail
  refine (Th.fback (n := 0) (L := fun _ => 0) HTH.out.a (Th.UR.nil _) (by omega)).mono ?_; rintro _ w5 ⟨rfl, ⟨fv', ha, ho5⟩, kq⟩
  have HM5 := Lib.hid (HM3.out.kqF HTF.out hk kq)
  have HT5 := Lib.hid (HTF.out.one hk (p' := ps k) ⟨ha, HTH.out.r, HTH.out.s⟩ kq (fun j hj => .inl (ho5 j hj)) fun a ha => .inl ⟨Nat.lt_of_lt_of_le ha (Nat.sub_le _ _), rfl⟩)
  have HO5 := Lib.hid ho5
  have HK5 := Lib.hid (HKY.out.trans ⟨kq.os, kq.tape, kq.output, kq.size, fun j hj hx => kq.block j hj (fun e => hx (.inr (.inr (.inl e)))) (fun e => hx (.inr (.inr (.inr e)))) (fun e => by cases e)⟩)
  clear ha ho5 kq x1
  go_wp2_with fail
  refine bodyPost_end (v := .tuple #[]) (by simp [results, Try.results35, go_sem]) rfl ?_
  rw [HQ.out]
  refine ⟨rfl, by rw [← HFE.out.2]; exact HM5.out, ⟨fv', ?_, HO5.out⟩, HK5.out⟩
  have h5 := HT5.out
  have e1 : (fun i => if i = k then ps k else ps i) = ps := funext fun i => by
    by_cases e : i = k
    · rw [if_pos e, e]
    · rw [if_neg e]
  rw [e1] at h5
  exact h5
end Go.Proofs.Ytlahpnigabfenaa

/- Layer 17: Do at Give, and Give alone. -/
namespace Go.Proofs.Ytlahpnigabfenaa
open Go.RowKit WordM EdgeM
set_option linter.unusedVariables false
set_option linter.unusedSimpArgs false
def Pc.st (P : Pc) (f : Nat → Int) (slot fi v : Int) : Nat → Int := if P.ok slot fi = true then Mm.upd f (nodeI P.t P.s slot fi).toNat v else f
/-- A step of Give. -/
def rGive (P : Pc) (k m : Nat) (σ : Sg) : Sg :=
  if ((σ.Ts k).fs m).pc = 0 then
    { σ.thr k (setF (σ.Ts k) m ⟨((σ.Ts k).fs m).fn, 1, ((σ.Ts k).fs m).r⟩) with acc := σ.acc + 1, flt := (σ.flt || !P.ok (((σ.Ts k).fs m).r 0 % 4096) 1), f := P.st σ.f (((σ.Ts k).fs m).r 0 % 4096) 1 (((((σ.Ts k).fs m).r 0) / 4096 % 1125899906842624 + 1) % 1125899906842624), H := Gd.dropH P.s σ.H σ.G (((σ.Ts k).fs m).r 0), G := Gd.dropG P.s σ.H σ.G (((σ.Ts k).fs m).r 0) }
  else if ((σ.Ts k).fs m).pc = 1 then
    { σ.thr k (setF (σ.Ts k) m ⟨((σ.Ts k).fs m).fn, 2, updr ((σ.Ts k).fs m).r 1 (σ.f 2)⟩) with acc := σ.acc + 1 }
  else if ((σ.Ts k).fs m).pc = 2 then
    { σ.thr k (setF (σ.Ts k) m ⟨((σ.Ts k).fs m).fn, 3, ((σ.Ts k).fs m).r⟩) with acc := σ.acc + 1, flt := σ.flt || !P.ok (((σ.Ts k).fs m).r 0 % 4096) 0, f := P.st σ.f (((σ.Ts k).fs m).r 0 % 4096) 0 (((σ.Ts k).fs m).r 1 % 4096) }
  else if (σ.f 2 == ((σ.Ts k).fs m).r 1) = true then
    { σ.thr k (Th.backT (σ.Ts k) 0 (fun _ => 0)) with acc := σ.acc + 1, f := Mm.upd σ.f 2 (chgI (((σ.Ts k).fs m).r 1) (((σ.Ts k).fs m).r 0 % 4096)) }
  else { σ.thr k (setF (σ.Ts k) m ⟨((σ.Ts k).fs m).fn, 1, ((σ.Ts k).fs m).r⟩) with acc := σ.acc + 1 }
theorem mgive {w : World} {P : Pc} {σ : Sg} (h : MM w P σ) {ps : Nat → Nat → Nat} {fvs : Nat → Value} (tf : TF w P.q P.t P.tq σ.Ts ps fvs) {k m : Nat} (hk : k < P.t) (hm : (σ.Ts k).nf = m + 1) (hpc : 0 ≤ ((σ.Ts k).fs m).pc ∧ ((σ.Ts k).fs m).pc ≤ 3)
    (hr : 0 ≤ ((σ.Ts k).fs m).r 0 ∧ ((σ.Ts k).fs m).r 0 < 18446744073709551616) (hr1 : 2 ≤ ((σ.Ts k).fs m).pc → 0 ≤ ((σ.Ts k).fs m).r 1 ∧ ((σ.Ts k).fs m).r 1 < 18446744073709551616) (hl : ((σ.Ts k).fs m).pc = 0 → Gd.leadsB P.s σ.H σ.G (((σ.Ts k).fs m).r 0) = true) (a0 : 0 ≤ σ.acc) (a1 : σ.acc < 1000000) (hsl : σ.sl < 1000000) (hN : m ≤ 1000) :
    Calls Try.prog 35 #[.agg #[.pointer (some ⟨P.q, 0, none⟩), .pointer (some ⟨P.tq k, 0, none⟩), .pointer (some ⟨ps k m, 0, none⟩)]] w fun x w' => x = .returned (.tuple #[]) ∧ MM w' P (rGive P k m σ) ∧ KA P.B P.N w w' := by
  have hmm : m < (σ.Ts k).nf := by omega
  rcases (by omega : ((σ.Ts k).fs m).pc = 0 ∨ ((σ.Ts k).fs m).pc = 1 ∨ ((σ.Ts k).fs m).pc = 2 ∨ ((σ.Ts k).fs m).pc = 3) with e | e | e | e
  · refine (give0 h.c tf hk hm e hr (hl e) hsl a0 a1).mono ?_
    rintro _ w' ⟨rfl, hc, ht, ks⟩
    refine ⟨rfl, by unfold rGive; rw [if_pos e]; exact ⟨hc, ⟨_, _, ht⟩, h.qN, h.tN, Nat.le_trans h.NS ks.size⟩, h.ka tf hk (m := m) ks fun j hj => ?_⟩
    rcases hj with e | e | e | e | e | e
    · exact .inl e
    · exact .inr (.inl e)
    · exact .inr (.inr (.inl e))
    · exact .inr (.inr (.inr (.inl e)))
    · exact .inr (.inr (.inr (.inr (.inl e))))
    · exact .inr (.inr (.inr (.inr (.inr (.inr (.inr (.inr ⟨hmm, e⟩)))))))
  · refine (give1 h.c tf hk hm e hr a0 a1).mono ?_
    rintro _ w' ⟨rfl, hc, ht, ks⟩
    refine ⟨rfl, by unfold rGive; rw [if_neg (by omega), if_pos e]; exact ⟨hc, ⟨_, _, ht⟩, h.qN, h.tN, Nat.le_trans h.NS ks.size⟩, h.ka tf hk (m := m) ks fun j hj => ?_⟩
    rcases hj with e | e | e
    · exact .inl e
    · exact .inr (.inl e)
    · exact .inr (.inr (.inr (.inr (.inr (.inr (.inr (.inr ⟨hmm, e⟩)))))))
  · refine (give2 h.c tf hk hm e hr (hr1 (by omega)) a0 a1).mono ?_
    rintro _ w' ⟨rfl, hc, ht, ks⟩
    refine ⟨rfl, by unfold rGive; rw [if_neg (by omega), if_neg (by omega), if_pos e]; exact ⟨hc, ⟨_, _, ht⟩, h.qN, h.tN, Nat.le_trans h.NS ks.size⟩, h.ka tf hk (m := m) ks fun j hj => ?_⟩
    rcases hj with e | e | e
    · exact .inl e
    · exact .inr (.inl e)
    · exact .inr (.inr (.inr (.inr (.inr (.inr (.inr (.inr ⟨hmm, e⟩)))))))
  · cases hz : σ.f 2 == ((σ.Ts k).fs m).r 1 with
    | true =>
      refine (give3y h.c tf hk hm e hr (hr1 (by omega)) hz hN a0 a1).mono ?_
      rintro _ w' ⟨rfl, hc, ⟨fv', ht, ho⟩, ks⟩
      refine ⟨rfl, by unfold rGive; rw [if_neg (by omega), if_neg (by omega), if_neg (by omega), if_pos hz]; exact ⟨hc, ⟨_, _, ht⟩, h.qN, h.tN, Nat.le_trans h.NS ks.size⟩, h.ka tf hk (m := m) ks fun j hj => ?_⟩
      rcases hj with e | e | e | e
      · exact .inl e
      · exact .inr (.inl e)
      · exact .inr (.inr (.inr (.inr (.inr (.inr (.inl e))))))
      · exact .inr (.inr (.inr (.inr (.inr (.inr (.inr (.inl e)))))))
    | false =>
      refine (give3n h.c tf hk hm e hr (hr1 (by omega)) hz a0 a1).mono ?_
      rintro _ w' ⟨rfl, hc, ht, ks⟩
      refine ⟨rfl, by unfold rGive; rw [if_neg (by omega), if_neg (by omega), if_neg (by omega), if_neg (by rw [hz]; decide)]; exact ⟨hc, ⟨_, _, ht⟩, h.qN, h.tN, Nat.le_trans h.NS ks.size⟩, h.ka tf hk (m := m) ks fun j hj => ?_⟩
      rcases hj with e | e | e
      · exact .inl e
      · exact .inr (.inl e)
      · exact .inr (.inr (.inr (.inr (.inr (.inr (.inr (.inr ⟨hmm, e⟩)))))))
/-! ### Do -/
set_option maxRecDepth 8000 in
set_option maxHeartbeats 2000000 in
theorem sdoG {w : World} {P : Pc} {σ σ' : Sg} (h : MM w P σ) {k m : Nat} (hk : k < P.t) (hm : (σ.Ts k).nf = m + 1) (hN : m ≤ 1000) (hfn : ((σ.Ts k).fs m).fn = 2)
    (hst : ∀ w' ps fvs, MM w' P σ → TF w' P.q P.t P.tq σ.Ts ps fvs → Calls Try.prog 35 #[.agg #[.pointer (some ⟨P.q, 0, none⟩), .pointer (some ⟨P.tq k, 0, none⟩), .pointer (some ⟨ps k m, 0, none⟩)]] w' fun x w'' => x = .returned (.tuple #[]) ∧ MM w'' P σ' ∧ KA P.B P.N w' w'') :
    Calls Try.prog 10 #[.pointer (some ⟨P.q, 0, none⟩), .int .i64 k] w fun x w' => x = .returned (.tuple #[]) ∧ MM w' P σ' ∧ KA P.B P.N w w' := by
  refine Calls.veil fun Q HQ => ?_
  obtain ⟨ps, fvs, tf⟩ := h.th
  have HH := Lib.hid h; have HT := Lib.hid tf; have HS := Lib.hid hst; have HM := Lib.hid hm; have HFN := Lib.hid hfn
  clear h tf hst hm hfn
  go_enter Try.func10, Try.ntmps10
  go_wp2_with fail
  refine (cThread_yes HH.out.c k hk).mono ?_; rintro _ w1 ⟨rfl, hb1⟩
  have HB1 := Lib.hid hb1
  clear hb1
  go_wp2_with fail
  refine (Th.ftop1 ((HT.out.below HB1.out).th k hk).a HM.out (by omega)).mono ?_; rintro _ w2 ⟨rfl, hb2⟩
  have HB2 := Lib.hid (below_on HB1.out hb2)
  clear hb2
  have hbk := (((HT.out.below HB2.out).th k hk).a.fb m (by have := HM.out; omega)).1
  obtain ⟨fb, hfb⟩ : ∃ fb, fb = ps k m := ⟨_, rfl⟩
  have HFB := Lib.hid hfb
  rw [← hfb] at hbk ⊢
  have HC := Lib.hid (show w2.cell? ⟨fb, 0, none⟩ = some (.int .i64 2) by rw [hbk.get (i := 0) (by omega)]; unfold Th.frF; rw [if_pos rfl, HFN.out])
  clear hfb hbk
  go_upto_region 4 with fail
  generalize hV : World.alloc _ _ = V
  obtain ⟨u0, hbv⟩ := Th.heapnewE hV
  obtain ⟨X, hX⟩ : ∃ X, X = w2.heap.size := ⟨_, rfl⟩
  rw [← hX] at u0 ⊢
  have x0 := Th.newcell u0 0 _ rfl; have x1 := Th.newcell u0 1 _ rfl; have x2 := Th.newcell u0 2 _ rfl
  have hbw := below_on HB2.out hbv
  have c0 : V.cell? ⟨fb, 0, none⟩ = some (.int .i64 2) := Ext.cell ⟨V, hbv⟩ HC.out
  have HBV := Lib.hid hbw
  clear hV u0 hbv hbw hX
  go_wp2_with fail
  rw [HFB.out]
  refine (HS.out V ps fvs (HH.out.below HBV.out) (HT.out.below HBV.out)).mono ?_; rintro _ w5 ⟨rfl, hm5, hk5⟩
  have HM5 := Lib.hid hm5; have HK5 := Lib.hid ((KA.of_below HBV.out : KA P.B P.N w V).trans hk5)
  clear hm5 hk5 x0 x1 x2 c0
  go_wp2_with fail
  refine bodyPost_end (v := .tuple #[]) (by simp [results, Try.results10, go_sem]) rfl ?_
  rw [HQ.out]
  exact ⟨rfl, HM5.out, HK5.out⟩
/-- A step of Give, by Do. -/
theorem sdo_give {w : World} {P : Pc} {σ : Sg} (h : MM w P σ) {k m : Nat} (hk : k < P.t) (hm : (σ.Ts k).nf = m + 1) (hfn : ((σ.Ts k).fs m).fn = 2) (hpc : 0 ≤ ((σ.Ts k).fs m).pc ∧ ((σ.Ts k).fs m).pc ≤ 3)
    (hr : 0 ≤ ((σ.Ts k).fs m).r 0 ∧ ((σ.Ts k).fs m).r 0 < 18446744073709551616) (hr1 : 2 ≤ ((σ.Ts k).fs m).pc → 0 ≤ ((σ.Ts k).fs m).r 1 ∧ ((σ.Ts k).fs m).r 1 < 18446744073709551616) (hl : ((σ.Ts k).fs m).pc = 0 → Gd.leadsB P.s σ.H σ.G (((σ.Ts k).fs m).r 0) = true) (a0 : 0 ≤ σ.acc) (a1 : σ.acc < 1000000) (hsl : σ.sl < 1000000) (hN : m ≤ 1000) :
    Calls Try.prog 10 #[.pointer (some ⟨P.q, 0, none⟩), .int .i64 k] w fun x w' => x = .returned (.tuple #[]) ∧ MM w' P (rGive P k m σ) ∧ KA P.B P.N w w' :=
  sdoG h hk hm hN hfn fun w' ps fvs hm' tf => mgive hm' tf hk hm hpc hr hr1 hl a0 a1 hsl hN
/-! ### Give, alone -/
def gvS (P : Pc) (k m : Nat) (σ : Sg) (R : Nat → Int) : Nat → Sg
  | 0 => σ.thr k (Th.callT (σ.Ts k) 2 1 R)
  | j + 1 => rGive P k m (gvS P k m σ R j).stp
theorem rGive_acc (P : Pc) (k m : Nat) (σ : Sg) : (rGive P k m σ).acc = σ.acc + 1 ∧ (rGive P k m σ).steps = σ.steps ∧ (rGive P k m σ).odd = σ.odd ∧ (rGive P k m σ).sl = σ.sl := by
  unfold rGive
  split
  · exact ⟨rfl, rfl, rfl, rfl⟩
  · split
    · exact ⟨rfl, rfl, rfl, rfl⟩
    · split
      · exact ⟨rfl, rfl, rfl, rfl⟩
      · split <;> exact ⟨rfl, rfl, rfl, rfl⟩
section
variable {P : Pc} {k m : Nat} {σ : Sg} {R : Nat → Int}
theorem gvS_acc : ∀ j : Nat, (gvS P k m σ R j).acc = σ.acc + j ∧ (gvS P k m σ R j).steps = σ.steps + j ∧ (gvS P k m σ R j).odd = σ.odd ∧ (gvS P k m σ R j).sl = σ.sl
  | 0 => ⟨by show σ.acc = _; omega, by show σ.steps = _; omega, rfl, rfl⟩
  | j + 1 => by
    obtain ⟨h1, h2, h3, h4⟩ := gvS_acc j
    obtain ⟨e1, e2, e3, e4⟩ := rGive_acc P k m (gvS P k m σ R j).stp
    refine ⟨?_, ?_, ?_, ?_⟩
    · show (rGive P k m _).acc = _
      rw [e1]; show (gvS P k m σ R j).acc + 1 = _; rw [h1]; omega
    · show (rGive P k m _).steps = _
      rw [e2]; show (gvS P k m σ R j).steps + 1 = _; rw [h2]; omega
    · show (rGive P k m _).odd = _
      rw [e3]; exact h3
    · show (rGive P k m _).sl = _
      rw [e4]; exact h4
def gv0 (R : Nat → Int) : Nat → Int := fun i => if i < 1 then R i else 0
def gvF1 (P : Pc) (σ : Sg) (e : Int) : Nat → Int := P.st σ.f (e % 4096) 1 ((e / 4096 % 1125899906842624 + 1) % 1125899906842624)
def gvF2 (P : Pc) (σ : Sg) (e : Int) : Nat → Int := P.st (gvF1 P σ e) (e % 4096) 0 (gvF1 P σ e 2 % 4096)
variable (hm : (σ.Ts k).nf = m)
include hm
theorem gvt0 : TkAt σ (gvS P k m σ R 0) k m ⟨2, 0, gv0 R⟩ := TkAt.call hm 2 1 R
theorem gvt1 : TkAt σ (gvS P k m σ R 1) k m ⟨2, 1, gv0 R⟩ ∧ (gvS P k m σ R 1).f = gvF1 P σ (R 0) ∧ (gvS P k m σ R 1).flt = (σ.flt || !P.ok (R 0 % 4096) 1) ∧ (gvS P k m σ R 1).H = Gd.dropH P.s σ.H σ.G (R 0) ∧ (gvS P k m σ R 1).G = Gd.dropG P.s σ.H σ.G (R 0) := by
  have h0 := gvt0 (P := P) (R := R) hm
  have e : gvS P k m σ R 1 = { (gvS P k m σ R 0).stp.thr k (setF ((gvS P k m σ R 0).Ts k) m ⟨2, 1, gv0 R⟩) with acc := σ.acc + 1, flt := σ.flt || !P.ok (R 0 % 4096) 1, f := gvF1 P σ (R 0), H := Gd.dropH P.s σ.H σ.G (R 0), G := Gd.dropG P.s σ.H σ.G (R 0) } := by
    show rGive P k m (gvS P k m σ R 0).stp = _
    unfold rGive
    rw [show ((gvS P k m σ R 0).stp.Ts k).fs m = _ from h0.fs, if_pos rfl]
    rfl
  rw [e]
  exact ⟨h0.set rfl, rfl, rfl, rfl, rfl⟩
theorem gvt2 : TkAt σ (gvS P k m σ R 2) k m ⟨2, 2, updr (gv0 R) 1 (gvF1 P σ (R 0) 2)⟩ ∧ (gvS P k m σ R 2).f = gvF1 P σ (R 0) ∧ (gvS P k m σ R 2).flt = (σ.flt || !P.ok (R 0 % 4096) 1) ∧ (gvS P k m σ R 2).H = Gd.dropH P.s σ.H σ.G (R 0) ∧ (gvS P k m σ R 2).G = Gd.dropG P.s σ.H σ.G (R 0) := by
  obtain ⟨h1, e1, e2, e3, e4⟩ := gvt1 (P := P) (R := R) hm
  have e : gvS P k m σ R 2 = { (gvS P k m σ R 1).stp.thr k (setF ((gvS P k m σ R 1).Ts k) m ⟨2, 2, updr (gv0 R) 1 ((gvS P k m σ R 1).f 2)⟩) with acc := (gvS P k m σ R 1).acc + 1 } := by
    show rGive P k m (gvS P k m σ R 1).stp = _
    unfold rGive
    rw [show ((gvS P k m σ R 1).stp.Ts k).fs m = _ from h1.fs, if_neg (show ¬ (1 : Int) = 0 by omega), if_pos rfl]
    rfl
  rw [e]
  exact ⟨h1.set (by rw [← e1]; rfl), e1, e2, e3, e4⟩
theorem gvt3 : TkAt σ (gvS P k m σ R 3) k m ⟨2, 3, updr (gv0 R) 1 (gvF1 P σ (R 0) 2)⟩ ∧ (gvS P k m σ R 3).f = gvF2 P σ (R 0) ∧ (gvS P k m σ R 3).flt = ((σ.flt || !P.ok (R 0 % 4096) 1) || !P.ok (R 0 % 4096) 0) ∧ (gvS P k m σ R 3).H = Gd.dropH P.s σ.H σ.G (R 0) ∧ (gvS P k m σ R 3).G = Gd.dropG P.s σ.H σ.G (R 0) := by
  obtain ⟨h1, e1, e2, e3, e4⟩ := gvt2 (P := P) (R := R) hm
  have e : gvS P k m σ R 3 = { (gvS P k m σ R 2).stp.thr k (setF ((gvS P k m σ R 2).Ts k) m ⟨2, 3, updr (gv0 R) 1 (gvF1 P σ (R 0) 2)⟩) with acc := (gvS P k m σ R 2).acc + 1, flt := (gvS P k m σ R 2).flt || !P.ok (R 0 % 4096) 0, f := P.st (gvS P k m σ R 2).f (R 0 % 4096) 0 (gvF1 P σ (R 0) 2 % 4096) } := by
    show rGive P k m (gvS P k m σ R 2).stp = _
    unfold rGive
    rw [show ((gvS P k m σ R 2).stp.Ts k).fs m = _ from h1.fs, if_neg (show ¬ (2 : Int) = 0 by omega), if_neg (show ¬ (2 : Int) = 1 by omega), if_pos rfl]
    rfl
  rw [e]
  exact ⟨h1.set rfl, by rw [e1]; rfl, by rw [e2], e3, e4⟩
theorem gvt4 (hn : gvF2 P σ (R 0) 2 = gvF1 P σ (R 0) 2) : (gvS P k m σ R 4).f = Mm.upd (gvF2 P σ (R 0)) 2 (chgI (gvF1 P σ (R 0) 2) (R 0 % 4096)) ∧ (gvS P k m σ R 4).flt = ((σ.flt || !P.ok (R 0 % 4096) 1) || !P.ok (R 0 % 4096) 0) ∧
    (gvS P k m σ R 4).H = Gd.dropH P.s σ.H σ.G (R 0) ∧ (gvS P k m σ R 4).G = Gd.dropG P.s σ.H σ.G (R 0) ∧ ((gvS P k m σ R 4).Ts k).nf = m ∧ ∀ i, i ≠ k → (gvS P k m σ R 4).Ts i = σ.Ts i := by
  obtain ⟨h1, e1, e2, e3, e4⟩ := gvt3 (P := P) (R := R) hm
  have e : gvS P k m σ R 4 = { (gvS P k m σ R 3).stp.thr k (Th.backT ((gvS P k m σ R 3).Ts k) 0 (fun _ => 0)) with acc := (gvS P k m σ R 3).acc + 1, f := Mm.upd (gvS P k m σ R 3).f 2 (chgI (gvF1 P σ (R 0) 2) (R 0 % 4096)) } := by
    show rGive P k m (gvS P k m σ R 3).stp = _
    unfold rGive
    rw [show ((gvS P k m σ R 3).stp.Ts k).fs m = _ from h1.fs, if_neg (show ¬ (3 : Int) = 0 by omega), if_neg (show ¬ (3 : Int) = 1 by omega), if_neg (show ¬ (3 : Int) = 2 by omega), if_pos (show ((gvS P k m σ R 3).stp.f 2 == (Th.Fm.mk 2 3 (updr (gv0 R) 1 (gvF1 P σ (R 0) 2))).r 1) = true from by show ((gvS P k m σ R 3).f 2 == gvF1 P σ (R 0) 2) = true; rw [e1, hn]; exact beq_self_eq_true _)]
    rfl
  rw [e]
  refine ⟨by rw [← e1], e2, e3, e4, ?_, fun i hi => ?_⟩
  · unfold Sg.thr Th.backT; simp only [if_true]; rw [h1.nf]; omega
  · unfold Sg.thr; simp only [if_neg hi]; exact h1.oth i hi
end
/-- Give, alone. -/
theorem alone_give {w : World} {P : Pc} {σ : Sg} (h : MM w P σ) {k m most : Nat} (hk : k < P.t) (hm : (σ.Ts k).nf = m) (hN : m ≤ 1000) (h4 : 4 ≤ most) (hmo : most ≤ 1000000)
    (a0 : 0 ≤ σ.acc) (a1 : σ.acc < 900000) (s0 : 0 ≤ σ.steps) (s1 : σ.steps < 900000) (hsl : σ.sl < 900000) {v : Value} {R : Nat → Int} (hR : 0 ≤ R 0 ∧ R 0 < 18446744073709551616) (hl : Gd.leadsB P.s σ.H σ.G (R 0) = true) (hn : gvF2 P σ (R 0) 2 = gvF1 P σ (R 0) 2) (hf : 0 ≤ gvF1 P σ (R 0) 2 ∧ gvF1 P σ (R 0) 2 < 18446744073709551616) (hu : Th.UR w v 1 R) :
    Calls Try.prog 9 #[.pointer (some ⟨P.q, 0, none⟩), .int .i64 k, .func (.func 10) #[] #[], .int .i64 most, .int .i64 2, v] w fun x w' => x = .returned (.tuple #[.int .i64 4, .bool true]) ∧ MM w' P (gvS P k m σ R 4) ∧ KA P.B P.N w w' := by
  have t0 := gvt0 (P := P) (R := R) hm
  obtain ⟨t1, _⟩ := gvt1 (P := P) (R := R) hm
  obtain ⟨t2, _⟩ := gvt2 (P := P) (R := R) hm
  obtain ⟨t3, _⟩ := gvt3 (P := P) (R := R) hm
  obtain ⟨_, _, _, _, n4, _⟩ := gvt4 (P := P) (R := R) hm hn
  have ha := gvS_acc (P := P) (k := k) (m := m) (σ := σ) (R := R)
  have r0 : gv0 R 0 = R 0 := rfl
  have dc : ∀ j, j < 4 → ((gvS P k m σ R j).Ts k).nf = m + 1 := fun j hj => by
    rcases (by omega : j = 0 ∨ j = 1 ∨ j = 2 ∨ j = 3) with rfl | rfl | rfl | rfl
    · exact t0.nf
    · exact t1.nf
    · exact t2.nf
    · exact t3.nf
  refine malone (L := 4) (n0 := m) (τ := gvS P k m σ R) (ρ := fun j => rGive P k m (gvS P k m σ R j).stp) h hk cfT hu hm (by omega) (by omega) hmo rfl
    (fun j _ => (Sg.odds_one (rGive_acc _ _ _ _).1).symm) (fun j hj w' hm' _ => ?_) (fun j hj => ?_) (fun j hj => ?_) (fun j hj => ⟨by rw [dc j hj]; omega, by rw [dc j hj]; omega⟩) (by rw [n4]; omega)
  · have hacc := ha j
    have key : ((gvS P k m σ R j).stp.Ts k).nf = m + 1 ∧ (((gvS P k m σ R j).stp.Ts k).fs m).fn = 2 ∧ (0 ≤ (((gvS P k m σ R j).stp.Ts k).fs m).pc ∧ (((gvS P k m σ R j).stp.Ts k).fs m).pc ≤ 3) ∧
        (0 ≤ (((gvS P k m σ R j).stp.Ts k).fs m).r 0 ∧ (((gvS P k m σ R j).stp.Ts k).fs m).r 0 < 18446744073709551616) ∧ (2 ≤ (((gvS P k m σ R j).stp.Ts k).fs m).pc → 0 ≤ (((gvS P k m σ R j).stp.Ts k).fs m).r 1 ∧ (((gvS P k m σ R j).stp.Ts k).fs m).r 1 < 18446744073709551616) ∧
        ((((gvS P k m σ R j).stp.Ts k).fs m).pc = 0 → Gd.leadsB P.s (gvS P k m σ R j).stp.H (gvS P k m σ R j).stp.G ((((gvS P k m σ R j).stp.Ts k).fs m).r 0) = true) := by
      rcases (by omega : j = 0 ∨ j = 1 ∨ j = 2 ∨ j = 3) with rfl | rfl | rfl | rfl
      · rw [show ((gvS P k m σ R 0).stp.Ts k).fs m = _ from t0.fs]
        exact ⟨t0.nf, rfl, by simp, hR, by simp, fun _ => hl⟩
      · rw [show ((gvS P k m σ R 1).stp.Ts k).fs m = _ from t1.fs]
        exact ⟨t1.nf, rfl, by simp, hR, by simp, by simp⟩
      · rw [show ((gvS P k m σ R 2).stp.Ts k).fs m = _ from t2.fs]
        exact ⟨t2.nf, rfl, by simp, hR, fun _ => hf, by simp⟩
      · rw [show ((gvS P k m σ R 3).stp.Ts k).fs m = _ from t3.fs]
        exact ⟨t3.nf, rfl, by simp, hR, fun _ => hf, by simp⟩
    obtain ⟨k1, k2, k3, k4, k5, k6⟩ := key
    have h7 : (gvS P k m σ R j).stp.acc = σ.acc + j := hacc.1
    have h8 : (gvS P k m σ R j).stp.sl = σ.sl := hacc.2.2.2
    exact sdo_give hm' hk k1 k2 k3 k4 k5 k6 (by omega) (by omega) (by omega) hN
  · have := (ha j).2.1; omega
  · have h1 : (rGive P k m (gvS P k m σ R j).stp).acc = (gvS P k m σ R j).acc + 1 := (rGive_acc _ _ _ _).1
    (try dsimp only)
    omega
end Go.Proofs.Ytlahpnigabfenaa
