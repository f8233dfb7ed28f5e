/- Layer 16: accesses to nodes: the closures, reach. -/
import Derived.Test.YtkkdehniheajeaaCorJ
namespace Go.Proofs.Ytkkdehniheajeaa
open Go.RowKit WordM EdgeM
set_option linter.unusedVariables false
set_option linter.unusedSimpArgs false
set_option maxRecDepth 8000 in
set_option maxHeartbeats 1000000 in
theorem wclos {w : World} {B q pl mb mg C gq gg gm : Nat} {fv : Value} {tq : Nat → Nat} {t s : Nat} {Kc : Int} {f : Nat → Int} {acc : Int} {flt : Bool} {H : Nat → Bool} {G : Nat → Int} {sl steps : Int} {odd : Bool} (h : MI w B q pl mb mg C gq gg gm fv tq t s Kc f acc flt H G sl steps odd) {bx : Nat} {b0 : Nat} {x : Int} (hb : w.cell? ⟨bx, 0, none⟩ = some (.pointer (some ⟨q, 0, none⟩))) (h0 : w.cell? ⟨b0, 0, none⟩ = some (.int .u64 x)) (a0 : 0 ≤ acc) (a1 : acc < 1000000) (x0 : 0 ≤ x) (x1 : x < 18446744073709551616) (p : Int) :
    Calls Try.prog 68 #[.int .i64 p, .pointer (some ⟨bx, 0, none⟩), .pointer (some ⟨b0, 0, none⟩)] w fun e w' => e = .returned (.tuple #[]) ∧ Mm.MemAt w' mb mg (3 + 8 * t + 7 * s) C (if Mm.okA (3 + 8 * t + 7 * s) p = true then Mm.upd f (p).toNat x else f) (acc + 1) (flt || !Mm.okA (3 + 8 * t + 7 * s) p) ∧ Mm.Only mb mg w w' := by
  refine Calls.veil fun Q HQ => ?_
  have HH := Lib.hid h; have HB := Lib.hid hb
  have HV0 := Lib.hid h0
  have HLM := Lib.hid (show ∀ y : Ext w, (Instr.loadAt 25 (.pointer (some ⟨bx, 0, none⟩))).run Try.prog y.w = .ok (.pointer (some ⟨q, 0, none⟩)) y.w from fun y => by have hc := Ext.use (Ext.cells HB.out) y.h; clear hb h0; go_simp)
  have HLB := Lib.hid (show ∀ y : Ext w, (Instr.loadAt 28 (.pointer (some ⟨q, 1, none⟩))).run Try.prog y.w = .ok (.pointer (some ⟨mb, 0, none⟩)) y.w from fun y => by have hc := (HH.out.below y.h).c1; clear hb h0; go_simp)
  have HLV0 := Lib.hid (show ∀ y : Ext w, (Instr.loadAt 22 (.pointer (some ⟨b0, 0, none⟩))).run Try.prog y.w = .ok (.int .u64 x) y.w from fun y => by have hc := Ext.use (Ext.cells HV0.out) y.h; clear hb h0; go_simp)
  clear h hb h0
  go_enter Try.func68, Try.ntmps68
  (try go_upto_region 0 with fail)
  refine Th.wp_region_K (fun w' => ∃ y : Ext w, w' = y.w) 6 (by decide +kernel) ?_
  generalize hwd : World.drew w = wd
  have hbd : Below w.heap.size w wd := by rw [← hwd]; exact (Below.refl _ _).drew
  clear hwd
  (refine Th.wpAnyK_take (i := 0) (v := .pointer (some ⟨q, 0, none⟩)) [1, 2, 3, 6] rfl (by decide +kernel) (by decide +kernel) (by decide +kernel) (by decide +kernel) (fun _ _ _ h => h) (Th.yields_loadK rfl 25 (.tmp 1) rfl rfl (by rintro _ ⟨y, rfl⟩; exact HLM.out y)) ⟨⟨wd, hbd⟩, rfl⟩ ?_)
  (try simp only [List.getElem_toArray, List.getElem_cons_succ, List.getElem_cons_zero, Act.put, List.setIfInBounds_toArray, List.set_cons_succ, List.set_cons_zero])
  (refine Th.wpAnyK_takeY (i := 1) (v := ?_) rfl (by decide +kernel) (by decide +kernel) (by decide +kernel) (by decide) (fun _ _ _ h => h) (Or.inl ⟨by rfl, ?_⟩) (.inr ⟨⟨wd, hbd⟩, rfl⟩) ?_; rotate_left; (intro w; go_simp); (try with_reducible rfl))
  (try simp only [List.getElem_toArray, List.getElem_cons_succ, List.getElem_cons_zero, Act.put, List.setIfInBounds_toArray, List.set_cons_succ, List.set_cons_zero])
  (refine Th.wpAnyK_takeY (i := 2) (v := ?_) rfl (by decide +kernel) (by decide +kernel) (by decide +kernel) (by decide) (fun _ _ _ h => h) (Or.inl ⟨by rfl, ?_⟩) (.inr ⟨⟨wd, hbd⟩, rfl⟩) ?_; rotate_left; (intro w; go_simp); (try with_reducible rfl))
  (try simp only [List.getElem_toArray, List.getElem_cons_succ, List.getElem_cons_zero, Act.put, List.setIfInBounds_toArray, List.set_cons_succ, List.set_cons_zero])
  (refine Th.wpAnyK_take (i := 3) (v := .pointer (some ⟨mb, 0, none⟩)) [6] rfl (by decide +kernel) (by decide +kernel) (by decide +kernel) (by decide +kernel) (fun _ _ _ h => h) (Th.yields_loadK rfl 28 (.tmp 6) rfl rfl (by rintro _ ⟨y, rfl⟩; exact HLB.out y)) ⟨⟨wd, hbd⟩, rfl⟩ ?_)
  (try simp only [List.getElem_toArray, List.getElem_cons_succ, List.getElem_cons_zero, Act.put, List.setIfInBounds_toArray, List.set_cons_succ, List.set_cons_zero])
  (refine Th.wpAnyK_takeY (i := 4) (v := ?_) rfl (by decide +kernel) (by decide +kernel) (by decide +kernel) (by decide) (fun _ _ _ h => h) (Or.inl ⟨by rfl, ?_⟩) (.inr ⟨⟨wd, hbd⟩, rfl⟩) ?_; rotate_left; (intro w; go_simp); (try with_reducible rfl))
  (try simp only [List.getElem_toArray, List.getElem_cons_succ, List.getElem_cons_zero, Act.put, List.setIfInBounds_toArray, List.set_cons_succ, List.set_cons_zero])
  (refine Th.wpAnyK_take (i := 5) (v := .int .u64 x) [6] rfl (by decide +kernel) (by decide +kernel) (by decide +kernel) (by decide +kernel) (fun _ _ _ h => h) (Th.yields_loadK rfl 22 (.tmp 2) rfl rfl (by rintro _ ⟨y, rfl⟩; exact HLV0.out y)) ⟨⟨wd, hbd⟩, rfl⟩ ?_)
  (try simp only [List.getElem_toArray, List.getElem_cons_succ, List.getElem_cons_zero, Act.put, List.setIfInBounds_toArray, List.set_cons_succ, List.set_cons_zero])
  (refine Th.wpAnyK_ready (rs := [6]) (by decide +kernel) (by simp) ?_; refine (Th.AllReadyK.cons rfl (fun K hK => ?_) Th.AllReadyK.nil))
  refine step_of rfl ?_
  go_step
  refine (Mm.mstore _ _ _ _ _ _ p x _ _ (HH.out.below hbd).mem a0 (by omega) x0 x1).mono ?_; rintro _ w1 ⟨rfl, hm, ho⟩
  refine hK _ _ (.inl rfl) ?_
  clear hK K
  have HM := Lib.hid hm; have HO := Lib.hid ((Mm.Only.of_below hbd).trans ho)
  clear hm ho
  refine Th.wpAnyK_done (by decide +kernel) ?_ _
  go_wp2_with fail
  refine bodyPost_end (v := .tuple #[]) (by simp [results, Try.results68, go_sem]) rfl ?_
  rw [HQ.out]
  exact ⟨rfl, HM.out, HO.out⟩
set_option maxRecDepth 8000 in
set_option maxHeartbeats 1000000 in
theorem sclos {w : World} {B q pl mb mg C gq gg gm : Nat} {fv : Value} {tq : Nat → Nat} {t s : Nat} {Kc : Int} {f : Nat → Int} {acc : Int} {flt : Bool} {H : Nat → Bool} {G : Nat → Int} {sl steps : Int} {odd : Bool} (h : MI w B q pl mb mg C gq gg gm fv tq t s Kc f acc flt H G sl steps odd) {bx rx : Nat} {b0 : Nat} {b1 : Nat} {T : TypeId} {old : Int} {x : Int} (hb : w.cell? ⟨bx, 0, none⟩ = some (.pointer (some ⟨q, 0, none⟩))) (h0 : w.cell? ⟨b0, 0, none⟩ = some (.int .u64 old)) (h1 : w.cell? ⟨b1, 0, none⟩ = some (.int .u64 x)) (hr : w.heap[rx]? = some (.cells #[.bool false] T (0, 0))) (n1 : rx ≠ mb) (n2 : rx ≠ mg) (a0 : 0 ≤ acc) (a1 : acc < 1000000) (x0 : 0 ≤ x) (x1 : x < 18446744073709551616) (p : Int) :
    Calls Try.prog 71 #[.int .i64 p, .pointer (some ⟨bx, 0, none⟩), .pointer (some ⟨b0, 0, none⟩), .pointer (some ⟨b1, 0, none⟩), .pointer (some ⟨rx, 0, none⟩)] w fun e w' => e = .returned (.tuple #[]) ∧ Mm.MemAt w' mb mg (3 + 8 * t + 7 * s) C (if (Mm.okA (3 + 8 * t + 7 * s) p && f (p).toNat == old) = true then Mm.upd f (p).toNat x else f) (acc + 1) (flt || !Mm.okA (3 + 8 * t + 7 * s) p) ∧ w'.cell? ⟨rx, 0, none⟩ = some (.bool (Mm.okA (3 + 8 * t + 7 * s) p && f (p).toNat == old)) ∧ Th.KS (fun j => j = mb ∨ j = mg ∨ j = rx) w w' := by
  refine Calls.veil fun Q HQ => ?_
  have HH := Lib.hid h; have HB := Lib.hid hb
  have HV0 := Lib.hid h0
  have HV1 := Lib.hid h1
  have HR := Lib.hid hr
  have HLM := Lib.hid (show ∀ y : Ext w, (Instr.loadAt 25 (.pointer (some ⟨bx, 0, none⟩))).run Try.prog y.w = .ok (.pointer (some ⟨q, 0, none⟩)) y.w from fun y => by have hc := Ext.use (Ext.cells HB.out) y.h; clear hb h0 h1 hr; go_simp)
  have HLB := Lib.hid (show ∀ y : Ext w, (Instr.loadAt 28 (.pointer (some ⟨q, 1, none⟩))).run Try.prog y.w = .ok (.pointer (some ⟨mb, 0, none⟩)) y.w from fun y => by have hc := (HH.out.below y.h).c1; clear hb h0 h1 hr; go_simp)
  have HLV0 := Lib.hid (show ∀ y : Ext w, (Instr.loadAt 22 (.pointer (some ⟨b0, 0, none⟩))).run Try.prog y.w = .ok (.int .u64 old) y.w from fun y => by have hc := Ext.use (Ext.cells HV0.out) y.h; clear hb h0 h1 hr; go_simp)
  have HLV1 := Lib.hid (show ∀ y : Ext w, (Instr.loadAt 22 (.pointer (some ⟨b1, 0, none⟩))).run Try.prog y.w = .ok (.int .u64 x) y.w from fun y => by have hc := Ext.use (Ext.cells HV1.out) y.h; clear hb h0 h1 hr; go_simp)
  clear h hb h0 h1 hr
  go_enter Try.func71, Try.ntmps71
  (try go_upto_region 0 with fail)
  refine Th.wp_region_K (fun w' => ∃ y : Ext w, w' = y.w) 7 (by decide +kernel) ?_
  generalize hwd : World.drew w = wd
  have hbd : Below w.heap.size w wd := by rw [← hwd]; exact (Below.refl _ _).drew
  clear hwd
  (refine Th.wpAnyK_take (i := 0) (v := .pointer (some ⟨q, 0, none⟩)) [1, 2, 3, 7] rfl (by decide +kernel) (by decide +kernel) (by decide +kernel) (by decide +kernel) (fun _ _ _ h => h) (Th.yields_loadK rfl 25 (.tmp 1) rfl rfl (by rintro _ ⟨y, rfl⟩; exact HLM.out y)) ⟨⟨wd, hbd⟩, rfl⟩ ?_)
  (try simp only [List.getElem_toArray, List.getElem_cons_succ, List.getElem_cons_zero, Act.put, List.setIfInBounds_toArray, List.set_cons_succ, List.set_cons_zero])
  (refine Th.wpAnyK_takeY (i := 1) (v := ?_) rfl (by decide +kernel) (by decide +kernel) (by decide +kernel) (by decide) (fun _ _ _ h => h) (Or.inl ⟨by rfl, ?_⟩) (.inr ⟨⟨wd, hbd⟩, rfl⟩) ?_; rotate_left; (intro w; go_simp); (try with_reducible rfl))
  (try simp only [List.getElem_toArray, List.getElem_cons_succ, List.getElem_cons_zero, Act.put, List.setIfInBounds_toArray, List.set_cons_succ, List.set_cons_zero])
  (refine Th.wpAnyK_takeY (i := 2) (v := ?_) rfl (by decide +kernel) (by decide +kernel) (by decide +kernel) (by decide) (fun _ _ _ h => h) (Or.inl ⟨by rfl, ?_⟩) (.inr ⟨⟨wd, hbd⟩, rfl⟩) ?_; rotate_left; (intro w; go_simp); (try with_reducible rfl))
  (try simp only [List.getElem_toArray, List.getElem_cons_succ, List.getElem_cons_zero, Act.put, List.setIfInBounds_toArray, List.set_cons_succ, List.set_cons_zero])
  (refine Th.wpAnyK_take (i := 3) (v := .pointer (some ⟨mb, 0, none⟩)) [7] rfl (by decide +kernel) (by decide +kernel) (by decide +kernel) (by decide +kernel) (fun _ _ _ h => h) (Th.yields_loadK rfl 28 (.tmp 8) rfl rfl (by rintro _ ⟨y, rfl⟩; exact HLB.out y)) ⟨⟨wd, hbd⟩, rfl⟩ ?_)
  (try simp only [List.getElem_toArray, List.getElem_cons_succ, List.getElem_cons_zero, Act.put, List.setIfInBounds_toArray, List.set_cons_succ, List.set_cons_zero])
  (refine Th.wpAnyK_takeY (i := 4) (v := ?_) rfl (by decide +kernel) (by decide +kernel) (by decide +kernel) (by decide) (fun _ _ _ h => h) (Or.inl ⟨by rfl, ?_⟩) (.inr ⟨⟨wd, hbd⟩, rfl⟩) ?_; rotate_left; (intro w; go_simp); (try with_reducible rfl))
  (try simp only [List.getElem_toArray, List.getElem_cons_succ, List.getElem_cons_zero, Act.put, List.setIfInBounds_toArray, List.set_cons_succ, List.set_cons_zero])
  (refine Th.wpAnyK_take (i := 5) (v := .int .u64 old) [7] rfl (by decide +kernel) (by decide +kernel) (by decide +kernel) (by decide +kernel) (fun _ _ _ h => h) (Th.yields_loadK rfl 22 (.tmp 2) rfl rfl (by rintro _ ⟨y, rfl⟩; exact HLV0.out y)) ⟨⟨wd, hbd⟩, rfl⟩ ?_)
  (try simp only [List.getElem_toArray, List.getElem_cons_succ, List.getElem_cons_zero, Act.put, List.setIfInBounds_toArray, List.set_cons_succ, List.set_cons_zero])
  (refine Th.wpAnyK_take (i := 6) (v := .int .u64 x) [7] rfl (by decide +kernel) (by decide +kernel) (by decide +kernel) (by decide +kernel) (fun _ _ _ h => h) (Th.yields_loadK rfl 22 (.tmp 3) rfl rfl (by rintro _ ⟨y, rfl⟩; exact HLV1.out y)) ⟨⟨wd, hbd⟩, rfl⟩ ?_)
  (try simp only [List.getElem_toArray, List.getElem_cons_succ, List.getElem_cons_zero, Act.put, List.setIfInBounds_toArray, List.set_cons_succ, List.set_cons_zero])
  (refine Th.wpAnyK_ready (rs := [7]) (by decide +kernel) (by simp) ?_; refine (Th.AllReadyK.cons rfl (fun K hK => ?_) Th.AllReadyK.nil))
  refine step_of rfl ?_
  go_step
  refine (Mm.mcas _ _ _ _ _ _ p old x _ _ (HH.out.below hbd).mem a0 (by omega) x0 x1).mono ?_; rintro _ w1 ⟨rfl, hm, ho⟩
  refine hK _ _ (.inl rfl) ?_
  clear hK K
  have hr1 : w1.heap[rx]? = some (.cells #[.bool false] T (0, 0)) := (ho.block rx (Th.blk_lt (Th.up hbd HR.out)) n1 n2).trans (Th.up hbd HR.out)
  have r0 := Th.newcell hr1 0 _ rfl
  have rf : ∀ i, w1.frozen? ⟨rx, i, none⟩ = false := fun i => frozen_of_row _ _ _ _ _ hr1
  have HM := Lib.hid hm; have HO := Lib.hid ho
  clear hm ho hr1
  (try simp only [List.getElem_toArray, List.getElem_cons_succ, List.getElem_cons_zero, Act.put, List.setIfInBounds_toArray, List.set_cons_succ, List.set_cons_zero])
  (refine Th.wpAnyK_ready (rs := [8]) (by decide +kernel) (by simp) ?_; refine (Th.AllReadyK.cons rfl (fun K hK => ?_) Th.AllReadyK.nil))
  refine step_of rfl ?_
  go_step
  refine hK _ _ (.inl rfl) ?_
  clear hK K
  refine Th.wpAnyK_done (by decide +kernel) ?_ _
  go_wp2_with fail
  refine bodyPost_end (v := .tuple #[]) (by simp [results, Try.results71, go_sem]) rfl ?_
  rw [HQ.out]
  have k := Th.KS.set w1 rx 0 (.bool (Mm.okA (3 + 8 * t + 7 * s) p && f (p).toNat == old))
  exact ⟨rfl, HM.out.keep k.size (k.block mb HM.out.bl (Ne.symm n1)) (k.block mg HM.out.gl (Ne.symm n2)), Mm.scS r0, ((Th.KS.of_below hbd).trans (⟨HO.out.os, HO.out.tape, HO.out.output, HO.out.size, fun j hj hx => HO.out.block j hj (fun e => hx (.inl e)) (fun e => hx (.inr (.inl e)))⟩ : Th.KS (fun j => j = mb ∨ j = mg ∨ j = rx) wd w1)).trans (k.mono fun j e => .inr (.inr e))⟩
set_option maxRecDepth 8000 in
set_option maxHeartbeats 1000000 in
theorem mclos {w : World} {B q pl mb mg C gq gg gm : Nat} {fv : Value} {tq : Nat → Nat} {t s : Nat} {Kc : Int} {f : Nat → Int} {acc : Int} {flt : Bool} {H : Nat → Bool} {G : Nat → Int} {sl steps : Int} {odd : Bool} (h : MI w B q pl mb mg C gq gg gm fv tq t s Kc f acc flt H G sl steps odd) {bx rx : Nat} {b0 : Nat} {T : TypeId} {x : Int} (hb : w.cell? ⟨bx, 0, none⟩ = some (.pointer (some ⟨q, 0, none⟩))) (h0 : w.cell? ⟨b0, 0, none⟩ = some (.int .u64 x)) (hr : w.heap[rx]? = some (.cells #[.int .u64 0] T (0, 0))) (n1 : rx ≠ mb) (n2 : rx ≠ mg) (a0 : 0 ≤ acc) (a1 : acc < 1000000) (x0 : 0 ≤ x) (x1 : x < 18446744073709551616) (p : Int) :
    Calls Try.prog 75 #[.int .i64 p, .pointer (some ⟨bx, 0, none⟩), .pointer (some ⟨b0, 0, none⟩), .pointer (some ⟨rx, 0, none⟩)] w fun e w' => e = .returned (.tuple #[]) ∧ Mm.MemAt w' mb mg (3 + 8 * t + 7 * s) C (if Mm.okA (3 + 8 * t + 7 * s) p = true then Mm.upd f (p).toNat (Mm.orI (f (p).toNat) x) else f) (acc + 1) (flt || !Mm.okA (3 + 8 * t + 7 * s) p) ∧ w'.cell? ⟨rx, 0, none⟩ = some (.int .u64 (Mm.ldI (3 + 8 * t + 7 * s) f p)) ∧ Th.KS (fun j => j = mb ∨ j = mg ∨ j = rx) w w' := by
  refine Calls.veil fun Q HQ => ?_
  have HH := Lib.hid h; have HB := Lib.hid hb
  have HV0 := Lib.hid h0
  have HR := Lib.hid hr
  have HLM := Lib.hid (show ∀ y : Ext w, (Instr.loadAt 25 (.pointer (some ⟨bx, 0, none⟩))).run Try.prog y.w = .ok (.pointer (some ⟨q, 0, none⟩)) y.w from fun y => by have hc := Ext.use (Ext.cells HB.out) y.h; clear hb h0 hr; go_simp)
  have HLB := Lib.hid (show ∀ y : Ext w, (Instr.loadAt 28 (.pointer (some ⟨q, 1, none⟩))).run Try.prog y.w = .ok (.pointer (some ⟨mb, 0, none⟩)) y.w from fun y => by have hc := (HH.out.below y.h).c1; clear hb h0 hr; go_simp)
  have HLV0 := Lib.hid (show ∀ y : Ext w, (Instr.loadAt 22 (.pointer (some ⟨b0, 0, none⟩))).run Try.prog y.w = .ok (.int .u64 x) y.w from fun y => by have hc := Ext.use (Ext.cells HV0.out) y.h; clear hb h0 hr; go_simp)
  clear h hb h0 hr
  go_enter Try.func75, Try.ntmps75
  (try go_upto_region 0 with fail)
  refine Th.wp_region_K (fun w' => ∃ y : Ext w, w' = y.w) 6 (by decide +kernel) ?_
  generalize hwd : World.drew w = wd
  have hbd : Below w.heap.size w wd := by rw [← hwd]; exact (Below.refl _ _).drew
  clear hwd
  (refine Th.wpAnyK_take (i := 0) (v := .pointer (some ⟨q, 0, none⟩)) [1, 2, 3, 6] rfl (by decide +kernel) (by decide +kernel) (by decide +kernel) (by decide +kernel) (fun _ _ _ h => h) (Th.yields_loadK rfl 25 (.tmp 1) rfl rfl (by rintro _ ⟨y, rfl⟩; exact HLM.out y)) ⟨⟨wd, hbd⟩, rfl⟩ ?_)
  (try simp only [List.getElem_toArray, List.getElem_cons_succ, List.getElem_cons_zero, Act.put, List.setIfInBounds_toArray, List.set_cons_succ, List.set_cons_zero])
  (refine Th.wpAnyK_takeY (i := 1) (v := ?_) rfl (by decide +kernel) (by decide +kernel) (by decide +kernel) (by decide) (fun _ _ _ h => h) (Or.inl ⟨by rfl, ?_⟩) (.inr ⟨⟨wd, hbd⟩, rfl⟩) ?_; rotate_left; (intro w; go_simp); (try with_reducible rfl))
  (try simp only [List.getElem_toArray, List.getElem_cons_succ, List.getElem_cons_zero, Act.put, List.setIfInBounds_toArray, List.set_cons_succ, List.set_cons_zero])
  (refine Th.wpAnyK_takeY (i := 2) (v := ?_) rfl (by decide +kernel) (by decide +kernel) (by decide +kernel) (by decide) (fun _ _ _ h => h) (Or.inl ⟨by rfl, ?_⟩) (.inr ⟨⟨wd, hbd⟩, rfl⟩) ?_; rotate_left; (intro w; go_simp); (try with_reducible rfl))
  (try simp only [List.getElem_toArray, List.getElem_cons_succ, List.getElem_cons_zero, Act.put, List.setIfInBounds_toArray, List.set_cons_succ, List.set_cons_zero])
  (refine Th.wpAnyK_take (i := 3) (v := .pointer (some ⟨mb, 0, none⟩)) [6] rfl (by decide +kernel) (by decide +kernel) (by decide +kernel) (by decide +kernel) (fun _ _ _ h => h) (Th.yields_loadK rfl 28 (.tmp 7) rfl rfl (by rintro _ ⟨y, rfl⟩; exact HLB.out y)) ⟨⟨wd, hbd⟩, rfl⟩ ?_)
  (try simp only [List.getElem_toArray, List.getElem_cons_succ, List.getElem_cons_zero, Act.put, List.setIfInBounds_toArray, List.set_cons_succ, List.set_cons_zero])
  (refine Th.wpAnyK_takeY (i := 4) (v := ?_) rfl (by decide +kernel) (by decide +kernel) (by decide +kernel) (by decide) (fun _ _ _ h => h) (Or.inl ⟨by rfl, ?_⟩) (.inr ⟨⟨wd, hbd⟩, rfl⟩) ?_; rotate_left; (intro w; go_simp); (try with_reducible rfl))
  (try simp only [List.getElem_toArray, List.getElem_cons_succ, List.getElem_cons_zero, Act.put, List.setIfInBounds_toArray, List.set_cons_succ, List.set_cons_zero])
  (refine Th.wpAnyK_take (i := 5) (v := .int .u64 x) [6] rfl (by decide +kernel) (by decide +kernel) (by decide +kernel) (by decide +kernel) (fun _ _ _ h => h) (Th.yields_loadK rfl 22 (.tmp 2) rfl rfl (by rintro _ ⟨y, rfl⟩; exact HLV0.out y)) ⟨⟨wd, hbd⟩, rfl⟩ ?_)
  (try simp only [List.getElem_toArray, List.getElem_cons_succ, List.getElem_cons_zero, Act.put, List.setIfInBounds_toArray, List.set_cons_succ, List.set_cons_zero])
  (refine Th.wpAnyK_ready (rs := [6]) (by decide +kernel) (by simp) ?_; refine (Th.AllReadyK.cons rfl (fun K hK => ?_) Th.AllReadyK.nil))
  refine step_of rfl ?_
  go_step
  refine (Mm.mor _ _ _ _ _ _ p x _ _ (HH.out.below hbd).mem a0 (by omega) x0 x1).mono ?_; rintro _ w1 ⟨rfl, hm, ho⟩
  refine hK _ _ (.inl rfl) ?_
  clear hK K
  have hr1 : w1.heap[rx]? = some (.cells #[.int .u64 0] T (0, 0)) := (ho.block rx (Th.blk_lt (Th.up hbd HR.out)) n1 n2).trans (Th.up hbd HR.out)
  have r0 := Th.newcell hr1 0 _ rfl
  have rf : ∀ i, w1.frozen? ⟨rx, i, none⟩ = false := fun i => frozen_of_row _ _ _ _ _ hr1
  have HM := Lib.hid hm; have HO := Lib.hid ho
  clear hm ho hr1
  (try simp only [List.getElem_toArray, List.getElem_cons_succ, List.getElem_cons_zero, Act.put, List.setIfInBounds_toArray, List.set_cons_succ, List.set_cons_zero])
  (refine Th.wpAnyK_ready (rs := [7]) (by decide +kernel) (by simp) ?_; refine (Th.AllReadyK.cons rfl (fun K hK => ?_) Th.AllReadyK.nil))
  refine step_of rfl ?_
  go_step
  refine hK _ _ (.inl rfl) ?_
  clear hK K
  refine Th.wpAnyK_done (by decide +kernel) ?_ _
  go_wp2_with fail
  refine bodyPost_end (v := .tuple #[]) (by simp [results, Try.results75, go_sem]) rfl ?_
  rw [HQ.out]
  have k := Th.KS.set w1 rx 0 (.int .u64 (Mm.ldI (3 + 8 * t + 7 * s) f p))
  exact ⟨rfl, HM.out.keep k.size (k.block mb HM.out.bl (Ne.symm n1)) (k.block mg HM.out.gl (Ne.symm n2)), Mm.scS r0, ((Th.KS.of_below hbd).trans (⟨HO.out.os, HO.out.tape, HO.out.output, HO.out.size, fun j hj hx => HO.out.block j hj (fun e => hx (.inl e)) (fun e => hx (.inr (.inl e)))⟩ : Th.KS (fun j => j = mb ∨ j = mg ∨ j = rx) wd w1)).trans (k.mono fun j e => .inr (.inr e))⟩
set_option maxRecDepth 8000 in
set_option maxHeartbeats 1000000 in
theorem dclos {w : World} {B q pl mb mg C gq gg gm : Nat} {fv : Value} {tq : Nat → Nat} {t s : Nat} {Kc : Int} {f : Nat → Int} {acc : Int} {flt : Bool} {H : Nat → Bool} {G : Nat → Int} {sl steps : Int} {odd : Bool} (h : MI w B q pl mb mg C gq gg gm fv tq t s Kc f acc flt H G sl steps odd) {bx rx : Nat} {b0 : Nat} {b1 : Nat} {b2 : Nat} {T : TypeId} {tm : Int} {old : Int} {x : Int} (hb : w.cell? ⟨bx, 0, none⟩ = some (.pointer (some ⟨q, 0, none⟩))) (h0 : w.cell? ⟨b0, 0, none⟩ = some (.int .u64 tm)) (h1 : w.cell? ⟨b1, 0, none⟩ = some (.int .u64 old)) (h2 : w.cell? ⟨b2, 0, none⟩ = some (.int .u64 x)) (hr : w.heap[rx]? = some (.cells #[.bool false] T (0, 0))) (n1 : rx ≠ mb) (n2 : rx ≠ mg) (a0 : 0 ≤ acc) (a1 : acc < 1000000) (x0 : 0 ≤ x) (x1 : x < 18446744073709551616) (p : Int) :
    Calls Try.prog 73 #[.int .i64 p, .pointer (some ⟨bx, 0, none⟩), .pointer (some ⟨b0, 0, none⟩), .pointer (some ⟨b1, 0, none⟩), .pointer (some ⟨b2, 0, none⟩), .pointer (some ⟨rx, 0, none⟩)] w fun e w' => e = .returned (.tuple #[]) ∧ Mm.MemAt w' mb mg (3 + 8 * t + 7 * s) C (if (Mm.okA (3 + 8 * t + 7 * s) 0 && Mm.okA (3 + 8 * t + 7 * s) p && f (0 : Int).toNat == tm && f (p).toNat == old) = true then Mm.upd f (p).toNat x else f) (acc + 1) (flt || !(Mm.okA (3 + 8 * t + 7 * s) 0 && Mm.okA (3 + 8 * t + 7 * s) p)) ∧ w'.cell? ⟨rx, 0, none⟩ = some (.bool (Mm.okA (3 + 8 * t + 7 * s) 0 && Mm.okA (3 + 8 * t + 7 * s) p && f (0 : Int).toNat == tm && f (p).toNat == old)) ∧ Th.KS (fun j => j = mb ∨ j = mg ∨ j = rx) w w' := by
  refine Calls.veil fun Q HQ => ?_
  have HH := Lib.hid h; have HB := Lib.hid hb
  have HV0 := Lib.hid h0
  have HV1 := Lib.hid h1
  have HV2 := Lib.hid h2
  have HR := Lib.hid hr
  have HLM := Lib.hid (show ∀ y : Ext w, (Instr.loadAt 25 (.pointer (some ⟨bx, 0, none⟩))).run Try.prog y.w = .ok (.pointer (some ⟨q, 0, none⟩)) y.w from fun y => by have hc := Ext.use (Ext.cells HB.out) y.h; clear hb h0 h1 h2 hr; go_simp)
  have HLB := Lib.hid (show ∀ y : Ext w, (Instr.loadAt 28 (.pointer (some ⟨q, 1, none⟩))).run Try.prog y.w = .ok (.pointer (some ⟨mb, 0, none⟩)) y.w from fun y => by have hc := (HH.out.below y.h).c1; clear hb h0 h1 h2 hr; go_simp)
  have HLV0 := Lib.hid (show ∀ y : Ext w, (Instr.loadAt 22 (.pointer (some ⟨b0, 0, none⟩))).run Try.prog y.w = .ok (.int .u64 tm) y.w from fun y => by have hc := Ext.use (Ext.cells HV0.out) y.h; clear hb h0 h1 h2 hr; go_simp)
  have HLV1 := Lib.hid (show ∀ y : Ext w, (Instr.loadAt 22 (.pointer (some ⟨b1, 0, none⟩))).run Try.prog y.w = .ok (.int .u64 old) y.w from fun y => by have hc := Ext.use (Ext.cells HV1.out) y.h; clear hb h0 h1 h2 hr; go_simp)
  have HLV2 := Lib.hid (show ∀ y : Ext w, (Instr.loadAt 22 (.pointer (some ⟨b2, 0, none⟩))).run Try.prog y.w = .ok (.int .u64 x) y.w from fun y => by have hc := Ext.use (Ext.cells HV2.out) y.h; clear hb h0 h1 h2 hr; go_simp)
  clear h hb h0 h1 h2 hr
  go_enter Try.func73, Try.ntmps73
  (try go_upto_region 0 with fail)
  refine Th.wp_region_K (fun w' => ∃ y : Ext w, w' = y.w) 8 (by decide +kernel) ?_
  generalize hwd : World.drew w = wd
  have hbd : Below w.heap.size w wd := by rw [← hwd]; exact (Below.refl _ _).drew
  clear hwd
  (refine Th.wpAnyK_take (i := 0) (v := .pointer (some ⟨q, 0, none⟩)) [1, 2, 3, 8] rfl (by decide +kernel) (by decide +kernel) (by decide +kernel) (by decide +kernel) (fun _ _ _ h => h) (Th.yields_loadK rfl 25 (.tmp 1) rfl rfl (by rintro _ ⟨y, rfl⟩; exact HLM.out y)) ⟨⟨wd, hbd⟩, rfl⟩ ?_)
  (try simp only [List.getElem_toArray, List.getElem_cons_succ, List.getElem_cons_zero, Act.put, List.setIfInBounds_toArray, List.set_cons_succ, List.set_cons_zero])
  (refine Th.wpAnyK_takeY (i := 1) (v := ?_) rfl (by decide +kernel) (by decide +kernel) (by decide +kernel) (by decide) (fun _ _ _ h => h) (Or.inl ⟨by rfl, ?_⟩) (.inr ⟨⟨wd, hbd⟩, rfl⟩) ?_; rotate_left; (intro w; go_simp); (try with_reducible rfl))
  (try simp only [List.getElem_toArray, List.getElem_cons_succ, List.getElem_cons_zero, Act.put, List.setIfInBounds_toArray, List.set_cons_succ, List.set_cons_zero])
  (refine Th.wpAnyK_takeY (i := 2) (v := ?_) rfl (by decide +kernel) (by decide +kernel) (by decide +kernel) (by decide) (fun _ _ _ h => h) (Or.inl ⟨by rfl, ?_⟩) (.inr ⟨⟨wd, hbd⟩, rfl⟩) ?_; rotate_left; (intro w; go_simp); (try with_reducible rfl))
  (try simp only [List.getElem_toArray, List.getElem_cons_succ, List.getElem_cons_zero, Act.put, List.setIfInBounds_toArray, List.set_cons_succ, List.set_cons_zero])
  (refine Th.wpAnyK_take (i := 3) (v := .pointer (some ⟨mb, 0, none⟩)) [8] rfl (by decide +kernel) (by decide +kernel) (by decide +kernel) (by decide +kernel) (fun _ _ _ h => h) (Th.yields_loadK rfl 28 (.tmp 9) rfl rfl (by rintro _ ⟨y, rfl⟩; exact HLB.out y)) ⟨⟨wd, hbd⟩, rfl⟩ ?_)
  (try simp only [List.getElem_toArray, List.getElem_cons_succ, List.getElem_cons_zero, Act.put, List.setIfInBounds_toArray, List.set_cons_succ, List.set_cons_zero])
  (refine Th.wpAnyK_take (i := 4) (v := .int .u64 tm) [8] rfl (by decide +kernel) (by decide +kernel) (by decide +kernel) (by decide +kernel) (fun _ _ _ h => h) (Th.yields_loadK rfl 22 (.tmp 2) rfl rfl (by rintro _ ⟨y, rfl⟩; exact HLV0.out y)) ⟨⟨wd, hbd⟩, rfl⟩ ?_)
  (try simp only [List.getElem_toArray, List.getElem_cons_succ, List.getElem_cons_zero, Act.put, List.setIfInBounds_toArray, List.set_cons_succ, List.set_cons_zero])
  (refine Th.wpAnyK_takeY (i := 5) (v := ?_) rfl (by decide +kernel) (by decide +kernel) (by decide +kernel) (by decide) (fun _ _ _ h => h) (Or.inl ⟨by rfl, ?_⟩) (.inr ⟨⟨wd, hbd⟩, rfl⟩) ?_; rotate_left; (intro w; go_simp); (try with_reducible rfl))
  (try simp only [List.getElem_toArray, List.getElem_cons_succ, List.getElem_cons_zero, Act.put, List.setIfInBounds_toArray, List.set_cons_succ, List.set_cons_zero])
  (refine Th.wpAnyK_take (i := 6) (v := .int .u64 old) [8] rfl (by decide +kernel) (by decide +kernel) (by decide +kernel) (by decide +kernel) (fun _ _ _ h => h) (Th.yields_loadK rfl 22 (.tmp 3) rfl rfl (by rintro _ ⟨y, rfl⟩; exact HLV1.out y)) ⟨⟨wd, hbd⟩, rfl⟩ ?_)
  (try simp only [List.getElem_toArray, List.getElem_cons_succ, List.getElem_cons_zero, Act.put, List.setIfInBounds_toArray, List.set_cons_succ, List.set_cons_zero])
  (refine Th.wpAnyK_take (i := 7) (v := .int .u64 x) [8] rfl (by decide +kernel) (by decide +kernel) (by decide +kernel) (by decide +kernel) (fun _ _ _ h => h) (Th.yields_loadK rfl 22 (.tmp 4) rfl rfl (by rintro _ ⟨y, rfl⟩; exact HLV2.out y)) ⟨⟨wd, hbd⟩, rfl⟩ ?_)
  (try simp only [List.getElem_toArray, List.getElem_cons_succ, List.getElem_cons_zero, Act.put, List.setIfInBounds_toArray, List.set_cons_succ, List.set_cons_zero])
  (refine Th.wpAnyK_ready (rs := [8]) (by decide +kernel) (by simp) ?_; refine (Th.AllReadyK.cons rfl (fun K hK => ?_) Th.AllReadyK.nil))
  refine step_of rfl ?_
  go_step
  refine (Mm.mdcss _ _ _ _ _ _ 0 tm p old x _ _ (HH.out.below hbd).mem a0 (by omega) x0 x1).mono ?_; rintro _ w1 ⟨rfl, hm, ho⟩
  refine hK _ _ (.inl rfl) ?_
  clear hK K
  have hr1 : w1.heap[rx]? = some (.cells #[.bool false] T (0, 0)) := (ho.block rx (Th.blk_lt (Th.up hbd HR.out)) n1 n2).trans (Th.up hbd HR.out)
  have r0 := Th.newcell hr1 0 _ rfl
  have rf : ∀ i, w1.frozen? ⟨rx, i, none⟩ = false := fun i => frozen_of_row _ _ _ _ _ hr1
  have HM := Lib.hid hm; have HO := Lib.hid ho
  clear hm ho hr1
  (try simp only [List.getElem_toArray, List.getElem_cons_succ, List.getElem_cons_zero, Act.put, List.setIfInBounds_toArray, List.set_cons_succ, List.set_cons_zero])
  (refine Th.wpAnyK_ready (rs := [9]) (by decide +kernel) (by simp) ?_; refine (Th.AllReadyK.cons rfl (fun K hK => ?_) Th.AllReadyK.nil))
  refine step_of rfl ?_
  go_step
  refine hK _ _ (.inl rfl) ?_
  clear hK K
  refine Th.wpAnyK_done (by decide +kernel) ?_ _
  go_wp2_with fail
  refine bodyPost_end (v := .tuple #[]) (by simp [results, Try.results73, go_sem]) rfl ?_
  rw [HQ.out]
  have k := Th.KS.set w1 rx 0 (.bool (Mm.okA (3 + 8 * t + 7 * s) 0 && Mm.okA (3 + 8 * t + 7 * s) p && f (0 : Int).toNat == tm && f (p).toNat == old))
  exact ⟨rfl, HM.out.keep k.size (k.block mb HM.out.bl (Ne.symm n1)) (k.block mg HM.out.gl (Ne.symm n2)), Mm.scS r0, ((Th.KS.of_below hbd).trans (⟨HO.out.os, HO.out.tape, HO.out.output, HO.out.size, fun j hj hx => HO.out.block j hj (fun e => hx (.inl e)) (fun e => hx (.inr (.inl e)))⟩ : Th.KS (fun j => j = mb ∨ j = mg ∨ j = rx) wd w1)).trans (k.mono fun j e => .inr (.inr e))⟩
theorem heap4c {w V : World} {a b c d : Obj} (h : (((w.alloc a).alloc b).alloc c).alloc d = V) : V.heap[w.heap.size]? = some a ∧ V.heap[w.heap.size + 1]? = some b ∧ V.heap[w.heap.size + 1 + 1]? = some c ∧ V.heap[w.heap.size + 1 + 1 + 1]? = some d ∧ Below w.heap.size w V := by
  subst h
  obtain ⟨h1, h2, h3, hb⟩ := heap3c (w := w) (a := a) (b := b) (c := c) rfl
  have hs : (((w.alloc a).alloc b).alloc c).heap.size = w.heap.size + 1 + 1 + 1 := by simp
  exact ⟨by rw [Below.heap_alloc _ _ _ (by omega)]; exact h1, by rw [Below.heap_alloc _ _ _ (by omega)]; exact h2, by rw [Below.heap_alloc _ _ _ (by omega)]; exact h3, by have := heap_alloc_new (((w.alloc a).alloc b).alloc c) d; rwa [hs] at this, by (repeat (first | exact Below.refl _ _ | assumption | refine below_new ?_ _ | refine Below.drew ?_ | refine below_drewN ?_ _ | refine below_on ?_ (by assumption)))⟩
theorem heap5c {w V : World} {a b c d e : Obj} (h : ((((w.alloc a).alloc b).alloc c).alloc d).alloc e = V) : V.heap[w.heap.size]? = some a ∧ V.heap[w.heap.size + 1]? = some b ∧ V.heap[w.heap.size + 1 + 1]? = some c ∧ V.heap[w.heap.size + 1 + 1 + 1]? = some d ∧ V.heap[w.heap.size + 1 + 1 + 1 + 1]? = some e ∧ Below w.heap.size w V := by
  subst h
  obtain ⟨h1, h2, h3, h4, hb⟩ := heap4c (w := w) (a := a) (b := b) (c := c) (d := d) rfl
  have hs : ((((w.alloc a).alloc b).alloc c).alloc d).heap.size = w.heap.size + 1 + 1 + 1 + 1 := by simp
  exact ⟨by rw [Below.heap_alloc _ _ _ (by omega)]; exact h1, by rw [Below.heap_alloc _ _ _ (by omega)]; exact h2, by rw [Below.heap_alloc _ _ _ (by omega)]; exact h3, by rw [Below.heap_alloc _ _ _ (by omega)]; exact h4, by have := heap_alloc_new ((((w.alloc a).alloc b).alloc c).alloc d) e; rwa [hs] at this, by (repeat (first | exact Below.refl _ _ | assumption | refine below_new ?_ _ | refine Below.drew ?_ | refine below_drewN ?_ _ | refine below_on ?_ (by assumption)))⟩
set_option maxRecDepth 8000 in
set_option maxHeartbeats 1000000 in
theorem wreach {w : World} {B q pl mb mg C gq gg gm : Nat} {fv : Value} {tq : Nat → Nat} {t s : Nat} {Kc : Int} {f : Nat → Int} {acc : Int} {flt : Bool} {H : Nat → Bool} {G : Nat → Int} {sl steps : Int} {odd : Bool} (h : MI w B q pl mb mg C gq gg gm fv tq t s Kc f acc flt H G sl steps odd) {bx : Nat} {b0 : Nat} {x : Int} (hb : w.cell? ⟨bx, 0, none⟩ = some (.pointer (some ⟨q, 0, none⟩))) (h0 : w.cell? ⟨b0, 0, none⟩ = some (.int .u64 x)) (a0 : 0 ≤ acc) (a1 : acc < 1000000) (x0 : 0 ≤ x) (x1 : x < 18446744073709551616) (e fi : Int) (e0 : 0 ≤ e) (e1 : e < 18446744073709551616) (hl : Gd.leadsB s H G e = true) :
    Calls Try.prog 67 #[.pointer (some ⟨q, 0, none⟩), .int .u64 e, .int .i64 fi, .func (Fn.func 68) #[] #[.pointer (some ⟨bx, 0, none⟩), .pointer (some ⟨b0, 0, none⟩)]] w fun x' w' => x' = .returned (.tuple #[]) ∧ Mm.MemAt w' mb mg (3 + 8 * t + 7 * s) C (if Mm.okA (3 + 8 * t + 7 * s) (nodeI t s (e % 4096) fi) = true then Mm.upd f ((nodeI t s (e % 4096) fi)).toNat x else f) (acc + 1) (flt || !Mm.okA (3 + 8 * t + 7 * s) (nodeI t s (e % 4096) fi)) ∧ Mm.Only mb mg w w' := by
  refine Calls.veil fun Q HQ => ?_
  have HH := Lib.hid h; have HB := Lib.hid hb; have HL := Lib.hid hl
  have HV0 := Lib.hid h0
  have c2 := h.c2
  clear h hb hl h0
  go_enter Try.func67, Try.ntmps67
  go_wp2_with fail
  refine (Gd.gleads HH.out.grd e e0 e1).mono ?_; rintro _ w1 ⟨rfl, hb1⟩
  rw [HL.out]
  have HH1 := Lib.hid (HH.out.below hb1); have HB1 := Lib.hid hb1
  clear hb1 c2
  go_upto_region 3 with fail
  have HLP := Lib.hid (show ∀ y : Ext w1, (Instr.loadAt 26 (.pointer (some ⟨q, 0, none⟩))).run Try.prog y.w = .ok (.pointer (some ⟨pl, 0, none⟩)) y.w from fun y => by have hc := (HH1.out.below y.h).c0; go_simp)
  refine Th.wp_region_K (fun w' => ∃ y : Ext w1, w' = y.w) 9 (by decide +kernel) ?_
  generalize hwd : World.drew w1 = wd
  have hbd : Below w1.heap.size w1 wd := by rw [← hwd]; exact (Below.refl _ _).drew
  clear hwd
  (refine Th.wpAnyK_takeY (i := 0) (v := ?_) rfl (by decide +kernel) (by decide +kernel) (by decide +kernel) (by decide) (fun _ _ _ h => h) (Or.inl ⟨by rfl, ?_⟩) (.inr ⟨⟨wd, hbd⟩, rfl⟩) ?_; rotate_left; (intro w; go_simp); (try with_reducible rfl))
  (try simp only [List.getElem_toArray, List.getElem_cons_succ, List.getElem_cons_zero, Act.put, List.setIfInBounds_toArray, List.set_cons_succ, List.set_cons_zero])
  (refine Th.wpAnyK_takeY (i := 1) (v := ?_) rfl (by decide +kernel) (by decide +kernel) (by decide +kernel) (by decide) (fun _ _ _ h => h) (Or.inl ⟨by rfl, ?_⟩) (.inr ⟨⟨wd, hbd⟩, rfl⟩) ?_; rotate_left; (intro w; go_simp); (try with_reducible rfl))
  (try simp only [List.getElem_toArray, List.getElem_cons_succ, List.getElem_cons_zero, Act.put, List.setIfInBounds_toArray, List.set_cons_succ, List.set_cons_zero])
  (refine Th.wpAnyK_takeY (i := 2) (v := ?_) rfl (by decide +kernel) (by decide +kernel) (by decide +kernel) (by decide) (fun _ _ _ h => h) (Or.inl ⟨by rfl, ?_⟩) (.inr ⟨⟨wd, hbd⟩, rfl⟩) ?_; rotate_left; (intro w; go_simp); (try with_reducible rfl))
  (try simp only [List.getElem_toArray, List.getElem_cons_succ, List.getElem_cons_zero, Act.put, List.setIfInBounds_toArray, List.set_cons_succ, List.set_cons_zero])
  (refine Th.wpAnyK_takeY (i := 3) (v := ?_) rfl (by decide +kernel) (by decide +kernel) (by decide +kernel) (by decide) (fun _ _ _ h => h) (Or.inl ⟨by rfl, ?_⟩) (.inr ⟨⟨wd, hbd⟩, rfl⟩) ?_; rotate_left; (intro w; go_simp); (try with_reducible rfl))
  (try simp only [List.getElem_toArray, List.getElem_cons_succ, List.getElem_cons_zero, Act.put, List.setIfInBounds_toArray, List.set_cons_succ, List.set_cons_zero])
  (refine Th.wpAnyK_take (i := 4) (v := .pointer (some ⟨pl, 0, none⟩)) [8, 9] rfl (by decide +kernel) (by decide +kernel) (by decide +kernel) (by decide +kernel) (fun _ _ _ h => h) (Th.yields_loadK rfl 26 (.tmp 23) rfl rfl (by rintro _ ⟨y, rfl⟩; exact HLP.out y)) ⟨⟨wd, hbd⟩, rfl⟩ ?_)
  (try simp only [List.getElem_toArray, List.getElem_cons_succ, List.getElem_cons_zero, Act.put, List.setIfInBounds_toArray, List.set_cons_succ, List.set_cons_zero])
  (refine Th.wpAnyK_takeY (i := 5) (v := ?_) rfl (by decide +kernel) (by decide +kernel) (by decide +kernel) (by decide) (fun _ _ _ h => h) (Or.inl ⟨by rfl, ?_⟩) (.inr ⟨⟨wd, hbd⟩, rfl⟩) ?_; rotate_left; (intro w; go_simp); (try with_reducible rfl))
  (try simp only [List.getElem_toArray, List.getElem_cons_succ, List.getElem_cons_zero, Act.put, List.setIfInBounds_toArray, List.set_cons_succ, List.set_cons_zero])
  (refine Th.wpAnyK_takeY (i := 7) (v := ?_) rfl (by decide +kernel) (by decide +kernel) (by decide +kernel) (by decide) (fun _ _ _ h => h) (Or.inl ⟨by rfl, ?_⟩) (.inr ⟨⟨wd, hbd⟩, rfl⟩) ?_; rotate_left; (intro w; go_simp); (try with_reducible rfl))
  (try simp only [List.getElem_toArray, List.getElem_cons_succ, List.getElem_cons_zero, Act.put, List.setIfInBounds_toArray, List.set_cons_succ, List.set_cons_zero])
  (refine Th.wpAnyK_ready (rs := [6]) (by decide +kernel) (by simp) ?_; refine (Th.AllReadyK.cons rfl (fun K hK => ?_) Th.AllReadyK.nil))
  refine step_of rfl ?_
  go_step
  refine (eslot_calls e _ e0 e1).mono ?_; rintro _ w6 ⟨rfl, hw6⟩
  rw [← hw6]
  refine hK _ _ (.inr ⟨⟨wd, hbd⟩, rfl⟩) ?_
  clear hK K hw6
  (try simp only [List.getElem_toArray, List.getElem_cons_succ, List.getElem_cons_zero, Act.put, List.setIfInBounds_toArray, List.set_cons_succ, List.set_cons_zero])
  (refine Th.wpAnyK_ready (rs := [8]) (by decide +kernel) (by simp) ?_; refine (Th.AllReadyK.cons rfl (fun K hK => ?_) Th.AllReadyK.nil))
  refine step_of rfl ?_
  go_step
  have hbb := HH.out.bd
  refine (pnode_calls t s pl (e % 4096) fi _ (HH1.out.below hbd).p0 (HH1.out.below hbd).p1 (by omega) (by omega) (by omega) (by omega)).mono ?_; rintro _ w2 ⟨rfl, hb2⟩
  have hb2 := below_on hbd hb2
  refine hK _ _ (.inr ⟨⟨w2, hb2⟩, rfl⟩) ?_
  clear hK K hbb
  (try simp only [List.getElem_toArray, List.getElem_cons_succ, List.getElem_cons_zero, Act.put, List.setIfInBounds_toArray, List.set_cons_succ, List.set_cons_zero])
  (refine Th.wpAnyK_ready (rs := [9]) (by decide +kernel) (by simp) ?_; refine (Th.AllReadyK.cons rfl (fun K hK => ?_) Th.AllReadyK.nil))
  refine step_of rfl ?_
  have hb3 := below_on HB1.out hb2
  go_step
  refine (wclos (HH.out.below hb3) (Ext.use (Ext.cells HB.out) hb3) (Ext.use (Ext.cells HV0.out) hb3) a0 a1 x0 x1 ((nodeI t s (e % 4096) fi))).mono ?_; rintro _ w3 ⟨rfl, hm, ho⟩
  have HF := Lib.hid (And.intro hm ((Mm.Only.of_below hb3).trans ho))
  refine hK _ _ (.inl rfl) ?_
  clear hK K hm ho
  refine Th.wpAnyK_done (by decide +kernel) ?_ _
  go_wp2_with fail
  refine bodyPost_end (v := .tuple #[]) (by simp [results, Try.results67, go_sem]) rfl ?_
  rw [HQ.out]
  exact ⟨rfl, HF.out⟩
set_option maxRecDepth 8000 in
set_option maxHeartbeats 1000000 in
theorem sreach {w : World} {B q pl mb mg C gq gg gm : Nat} {fv : Value} {tq : Nat → Nat} {t s : Nat} {Kc : Int} {f : Nat → Int} {acc : Int} {flt : Bool} {H : Nat → Bool} {G : Nat → Int} {sl steps : Int} {odd : Bool} (h : MI w B q pl mb mg C gq gg gm fv tq t s Kc f acc flt H G sl steps odd) {bx rx : Nat} {b0 : Nat} {b1 : Nat} {T : TypeId} {old : Int} {x : Int} (hb : w.cell? ⟨bx, 0, none⟩ = some (.pointer (some ⟨q, 0, none⟩))) (h0 : w.cell? ⟨b0, 0, none⟩ = some (.int .u64 old)) (h1 : w.cell? ⟨b1, 0, none⟩ = some (.int .u64 x)) (hr : w.heap[rx]? = some (.cells #[.bool false] T (0, 0))) (n1 : rx ≠ mb) (n2 : rx ≠ mg) (a0 : 0 ≤ acc) (a1 : acc < 1000000) (x0 : 0 ≤ x) (x1 : x < 18446744073709551616) (e fi : Int) (e0 : 0 ≤ e) (e1 : e < 18446744073709551616) (hl : Gd.leadsB s H G e = true) :
    Calls Try.prog 67 #[.pointer (some ⟨q, 0, none⟩), .int .u64 e, .int .i64 fi, .func (Fn.func 71) #[] #[.pointer (some ⟨bx, 0, none⟩), .pointer (some ⟨b0, 0, none⟩), .pointer (some ⟨b1, 0, none⟩), .pointer (some ⟨rx, 0, none⟩)]] w fun x' w' => x' = .returned (.tuple #[]) ∧ Mm.MemAt w' mb mg (3 + 8 * t + 7 * s) C (if (Mm.okA (3 + 8 * t + 7 * s) (nodeI t s (e % 4096) fi) && f ((nodeI t s (e % 4096) fi)).toNat == old) = true then Mm.upd f ((nodeI t s (e % 4096) fi)).toNat x else f) (acc + 1) (flt || !Mm.okA (3 + 8 * t + 7 * s) (nodeI t s (e % 4096) fi)) ∧ w'.cell? ⟨rx, 0, none⟩ = some (.bool (Mm.okA (3 + 8 * t + 7 * s) (nodeI t s (e % 4096) fi) && f ((nodeI t s (e % 4096) fi)).toNat == old)) ∧ Th.KS (fun j => j = mb ∨ j = mg ∨ j = rx) w w' := by
  refine Calls.veil fun Q HQ => ?_
  have HH := Lib.hid h; have HB := Lib.hid hb; have HL := Lib.hid hl
  have HV0 := Lib.hid h0
  have HV1 := Lib.hid h1
  have HR := Lib.hid hr
  have c2 := h.c2
  clear h hb hl h0 h1 hr
  go_enter Try.func67, Try.ntmps67
  go_wp2_with fail
  refine (Gd.gleads HH.out.grd e e0 e1).mono ?_; rintro _ w1 ⟨rfl, hb1⟩
  rw [HL.out]
  have HH1 := Lib.hid (HH.out.below hb1); have HB1 := Lib.hid hb1
  clear hb1 c2
  go_upto_region 3 with fail
  have HLP := Lib.hid (show ∀ y : Ext w1, (Instr.loadAt 26 (.pointer (some ⟨q, 0, none⟩))).run Try.prog y.w = .ok (.pointer (some ⟨pl, 0, none⟩)) y.w from fun y => by have hc := (HH1.out.below y.h).c0; go_simp)
  refine Th.wp_region_K (fun w' => ∃ y : Ext w1, w' = y.w) 9 (by decide +kernel) ?_
  generalize hwd : World.drew w1 = wd
  have hbd : Below w1.heap.size w1 wd := by rw [← hwd]; exact (Below.refl _ _).drew
  clear hwd
  (refine Th.wpAnyK_takeY (i := 0) (v := ?_) rfl (by decide +kernel) (by decide +kernel) (by decide +kernel) (by decide) (fun _ _ _ h => h) (Or.inl ⟨by rfl, ?_⟩) (.inr ⟨⟨wd, hbd⟩, rfl⟩) ?_; rotate_left; (intro w; go_simp); (try with_reducible rfl))
  (try simp only [List.getElem_toArray, List.getElem_cons_succ, List.getElem_cons_zero, Act.put, List.setIfInBounds_toArray, List.set_cons_succ, List.set_cons_zero])
  (refine Th.wpAnyK_takeY (i := 1) (v := ?_) rfl (by decide +kernel) (by decide +kernel) (by decide +kernel) (by decide) (fun _ _ _ h => h) (Or.inl ⟨by rfl, ?_⟩) (.inr ⟨⟨wd, hbd⟩, rfl⟩) ?_; rotate_left; (intro w; go_simp); (try with_reducible rfl))
  (try simp only [List.getElem_toArray, List.getElem_cons_succ, List.getElem_cons_zero, Act.put, List.setIfInBounds_toArray, List.set_cons_succ, List.set_cons_zero])
  (refine Th.wpAnyK_takeY (i := 2) (v := ?_) rfl (by decide +kernel) (by decide +kernel) (by decide +kernel) (by decide) (fun _ _ _ h => h) (Or.inl ⟨by rfl, ?_⟩) (.inr ⟨⟨wd, hbd⟩, rfl⟩) ?_; rotate_left; (intro w; go_simp); (try with_reducible rfl))
  (try simp only [List.getElem_toArray, List.getElem_cons_succ, List.getElem_cons_zero, Act.put, List.setIfInBounds_toArray, List.set_cons_succ, List.set_cons_zero])
  (refine Th.wpAnyK_takeY (i := 3) (v := ?_) rfl (by decide +kernel) (by decide +kernel) (by decide +kernel) (by decide) (fun _ _ _ h => h) (Or.inl ⟨by rfl, ?_⟩) (.inr ⟨⟨wd, hbd⟩, rfl⟩) ?_; rotate_left; (intro w; go_simp); (try with_reducible rfl))
  (try simp only [List.getElem_toArray, List.getElem_cons_succ, List.getElem_cons_zero, Act.put, List.setIfInBounds_toArray, List.set_cons_succ, List.set_cons_zero])
  (refine Th.wpAnyK_take (i := 4) (v := .pointer (some ⟨pl, 0, none⟩)) [8, 9] rfl (by decide +kernel) (by decide +kernel) (by decide +kernel) (by decide +kernel) (fun _ _ _ h => h) (Th.yields_loadK rfl 26 (.tmp 23) rfl rfl (by rintro _ ⟨y, rfl⟩; exact HLP.out y)) ⟨⟨wd, hbd⟩, rfl⟩ ?_)
  (try simp only [List.getElem_toArray, List.getElem_cons_succ, List.getElem_cons_zero, Act.put, List.setIfInBounds_toArray, List.set_cons_succ, List.set_cons_zero])
  (refine Th.wpAnyK_takeY (i := 5) (v := ?_) rfl (by decide +kernel) (by decide +kernel) (by decide +kernel) (by decide) (fun _ _ _ h => h) (Or.inl ⟨by rfl, ?_⟩) (.inr ⟨⟨wd, hbd⟩, rfl⟩) ?_; rotate_left; (intro w; go_simp); (try with_reducible rfl))
  (try simp only [List.getElem_toArray, List.getElem_cons_succ, List.getElem_cons_zero, Act.put, List.setIfInBounds_toArray, List.set_cons_succ, List.set_cons_zero])
  (refine Th.wpAnyK_takeY (i := 7) (v := ?_) rfl (by decide +kernel) (by decide +kernel) (by decide +kernel) (by decide) (fun _ _ _ h => h) (Or.inl ⟨by rfl, ?_⟩) (.inr ⟨⟨wd, hbd⟩, rfl⟩) ?_; rotate_left; (intro w; go_simp); (try with_reducible rfl))
  (try simp only [List.getElem_toArray, List.getElem_cons_succ, List.getElem_cons_zero, Act.put, List.setIfInBounds_toArray, List.set_cons_succ, List.set_cons_zero])
  (refine Th.wpAnyK_ready (rs := [6]) (by decide +kernel) (by simp) ?_; refine (Th.AllReadyK.cons rfl (fun K hK => ?_) Th.AllReadyK.nil))
  refine step_of rfl ?_
  go_step
  refine (eslot_calls e _ e0 e1).mono ?_; rintro _ w6 ⟨rfl, hw6⟩
  rw [← hw6]
  refine hK _ _ (.inr ⟨⟨wd, hbd⟩, rfl⟩) ?_
  clear hK K hw6
  (try simp only [List.getElem_toArray, List.getElem_cons_succ, List.getElem_cons_zero, Act.put, List.setIfInBounds_toArray, List.set_cons_succ, List.set_cons_zero])
  (refine Th.wpAnyK_ready (rs := [8]) (by decide +kernel) (by simp) ?_; refine (Th.AllReadyK.cons rfl (fun K hK => ?_) Th.AllReadyK.nil))
  refine step_of rfl ?_
  go_step
  have hbb := HH.out.bd
  refine (pnode_calls t s pl (e % 4096) fi _ (HH1.out.below hbd).p0 (HH1.out.below hbd).p1 (by omega) (by omega) (by omega) (by omega)).mono ?_; rintro _ w2 ⟨rfl, hb2⟩
  have hb2 := below_on hbd hb2
  refine hK _ _ (.inr ⟨⟨w2, hb2⟩, rfl⟩) ?_
  clear hK K hbb
  (try simp only [List.getElem_toArray, List.getElem_cons_succ, List.getElem_cons_zero, Act.put, List.setIfInBounds_toArray, List.set_cons_succ, List.set_cons_zero])
  (refine Th.wpAnyK_ready (rs := [9]) (by decide +kernel) (by simp) ?_; refine (Th.AllReadyK.cons rfl (fun K hK => ?_) Th.AllReadyK.nil))
  refine step_of rfl ?_
  have hb3 := below_on HB1.out hb2
  go_step
  refine (sclos (HH.out.below hb3) (Ext.use (Ext.cells HB.out) hb3) (Ext.use (Ext.cells HV0.out) hb3) (Ext.use (Ext.cells HV1.out) hb3) (Th.up hb3 HR.out) n1 n2 a0 a1 x0 x1 ((nodeI t s (e % 4096) fi))).mono ?_; rintro _ w3 ⟨rfl, hm, hc, hk⟩
  have HF := Lib.hid (And.intro hm (And.intro hc ((Th.KS.of_below hb3).trans hk)))
  refine hK _ _ (.inl rfl) ?_
  clear hK K hm hc hk
  refine Th.wpAnyK_done (by decide +kernel) ?_ _
  go_wp2_with fail
  refine bodyPost_end (v := .tuple #[]) (by simp [results, Try.results67, go_sem]) rfl ?_
  rw [HQ.out]
  exact ⟨rfl, HF.out⟩
set_option maxRecDepth 8000 in
set_option maxHeartbeats 1000000 in
theorem mreach {w : World} {B q pl mb mg C gq gg gm : Nat} {fv : Value} {tq : Nat → Nat} {t s : Nat} {Kc : Int} {f : Nat → Int} {acc : Int} {flt : Bool} {H : Nat → Bool} {G : Nat → Int} {sl steps : Int} {odd : Bool} (h : MI w B q pl mb mg C gq gg gm fv tq t s Kc f acc flt H G sl steps odd) {bx rx : Nat} {b0 : Nat} {T : TypeId} {x : Int} (hb : w.cell? ⟨bx, 0, none⟩ = some (.pointer (some ⟨q, 0, none⟩))) (h0 : w.cell? ⟨b0, 0, none⟩ = some (.int .u64 x)) (hr : w.heap[rx]? = some (.cells #[.int .u64 0] T (0, 0))) (n1 : rx ≠ mb) (n2 : rx ≠ mg) (a0 : 0 ≤ acc) (a1 : acc < 1000000) (x0 : 0 ≤ x) (x1 : x < 18446744073709551616) (e fi : Int) (e0 : 0 ≤ e) (e1 : e < 18446744073709551616) (hl : Gd.leadsB s H G e = true) :
    Calls Try.prog 67 #[.pointer (some ⟨q, 0, none⟩), .int .u64 e, .int .i64 fi, .func (Fn.func 75) #[] #[.pointer (some ⟨bx, 0, none⟩), .pointer (some ⟨b0, 0, none⟩), .pointer (some ⟨rx, 0, none⟩)]] w fun x' w' => x' = .returned (.tuple #[]) ∧ Mm.MemAt w' mb mg (3 + 8 * t + 7 * s) C (if Mm.okA (3 + 8 * t + 7 * s) (nodeI t s (e % 4096) fi) = true then Mm.upd f ((nodeI t s (e % 4096) fi)).toNat (Mm.orI (f ((nodeI t s (e % 4096) fi)).toNat) x) else f) (acc + 1) (flt || !Mm.okA (3 + 8 * t + 7 * s) (nodeI t s (e % 4096) fi)) ∧ w'.cell? ⟨rx, 0, none⟩ = some (.int .u64 (Mm.ldI (3 + 8 * t + 7 * s) f (nodeI t s (e % 4096) fi))) ∧ Th.KS (fun j => j = mb ∨ j = mg ∨ j = rx) w w' := by
  refine Calls.veil fun Q HQ => ?_
  have HH := Lib.hid h; have HB := Lib.hid hb; have HL := Lib.hid hl
  have HV0 := Lib.hid h0
  have HR := Lib.hid hr
  have c2 := h.c2
  clear h hb hl h0 hr
  go_enter Try.func67, Try.ntmps67
  go_wp2_with fail
  refine (Gd.gleads HH.out.grd e e0 e1).mono ?_; rintro _ w1 ⟨rfl, hb1⟩
  rw [HL.out]
  have HH1 := Lib.hid (HH.out.below hb1); have HB1 := Lib.hid hb1
  clear hb1 c2
  go_upto_region 3 with fail
  have HLP := Lib.hid (show ∀ y : Ext w1, (Instr.loadAt 26 (.pointer (some ⟨q, 0, none⟩))).run Try.prog y.w = .ok (.pointer (some ⟨pl, 0, none⟩)) y.w from fun y => by have hc := (HH1.out.below y.h).c0; go_simp)
  refine Th.wp_region_K (fun w' => ∃ y : Ext w1, w' = y.w) 9 (by decide +kernel) ?_
  generalize hwd : World.drew w1 = wd
  have hbd : Below w1.heap.size w1 wd := by rw [← hwd]; exact (Below.refl _ _).drew
  clear hwd
  (refine Th.wpAnyK_takeY (i := 0) (v := ?_) rfl (by decide +kernel) (by decide +kernel) (by decide +kernel) (by decide) (fun _ _ _ h => h) (Or.inl ⟨by rfl, ?_⟩) (.inr ⟨⟨wd, hbd⟩, rfl⟩) ?_; rotate_left; (intro w; go_simp); (try with_reducible rfl))
  (try simp only [List.getElem_toArray, List.getElem_cons_succ, List.getElem_cons_zero, Act.put, List.setIfInBounds_toArray, List.set_cons_succ, List.set_cons_zero])
  (refine Th.wpAnyK_takeY (i := 1) (v := ?_) rfl (by decide +kernel) (by decide +kernel) (by decide +kernel) (by decide) (fun _ _ _ h => h) (Or.inl ⟨by rfl, ?_⟩) (.inr ⟨⟨wd, hbd⟩, rfl⟩) ?_; rotate_left; (intro w; go_simp); (try with_reducible rfl))
  (try simp only [List.getElem_toArray, List.getElem_cons_succ, List.getElem_cons_zero, Act.put, List.setIfInBounds_toArray, List.set_cons_succ, List.set_cons_zero])
  (refine Th.wpAnyK_takeY (i := 2) (v := ?_) rfl (by decide +kernel) (by decide +kernel) (by decide +kernel) (by decide) (fun _ _ _ h => h) (Or.inl ⟨by rfl, ?_⟩) (.inr ⟨⟨wd, hbd⟩, rfl⟩) ?_; rotate_left; (intro w; go_simp); (try with_reducible rfl))
  (try simp only [List.getElem_toArray, List.getElem_cons_succ, List.getElem_cons_zero, Act.put, List.setIfInBounds_toArray, List.set_cons_succ, List.set_cons_zero])
  (refine Th.wpAnyK_takeY (i := 3) (v := ?_) rfl (by decide +kernel) (by decide +kernel) (by decide +kernel) (by decide) (fun _ _ _ h => h) (Or.inl ⟨by rfl, ?_⟩) (.inr ⟨⟨wd, hbd⟩, rfl⟩) ?_; rotate_left; (intro w; go_simp); (try with_reducible rfl))
  (try simp only [List.getElem_toArray, List.getElem_cons_succ, List.getElem_cons_zero, Act.put, List.setIfInBounds_toArray, List.set_cons_succ, List.set_cons_zero])
  (refine Th.wpAnyK_take (i := 4) (v := .pointer (some ⟨pl, 0, none⟩)) [8, 9] rfl (by decide +kernel) (by decide +kernel) (by decide +kernel) (by decide +kernel) (fun _ _ _ h => h) (Th.yields_loadK rfl 26 (.tmp 23) rfl rfl (by rintro _ ⟨y, rfl⟩; exact HLP.out y)) ⟨⟨wd, hbd⟩, rfl⟩ ?_)
  (try simp only [List.getElem_toArray, List.getElem_cons_succ, List.getElem_cons_zero, Act.put, List.setIfInBounds_toArray, List.set_cons_succ, List.set_cons_zero])
  (refine Th.wpAnyK_takeY (i := 5) (v := ?_) rfl (by decide +kernel) (by decide +kernel) (by decide +kernel) (by decide) (fun _ _ _ h => h) (Or.inl ⟨by rfl, ?_⟩) (.inr ⟨⟨wd, hbd⟩, rfl⟩) ?_; rotate_left; (intro w; go_simp); (try with_reducible rfl))
  (try simp only [List.getElem_toArray, List.getElem_cons_succ, List.getElem_cons_zero, Act.put, List.setIfInBounds_toArray, List.set_cons_succ, List.set_cons_zero])
  (refine Th.wpAnyK_takeY (i := 7) (v := ?_) rfl (by decide +kernel) (by decide +kernel) (by decide +kernel) (by decide) (fun _ _ _ h => h) (Or.inl ⟨by rfl, ?_⟩) (.inr ⟨⟨wd, hbd⟩, rfl⟩) ?_; rotate_left; (intro w; go_simp); (try with_reducible rfl))
  (try simp only [List.getElem_toArray, List.getElem_cons_succ, List.getElem_cons_zero, Act.put, List.setIfInBounds_toArray, List.set_cons_succ, List.set_cons_zero])
  (refine Th.wpAnyK_ready (rs := [6]) (by decide +kernel) (by simp) ?_; refine (Th.AllReadyK.cons rfl (fun K hK => ?_) Th.AllReadyK.nil))
  refine step_of rfl ?_
  go_step
  refine (eslot_calls e _ e0 e1).mono ?_; rintro _ w6 ⟨rfl, hw6⟩
  rw [← hw6]
  refine hK _ _ (.inr ⟨⟨wd, hbd⟩, rfl⟩) ?_
  clear hK K hw6
  (try simp only [List.getElem_toArray, List.getElem_cons_succ, List.getElem_cons_zero, Act.put, List.setIfInBounds_toArray, List.set_cons_succ, List.set_cons_zero])
  (refine Th.wpAnyK_ready (rs := [8]) (by decide +kernel) (by simp) ?_; refine (Th.AllReadyK.cons rfl (fun K hK => ?_) Th.AllReadyK.nil))
  refine step_of rfl ?_
  go_step
  have hbb := HH.out.bd
  refine (pnode_calls t s pl (e % 4096) fi _ (HH1.out.below hbd).p0 (HH1.out.below hbd).p1 (by omega) (by omega) (by omega) (by omega)).mono ?_; rintro _ w2 ⟨rfl, hb2⟩
  have hb2 := below_on hbd hb2
  refine hK _ _ (.inr ⟨⟨w2, hb2⟩, rfl⟩) ?_
  clear hK K hbb
  (try simp only [List.getElem_toArray, List.getElem_cons_succ, List.getElem_cons_zero, Act.put, List.setIfInBounds_toArray, List.set_cons_succ, List.set_cons_zero])
  (refine Th.wpAnyK_ready (rs := [9]) (by decide +kernel) (by simp) ?_; refine (Th.AllReadyK.cons rfl (fun K hK => ?_) Th.AllReadyK.nil))
  refine step_of rfl ?_
  have hb3 := below_on HB1.out hb2
  go_step
  refine (mclos (HH.out.below hb3) (Ext.use (Ext.cells HB.out) hb3) (Ext.use (Ext.cells HV0.out) hb3) (Th.up hb3 HR.out) n1 n2 a0 a1 x0 x1 ((nodeI t s (e % 4096) fi))).mono ?_; rintro _ w3 ⟨rfl, hm, hc, hk⟩
  have HF := Lib.hid (And.intro hm (And.intro hc ((Th.KS.of_below hb3).trans hk)))
  refine hK _ _ (.inl rfl) ?_
  clear hK K hm hc hk
  refine Th.wpAnyK_done (by decide +kernel) ?_ _
  go_wp2_with fail
  refine bodyPost_end (v := .tuple #[]) (by simp [results, Try.results67, go_sem]) rfl ?_
  rw [HQ.out]
  exact ⟨rfl, HF.out⟩
set_option maxRecDepth 8000 in
set_option maxHeartbeats 1000000 in
theorem dreach {w : World} {B q pl mb mg C gq gg gm : Nat} {fv : Value} {tq : Nat → Nat} {t s : Nat} {Kc : Int} {f : Nat → Int} {acc : Int} {flt : Bool} {H : Nat → Bool} {G : Nat → Int} {sl steps : Int} {odd : Bool} (h : MI w B q pl mb mg C gq gg gm fv tq t s Kc f acc flt H G sl steps odd) {bx rx : Nat} {b0 : Nat} {b1 : Nat} {b2 : Nat} {T : TypeId} {tm : Int} {old : Int} {x : Int} (hb : w.cell? ⟨bx, 0, none⟩ = some (.pointer (some ⟨q, 0, none⟩))) (h0 : w.cell? ⟨b0, 0, none⟩ = some (.int .u64 tm)) (h1 : w.cell? ⟨b1, 0, none⟩ = some (.int .u64 old)) (h2 : w.cell? ⟨b2, 0, none⟩ = some (.int .u64 x)) (hr : w.heap[rx]? = some (.cells #[.bool false] T (0, 0))) (n1 : rx ≠ mb) (n2 : rx ≠ mg) (a0 : 0 ≤ acc) (a1 : acc < 1000000) (x0 : 0 ≤ x) (x1 : x < 18446744073709551616) (e fi : Int) (e0 : 0 ≤ e) (e1 : e < 18446744073709551616) (hl : Gd.leadsB s H G e = true) :
    Calls Try.prog 67 #[.pointer (some ⟨q, 0, none⟩), .int .u64 e, .int .i64 fi, .func (Fn.func 73) #[] #[.pointer (some ⟨bx, 0, none⟩), .pointer (some ⟨b0, 0, none⟩), .pointer (some ⟨b1, 0, none⟩), .pointer (some ⟨b2, 0, none⟩), .pointer (some ⟨rx, 0, none⟩)]] w fun x' w' => x' = .returned (.tuple #[]) ∧ Mm.MemAt w' mb mg (3 + 8 * t + 7 * s) C (if (Mm.okA (3 + 8 * t + 7 * s) 0 && Mm.okA (3 + 8 * t + 7 * s) (nodeI t s (e % 4096) fi) && f (0 : Int).toNat == tm && f ((nodeI t s (e % 4096) fi)).toNat == old) = true then Mm.upd f ((nodeI t s (e % 4096) fi)).toNat x else f) (acc + 1) (flt || !(Mm.okA (3 + 8 * t + 7 * s) 0 && Mm.okA (3 + 8 * t + 7 * s) (nodeI t s (e % 4096) fi))) ∧ w'.cell? ⟨rx, 0, none⟩ = some (.bool (Mm.okA (3 + 8 * t + 7 * s) 0 && Mm.okA (3 + 8 * t + 7 * s) (nodeI t s (e % 4096) fi) && f (0 : Int).toNat == tm && f ((nodeI t s (e % 4096) fi)).toNat == old)) ∧ Th.KS (fun j => j = mb ∨ j = mg ∨ j = rx) w w' := by
  refine Calls.veil fun Q HQ => ?_
  have HH := Lib.hid h; have HB := Lib.hid hb; have HL := Lib.hid hl
  have HV0 := Lib.hid h0
  have HV1 := Lib.hid h1
  have HV2 := Lib.hid h2
  have HR := Lib.hid hr
  have c2 := h.c2
  clear h hb hl h0 h1 h2 hr
  go_enter Try.func67, Try.ntmps67
  go_wp2_with fail
  refine (Gd.gleads HH.out.grd e e0 e1).mono ?_; rintro _ w1 ⟨rfl, hb1⟩
  rw [HL.out]
  have HH1 := Lib.hid (HH.out.below hb1); have HB1 := Lib.hid hb1
  clear hb1 c2
  go_upto_region 3 with fail
  have HLP := Lib.hid (show ∀ y : Ext w1, (Instr.loadAt 26 (.pointer (some ⟨q, 0, none⟩))).run Try.prog y.w = .ok (.pointer (some ⟨pl, 0, none⟩)) y.w from fun y => by have hc := (HH1.out.below y.h).c0; go_simp)
  refine Th.wp_region_K (fun w' => ∃ y : Ext w1, w' = y.w) 9 (by decide +kernel) ?_
  generalize hwd : World.drew w1 = wd
  have hbd : Below w1.heap.size w1 wd := by rw [← hwd]; exact (Below.refl _ _).drew
  clear hwd
  (refine Th.wpAnyK_takeY (i := 0) (v := ?_) rfl (by decide +kernel) (by decide +kernel) (by decide +kernel) (by decide) (fun _ _ _ h => h) (Or.inl ⟨by rfl, ?_⟩) (.inr ⟨⟨wd, hbd⟩, rfl⟩) ?_; rotate_left; (intro w; go_simp); (try with_reducible rfl))
  (try simp only [List.getElem_toArray, List.getElem_cons_succ, List.getElem_cons_zero, Act.put, List.setIfInBounds_toArray, List.set_cons_succ, List.set_cons_zero])
  (refine Th.wpAnyK_takeY (i := 1) (v := ?_) rfl (by decide +kernel) (by decide +kernel) (by decide +kernel) (by decide) (fun _ _ _ h => h) (Or.inl ⟨by rfl, ?_⟩) (.inr ⟨⟨wd, hbd⟩, rfl⟩) ?_; rotate_left; (intro w; go_simp); (try with_reducible rfl))
  (try simp only [List.getElem_toArray, List.getElem_cons_succ, List.getElem_cons_zero, Act.put, List.setIfInBounds_toArray, List.set_cons_succ, List.set_cons_zero])
  (refine Th.wpAnyK_takeY (i := 2) (v := ?_) rfl (by decide +kernel) (by decide +kernel) (by decide +kernel) (by decide) (fun _ _ _ h => h) (Or.inl ⟨by rfl, ?_⟩) (.inr ⟨⟨wd, hbd⟩, rfl⟩) ?_; rotate_left; (intro w; go_simp); (try with_reducible rfl))
  (try simp only [List.getElem_toArray, List.getElem_cons_succ, List.getElem_cons_zero, Act.put, List.setIfInBounds_toArray, List.set_cons_succ, List.set_cons_zero])
  (refine Th.wpAnyK_takeY (i := 3) (v := ?_) rfl (by decide +kernel) (by decide +kernel) (by decide +kernel) (by decide) (fun _ _ _ h => h) (Or.inl ⟨by rfl, ?_⟩) (.inr ⟨⟨wd, hbd⟩, rfl⟩) ?_; rotate_left; (intro w; go_simp); (try with_reducible rfl))
  (try simp only [List.getElem_toArray, List.getElem_cons_succ, List.getElem_cons_zero, Act.put, List.setIfInBounds_toArray, List.set_cons_succ, List.set_cons_zero])
  (refine Th.wpAnyK_take (i := 4) (v := .pointer (some ⟨pl, 0, none⟩)) [8, 9] rfl (by decide +kernel) (by decide +kernel) (by decide +kernel) (by decide +kernel) (fun _ _ _ h => h) (Th.yields_loadK rfl 26 (.tmp 23) rfl rfl (by rintro _ ⟨y, rfl⟩; exact HLP.out y)) ⟨⟨wd, hbd⟩, rfl⟩ ?_)
  (try simp only [List.getElem_toArray, List.getElem_cons_succ, List.getElem_cons_zero, Act.put, List.setIfInBounds_toArray, List.set_cons_succ, List.set_cons_zero])
  (refine Th.wpAnyK_takeY (i := 5) (v := ?_) rfl (by decide +kernel) (by decide +kernel) (by decide +kernel) (by decide) (fun _ _ _ h => h) (Or.inl ⟨by rfl, ?_⟩) (.inr ⟨⟨wd, hbd⟩, rfl⟩) ?_; rotate_left; (intro w; go_simp); (try with_reducible rfl))
  (try simp only [List.getElem_toArray, List.getElem_cons_succ, List.getElem_cons_zero, Act.put, List.setIfInBounds_toArray, List.set_cons_succ, List.set_cons_zero])
  (refine Th.wpAnyK_takeY (i := 7) (v := ?_) rfl (by decide +kernel) (by decide +kernel) (by decide +kernel) (by decide) (fun _ _ _ h => h) (Or.inl ⟨by rfl, ?_⟩) (.inr ⟨⟨wd, hbd⟩, rfl⟩) ?_; rotate_left; (intro w; go_simp); (try with_reducible rfl))
  (try simp only [List.getElem_toArray, List.getElem_cons_succ, List.getElem_cons_zero, Act.put, List.setIfInBounds_toArray, List.set_cons_succ, List.set_cons_zero])
  (refine Th.wpAnyK_ready (rs := [6]) (by decide +kernel) (by simp) ?_; refine (Th.AllReadyK.cons rfl (fun K hK => ?_) Th.AllReadyK.nil))
  refine step_of rfl ?_
  go_step
  refine (eslot_calls e _ e0 e1).mono ?_; rintro _ w6 ⟨rfl, hw6⟩
  rw [← hw6]
  refine hK _ _ (.inr ⟨⟨wd, hbd⟩, rfl⟩) ?_
  clear hK K hw6
  (try simp only [List.getElem_toArray, List.getElem_cons_succ, List.getElem_cons_zero, Act.put, List.setIfInBounds_toArray, List.set_cons_succ, List.set_cons_zero])
  (refine Th.wpAnyK_ready (rs := [8]) (by decide +kernel) (by simp) ?_; refine (Th.AllReadyK.cons rfl (fun K hK => ?_) Th.AllReadyK.nil))
  refine step_of rfl ?_
  go_step
  have hbb := HH.out.bd
  refine (pnode_calls t s pl (e % 4096) fi _ (HH1.out.below hbd).p0 (HH1.out.below hbd).p1 (by omega) (by omega) (by omega) (by omega)).mono ?_; rintro _ w2 ⟨rfl, hb2⟩
  have hb2 := below_on hbd hb2
  refine hK _ _ (.inr ⟨⟨w2, hb2⟩, rfl⟩) ?_
  clear hK K hbb
  (try simp only [List.getElem_toArray, List.getElem_cons_succ, List.getElem_cons_zero, Act.put, List.setIfInBounds_toArray, List.set_cons_succ, List.set_cons_zero])
  (refine Th.wpAnyK_ready (rs := [9]) (by decide +kernel) (by simp) ?_; refine (Th.AllReadyK.cons rfl (fun K hK => ?_) Th.AllReadyK.nil))
  refine step_of rfl ?_
  have hb3 := below_on HB1.out hb2
  go_step
  refine (dclos (HH.out.below hb3) (Ext.use (Ext.cells HB.out) hb3) (Ext.use (Ext.cells HV0.out) hb3) (Ext.use (Ext.cells HV1.out) hb3) (Ext.use (Ext.cells HV2.out) hb3) (Th.up hb3 HR.out) n1 n2 a0 a1 x0 x1 ((nodeI t s (e % 4096) fi))).mono ?_; rintro _ w3 ⟨rfl, hm, hc, hk⟩
  have HF := Lib.hid (And.intro hm (And.intro hc ((Th.KS.of_below hb3).trans hk)))
  refine hK _ _ (.inl rfl) ?_
  clear hK K hm hc hk
  refine Th.wpAnyK_done (by decide +kernel) ?_ _
  go_wp2_with fail
  refine bodyPost_end (v := .tuple #[]) (by simp [results, Try.results67, go_sem]) rfl ?_
  rw [HQ.out]
  exact ⟨rfl, HF.out⟩
set_option maxRecDepth 8000 in
set_option maxHeartbeats 1000000 in
theorem wacc {w : World} {B q pl mb mg C gq gg gm : Nat} {fv : Value} {tq : Nat → Nat} {t s : Nat} {Kc : Int} {f : Nat → Int} {acc : Int} {flt : Bool} {H : Nat → Bool} {G : Nat → Int} {sl steps : Int} {odd : Bool} (h : MI w B q pl mb mg C gq gg gm fv tq t s Kc f acc flt H G sl steps odd) {x : Int} (e fi : Int) (e0 : 0 ≤ e) (e1 : e < 18446744073709551616) (hl : Gd.leadsB s H G e = true) (a0 : 0 ≤ acc) (a1 : acc < 1000000) (x0 : 0 ≤ x) (x1 : x < 18446744073709551616) :
    Calls Try.prog 35 #[.pointer (some ⟨q, 0, none⟩), .int .u64 e, .int .i64 fi, .int .u64 x] w fun x' w' => x' = .returned (.tuple #[]) ∧ MI w' B q pl mb mg C gq gg gm fv tq t s Kc (if Mm.okA (3 + 8 * t + 7 * s) (nodeI t s (e % 4096) fi) = true then Mm.upd f ((nodeI t s (e % 4096) fi)).toNat x else f) (acc + 1) (flt || !Mm.okA (3 + 8 * t + 7 * s) (nodeI t s (e % 4096) fi)) H G sl steps odd ∧ Mm.Only mb mg w w' := by
  refine Calls.veil fun Q HQ => ?_
  have HH := Lib.hid h; have HL := Lib.hid hl
  clear h hl
  go_enter Try.func35, Try.ntmps35
  go_upto_region 1 with fail
  generalize hV : World.alloc _ _ = U
  obtain ⟨u0, u1, hbu⟩ := heap2c hV
  obtain ⟨b0, hb0⟩ : ∃ z, z = w.heap.size + 1 := ⟨_, rfl⟩
  rw [← hb0] at u1 ⊢
  obtain ⟨bx, hbx⟩ : ∃ z, z = w.heap.size := ⟨_, rfl⟩
  rw [← hbx] at u0 ⊢
  have HU := Lib.hid (HH.out.below hbu); have HBU := Lib.hid hbu
  have bc := Th.newcell u0 0 _ rfl
  have v0 := Th.newcell u1 0 _ rfl
  have HBC := Lib.hid bc
  have HV0 := Lib.hid v0
  clear hV hbu u0 u1 hbx hb0 v0
  go_wp2_with fail
  clear bc
  refine (wreach HU.out HBC.out HV0.out a0 a1 x0 x1 e fi e0 e1 HL.out).mono ?_; rintro _ w2 ⟨rfl, hm, ho⟩
  have HM := Lib.hid hm; have HO := Lib.hid ((Mm.Only.of_below HBU.out).trans ho)
  clear hm ho
  go_wp2_with fail
  refine bodyPost_end (v := .tuple #[]) (by simp [results, Try.results35, go_sem]) rfl ?_
  rw [HQ.out]
  exact ⟨rfl, HH.out.only HO.out HM.out, HO.out⟩
set_option maxRecDepth 8000 in
set_option maxHeartbeats 1000000 in
theorem sacc {w : World} {B q pl mb mg C gq gg gm : Nat} {fv : Value} {tq : Nat → Nat} {t s : Nat} {Kc : Int} {f : Nat → Int} {acc : Int} {flt : Bool} {H : Nat → Bool} {G : Nat → Int} {sl steps : Int} {odd : Bool} (h : MI w B q pl mb mg C gq gg gm fv tq t s Kc f acc flt H G sl steps odd) {old x : Int} (e fi : Int) (e0 : 0 ≤ e) (e1 : e < 18446744073709551616) (hl : Gd.leadsB s H G e = true) (a0 : 0 ≤ acc) (a1 : acc < 1000000) (x0 : 0 ≤ x) (x1 : x < 18446744073709551616) :
    Calls Try.prog 37 #[.pointer (some ⟨q, 0, none⟩), .int .u64 e, .int .i64 fi, .int .u64 old, .int .u64 x] w fun x' w' => x' = .returned (.bool (Mm.okA (3 + 8 * t + 7 * s) (nodeI t s (e % 4096) fi) && f ((nodeI t s (e % 4096) fi)).toNat == old)) ∧ MI w' B q pl mb mg C gq gg gm fv tq t s Kc (if (Mm.okA (3 + 8 * t + 7 * s) (nodeI t s (e % 4096) fi) && f ((nodeI t s (e % 4096) fi)).toNat == old) = true then Mm.upd f ((nodeI t s (e % 4096) fi)).toNat x else f) (acc + 1) (flt || !Mm.okA (3 + 8 * t + 7 * s) (nodeI t s (e % 4096) fi)) H G sl steps odd ∧ Mm.Only mb mg w w' := by
  refine Calls.veil fun Q HQ => ?_
  have HH := Lib.hid h; have HL := Lib.hid hl
  clear h hl
  go_enter Try.func37, Try.ntmps37
  go_upto_region 2 with fail
  generalize hV : World.alloc _ _ = U
  obtain ⟨u0, u1, u2, u3, hbu⟩ := heap4c hV
  obtain ⟨rx, hrx⟩ : ∃ z, z = w.heap.size + 1 + 1 + 1 := ⟨_, rfl⟩
  rw [← hrx] at u3 ⊢
  obtain ⟨b1, hb1⟩ : ∃ z, z = w.heap.size + 1 + 1 := ⟨_, rfl⟩
  rw [← hb1] at u2 ⊢
  obtain ⟨b0, hb0⟩ : ∃ z, z = w.heap.size + 1 := ⟨_, rfl⟩
  rw [← hb0] at u1 ⊢
  obtain ⟨bx, hbx⟩ : ∃ z, z = w.heap.size := ⟨_, rfl⟩
  rw [← hbx] at u0 ⊢
  have HU := Lib.hid (HH.out.below hbu); have HBU := Lib.hid hbu
  have bc := Th.newcell u0 0 _ rfl
  have v0 := Th.newcell u1 0 _ rfl
  have v1 := Th.newcell u2 0 _ rfl
  have HBC := Lib.hid bc
  have HV0 := Lib.hid v0
  have HV1 := Lib.hid v1
  have HR := Lib.hid u3
  have HN := Lib.hid (show rx ≠ mb ∧ rx ≠ mg from by have h1 := HH.out.mem.bl; have h2 := HH.out.mem.gl; omega)
  have HRX := Lib.hid (show w.heap.size ≤ rx from by omega)
  clear hV hbu u0 u1 u2 u3 hbx hb0 hb1 hrx v0 v1
  go_wp2_with fail
  clear bc
  refine (sreach HU.out HBC.out HV0.out HV1.out HR.out HN.out.1 HN.out.2 a0 a1 x0 x1 e fi e0 e1 HL.out).mono ?_; rintro _ w2 ⟨rfl, hm, hc, hk⟩
  have HM := Lib.hid hm; have HK2 := Lib.hid hk
  clear hm hk
  go_wp2_with fail
  (try go_ret)
  rw [HQ.out]
  have ho : Mm.Only mb mg w w2 := ⟨HK2.out.os.trans HBU.out.os, HK2.out.tape.trans HBU.out.tape, HK2.out.output.trans HBU.out.output, Nat.le_trans HBU.out.size HK2.out.size, fun k hk h1 h2 => (HK2.out.block k (Nat.lt_of_lt_of_le hk HBU.out.size) (by rintro (e | e | e); exact h1 e; exact h2 e; have := HRX.out; omega)).trans (HBU.out.block k hk)⟩
  exact ⟨rfl, HH.out.only ho HM.out, ho⟩
set_option maxRecDepth 8000 in
set_option maxHeartbeats 1000000 in
theorem macc {w : World} {B q pl mb mg C gq gg gm : Nat} {fv : Value} {tq : Nat → Nat} {t s : Nat} {Kc : Int} {f : Nat → Int} {acc : Int} {flt : Bool} {H : Nat → Bool} {G : Nat → Int} {sl steps : Int} {odd : Bool} (h : MI w B q pl mb mg C gq gg gm fv tq t s Kc f acc flt H G sl steps odd) {x : Int} (e fi : Int) (e0 : 0 ≤ e) (e1 : e < 18446744073709551616) (hl : Gd.leadsB s H G e = true) (a0 : 0 ≤ acc) (a1 : acc < 1000000) (x0 : 0 ≤ x) (x1 : x < 18446744073709551616) :
    Calls Try.prog 39 #[.pointer (some ⟨q, 0, none⟩), .int .u64 e, .int .i64 fi, .int .u64 x] w fun x' w' => x' = .returned (.int .u64 (Mm.ldI (3 + 8 * t + 7 * s) f (nodeI t s (e % 4096) fi))) ∧ MI w' B q pl mb mg C gq gg gm fv tq t s Kc (if Mm.okA (3 + 8 * t + 7 * s) (nodeI t s (e % 4096) fi) = true then Mm.upd f ((nodeI t s (e % 4096) fi)).toNat (Mm.orI (f ((nodeI t s (e % 4096) fi)).toNat) x) else f) (acc + 1) (flt || !Mm.okA (3 + 8 * t + 7 * s) (nodeI t s (e % 4096) fi)) H G sl steps odd ∧ Mm.Only mb mg w w' := by
  refine Calls.veil fun Q HQ => ?_
  have HH := Lib.hid h; have HL := Lib.hid hl
  clear h hl
  go_enter Try.func39, Try.ntmps39
  go_upto_region 2 with fail
  generalize hV : World.alloc _ _ = U
  obtain ⟨u0, u1, u2, hbu⟩ := heap3c hV
  obtain ⟨rx, hrx⟩ : ∃ z, z = w.heap.size + 1 + 1 := ⟨_, rfl⟩
  rw [← hrx] at u2 ⊢
  obtain ⟨b0, hb0⟩ : ∃ z, z = w.heap.size + 1 := ⟨_, rfl⟩
  rw [← hb0] at u1 ⊢
  obtain ⟨bx, hbx⟩ : ∃ z, z = w.heap.size := ⟨_, rfl⟩
  rw [← hbx] at u0 ⊢
  have HU := Lib.hid (HH.out.below hbu); have HBU := Lib.hid hbu
  have bc := Th.newcell u0 0 _ rfl
  have v0 := Th.newcell u1 0 _ rfl
  have HBC := Lib.hid bc
  have HV0 := Lib.hid v0
  have HR := Lib.hid u2
  have HN := Lib.hid (show rx ≠ mb ∧ rx ≠ mg from by have h1 := HH.out.mem.bl; have h2 := HH.out.mem.gl; omega)
  have HRX := Lib.hid (show w.heap.size ≤ rx from by omega)
  clear hV hbu u0 u1 u2 hbx hb0 hrx v0
  go_wp2_with fail
  clear bc
  refine (mreach HU.out HBC.out HV0.out HR.out HN.out.1 HN.out.2 a0 a1 x0 x1 e fi e0 e1 HL.out).mono ?_; rintro _ w2 ⟨rfl, hm, hc, hk⟩
  have HM := Lib.hid hm; have HK2 := Lib.hid hk
  clear hm hk
  go_wp2_with fail
  (try go_ret)
  rw [HQ.out]
  have ho : Mm.Only mb mg w w2 := ⟨HK2.out.os.trans HBU.out.os, HK2.out.tape.trans HBU.out.tape, HK2.out.output.trans HBU.out.output, Nat.le_trans HBU.out.size HK2.out.size, fun k hk h1 h2 => (HK2.out.block k (Nat.lt_of_lt_of_le hk HBU.out.size) (by rintro (e | e | e); exact h1 e; exact h2 e; have := HRX.out; omega)).trans (HBU.out.block k hk)⟩
  exact ⟨rfl, HH.out.only ho HM.out, ho⟩
set_option maxRecDepth 8000 in
set_option maxHeartbeats 1000000 in
theorem dacc {w : World} {B q pl mb mg C gq gg gm : Nat} {fv : Value} {tq : Nat → Nat} {t s : Nat} {Kc : Int} {f : Nat → Int} {acc : Int} {flt : Bool} {H : Nat → Bool} {G : Nat → Int} {sl steps : Int} {odd : Bool} (h : MI w B q pl mb mg C gq gg gm fv tq t s Kc f acc flt H G sl steps odd) {tm old x : Int} (e fi : Int) (e0 : 0 ≤ e) (e1 : e < 18446744073709551616) (hl : Gd.leadsB s H G e = true) (a0 : 0 ≤ acc) (a1 : acc < 1000000) (x0 : 0 ≤ x) (x1 : x < 18446744073709551616) :
    Calls Try.prog 38 #[.pointer (some ⟨q, 0, none⟩), .int .u64 tm, .int .u64 e, .int .i64 fi, .int .u64 old, .int .u64 x] w fun x' w' => x' = .returned (.bool (Mm.okA (3 + 8 * t + 7 * s) 0 && Mm.okA (3 + 8 * t + 7 * s) (nodeI t s (e % 4096) fi) && f (0 : Int).toNat == tm && f ((nodeI t s (e % 4096) fi)).toNat == old)) ∧ MI w' B q pl mb mg C gq gg gm fv tq t s Kc (if (Mm.okA (3 + 8 * t + 7 * s) 0 && Mm.okA (3 + 8 * t + 7 * s) (nodeI t s (e % 4096) fi) && f (0 : Int).toNat == tm && f ((nodeI t s (e % 4096) fi)).toNat == old) = true then Mm.upd f ((nodeI t s (e % 4096) fi)).toNat x else f) (acc + 1) (flt || !(Mm.okA (3 + 8 * t + 7 * s) 0 && Mm.okA (3 + 8 * t + 7 * s) (nodeI t s (e % 4096) fi))) H G sl steps odd ∧ Mm.Only mb mg w w' := by
  refine Calls.veil fun Q HQ => ?_
  have HH := Lib.hid h; have HL := Lib.hid hl
  clear h hl
  go_enter Try.func38, Try.ntmps38
  go_upto_region 2 with fail
  generalize hV : World.alloc _ _ = U
  obtain ⟨u0, u1, u2, u3, u4, hbu⟩ := heap5c hV
  obtain ⟨rx, hrx⟩ : ∃ z, z = w.heap.size + 1 + 1 + 1 + 1 := ⟨_, rfl⟩
  rw [← hrx] at u4 ⊢
  obtain ⟨b2, hb2⟩ : ∃ z, z = w.heap.size + 1 + 1 + 1 := ⟨_, rfl⟩
  rw [← hb2] at u3 ⊢
  obtain ⟨b1, hb1⟩ : ∃ z, z = w.heap.size + 1 + 1 := ⟨_, rfl⟩
  rw [← hb1] at u2 ⊢
  obtain ⟨b0, hb0⟩ : ∃ z, z = w.heap.size + 1 := ⟨_, rfl⟩
  rw [← hb0] at u1 ⊢
  obtain ⟨bx, hbx⟩ : ∃ z, z = w.heap.size := ⟨_, rfl⟩
  rw [← hbx] at u0 ⊢
  have HU := Lib.hid (HH.out.below hbu); have HBU := Lib.hid hbu
  have bc := Th.newcell u0 0 _ rfl
  have v0 := Th.newcell u1 0 _ rfl
  have v1 := Th.newcell u2 0 _ rfl
  have v2 := Th.newcell u3 0 _ rfl
  have HBC := Lib.hid bc
  have HV0 := Lib.hid v0
  have HV1 := Lib.hid v1
  have HV2 := Lib.hid v2
  have HR := Lib.hid u4
  have HN := Lib.hid (show rx ≠ mb ∧ rx ≠ mg from by have h1 := HH.out.mem.bl; have h2 := HH.out.mem.gl; omega)
  have HRX := Lib.hid (show w.heap.size ≤ rx from by omega)
  clear hV hbu u0 u1 u2 u3 u4 hbx hb0 hb1 hb2 hrx v0 v1 v2
  go_wp2_with fail
  clear bc
  refine (dreach HU.out HBC.out HV0.out HV1.out HV2.out HR.out HN.out.1 HN.out.2 a0 a1 x0 x1 e fi e0 e1 HL.out).mono ?_; rintro _ w2 ⟨rfl, hm, hc, hk⟩
  have HM := Lib.hid hm; have HK2 := Lib.hid hk
  clear hm hk
  go_wp2_with fail
  (try go_ret)
  rw [HQ.out]
  have ho : Mm.Only mb mg w w2 := ⟨HK2.out.os.trans HBU.out.os, HK2.out.tape.trans HBU.out.tape, HK2.out.output.trans HBU.out.output, Nat.le_trans HBU.out.size HK2.out.size, fun k hk h1 h2 => (HK2.out.block k (Nat.lt_of_lt_of_le hk HBU.out.size) (by rintro (e | e | e); exact h1 e; exact h2 e; have := HRX.out; omega)).trans (HBU.out.block k hk)⟩
  exact ⟨rfl, HH.out.only ho HM.out, ho⟩
end Go.Proofs.Ytkkdehniheajeaa
