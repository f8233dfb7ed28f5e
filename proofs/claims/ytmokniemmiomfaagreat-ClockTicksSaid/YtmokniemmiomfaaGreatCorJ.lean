/- Layer 16: Read. -/
import Derived.Test.YtmokniemmiomfaaGreatCorI
namespace Go.Proofs.YtmokniemmiomfaaGreat
open Go.RowKit WordM EdgeM
set_option linter.unusedVariables false
set_option linter.unusedSimpArgs false
theorem MI.only {w w' : World} {B q pl mb mg C gq gg gm : Nat} {fv : Value} {tq : Nat → Nat} {t s : Nat} {K : Int} {f f' : Nat → Int} {acc acc' : Int} {flt flt' : Bool} {H : Nat → Bool} {G : Nat → Int} {sl steps : Int} {odd : Bool} (h : MI w B q pl mb mg C gq gg gm fv tq t s K f acc flt H G sl steps odd)
    (k : Mm.Only mb mg w w') (hm : Mm.MemAt w' mb mg (3 + 8 * t + 7 * s) C f' acc' flt') : MI w' B q pl mb mg C gq gg gm fv tq t s K f' acc' flt' H G sl steps odd := by
  have o2 := h.o2; have o3 := h.o3; have o4 := h.o4; have o5 := h.o5
  have keep : ∀ b o, w.heap[b]? = some o → b ≠ mb → b ≠ mg → w'.heap[b]? = some o := fun b o hb h1 h2 => (k.block b (Th.blk_lt hb) h1 h2).trans hb
  obtain ⟨D, ⟨es, clock, he, hr⟩, hD, hz⟩ := h.grd.held
  refine ⟨keep _ _ h.blk (by omega) (by omega), keep _ _ h.pln (by omega) (by omega), hm,
    ⟨h.grd.obj.of (k.block _ h.grd.obj.lt (by omega) (by omega)), h.grd.gens.of (k.block _ h.grd.gens.lt (by omega) (by omega)), ⟨D, ⟨es, clock, keep _ _ he (by omega) (by omega), hr⟩, hD, hz⟩, h.grd.g1, h.grd.g2, h.grd.g3, h.grd.n0, h.grd.n1, h.grd.gb, h.grd.sb⟩,
    h.ths.of fun b hb => k.block b (h.ths.blk hb).2.1 (by have := (h.ths.blk hb).1; omega) (by have := (h.ths.blk hb).1; omega),
    fun i hi => ⟨(h.thr i hi).1, keep _ _ (h.thr i hi).2 (by have := (h.thr i hi).1; omega) (by have := (h.thr i hi).1; omega)⟩, h.o1, h.o2, h.o3, h.o4, h.o5, h.may⟩
set_option maxRecDepth 8000 in
set_option maxHeartbeats 1000000 in
theorem rclos {w : World} {B q pl mb mg C gq gg gm : Nat} {fv : Value} {tq : Nat → Nat} {t s : Nat} {Kc : Int} {f : Nat → Int} {acc : Int} {flt : Bool} {H : Nat → Bool} {G : Nat → Int} {sl steps : Int} {odd : Bool} (h : MI w B q pl mb mg C gq gg gm fv tq t s Kc f acc flt H G sl steps odd)
    {bx rx : Nat} {T : TypeId} (hb : w.cell? ⟨bx, 0, none⟩ = some (.pointer (some ⟨q, 0, none⟩))) (hr : w.heap[rx]? = some (.cells #[.int .u64 0] T (0, 0))) (n1 : rx ≠ mb) (n2 : rx ≠ mg) (a0 : 0 ≤ acc) (a1 : acc < 1000000) (p : Int) :
    Calls Tryz.prog 66 #[.int .i64 p, .pointer (some ⟨bx, 0, none⟩), .pointer (some ⟨rx, 0, none⟩)] w fun e w' => e = .returned (.tuple #[]) ∧ Mm.MemAt w' mb mg (3 + 8 * t + 7 * s) C f (acc + 1) (flt || !Mm.okA (3 + 8 * t + 7 * s) p) ∧ w'.cell? ⟨rx, 0, none⟩ = some (.int .u64 (Mm.ldI (3 + 8 * t + 7 * s) f p)) ∧ Th.KS (fun j => j = mb ∨ j = mg ∨ j = rx) w w' := by
  refine Calls.veil fun Q HQ => ?_
  have HL := Lib.hid (Mm.mload _ _ _ _ _ _ p _ _ h.mem a0 (by omega))
  have c1 := h.c1
  have HR := Lib.hid hr
  clear h hr
  go_enter Tryz.func66, Tryz.ntmps66
  go_wp2_with fail
  refine HL.out.mono ?_; rintro _ w1 ⟨rfl, hm, ho⟩
  have hr1 : w1.heap[rx]? = some (.cells #[.int .u64 0] T (0, 0)) := (ho.block rx (Th.blk_lt HR.out) n1 n2).trans HR.out
  have r0 := Th.newcell hr1 0 _ rfl
  have rf : ∀ i, w1.frozen? ⟨rx, i, none⟩ = false := fun i => frozen_of_row _ _ _ _ _ hr1
  have HM := Lib.hid hm; have HO := Lib.hid ho; have HR1 := Lib.hid hr1
  clear hm ho hr1 hb c1
  go_wp2_with fail
  refine bodyPost_end (v := .tuple #[]) (by simp [results, Tryz.results66, go_sem]) rfl ?_
  rw [HQ.out]
  have k := Th.KS.set w1 rx 0 (.int .u64 (Mm.ldI (3 + 8 * t + 7 * s) f p))
  refine ⟨rfl, HM.out.keep k.size (k.block mb HM.out.bl (Ne.symm n1)) (k.block mg HM.out.gl (Ne.symm n2)), Mm.scS r0, (⟨HO.out.os, HO.out.tape, HO.out.output, HO.out.size, fun j hj hx => HO.out.block j hj (fun e => hx (.inl e)) (fun e => hx (.inr (.inl e)))⟩ : Th.KS (fun j => j = mb ∨ j = mg ∨ j = rx) w w1).trans (k.mono fun j e => .inr (.inr e))⟩
/-- A world in which three blocks may have changed. -/
structure KX (W : World) (a b c : Nat) where
  w : World
  h : Th.KS (fun j => j = a ∨ j = b ∨ j = c) W w
theorem KX.cells {W : World} {a b c i o : Nat} {v : Value} (h : W.cell? ⟨i, o, none⟩ = some v) (h1 : i ≠ a) (h2 : i ≠ b) (h3 : i ≠ c) : ∀ y : KX W a b c, y.w.cell? ⟨i, o, none⟩ = some v := fun y =>
  (World.cell?_of_block (w := W) (a := ⟨i, o, none⟩) (y.h.block i (World.block_lt_of_cell? W ⟨i, o, none⟩ h) (by rintro (e | e | e) <;> contradiction))).trans h
set_option maxRecDepth 8000 in
set_option maxHeartbeats 1000000 in
theorem creach {w : World} {B q pl mb mg C gq gg gm : Nat} {fv : Value} {tq : Nat → Nat} {t s : Nat} {Kc : Int} {f : Nat → Int} {acc : Int} {flt : Bool} {H : Nat → Bool} {G : Nat → Int} {sl steps : Int} {odd : Bool} (h : MI w B q pl mb mg C gq gg gm fv tq t s Kc f acc flt H G sl steps odd) (e fi : Int) (e0 : 0 ≤ e) (e1 : e < 18446744073709551616) (hl : Gd.leadsB s H G e = true) (a0 : 0 ≤ acc) (a1 : acc < 1000000)
    {bx rx : Nat} {T : TypeId} (hb : w.cell? ⟨bx, 0, none⟩ = some (.pointer (some ⟨q, 0, none⟩))) (hr : w.heap[rx]? = some (.cells #[.int .u64 0] T (0, 0))) (n1 : rx ≠ mb) (n2 : rx ≠ mg) (n3 : rx ≠ q) (n4 : rx ≠ pl) :
    Calls Tryz.prog 65 #[.pointer (some ⟨q, 0, none⟩), .int .u64 e, .int .i64 fi, .func (Fn.func 66) #[] #[.pointer (some ⟨bx, 0, none⟩), .pointer (some ⟨rx, 0, none⟩)]] w fun x w' => x = .returned (.tuple #[]) ∧ Mm.MemAt w' mb mg (3 + 8 * t + 7 * s) C f (acc + 1) (flt || !Mm.okA (3 + 8 * t + 7 * s) (nodeI t s (e % 4096) fi)) ∧ w'.cell? ⟨rx, 0, none⟩ = some (.int .u64 (Mm.ldI (3 + 8 * t + 7 * s) f (nodeI t s (e % 4096) fi))) ∧ Th.KS (fun j => j = mb ∨ j = mg ∨ j = rx) w w' := by
  refine Calls.veil fun Q HQ => ?_
  have HH := Lib.hid h; have HB := Lib.hid hb; have HR := Lib.hid hr; have HL := Lib.hid hl
  have c2 := h.c2
  have o2 := h.o2; have o3 := h.o3; have o4 := h.o4; have o5 := h.o5
  have HO := Lib.hid (And.intro o2 (And.intro o3 (And.intro o4 o5)))
  clear h hb hr hl o2 o3 o4 o5
  go_enter Tryz.func65, Tryz.ntmps65
  go_wp2_with fail
  refine (Gd.gleads HH.out.grd e e0 e1).mono ?_; rintro _ w1 ⟨rfl, hb1⟩
  rw [HL.out]
  have HH1 := Lib.hid (HH.out.below hb1); have HB1 := Lib.hid hb1
  clear hb1 c2
  go_upto_region 3 with fail
  have HLP := Lib.hid (show ∀ y : Ext w1, (Instr.loadAt 55 (.pointer (some ⟨q, 0, none⟩))).run Tryz.prog y.w = .ok (.pointer (some ⟨pl, 0, none⟩)) y.w from fun y => by have hc := (HH1.out.below y.h).c0; go_simp)
  refine Th.wp_region_K (fun w' => ∃ y : Ext w1, w' = y.w) 9 (by decide +kernel) ?_
  generalize hwd : World.drew w1 = wd
  have hbd : Below w1.heap.size w1 wd := by rw [← hwd]; exact (Below.refl _ _).drew
  clear hwd
  (refine Th.wpAnyK_takeY (i := 0) (v := ?_) rfl (by decide +kernel) (by decide +kernel) (by decide +kernel) (by decide) (fun _ _ _ h => h) (Or.inl ⟨by rfl, ?_⟩) (.inr ⟨⟨wd, hbd⟩, rfl⟩) ?_; rotate_left; (intro w; go_simp); (try with_reducible rfl))
  (try simp only [List.getElem_toArray, List.getElem_cons_succ, List.getElem_cons_zero, Act.put, List.setIfInBounds_toArray, List.set_cons_succ, List.set_cons_zero])
  (refine Th.wpAnyK_takeY (i := 1) (v := ?_) rfl (by decide +kernel) (by decide +kernel) (by decide +kernel) (by decide) (fun _ _ _ h => h) (Or.inl ⟨by rfl, ?_⟩) (.inr ⟨⟨wd, hbd⟩, rfl⟩) ?_; rotate_left; (intro w; go_simp); (try with_reducible rfl))
  (try simp only [List.getElem_toArray, List.getElem_cons_succ, List.getElem_cons_zero, Act.put, List.setIfInBounds_toArray, List.set_cons_succ, List.set_cons_zero])
  (refine Th.wpAnyK_takeY (i := 2) (v := ?_) rfl (by decide +kernel) (by decide +kernel) (by decide +kernel) (by decide) (fun _ _ _ h => h) (Or.inl ⟨by rfl, ?_⟩) (.inr ⟨⟨wd, hbd⟩, rfl⟩) ?_; rotate_left; (intro w; go_simp); (try with_reducible rfl))
  (try simp only [List.getElem_toArray, List.getElem_cons_succ, List.getElem_cons_zero, Act.put, List.setIfInBounds_toArray, List.set_cons_succ, List.set_cons_zero])
  (refine Th.wpAnyK_takeY (i := 3) (v := ?_) rfl (by decide +kernel) (by decide +kernel) (by decide +kernel) (by decide) (fun _ _ _ h => h) (Or.inl ⟨by rfl, ?_⟩) (.inr ⟨⟨wd, hbd⟩, rfl⟩) ?_; rotate_left; (intro w; go_simp); (try with_reducible rfl))
  (try simp only [List.getElem_toArray, List.getElem_cons_succ, List.getElem_cons_zero, Act.put, List.setIfInBounds_toArray, List.set_cons_succ, List.set_cons_zero])
  (refine Th.wpAnyK_take (i := 4) (v := .pointer (some ⟨pl, 0, none⟩)) [8, 9] rfl (by decide +kernel) (by decide +kernel) (by decide +kernel) (by decide +kernel) (fun _ _ _ h => h) (Th.yields_loadK rfl 55 (.tmp 23) rfl rfl (by rintro _ ⟨y, rfl⟩; exact HLP.out y)) ⟨⟨wd, hbd⟩, rfl⟩ ?_)
  (try simp only [List.getElem_toArray, List.getElem_cons_succ, List.getElem_cons_zero, Act.put, List.setIfInBounds_toArray, List.set_cons_succ, List.set_cons_zero])
  (refine Th.wpAnyK_takeY (i := 5) (v := ?_) rfl (by decide +kernel) (by decide +kernel) (by decide +kernel) (by decide) (fun _ _ _ h => h) (Or.inl ⟨by rfl, ?_⟩) (.inr ⟨⟨wd, hbd⟩, rfl⟩) ?_; rotate_left; (intro w; go_simp); (try with_reducible rfl))
  (try simp only [List.getElem_toArray, List.getElem_cons_succ, List.getElem_cons_zero, Act.put, List.setIfInBounds_toArray, List.set_cons_succ, List.set_cons_zero])
  (refine Th.wpAnyK_takeY (i := 7) (v := ?_) rfl (by decide +kernel) (by decide +kernel) (by decide +kernel) (by decide) (fun _ _ _ h => h) (Or.inl ⟨by rfl, ?_⟩) (.inr ⟨⟨wd, hbd⟩, rfl⟩) ?_; rotate_left; (intro w; go_simp); (try with_reducible rfl))
  (try simp only [List.getElem_toArray, List.getElem_cons_succ, List.getElem_cons_zero, Act.put, List.setIfInBounds_toArray, List.set_cons_succ, List.set_cons_zero])
  (refine Th.wpAnyK_ready (rs := [6]) (by decide +kernel) (by simp) ?_; refine (Th.AllReadyK.cons rfl (fun K hK => ?_) Th.AllReadyK.nil))
  refine step_of rfl ?_
  go_step
  refine (eslot_calls e _ e0 e1).mono ?_; rintro _ w6 ⟨rfl, hw6⟩
  rw [← hw6]
  refine hK _ _ (.inr ⟨⟨wd, hbd⟩, rfl⟩) ?_
  clear hK K hw6
  (try simp only [List.getElem_toArray, List.getElem_cons_succ, List.getElem_cons_zero, Act.put, List.setIfInBounds_toArray, List.set_cons_succ, List.set_cons_zero])
  (refine Th.wpAnyK_ready (rs := [8]) (by decide +kernel) (by simp) ?_; refine (Th.AllReadyK.cons rfl (fun K hK => ?_) Th.AllReadyK.nil))
  refine step_of rfl ?_
  go_step
  have hbb := HH.out.bd
  refine (pnode_calls t s pl (e % 4096) fi _ (HH1.out.below hbd).p0 (HH1.out.below hbd).p1 (by omega) (by omega) (by omega) (by omega)).mono ?_; rintro _ w2 ⟨rfl, hb2⟩
  have hb2 := below_on hbd hb2
  refine hK _ _ (.inr ⟨⟨w2, hb2⟩, rfl⟩) ?_
  clear hK K hbb
  (try simp only [List.getElem_toArray, List.getElem_cons_succ, List.getElem_cons_zero, Act.put, List.setIfInBounds_toArray, List.set_cons_succ, List.set_cons_zero])
  (refine Th.wpAnyK_ready (rs := [9]) (by decide +kernel) (by simp) ?_; refine (Th.AllReadyK.cons rfl (fun K hK => ?_) Th.AllReadyK.nil))
  refine step_of rfl ?_
  have hb3 := below_on HB1.out hb2
  go_step
  refine (rclos (HH.out.below hb3) (Ext.use (Ext.cells HB.out) hb3) (Th.up hb3 HR.out) n1 n2 a0 a1 (nodeI t s (e % 4096) fi)).mono ?_; rintro _ w3 ⟨rfl, hm, hc, hk⟩
  have HF := Lib.hid (And.intro hm (And.intro hc ((Th.KS.of_below hb3).trans hk)))
  refine hK _ _ (.inl rfl) ?_
  clear hK K hm hc hk
  refine Th.wpAnyK_done (by decide +kernel) ?_ _
  go_wp2_with fail
  refine bodyPost_end (v := .tuple #[]) (by simp [results, Tryz.results65, go_sem]) rfl ?_
  rw [HQ.out]
  exact ⟨rfl, HF.out⟩
set_option maxRecDepth 8000 in
set_option maxHeartbeats 1000000 in
theorem rread {w : World} {B q pl mb mg C gq gg gm : Nat} {fv : Value} {tq : Nat → Nat} {t s : Nat} {Kc : Int} {f : Nat → Int} {acc : Int} {flt : Bool} {H : Nat → Bool} {G : Nat → Int} {sl steps : Int} {odd : Bool} (h : MI w B q pl mb mg C gq gg gm fv tq t s Kc f acc flt H G sl steps odd) (e fi : Int) (e0 : 0 ≤ e) (e1 : e < 18446744073709551616) (hl : Gd.leadsB s H G e = true) (a0 : 0 ≤ acc) (a1 : acc < 1000000) :
    Calls Tryz.prog 59 #[.pointer (some ⟨q, 0, none⟩), .int .u64 e, .int .i64 fi] w fun x w' => x = .returned (.int .u64 (Mm.ldI (3 + 8 * t + 7 * s) f (nodeI t s (e % 4096) fi))) ∧ MI w' B q pl mb mg C gq gg gm fv tq t s Kc f (acc + 1) (flt || !Mm.okA (3 + 8 * t + 7 * s) (nodeI t s (e % 4096) fi)) H G sl steps odd ∧ Mm.Only mb mg w w' := by
  refine Calls.veil fun Q HQ => ?_
  have HH := Lib.hid h; have HL := Lib.hid hl
  clear h hl
  go_enter Tryz.func59, Tryz.ntmps59
  go_upto_region 2 with fail
  generalize hV : World.alloc _ _ = U
  obtain ⟨u0, u1, hbu⟩ := heap2c hV
  obtain ⟨rx, hrx⟩ : ∃ rx, rx = w.heap.size + 1 := ⟨_, rfl⟩
  obtain ⟨bx, hbx⟩ : ∃ bx, bx = w.heap.size := ⟨_, rfl⟩
  rw [← hrx] at u1 ⊢
  rw [← hbx] at u0 ⊢
  have b0 := Th.newcell u0 0 _ rfl
  have HU := Lib.hid (HH.out.below hbu); have HBU := Lib.hid hbu; have HR := Lib.hid u1; have HB0 := Lib.hid b0
  have HN := Lib.hid (show rx ≠ mb ∧ rx ≠ mg ∧ rx ≠ q ∧ rx ≠ pl from by have h1 := HH.out.mem.bl; have h2 := HH.out.mem.gl; have h3 := Th.blk_lt HH.out.blk; have h4 := Th.blk_lt HH.out.pln; omega)
  have HRX := Lib.hid (show w.heap.size ≤ rx from by omega)
  clear hV u0 u1 hbu hrx hbx
  go_wp2_with fail
  refine (creach HU.out e fi e0 e1 HL.out a0 a1 HB0.out HR.out HN.out.1 HN.out.2.1 HN.out.2.2.1 HN.out.2.2.2).mono ?_; rintro _ w2 ⟨rfl, hm, hc, hk⟩
  have HM := Lib.hid hm; have HC := Lib.hid hc; have HK2 := Lib.hid hk
  have r0 := hc
  clear hm hk b0 hc
  go_wp2_with fail
  (try go_ret)
  rw [HQ.out]
  have ho : Mm.Only mb mg w w2 := ⟨HK2.out.os.trans HBU.out.os, HK2.out.tape.trans HBU.out.tape, HK2.out.output.trans HBU.out.output, Nat.le_trans HBU.out.size HK2.out.size, fun k hk h1 h2 => (HK2.out.block k (Nat.lt_of_lt_of_le hk HBU.out.size) (by rintro (e | e | e); exact h1 e; exact h2 e; have := HRX.out; omega)).trans (HBU.out.block k hk)⟩
  exact ⟨rfl, HH.out.only ho HM.out, ho⟩
end Go.Proofs.YtmokniemmiomfaaGreat
