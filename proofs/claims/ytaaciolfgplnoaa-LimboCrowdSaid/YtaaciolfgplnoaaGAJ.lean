/- GAJ: several texts in one. -/
import Derived.Test.YtaaciolfgplnoaaGAI
import Derived.Test.YtaaciolfgplnoaaGAD
import Derived.StillTailTactics
/- Layer 16: Read. -/
namespace Go.Proofs.Ytaaciolfgplnoaa
open Go.RowKit WordM EdgeM
set_option linter.unusedVariables false
set_option linter.unusedSimpArgs false
theorem MI.only {w w' : World} {B q pl mb mg C gq gg gm : Nat} {fv : Value} {tq : Nat → Nat} {t s : Nat} {K : Int} {f f' : Nat → Int} {acc acc' : Int} {flt flt' : Bool} {H : Nat → Bool} {G : Nat → Int} {sl steps : Int} {odd : Bool} (h : MI w B q pl mb mg C gq gg gm fv tq t s K f acc flt H G sl steps odd)
    (k : Mm.Only mb mg w w') (hm : Mm.MemAt w' mb mg (3 + 8 * t + 7 * s) C f' acc' flt') : MI w' B q pl mb mg C gq gg gm fv tq t s K f' acc' flt' H G sl steps odd := by
  have o2 := h.o2; have o3 := h.o3; have o4 := h.o4; have o5 := h.o5
  have keep : ∀ b o, w.heap[b]? = some o → b ≠ mb → b ≠ mg → w'.heap[b]? = some o := fun b o hb h1 h2 => (k.block b (Th.blk_lt hb) h1 h2).trans hb
  obtain ⟨D, ⟨es, clock, he, hr⟩, hD, hz⟩ := h.grd.held
  refine ⟨keep _ _ h.blk (by omega) (by omega), keep _ _ h.pln (by omega) (by omega), hm,
    ⟨h.grd.obj.of (k.block _ h.grd.obj.lt (by omega) (by omega)), h.grd.gens.of (k.block _ h.grd.gens.lt (by omega) (by omega)), ⟨D, ⟨es, clock, keep _ _ he (by omega) (by omega), hr⟩, hD, hz⟩, h.grd.g1, h.grd.g2, h.grd.g3, h.grd.n0, h.grd.n1, h.grd.gb, h.grd.sb⟩,
    h.ths.of fun b hb => k.block b (h.ths.blk hb).2.1 (by have := (h.ths.blk hb).1; omega) (by have := (h.ths.blk hb).1; omega),
    fun i hi => ⟨(h.thr i hi).1, keep _ _ (h.thr i hi).2 (by have := (h.thr i hi).1; omega) (by have := (h.thr i hi).1; omega)⟩, h.o1, h.o2, h.o3, h.o4, h.o5, h.may⟩
set_option maxRecDepth 8000 in
set_option maxHeartbeats 1000000 in
theorem rclos {w : World} {B q pl mb mg C gq gg gm : Nat} {fv : Value} {tq : Nat → Nat} {t s : Nat} {Kc : Int} {f : Nat → Int} {acc : Int} {flt : Bool} {H : Nat → Bool} {G : Nat → Int} {sl steps : Int} {odd : Bool} (h : MI w B q pl mb mg C gq gg gm fv tq t s Kc f acc flt H G sl steps odd)
    {bx rx : Nat} {T : TypeId} (hb : w.cell? ⟨bx, 0, none⟩ = some (.pointer (some ⟨q, 0, none⟩))) (hr : w.heap[rx]? = some (.cells #[.int .u64 0] T (0, 0))) (n1 : rx ≠ mb) (n2 : rx ≠ mg) (a0 : 0 ≤ acc) (a1 : acc < 1000000) (p : Int) :
    Calls Try.prog 82 #[.int .i64 p, .pointer (some ⟨bx, 0, none⟩), .pointer (some ⟨rx, 0, none⟩)] w fun e w' => e = .returned (.tuple #[]) ∧ Mm.MemAt w' mb mg (3 + 8 * t + 7 * s) C f (acc + 1) (flt || !Mm.okA (3 + 8 * t + 7 * s) p) ∧ w'.cell? ⟨rx, 0, none⟩ = some (.int .u64 (Mm.ldI (3 + 8 * t + 7 * s) f p)) ∧ Th.KS (fun j => j = mb ∨ j = mg ∨ j = rx) w w' := by
  refine Calls.veil fun Q HQ => ?_
  have HL := Lib.hid (Mm.mload _ _ _ _ _ _ p _ _ h.mem a0 (by omega))
  have c1 := h.c1
  have HR := Lib.hid hr
  clear h hr
  go_enter Try.func82, Try.ntmps82
  go_wp2_with fail
  refine HL.out.mono ?_; rintro _ w1 ⟨rfl, hm, ho⟩
  have hr1 : w1.heap[rx]? = some (.cells #[.int .u64 0] T (0, 0)) := (ho.block rx (Th.blk_lt HR.out) n1 n2).trans HR.out
  have r0 := Th.newcell hr1 0 _ rfl
  have rf : ∀ i, w1.frozen? ⟨rx, i, none⟩ = false := fun i => frozen_of_row _ _ _ _ _ hr1
  have HM := Lib.hid hm; have HO := Lib.hid ho; have HR1 := Lib.hid hr1
  clear hm ho hr1 hb c1
  go_wp2_with fail
  refine bodyPost_end (v := .tuple #[]) (by simp [results, Try.results82, go_sem]) rfl ?_
  rw [HQ.out]
  have k := Th.KS.set w1 rx 0 (.int .u64 (Mm.ldI (3 + 8 * t + 7 * s) f p))
  refine ⟨rfl, HM.out.keep k.size (k.block mb HM.out.bl (Ne.symm n1)) (k.block mg HM.out.gl (Ne.symm n2)), Mm.scS r0, (⟨HO.out.os, HO.out.tape, HO.out.output, HO.out.size, fun j hj hx => HO.out.block j hj (fun e => hx (.inl e)) (fun e => hx (.inr (.inl e)))⟩ : Th.KS (fun j => j = mb ∨ j = mg ∨ j = rx) w w1).trans (k.mono fun j e => .inr (.inr e))⟩
/-- A world in which three blocks may have changed. -/
structure KX (W : World) (a b c : Nat) where
  w : World
  h : Th.KS (fun j => j = a ∨ j = b ∨ j = c) W w
theorem KX.cells {W : World} {a b c i o : Nat} {v : Value} (h : W.cell? ⟨i, o, none⟩ = some v) (h1 : i ≠ a) (h2 : i ≠ b) (h3 : i ≠ c) : ∀ y : KX W a b c, y.w.cell? ⟨i, o, none⟩ = some v := fun y =>
  (World.cell?_of_block (w := W) (a := ⟨i, o, none⟩) (y.h.block i (World.block_lt_of_cell? W ⟨i, o, none⟩ h) (by rintro (e | e | e) <;> contradiction))).trans h
set_option maxRecDepth 8000 in
set_option maxHeartbeats 1000000 in
theorem creach {w : World} {B q pl mb mg C gq gg gm : Nat} {fv : Value} {tq : Nat → Nat} {t s : Nat} {Kc : Int} {f : Nat → Int} {acc : Int} {flt : Bool} {H : Nat → Bool} {G : Nat → Int} {sl steps : Int} {odd : Bool} (h : MI w B q pl mb mg C gq gg gm fv tq t s Kc f acc flt H G sl steps odd) (e fi : Int) (e0 : 0 ≤ e) (e1 : e < 18446744073709551616) (hl : Gd.leadsB s H G e = true) (a0 : 0 ≤ acc) (a1 : acc < 1000000)
    {bx rx : Nat} {T : TypeId} (hb : w.cell? ⟨bx, 0, none⟩ = some (.pointer (some ⟨q, 0, none⟩))) (hr : w.heap[rx]? = some (.cells #[.int .u64 0] T (0, 0))) (n1 : rx ≠ mb) (n2 : rx ≠ mg) (n3 : rx ≠ q) (n4 : rx ≠ pl) :
    Calls Try.prog 80 #[.pointer (some ⟨q, 0, none⟩), .int .u64 e, .int .i64 fi, .func (Fn.func 82) #[] #[.pointer (some ⟨bx, 0, none⟩), .pointer (some ⟨rx, 0, none⟩)]] w fun x w' => x = .returned (.tuple #[]) ∧ Mm.MemAt w' mb mg (3 + 8 * t + 7 * s) C f (acc + 1) (flt || !Mm.okA (3 + 8 * t + 7 * s) (nodeI t s (e % 4096) fi)) ∧ w'.cell? ⟨rx, 0, none⟩ = some (.int .u64 (Mm.ldI (3 + 8 * t + 7 * s) f (nodeI t s (e % 4096) fi))) ∧ Th.KS (fun j => j = mb ∨ j = mg ∨ j = rx) w w' := by
  refine Calls.veil fun Q HQ => ?_
  have HH := Lib.hid h; have HB := Lib.hid hb; have HR := Lib.hid hr; have HL := Lib.hid hl
  have c2 := h.c2
  have o2 := h.o2; have o3 := h.o3; have o4 := h.o4; have o5 := h.o5
  have HO := Lib.hid (And.intro o2 (And.intro o3 (And.intro o4 o5)))
  clear h hb hr hl o2 o3 o4 o5
  go_enter Try.func80, Try.ntmps80
  go_wp2_with fail
  refine (Gd.gleads HH.out.grd e e0 e1).mono ?_; rintro _ w1 ⟨rfl, hb1⟩
  rw [HL.out]
  have HH1 := Lib.hid (HH.out.below hb1); have HB1 := Lib.hid hb1
  clear hb1 c2
  go_upto_region 3 with fail
  have HLP := Lib.hid (show ∀ y : Ext w1, (Instr.loadAt 75 (.pointer (some ⟨q, 0, none⟩))).run Try.prog y.w = .ok (.pointer (some ⟨pl, 0, none⟩)) y.w from fun y => by have hc := (HH1.out.below y.h).c0; go_simp)
  refine Th.wp_region_K (fun w' => ∃ y : Ext w1, w' = y.w) 9 (by decide +kernel) ?_
  generalize hwd : World.drew w1 = wd
  have hbd : Below w1.heap.size w1 wd := by rw [← hwd]; exact (Below.refl _ _).drew
  clear hwd
  (refine Th.wpAnyK_takeY (i := 0) (v := ?_) rfl (by decide +kernel) (by decide +kernel) (by decide +kernel) (by decide) (fun _ _ _ h => h) (Or.inl ⟨by rfl, ?_⟩) (.inr ⟨⟨wd, hbd⟩, rfl⟩) ?_; rotate_left; (intro w; go_simp); (try with_reducible rfl))
  (try simp only [List.getElem_toArray, List.getElem_cons_succ, List.getElem_cons_zero, Act.put, List.setIfInBounds_toArray, List.set_cons_succ, List.set_cons_zero])
  (refine Th.wpAnyK_takeY (i := 1) (v := ?_) rfl (by decide +kernel) (by decide +kernel) (by decide +kernel) (by decide) (fun _ _ _ h => h) (Or.inl ⟨by rfl, ?_⟩) (.inr ⟨⟨wd, hbd⟩, rfl⟩) ?_; rotate_left; (intro w; go_simp); (try with_reducible rfl))
  (try simp only [List.getElem_toArray, List.getElem_cons_succ, List.getElem_cons_zero, Act.put, List.setIfInBounds_toArray, List.set_cons_succ, List.set_cons_zero])
  (refine Th.wpAnyK_takeY (i := 2) (v := ?_) rfl (by decide +kernel) (by decide +kernel) (by decide +kernel) (by decide) (fun _ _ _ h => h) (Or.inl ⟨by rfl, ?_⟩) (.inr ⟨⟨wd, hbd⟩, rfl⟩) ?_; rotate_left; (intro w; go_simp); (try with_reducible rfl))
  (try simp only [List.getElem_toArray, List.getElem_cons_succ, List.getElem_cons_zero, Act.put, List.setIfInBounds_toArray, List.set_cons_succ, List.set_cons_zero])
  (refine Th.wpAnyK_takeY (i := 3) (v := ?_) rfl (by decide +kernel) (by decide +kernel) (by decide +kernel) (by decide) (fun _ _ _ h => h) (Or.inl ⟨by rfl, ?_⟩) (.inr ⟨⟨wd, hbd⟩, rfl⟩) ?_; rotate_left; (intro w; go_simp); (try with_reducible rfl))
  (try simp only [List.getElem_toArray, List.getElem_cons_succ, List.getElem_cons_zero, Act.put, List.setIfInBounds_toArray, List.set_cons_succ, List.set_cons_zero])
  (refine Th.wpAnyK_take (i := 4) (v := .pointer (some ⟨pl, 0, none⟩)) [8, 9] rfl (by decide +kernel) (by decide +kernel) (by decide +kernel) (by decide +kernel) (fun _ _ _ h => h) (Th.yields_loadK rfl 75 (.tmp 23) rfl rfl (by rintro _ ⟨y, rfl⟩; exact HLP.out y)) ⟨⟨wd, hbd⟩, rfl⟩ ?_)
  (try simp only [List.getElem_toArray, List.getElem_cons_succ, List.getElem_cons_zero, Act.put, List.setIfInBounds_toArray, List.set_cons_succ, List.set_cons_zero])
  (refine Th.wpAnyK_takeY (i := 5) (v := ?_) rfl (by decide +kernel) (by decide +kernel) (by decide +kernel) (by decide) (fun _ _ _ h => h) (Or.inl ⟨by rfl, ?_⟩) (.inr ⟨⟨wd, hbd⟩, rfl⟩) ?_; rotate_left; (intro w; go_simp); (try with_reducible rfl))
  (try simp only [List.getElem_toArray, List.getElem_cons_succ, List.getElem_cons_zero, Act.put, List.setIfInBounds_toArray, List.set_cons_succ, List.set_cons_zero])
  (refine Th.wpAnyK_takeY (i := 7) (v := ?_) rfl (by decide +kernel) (by decide +kernel) (by decide +kernel) (by decide) (fun _ _ _ h => h) (Or.inl ⟨by rfl, ?_⟩) (.inr ⟨⟨wd, hbd⟩, rfl⟩) ?_; rotate_left; (intro w; go_simp); (try with_reducible rfl))
  (try simp only [List.getElem_toArray, List.getElem_cons_succ, List.getElem_cons_zero, Act.put, List.setIfInBounds_toArray, List.set_cons_succ, List.set_cons_zero])
  (refine Th.wpAnyK_ready (rs := [6]) (by decide +kernel) (by simp) ?_; refine (Th.AllReadyK.cons rfl (fun K hK => ?_) Th.AllReadyK.nil))
  refine step_of rfl ?_
  go_step
  refine (eslot_calls e _ e0 e1).mono ?_; rintro _ w6 ⟨rfl, hw6⟩
  rw [← hw6]
  refine hK _ _ (.inr ⟨⟨wd, hbd⟩, rfl⟩) ?_
  clear hK K hw6
  (try simp only [List.getElem_toArray, List.getElem_cons_succ, List.getElem_cons_zero, Act.put, List.setIfInBounds_toArray, List.set_cons_succ, List.set_cons_zero])
  (refine Th.wpAnyK_ready (rs := [8]) (by decide +kernel) (by simp) ?_; refine (Th.AllReadyK.cons rfl (fun K hK => ?_) Th.AllReadyK.nil))
  refine step_of rfl ?_
  go_step
  have hbb := HH.out.bd
  refine (pnode_calls t s pl (e % 4096) fi _ (HH1.out.below hbd).p0 (HH1.out.below hbd).p1 (by omega) (by omega) (by omega) (by omega)).mono ?_; rintro _ w2 ⟨rfl, hb2⟩
  have hb2 := below_on hbd hb2
  refine hK _ _ (.inr ⟨⟨w2, hb2⟩, rfl⟩) ?_
  clear hK K hbb
  (try simp only [List.getElem_toArray, List.getElem_cons_succ, List.getElem_cons_zero, Act.put, List.setIfInBounds_toArray, List.set_cons_succ, List.set_cons_zero])
  (refine Th.wpAnyK_ready (rs := [9]) (by decide +kernel) (by simp) ?_; refine (Th.AllReadyK.cons rfl (fun K hK => ?_) Th.AllReadyK.nil))
  refine step_of rfl ?_
  have hb3 := below_on HB1.out hb2
  go_step
  refine (rclos (HH.out.below hb3) (Ext.use (Ext.cells HB.out) hb3) (Th.up hb3 HR.out) n1 n2 a0 a1 (nodeI t s (e % 4096) fi)).mono ?_; rintro _ w3 ⟨rfl, hm, hc, hk⟩
  have HF := Lib.hid (And.intro hm (And.intro hc ((Th.KS.of_below hb3).trans hk)))
  refine hK _ _ (.inl rfl) ?_
  clear hK K hm hc hk
  refine Th.wpAnyK_done (by decide +kernel) ?_ _
  go_wp2_with fail
  refine bodyPost_end (v := .tuple #[]) (by simp [results, Try.results80, go_sem]) rfl ?_
  rw [HQ.out]
  exact ⟨rfl, HF.out⟩
set_option maxRecDepth 8000 in
set_option maxHeartbeats 1000000 in
theorem rread {w : World} {B q pl mb mg C gq gg gm : Nat} {fv : Value} {tq : Nat → Nat} {t s : Nat} {Kc : Int} {f : Nat → Int} {acc : Int} {flt : Bool} {H : Nat → Bool} {G : Nat → Int} {sl steps : Int} {odd : Bool} (h : MI w B q pl mb mg C gq gg gm fv tq t s Kc f acc flt H G sl steps odd) (e fi : Int) (e0 : 0 ≤ e) (e1 : e < 18446744073709551616) (hl : Gd.leadsB s H G e = true) (a0 : 0 ≤ acc) (a1 : acc < 1000000) :
    Calls Try.prog 63 #[.pointer (some ⟨q, 0, none⟩), .int .u64 e, .int .i64 fi] w fun x w' => x = .returned (.int .u64 (Mm.ldI (3 + 8 * t + 7 * s) f (nodeI t s (e % 4096) fi))) ∧ MI w' B q pl mb mg C gq gg gm fv tq t s Kc f (acc + 1) (flt || !Mm.okA (3 + 8 * t + 7 * s) (nodeI t s (e % 4096) fi)) H G sl steps odd ∧ Mm.Only mb mg w w' := by
  refine Calls.veil fun Q HQ => ?_
  have HH := Lib.hid h; have HL := Lib.hid hl
  clear h hl
  go_enter Try.func63, Try.ntmps63
  go_upto_region 2 with fail
  generalize hV : World.alloc _ _ = U
  obtain ⟨u0, u1, hbu⟩ := heap2c hV
  obtain ⟨rx, hrx⟩ : ∃ rx, rx = w.heap.size + 1 := ⟨_, rfl⟩
  obtain ⟨bx, hbx⟩ : ∃ bx, bx = w.heap.size := ⟨_, rfl⟩
  rw [← hrx] at u1 ⊢
  rw [← hbx] at u0 ⊢
  have b0 := Th.newcell u0 0 _ rfl
  have HU := Lib.hid (HH.out.below hbu); have HBU := Lib.hid hbu; have HR := Lib.hid u1; have HB0 := Lib.hid b0
  have HN := Lib.hid (show rx ≠ mb ∧ rx ≠ mg ∧ rx ≠ q ∧ rx ≠ pl from by have h1 := HH.out.mem.bl; have h2 := HH.out.mem.gl; have h3 := Th.blk_lt HH.out.blk; have h4 := Th.blk_lt HH.out.pln; omega)
  have HRX := Lib.hid (show w.heap.size ≤ rx from by omega)
  clear hV u0 u1 hbu hrx hbx
  go_wp2_with fail
  refine (creach HU.out e fi e0 e1 HL.out a0 a1 HB0.out HR.out HN.out.1 HN.out.2.1 HN.out.2.2.1 HN.out.2.2.2).mono ?_; rintro _ w2 ⟨rfl, hm, hc, hk⟩
  have HM := Lib.hid hm; have HC := Lib.hid hc; have HK2 := Lib.hid hk
  have r0 := hc
  clear hm hk b0 hc
  go_wp2_with fail
  (try go_ret)
  rw [HQ.out]
  have ho : Mm.Only mb mg w w2 := ⟨HK2.out.os.trans HBU.out.os, HK2.out.tape.trans HBU.out.tape, HK2.out.output.trans HBU.out.output, Nat.le_trans HBU.out.size HK2.out.size, fun k hk h1 h2 => (HK2.out.block k (Nat.lt_of_lt_of_le hk HBU.out.size) (by rintro (e | e | e); exact h1 e; exact h2 e; have := HRX.out; omega)).trans (HBU.out.block k hk)⟩
  exact ⟨rfl, HH.out.only ho HM.out, ho⟩
end Go.Proofs.Ytaaciolfgplnoaa

/- Layer 16: lives, and the walk of CoreLays. -/
namespace Go.Proofs.Ytaaciolfgplnoaa
open Go.RowKit WordM EdgeM
set_option linter.unusedVariables false
set_option linter.unusedSimpArgs false
end Go.Proofs.Ytaaciolfgplnoaa

/- Layer 16: what a machine is asked, whatever its threads are within; calls of its threads. -/
namespace Go.Proofs.Ytaaciolfgplnoaa
open Go.RowKit WordM EdgeM
set_option linter.unusedVariables false
set_option linter.unusedSimpArgs false
section
variable {w : World} {B q pl mb mg C gq gg gm : Nat} {fv : Value} {tq : Nat → Nat} {t s : Nat} {K : Int} {f : Nat → Int} {acc : Int} {flt : Bool} {H : Nat → Bool} {G : Nat → Int} {sl steps : Int} {odd : Bool}
theorem cMem (h : MC w B q pl mb mg C gq gg gm fv tq t s K f acc flt H G sl steps odd) : Calls Try.prog 8 #[.pointer (some ⟨q, 0, none⟩)] w fun e w' => e = .returned (.pointer (some ⟨mb, 0, none⟩)) ∧ w = w' := by
  have c := h.c1
  clear h
  go_enter Try.func8, Try.ntmps8
  go_wp2_with fail
  go_ret
  exact ⟨rfl, rfl⟩
theorem cThreads (h : MC w B q pl mb mg C gq gg gm fv tq t s K f acc flt H G sl steps odd) : Calls Try.prog 30 #[.pointer (some ⟨q, 0, none⟩)] w fun e w' => e = .returned (.int .i64 t) ∧ w = w' := by
  have c := h.c3
  obtain ⟨a, c2, rfl, _, _⟩ := h.ths.slice
  clear h
  go_enter Try.func30, Try.ntmps30
  go_wp2_with fail
  go_ret
  exact ⟨rfl, rfl⟩
theorem cThread_no (h : MC w B q pl mb mg C gq gg gm fv tq t s K f acc flt H G sl steps odd) (i : Int) (hi : ¬ (0 ≤ i ∧ i < t)) : Calls Try.prog 7 #[.pointer (some ⟨q, 0, none⟩), .int .i64 i] w fun e w' => e = .returned (.pointer none) ∧ Below w.heap.size w w' := by
  refine Calls.veil fun Q HQ => ?_
  have D := Lib.hid (cThreads h)
  clear h
  rcases (by omega : i < 0 ∨ (0 ≤ i ∧ (t : Int) ≤ i)) with h1 | ⟨h0, h1⟩
  · go_enter Try.func7, Try.ntmps7
    go_wp2_with fail
    (try go_ret)
    rw [HQ.out]
    exact ⟨rfl, Below.refl _ _⟩
  · have h2 : ¬ i < 0 := by omega
    go_enter Try.func7, Try.ntmps7
    go_wp2_with fail
    refine D.out.mono ?_; rintro _ _ ⟨rfl, rfl⟩
    go_wp2_with fail
    (try go_ret)
    rw [HQ.out]
    exact ⟨rfl, Below.refl _ _⟩
theorem cThread_yes (h : MC w B q pl mb mg C gq gg gm fv tq t s K f acc flt H G sl steps odd) (i : Nat) (hi : i < t) : Calls Try.prog 7 #[.pointer (some ⟨q, 0, none⟩), .int .i64 i] w fun e w' => e = .returned (.pointer (some ⟨tq i, 0, none⟩)) ∧ Below w.heap.size w w' := by
  refine Calls.veil fun Q HQ => ?_
  have D := Lib.hid (cThreads h)
  have c3 := h.c3
  have hb := h.bd
  rcases h.ths.parts with ⟨_, h0⟩ | ⟨g, c, hfe, h1, h2, _, _, _, _, _, _, h3⟩
  · omega
  rw [hfe] at c3
  have cg := h3 i _ hi (Th.ptrs_get hi)
  have h5 : ¬ (t : Int) ≤ i := by omega
  have h6 : (i : Int) < t := by omega
  clear h h3 hfe
  go_enter Try.func7, Try.ntmps7
  go_wp2_with fail
  refine D.out.mono ?_; rintro _ _ ⟨rfl, rfl⟩
  go_wp2_with fail
  (try go_ret)
  rw [HQ.out]
  exact ⟨rfl, Below.refl _ _⟩
end
theorem cFault {w : World} {B q pl mb mg C gq gg gm : Nat} {fv : Value} {tq : Nat → Nat} {t s : Nat} {Kc : Int} {f : Nat → Int} {acc : Int} {flt : Bool} {H : Nat → Bool} {G : Nat → Int} {steps : Int} {odd : Bool} (h : MC w B q pl mb mg C gq gg gm fv tq t s Kc f acc flt H G 0 steps odd) : Calls Try.prog 17 #[.pointer (some ⟨q, 0, none⟩)] w fun e w' => e = .returned (.bool (odd || flt)) ∧ Below w.heap.size w w' := by
  refine Calls.veil fun Q HQ => ?_
  have HM := Lib.hid (Mm.mfault _ _ _ _ _ _ _ _ h.mem); have HS := Lib.hid (Gd.gslips h.grd)
  have c1 := h.c1; have c2 := h.c2; have c5 := h.c5
  clear h
  cases odd with
  | true =>
    go_enter Try.func17, Try.ntmps17
    go_wp2_with fail
    (try go_ret)
    rw [HQ.out]
    exact ⟨rfl, Below.refl _ _⟩
  | false =>
    cases flt with
    | true =>
      go_enter Try.func17, Try.ntmps17
      go_wp2_with fail
      refine HM.out.mono ?_; rintro _ _ ⟨rfl, rfl⟩
      go_wp2_with fail
      (try go_ret)
      rw [HQ.out]
      exact ⟨rfl, Below.refl _ _⟩
    | false =>
      go_enter Try.func17, Try.ntmps17
      go_wp2_with fail
      refine HM.out.mono ?_; rintro _ _ ⟨rfl, rfl⟩
      go_wp2_with fail
      refine HS.out.mono ?_; rintro _ _ ⟨rfl, rfl⟩
      go_wp2_with fail
      (try go_ret)
      rw [HQ.out]
      exact ⟨rfl, Below.refl _ _⟩
/-! ### Calls of a thread -/
/-! ### Another block is changed -/
end Go.Proofs.Ytaaciolfgplnoaa

/- Layer 15: the reference's thread. -/
namespace Go.Proofs.Ytaaciolfgplnoaa.Th
open Go.RowKit
set_option linter.unusedVariables false
set_option linter.unusedSimpArgs false
/-! ### Rows of frames, of words -/
def SR (w : World) (v : Value) (n : Nat) (f : Nat → Int) : Prop := (v = .slice none 0 0 ∧ n = 0) ∨ ∃ g c, v = .slice (some ⟨g, 0, none⟩) n c ∧ n ≤ c ∧ c ≤ 9223372036854775807 ∧ RowF 22 w g n (fun i => .int .u64 (f i))
theorem SR.slice {w : World} {v : Value} {n : Nat} {f : Nat → Int} (h : SR w v n f) : ∃ p c, v = .slice p n c ∧ n ≤ c ∧ c ≤ 9223372036854775807 := by
  rcases h with ⟨rfl, rfl⟩ | ⟨g, c, rfl, h1, h2, _⟩
  · exact ⟨none, 0, rfl, Nat.le_refl _, by decide⟩
  · exact ⟨_, _, rfl, h1, h2⟩
theorem RowF.blk {T : TypeId} {w : World} {g m : Nat} {F : Nat → Value} (h : RowF T w g m F) : ∃ cur, w.heap[g]? = some (.cells cur T (0, 0)) := by obtain ⟨cur, h, _⟩ := h; exact ⟨cur, h⟩
theorem ne_ty {w : World} {a b : Nat} {c d : Array Value} {T U : TypeId} (h : w.heap[a]? = some (.cells c T (0, 0))) (k : w.heap[b]? = some (.cells d U (0, 0))) (ht : T ≠ U) : a ≠ b := by
  intro e; subst e; rw [h] at k; simp only [Option.some.injEq, Obj.cells.injEq] at k; exact ht k.2.1
theorem SR.keep {w w' : World} {v : Value} {n : Nat} {f : Nat → Int} (h : SR w v n f) (k : ∀ (b : Nat) (cur : Array Value), v.ownBlock = some b → w.heap[b]? = some (Obj.cells cur 22 (0, 0)) → w'.heap[b]? = w.heap[b]?) : SR w' v n f := by
  rcases h with h | ⟨g, c, rfl, h1, h2, h3⟩
  · exact .inl h
  · obtain ⟨cur, hc⟩ := h3.blk
    exact .inr ⟨g, c, rfl, h1, h2, h3.of (k g cur rfl hc)⟩
end Go.Proofs.Ytaaciolfgplnoaa.Th

/- Layer 15: a call of a thread, by the law's do. -/
namespace Go.Proofs.Ytaaciolfgplnoaa.Th
open Go.RowKit
set_option linter.unusedVariables false
set_option linter.unusedSimpArgs false
/-- What a call of a thread leaves of all else. -/
structure KD (w w' : World) (B : Nat) (sv : Value) : Prop where
  os : w'.os = w.os
  tape : w'.tape = w.tape
  output : w'.output = w.output
  size : w.heap.size ≤ w'.heap.size
  old : ∀ k, k < w.heap.size → k < B → w'.heap[k]? = w.heap[k]?
  ty : ∀ (k : Nat) (cur : Array Value) (t : TypeId), w.heap[k]? = some (.cells cur t (0, 0)) → t ≠ 59 → t ≠ 49 → t ≠ 48 → t ≠ 22 → w'.heap[k]? = w.heap[k]?
  u64 : ∀ (k : Nat) (cur : Array Value), w.heap[k]? = some (.cells cur 22 (0, 0)) → sv.ownBlock ≠ some k → w'.heap[k]? = w.heap[k]?
theorem KD.of_below {w w' : World} {B : Nat} {sv : Value} (h : Below w.heap.size w w') : KD w w' B sv :=
  ⟨h.os, h.tape, h.output, h.size, fun k hk _ => h.block k hk, fun k cur t hk _ _ _ _ => h.block k (blk_lt hk), fun k cur hk _ => h.block k (blk_lt hk)⟩
theorem KD.trans {a b c : World} {B : Nat} {sv sv' : Value} (h : KD a b B sv) (k : KD b c B sv') (hs : ∀ j, sv'.ownBlock = some j → sv.ownBlock = some j ∨ a.heap.size ≤ j) : KD a c B sv :=
  ⟨k.os.trans h.os, k.tape.trans h.tape, k.output.trans h.output, Nat.le_trans h.size k.size, fun j hj hB => (k.old j (Nat.lt_of_lt_of_le hj h.size) hB).trans (h.old j hj hB),
   fun j cur t hj h1 h2 h3 h4 => (k.ty j cur t ((h.ty j cur t hj h1 h2 h3 h4).trans hj) h1 h2 h3 h4).trans (h.ty j cur t hj h1 h2 h3 h4),
   fun j cur hj hx => (k.u64 j cur ((h.u64 j cur hj hx).trans hj) (fun e => by rcases hs j e with h | h; exact hx h; have := blk_lt hj; omega)).trans (h.u64 j cur hj hx)⟩
theorem KD.below {w w' w0 : World} {B : Nat} {sv : Value} (k : KD w w' B sv) (h0 : Below w0.heap.size w0 w) (hB : w0.heap.size ≤ B) : Below w0.heap.size w0 w' :=
  ⟨k.os.trans h0.os, k.tape.trans h0.tape, k.output.trans h0.output, Nat.le_trans h0.size k.size, fun j hj => (k.old j (Nat.lt_of_lt_of_le hj h0.size) (by omega)).trans (h0.block j hj)⟩
/-- A frame is written. -/
theorem ThA.frameSet {w W : World} {B q m : Nat} {T : Td} {p : Nat → Nat} {fv rv sv : Value} (h : ThA w B q T p fv rv sv) (hm : m < T.nf) {f : Fm} (k : KS (fun j => j = p m) w W) (hb : Blk 48 W (p m) 26 (frF f)) :
    ThA W B q { T with fs := upM T.fs m f } p fv rv sv ∧ KD w W B sv := by
  have hp := (h.fb m hm).1
  have ty : ∀ {j : Nat} {cur : Array Value} {t : TypeId}, w.heap[j]? = some (.cells cur t (0, 0)) → t ≠ 48 → W.heap[j]? = w.heap[j]? := fun {j cur t} hj ht => k.block j (blk_lt hj) (ne_ty hj (show w.heap[p m]? = _ from hp) ht)
  refine ⟨⟨h.hq, h.blk.of (ty h.blk (by decide)), h.fo.of fun j hj => ?_, fun i hi => ?_, h.inj, h.rw.np ⟨k.size, fun j cur hj => by rw [ty hj (by decide)]; exact hj⟩, h.so.of fun j hj => ?_, h.s1⟩, ⟨k.os, k.tape, k.output, k.size, fun j hj hB => k.block j hj (by have := (h.fb m hm).2; omega), fun j cur t hj _ _ h3 _ => ty hj h3, fun j cur hj _ => ty hj (by decide)⟩⟩
  · obtain ⟨_, _, cur, hc⟩ := h.fo.blk hj; exact ty hc (by decide)
  · unfold upM
    by_cases e : i = m
    · subst e; simp only [if_true]; exact ⟨hb, (h.fb i hm).2⟩
    · simp only [e, if_false]
      exact ⟨(h.fb i hi).1.of (k.block _ (blk_lt (h.fb i hi).1) fun e2 => e (h.inj i m hi hm e2)), (h.fb i hi).2⟩
  · obtain ⟨_, _, cur, hc⟩ := h.so.blk hj; exact ty hc (by decide)
theorem frF_pc (f : Fm) (fn : Int) (j : Nat) (hj : j < 26) : upF (frF f) 1 (.int .i64 fn) j = frF ⟨f.fn, fn, f.r⟩ j := by
  unfold upF frF
  by_cases e : j = 1
  · subst e; simp
  · rw [if_neg e]
    by_cases e0 : j = 0
    · rw [if_pos e0, if_pos e0]
    · rw [if_neg e0, if_neg e0, if_neg e, if_neg e]
theorem frF_r (f : Fm) (a : Nat) (x : Int) (j : Nat) (hj : j < 26) : upF (frF f) (2 + a) (.int .u64 x) j = frF ⟨f.fn, f.pc, fun i => if i = a then x else f.r i⟩ j := by
  unfold upF frF
  by_cases e : j = 2 + a
  · subst e
    rw [if_pos rfl, if_neg (by omega), if_neg (by omega)]
    simp only []
    rw [if_pos (by omega)]
  · rw [if_neg e]
    by_cases e0 : j = 0
    · rw [if_pos e0, if_pos e0]
    · rw [if_neg e0, if_neg e0]
      by_cases e1 : j = 1
      · rw [if_pos e1, if_pos e1]
      · rw [if_neg e1, if_neg e1]; simp only []; rw [if_neg (by omega)]
end Go.Proofs.Ytaaciolfgplnoaa.Th

/- Layer 17 and on: threads of a machine, each by all that it keeps. -/
namespace Go.Proofs.Ytaaciolfgplnoaa.Th
open Go.RowKit
set_option linter.unusedVariables false
set_option linter.unusedSimpArgs false
set_option maxRecDepth 8000 in
set_option maxHeartbeats 1000000 in
theorem fcallX {w : World} {B q : Nat} {T : Td} {p : Nat → Nat} {fv rv sv v : Value} (h : ThA w B q T p fv rv sv) (fn : Int) {n : Nat} {L : Nat → Int} (hu : UR w v n L) (hB : B ≤ w.heap.size) (hf : T.nf ≤ 1000000) :
    Calls Try.prog 11 #[.pointer (some ⟨q, 0, none⟩), .int .i64 fn, v] w fun e w' => e = .returned (.tuple #[]) ∧ (∃ b fv', w.heap.size ≤ b ∧ ThA w' B q (callT T fn n L) (fun i => if i = T.nf then b else p i) fv' rv sv ∧ (∀ j, fv'.ownBlock = some j → fv.ownBlock = some j ∨ w.heap.size ≤ j)) ∧ KQ w w' q fv sv := by
  refine Calls.veil fun Q HQ => ?_
  have HH := Lib.hid h; have HU := Lib.hid hu
  obtain ⟨a, c, rfl, _, _⟩ := hu.slice
  clear h hu
  go_enter Try.func11, Try.ntmps11
  go_upto_region 2 with fail
  generalize hV : World.alloc _ _ = V
  obtain ⟨hh, hbv⟩ := heapnewE hV
  have hs : V.heap.size = w.heap.size + 1 := by rw [← hV]; simp
  have hb : Blk 48 V w.heap.size 26 (frF ⟨fn, 0, fun _ => 0⟩) := hh
  have HV := Lib.hid (HH.out.below hbv)
  obtain ⟨b, hbe⟩ : ∃ b, b = w.heap.size := ⟨_, rfl⟩
  have HBE := Lib.hid hbe
  rw [← hbe] at hb hs ⊢
  have HB := Lib.hid hb
  have HBV := Lib.hid hbv
  have HS := Lib.hid hs
  obtain ⟨k, hcp⟩ := run_copyU (HU.out.below hbv) b 2 24 24 (hb.there 2 24 (by omega))
  clear hV hh hbe hb hbv hs
  go_upto_region 3 with fail
  generalize hW : World.setCells _ _ _ _ = W
  have hbw : Blk 48 W b 26 (frF ⟨fn, 0, fun i => if i < n then L i else 0⟩) := by rw [← hW]; exact (Blk.setCells _ 2 V _ HB.out).congr fun j hj => frF_copied fn n L j hj
  have hkw : Below w.heap.size w W := by
    rw [← hW]
    have k := KS.setCells V b 2 (ucells (min n 24) L)
    exact ⟨k.os.trans HBV.out.os, k.tape.trans HBV.out.tape, k.output.trans HBV.out.output, Nat.le_trans HBV.out.size k.size, fun j hj => (k.block j (by have := HBV.out.size; omega) (by have := HBE.out; omega)).trans (HBV.out.block j hj)⟩
  have hT := HH.out.below hkw
  have HBW := Lib.hid hbw
  have HKW := Lib.hid hkw
  have HT := Lib.hid hT
  obtain ⟨pa, pc, W2, hrun, ho, hg, hloc⟩ := push1 uFrs infoFr (by rfl) hT.fo (.pointer (some ⟨b, 0, none⟩)) rfl hf (Nat.le_trans hB hkw.size)
  have cf := HT.out.cf
  have cfn := fun o => Ext.on cf o
  have hfin := hT.pushF hbw (by have := HBE.out; omega) (fun i hi => by have := blk_lt (HH.out.fb i hi).1; have := HBE.out; omega) ho hg
  have cq2 : W2.cell? ⟨q, 24, none⟩ = some fv := (World.cell?_of_block (a := ⟨q, 24, none⟩) (hg.block q hT.lt fun e => hT.nfq.1 e.symm)).trans cf
  have cq3 : ∀ i, W2.frozen? ⟨q, i, none⟩ = false := ((HT.out.blk.of (hg.block q hT.lt fun e => hT.nfq.1 e.symm)) : Blk 59 W2 q 27 _).fr
  have HFIN := Lib.hid hfin
  have HLOC := Lib.hid hloc
  obtain ⟨fa, fc, hfe, _, _⟩ := hT.fo.slice
  have HFE := Lib.hid hfe
  rw [hfe] at cf cfn hrun cq2
  clear hW hbw hkw hT ho hg hfin hloc hcp hfe
  go_wp2_with (at_builtin; refine wpList_append_run rfl (.tmp 22) (.tmp 24) 56 rfl rfl rfl rfl hrun ?_)
  refine bodyPost_end (v := .tuple #[]) (by simp [results, Try.results11, go_sem]) rfl ?_
  rw [HQ.out]
  refine ⟨rfl, ⟨b, _, by have := HBE.out; omega, HFIN.out.1, fun j hj => ?_⟩, ?_⟩
  · rcases HLOC.out with e | ⟨b', e, hb'⟩
    · exact .inl (by rw [← e]; exact hj)
    · rw [e] at hj; cases hj; exact .inr (by have := HKW.out.size; omega)
  · exact (KQ.of_below HKW.out).trans HFIN.out.2 (fun j e => .inl e) (fun j e => .inl e)
end Go.Proofs.Ytaaciolfgplnoaa.Th
namespace Go.Proofs.Ytaaciolfgplnoaa
open Go.RowKit WordM EdgeM
set_option linter.unusedVariables false
set_option linter.unusedSimpArgs false
/-- A thread whose row and stack are empty. -/
structure TX (w : World) (B b : Nat) (T : Th.Td) (p : Nat → Nat) (fv : Value) : Prop where
  a : Th.ThA w B b T p fv (.slice none 0 0) (.slice none 0 0)
  r : T.row = []
  s : T.ns = 0
theorem TX.blk {w : World} {B b : Nat} {T : Th.Td} {p : Nat → Nat} {fv : Value} (h : TX w B b T p fv) : B ≤ b ∧ ∃ cur, w.heap[b]? = some (.cells cur 59 (0, 0)) := ⟨h.a.hq, _, h.a.blk⟩
theorem TX.own {w : World} {B b : Nat} {T : Th.Td} {p : Nat → Nat} {fv : Value} (h : TX w B b T p fv) {j : Nat} (hj : fv.ownBlock = some j) : B ≤ j ∧ j < w.heap.size ∧ ∃ cur, w.heap[j]? = some (.cells cur 49 (0, 0)) := h.a.fo.blk hj
theorem TX.frm {w : World} {B b : Nat} {T : Th.Td} {p : Nat → Nat} {fv : Value} (h : TX w B b T p fv) {i : Nat} (hi : i < T.nf) : B ≤ p i ∧ p i < w.heap.size ∧ ∃ cur, w.heap[p i]? = some (.cells cur 48 (0, 0)) := ⟨(h.a.fb i hi).2, Th.blk_lt (h.a.fb i hi).1, _, (h.a.fb i hi).1⟩
theorem TX.keep {w w' : World} {B b : Nat} {T : Th.Td} {p : Nat → Nat} {fv : Value} (h : TX w B b T p fv) (hs : w.heap.size ≤ w'.heap.size) (k : ∀ j, j < w.heap.size → B ≤ j → (j = b ∨ fv.ownBlock = some j ∨ ∃ i, i < T.nf ∧ j = p i) → w'.heap[j]? = w.heap[j]?) : TX w' B b T p fv := by
  have h1 := h.a
  refine ⟨⟨h1.hq, h1.blk.of (k b h1.lt h1.hq (.inl rfl)), h1.fo.of fun j hj => k j (h1.fo.blk hj).2.1 (h1.fo.blk hj).1 (.inr (.inl hj)), fun x hx => ⟨(h1.fb x hx).1.of (k (p x) (Th.blk_lt (h1.fb x hx).1) (h1.fb x hx).2 (.inr (.inr ⟨x, hx, rfl⟩))), (h1.fb x hx).2⟩, h1.inj, ?_, ?_, h1.s1⟩, h.r, h.s⟩
  · rw [h.r]; exact Th.PO.nil _
  · rw [h.s]; exact Th.OwnL.nil _ _
/-- The threads of a machine. -/
structure TF (w : World) (q t : Nat) (tq : Nat → Nat) (Ts : Nat → Th.Td) (ps : Nat → Nat → Nat) (fvs : Nat → Value) : Prop where
  th : ∀ i, i < t → TX w (q + 1) (tq i) (Ts i) (ps i) (fvs i)
  inj : ∀ i j, i < t → j < t → tq i = tq j → i = j
  sep : ∀ i j, i < t → j < t → i ≠ j → ∀ b, (fvs i).ownBlock = some b → (fvs j).ownBlock ≠ some b
  fsep : ∀ i j, i < t → j < t → i ≠ j → ∀ a b, a < (Ts i).nf → b < (Ts j).nf → ps i a ≠ ps j b
section
variable {w w' : World} {q t : Nat} {tq : Nat → Nat} {Ts : Nat → Th.Td} {ps : Nat → Nat → Nat} {fvs : Nat → Value}
theorem TF.hi (h : TF w q t tq Ts ps fvs) (hs : w.heap.size ≤ w'.heap.size) (k : ∀ j, j < w.heap.size → q < j → w'.heap[j]? = w.heap[j]?) : TF w' q t tq Ts ps fvs :=
  ⟨fun i hi => (h.th i hi).keep hs fun j hj hB _ => k j hj (by omega), h.inj, h.sep, h.fsep⟩
theorem TF.below (h : TF w q t tq Ts ps fvs) (k : Below w.heap.size w w') : TF w' q t tq Ts ps fvs := h.hi k.size fun j hj _ => k.block j hj
theorem TF.init {B pl mb mg C gq gg gm : Nat} {fv : Value} {s : Nat} {K : Int} {f : Nat → Int} {acc : Int} {flt : Bool} {H : Nat → Bool} {G : Nat → Int} {sl steps : Int} {odd : Bool} (h : MI w B q pl mb mg C gq gg gm fv tq t s K f acc flt H G sl steps odd) (hi : ∀ i j, i < t → j < t → tq i = tq j → i = j) : TF w q t tq (fun _ => Th.T0) (fun _ _ => 0) (fun _ => .slice none 0 0) :=
  ⟨fun i hi => ⟨(h.thr i hi).2.tha (h.thr i hi).1, rfl, rfl⟩, hi, fun _ _ _ _ _ b hb => (by cases hb), fun _ _ _ _ _ a b ha _ => absurd ha (Nat.not_lt_zero a)⟩
/-- One of them was called, or went back. -/
theorem TF.one (h : TF w q t tq Ts ps fvs) {k : Nat} {T' : Th.Td} {p' : Nat → Nat} {fv' : Value} (hk : k < t) (hn : TX w' (q + 1) (tq k) T' p' fv') (kq : Th.KQ w w' (tq k) (fvs k) (.slice none 0 0))
    (ho : ∀ j, fv'.ownBlock = some j → (fvs k).ownBlock = some j ∨ w.heap.size ≤ j) (hp : ∀ a, a < T'.nf → (a < (Ts k).nf ∧ p' a = ps k a) ∨ w.heap.size ≤ p' a) : TF w' q t tq (fun i => if i = k then T' else Ts i) (fun i => if i = k then p' else ps i) (fun i => if i = k then fv' else fvs i) := by
  obtain ⟨_, ck, hck⟩ := (h.th k hk).blk
  refine ⟨fun i hi => ?_, h.inj, fun i j hi hj hij b hb => ?_, fun i j hi hj hij a b ha hb => ?_⟩
  · by_cases e : i = k
    · subst e; rw [if_pos rfl, if_pos rfl, if_pos rfl]; exact hn
    · rw [if_neg e, if_neg e, if_neg e]
      refine (h.th i hi).keep kq.size fun j hj hB hc => ?_
      obtain ⟨_, ci, hci⟩ := (h.th i hi).blk
      rcases hc with rfl | hc | ⟨a, ha, rfl⟩
      · exact kq.block _ hj (fun e2 => e (h.inj i k hi hk e2)) (fun e2 => by
          obtain ⟨_, _, c2, h2⟩ := (h.th k hk).own e2
          exact ty_ne hci h2 (by decide) rfl) (fun e2 => by cases e2)
      · obtain ⟨_, _, c2, h2⟩ := (h.th i hi).own hc
        exact kq.block _ hj (ty_ne h2 hck (by decide)) (h.sep i k hi hk e j hc) (fun e2 => by cases e2)
      · obtain ⟨_, _, c2, hc⟩ := (h.th i hi).frm ha
        exact kq.block _ hj (ty_ne hc hck (by decide)) (fun e2 => by
          obtain ⟨_, _, c2, h2⟩ := (h.th k hk).own e2
          exact ty_ne hc h2 (by decide) rfl) (fun e2 => by cases e2)
  · (try dsimp only at hb ⊢)
    by_cases e1 : i = k
    · subst e1
      rw [if_pos rfl] at hb; rw [if_neg (Ne.symm hij)]
      intro e2
      rcases ho b hb with e3 | e3
      · exact h.sep i j hi hj hij b e3 e2
      · have := ((h.th j hj).own e2).2.1; omega
    · rw [if_neg e1] at hb
      by_cases e2 : j = k
      · subst e2
        rw [if_pos rfl]
        intro e3
        rcases ho b e3 with e4 | e4
        · exact h.sep i j hi hj hij b hb e4
        · have := ((h.th i hi).own hb).2.1; omega
      · rw [if_neg e2]; exact h.sep i j hi hj hij b hb
  · (try dsimp only at ha hb ⊢)
    by_cases e1 : i = k
    · subst e1
      rw [if_pos rfl] at ha ⊢
      rw [if_neg (Ne.symm hij)] at hb ⊢
      rcases hp a ha with ⟨h1, h2⟩ | h1
      · rw [h2]; exact h.fsep i j hi hj hij a b h1 hb
      · have := ((h.th j hj).frm hb).2.1; omega
    · rw [if_neg e1] at ha ⊢
      by_cases e2 : j = k
      · subst e2
        rw [if_pos rfl] at hb ⊢
        rcases hp b hb with ⟨h1, h2⟩ | h1
        · rw [h2]; exact h.fsep i j hi hj hij a b ha h1
        · have := ((h.th i hi).frm ha).2.1; omega
      · rw [if_neg e2] at hb ⊢; exact h.fsep i j hi hj hij a b ha hb
/-- A frame of one of them was written. -/
theorem TF.frm (h : TF w q t tq Ts ps fvs) {k m : Nat} (hk : k < t) (hm : m < (Ts k).nf) {f : Th.Fm} (ks : Th.KS (fun j => j = ps k m) w w') (hb : Th.Blk 48 w' (ps k m) 26 (Th.frF f)) : TF w' q t tq (fun i => if i = k then { Ts k with fs := Th.upM (Ts k).fs m f } else Ts i) ps fvs := by
  obtain ⟨_, _, cp, hcp⟩ := (h.th k hk).frm hm
  refine ⟨fun i hi => ?_, h.inj, h.sep, fun i j hi hj hij a b ha hb => ?_⟩
  · by_cases e : i = k
    · subst e; rw [if_pos rfl]
      exact ⟨((h.th i hi).a.frameSet hm ks hb).1, (h.th i hi).r, (h.th i hi).s⟩
    · rw [if_neg e]
      refine (h.th i hi).keep ks.size fun j hj hB hc => ks.block j hj fun e2 => ?_
      subst e2
      obtain ⟨_, ci, hci⟩ := (h.th i hi).blk
      rcases hc with hc | hc | ⟨a, ha, hc⟩
      · rw [← hc] at hci; exact ty_ne hci hcp (by decide) rfl
      · obtain ⟨_, _, c2, h2⟩ := (h.th i hi).own hc
        exact ty_ne h2 hcp (by decide) rfl
      · exact h.fsep k i hk hi (Ne.symm e) m a hm ha hc
  · (try dsimp only at ha hb)
    have e1 : ∀ i, (if i = k then { Ts k with fs := Th.upM (Ts k).fs m f } else Ts i).nf = (Ts i).nf := fun i => by
      by_cases e : i = k
      · rw [if_pos e, e]
      · rw [if_neg e]
    rw [e1] at ha hb
    exact h.fsep i j hi hj hij a b ha hb
end
end Go.Proofs.Ytaaciolfgplnoaa
