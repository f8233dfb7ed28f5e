/- Layer 16: accesses to nodes: nobody holds the node. -/
import Derived.Test.YtkkdehniheajeaaCorO
namespace Go.Proofs.Ytkkdehniheajeaa
open Go.RowKit WordM EdgeM
set_option linter.unusedVariables false
set_option linter.unusedSimpArgs false
theorem MI.setOdd {w w' : World} {B q pl mb mg C gq gg gm : Nat} {fv : Value} {tq : Nat → Nat} {t s : Nat} {K : Int} {f : Nat → Int} {acc : Int} {flt : Bool} {H : Nat → Bool} {G : Nat → Int} {sl steps : Int} {odd : Bool} (h : MI w B q pl mb mg C gq gg gm fv tq t s K f acc flt H G sl steps odd)
    (k : Mm.Only q q w w') (hq : w'.heap[q]? = some (.cells (machC pl mb gq fv steps true) 92 (0, 0))) : MI w' B q pl mb mg C gq gg gm fv tq t s K f acc flt H G sl steps true := by
  have o2 := h.o2; have o3 := h.o3; have o4 := h.o4; have o5 := h.o5
  have keep : ∀ b o, w.heap[b]? = some o → b ≠ q → w'.heap[b]? = some o := fun b o hb h1 => (k.block b (Th.blk_lt hb) h1 h1).trans hb
  obtain ⟨D, ⟨es, clock, he, hr⟩, hD, hz⟩ := h.grd.held
  refine ⟨hq, keep _ _ h.pln (by omega), h.mem.keep k.size (k.block _ h.mem.bl (by omega) (by omega)) (k.block _ h.mem.gl (by omega) (by omega)),
    ⟨h.grd.obj.of (k.block _ h.grd.obj.lt (by omega) (by omega)), h.grd.gens.of (k.block _ h.grd.gens.lt (by omega) (by omega)), ⟨D, ⟨es, clock, keep _ _ he (by omega), hr⟩, hD, hz⟩, h.grd.g1, h.grd.g2, h.grd.g3, h.grd.n0, h.grd.n1, h.grd.gb, h.grd.sb⟩,
    h.ths.of fun b hb => k.block b (h.ths.blk hb).2.1 (by have := (h.ths.blk hb).1; omega) (by have := (h.ths.blk hb).1; omega),
    fun i hi => ⟨(h.thr i hi).1, keep _ _ (h.thr i hi).2 (by have := (h.thr i hi).1; omega)⟩, h.o1, h.o2, h.o3, h.o4, h.o5, h.may⟩
theorem Only.one {q : Nat} {w w1 : World} (h : Below w.heap.size w w1) (i : Nat) (v : Value) : Mm.Only q q w (w1.setCell ⟨q, i, none⟩ v) := (Mm.Only.of_below h).set1 i v
set_option maxRecDepth 8000 in
set_option maxHeartbeats 1000000 in
theorem reach_no {w : World} {B q pl mb mg C gq gg gm : Nat} {fv : Value} {tq : Nat → Nat} {t s : Nat} {Kc : Int} {f : Nat → Int} {acc : Int} {flt : Bool} {H : Nat → Bool} {G : Nat → Int} {sl steps : Int} {odd : Bool} (h : MI w B q pl mb mg C gq gg gm fv tq t s Kc f acc flt H G sl steps odd) (e fi : Int) (e0 : 0 ≤ e) (e1 : e < 18446744073709551616) (hl : Gd.leadsB s H G e = false) (v : Value) :
    Calls Try.prog 67 #[.pointer (some ⟨q, 0, none⟩), .int .u64 e, .int .i64 fi, v] w fun x' w' => x' = .returned (.tuple #[]) ∧ w'.heap[q]? = some (.cells (machC pl mb gq fv steps true) 92 (0, 0)) ∧ Mm.Only q q w w' := by
  refine Calls.veil fun Q HQ => ?_
  have HH := Lib.hid h; have HL := Lib.hid hl
  have c2 := h.c2
  clear h hl
  go_enter Try.func67, Try.ntmps67
  go_wp2_with fail
  refine (Gd.gleads HH.out.grd e e0 e1).mono ?_; rintro _ w1 ⟨rfl, hb1⟩
  rw [HL.out]
  have hq1 := Th.up hb1 HH.out.blk
  have c5 : w1.cell? ⟨q, 5, none⟩ = some (.bool odd) := Th.newcell hq1 5 _ rfl
  have cf : ∀ i, w1.frozen? ⟨q, i, none⟩ = false := fun i => frozen_of_row _ _ _ _ _ hq1
  have HQ1 := Lib.hid hq1; have HB1 := Lib.hid hb1
  clear hb1 c2 hq1
  go_wp2_with fail
  first | (refine bodyPost_ret (v := .tuple #[]) (by simp [results, Try.results67, go_sem]) rfl ?_) | (refine bodyPost_end (v := .tuple #[]) (by simp [results, Try.results67, go_sem]) rfl ?_)
  rw [HQ.out]
  exact ⟨rfl, heap_setCell_same _ q 5 _ _ _ HQ1.out, Only.one HB1.out 5 _⟩
set_option maxRecDepth 8000 in
set_option maxHeartbeats 1000000 in
theorem rno {w : World} {B q pl mb mg C gq gg gm : Nat} {fv : Value} {tq : Nat → Nat} {t s : Nat} {Kc : Int} {f : Nat → Int} {acc : Int} {flt : Bool} {H : Nat → Bool} {G : Nat → Int} {sl steps : Int} {odd : Bool} (h : MI w B q pl mb mg C gq gg gm fv tq t s Kc f acc flt H G sl steps odd) (e fi : Int) (e0 : 0 ≤ e) (e1 : e < 18446744073709551616) (hl : Gd.leadsB s H G e = false) :
    Calls Try.prog 36 #[.pointer (some ⟨q, 0, none⟩), .int .u64 e, .int .i64 fi] w fun x' w' => x' = .returned (.int .u64 0) ∧ MI w' B q pl mb mg C gq gg gm fv tq t s Kc f acc flt H G sl steps true ∧ Mm.Only q q w w' := by
  refine Calls.veil fun Q HQ => ?_
  have HH := Lib.hid h; have HL := Lib.hid hl
  clear h hl
  go_enter Try.func36, Try.ntmps36
  go_upto_region 2 with fail
  generalize hV : World.alloc _ _ = U
  obtain ⟨u0, u1, hbu⟩ := heap2c hV
  have HU := Lib.hid (HH.out.below hbu); have HBU := Lib.hid hbu
  have bc := Th.newcell u0 0 _ rfl
  obtain ⟨rx, hrx⟩ : ∃ z, z = w.heap.size + 1 := ⟨_, rfl⟩
  rw [← hrx] at u1 ⊢
  have HR := Lib.hid u1
  have HN := Lib.hid (show rx ≠ q from by have h1 := Th.blk_lt HH.out.blk; omega)
  clear hV hbu u0 u1 hrx
  go_wp2_with fail
  clear bc
  refine (reach_no HU.out e fi e0 e1 HL.out _).mono ?_; rintro _ w2 ⟨rfl, hq, ho⟩
  have HF := Lib.hid (HH.out.setOdd ((Mm.Only.of_below HBU.out).trans ho) hq); have HO := Lib.hid ((Mm.Only.of_below HBU.out).trans ho)
  have r0 := Th.newcell ((ho.block rx (Th.blk_lt HR.out) HN.out HN.out).trans HR.out) 0 _ rfl
  clear hq ho
  go_wp2_with fail
  (try go_ret)
  rw [HQ.out]
  exact ⟨rfl, HF.out, HO.out⟩
set_option maxRecDepth 8000 in
set_option maxHeartbeats 1000000 in
theorem wno {w : World} {B q pl mb mg C gq gg gm : Nat} {fv : Value} {tq : Nat → Nat} {t s : Nat} {Kc : Int} {f : Nat → Int} {acc : Int} {flt : Bool} {H : Nat → Bool} {G : Nat → Int} {sl steps : Int} {odd : Bool} (h : MI w B q pl mb mg C gq gg gm fv tq t s Kc f acc flt H G sl steps odd) {x : Int} (e fi : Int) (e0 : 0 ≤ e) (e1 : e < 18446744073709551616) (hl : Gd.leadsB s H G e = false) :
    Calls Try.prog 35 #[.pointer (some ⟨q, 0, none⟩), .int .u64 e, .int .i64 fi, .int .u64 x] w fun x' w' => x' = .returned (.tuple #[]) ∧ MI w' B q pl mb mg C gq gg gm fv tq t s Kc f acc flt H G sl steps true ∧ Mm.Only q q w w' := by
  refine Calls.veil fun Q HQ => ?_
  have HH := Lib.hid h; have HL := Lib.hid hl
  clear h hl
  go_enter Try.func35, Try.ntmps35
  go_upto_region 1 with fail
  generalize hV : World.alloc _ _ = U
  obtain ⟨u0, u1, hbu⟩ := heap2c hV
  have HU := Lib.hid (HH.out.below hbu); have HBU := Lib.hid hbu
  have bc := Th.newcell u0 0 _ rfl
  clear hV hbu u0 u1
  go_wp2_with fail
  clear bc
  refine (reach_no HU.out e fi e0 e1 HL.out _).mono ?_; rintro _ w2 ⟨rfl, hq, ho⟩
  have HF := Lib.hid (HH.out.setOdd ((Mm.Only.of_below HBU.out).trans ho) hq); have HO := Lib.hid ((Mm.Only.of_below HBU.out).trans ho)
  clear hq ho
  go_wp2_with fail
  refine bodyPost_end (v := .tuple #[]) (by simp [results, Try.results35, go_sem]) rfl ?_
  rw [HQ.out]
  exact ⟨rfl, HF.out, HO.out⟩
set_option maxRecDepth 8000 in
set_option maxHeartbeats 1000000 in
theorem sno {w : World} {B q pl mb mg C gq gg gm : Nat} {fv : Value} {tq : Nat → Nat} {t s : Nat} {Kc : Int} {f : Nat → Int} {acc : Int} {flt : Bool} {H : Nat → Bool} {G : Nat → Int} {sl steps : Int} {odd : Bool} (h : MI w B q pl mb mg C gq gg gm fv tq t s Kc f acc flt H G sl steps odd) {old x : Int} (e fi : Int) (e0 : 0 ≤ e) (e1 : e < 18446744073709551616) (hl : Gd.leadsB s H G e = false) :
    Calls Try.prog 37 #[.pointer (some ⟨q, 0, none⟩), .int .u64 e, .int .i64 fi, .int .u64 old, .int .u64 x] w fun x' w' => x' = .returned (.bool false) ∧ MI w' B q pl mb mg C gq gg gm fv tq t s Kc f acc flt H G sl steps true ∧ Mm.Only q q w w' := by
  refine Calls.veil fun Q HQ => ?_
  have HH := Lib.hid h; have HL := Lib.hid hl
  clear h hl
  go_enter Try.func37, Try.ntmps37
  go_upto_region 2 with fail
  generalize hV : World.alloc _ _ = U
  obtain ⟨u0, u1, u2, u3, hbu⟩ := heap4c hV
  have HU := Lib.hid (HH.out.below hbu); have HBU := Lib.hid hbu
  have bc := Th.newcell u0 0 _ rfl
  obtain ⟨rx, hrx⟩ : ∃ z, z = w.heap.size + 1 + 1 + 1 := ⟨_, rfl⟩
  rw [← hrx] at u3 ⊢
  have HR := Lib.hid u3
  have HN := Lib.hid (show rx ≠ q from by have h1 := Th.blk_lt HH.out.blk; omega)
  clear hV hbu u0 u1 u2 u3 hrx
  go_wp2_with fail
  clear bc
  refine (reach_no HU.out e fi e0 e1 HL.out _).mono ?_; rintro _ w2 ⟨rfl, hq, ho⟩
  have HF := Lib.hid (HH.out.setOdd ((Mm.Only.of_below HBU.out).trans ho) hq); have HO := Lib.hid ((Mm.Only.of_below HBU.out).trans ho)
  have r0 := Th.newcell ((ho.block rx (Th.blk_lt HR.out) HN.out HN.out).trans HR.out) 0 _ rfl
  clear hq ho
  go_wp2_with fail
  (try go_ret)
  rw [HQ.out]
  exact ⟨rfl, HF.out, HO.out⟩
set_option maxRecDepth 8000 in
set_option maxHeartbeats 1000000 in
theorem mno {w : World} {B q pl mb mg C gq gg gm : Nat} {fv : Value} {tq : Nat → Nat} {t s : Nat} {Kc : Int} {f : Nat → Int} {acc : Int} {flt : Bool} {H : Nat → Bool} {G : Nat → Int} {sl steps : Int} {odd : Bool} (h : MI w B q pl mb mg C gq gg gm fv tq t s Kc f acc flt H G sl steps odd) {x : Int} (e fi : Int) (e0 : 0 ≤ e) (e1 : e < 18446744073709551616) (hl : Gd.leadsB s H G e = false) :
    Calls Try.prog 39 #[.pointer (some ⟨q, 0, none⟩), .int .u64 e, .int .i64 fi, .int .u64 x] w fun x' w' => x' = .returned (.int .u64 0) ∧ MI w' B q pl mb mg C gq gg gm fv tq t s Kc f acc flt H G sl steps true ∧ Mm.Only q q w w' := by
  refine Calls.veil fun Q HQ => ?_
  have HH := Lib.hid h; have HL := Lib.hid hl
  clear h hl
  go_enter Try.func39, Try.ntmps39
  go_upto_region 2 with fail
  generalize hV : World.alloc _ _ = U
  obtain ⟨u0, u1, u2, hbu⟩ := heap3c hV
  have HU := Lib.hid (HH.out.below hbu); have HBU := Lib.hid hbu
  have bc := Th.newcell u0 0 _ rfl
  obtain ⟨rx, hrx⟩ : ∃ z, z = w.heap.size + 1 + 1 := ⟨_, rfl⟩
  rw [← hrx] at u2 ⊢
  have HR := Lib.hid u2
  have HN := Lib.hid (show rx ≠ q from by have h1 := Th.blk_lt HH.out.blk; omega)
  clear hV hbu u0 u1 u2 hrx
  go_wp2_with fail
  clear bc
  refine (reach_no HU.out e fi e0 e1 HL.out _).mono ?_; rintro _ w2 ⟨rfl, hq, ho⟩
  have HF := Lib.hid (HH.out.setOdd ((Mm.Only.of_below HBU.out).trans ho) hq); have HO := Lib.hid ((Mm.Only.of_below HBU.out).trans ho)
  have r0 := Th.newcell ((ho.block rx (Th.blk_lt HR.out) HN.out HN.out).trans HR.out) 0 _ rfl
  clear hq ho
  go_wp2_with fail
  (try go_ret)
  rw [HQ.out]
  exact ⟨rfl, HF.out, HO.out⟩
set_option maxRecDepth 8000 in
set_option maxHeartbeats 1000000 in
theorem dno {w : World} {B q pl mb mg C gq gg gm : Nat} {fv : Value} {tq : Nat → Nat} {t s : Nat} {Kc : Int} {f : Nat → Int} {acc : Int} {flt : Bool} {H : Nat → Bool} {G : Nat → Int} {sl steps : Int} {odd : Bool} (h : MI w B q pl mb mg C gq gg gm fv tq t s Kc f acc flt H G sl steps odd) {tm old x : Int} (e fi : Int) (e0 : 0 ≤ e) (e1 : e < 18446744073709551616) (hl : Gd.leadsB s H G e = false) :
    Calls Try.prog 38 #[.pointer (some ⟨q, 0, none⟩), .int .u64 tm, .int .u64 e, .int .i64 fi, .int .u64 old, .int .u64 x] w fun x' w' => x' = .returned (.bool false) ∧ MI w' B q pl mb mg C gq gg gm fv tq t s Kc f acc flt H G sl steps true ∧ Mm.Only q q w w' := by
  refine Calls.veil fun Q HQ => ?_
  have HH := Lib.hid h; have HL := Lib.hid hl
  clear h hl
  go_enter Try.func38, Try.ntmps38
  go_upto_region 2 with fail
  generalize hV : World.alloc _ _ = U
  obtain ⟨u0, u1, u2, u3, u4, hbu⟩ := heap5c hV
  have HU := Lib.hid (HH.out.below hbu); have HBU := Lib.hid hbu
  have bc := Th.newcell u0 0 _ rfl
  obtain ⟨rx, hrx⟩ : ∃ z, z = w.heap.size + 1 + 1 + 1 + 1 := ⟨_, rfl⟩
  rw [← hrx] at u4 ⊢
  have HR := Lib.hid u4
  have HN := Lib.hid (show rx ≠ q from by have h1 := Th.blk_lt HH.out.blk; omega)
  clear hV hbu u0 u1 u2 u3 u4 hrx
  go_wp2_with fail
  clear bc
  refine (reach_no HU.out e fi e0 e1 HL.out _).mono ?_; rintro _ w2 ⟨rfl, hq, ho⟩
  have HF := Lib.hid (HH.out.setOdd ((Mm.Only.of_below HBU.out).trans ho) hq); have HO := Lib.hid ((Mm.Only.of_below HBU.out).trans ho)
  have r0 := Th.newcell ((ho.block rx (Th.blk_lt HR.out) HN.out HN.out).trans HR.out) 0 _ rfl
  clear hq ho
  go_wp2_with fail
  (try go_ret)
  rw [HQ.out]
  exact ⟨rfl, HF.out, HO.out⟩
/-- An access that a law does. -/
def op16 (k fi e tm old x : Int) : Value := .agg #[.int .i64 k, .int .i64 fi, .int .u64 e, .int .u64 tm, .int .u64 old, .int .u64 x]
set_option maxRecDepth 8000 in
set_option maxHeartbeats 1000000 in
theorem do_no_r {w : World} {B q pl mb mg C gq gg gm : Nat} {fv : Value} {tq : Nat → Nat} {t s : Nat} {Kc : Int} {f : Nat → Int} {acc : Int} {flt : Bool} {H : Nat → Bool} {G : Nat → Int} {sl steps : Int} {odd : Bool} (h : MI w B q pl mb mg C gq gg gm fv tq t s Kc f acc flt H G sl steps odd) (fi e tm old x : Int) (e0 : 0 ≤ e) (e1 : e < 18446744073709551616) (hl : Gd.leadsB s H G e = false) :
    Calls Try.prog 24 #[.pointer (some ⟨q, 0, none⟩), op16 0 fi e tm old x] w fun x' w' => x' = .returned (.tuple #[.int .u64 0, .bool false]) ∧ MI w' B q pl mb mg C gq gg gm fv tq t s Kc f acc flt H G sl steps true ∧ Mm.Only q q w w' := by
  refine Calls.veil fun Q HQ => ?_
  have HH := Lib.hid h; have HL := Lib.hid hl
  clear h hl
  unfold op16
  go_enter Try.func24, Try.ntmps24
  go_upto_region 1 with fail
  generalize hV : World.alloc _ _ = U
  obtain ⟨u0, hbu⟩ := Th.heapnewE hV
  have o0 := Th.newcell u0 0 _ rfl; have o1 := Th.newcell u0 1 _ rfl; have o2 := Th.newcell u0 2 _ rfl; have o3 := Th.newcell u0 3 _ rfl; have o4 := Th.newcell u0 4 _ rfl; have o5 := Th.newcell u0 5 _ rfl
  have HU := Lib.hid (HH.out.below hbu); have HBU := Lib.hid hbu
  clear hV u0 hbu
  go_wp2_with fail
  refine (rno HU.out e fi e0 e1 HL.out).mono ?_; rintro _ w2 ⟨rfl, hm, ho⟩
  have HM := Lib.hid hm; have HO := Lib.hid ((Mm.Only.of_below HBU.out).trans ho)
  clear hm ho o0 o1 o2 o3 o4 o5
  go_wp2_with fail
  (try go_ret2)
  rw [HQ.out]
  exact ⟨rfl, HM.out, HO.out⟩
set_option maxRecDepth 8000 in
set_option maxHeartbeats 1000000 in
theorem do_no_w {w : World} {B q pl mb mg C gq gg gm : Nat} {fv : Value} {tq : Nat → Nat} {t s : Nat} {Kc : Int} {f : Nat → Int} {acc : Int} {flt : Bool} {H : Nat → Bool} {G : Nat → Int} {sl steps : Int} {odd : Bool} (h : MI w B q pl mb mg C gq gg gm fv tq t s Kc f acc flt H G sl steps odd) (fi e tm old x : Int) (e0 : 0 ≤ e) (e1 : e < 18446744073709551616) (hl : Gd.leadsB s H G e = false) :
    Calls Try.prog 24 #[.pointer (some ⟨q, 0, none⟩), op16 1 fi e tm old x] w fun x' w' => x' = .returned (.tuple #[.int .u64 0, .bool false]) ∧ MI w' B q pl mb mg C gq gg gm fv tq t s Kc f acc flt H G sl steps true ∧ Mm.Only q q w w' := by
  refine Calls.veil fun Q HQ => ?_
  have HH := Lib.hid h; have HL := Lib.hid hl
  clear h hl
  unfold op16
  go_enter Try.func24, Try.ntmps24
  go_upto_region 1 with fail
  generalize hV : World.alloc _ _ = U
  obtain ⟨u0, hbu⟩ := Th.heapnewE hV
  have o0 := Th.newcell u0 0 _ rfl; have o1 := Th.newcell u0 1 _ rfl; have o2 := Th.newcell u0 2 _ rfl; have o3 := Th.newcell u0 3 _ rfl; have o4 := Th.newcell u0 4 _ rfl; have o5 := Th.newcell u0 5 _ rfl
  have HU := Lib.hid (HH.out.below hbu); have HBU := Lib.hid hbu
  clear hV u0 hbu
  go_wp2_with fail
  refine (wno HU.out e fi e0 e1 HL.out).mono ?_; rintro _ w2 ⟨rfl, hm, ho⟩
  have HM := Lib.hid hm; have HO := Lib.hid ((Mm.Only.of_below HBU.out).trans ho)
  clear hm ho o0 o1 o2 o3 o4 o5
  go_wp2_with fail
  (try go_ret2)
  rw [HQ.out]
  exact ⟨rfl, HM.out, HO.out⟩
set_option maxRecDepth 8000 in
set_option maxHeartbeats 1000000 in
theorem do_no_s {w : World} {B q pl mb mg C gq gg gm : Nat} {fv : Value} {tq : Nat → Nat} {t s : Nat} {Kc : Int} {f : Nat → Int} {acc : Int} {flt : Bool} {H : Nat → Bool} {G : Nat → Int} {sl steps : Int} {odd : Bool} (h : MI w B q pl mb mg C gq gg gm fv tq t s Kc f acc flt H G sl steps odd) (fi e tm old x : Int) (e0 : 0 ≤ e) (e1 : e < 18446744073709551616) (hl : Gd.leadsB s H G e = false) :
    Calls Try.prog 24 #[.pointer (some ⟨q, 0, none⟩), op16 2 fi e tm old x] w fun x' w' => x' = .returned (.tuple #[.int .u64 0, .bool false]) ∧ MI w' B q pl mb mg C gq gg gm fv tq t s Kc f acc flt H G sl steps true ∧ Mm.Only q q w w' := by
  refine Calls.veil fun Q HQ => ?_
  have HH := Lib.hid h; have HL := Lib.hid hl
  clear h hl
  unfold op16
  go_enter Try.func24, Try.ntmps24
  go_upto_region 1 with fail
  generalize hV : World.alloc _ _ = U
  obtain ⟨u0, hbu⟩ := Th.heapnewE hV
  have o0 := Th.newcell u0 0 _ rfl; have o1 := Th.newcell u0 1 _ rfl; have o2 := Th.newcell u0 2 _ rfl; have o3 := Th.newcell u0 3 _ rfl; have o4 := Th.newcell u0 4 _ rfl; have o5 := Th.newcell u0 5 _ rfl
  have HU := Lib.hid (HH.out.below hbu); have HBU := Lib.hid hbu
  clear hV u0 hbu
  go_wp2_with fail
  refine (sno HU.out e fi e0 e1 HL.out).mono ?_; rintro _ w2 ⟨rfl, hm, ho⟩
  have HM := Lib.hid hm; have HO := Lib.hid ((Mm.Only.of_below HBU.out).trans ho)
  clear hm ho o0 o1 o2 o3 o4 o5
  go_wp2_with fail
  (try go_ret2)
  rw [HQ.out]
  exact ⟨rfl, HM.out, HO.out⟩
set_option maxRecDepth 8000 in
set_option maxHeartbeats 1000000 in
theorem do_no_m {w : World} {B q pl mb mg C gq gg gm : Nat} {fv : Value} {tq : Nat → Nat} {t s : Nat} {Kc : Int} {f : Nat → Int} {acc : Int} {flt : Bool} {H : Nat → Bool} {G : Nat → Int} {sl steps : Int} {odd : Bool} (h : MI w B q pl mb mg C gq gg gm fv tq t s Kc f acc flt H G sl steps odd) (fi e tm old x : Int) (e0 : 0 ≤ e) (e1 : e < 18446744073709551616) (hl : Gd.leadsB s H G e = false) :
    Calls Try.prog 24 #[.pointer (some ⟨q, 0, none⟩), op16 3 fi e tm old x] w fun x' w' => x' = .returned (.tuple #[.int .u64 0, .bool false]) ∧ MI w' B q pl mb mg C gq gg gm fv tq t s Kc f acc flt H G sl steps true ∧ Mm.Only q q w w' := by
  refine Calls.veil fun Q HQ => ?_
  have HH := Lib.hid h; have HL := Lib.hid hl
  clear h hl
  unfold op16
  go_enter Try.func24, Try.ntmps24
  go_upto_region 1 with fail
  generalize hV : World.alloc _ _ = U
  obtain ⟨u0, hbu⟩ := Th.heapnewE hV
  have o0 := Th.newcell u0 0 _ rfl; have o1 := Th.newcell u0 1 _ rfl; have o2 := Th.newcell u0 2 _ rfl; have o3 := Th.newcell u0 3 _ rfl; have o4 := Th.newcell u0 4 _ rfl; have o5 := Th.newcell u0 5 _ rfl
  have HU := Lib.hid (HH.out.below hbu); have HBU := Lib.hid hbu
  clear hV u0 hbu
  go_wp2_with fail
  refine (mno HU.out e fi e0 e1 HL.out).mono ?_; rintro _ w2 ⟨rfl, hm, ho⟩
  have HM := Lib.hid hm; have HO := Lib.hid ((Mm.Only.of_below HBU.out).trans ho)
  clear hm ho o0 o1 o2 o3 o4 o5
  go_wp2_with fail
  (try go_ret2)
  rw [HQ.out]
  exact ⟨rfl, HM.out, HO.out⟩
set_option maxRecDepth 8000 in
set_option maxHeartbeats 1000000 in
theorem do_no_d {w : World} {B q pl mb mg C gq gg gm : Nat} {fv : Value} {tq : Nat → Nat} {t s : Nat} {Kc : Int} {f : Nat → Int} {acc : Int} {flt : Bool} {H : Nat → Bool} {G : Nat → Int} {sl steps : Int} {odd : Bool} (h : MI w B q pl mb mg C gq gg gm fv tq t s Kc f acc flt H G sl steps odd) {k : Int} (k0 : ¬ k = 0) (k1 : ¬ k = 1) (k2 : ¬ k = 2) (k3 : ¬ k = 3) (fi e tm old x : Int) (e0 : 0 ≤ e) (e1 : e < 18446744073709551616) (hl : Gd.leadsB s H G e = false) :
    Calls Try.prog 24 #[.pointer (some ⟨q, 0, none⟩), op16 k fi e tm old x] w fun x' w' => x' = .returned (.tuple #[.int .u64 0, .bool false]) ∧ MI w' B q pl mb mg C gq gg gm fv tq t s Kc f acc flt H G sl steps true ∧ Mm.Only q q w w' := by
  refine Calls.veil fun Q HQ => ?_
  have HH := Lib.hid h; have HL := Lib.hid hl
  clear h hl
  unfold op16
  go_enter Try.func24, Try.ntmps24
  go_upto_region 1 with fail
  generalize hV : World.alloc _ _ = U
  obtain ⟨u0, hbu⟩ := Th.heapnewE hV
  have o0 := Th.newcell u0 0 _ rfl; have o1 := Th.newcell u0 1 _ rfl; have o2 := Th.newcell u0 2 _ rfl; have o3 := Th.newcell u0 3 _ rfl; have o4 := Th.newcell u0 4 _ rfl; have o5 := Th.newcell u0 5 _ rfl
  have HU := Lib.hid (HH.out.below hbu); have HBU := Lib.hid hbu
  clear hV u0 hbu
  go_wp2_with fail
  refine (dno HU.out e fi e0 e1 HL.out).mono ?_; rintro _ w2 ⟨rfl, hm, ho⟩
  have HM := Lib.hid hm; have HO := Lib.hid ((Mm.Only.of_below HBU.out).trans ho)
  clear hm ho o0 o1 o2 o3 o4 o5
  go_wp2_with fail
  (try go_ret2)
  rw [HQ.out]
  exact ⟨rfl, HM.out, HO.out⟩
theorem do_no {w : World} {B q pl mb mg C gq gg gm : Nat} {fv : Value} {tq : Nat → Nat} {t s : Nat} {Kc : Int} {f : Nat → Int} {acc : Int} {flt : Bool} {H : Nat → Bool} {G : Nat → Int} {sl steps : Int} {odd : Bool} (h : MI w B q pl mb mg C gq gg gm fv tq t s Kc f acc flt H G sl steps odd) (k fi e tm old x : Int) (e0 : 0 ≤ e) (e1 : e < 18446744073709551616) (hl : Gd.leadsB s H G e = false) :
    Calls Try.prog 24 #[.pointer (some ⟨q, 0, none⟩), op16 k fi e tm old x] w fun x' w' => x' = .returned (.tuple #[.int .u64 0, .bool false]) ∧ MI w' B q pl mb mg C gq gg gm fv tq t s Kc f acc flt H G sl steps true ∧ Mm.Only q q w w' := by
  by_cases k0 : k = 0
  · subst k0; exact do_no_r h fi e tm old x e0 e1 hl
  · by_cases k1 : k = 1
    · subst k1; exact do_no_w h fi e tm old x e0 e1 hl
    · by_cases k2 : k = 2
      · subst k2; exact do_no_s h fi e tm old x e0 e1 hl
      · by_cases k3 : k = 3
        · subst k3; exact do_no_m h fi e tm old x e0 e1 hl
        · exact do_no_d h k0 k1 k2 k3 fi e tm old x e0 e1 hl
theorem gFault1 {w : World} {B q pl mb mg C gq gg gm : Nat} {fv : Value} {tq : Nat → Nat} {t s : Nat} {Kc : Int} {f : Nat → Int} {acc : Int} {flt : Bool} {H : Nat → Bool} {G : Nat → Int} {sl steps : Int} (h : MI w B q pl mb mg C gq gg gm fv tq t s Kc f acc flt H G sl steps true) : Calls Try.prog 13 #[.pointer (some ⟨q, 0, none⟩)] w fun e w' => e = .returned (.bool true) ∧ Below w.heap.size w w' := by
  refine Calls.veil fun Q HQ => ?_
  have c5 := h.c5
  clear h
  go_enter Try.func13, Try.ntmps13
  go_wp2_with fail
  (try go_ret)
  rw [HQ.out]
  exact ⟨rfl, Below.refl _ _⟩
end Go.Proofs.Ytkkdehniheajeaa
