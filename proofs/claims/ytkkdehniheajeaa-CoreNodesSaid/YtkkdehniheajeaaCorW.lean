/- Layer 16: the reference's Do. -/
import Derived.Test.YtkkdehniheajeaaCorU
import Derived.Test.YtkkdehniheajeaaCorG
import Derived.Test.YtkkdehniheajeaaMemG
namespace Go.Proofs.Ytkkdehniheajeaa
open Go.RowKit WordM EdgeM
set_option linter.unusedVariables false
set_option linter.unusedSimpArgs false
theorem fin16d {Z : Nat} {cs : List Value} {v b : Value} (hl : cs.length = 9) (a : Act) (W : World) (hW : W.rangeAt Z 0 cs) (h4 : a.tmps.getD 4 undef = .pointer (some ⟨Z, 0, none⟩)) (h5 : a.tmps.getD 5 undef = v) (h6 : a.tmps.getD 6 undef = b) : (results Try.f25 a.tmps).run Try.prog W = .ok (.tuple #[.agg cs.toArray, v, b]) W := by
  obtain ⟨d, hdu, hdr⟩ := uM
  have := run_loadVar_mid (P := Try.prog) W Z 0 51 cs d hW hdu hdr (by rw [hl]; exact infoM)
  have h4' : a.tmps[4]?.getD undef = .pointer (some ⟨Z, 0, none⟩) := by simpa using h4
  have h5' : a.tmps[5]?.getD undef = v := by simpa using h5
  have h6' : a.tmps[6]?.getD undef = b := by simpa using h6
  simp [results, Try.results25, h4', h5', h6', asAddr, this]
set_option maxRecDepth 16000 in
set_option maxHeartbeats 4000000 in
theorem rdo_no (t s n C wg gb gc : Nat) (Kc acc sl : Int) (flt odd : Bool) (H : Nat → Bool) (G : Nat → Int) (k fi e tm old x : Int) (w : World) (h : Gd.SR w gb s H G) (s2 : s ≤ 250) (sc : s ≤ gc) (c2 : gc ≤ 9223372036854775807) (hG : ∀ i, 0 ≤ G i ∧ G i < 1125899906842624) (e0 : 0 ≤ e) (e1 : e < 18446744073709551616) (hl : Gd.leadsB s H G e = false) :
    Calls Try.prog 25 #[.agg (mV t s Kc (.slice (some ⟨wg, 0, none⟩) n C) acc flt gb gc sl odd), op16 k fi e tm old x] w fun x' w' => x' = .returned (.tuple #[.agg (mV t s Kc (.slice (some ⟨wg, 0, none⟩) n C) acc flt gb gc sl true), .int .u64 0, .bool false]) ∧ Below w.heap.size w w' := by
  refine Calls.veil fun Q HQ => ?_
  have HH := Lib.hid h; have HL := Lib.hid hl; have HG := Lib.hid hG
  clear h hl hG
  unfold op16 mV
  go_enter Try.func25, Try.ntmps25
  go_upto_region 1 with fail
  generalize hV : World.alloc _ _ = U
  obtain ⟨u0, u1, u2, hbu⟩ := heap3c hV
  obtain ⟨cb, h1⟩ : ∃ a, a = w.heap.size := ⟨_, rfl⟩
  obtain ⟨ob, h2⟩ : ∃ b, b = w.heap.size + 1 := ⟨_, rfl⟩
  obtain ⟨rb, h3⟩ : ∃ b, b = w.heap.size + 1 + 1 := ⟨_, rfl⟩
  have n12 : cb ≠ ob := by omega
  have n13 : cb ≠ rb := by omega
  have n23 : ob ≠ rb := by omega
  simp only [← h3] at u2 ⊢
  simp only [← h2] at u1 ⊢
  simp only [← h1] at u0 ⊢
  have HB := Lib.hid hbu; have HE1 := Lib.hid h1; have HE2 := Lib.hid h2; have HE3 := Lib.hid h3
  have m0 := Th.newcell u0 0 _ rfl; have m1 := Th.newcell u0 1 _ rfl; have m2 := Th.newcell u0 2 _ rfl; have m3 := Th.newcell u0 3 _ rfl; have m4 := Th.newcell u0 4 _ rfl; have m5 := Th.newcell u0 5 _ rfl; have m6 := Th.newcell u0 6 _ rfl; have m7 := Th.newcell u0 7 _ rfl; have m8 := Th.newcell u0 8 _ rfl
  have o0 := Th.newcell u1 0 _ rfl; have o1 := Th.newcell u1 1 _ rfl; have o2 := Th.newcell u1 2 _ rfl; have o3 := Th.newcell u1 3 _ rfl; have o4 := Th.newcell u1 4 _ rfl; have o5 := Th.newcell u1 5 _ rfl
  have r0 := Th.newcell u2 0 _ rfl; have r1 := Th.newcell u2 1 _ rfl; have r2 := Th.newcell u2 2 _ rfl; have r3 := Th.newcell u2 3 _ rfl; have r4 := Th.newcell u2 4 _ rfl; have r5 := Th.newcell u2 5 _ rfl; have r6 := Th.newcell u2 6 _ rfl; have r7 := Th.newcell u2 7 _ rfl; have r8 := Th.newcell u2 8 _ rfl
  have HU := Lib.hid (HH.out.below HB.out); have HCB := Lib.hid (show U.heap[cb]? = some (.cells (mV t s Kc (.slice (some ⟨wg, 0, none⟩) n C) acc flt gb gc sl odd) 51 (0, 0)) from u0); have HRB := Lib.hid (show U.heap[rb]? = some (.cells mZ 51 (0, 0)) from u2)
  clear hV u0 u1 u2 hbu h1 h2 h3
  go_wp2_with fail
  refine (Gd.rleads sl HU.out s2 sc c2 HG.out e e0 e1).mono ?_; rintro _ w1 ⟨rfl, hb1⟩
  rw [HL.out]
  have HB1 := Lib.hid (below_on HB.out hb1)
  have HB1' := hb1
  clear hb1
  have HBC := Lib.hid (Th.up HB1' HCB.out); have HBR := Lib.hid (Th.up HB1' HRB.out)
  clear m0 m1 m2 m3 m4 m5 m6 m7 m8 o0 o1 o2 o3 o4 o5 r0 r1 r2 r3 r4 r5 r6 r7 r8
  have zf : ∀ i, w1.frozen? ⟨cb, i, none⟩ = false := fun i => frozen_of_row _ _ _ _ _ HBC.out
  have z8 : w1.cell? ⟨cb, 8, none⟩ = some (.bool odd) := Th.newcell HBC.out 8 _ rfl
  go_upto_region 3 with fail
  generalize hW : World.setCell _ _ _ = W
  have HW := Lib.hid (show W.heap[cb]? = some (.cells (mV t s Kc (.slice (some ⟨wg, 0, none⟩) n C) acc flt gb gc sl true) 51 (0, 0)) by rw [← hW]; exact heap_setCell_same _ cb 8 _ _ _ HBC.out)
  have HWR := Lib.hid (show W.heap[rb]? = some (.cells mZ 51 (0, 0)) by rw [← hW, heap_setCell_other _ _ _ _ (Ne.symm n13)]; exact HBR.out)
  have HWB := Lib.hid (show Below w.heap.size w W by rw [← hW]; exact HB1.out.setCell (p := ⟨cb, 8, none⟩) (by show w.heap.size ≤ cb; have := HE1.out; omega) _)
  clear hW
  obtain ⟨d, hdu, hdr⟩ := uM
  have HRG := Lib.hid (mV_range HW.out)
  have HDU := Lib.hid hdu; have HDR := Lib.hid hdr
  clear hdu hdr
  go_wp2_with (first | (refine wpList_load_mid rfl 51 (.tmp 2) rfl cb 0 rfl (mV t s Kc (.slice (some ⟨wg, 0, none⟩) n C) acc flt gb gc sl true).toList d HRG.out HDU.out HDR.out infoM ?_) | (refine wpList_store_row (by rfl) 51 (.tmp 4) (.tmp 18) (by rfl) rb (mV t s Kc (.slice (some ⟨wg, 0, none⟩) n C) acc flt gb gc sl true) (by rfl) (by rfl) 51 _ HWR.out infoM rfl (mV_one _ _ _ _ _ _ _ _ _ _ _ _) ?_))
  have hrow : (W.setRow rb (mV t s Kc (.slice (some ⟨wg, 0, none⟩) n C) acc flt gb gc sl true)).heap[rb]? = some (.cells (mV t s Kc (.slice (some ⟨wg, 0, none⟩) n C) acc flt gb gc sl true) 51 (0, 0)) := setRow_heap _ _ _ _ _ _ HWR.out
  refine bodyPost_ret (v := .tuple #[.agg (mV t s Kc (.slice (some ⟨wg, 0, none⟩) n C) acc flt gb gc sl true), .int .u64 0, .bool false]) (fin16d (cs := (mV t s Kc (.slice (some ⟨wg, 0, none⟩) n C) acc flt gb gc sl true).toList) rfl _ _ (mV_range hrow) rfl rfl rfl) rfl ?_
  rw [HQ.out]
  have hb := HWB.out
  refine ⟨rfl, hb.os, hb.tape, hb.output, ?_, fun j hj => (setRow_other _ _ _ _ (by have := HE3.out; omega)).trans (hb.block j hj)⟩
  have := hb.size
  simpa [World.setRow] using this
end Go.Proofs.Ytkkdehniheajeaa
