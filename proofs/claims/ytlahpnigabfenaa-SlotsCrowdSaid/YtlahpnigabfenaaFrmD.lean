/- Layer 15: a thread's methods: Pop, Fresh, Row, Gather, Back. -/
import Derived.Test.YtlahpnigabfenaaFrmG
namespace Go.Proofs.Ytlahpnigabfenaa.Th
open Go.RowKit
set_option linter.unusedVariables false
set_option linter.unusedSimpArgs false
theorem ucells_take {n m : Nat} {f : Nat → Int} (h : m ≤ n) : (ucells n f).take m = ucells m f := by
  unfold ucells; rw [← List.map_take, List.take_range, Nat.min_eq_left h]
theorem ptrs_take {n m : Nat} {f : Nat → Nat} (h : m ≤ n) : (ptrs f n).take m = ptrs f m := by
  unfold ptrs; rw [← List.map_take, List.take_range, Nat.min_eq_left h]
theorem thF_sv (T T' : Td) (fv rv sv sv' : Value) (h1 : T'.ret = T.ret) (h2 : T'.ss = T.ss) (j : Nat) (hj : j < 27) : upF (thF T fv rv sv) 26 sv' j = thF T' fv rv sv' j := by
  unfold upF thF
  rw [h1, h2]
  by_cases e : j = 26
  · subst e; simp
  · rw [if_neg e]
    by_cases e2 : j = 25
    · subst e2; simp
    · by_cases e3 : j = 24
      · subst e3; simp
      · by_cases e4 : j < 12
        · rw [if_pos e4, if_pos e4]
        · rw [if_neg e4, if_neg e4, if_pos (by omega), if_pos (by omega)]
theorem thF_rv (T T' : Td) (fv rv sv rv' : Value) (h1 : T'.ret = T.ret) (h2 : T'.ss = T.ss) (j : Nat) (hj : j < 27) : upF (thF T fv rv sv) 25 rv' j = thF T' fv rv' sv j := by
  unfold upF thF
  rw [h1, h2]
  by_cases e : j = 25
  · subst e; simp
  · rw [if_neg e]
    by_cases e3 : j = 24
    · subst e3; simp
    · by_cases e4 : j < 12
      · rw [if_pos e4, if_pos e4]
      · rw [if_neg e4, if_neg e4]
        by_cases e5 : j < 24
        · rw [if_pos e5, if_pos e5]
        · rw [if_neg e5, if_neg e5, if_neg e3, if_neg e3, if_neg e, if_neg e]
theorem thF_fv (T T' : Td) (fv rv sv fv' : Value) (h1 : T'.ret = T.ret) (h2 : T'.ss = T.ss) (j : Nat) (hj : j < 27) : upF (thF T fv rv sv) 24 fv' j = thF T' fv' rv sv j := by
  unfold upF thF
  rw [h1, h2]
  by_cases e3 : j = 24
  · subst e3; simp
  · rw [if_neg e3]
    by_cases e4 : j < 12
    · rw [if_pos e4, if_pos e4]
    · rw [if_neg e4, if_neg e4]
      by_cases e5 : j < 24
      · rw [if_pos e5, if_pos e5]
      · rw [if_neg e5, if_neg e5, if_neg e3, if_neg e3]
theorem thF_ret (T T' : Td) (fv rv sv : Value) (L : Nat → Int) (h1 : T'.ret = L) (h2 : T'.ss = T.ss) (j : Nat) (hj : j < 27) : putF (thF T fv rv sv) 0 (ucells 12 L) j = thF T' fv rv sv j := by
  unfold putF thF
  rw [h1, h2, if_pos (Nat.zero_le _), Nat.sub_zero]
  by_cases e4 : j < 12
  · rw [ucells_get e4, if_pos e4, if_pos e4]; rfl
  · rw [List.getElem?_eq_none (by rw [ucells_len]; omega), if_neg e4, if_neg e4]; rfl
def backT (T : Td) (n : Nat) (L : Nat → Int) : Td := { T with ret := fun i => if i < n then L i else 0, nf := T.nf - 1 }
theorem u12 : ∃ d, Try.prog.underlying 44 = some d ∧ d.isRow = true := ⟨.array 12 22, by kernel_rfl, rfl⟩
theorem info12 : (Try.prog.info? 44).map (·.size) = some 12 := by kernel_rfl
theorem put0_copied (n : Nat) (L : Nat → Int) (j : Nat) (hj : j < 12) : putF (fun _ => .int .u64 0) 0 (ucells (min n 12) L) j = .int .u64 (if j < n then L j else 0) := by
  unfold putF
  rw [if_pos (Nat.zero_le _), Nat.sub_zero]
  by_cases h : j < n
  · rw [ucells_get (by omega), if_pos h]; rfl
  · rw [List.getElem?_eq_none (by rw [ucells_len]; omega), if_neg h]; rfl
set_option maxRecDepth 8000 in
set_option maxHeartbeats 1000000 in
theorem fback {w : World} {B q : Nat} {T : Td} {p : Nat → Nat} {fv rv sv v : Value} (h : ThA w B q T p fv rv sv) {n : Nat} {L : Nat → Int} (hu : UR w v n L) (hf : T.nf ≤ 1000000) :
    Calls Try.prog 63 #[.pointer (some ⟨q, 0, none⟩), v] w fun e w' => e = .returned (.tuple #[]) ∧ (∃ fv', ThA w' B q (backT T n L) p fv' rv sv ∧ (∀ j, fv'.ownBlock = some j → fv.ownBlock = some j)) ∧ KQ w w' q fv sv := by
  refine Calls.veil fun Q HQ => ?_
  have HH := Lib.hid h; have HU := Lib.hid hu
  obtain ⟨a, c, rfl, _, _⟩ := hu.slice
  obtain ⟨d, hdu, hdr⟩ := u12
  have HDU := Lib.hid hdu; have HDR := Lib.hid hdr
  clear h hu hdu hdr
  go_enter Try.func63, Try.ntmps63
  go_upto_region 2 with fail
  generalize hV : World.alloc _ _ = V
  obtain ⟨hh, hbv⟩ := heapnewE hV
  have hs : V.heap.size = w.heap.size + 1 := by rw [← hV]; simp
  have hb : Blk 44 V w.heap.size 12 (fun _ => .int .u64 0) := hh
  obtain ⟨b, hbe⟩ : ∃ b, b = w.heap.size := ⟨_, rfl⟩
  have HBE := Lib.hid hbe
  rw [← hbe] at hb hs ⊢
  have HB := Lib.hid hb
  have HBV := Lib.hid hbv
  obtain ⟨k, hcp⟩ := run_copyU (HU.out.below hbv) b 0 12 12 (hb.there 0 12 (by omega))
  clear hV hh hbe hb hbv hs
  go_upto_region 3 with fail
  generalize hW : World.setCells _ _ _ _ = W
  have hbw : Blk 44 W b 12 (fun i => .int .u64 (if i < n then L i else 0)) := by rw [← hW]; exact (Blk.setCells _ 0 V _ HB.out).congr fun j hj => put0_copied n L j hj
  have hkw : Below w.heap.size w W := by
    rw [← hW]
    have k := KS.setCells V b 0 (ucells (min n 12) L)
    exact ⟨k.os.trans HBV.out.os, k.tape.trans HBV.out.tape, k.output.trans HBV.out.output, Nat.le_trans HBV.out.size k.size, fun j hj => (k.block j (by have := HBV.out.size; omega) (by have := HBE.out; omega)).trans (HBV.out.block j hj)⟩
  have hT := HH.out.below hkw
  have HKW := Lib.hid hkw
  obtain ⟨R, hR⟩ : ∃ R : Nat → Int, R = fun i => if i < n then L i else 0 := ⟨_, rfl⟩
  have HRR := Lib.hid hR
  have hrg : W.rangeAt b 0 (ucells 12 R) := by
    have := hbw.range 0 12 (by omega)
    rw [hR]; simpa [ucells] using this
  have HRG := Lib.hid hrg
  have HTH := Lib.hid (hT.blk.there 0 12 (by omega))
  have hfin := hT.put (T' := { T with ret := R }) (KS.setCells W q 0 (ucells 12 R)) ((Blk.setCells (ucells 12 R) 0 W _ hT.blk).congr fun j hj => thF_ret T { T with ret := R } _ _ _ R rfl rfl j hj) hT.fo (fun i hi => ⟨hi, rfl⟩) hT.rw hT.so hT.s1
  have HFIN := Lib.hid hfin
  clear hW hbw hkw hT hfin hrg hcp hR HB
  go_upto_region 4 with (first | (refine wpList_load_mid rfl 44 (.tmp 4) rfl b 0 rfl (ucells 12 R) d HRG.out HDU.out HDR.out (by rw [ucells_len]; exact info12) ?_) | (refine wpList_store_mid rfl 44 (.tmp 14) (.tmp 12) rfl q 0 (ucells 12 R).toArray rfl rfl (by rw [List.size_toArray, ucells_len]; exact HTH.out) (by rw [List.size_toArray, ucells_len]; exact info12) (all_oneCell_toArray ucells_one) ?_))
  generalize World.setCells _ _ _ _ = W2 at HFIN ⊢
  have cf := HFIN.out.1.cf
  have cfr : ∀ i, W2.frozen? ⟨q, i, none⟩ = false := HFIN.out.1.blk.fr
  have fo := HFIN.out.1.fo
  simp only at fo
  rcases (by omega : T.nf = 0 ∨ 0 < T.nf) with h0 | h0
  · have HBT := Lib.hid (show ({ T with ret := R } : Td) = backT T n L by unfold backT; rw [HRR.out, show T.nf - 1 = T.nf by omega])
    rw [h0] at fo
    obtain ⟨a3, c3, hfe, _, _⟩ := fo.slice
    have HFE := Lib.hid hfe
    rw [hfe] at cf
    clear fo h0 hfe
    go_wp2_with fail
    refine bodyPost_end (v := .tuple #[]) (by simp [results, Try.results63, go_sem]) rfl ?_
    rw [HQ.out]
    have H1 := HFIN.out.1
    rw [HBT.out] at H1
    exact ⟨rfl, ⟨_, H1, fun j e => e⟩, (KQ.of_below HKW.out).trans HFIN.out.2 (fun j e => .inl e) (fun j e => .inl e)⟩
  · obtain ⟨m, hm⟩ : ∃ m, T.nf = m + 1 := ⟨T.nf - 1, by omega⟩
    have h1 := HFIN.out.1
    rw [hm] at fo
    rcases fo.parts with ⟨_, h0⟩ | ⟨g, c3, hfe, h3, h4, _⟩
    · omega
    rw [hfe] at fo cf
    have hfo := fo.take (m := m) (by omega) (by omega)
    rw [ptrs_take (by omega)] at hfo
    have hfin2 := h1.put (T' := backT T n L) (fv' := .slice (some ⟨g, 0, none⟩) m c3) (rv' := rv) (sv' := sv) (KS.set W2 q 24 _) ((h1.blk.set 24 _).congr fun j hj => thF_fv { T with ret := R } (backT T n L) _ _ _ _ (by unfold backT; rw [HRR.out]) rfl j hj) (by unfold backT; rw [hm]; exact hfo) (fun i hi => ⟨by unfold backT at hi; simp only at hi ⊢; omega, rfl⟩) h1.rw h1.so h1.s1
    have HFIN2 := Lib.hid hfin2
    have HFE := Lib.hid hfe
    have hpos : (0 : Int) < (m : Int) + 1 := by omega
    have HM := Lib.hid hm
    clear fo hfin2 h1 hfo hm h0 hfe
    go_wp2_with fail
    refine bodyPost_end (v := .tuple #[]) (by simp [results, Try.results63, go_sem]) rfl ?_
    rw [HQ.out]
    exact ⟨rfl, ⟨_, HFIN2.out.1, fun j e => by rw [HFE.out]; exact e⟩, ((KQ.of_below HKW.out).trans HFIN.out.2 (fun j e => .inl e) (fun j e => .inl e)).trans HFIN2.out.2 (fun j e => .inl e) (fun j e => .inl e)⟩
end Go.Proofs.Ytlahpnigabfenaa.Th
