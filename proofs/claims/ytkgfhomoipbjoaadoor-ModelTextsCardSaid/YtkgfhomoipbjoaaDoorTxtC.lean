/- Layer 10: pairs as text. -/
import Derived.Test.YtkgfhomoipbjoaaDoorTxtB
import Derived.Test.YtkgfhomoipbjoaaDoorModT
namespace Go.Proofs.YtkgfhomoipbjoaaDoor
open Go.RowKit
set_option linter.unusedVariables false
set_option linter.unusedSimpArgs false
/-- The worlds in which one block stands. -/
structure EO (R : Nat) (o : Obj) where
  w : World
  h : w.heap[R]? = some o
instance (R : Nat) (o : Obj) : Nonempty (EO R o) := ⟨⟨{ (default : World) with heap := Array.replicate (R + 1) o }, by simp⟩⟩
theorem EO.cells {R : Nat} {cs : Array Value} {T : TypeId} (i : Nat) {v : Value} (h : cs[i]? = some v) : ∀ y : EO R (.cells cs T (0, 0)), y.w.cell? ⟨R, i, none⟩ = some v := fun y => by
  rw [Lib.cell_of_heap y.h]; exact h
theorem upk {w W : World} (h : Below w.heap.size w W) {b : Nat} {o : Obj} (k : w.heap[b]? = some o) : W.heap[b]? = some o := (h.block _ (Array.getElem?_eq_some_iff.1 k).1).trans k
theorem drk {w : World} {b : Nat} {o : Obj} (k : w.heap[b]? = some o) : w.drew.heap[b]? = some o := k
theorem ok_below {e : TypeId} {b : Option Nat} {w w' : World} (h : Below w.heap.size w w') : Lib.OthersKept e b w w' := fun k o hk _ _ => upk h hk
theorem BB.lt {B b : Nat} {l : List UInt8} {w : World} (h : BB B b l w) : b < w.heap.size := h.elim (fun x => x.lt) (fun x => x.lt)
def Ints (L : PL) : Prop := ∀ p ∈ L, (-9223372036854775808 ≤ p.1 ∧ p.1 ≤ 9223372036854775807) ∧ (-9223372036854775808 ≤ p.2 ∧ p.2 ≤ 9223372036854775807)
theorem Ints.ky {L : PL} (h : Ints L) {i : Nat} (hi : i < L.length) : (-9223372036854775808 ≤ ky L i ∧ ky L i ≤ 9223372036854775807) ∧ (-9223372036854775808 ≤ vl L i ∧ vl L i ≤ 9223372036854775807) := by
  have := h L[i] (List.getElem_mem hi)
  rw [ky_get hi] at this; exact this
theorem wL_take {L : PL} {i : Nat} (hi : i < L.length) : wL (L.take (i + 1)) = wL (L.take i) ++ pT (Go.Proofs.YtkgfhomoipbjoaaDoor.ky L i, vl L i) := by
  rw [take_one hi]; unfold wL; rw [List.flatMap_append]; simp
theorem wL_tlen {L : PL} (h : Ints L) (i : Nat) : (wL (L.take i)).length ≤ 44 * L.length := by
  have := wL_len (L.take i) fun p hp => h p (List.mem_of_mem_take hp)
  have h2 : (L.take i).length ≤ L.length := by simp; omega
  omega
set_option maxHeartbeats 2000000 in
theorem mwrite {w0 w : World} {b : Nat} {l : List UInt8} {L : PL} {v : Value} (h0 : Below w0.heap.size w0 w) (hp : PR w0 v L) (hn : L.length ≤ 100000) (hi : Ints L) (hb : BB w0.heap.size b l w) (hl : l.length ≤ 100000000) (ht : Pow w0.heap.size w0) :
    Calls Tryd.prog 23 #[.pointer (some ⟨b, 0, none⟩), v] w fun e w' => e = .returned (.tuple #[]) ∧ BB w0.heap.size b (l ++ wL L) w' ∧ Below w0.heap.size w w' ∧ Lib.OthersKept 5 (some b) w w' := by
  refine Calls.veil fun Q HQ => ?_
  obtain ⟨p, c, rfl, hc1, hc2, HA⟩ := hp.parts
  obtain ⟨n, hn0⟩ : ∃ n, n = L.length := ⟨_, rfl⟩
  rw [← hn0] at hn hc1 ⊢
  have HN := Lib.hid hn0
  have HI := Lib.hid hi; have HB := Lib.hid hb; have HT := Lib.hid ht; have H0 := Lib.hid h0
  clear hp hi hb ht h0 hn0
  go_enter Tryd.func23, Tryd.ntmps23
  go_wp2_with fail
  go_loopw [8] (fun iv wr => ∃ i : Nat, i ≤ n ∧ iv = .int .i64 i ∧ Hid (BB w0.heap.size b (l ++ wL (L.take i)) wr) ∧ Hid (Below w0.heap.size w wr) ∧ Hid (Lib.OthersKept 5 (some b) w wr)) (fun iv _ => n - (intOf iv).toNat)
  case atStart => exact ⟨0, Nat.zero_le _, rfl, Lib.hid (by simpa [wL] using HB.out), Lib.hid (Below.refl _ _), Lib.hid (Lib.OthersKept.refl _ _ _)⟩
  case round =>
    obtain ⟨i, hi, rfl, HBB, HBW, HOK⟩ := hrel
    rcases (by omega : i < n ∨ i = n) with hlt | heq
    · have hli : i < L.length := by have := HN.out; omega
      have HLI := Lib.hid hli
      obtain ⟨g, o, rfl, c0, c1⟩ := HA.out i hli
      have hbw := H0.out.trans HBW.out
      have c0 := Ext.cell ⟨wr, hbw⟩ c0
      have c1 := Ext.cell ⟨wr, hbw⟩ c1
      simp only at c0 c1
      have hkv := HI.out.ky hli
      obtain ⟨k, hk⟩ : ∃ k, k = ky L i := ⟨_, rfl⟩
      obtain ⟨u, hu⟩ : ∃ u, u = vl L i := ⟨_, rfl⟩
      rw [← hk] at c0 hkv; rw [← hu] at c1 hkv
      have HKV := Lib.hid hkv
      have HE := Lib.hid (show wL (L.take (i + 1)) = wL (L.take i) ++ pT (k, u) by rw [hk, hu]; exact wL_take hli)
      have HW := Lib.hid hbw
      clear hk hu hkv hli hbw
      have hii : (i : Int) < n := by omega
      go_upto_region 3 with fail
      generalize hV : World.alloc _ _ = V
      have v0 : V.heap[wr.heap.size]? = some (.cells #[.int .i64 k, .int .i64 u] 75 (0, 0)) := by rw [← hV]; exact heap_alloc_new _ _
      have hbV : Below wr.heap.size wr V := by rw [← hV]; exact below_new (Below.refl _ _) _
      have hs0 := HW.out.size
      have HBV := Lib.hid hbV
      have HWV := Lib.hid (below_on HW.out hbV)
      have HRW := Lib.hid (show w0.heap.size ≤ wr.heap.size from hs0)
      have HV0 := Lib.hid v0
      have HVW := Lib.hid (show w0.heap.size ≤ V.heap.size by have := hbV.size; omega)
      have HNE := Lib.hid (show wr.heap.size ≠ b by have := HBB.out.lt; omega)
      have x0 := EO.cells (R := wr.heap.size) (T := 75) (cs := #[.int .i64 k, .int .i64 u]) 0 rfl
      have x1 := EO.cells (R := wr.heap.size) (T := 75) (cs := #[.int .i64 k, .int .i64 u]) 1 rfl
      obtain ⟨R, hR⟩ : ∃ R, R = wr.heap.size := ⟨_, rfl⟩
      have HR := Lib.hid hR
      rw [← hR] at x0 x1 HV0 HNE ⊢
      clear hV hbV v0 hs0 c0 c1 hR
      (with_reducible refine wp_region_mix (fun w' => ∃ y : EO R (.cells #[.int .i64 k, .int .i64 u] 75 (0, 0)), w' = y.w) ?_ ?_ ?_ ?_; kernel_rfl; kernel_rfl; exact ⟨⟨V.drew, drk HV0.out⟩, rfl⟩)
      repeat (first | ((with_reducible refine mix_skip (by kernel_rfl) ?_); go_big_quiet_skip; (with_reducible refine mix_on ?_)) | ((with_reducible refine mix_plain (by kernel_rfl) ?_); (first | go_big_quiet_skip | (go_big_quiet_want; go_big_quiet_op; go_big_quiet_on)); (with_reducible refine mix_on ?_)))
      ((with_reducible refine wpMix_chain (by kernel_rfl) (by kernel_rfl) (fun K HK => ?_)); go_step)
      refine (fmt10 k HKV.out.1.1 HKV.out.1.2 (HT.out.on (HWV.out.trans (Below.refl _ _).drew))).mono ?_; rintro _ z1 ⟨rfl, hb1⟩
      have HZ1 := Lib.hid (below_on (Below.refl V.heap.size V).drew hb1)
      have HB1 := Lib.hid ((HBB.out.keep HBV.out).keep HZ1.out)
      have hr1 : z1.heap[R]? = _ := upk HZ1.out HV0.out
      have HR1 := Lib.hid hr1
      refine HK.out _ _ ⟨⟨z1, hr1⟩, rfl⟩ ?_
      clear HK K hb1 hr1
      have hk21 := Lib.itoa_length_le k HKV.out.1.1 HKV.out.1.2
      have hu21 := Lib.itoa_length_le u HKV.out.2.1 HKV.out.2.2
      obtain ⟨ks, hks⟩ : ∃ ks, ks = Lib.itoa k := ⟨_, rfl⟩
      obtain ⟨us, hus⟩ : ∃ us, us = Lib.itoa u := ⟨_, rfl⟩
      rw [← hks] at hk21 ⊢; rw [← hus] at hu21
      have HKS := Lib.hid hks; have HUS := Lib.hid hus
      have HK21 := Lib.hid hk21; have HU21 := Lib.hid hu21
      clear hks hus hk21 hu21
      have q2 : ¬ 9223372036854775807 < ks.length + 1 + us.length := by have := HK21.out; have := HU21.out; omega
      have q3 : ¬ 9223372036854775807 < ks.length + 1 + us.length + 1 := by have := HK21.out; have := HU21.out; omega
      have q1 : ¬ 9223372036854775807 < ks.length + 1 := by have := HK21.out; omega
      repeat (first | ((with_reducible refine mix_skip (by kernel_rfl) ?_); go_big_quiet_skip; (with_reducible refine mix_on ?_)) | ((with_reducible refine mix_plain (by kernel_rfl) ?_); (first | go_big_quiet_skip | (go_big_quiet_want; go_big_quiet_op; go_big_quiet_on)); (with_reducible refine mix_on ?_)))
      ((with_reducible refine wpMix_chain (by kernel_rfl) (by kernel_rfl) (fun K HK => ?_)); go_step)
      refine (fmt10 u HKV.out.2.1 HKV.out.2.2 (HT.out.on (below_on HWV.out HZ1.out))).mono ?_; rintro _ z2 ⟨rfl, hb1⟩
      have HZ2 := Lib.hid (below_on HZ1.out hb1)
      have HB2 := Lib.hid (HB1.out.keep hb1)
      have hr1 : z2.heap[R]? = _ := upk hb1 HR1.out
      have HR2 := Lib.hid hr1
      refine HK.out _ _ ⟨⟨z2, hr1⟩, rfl⟩ ?_
      clear HK K hb1 hr1
      rw [← HUS.out]
      repeat (first | ((with_reducible refine mix_skip (by kernel_rfl) ?_); go_big_quiet_skip; (with_reducible refine mix_on ?_)) | ((with_reducible refine mix_plain (by kernel_rfl) ?_); (first | go_big_quiet_skip | (go_big_quiet_want; go_big_quiet_op; go_big_quiet_on)); (with_reducible refine mix_on ?_)))
      ((with_reducible refine wpMix_chain (by kernel_rfl) (by kernel_rfl) (fun K HK => ?_)); go_step)
      have HST := Lib.hid (show ((({ data := ks.toArray } : ByteArray) ++ { data := #[58] }) ++ { data := us.toArray } ++ { data := #[44] }).data.toList = pT (k, u) by rw [HKS.out, HUS.out]; simp [pT])
      have HSZ := Lib.hid (show ((({ data := ks.toArray } : ByteArray) ++ { data := #[58] }) ++ { data := us.toArray } ++ { data := #[44] }).size ≤ 44 by
        have h1 := HK21.out; have h2 := HU21.out
        have h3 := congrArg List.length HST.out
        rw [Array.length_toList] at h3
        have h4 : (pT (k, u)).length = ks.length + 1 + us.length + 1 := by rw [HKS.out, HUS.out]; simp [pT]; omega
        have h5 : ∀ (x : ByteArray), x.size = x.data.size := fun _ => rfl
        rw [h5]; omega)
      generalize (({ data := ks.toArray } : ByteArray) ++ { data := #[58] }) ++ { data := us.toArray } ++ { data := #[44] } = str at *
      refine (bwrite str HB2.out (by have h1 := wL_tlen HI.out i; have h2 := HSZ.out; have h3 := HN.out; rw [List.length_append]; omega) (by have h1 := (HWV.out).size; have h2 := HZ2.out.size; omega)).mono ?_; rintro _ z3 ⟨rfl, hb3, hw3, ho3⟩
      have hr3 : z3.heap[R]? = _ := ho3 R _ HR2.out (by intro e; exact HNE.out (Option.some.inj e)) (by intro c fz e; injection e with _ h; exact absurd h (by decide))
      have HB3 := Lib.hid hb3
      have HW3 := Lib.hid ((HBW.out.trans (HBV.out.mono HRW.out)).trans ((HZ2.out.mono HVW.out).trans hw3))
      refine HK.out _ _ ⟨⟨z3, hr3⟩, rfl⟩ ?_
      clear HK K
      repeat (first | ((with_reducible refine mix_skip (by kernel_rfl) ?_); go_big_quiet_skip; (with_reducible refine mix_on ?_)) | ((with_reducible refine mix_plain (by kernel_rfl) ?_); (first | go_big_quiet_skip | (go_big_quiet_want; go_big_quiet_op; go_big_quiet_on)); (with_reducible refine mix_on ?_)))
      refine wpMix_nil ?_
      go_wp2_with fail
      go_roundw
      case rel => exact ⟨i + 1, by omega, by go_num, Lib.hid (by rw [HE.out, ← List.append_assoc, ← HST.out]; exact HB3.out), HW3, Lib.hid (HOK.out.trans (((ok_below HBV.out).trans (ok_below HZ2.out)).trans ho3))⟩
      case measure => simp [intOf]; omega
    · have hge : ¬ (i : Int) < n := by omega
      subst heq
      go_wp2_with fail
      refine bodyPost_end (v := .tuple #[]) (by simp [results, Tryd.results23, go_sem]) rfl ?_
      rw [HQ.out]
      have e : L.take i = L := by rw [List.take_of_length_le (by have := HN.out; omega)]
      rw [e] at HBB
      exact ⟨rfl, HBB.out, HBW.out, HOK.out⟩
end Go.Proofs.YtkgfhomoipbjoaaDoor
