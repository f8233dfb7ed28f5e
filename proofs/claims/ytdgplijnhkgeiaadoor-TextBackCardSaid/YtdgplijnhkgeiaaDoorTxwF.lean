/- Layer 35: a history as text; the walk of TextWrites. -/
import Derived.Test.YtdgplijnhkgeiaaDoorTxwE
import Derived.Test.YtdgplijnhkgeiaaDoorFrame
namespace Go.Proofs.YtdgplijnhkgeiaaDoor
open Go.RowKit
set_option linter.unusedVariables false
set_option linter.unusedSimpArgs false
open Go.Lib (itoa)
def histT (L : Nat → Ev) (n : Nat) : List UInt8 := (List.range n).flatMap fun i => eventT (L i) ++ [10]
theorem histT_succ (L : Nat → Ev) (n : Nat) : histT L (n + 1) = histT L n ++ (eventT (L n) ++ [10]) := by
  unfold histT; rw [List.range_succ, List.flatMap_append]; simp
theorem histT_len {L : Nat → Ev} : ∀ {n : Nat}, (∀ i, i < n → (eventT (L i)).length ≤ 176500) → (histT L n).length ≤ 176501 * n
  | 0, _ => by simp [histT]
  | n + 1, h => by
    have h1 := histT_len (n := n) fun i hi => h i (by omega)
    have h2 := h n (by omega)
    rw [histT_succ, List.length_append, List.length_append]; simp; omega
theorem newcell {w : World} {b : Nat} {arr : Array Value} {T : TypeId} (h : w.heap[b]? = some (.cells arr T (0, 0))) (k : Nat) (v : Value) (hk : arr[k]? = some v) : w.cell? ⟨b, k, none⟩ = some v := by
  rw [cell_of_row _ _ _ _ _ (0, 0) h]; exact hk
theorem EvC.below {w w' : World} {g o : Nat} {e : Ev} {v : Value} (h : EvC w g o e v) (k : Below w.heap.size w w') : EvC w' g o e v :=
  ⟨Ext.use (Ext.cells h.c0) k, Ext.use (Ext.cells h.c1) k, Ext.use (Ext.cells h.c2) k, Ext.use (Ext.cells h.c3) k, Ext.use (Ext.cells h.c4) k, Ext.use (Ext.cells h.c5) k, Ext.use (Ext.cells h.c6) k, Ext.use (Ext.cells h.c7) k, Ext.use (Ext.cells h.c8) k, Ext.use (Ext.cells h.c9) k, Ext.use (Ext.cells h.c10) k, Ext.use (Ext.cells h.c11) k⟩
theorem Pow.up {w W : World} (h : Pow w.heap.size w) (k : Below w.heap.size w W) : Pow W.heap.size W := fun w9 h9 => h w9 (k.trans (h9.mono k.size))
set_option maxRecDepth 16000 in
set_option maxHeartbeats 4000000 in
theorem thist {w : World} {v : Value} {n : Nat} {L : Nat → Ev} (hv : VR w v n L) (hn : n ≤ 4001) (he : ∀ i, i < n → EvI (L i)) (hl : ∀ i, i < n → (L i).an.ps.length ≤ 4001) (ht : Pow w.heap.size w) :
    Calls Tryd.prog 16 #[v] w fun e w' => e = .returned (.string ⟨(histT L n).toArray⟩) ∧ Below w.heap.size w w' := by
  refine Calls.veil fun Q HQ => ?_
  obtain ⟨p, c, rfl, hc1, hc2, HV⟩ := hv.parts
  have HE := Lib.hid he; have HL := Lib.hid hl; have HT := Lib.hid ht
  have HHL := Lib.hid (show ∀ i, i ≤ n → (histT L i).length ≤ 176501 * i from fun i hi => histT_len fun j hj => eventT_len (he j (by omega)) (hl j (by omega)))
  clear hv he hl ht
  go_enter Tryd.func16, Tryd.ntmps16
  go_upto_region 2 with fail
  generalize hV : World.alloc w _ = V
  have hbV : Below w.heap.size w V := by rw [← hV]; exact below_new (Below.refl _ _) _
  have HBB := Lib.hid (show BB w.heap.size w.heap.size [] V by rw [← hV]; exact BB.fresh w)
  have HBV := Lib.hid hbV
  obtain ⟨b, hb⟩ : ∃ b, b = w.heap.size := ⟨_, rfl⟩
  have HBB : Hid (BB w.heap.size b [] V) := Lib.hid (by rw [hb]; exact HBB.out)
  rw [← hb]
  clear hV hbV hb
  go_wp2_with fail
  go_loopw [8] (fun iv wr => ∃ i : Nat, i ≤ n ∧ iv = .int .i64 i ∧ Hid (BB w.heap.size b (histT L i) wr) ∧ Hid (Below w.heap.size w wr)) (fun iv _ => n - (intOf iv).toNat)
  case atStart => exact ⟨0, Nat.zero_le _, rfl, Lib.hid (by simpa [histT] using HBB.out), HBV⟩
  case round =>
    clear HBB HBV
    obtain ⟨i, hi, rfl, HBR, HW⟩ := hrel
    rcases (by omega : i < n ∨ i = n) with hlt | heq
    · obtain ⟨g, o, rfl, hat⟩ := HV.out (by omega)
      obtain ⟨fv, hc, hpr⟩ := hat.cells i hlt
      have HEI := Lib.hid (HE.out i hlt); have HLI := Lib.hid (HL.out i hlt)
      have HS := Lib.hid (histT_succ L i)
      have HHI := Lib.hid (HHL.out i (by omega))
      have HEL := Lib.hid (eventT_len HEI.out HLI.out)
      obtain ⟨fp, fc, rfl, _, _⟩ := hpr.slice
      have HEV := Lib.hid (fun (W : World) (k : Below w.heap.size w W) => tevent (w := W) (L i) (hpr.below k) HEI.out HLI.out (HT.out.up k))
      obtain ⟨et, het⟩ : ∃ x, x = eventT (L i) := ⟨_, rfl⟩
      rw [← het] at HS HEL HEV
      have hc := hc.below HW.out
      generalize L i = e at hc HEV
      obtain ⟨th, bk, ⟨op, key, val, hi, lim⟩, ⟨kind, akey, aval, an, ps⟩⟩ := e
      unfold evV at HEV
      simp only at HEV
      have x0 := hc.c0; have x1 := hc.c1; have x2 := hc.c2; have x3 := hc.c3; have x4 := hc.c4; have x5 := hc.c5; have x6 := hc.c6; have x7 := hc.c7; have x8 := hc.c8; have x9 := hc.c9; have x10 := hc.c10; have x11 := hc.c11
      simp only at x0 x1 x2 x3 x4 x5 x6 x7 x8 x9 x10 x11
      have hii : (i : Int) < n := by omega
      have HI41 := Lib.hid (show i ≤ 4001 by omega)
      have hw91 : wrap64 ((i : Int) + 1) = (i : Int) + 1 := by have := HI41.out; unfold wrap64; omega
      have hw92 : IntKind.i64.wrap ((i : Int) + 1) = (i : Int) + 1 := by have := HI41.out; simp only [IntKind.wrap_i64]; (try unfold wrap64); omega
      clear hc het hpr hat
      go_upto_region 5 with fail
      generalize hV : World.alloc _ _ = V2
      have v0 : V2.heap[wr.heap.size]? = some (.cells #[.int .i64 th, .bool bk, .int .i64 op, .int .i64 key, .int .i64 val, .int .i64 hi, .int .i64 lim, .int .i64 kind, .int .i64 akey, .int .i64 aval, .int .i64 an, .slice fp ps.length fc] 45 (0, 0)) := by rw [← hV]; exact heap_alloc_new _ _
      have hbV : Below wr.heap.size wr V2 := by rw [← hV]; exact below_new (Below.refl _ _) _
      have HBV2 := Lib.hid hbV
      have HWV := Lib.hid (below_on HW.out hbV)
      have HRW := Lib.hid (show w.heap.size ≤ wr.heap.size from HW.out.size)
      clear x0 x1 x2 x3 x4 x5 x6 x7 x8 x9 x10 x11
      have x0 := newcell v0 0 _ rfl; have x1 := newcell v0 1 _ rfl; have x2 := newcell v0 2 _ rfl; have x3 := newcell v0 3 _ rfl; have x4 := newcell v0 4 _ rfl; have x5 := newcell v0 5 _ rfl; have x6 := newcell v0 6 _ rfl; have x7 := newcell v0 7 _ rfl; have x8 := newcell v0 8 _ rfl; have x9 := newcell v0 9 _ rfl; have x10 := newcell v0 10 _ rfl; have x11 := newcell v0 11 _ rfl
      generalize wr.heap.size = R at HRW x0 x1 x2 x3 x4 x5 x6 x7 x8 x9 x10 x11 ⊢
      clear hV hbV v0
      go_wp2_with fail
      refine (HEV.out _ HWV.out).mono ?_; rintro _ z3 ⟨rfl, hb3⟩
      have HZ3 := Lib.hid hb3
      have HB3 := Lib.hid ((HBR.out.keep HBV2.out).keep hb3)
      have q1 : ¬ 9223372036854775807 < et.length + 1 := by have := HEL.out; omega
      clear hb3 x0 x1 x2 x3 x4 x5 x6 x7 x8 x9 x10 x11
      go_wp2_with fail
      refine (bwrite _ HB3.out (by have h1 := HHI.out; have h2 := HEL.out; have h5 : ∀ (x : ByteArray), x.size = x.data.toList.length := fun _ => by rw [Array.length_toList]; rfl
                                   rw [h5]; simp; omega) (by have h1 := HWV.out.size; have h2 := HZ3.out.size; omega)).mono ?_; rintro _ z4 ⟨rfl, hbb, hw4, ho4⟩
      have HB4 := Lib.hid (show BB w.heap.size b (histT L (i + 1)) z4 by rw [HS.out]; simpa using hbb)
      have HW4 := Lib.hid ((below_on HWV.out HZ3.out).trans hw4)
      clear hbb hw4 ho4
      go_wp2_with fail
      go_roundw
      case rel => exact ⟨i + 1, by omega, by go_num, HB4, HW4⟩
      case measure => simp [intOf]; omega
    · have hge : ¬ (i : Int) < n := by omega
      subst heq
      go_wp2_with fail
      refine (bstring HBR.out HW.out.size).mono ?_; rintro _ z9 ⟨rfl, hbb, hw1, ho1⟩
      have HF := Lib.hid (HW.out.trans hw1)
      clear hbb hw1 ho1
      go_wp2_with fail
      (try go_ret)
      rw [HQ.out]
      exact ⟨rfl, HF.out⟩
end Go.Proofs.YtdgplijnhkgeiaaDoor
