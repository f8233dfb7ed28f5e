/- Layer 35: a history as text; the walk of TextWrites. -/
import Derived.Test.YtgamkbinajilgaaDoorTxwE
import Derived.Test.YtgamkbinajilgaaDoorFrame
namespace Go.Proofs.YtgamkbinajilgaaDoor
open Go.RowKit
set_option linter.unusedVariables false
set_option linter.unusedSimpArgs false
open Go.Lib (itoa)
def histT (L : Nat → Ev) (n : Nat) : List UInt8 := (List.range n).flatMap fun i => eventT (L i) ++ [10]
theorem histT_succ (L : Nat → Ev) (n : Nat) : histT L (n + 1) = histT L n ++ (eventT (L n) ++ [10]) := by
  unfold histT; rw [List.range_succ, List.flatMap_append]; simp
theorem histT_len {L : Nat → Ev} : ∀ {n : Nat}, (∀ i, i < n → (eventT (L i)).length ≤ 9000) → (histT L n).length ≤ 9001 * n
  | 0, _ => by simp [histT]
  | n + 1, h => by
    have h1 := histT_len (n := n) fun i hi => h i (by omega)
    have h2 := h n (by omega)
    rw [histT_succ, List.length_append, List.length_append]; simp; omega
theorem newcell {w : World} {b : Nat} {arr : Array Value} {T : TypeId} (h : w.heap[b]? = some (.cells arr T (0, 0))) (k : Nat) (v : Value) (hk : arr[k]? = some v) : w.cell? ⟨b, k, none⟩ = some v := by
  rw [cell_of_row _ _ _ _ _ (0, 0) h]; exact hk
theorem EvC.below {w w' : World} {g o : Nat} {e : Ev} {v : Value} (h : EvC w g o e v) (k : Below w.heap.size w w') : EvC w' g o e v :=
  ⟨Ext.use (Ext.cells h.c0) k, Ext.use (Ext.cells h.c1) k, Ext.use (Ext.cells h.c2) k, Ext.use (Ext.cells h.c3) k, Ext.use (Ext.cells h.c4) k, Ext.use (Ext.cells h.c5) k, Ext.use (Ext.cells h.c6) k, Ext.use (Ext.cells h.c7) k, Ext.use (Ext.cells h.c8) k, Ext.use (Ext.cells h.c9) k, Ext.use (Ext.cells h.c10) k, Ext.use (Ext.cells h.c11) k⟩
theorem Pow.up {w W : World} (h : Pow w.heap.size w) (k : Below w.heap.size w W) : Pow W.heap.size W := fun w9 h9 => h w9 (k.trans (h9.mono k.size))
set_option maxRecDepth 16000 in
set_option maxHeartbeats 4000000 in
theorem thist {w : World} {v : Value} {n : Nat} {L : Nat → Ev} (hv : VR w v n L) (hn : n ≤ 60) (he : ∀ i, i < n → EvI (L i)) (hl : ∀ i, i < n → (L i).an.ps.length ≤ 200) (ht : Pow w.heap.size w) :
    Calls Tryd.prog 11 #[v] w fun e w' => e = .returned (.string ⟨(histT L n).toArray⟩) ∧ Below w.heap.size w w' := by
  refine Calls.veil fun Q HQ => ?_
  obtain ⟨p, c, rfl, hc1, hc2, HV⟩ := hv.parts
  have HE := Lib.hid he; have HL := Lib.hid hl; have HT := Lib.hid ht
  have HHL := Lib.hid (show ∀ i, i ≤ n → (histT L i).length ≤ 9001 * i from fun i hi => histT_len fun j hj => eventT_len (he j (by omega)) (hl j (by omega)))
  clear hv he hl ht
  go_enter Tryd.func11, Tryd.ntmps11
  go_upto_region 2 with fail
  generalize hV : World.alloc w _ = V
  have hbV : Below w.heap.size w V := by rw [← hV]; exact below_new (Below.refl _ _) _
  have HBB := Lib.hid (show BB w.heap.size w.heap.size [] V by rw [← hV]; exact BB.fresh w)
  have HBV := Lib.hid hbV
  obtain ⟨b, hb⟩ : ∃ b, b = w.heap.size := ⟨_, rfl⟩
  have HBB : Hid (BB w.heap.size b [] V) := Lib.hid (by rw [hb]; exact HBB.out)
  rw [← hb]
  clear hV hbV hb
  go_wp2_with fail
  go_loopw [8] (fun iv wr => ∃ i : Nat, i ≤ n ∧ iv = .int .i64 i ∧ Hid (BB w.heap.size b (histT L i) wr) ∧ Hid (Below w.heap.size w wr)) (fun iv _ => n - (intOf iv).toNat)
  case atStart => exact ⟨0, Nat.zero_le _, rfl, Lib.hid (by simpa [histT] using HBB.out), HBV⟩
  case round =>
    clear HBB HBV
    obtain ⟨i, hi, rfl, HBR, HW⟩ := hrel
    rcases (by omega : i < n ∨ i = n) with hlt | heq
    · obtain ⟨g, o, rfl, hat⟩ := HV.out (by omega)
      obtain ⟨fv, hc, hpr⟩ := hat.cells i hlt
      have HEI := Lib.hid (HE.out i hlt); have HLI := Lib.hid (HL.out i hlt)
      have HS := Lib.hid (histT_succ L i)
      have HHI := Lib.hid (HHL.out i (by omega))
      have HEL := Lib.hid (eventT_len HEI.out HLI.out)
      obtain ⟨fp, fc, rfl, _, _⟩ := hpr.slice
      have HEV := Lib.hid (fun (W : World) (k : Below w.heap.size w W) => tevent (w := W) (L i) (hpr.below k) HEI.out HLI.out (HT.out.up k))
      obtain ⟨et, het⟩ : ∃ x, x = eventT (L i) := ⟨_, rfl⟩
      rw [← het] at HS HEL HEV
      have hc := hc.below HW.out
      generalize L i = e at hc HEV
      obtain ⟨th, bk, ⟨op, key, val, hi, lim⟩, ⟨kind, akey, aval, an, ps⟩⟩ := e
      unfold evV at HEV
      simp only at HEV
      have x0 := hc.c0; have x1 := hc.c1; have x2 := hc.c2; have x3 := hc.c3; have x4 := hc.c4; have x5 := hc.c5; have x6 := hc.c6; have x7 := hc.c7; have x8 := hc.c8; have x9 := hc.c9; have x10 := hc.c10; have x11 := hc.c11
      simp only at x0 x1 x2 x3 x4 x5 x6 x7 x8 x9 x10 x11
      have hii : (i : Int) < n := by omega
      have hi60 : i ≤ 60 := by omega
      clear hc het hpr hat
      go_upto_region 5 with fail
      generalize hV : World.alloc _ _ = V2
      have v0 : V2.heap[wr.heap.size]? = some (.cells #[.int .i64 th, .bool bk, .int .i64 op, .int .i64 key, .int .i64 val, .int .i64 hi, .int .i64 lim, .int .i64 kind, .int .i64 akey, .int .i64 aval, .int .i64 an, .slice fp ps.length fc] 28 (0, 0)) := by rw [← hV]; exact heap_alloc_new _ _
      have hbV : Below wr.heap.size wr V2 := by rw [← hV]; exact below_new (Below.refl _ _) _
      have HBV2 := Lib.hid hbV
      have HWV := Lib.hid (below_on HW.out hbV)
      have HRW := Lib.hid (show w.heap.size ≤ wr.heap.size from HW.out.size)
      clear x0 x1 x2 x3 x4 x5 x6 x7 x8 x9 x10 x11
      have x0 := newcell v0 0 _ rfl; have x1 := newcell v0 1 _ rfl; have x2 := newcell v0 2 _ rfl; have x3 := newcell v0 3 _ rfl; have x4 := newcell v0 4 _ rfl; have x5 := newcell v0 5 _ rfl; have x6 := newcell v0 6 _ rfl; have x7 := newcell v0 7 _ rfl; have x8 := newcell v0 8 _ rfl; have x9 := newcell v0 9 _ rfl; have x10 := newcell v0 10 _ rfl; have x11 := newcell v0 11 _ rfl
      generalize wr.heap.size = R at HRW x0 x1 x2 x3 x4 x5 x6 x7 x8 x9 x10 x11 ⊢
      clear hV hbV v0
      go_wp2_with fail
      refine (HEV.out _ HWV.out).mono ?_; rintro _ z3 ⟨rfl, hb3⟩
      have HZ3 := Lib.hid hb3
      have HB3 := Lib.hid ((HBR.out.keep HBV2.out).keep hb3)
      have q1 : ¬ 9223372036854775807 < et.length + 1 := by have := HEL.out; omega
      clear hb3 x0 x1 x2 x3 x4 x5 x6 x7 x8 x9 x10 x11
      go_wp2_with fail
      refine (bwrite _ HB3.out (by have h1 := HHI.out; have h2 := HEL.out; have h5 : ∀ (x : ByteArray), x.size = x.data.toList.length := fun _ => by rw [Array.length_toList]; rfl
                                   rw [h5]; simp; omega) (by have h1 := HWV.out.size; have h2 := HZ3.out.size; omega)).mono ?_; rintro _ z4 ⟨rfl, hbb, hw4, ho4⟩
      have HB4 := Lib.hid (show BB w.heap.size b (histT L (i + 1)) z4 by rw [HS.out]; simpa using hbb)
      have HW4 := Lib.hid ((below_on HWV.out HZ3.out).trans hw4)
      clear hbb hw4 ho4
      go_wp2_with fail
      go_roundw
      case rel => exact ⟨i + 1, by omega, by go_num, HB4, HW4⟩
      case measure => simp [intOf]; omega
    · have hge : ¬ (i : Int) < n := by omega
      subst heq
      go_wp2_with fail
      refine (bstring HBR.out HW.out.size).mono ?_; rintro _ z9 ⟨rfl, hbb, hw1, ho1⟩
      have HF := Lib.hid (HW.out.trans hw1)
      clear hbb hw1 ho1
      go_wp2_with fail
      (try go_ret)
      rw [HQ.out]
      exact ⟨rfl, HF.out⟩
set_option maxRecDepth 16000 in
set_option maxHeartbeats 8000000 in
theorem textWrites_walk (v0 v1 : Value) (w : World) (s0 : Fr.okN w [.int .i64, .bool, .int .i64, .int .i64, .int .i64, .int .i64, .int .i64, .int .i64, .int .i64, .int .i64, .int .i64, .slice [.int .i64, .int .i64]] v0) (s1 : Fr.ok1 w (.slice [.int .i64, .bool, .int .i64, .int .i64, .int .i64, .int .i64, .int .i64, .int .i64, .int .i64, .int .i64, .int .i64, .slice [.int .i64, .int .i64]]) v1) (hpow : Pow w.heap.size w) :
    Calls Tryd.prog 3 #[v0, v1] w fun e w' => e = .returned (.bool true) ∧ Below w.heap.size w w' := by
  refine Calls.veil fun Q HQ => ?_
  obtain ⟨cs, rfl, h⟩ := s0
  obtain ⟨e, fv, rfl, hpr, hei⟩ := ev_cells h
  obtain ⟨n, L, hv, hel⟩ := events_open s1
  obtain ⟨p, c, rfl, hc1, hc2, HV⟩ := hv.parts
  obtain ⟨fp, fc, rfl, _, _⟩ := hpr.slice
  have HT := Lib.hid hpow; have HEL := Lib.hid hel; have HEI := Lib.hid hei; have HPR := Lib.hid hpr; have HVR := Lib.hid hv
  have HCC := Lib.hid (fun (W : World) (k : Below w.heap.size w W) => tcall (w := W) e.ca hei.part (hpow.up k))
  have HRC := Lib.hid (fun (W : World) => rcall (w := W) e.ca hei.part)
  obtain ⟨m, hm⟩ : ∃ m, m = e.an.ps.length := ⟨_, rfl⟩
  have HAA := Lib.hid (fun (hl : m ≤ 200) (W : World) (k : Below w.heap.size w W) => tanswer (w := W) e.an (hpr.below k) hei.ps (hm ▸ hl) hei.ak hei.av hei.an (hpow.up k))
  have HRA := Lib.hid (fun (hl : m ≤ 200) (W : World) (k : Below w.heap.size w W) => ranswer (w := W) e.an (hpr.below k) hei.ps (hm ▸ hl) hei.ak hei.av hei.an)
  have HTE := Lib.hid (fun (hl : m ≤ 200) (W : World) (k : Below w.heap.size w W) => tevent (w := W) e (hpr.below k) hei (hm ▸ hl) (hpow.up k))
  have HRE := Lib.hid (fun (hl : m ≤ 200) (W : World) (k : Below w.heap.size w W) => revent (w := W) e (hpr.below k) hei (hm ▸ hl))
  have HHT := Lib.hid (fun (hn : n ≤ 60) (hl : ∀ i, i < n → (L i).an.ps.length ≤ 200) (W : World) (k : Below w.heap.size w W) => thist (w := W) (hv.below k) hn hel hl (hpow.up k))
  obtain ⟨ct, hct⟩ : ∃ x, x = callT e.ca := ⟨_, rfl⟩
  obtain ⟨att, hat⟩ : ∃ x, x = answerT e.an := ⟨_, rfl⟩
  obtain ⟨et, het⟩ : ∃ x, x = eventT e := ⟨_, rfl⟩
  rw [← hct] at HCC HRC; rw [← hat] at HAA HRA; rw [← het] at HTE HRE
  rw [← hm] at HAA HRA HTE HRE
  clear s1 h hpr hei hel hpow hv hct hat het
  obtain ⟨th, bk, ⟨op, key, val, hi, lim⟩, ⟨kind, akey, aval, an, ps⟩⟩ := e
  unfold evV at HTE HRE
  simp only at HCC HRC HAA HRA HTE HRE hm
  unfold evcells cacells ancells
  simp only [List.cons_append, List.nil_append]
  rw [← hm]
  clear hm HEI HPR
  go_enter Tryd.func3, Tryd.ntmps3
  go_upto_region 1 with fail
  generalize hV : World.alloc w _ = V
  have hbV : Below w.heap.size w V := by rw [← hV]; exact below_new (Below.refl _ _) _
  have x0 : V.cell? ⟨w.heap.size, 0, none⟩ = some (.int .i64 th) := by rw [← hV]; exact Ext.made rfl 0 _ rfl ⟨_, Below.refl _ _⟩
  have x1 : V.cell? ⟨w.heap.size, 1, none⟩ = some (.bool bk) := by rw [← hV]; exact Ext.made rfl 1 _ rfl ⟨_, Below.refl _ _⟩
  have x2 : V.cell? ⟨w.heap.size, 2, none⟩ = some (.int .i64 op) := by rw [← hV]; exact Ext.made rfl 2 _ rfl ⟨_, Below.refl _ _⟩
  have x3 : V.cell? ⟨w.heap.size, 3, none⟩ = some (.int .i64 key) := by rw [← hV]; exact Ext.made rfl 3 _ rfl ⟨_, Below.refl _ _⟩
  have x4 : V.cell? ⟨w.heap.size, 4, none⟩ = some (.int .i64 val) := by rw [← hV]; exact Ext.made rfl 4 _ rfl ⟨_, Below.refl _ _⟩
  have x5 : V.cell? ⟨w.heap.size, 5, none⟩ = some (.int .i64 hi) := by rw [← hV]; exact Ext.made rfl 5 _ rfl ⟨_, Below.refl _ _⟩
  have x6 : V.cell? ⟨w.heap.size, 6, none⟩ = some (.int .i64 lim) := by rw [← hV]; exact Ext.made rfl 6 _ rfl ⟨_, Below.refl _ _⟩
  have x7 : V.cell? ⟨w.heap.size, 7, none⟩ = some (.int .i64 kind) := by rw [← hV]; exact Ext.made rfl 7 _ rfl ⟨_, Below.refl _ _⟩
  have x8 : V.cell? ⟨w.heap.size, 8, none⟩ = some (.int .i64 akey) := by rw [← hV]; exact Ext.made rfl 8 _ rfl ⟨_, Below.refl _ _⟩
  have x9 : V.cell? ⟨w.heap.size, 9, none⟩ = some (.int .i64 aval) := by rw [← hV]; exact Ext.made rfl 9 _ rfl ⟨_, Below.refl _ _⟩
  have x10 : V.cell? ⟨w.heap.size, 10, none⟩ = some (.int .i64 an) := by rw [← hV]; exact Ext.made rfl 10 _ rfl ⟨_, Below.refl _ _⟩
  have x11 : V.cell? ⟨w.heap.size, 11, none⟩ = some (.slice fp m fc) := by rw [← hV]; exact Ext.made rfl 11 _ rfl ⟨_, Below.refl _ _⟩
  have HBV := Lib.hid hbV
  clear hV hbV
  generalize w.heap.size = X at x0 x1 x2 x3 x4 x5 x6 x7 x8 x9 x10 x11 ⊢
  rcases (by omega : 60 < n ∨ n ≤ 60) with j | j
  · go_wp2_with fail
    refine (lives35_calls (HT.out.up (HBV.out))).mono ?_; rintro _ z9 ⟨rfl, hb⟩
    go_wp2_with fail
    (try go_ret)
    rw [HQ.out]
    exact ⟨rfl, below_on (HBV.out) hb⟩
  rcases (by omega : 200 < m ∨ m ≤ 200) with j2 | j2
  · go_wp2_with fail
    refine (lives35_calls (HT.out.up (HBV.out))).mono ?_; rintro _ z9 ⟨rfl, hb⟩
    go_wp2_with fail
    (try go_ret)
    rw [HQ.out]
    exact ⟨rfl, below_on (HBV.out) hb⟩
  have HJ := Lib.hid j; have HJ2 := Lib.hid j2
  have HX := Lib.hid (And.intro x0 (And.intro x1 (And.intro x2 (And.intro x3 (And.intro x4 (And.intro x5 (And.intro x6 (And.intro x7 (And.intro x8 (And.intro x9 (And.intro x10 x11)))))))))))
  go_wp2_with fail
  clear x0 x1 x2 x3 x4 x5 x6 x7 x8 x9 x10 x11
  go_loopw [5, 6] (fun sv iv wr => ∃ i : Nat, i ≤ n ∧ iv = .int .i64 i ∧ sv = .string ⟨(histT L i).toArray⟩ ∧ Hid (∀ j, j < i → (L j).an.ps.length ≤ 200) ∧ Hid (Below V.heap.size V wr)) (fun _ iv _ => n - (intOf iv).toNat)
  case atStart => exact ⟨0, Nat.zero_le _, rfl, by simp [histT], Lib.hid (fun j hj => absurd hj (Nat.not_lt_zero j)), Lib.hid (Below.refl _ _)⟩
  case round =>
    obtain ⟨i, hi2, rfl, rfl, HLL, HW⟩ := hrel
    rcases (by omega : i < n ∨ i = n) with hlt | heq
    · obtain ⟨g, o, rfl, hat⟩ := HV.out (by omega)
      obtain ⟨fv, hc, hpr⟩ := hat.cells i hlt
      have HEI := Lib.hid (HEL.out i hlt)
      have HS := Lib.hid (histT_succ L i)
      obtain ⟨gp, gc, rfl, _, _⟩ := hpr.slice
      have hc := (hc.below HBV.out).below HW.out
      obtain ⟨mi, hmi⟩ : ∃ x, x = (L i).an.ps.length := ⟨_, rfl⟩
      have HMI := Lib.hid hmi
      have HRE2 := Lib.hid (fun (hl : mi ≤ 200) (W : World) (k : Below w.heap.size w W) => revent (w := W) (L i) (hpr.below k) HEI.out (hmi ▸ hl))
      have HEL2 := Lib.hid (fun (hl : mi ≤ 200) => eventT_len HEI.out (hmi ▸ hl))
      have HHI := Lib.hid (show (histT L i).length ≤ 9001 * i from histT_len fun j hj => eventT_len (HEL.out j (by omega)) (HLL.out j hj))
      obtain ⟨et2, het⟩ : ∃ x, x = eventT (L i) := ⟨_, rfl⟩
      rw [← het] at HS HEL2 HRE2
      rw [← hmi] at hc HRE2
      generalize histT L i = hs at HS HHI ⊢
      have hi60 : i ≤ 60 := by omega
      have HHS := Lib.hid (show hs.length ≤ 600000 by have := HHI.out; omega)
      generalize L i = e2 at hc HRE2
      obtain ⟨th2, bk2, ⟨op2, key2, val2, hi2', lim2⟩, ⟨kind2, akey2, aval2, an2, ps2⟩⟩ := e2
      unfold evV at HRE2
      simp only at HRE2
      have c0 := hc.c0; have c1 := hc.c1; have c2 := hc.c2; have c3 := hc.c3; have c4 := hc.c4; have c5 := hc.c5; have c6 := hc.c6; have c7 := hc.c7; have c8 := hc.c8; have c9 := hc.c9; have c10 := hc.c10; have c11 := hc.c11
      simp only at c0 c1 c2 c3 c4 c5 c6 c7 c8 c9 c10 c11
      have hii : (i : Int) < n := by omega
      clear hc het hpr hat hmi HHI
      rcases (by omega : 200 < mi ∨ mi ≤ 200) with j3 | j3
      · go_wp2_with fail
        refine (lives35_calls (HT.out.up (below_on HBV.out HW.out))).mono ?_; rintro _ z9 ⟨rfl, hb⟩
        go_wp2_with fail
        (try go_ret)
        rw [HQ.out]
        exact ⟨rfl, below_on (below_on HBV.out HW.out) hb⟩
      · go_wp2_with fail
        refine (HRE2.out j3 _ (below_on HBV.out HW.out)).mono ?_; rintro _ z3 ⟨rfl, hb3⟩
        have HZ3 := Lib.hid hb3
        have HE9 := Lib.hid (HEL2.out j3)
        have q1 : ¬ 9223372036854775807 < hs.length + et2.length := by have h1 := HHS.out; have h2 := HE9.out; omega
        have q2 : ¬ 9223372036854775807 < hs.length + et2.length + 1 := by have h1 := HHS.out; have h2 := HE9.out; omega
        have HJ3 := Lib.hid j3
        clear hb3 c0 c1 c2 c3 c4 c5 c6 c7 c8 c9 c10 c11
        go_wp2_with fail
        go_roundw
        case rel => exact ⟨i + 1, by omega, by go_num, by rw [HS.out]; exact strE (by simp), Lib.hid (fun j hj => by rcases (by omega : j < i ∨ j = i) with h | rfl; exact HLL.out j h; rw [← HMI.out]; exact HJ3.out), Lib.hid (below_on HW.out HZ3.out)⟩
        case measure => simp [intOf]; omega
    · have hge : ¬ (i : Int) < n := by omega
      subst heq
      obtain ⟨hs, hhs⟩ : ∃ x, x = histT L i := ⟨_, rfl⟩
      have HH := Lib.hid (HHT.out HJ.out HLL.out)
      rw [← hhs] at HH ⊢
      clear hhs
      obtain ⟨x0, x1, x2, x3, x4, x5, x6, x7, x8, x9, x10, x11⟩ := HX.out
      have x0 := Ext.cell ⟨wr, HW.out⟩ x0; have x1 := Ext.cell ⟨wr, HW.out⟩ x1; have x2 := Ext.cell ⟨wr, HW.out⟩ x2; have x3 := Ext.cell ⟨wr, HW.out⟩ x3; have x4 := Ext.cell ⟨wr, HW.out⟩ x4; have x5 := Ext.cell ⟨wr, HW.out⟩ x5; have x6 := Ext.cell ⟨wr, HW.out⟩ x6; have x7 := Ext.cell ⟨wr, HW.out⟩ x7; have x8 := Ext.cell ⟨wr, HW.out⟩ x8; have x9 := Ext.cell ⟨wr, HW.out⟩ x9; have x10 := Ext.cell ⟨wr, HW.out⟩ x10; have x11 := Ext.cell ⟨wr, HW.out⟩ x11
      simp only at x0 x1 x2 x3 x4 x5 x6 x7 x8 x9 x10 x11
      go_upto_region 10 with fail
      have y0 := Ext.cells x0; have y1 := Ext.cells x1; have y2 := Ext.cells x2; have y3 := Ext.cells x3; have y4 := Ext.cells x4; have y5 := Ext.cells x5; have y6 := Ext.cells x6; have y7 := Ext.cells x7; have y8 := Ext.cells x8; have y9 := Ext.cells x9; have y10 := Ext.cells x10; have y11 := Ext.cells x11
      have HWR := Lib.hid (below_on HBV.out HW.out)
      clear x0 x1 x2 x3 x4 x5 x6 x7 x8 x9 x10 x11
      (with_reducible refine wp_region_mix (fun w' => ∃ y : Ext wr, w' = y.w) ?_ ?_ ?_ ?_; kernel_rfl; kernel_rfl; exact ⟨⟨wr.drew, (Below.refl _ _).drew⟩, rfl⟩)
      have HP0 := Lib.hid ((Below.refl wr.heap.size wr).drew)
      repeat (first | ((with_reducible refine mix_skip (by kernel_rfl) ?_); go_big_quiet_skip; (with_reducible refine mix_on ?_)) | ((with_reducible refine mix_plain (by kernel_rfl) ?_); (first | go_big_quiet_skip | (go_big_quiet_want; go_big_quiet_op; go_big_quiet_on)); (with_reducible refine mix_on ?_)))
      ((with_reducible refine wpMix_chain (by kernel_rfl) (by kernel_rfl) (fun K HK => ?_)); go_step)
      refine (HCC.out _ (below_on HWR.out HP0.out)).mono ?_; rintro _ z0 ⟨rfl, hb1⟩
      have HP1 := Lib.hid (below_on HP0.out hb1)
      refine HK.out _ _ ⟨⟨z0, HP1.out⟩, rfl⟩ ?_
      clear HK K hb1
      repeat (first | ((with_reducible refine mix_skip (by kernel_rfl) ?_); go_big_quiet_skip; (with_reducible refine mix_on ?_)) | ((with_reducible refine mix_plain (by kernel_rfl) ?_); (first | go_big_quiet_skip | (go_big_quiet_want; go_big_quiet_op; go_big_quiet_on)); (with_reducible refine mix_on ?_)))
      ((with_reducible refine wpMix_chain (by kernel_rfl) (by kernel_rfl) (fun K HK => ?_)); go_step)
      refine (HRC.out _).mono ?_; rintro _ z1 ⟨rfl, hb1⟩
      have HP2 := Lib.hid (below_on HP1.out hb1)
      refine HK.out _ _ ⟨⟨z1, HP2.out⟩, rfl⟩ ?_
      clear HK K hb1
      repeat (first | ((with_reducible refine mix_skip (by kernel_rfl) ?_); go_big_quiet_skip; (with_reducible refine mix_on ?_)) | ((with_reducible refine mix_plain (by kernel_rfl) ?_); (first | go_big_quiet_skip | (go_big_quiet_want; go_big_quiet_op; go_big_quiet_on)); (with_reducible refine mix_on ?_)))
      ((with_reducible refine wpMix_chain (by kernel_rfl) (by kernel_rfl) (fun K HK => ?_)); go_step)
      refine (HAA.out HJ2.out _ (below_on HWR.out HP2.out)).mono ?_; rintro _ z2 ⟨rfl, hb1⟩
      have HP3 := Lib.hid (below_on HP2.out hb1)
      refine HK.out _ _ ⟨⟨z2, HP3.out⟩, rfl⟩ ?_
      clear HK K hb1
      repeat (first | ((with_reducible refine mix_skip (by kernel_rfl) ?_); go_big_quiet_skip; (with_reducible refine mix_on ?_)) | ((with_reducible refine mix_plain (by kernel_rfl) ?_); (first | go_big_quiet_skip | (go_big_quiet_want; go_big_quiet_op; go_big_quiet_on)); (with_reducible refine mix_on ?_)))
      ((with_reducible refine wpMix_chain (by kernel_rfl) (by kernel_rfl) (fun K HK => ?_)); go_step)
      refine (HRA.out HJ2.out _ (below_on HWR.out HP3.out)).mono ?_; rintro _ z3 ⟨rfl, hb1⟩
      have HP4 := Lib.hid (below_on HP3.out hb1)
      refine HK.out _ _ ⟨⟨z3, HP4.out⟩, rfl⟩ ?_
      clear HK K hb1
      repeat (first | ((with_reducible refine mix_skip (by kernel_rfl) ?_); go_big_quiet_skip; (with_reducible refine mix_on ?_)) | ((with_reducible refine mix_plain (by kernel_rfl) ?_); (first | go_big_quiet_skip | (go_big_quiet_want; go_big_quiet_op; go_big_quiet_on)); (with_reducible refine mix_on ?_)))
      ((with_reducible refine wpMix_chain (by kernel_rfl) (by kernel_rfl) (fun K HK => ?_)); go_step)
      refine (HTE.out HJ2.out _ (below_on HWR.out HP4.out)).mono ?_; rintro _ z4 ⟨rfl, hb1⟩
      have HP5 := Lib.hid (below_on HP4.out hb1)
      refine HK.out _ _ ⟨⟨z4, HP5.out⟩, rfl⟩ ?_
      clear HK K hb1
      repeat (first | ((with_reducible refine mix_skip (by kernel_rfl) ?_); go_big_quiet_skip; (with_reducible refine mix_on ?_)) | ((with_reducible refine mix_plain (by kernel_rfl) ?_); (first | go_big_quiet_skip | (go_big_quiet_want; go_big_quiet_op; go_big_quiet_on)); (with_reducible refine mix_on ?_)))
      ((with_reducible refine wpMix_chain (by kernel_rfl) (by kernel_rfl) (fun K HK => ?_)); go_step)
      refine (HRE.out HJ2.out _ (below_on HWR.out HP5.out)).mono ?_; rintro _ z5 ⟨rfl, hb1⟩
      have HP6 := Lib.hid (below_on HP5.out hb1)
      refine HK.out _ _ ⟨⟨z5, HP6.out⟩, rfl⟩ ?_
      clear HK K hb1
      repeat (first | ((with_reducible refine mix_skip (by kernel_rfl) ?_); go_big_quiet_skip; (with_reducible refine mix_on ?_)) | ((with_reducible refine mix_plain (by kernel_rfl) ?_); (first | go_big_quiet_skip | (go_big_quiet_want; go_big_quiet_op; go_big_quiet_on)); (with_reducible refine mix_on ?_)))
      ((with_reducible refine wpMix_chain (by kernel_rfl) (by kernel_rfl) (fun K HK => ?_)); go_step)
      refine (HH.out _ (below_on HWR.out HP6.out)).mono ?_; rintro _ z6 ⟨rfl, hb1⟩
      have HP7 := Lib.hid (below_on HP6.out hb1)
      refine HK.out _ _ ⟨⟨z6, HP7.out⟩, rfl⟩ ?_
      clear HK K hb1
      repeat (first | ((with_reducible refine mix_skip (by kernel_rfl) ?_); go_big_quiet_skip; (with_reducible refine mix_on ?_)) | ((with_reducible refine mix_plain (by kernel_rfl) ?_); (first | go_big_quiet_skip | (go_big_quiet_want; go_big_quiet_op; go_big_quiet_on)); (with_reducible refine mix_on ?_)))
      ((with_reducible refine wpMix_chain (by kernel_rfl) (by kernel_rfl) (fun K HK => ?_)); go_step)
      refine (lives35_calls (HT.out.up (below_on HWR.out HP7.out))).mono ?_; rintro _ z7 ⟨rfl, hb1⟩
      have HP8 := Lib.hid (below_on HP7.out hb1)
      refine HK.out _ _ ⟨⟨z7, HP8.out⟩, rfl⟩ ?_
      clear HK K hb1
      repeat (first | ((with_reducible refine mix_skip (by kernel_rfl) ?_); go_big_quiet_skip; (with_reducible refine mix_on ?_)) | ((with_reducible refine mix_plain (by kernel_rfl) ?_); (first | go_big_quiet_skip | (go_big_quiet_want; go_big_quiet_op; go_big_quiet_on)); (with_reducible refine mix_on ?_)))
      refine wpMix_nil ?_
      go_wp2_with fail
      (try go_ret)
      rw [HQ.out]
      exact ⟨rfl, below_on HWR.out HP8.out⟩
end Go.Proofs.YtgamkbinajilgaaDoor
