/- Layer 10: EqualFunc over sessions; Same of the program. -/
import Derived.Test.YtkgfhomoipbjoaaDoorTxtE
namespace Go.Proofs.YtkgfhomoipbjoaaDoor
open Go.RowKit
set_option linter.unusedVariables false
set_option linter.unusedSimpArgs false
set_option maxRecDepth 8000 in
set_option maxHeartbeats 2000000 in
theorem mequal {w : World} {n m : Nat} {L M : Nat → Se} {tv tv' : Value} (ht : TR w tv n L) (ht' : TR w tv' m M) (hn : n ≤ 6) (hf : ∀ i, (L i).fz.length ≤ 90000) :
    Calls Tryd.prog 21 #[tv, tv', .func (.func 22) #[] #[]] w fun e w' => e = .returned (.bool (eqT n m L M)) ∧ Below w.heap.size w w' := by
  refine Calls.veil fun Q HQ => ?_
  obtain ⟨q, d, rfl, a1, a2, A3⟩ := ht.slice
  obtain ⟨q', d', rfl, b1, b2, B3⟩ := ht'.slice
  have HF := Lib.hid hf
  clear ht ht' hf
  by_cases hnm : n = m
  · subst hnm
    go_enter Tryd.func21, Tryd.ntmps21
    go_wp2_with fail
    go_loopw [17] (fun iv wr => ∃ i : Nat, i ≤ n ∧ iv = .int .i64 i ∧ Hid (∀ k, k < i → eqSe (L k) (M k) = true) ∧ Hid (Below w.heap.size w wr)) (fun iv _ => n - (intOf iv).toNat)
    case atStart => exact ⟨0, Nat.zero_le _, rfl, Lib.hid (fun k hk => absurd hk (Nat.not_lt_zero k)), Lib.hid (Below.refl _ _)⟩
    case round =>
      obtain ⟨i, hi, rfl, HE, HW⟩ := hrel
      rcases (by omega : i < n ∨ i = n) with hlt | heq
      · obtain ⟨T, fa, rfl, hA⟩ := A3.out i hlt
        obtain ⟨T', fb, rfl, hB⟩ := B3.out i hlt
        have hA := hA.below HW.out
        have hB := hB.below HW.out
        have HS := Lib.hid (msess (L i) (M i) fa fb)
        have HFA := Lib.hid hA.p.1; have HFB := Lib.hid hB.p.1
        have HFL := Lib.hid (HF.out i)
        have HI := Lib.hid hlt
        obtain ⟨bq, hbq⟩ : ∃ x, x = eqSe (L i) (M i) := ⟨_, rfl⟩
        rw [← hbq] at HS
        have HBQ := Lib.hid hbq
        generalize hs : L i = s at hA HS HFA HFL
        generalize ht : M i = t at hB HS HFB
        obtain ⟨j, o, fz, pt⟩ := s
        obtain ⟨k, u, gz, pu⟩ := t
        obtain ⟨fp, fc, rfl, _, _⟩ := hA.p.1.slice
        obtain ⟨gp, gc, rfl, _, _⟩ := hB.p.1.slice
        have x0 := hA.c0; have x1 := hA.c1; have x2 := hA.c2; have x3 := hA.c3
        have y0 := hB.c0; have y1 := hB.c1; have y2 := hB.c2; have y3 := hB.c3
        simp only at x0 x1 x2 x3 y0 y1 y2 y3 HS HFA HFB HFL
        have y0a := fun o => Ext.on y0 o; have y1a := fun o => Ext.on y1 o; have y2a := fun o => Ext.on y2 o; have y3a := fun o => Ext.on y3 o
        have hii : (i : Int) < n := by omega
        have h4 : i * 4 ≤ 24 := by omega
        clear hbq hs ht hA hB y0 y1 y2 y3
        go_upto_region 7 with fail
        generalize hV : World.alloc (World.alloc wr _) _ = V
        have hbV : Below wr.heap.size wr V := by rw [← hV]; (repeat (first | exact Below.refl _ _ | assumption | refine below_new ?_ _ | refine Below.drew ?_ | refine below_drewN ?_ _ | refine below_on ?_ (by assumption)))
        have HBV := Lib.hid hbV
        have e : wr.heap.size + 1 = (wr.alloc (.cells #[.bool j, .bool o, .slice fp fz.length fc, .int .i64 pt] 60)).heap.size := by simp
        have x0 : V.cell? ⟨wr.heap.size, 0, none⟩ = some (.bool j) := by rw [← hV]; exact Ext.made1 rfl 0 _ rfl ⟨_, Below.refl _ _⟩
        have x1 : V.cell? ⟨wr.heap.size, 1, none⟩ = some (.bool o) := by rw [← hV]; exact Ext.made1 rfl 1 _ rfl ⟨_, Below.refl _ _⟩
        have x2 : V.cell? ⟨wr.heap.size, 2, none⟩ = some (.slice fp fz.length fc) := by rw [← hV]; exact Ext.made1 rfl 2 _ rfl ⟨_, Below.refl _ _⟩
        have x3 : V.cell? ⟨wr.heap.size, 3, none⟩ = some (.int .i64 pt) := by rw [← hV]; exact Ext.made1 rfl 3 _ rfl ⟨_, Below.refl _ _⟩
        have z0 : V.cell? ⟨wr.heap.size + 1, 0, none⟩ = some (.bool k) := by rw [← hV, e]; exact Ext.made rfl 0 _ rfl ⟨_, Below.refl _ _⟩
        have z1 : V.cell? ⟨wr.heap.size + 1, 1, none⟩ = some (.bool u) := by rw [← hV, e]; exact Ext.made rfl 1 _ rfl ⟨_, Below.refl _ _⟩
        have z2 : V.cell? ⟨wr.heap.size + 1, 2, none⟩ = some (.slice gp gz.length gc) := by rw [← hV, e]; exact Ext.made rfl 2 _ rfl ⟨_, Below.refl _ _⟩
        have z3 : V.cell? ⟨wr.heap.size + 1, 3, none⟩ = some (.int .i64 pu) := by rw [← hV, e]; exact Ext.made rfl 3 _ rfl ⟨_, Below.refl _ _⟩
        clear hV hbV e y0a y1a y2a y3a
        generalize wr.heap.size + 1 = Q1 at *
        go_wp2_with fail
        refine (HS.out V (HFA.out.below HBV.out) (HFB.out.below HBV.out) HFL.out).mono ?_; rintro _ z ⟨rfl, hz⟩
        have HZ := Lib.hid (below_on (below_on HW.out HBV.out) hz)
        clear hz x0 x1 x2 x3 z0 z1 z2 z3
        cases bq with
        | true =>
          go_wp2_with fail
          go_roundw
          case rel => exact ⟨i + 1, by omega, by go_num, Lib.hid (fun k hk => by rcases (by omega : k < i ∨ k = i) with h | rfl; exact HE.out k h; exact HBQ.out.symm), HZ⟩
          case measure => simp [intOf]; omega
        | false =>
          go_wp2_with fail
          (try go_ret)
          rw [HQ.out, eqT_not HI.out HBQ.out.symm]
          exact ⟨rfl, HZ.out⟩
      · have hge : ¬ (i : Int) < n := by omega
        subst heq
        go_wp2_with fail
        (try go_ret)
        rw [HQ.out, eqT_all HE.out]
        exact ⟨rfl, HW.out⟩
  · have HE := Lib.hid (eqT_len L M hnm)
    have h1 : ((n : Int) != (m : Int)) = true := by simp; omega
    go_enter Tryd.func21, Tryd.ntmps21
    go_wp2_with fail
    (try go_ret)
    rw [HQ.out, HE.out]
    exact ⟨rfl, Below.refl _ _⟩
set_option maxHeartbeats 1000000 in
theorem msame10 {w : World} {st st' : Sm} {mv tv mv' tv' : Value} (hp : PR w mv st.mp) (ht : TR w tv st.n st.th) (hp' : PR w mv' st'.mp) (ht' : TR w tv' st'.n st'.th) (hn : st.n ≤ 6) (hl : st.mp.length ≤ 90000) (hf : ∀ i, (st.th i).fz.length ≤ 90000) :
    Calls Tryd.prog 10 #[.agg #[mv, tv], .agg #[mv', tv']] w fun e w' => e = .returned (.bool (eqS st st')) ∧ Below w.heap.size w w' := by
  refine Calls.veil fun Q HQ => ?_
  have HP := Lib.hid hp; have HP' := Lib.hid hp'; have HT := Lib.hid ht; have HT' := Lib.hid ht'
  obtain ⟨p, c, rfl, _, _⟩ := hp.slice
  obtain ⟨p', c', rfl, _, _⟩ := hp'.slice
  obtain ⟨q, d, rfl, _, _, _⟩ := ht.slice
  obtain ⟨q', d', rfl, _, _, _⟩ := ht'.slice
  have HN := Lib.hid hn; have HL := Lib.hid (show st.mp.length ≤ 100000 by omega); have HF := Lib.hid hf
  clear hp hp' ht ht' hn hl hf
  go_enter Tryd.func10, Tryd.ntmps10
  go_upto_region 1 with fail
  generalize hV : World.alloc (World.alloc w _) _ = V
  have hBV : Below w.heap.size w V := by rw [← hV]; (repeat (first | exact Below.refl _ _ | assumption | refine below_new ?_ _ | refine Below.drew ?_ | refine below_drewN ?_ _ | refine below_on ?_ (by assumption)))
  have HBV := Lib.hid hBV
  have s0 : V.cell? ⟨w.heap.size, 0, none⟩ = some (.slice p st.mp.length c) := by rw [← hV]; exact Ext.made1 rfl 0 _ rfl ⟨_, Below.refl _ _⟩
  have s1 : V.cell? ⟨w.heap.size, 1, none⟩ = some (.slice q st.n d) := by rw [← hV]; exact Ext.made1 rfl 1 _ rfl ⟨_, Below.refl _ _⟩
  have e : w.heap.size + 1 = (w.alloc (.cells #[.slice p st.mp.length c, .slice q st.n d] 27)).heap.size := by simp
  have u0 : V.cell? ⟨w.heap.size + 1, 0, none⟩ = some (.slice p' st'.mp.length c') := by
    rw [← hV, e]; exact Ext.made rfl 0 _ rfl ⟨_, Below.refl _ _⟩
  have u1 : V.cell? ⟨w.heap.size + 1, 1, none⟩ = some (.slice q' st'.n d') := by
    rw [← hV, e]; exact Ext.made rfl 1 _ rfl ⟨_, Below.refl _ _⟩
  clear hV e
  have HPV := Lib.hid (HP.out.below hBV)
  have HPV' := Lib.hid (HP'.out.below hBV)
  have HS1 := Lib.hid s1; have HU1 := Lib.hid u1
  clear hBV
  generalize w.heap.size + 1 = Q1 at *
  obtain ⟨bm, hbm⟩ : ∃ x, x = sameB st.mp st'.mp := ⟨_, rfl⟩
  have HBM := Lib.hid hbm
  clear hbm
  go_wp2_with fail
  refine (psame _ _ _ _ _ HPV.out HPV'.out HL.out).mono ?_; rintro _ wx ⟨rfl, hb0⟩
  rw [← HBM.out]
  have s1 := Ext.cell ⟨wx, hb0⟩ HS1.out
  have u1 := Ext.cell ⟨wx, hb0⟩ HU1.out
  simp only at s1 u1
  have HX0 := Lib.hid (below_on HBV.out hb0)
  clear hb0 s0 u0
  cases bm with
  | true =>
    go_wp2_with fail
    refine (mequal (HT.out.below HX0.out) (HT'.out.below HX0.out) HN.out HF.out).mono ?_; rintro _ wy ⟨rfl, hb1⟩
    have HY := Lib.hid (below_on HX0.out hb1)
    clear hb1
    go_wp2_with fail
    (try go_ret)
    rw [HQ.out, eqS_T, ← HBM.out]
    exact ⟨by simp, HY.out⟩
  | false =>
    go_wp2_with fail
    (try go_ret)
    rw [HQ.out, eqS_T, ← HBM.out]
    exact ⟨by simp, HX0.out⟩
end Go.Proofs.YtkgfhomoipbjoaaDoor
