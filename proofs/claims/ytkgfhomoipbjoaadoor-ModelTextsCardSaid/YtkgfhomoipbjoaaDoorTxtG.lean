/- Layer 10: whether two states are the same, of the reference. -/
import Derived.Test.YtkgfhomoipbjoaaDoorTxtF
import Derived.Test.YtkgfhomoipbjoaaDoorModR
namespace Go.Proofs.YtkgfhomoipbjoaaDoor
open Go.RowKit
set_option linter.unusedVariables false
set_option linter.unusedSimpArgs false
/-- What region 6 leaves. -/
def SamG (V : World) (s t : Se) (fa fb : Value) (p6 p7 : Value) (wc : World) : Prop :=
  ∃ R R', p6 = .pointer (some ⟨R, 0, none⟩) ∧ p7 = .pointer (some ⟨R', 0, none⟩) ∧ wc.heap[R]? = some (.cells #[.bool s.j, .bool s.o, fa, .int .i64 s.pt] 53 (0, 0)) ∧ wc.heap[R']? = some (.cells #[.bool t.j, .bool t.o, fb, .int .i64 t.pt] 53 (0, 0)) ∧ Below V.heap.size V wc
theorem samg_a {V : World} {s t : Se} {fa fb : Value} : SamG V s t fa fb (.pointer (some ⟨V.heap.size, 0, none⟩)) (.pointer (some ⟨V.heap.size + 1, 0, none⟩)) ((V.alloc (.cells #[.bool s.j, .bool s.o, fa, .int .i64 s.pt] 53)).alloc (.cells #[.bool t.j, .bool t.o, fb, .int .i64 t.pt] 53)).drew := by
  refine ⟨_, _, rfl, rfl, ?_, ?_, ?_⟩
  · exact (Below.heap_alloc _ _ _ (by simp)).trans (heap_alloc_new V _)
  · have := heap_alloc_new (V.alloc (.cells #[.bool s.j, .bool s.o, fa, .int .i64 s.pt] 53)) (.cells #[.bool t.j, .bool t.o, fb, .int .i64 t.pt] 53)
    rwa [show (V.alloc (.cells #[.bool s.j, .bool s.o, fa, .int .i64 s.pt] 53)).heap.size = V.heap.size + 1 by simp] at this
  · (repeat (first | exact Below.refl _ _ | assumption | refine below_new ?_ _ | refine Below.drew ?_ | refine below_drewN ?_ _ | refine below_on ?_ (by assumption)))
theorem samg_b {V : World} {s t : Se} {fa fb : Value} : SamG V s t fa fb (.pointer (some ⟨V.heap.size + 1, 0, none⟩)) (.pointer (some ⟨V.heap.size, 0, none⟩)) ((V.alloc (.cells #[.bool t.j, .bool t.o, fb, .int .i64 t.pt] 53)).alloc (.cells #[.bool s.j, .bool s.o, fa, .int .i64 s.pt] 53)).drew := by
  refine ⟨_, _, rfl, rfl, ?_, ?_, ?_⟩
  · have := heap_alloc_new (V.alloc (.cells #[.bool t.j, .bool t.o, fb, .int .i64 t.pt] 53)) (.cells #[.bool s.j, .bool s.o, fa, .int .i64 s.pt] 53)
    rwa [show (V.alloc (.cells #[.bool t.j, .bool t.o, fb, .int .i64 t.pt] 53)).heap.size = V.heap.size + 1 by simp] at this
  · exact (Below.heap_alloc _ _ _ (by simp)).trans (heap_alloc_new V _)
  · (repeat (first | exact Below.refl _ _ | assumption | refine below_new ?_ _ | refine Below.drew ?_ | refine below_drewN ?_ _ | refine below_on ?_ (by assumption)))
set_option maxRecDepth 16000 in
set_option maxHeartbeats 4000000 in
theorem rsame10g {w : World} {st st' : Sm} {mv tv mv' tv' : Value} (hp : PR w mv st.mp) (ht : TR w tv st.n st.th) (hp' : PR w mv' st'.mp) (ht' : TR w tv' st'.n st'.th) (ok : OkS st) :
    Calls Tryd.prog 9 #[.agg #[mv, tv], .agg #[mv', tv']] w fun e w' => e = .returned (.bool (eqS st st')) ∧ Below w.heap.size w w' := by
  refine Calls.veil fun Q HQ => ?_
  have HP := Lib.hid hp; have HP' := Lib.hid hp'
  obtain ⟨p, c, rfl, _, _⟩ := hp.slice
  obtain ⟨p', c', rfl, _, _⟩ := hp'.slice
  obtain ⟨q, d, rfl, a1, a2, A3⟩ := ht.slice
  obtain ⟨q', d', rfl, b1, b2, B3⟩ := ht'.slice
  have HOK := Lib.hid ok
  have hn6 := ok.n6
  clear hp hp' ht ht' ok
  go_enter Tryd.func9, Tryd.ntmps9
  go_upto_region 1 with fail
  generalize hV : World.alloc (World.alloc w _) _ = V
  have hBV : Below w.heap.size w V := by rw [← hV]; (repeat (first | exact Below.refl _ _ | assumption | refine below_new ?_ _ | refine Below.drew ?_ | refine below_drewN ?_ _ | refine below_on ?_ (by assumption)))
  have HBV := Lib.hid hBV
  have s0 : V.cell? ⟨w.heap.size, 0, none⟩ = some (.slice p st.mp.length c) := by rw [← hV]; exact Ext.made1 rfl 0 _ rfl ⟨_, Below.refl _ _⟩
  have s1 : V.cell? ⟨w.heap.size, 1, none⟩ = some (.slice q st.n d) := by rw [← hV]; exact Ext.made1 rfl 1 _ rfl ⟨_, Below.refl _ _⟩
  have e : w.heap.size + 1 = (w.alloc (.cells #[.slice p st.mp.length c, .slice q st.n d] 31)).heap.size := by simp
  have u0 : V.cell? ⟨w.heap.size + 1, 0, none⟩ = some (.slice p' st'.mp.length c') := by
    rw [← hV, e]; exact Ext.made rfl 0 _ rfl ⟨_, Below.refl _ _⟩
  have u1 : V.cell? ⟨w.heap.size + 1, 1, none⟩ = some (.slice q' st'.n d') := by
    rw [← hV, e]; exact Ext.made rfl 1 _ rfl ⟨_, Below.refl _ _⟩
  clear hV e
  have HPV := Lib.hid (HP.out.below hBV)
  have HPV' := Lib.hid (HP'.out.below hBV)
  have HL := Lib.hid (show st.mp.length ≤ 100000 by have := HOK.out.ml; omega)
  have HS1 := Lib.hid s1; have HU1 := Lib.hid u1
  clear hBV
  generalize w.heap.size + 1 = Q1 at *
  obtain ⟨bm, hbm⟩ : ∃ x, x = sameB st.mp st'.mp := ⟨_, rfl⟩
  have HBM := Lib.hid hbm
  clear hbm
  go_wp2_with fail
  refine (rsame _ _ _ _ _ HPV.out HPV'.out HL.out).mono ?_; rw [← HBM.out]; rintro _ wx ⟨rfl, hb0⟩
  have s1 := Ext.cell ⟨wx, hb0⟩ HS1.out
  have u1 := Ext.cell ⟨wx, hb0⟩ HU1.out
  simp only at s1 u1
  have HX0 := Lib.hid hb0
  clear hb0
  cases bm with
  | false =>
    go_wp2_with fail
    (try go_ret)
    rw [HQ.out, eqS_T, ← HBM.out]
    exact ⟨by simp, below_on HBV.out HX0.out⟩
  | true =>
  by_cases hnm : st.n = st'.n
  case neg =>
    have h1 : ((st.n : Int) != (st'.n : Int)) = true := by simp; omega
    have HE := Lib.hid (eqT_len st.th st'.th hnm)
    go_wp2_with fail
    (try go_ret)
    rw [HQ.out, eqS_T, HE.out]
    exact ⟨by simp, below_on HBV.out HX0.out⟩
  case pos =>
  have HNM := Lib.hid hnm
  rw [← hnm] at u1
  obtain ⟨M, hM⟩ : ∃ M, M = st'.th := ⟨_, rfl⟩
  have HTM := Lib.hid hM
  have B3 : Hid (∀ i, i < st.n → ∃ T fv, q' = some ⟨T, 0, none⟩ ∧ SeC w T (i * 4) (M i) fv) := Lib.hid (by rw [hM, hnm]; exact B3.out)
  rw [← hnm] at b1
  clear hM
  have hnm2 : ((st.n : Int) != (st'.n : Int)) = false := by rw [hnm]; simp
  rw [← hnm] at hnm2
  clear hnm
  go_wp2_with fail
  generalize hVW : wx = VX at *
  go_loopw [5] (fun iv wr => ∃ i : Nat, i ≤ st.n ∧ iv = .int .i64 i ∧ Hid (∀ k, k < i → eqSe (st.th k) (M k) = true) ∧ Below VX.heap.size VX wr)
    (fun iv _ => st.n - (intOf iv).toNat)
  case atStart => exact ⟨0, by omega, rfl, Lib.hid (fun k hk => absurd hk (Nat.not_lt_zero k)), Below.refl _ _⟩
  case round =>
    obtain ⟨i, hi, rfl, HEQ, hbx⟩ := hrel
    have s1 := Ext.cell ⟨wr, hbx⟩ s1; have u1 := Ext.cell ⟨wr, hbx⟩ u1
    simp only at s1 u1
    rcases (by omega : i < st.n ∨ i = st.n) with hlt | heq
    · obtain ⟨T, fa, rfl, hA⟩ := A3.out i hlt
      obtain ⟨T', fb, rfl, hB⟩ := B3.out i hlt
      have hbw := below_on HX0.out hbx
      have hA := (hA.below HBV.out).below hbw
      have hB := (hB.below HBV.out).below hbw
      have hfl := HOK.out.fl i
      have HI := Lib.hid hlt
      obtain ⟨bq, hbq⟩ : ∃ x, x = eqSe (st.th i) (M i) := ⟨_, rfl⟩
      have HBQ := Lib.hid hbq
      generalize st.th i = s at hA hfl hbq
      generalize M i = t at hB hbq
      obtain ⟨j, o, fz, pt⟩ := s
      obtain ⟨j', o', gz, pt'⟩ := t
      have HBS := Lib.hid hbq
      have x0 := hA.c0; have x1 := hA.c1; have x2 := hA.c2; have x3 := hA.c3
      have y0 := hB.c0; have y1 := hB.c1; have y2 := hB.c2; have y3 := hB.c3
      simp only at x0 x1 x2 x3 y0 y1 y2 y3 hfl
      obtain ⟨fp, fc, rfl, _, _⟩ := hA.p.1.slice
      obtain ⟨gp, gc, rfl, _, _⟩ := hB.p.1.slice
      have HFA := Lib.hid hA.p; have HFB := Lib.hid hB.p
      have HF := Lib.hid hfl
      have HX := Lib.hid hbx
      clear hbx hA hB hfl hbw hbq
      have h4 : i * 4 ≤ 24 := by omega
      go_upto_region 6 with fail
      have x0a := fun o => Ext.on x0 o; have x0b := fun o p => Ext.on (Ext.on x0 o) p
      have x1a := fun o => Ext.on x1 o; have x1b := fun o p => Ext.on (Ext.on x1 o) p
      have x2a := fun o => Ext.on x2 o; have x2b := fun o p => Ext.on (Ext.on x2 o) p
      have x3a := fun o => Ext.on x3 o; have x3b := fun o p => Ext.on (Ext.on x3 o) p
      have y0a := fun o => Ext.on y0 o; have y0b := fun o p => Ext.on (Ext.on y0 o) p
      have y1a := fun o => Ext.on y1 o; have y1b := fun o p => Ext.on (Ext.on y1 o) p
      have y2a := fun o => Ext.on y2 o; have y2b := fun o p => Ext.on (Ext.on y2 o) p
      have y3a := fun o => Ext.on y3 o; have y3b := fun o p => Ext.on (Ext.on y3 o) p
      have s1a := fun o => Ext.on s1 o; have s1b := fun o p => Ext.on (Ext.on s1 o) p
      have u1a := fun o => Ext.on u1 o; have u1b := fun o p => Ext.on (Ext.on u1 o) p
      go_cut [6, 7] from 23 to 66 (fun p6 p7 wc => SamG wr ⟨j, o, fz, pt⟩ ⟨j', o', gz, pt'⟩ (.slice fp fz.length fc) (.slice gp gz.length gc) p6 p7 wc)
      case first =>
        go_region
        all_goals
          go_wp2_with fail
          go_meet
          case rel => first | exact samg_a | exact samg_b
      case rest =>
        clear s1 u1 x0 x1 x2 x3 y0 y1 y2 y3 s1a s1b u1a u1b x0a x0b x1a x1b x2a x2b x3a x3b y0a y0b y1a y1b y2a y2b y3a y3b
        obtain ⟨R, R', rfl, rfl, h1, h2, hb2⟩ := hcut
        simp only at h1 h2
        have c0 : wc.cell? ⟨R, 0, none⟩ = some (.bool j) := by rw [cell_of_row _ _ _ _ _ (0, 0) h1]; rfl
        have c1 : wc.cell? ⟨R, 1, none⟩ = some (.bool o) := by rw [cell_of_row _ _ _ _ _ (0, 0) h1]; rfl
        have c2 : wc.cell? ⟨R, 2, none⟩ = some (.slice fp fz.length fc) := by rw [cell_of_row _ _ _ _ _ (0, 0) h1]; rfl
        have c3 : wc.cell? ⟨R, 3, none⟩ = some (.int .i64 pt) := by rw [cell_of_row _ _ _ _ _ (0, 0) h1]; rfl
        have d0 : wc.cell? ⟨R', 0, none⟩ = some (.bool j') := by rw [cell_of_row _ _ _ _ _ (0, 0) h2]; rfl
        have d1 : wc.cell? ⟨R', 1, none⟩ = some (.bool o') := by rw [cell_of_row _ _ _ _ _ (0, 0) h2]; rfl
        have d2 : wc.cell? ⟨R', 2, none⟩ = some (.slice gp gz.length gc) := by rw [cell_of_row _ _ _ _ _ (0, 0) h2]; rfl
        have d3 : wc.cell? ⟨R', 3, none⟩ = some (.int .i64 pt') := by rw [cell_of_row _ _ _ _ _ (0, 0) h2]; rfl
        have HFA2 := Lib.hid (HFA.out.below hb2)
        have HFB2 := Lib.hid (HFB.out.below hb2)
        have HX2 := Lib.hid (below_on HX.out hb2)
        have HXF := Lib.hid (below_on HBV.out (below_on HX0.out HX2.out))
        clear h1 h2 hb2
        by_cases h1 : j = j'
        case neg =>
          have HE := Lib.hid (HBS.out.trans (eqSe_j (s := ⟨j, o, fz, pt⟩) (t := ⟨j', o', gz, pt'⟩) h1))
          have h1' : (j != j') = true := by simpa using h1
          go_wp2_with fail
          (try go_ret)
          rw [HQ.out, eqS_T, ← HNM.out, ← HTM.out, eqT_not HI.out (HBQ.out.symm.trans HE.out)]
          exact ⟨by simp, HXF.out⟩
        case pos =>
        subst h1
        by_cases h2 : o = o'
        case neg =>
          have HE := Lib.hid (HBS.out.trans (eqSe_o (s := ⟨j, o, fz, pt⟩) (t := ⟨j, o', gz, pt'⟩) h2))
          have h1' : (o != o') = true := by simpa using h2
          go_wp2_with fail
          (try go_ret)
          rw [HQ.out, eqS_T, ← HNM.out, ← HTM.out, eqT_not HI.out (HBQ.out.symm.trans HE.out)]
          exact ⟨by simp, HXF.out⟩
        case pos =>
        subst h2
        by_cases h3 : pt = pt'
        case neg =>
          have HE := Lib.hid (HBS.out.trans (eqSe_p (s := ⟨j, o, fz, pt⟩) (t := ⟨j, o, gz, pt'⟩) h3))
          have h1' : (pt != pt') = true := by simpa using h3
          go_wp2_with fail
          (try go_ret)
          rw [HQ.out, eqS_T, ← HNM.out, ← HTM.out, eqT_not HI.out (HBQ.out.symm.trans HE.out)]
          exact ⟨by simp, HXF.out⟩
        case pos =>
        subst h3
        go_wp2_with fail
        refine (rsame _ _ _ _ _ HFA2.out.1 HFB2.out.1 (by have := HF.out; omega)).mono ?_; rw [← eqSe_f j o pt fz gz, ← HBS.out]; rintro _ wy ⟨rfl, hb3⟩
        have HX3 := Lib.hid (below_on HX2.out hb3)
        have HXF3 := Lib.hid (below_on HXF.out hb3)
        clear hb3
        cases bq with
        | false =>
          go_wp2_with fail
          (try go_ret)
          rw [HQ.out, eqS_T, ← HNM.out, ← HTM.out, eqT_not HI.out HBQ.out.symm]
          exact ⟨by simp, HXF3.out⟩
        | true =>
        go_wp2_with fail
        go_roundw
        case rel => exact ⟨i + 1, by omega, by go_num, Lib.hid (fun k hk => by rcases (by omega : k < i ∨ k = i) with h | rfl; exact HEQ.out k h; exact HBQ.out.symm), HX3.out⟩
        case measure => simp [intOf]; omega
    · have hge : st.n ≤ i := by omega
      have HX := Lib.hid (below_on HBV.out (below_on HX0.out hbx))
      subst heq
      clear hbx
      go_wp2_with fail
      (try go_ret)
      rw [HQ.out, eqS_T, ← HNM.out, ← HTM.out, eqT_all HEQ.out, ← HBM.out]
      exact ⟨by simp, HX.out⟩
end Go.Proofs.YtkgfhomoipbjoaaDoor
