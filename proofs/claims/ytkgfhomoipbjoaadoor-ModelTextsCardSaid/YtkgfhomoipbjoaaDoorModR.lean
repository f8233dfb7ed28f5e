/- Layer 10: two states that are the same. -/
import Derived.Test.YtkgfhomoipbjoaaDoorModM
import Derived.Deep.CutRange
import Derived.Deep.RegionWith
namespace Go.Proofs.YtkgfhomoipbjoaaDoor
open Go.RowKit
set_option linter.unusedVariables false
set_option linter.unusedSimpArgs false
theorem sameB_refl (l : PL) : sameB l l = true := by unfold sameB; simp
/-- What region 6 leaves. -/
def SamD (V : World) (s : Se) (fa fb : Value) (p6 p7 : Value) (wc : World) : Prop :=
  ∃ R R', p6 = .pointer (some ⟨R, 0, none⟩) ∧ p7 = .pointer (some ⟨R', 0, none⟩) ∧ wc.heap[R]? = some (.cells #[.bool s.j, .bool s.o, fa, .int .i64 s.pt] 53 (0, 0)) ∧ wc.heap[R']? = some (.cells #[.bool s.j, .bool s.o, fb, .int .i64 s.pt] 53 (0, 0)) ∧ Below V.heap.size V wc
theorem samd_a {V : World} {s : Se} {fa fb : Value} : SamD V s fa fb (.pointer (some ⟨V.heap.size, 0, none⟩)) (.pointer (some ⟨V.heap.size + 1, 0, none⟩)) ((V.alloc (.cells #[.bool s.j, .bool s.o, fa, .int .i64 s.pt] 53)).alloc (.cells #[.bool s.j, .bool s.o, fb, .int .i64 s.pt] 53)).drew := by
  refine ⟨_, _, rfl, rfl, ?_, ?_, ?_⟩
  · exact (Below.heap_alloc _ _ _ (by simp)).trans (heap_alloc_new V _)
  · have := heap_alloc_new (V.alloc (.cells #[.bool s.j, .bool s.o, fa, .int .i64 s.pt] 53)) (.cells #[.bool s.j, .bool s.o, fb, .int .i64 s.pt] 53)
    rwa [show (V.alloc (.cells #[.bool s.j, .bool s.o, fa, .int .i64 s.pt] 53)).heap.size = V.heap.size + 1 by simp] at this
  · (repeat (first | exact Below.refl _ _ | assumption | refine below_new ?_ _ | refine Below.drew ?_ | refine below_drewN ?_ _ | refine below_on ?_ (by assumption)))
theorem samd_b {V : World} {s : Se} {fa fb : Value} : SamD V s fa fb (.pointer (some ⟨V.heap.size + 1, 0, none⟩)) (.pointer (some ⟨V.heap.size, 0, none⟩)) ((V.alloc (.cells #[.bool s.j, .bool s.o, fb, .int .i64 s.pt] 53)).alloc (.cells #[.bool s.j, .bool s.o, fa, .int .i64 s.pt] 53)).drew := by
  refine ⟨_, _, rfl, rfl, ?_, ?_, ?_⟩
  · have := heap_alloc_new (V.alloc (.cells #[.bool s.j, .bool s.o, fb, .int .i64 s.pt] 53)) (.cells #[.bool s.j, .bool s.o, fa, .int .i64 s.pt] 53)
    rwa [show (V.alloc (.cells #[.bool s.j, .bool s.o, fb, .int .i64 s.pt] 53)).heap.size = V.heap.size + 1 by simp] at this
  · exact (Below.heap_alloc _ _ _ (by simp)).trans (heap_alloc_new V _)
  · (repeat (first | exact Below.refl _ _ | assumption | refine below_new ?_ _ | refine Below.drew ?_ | refine below_drewN ?_ _ | refine below_on ?_ (by assumption)))
set_option maxRecDepth 16000 in
set_option maxHeartbeats 4000000 in
theorem rsame10 {w : World} {st : Sm} {mv tv mv' tv' : Value} (hp : PR w mv st.mp) (ht : TR w tv st.n st.th) (hp' : PR w mv' st.mp) (ht' : TR w tv' st.n st.th) (ok : OkS st) :
    Calls Tryd.prog 9 #[.agg #[mv, tv], .agg #[mv', tv']] w fun e w' => e = .returned (.bool true) ∧ Below w.heap.size w w' := by
  refine Calls.veil fun Q HQ => ?_
  have HP := Lib.hid hp; have HP' := Lib.hid hp'
  obtain ⟨p, c, rfl, _, _⟩ := hp.slice
  obtain ⟨p', c', rfl, _, _⟩ := hp'.slice
  obtain ⟨q, d, rfl, a1, a2, A3⟩ := ht.slice
  obtain ⟨q', d', rfl, b1, b2, B3⟩ := ht'.slice
  have HOK := Lib.hid ok
  have hn6 := ok.n6
  clear hp hp' ht ht' ok
  go_enter Tryd.func9, Tryd.ntmps9
  go_upto_region 1 with fail
  generalize hV : World.alloc (World.alloc w _) _ = V
  have hBV : Below w.heap.size w V := by rw [← hV]; (repeat (first | exact Below.refl _ _ | assumption | refine below_new ?_ _ | refine Below.drew ?_ | refine below_drewN ?_ _ | refine below_on ?_ (by assumption)))
  have HBV := Lib.hid hBV
  have s0 : V.cell? ⟨w.heap.size, 0, none⟩ = some (.slice p st.mp.length c) := by rw [← hV]; exact Ext.made1 rfl 0 _ rfl ⟨_, Below.refl _ _⟩
  have s1 : V.cell? ⟨w.heap.size, 1, none⟩ = some (.slice q st.n d) := by rw [← hV]; exact Ext.made1 rfl 1 _ rfl ⟨_, Below.refl _ _⟩
  have e : w.heap.size + 1 = (w.alloc (.cells #[.slice p st.mp.length c, .slice q st.n d] 31)).heap.size := by simp
  have u0 : V.cell? ⟨w.heap.size + 1, 0, none⟩ = some (.slice p' st.mp.length c') := by
    rw [← hV, e]; exact Ext.made rfl 0 _ rfl ⟨_, Below.refl _ _⟩
  have u1 : V.cell? ⟨w.heap.size + 1, 1, none⟩ = some (.slice q' st.n d') := by
    rw [← hV, e]; exact Ext.made rfl 1 _ rfl ⟨_, Below.refl _ _⟩
  clear hV e
  have HPV := Lib.hid (HP.out.below hBV)
  have HPV' := Lib.hid (HP'.out.below hBV)
  have HL := Lib.hid (show st.mp.length ≤ 100000 by have := HOK.out.ml; omega)
  have HS1 := Lib.hid s1; have HU1 := Lib.hid u1
  clear hBV
  generalize w.heap.size + 1 = Q1 at *
  go_wp2_with fail
  refine (rsame _ _ _ _ _ HPV.out HPV'.out HL.out).mono ?_; rw [sameB_refl]; rintro _ wx ⟨rfl, hb0⟩
  have s1 := Ext.cell ⟨wx, hb0⟩ HS1.out
  have u1 := Ext.cell ⟨wx, hb0⟩ HU1.out
  simp only at s1 u1
  have HX0 := Lib.hid hb0
  clear hb0
  go_wp2_with fail
  generalize hVW : wx = VX at *
  go_loopw [5] (fun iv wr => ∃ i : Nat, i ≤ st.n ∧ iv = .int .i64 i ∧ Below VX.heap.size VX wr)
    (fun iv _ => st.n - (intOf iv).toNat)
  case atStart => exact ⟨0, by omega, rfl, Below.refl _ _⟩
  case round =>
    obtain ⟨i, hi, rfl, hbx⟩ := hrel
    have s1 := Ext.cell ⟨wr, hbx⟩ s1; have u1 := Ext.cell ⟨wr, hbx⟩ u1
    simp only at s1 u1
    rcases (by omega : i < st.n ∨ i = st.n) with hlt | heq
    · obtain ⟨T, fa, rfl, hA⟩ := A3.out i hlt
      obtain ⟨T', fb, rfl, hB⟩ := B3.out i hlt
      have hbw := below_on HX0.out hbx
      have hA := (hA.below HBV.out).below hbw
      have hB := (hB.below HBV.out).below hbw
      have hfl := HOK.out.fl i
      generalize st.th i = s at hA hB hfl
      obtain ⟨j, o, fz, pt⟩ := s
      have x0 := hA.c0; have x1 := hA.c1; have x2 := hA.c2; have x3 := hA.c3
      have y0 := hB.c0; have y1 := hB.c1; have y2 := hB.c2; have y3 := hB.c3
      simp only at x0 x1 x2 x3 y0 y1 y2 y3 hfl
      obtain ⟨fp, fc, rfl, _, _⟩ := hA.p.1.slice
      obtain ⟨gp, gc, rfl, _, _⟩ := hB.p.1.slice
      have HFA := Lib.hid hA.p; have HFB := Lib.hid hB.p
      have HF := Lib.hid hfl
      have HX := Lib.hid hbx
      clear hbx hA hB hfl hbw
      have h4 : i * 4 ≤ 24 := by omega
      go_upto_region 6 with fail
      have x0a := fun o => Ext.on x0 o; have x0b := fun o p => Ext.on (Ext.on x0 o) p
      have x1a := fun o => Ext.on x1 o; have x1b := fun o p => Ext.on (Ext.on x1 o) p
      have x2a := fun o => Ext.on x2 o; have x2b := fun o p => Ext.on (Ext.on x2 o) p
      have x3a := fun o => Ext.on x3 o; have x3b := fun o p => Ext.on (Ext.on x3 o) p
      have y0a := fun o => Ext.on y0 o; have y0b := fun o p => Ext.on (Ext.on y0 o) p
      have y1a := fun o => Ext.on y1 o; have y1b := fun o p => Ext.on (Ext.on y1 o) p
      have y2a := fun o => Ext.on y2 o; have y2b := fun o p => Ext.on (Ext.on y2 o) p
      have y3a := fun o => Ext.on y3 o; have y3b := fun o p => Ext.on (Ext.on y3 o) p
      have s1a := fun o => Ext.on s1 o; have s1b := fun o p => Ext.on (Ext.on s1 o) p
      have u1a := fun o => Ext.on u1 o; have u1b := fun o p => Ext.on (Ext.on u1 o) p
      go_cut [6, 7] from 23 to 66 (fun p6 p7 wc => SamD wr ⟨j, o, fz, pt⟩ (.slice fp fz.length fc) (.slice gp fz.length gc) p6 p7 wc)
      case first =>
        go_region
        all_goals
          go_wp2_with fail
          go_meet
          case rel => first | exact samd_a | exact samd_b
      case rest =>
        clear s1 u1 x0 x1 x2 x3 y0 y1 y2 y3 s1a s1b u1a u1b x0a x0b x1a x1b x2a x2b x3a x3b y0a y0b y1a y1b y2a y2b y3a y3b
        obtain ⟨R, R', rfl, rfl, h1, h2, hb2⟩ := hcut
        simp only at h1 h2
        have c0 : wc.cell? ⟨R, 0, none⟩ = some (.bool j) := by rw [cell_of_row _ _ _ _ _ (0, 0) h1]; rfl
        have c1 : wc.cell? ⟨R, 1, none⟩ = some (.bool o) := by rw [cell_of_row _ _ _ _ _ (0, 0) h1]; rfl
        have c2 : wc.cell? ⟨R, 2, none⟩ = some (.slice fp fz.length fc) := by rw [cell_of_row _ _ _ _ _ (0, 0) h1]; rfl
        have c3 : wc.cell? ⟨R, 3, none⟩ = some (.int .i64 pt) := by rw [cell_of_row _ _ _ _ _ (0, 0) h1]; rfl
        have d0 : wc.cell? ⟨R', 0, none⟩ = some (.bool j) := by rw [cell_of_row _ _ _ _ _ (0, 0) h2]; rfl
        have d1 : wc.cell? ⟨R', 1, none⟩ = some (.bool o) := by rw [cell_of_row _ _ _ _ _ (0, 0) h2]; rfl
        have d2 : wc.cell? ⟨R', 2, none⟩ = some (.slice gp fz.length gc) := by rw [cell_of_row _ _ _ _ _ (0, 0) h2]; rfl
        have d3 : wc.cell? ⟨R', 3, none⟩ = some (.int .i64 pt) := by rw [cell_of_row _ _ _ _ _ (0, 0) h2]; rfl
        have HFA2 := Lib.hid (HFA.out.below hb2)
        have HFB2 := Lib.hid (HFB.out.below hb2)
        have HX2 := Lib.hid (below_on HX.out hb2)
        clear h1 h2 hb2
        go_wp2_with fail
        refine (rsame _ _ _ _ _ HFA2.out.1 HFB2.out.1 (by have := HF.out; omega)).mono ?_; rw [sameB_refl]; rintro _ wy ⟨rfl, hb3⟩
        have HX3 := Lib.hid (below_on HX2.out hb3)
        clear hb3
        go_wp2_with fail
        go_roundw
        case rel => exact ⟨i + 1, by omega, by go_num, HX3.out⟩
        case measure => simp [intOf]; omega
    · have hge : st.n ≤ i := by omega
      have HX := Lib.hid (below_on HBV.out (below_on HX0.out hbx))
      clear heq hbx
      go_wp2_with fail
      (try go_ret)
      rw [HQ.out]
      exact ⟨rfl, HX.out⟩
end Go.Proofs.YtkgfhomoipbjoaaDoor
