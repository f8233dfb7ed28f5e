/- Layer 42: the reference's Least. -/
import Derived.Test.YtaammkmnhhipgaaShrN
namespace Go.Proofs.Ytaammkmnhhipgaa
open Go.RowKit
set_option linter.unusedVariables false
set_option linter.unusedSimpArgs false
theorem passF_count (P : List Ent → Bool) (q : Nat) : ∀ (n i : Nat) (l : List Ent) (a : Int) (g : Bool), a ≤ (passF P q n i l a g).2.1 ∧ (passF P q n i l a g).2.1 ≤ a + n
  | 0, i, l, a, g => ⟨Int.le_refl _, by show a ≤ a + ((0 : Nat) : Int); omega⟩
  | n + 1, i, l, a, g => by
    rw [passF]
    split
    · split
      · have := passF_count P q n i (wo l i q) (a + 1) true
        exact ⟨by omega, by omega⟩
      · have := passF_count P q n (i + q) l (a + 1) g
        exact ⟨by omega, by omega⟩
    · exact ⟨Int.le_refl _, by show a ≤ a + ((n + 1 : Nat) : Int); omega⟩
set_option maxHeartbeats 4000000 in
theorem rleast (n0 n1 n2 : Int) (l : List Ent) (v : Value) (w : World) (h : EL w v l) (hn : l.length ≤ 1000) :
    Calls Try.prog 9 #[v, .agg #[.int .i64 n0, .int .i64 n1, .int .i64 n2]] w fun e w' => ∃ v', e = .returned (.tuple #[v', .int .i64 (leastF (badN n0 n1 n2) l).2]) ∧ EL w' v' (leastF (badN n0 n1 n2) l).1 ∧ Below w.heap.size w w' := by
  refine Calls.veil fun Q HQ => ?_
  have HE := Lib.hid h
  obtain ⟨p, c, rfl, a1, a2⟩ := h.slice
  clear h
  go_enter Try.func9, Try.ntmps9
  go_wp2_with fail
  generalize hV : World.alloc w _ = V
  have NC : Hid (∀ x : Ext V, x.w.cell? ⟨w.heap.size, 0, none⟩ = some (.int .i64 n0) ∧ x.w.cell? ⟨w.heap.size, 1, none⟩ = some (.int .i64 n1) ∧ x.w.cell? ⟨w.heap.size, 2, none⟩ = some (.int .i64 n2)) :=
    Lib.hid fun x => ⟨Ext.made hV 0 _ rfl x, Ext.made hV 1 _ rfl x, Ext.made hV 2 _ rfl x⟩
  have HBV := Lib.hid (show Below w.heap.size w V by rw [← hV]; (repeat (first | exact Below.refl _ _ | assumption | refine below_new ?_ _ | refine Below.drew ?_ | refine below_drewN ?_ _ | refine below_on ?_ (by assumption))))
  have HEV := Lib.hid (HE.out.below HBV.out)
  clear hV
  refine (rbad n0 n1 n2 l _ V HEV.out hn).mono ?_; rintro _ w1 ⟨rfl, hb1⟩
  have HX1 := Lib.hid hb1
  have HE1 := Lib.hid (HEV.out.below hb1)
  clear hb1
  cases hp : badN n0 n1 n2 l with
  | false =>
    have HLF : leastF (badN n0 n1 n2) l = (l, 1) := by unfold leastF; rw [hp]; rfl
    rw [HLF] at HQ
    clear hp HLF
    have HF := Lib.hid (below_on HBV.out HX1.out)
    go_wp2_with fail
    (try go_ret2)
    rw [HQ.out]
    exact ⟨_, rfl, HE1.out, HF.out⟩
  | true =>
    have HLF := Lib.hid (show leastF (badN n0 n1 n2) l = halves (badN n0 n1 n2) (l.length / 2) (l.length / 2) l 1 by unfold leastF; rw [if_pos hp])
    rcases (by omega : l.length = 0 ∨ 0 < l.length) with h0 | h0
    · have hl : l = [] := List.eq_nil_of_length_eq_zero h0
      subst hl
      have HR : leastF (badN n0 n1 n2) [] = ([], 1) := by rw [HLF.out]; rfl
      rw [HR] at HQ
      clear hp HLF HR
      have HF := Lib.hid (below_on HBV.out HX1.out)
      go_wp2_with fail
      (try go_ret2)
      rw [HQ.out]
      exact ⟨_, rfl, HE1.out, HF.out⟩
    · clear hp
      generalize leastF (badN n0 n1 n2) l = R at HQ HLF
      have hz : ((l.length : Int) == 0) = false := by rw [beq_eq_false_iff_ne]; omega
      have HST := Lib.hid (Stand.of (badN n0 n1 n2) R (l.length / 2) (l.length / 2) l 1 (Nat.le_refl _) HLF.out.symm)
      clear HLF
      go_wp2_with fail
      go_loopw [0, 6, 7] (fun lv av sv wr => ∃ (s : Nat) (l' : List Ent) (a' : Int), sv = .int .i64 s ∧ av = .int .i64 a' ∧ s ≤ 500 ∧ l'.length ≤ l.length ∧ 0 ≤ a' ∧ a' + 1000 * ((s : Int) + l'.length + 2) ≤ 2000000 ∧ Hid (Stand (badN n0 n1 n2) R s l' a') ∧ Hid (EL wr lv l') ∧ Below V.heap.size V wr)
        (fun _ _ sv _ => (intOf sv).toNat)
      case atStart => exact ⟨l.length / 2, l, 1, by congr 1, rfl, by omega, Nat.le_refl _, by omega, by omega, HST, HE1, HX1.out⟩
      case round =>
        obtain ⟨s, l', a', rfl, rfl, hs, hl', ha0, hal, HS, HEL, hbx⟩ := hrel
        clear HST HX1 HE1
        have HX := Lib.hid hbx
        clear hbx
        obtain ⟨p', c', rfl, _, _⟩ := HEL.out.slice
        rcases (by omega : 1 < s ∨ s ≤ 1) with hlt | hge
        · have HR := Lib.hid (rpass n0 n1 n2 l' s a' (.slice p' l'.length c') wr HEL.out (by omega) (by omega) (by omega) ha0 (by omega))
          have HS2 := Lib.hid (HS.out.half hlt)
          have HW2 := Lib.hid (passF_went (badN n0 n1 n2) s (by omega) s 0 l' a' false)
          have HL2 := Lib.hid ((passF_went (badN n0 n1 n2) s (by omega) l'.length 0 l' a' false).1)
          have HU2 := Lib.hid (passF_count (badN n0 n1 n2) s l'.length 0 l' a' false)
          obtain ⟨r, hr⟩ : ∃ r, r = passF (badN n0 n1 n2) s l'.length 0 l' a' false := ⟨_, rfl⟩
          unfold passL at HS2
          rw [← hr] at HR HS2 HL2 HU2
          clear hr HS HW2
          have hu := HU2.out
          have hl2 := HL2.out
          obtain ⟨t0, t1, t2⟩ := NC.out ⟨wr, HX.out⟩
          simp only at t0 t1 t2
          go_wp2_with fail
          refine HR.out.mono ?_; rintro _ w2 ⟨v2, rfl, he2, hb2⟩
          have HE2 := Lib.hid he2
          have HX2 := Lib.hid (show Below V.heap.size V w2 from below_on HX.out hb2)
          clear he2 hb2 HR t0 t1 t2
          go_wp2_with fail
          go_roundw
          case rel => exact ⟨s / 2, r.1, r.2.1, by congr 1, rfl, by omega, by omega, by omega, by omega, HS2, HE2, HX2.out⟩
          case measure => simp [intOf]; omega
        · have HS1 : Hid (∃ m, l'.length < m ∧ ones (badN n0 n1 n2) m l' a' = R) := by
            rcases HS.out with ⟨h, _⟩ | ⟨_, h⟩
            · omega
            · exact h
          have hal2 : a' + 1000 * ((l'.length : Int) + 2) ≤ 2000000 := by omega
          clear HS
          go_wp2_with fail
          go_loopw [0, 6, 8] (fun lv av gv wz => ∃ (g : Bool) (l2 : List Ent) (a2 : Int), gv = .bool g ∧ av = .int .i64 a2 ∧ l2.length ≤ l.length ∧ 0 ≤ a2 ∧ a2 + 1000 * ((l2.length : Int) + (if g then 1 else 0)) ≤ 2000000 ∧ Hid (g = true → ∃ m, l2.length < m ∧ ones (badN n0 n1 n2) m l2 a2 = R) ∧ Hid (g = false → R = (l2, a2)) ∧ Hid (EL wz lv l2) ∧ Below V.heap.size V wz)
            (fun lv _ gv _ => (match lv with | .slice _ n _ => n | _ => 0) + (match gv with | .bool true => 1 | _ => 0))
          case atStart => exact ⟨true, l', a', rfl, rfl, hl', ha0, by simp; omega, Lib.hid (fun _ => HS1.out), Lib.hid (fun h => by cases h), HEL, HX.out⟩
          case round =>
            obtain ⟨g, l2, a2, rfl, rfl, hl2, ha2, hal3, HG1, HG2, HEL2, hby⟩ := hrel
            have HY := Lib.hid hby
            clear hby HEL HX HS1
            obtain ⟨p3, c3, rfl, _, _⟩ := HEL2.out.slice
            cases g with
            | false =>
              have hfin := HG2.out rfl
              subst hfin
              clear HG1 HG2
              have HF := Lib.hid (below_on HBV.out HY.out)
              go_wp2_with fail
              (try go_ret2)
              rw [HQ.out]
              exact ⟨_, rfl, HEL2.out, HF.out⟩
            | true =>
              simp only [if_true] at hal3
              have HR := Lib.hid (rpass n0 n1 n2 l2 1 a2 (.slice p3 l2.length c3) wr HEL2.out (by omega) (by omega) (by omega) ha2 (by omega))
              have HONE := Lib.hid (Stand.one (P := badN n0 n1 n2) (R := R) (s := 1) (l := l2) (a := a2) (.inr ⟨Nat.le_refl _, HG1.out rfl⟩) (Nat.le_refl _))
              have HW2 := Lib.hid (passF_went (badN n0 n1 n2) 1 (Nat.le_refl _) l2.length 0 l2 a2 false)
              have HU2 := Lib.hid (passF_count (badN n0 n1 n2) 1 l2.length 0 l2 a2 false)
              obtain ⟨r, hr⟩ : ∃ r, r = passF (badN n0 n1 n2) 1 l2.length 0 l2 a2 false := ⟨_, rfl⟩
              unfold passL at HONE
              rw [← hr] at HR HONE HW2 HU2
              clear hr HG1 HG2
              have hu := HU2.out
              have hl4 := HW2.out.1
              have hw : r.2.2 = true → r.1.length + 1 ≤ l2.length := fun h => by
                rcases HW2.out.2 h with e | e
                · cases e
                · exact e
              have HWW := Lib.hid hw
              clear hw
              obtain ⟨t0, t1, t2⟩ := NC.out ⟨wr, HY.out⟩
              simp only at t0 t1 t2
              go_wp2_with fail
              refine HR.out.mono ?_; rintro _ w2 ⟨v2, rfl, he2, hb2⟩
              have HE2 := Lib.hid he2
              have HX2 := Lib.hid (show Below V.heap.size V w2 from below_on HY.out hb2)
              obtain ⟨p5, c5, rfl, _, _⟩ := he2.slice
              clear he2 hb2 HR t0 t1 t2
              go_wp2_with fail
              go_roundw
              case rel =>
                refine ⟨r.2.2, r.1, r.2.1, rfl, rfl, by omega, by omega, ?_, Lib.hid (fun h => ?_), Lib.hid (fun h => HONE.out.2 h), HE2, HX2.out⟩
                · cases hg : r.2.2 with
                  | true => have := HWW.out hg; simp only [if_true]; omega
                  | false => simp only [Bool.false_eq_true, if_false]; omega
                · rcases HONE.out.1 h with ⟨h1, _⟩ | ⟨_, h1⟩
                  · omega
                  · exact h1
              case measure =>
                cases hg : r.2.2 with
                | true => have := HWW.out hg; simp; omega
                | false => simp; omega
end Go.Proofs.Ytaammkmnhhipgaa
