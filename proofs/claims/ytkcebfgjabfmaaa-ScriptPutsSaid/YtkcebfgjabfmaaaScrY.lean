/- Layer 14: the reference's Put. -/
import Derived.Test.YtkcebfgjabfmaaaScrX
namespace Go.Proofs.Ytkcebfgjabfmaaa
open Go.RowKit WordM
set_option linter.unusedVariables false
set_option linter.unusedSimpArgs false
theorem own_one (w : World) (x : Int) (B : Nat) (hB : B ≤ w.heap.size) : OwnB (w.alloc (.cells #[.int .u8 x] 5)) B (.slice (some ⟨w.heap.size, 0, none⟩) 1 1) [x] :=
  ⟨rfl, .inr ⟨_, 1, _, rfl, hB, heap_alloc_new w _, Nat.le_refl _, by decide, rfl, rfl⟩⟩
set_option maxHeartbeats 4000000 in
theorem rputS (T S K : Int) (n : Nat) (L : Nat → Ent) (v : Value) (w : World) (h : ER w v n L) (hm : mayS T S K n L = true) :
    Calls Try.prog 13 #[.agg #[.int .i64 T, .int .i64 S, .int .u64 K, v]] w fun e w' => ∃ B v', e = .returned v' ∧ OwnB w' B v' (headL T S K ++ encL L n) ∧ Below w.heap.size w w' := by
  refine Calls.veil fun Q HQ => ?_
  obtain ⟨⟨t1, t2, s1, s2, k1, k2⟩, hn, hR⟩ := mayS_parts hm
  have HI1 := byte_id T (by omega) (by omega)
  have HI2 := uw_id S (by omega) (by omega)
  have HR := Lib.hid hR
  obtain ⟨p, c, rfl, a1, a2, A3⟩ := h.parts
  clear h hm hR
  go_enter Try.func13, Try.ntmps13
  go_wp2_with fail
  generalize hV : World.alloc w _ = V
  have Z : Hid (∀ x : Ext V, x.w.cell? ⟨w.heap.size, 1, none⟩ = some (.int .i64 S) ∧ x.w.cell? ⟨w.heap.size, 2, none⟩ = some (.int .u64 K) ∧ x.w.cell? ⟨w.heap.size, 3, none⟩ = some (.slice p n c)) :=
    Lib.hid fun x => ⟨Ext.made hV 1 _ rfl x, Ext.made hV 2 _ rfl x, Ext.made hV 3 _ rfl x⟩
  have HB := Lib.hid (show Below w.heap.size w V by rw [← hV]; (repeat (first | exact Below.refl _ _ | assumption | refine below_new ?_ _ | refine Below.drew ?_ | refine below_drewN ?_ _ | refine below_on ?_ (by assumption))))
  have hVs : V.heap.size = w.heap.size + 1 := by rw [← hV]; simp
  have HU := Lib.hid (show OwnB (V.alloc (.cells #[.int .u8 T] 5)) V.heap.size (.slice (some ⟨w.heap.size + 1, 0, none⟩) 1 1) [T] ∧ Below V.heap.size V (V.alloc (.cells #[.int .u8 T] 5)) by
    have h := own_one V T V.heap.size (Nat.le_refl _)
    refine ⟨?_, (Below.refl V.heap.size V).alloc (Nat.le_refl _) _⟩
    rw [← hVs]
    exact h)
  clear hV hVs
  generalize hU : World.alloc V _ = U
  rw [hU] at HU
  clear hU
  generalize w.heap.size + 1 = q at *
  refine (rnum S 2 U (by decide) (by omega) (by omega)).mono ?_; rintro _ w1 ⟨v1, rfl, o1, b1⟩
  have S1 := Lib.hid (And.intro (own_kept HU.out.1 b1) (And.intro o1 (And.intro b1.size (HU.out.2.trans (b1.mono HU.out.2.size)))))
  clear o1 b1
  go_wp2_with (at_builtin; refine wpList_append_bb rfl _ _ rfl V.heap.size _ _ _ _ _ rfl S1.out.1 rfl S1.out.2.1 (by simp [byL_len]) (by have := S1.out.2.2.2.size; omega) ?_)
  intro v2 w2 o2 hg
  have S2 := Lib.hid (And.intro o2 (grow_stepE (W := V) S1.out.1 S1.out.2.2.2 (Nat.le_refl _) hg))
  clear o2 hg S1
  have c2 := (Z.out ⟨w2, S2.out.2⟩).2.1
  simp only at c2
  go_wp2_with fail
  refine (rnum K 8 w2 (by decide) (by omega) (by omega)).mono ?_; rintro _ w3 ⟨v3, rfl, o1, b1⟩
  have S3 := Lib.hid (And.intro (own_kept S2.out.1 b1) (And.intro o1 (below_on S2.out.2 b1)))
  clear o1 b1 c2 S2
  go_wp2_with (at_builtin; refine wpList_append_bb rfl _ _ rfl V.heap.size _ _ _ _ _ rfl S3.out.1 rfl S3.out.2.1 (by simp [byL_len]) (by have := S3.out.2.2.size; omega) ?_)
  intro v4 w4 o2 hg
  have hT : T :: (byL S 2 ++ byL K 8) = headL T S K := by simp [headL, by_one T (by omega) (by omega)]
  have S4 := Lib.hid (show OwnB w4 V.heap.size v4 (headL T S K) ∧ Below V.heap.size V w4 from ⟨by first | exact o2 | (rw [← hT]; exact o2), grow_stepE (W := V) S3.out.1 S3.out.2.2 (Nat.le_refl _) hg⟩)
  clear hT
  clear o2 hg S3 HI1 HI2
  go_wp2_with fail
  go_loopw [3, 4] (fun ov iv wr => ∃ i : Nat, i ≤ n ∧ iv = .int .i64 i ∧ Hid (OwnB wr V.heap.size ov (headL T S K ++ encL L i)) ∧ Below V.heap.size V wr)
    (fun _ iv _ => n - (intOf iv).toNat)
  case atStart => exact ⟨0, by omega, rfl, by simpa [encL] using Lib.hid S4.out.1, S4.out.2⟩
  case round =>
    obtain ⟨i, hi', rfl, HJ, hbx⟩ := hrel
    have HX := Lib.hid hbx
    have c3 := (Z.out ⟨wr, hbx⟩).2.2
    simp only at c3
    clear hbx
    rcases (by omega : i < n ∨ i = n) with hlt | heq
    · obtain ⟨g, o, rfl, hA⟩ := A3.out (by omega)
      have hA := ((hA.below HB.out).below HX.out).cells i hlt
      have hr := HR.out i hlt
      have HL := Lib.hid (show (headL T S K ++ encL L i).length ≤ 1900000 by
        have := encL_len L i
        rw [List.length_append, headL_len]; omega)
      have HS := Lib.hid (show headL T S K ++ encL L (i + 1) = (headL T S K ++ encL L i) ++ entB (L i) by rw [encL, List.append_assoc])
      obtain ⟨ys1, hys1⟩ : ∃ ys1, ys1 = headL T S K ++ encL L (i + 1) := ⟨_, rfl⟩
      rw [← hys1] at HS
      have HYS := Lib.hid hys1
      clear hys1
      generalize headL T S K ++ encL L i = ys at *
      generalize L i = e at hA hr HS
      obtain ⟨th, bg, op, key, val, hi2, lim⟩ := e
      simp only at hA
      obtain ⟨x0, x1, x2, x3, x4, x5, x6⟩ := hA
      obtain ⟨th1, th2⟩ := right_bd hr
      go_upto_region 8 with fail
      generalize hU : World.alloc wr _ = U
      have ZU : Hid (∀ w', NB U w' → w'.cell? ⟨wr.heap.size, 0, none⟩ = some (.int .i64 th) ∧ w'.cell? ⟨wr.heap.size, 1, none⟩ = some (.bool bg) ∧ w'.cell? ⟨wr.heap.size, 2, none⟩ = some (.int .i64 op) ∧ w'.cell? ⟨wr.heap.size, 3, none⟩ = some (.int .i64 key) ∧ w'.cell? ⟨wr.heap.size, 4, none⟩ = some (.int .i64 val) ∧ w'.cell? ⟨wr.heap.size, 5, none⟩ = some (.int .i64 hi2) ∧ w'.cell? ⟨wr.heap.size, 6, none⟩ = some (.int .i64 lim)) := by
        refine Lib.hid fun w' k => ?_
        rw [← hU] at k
        exact ⟨made_nb (by decide) k 0 _ rfl, made_nb (by decide) k 1 _ rfl, made_nb (by decide) k 2 _ rfl, made_nb (by decide) k 3 _ rfl, made_nb (by decide) k 4 _ rfl, made_nb (by decide) k 5 _ rfl, made_nb (by decide) k 6 _ rfl⟩
      have HU := Lib.hid (show OwnB U V.heap.size _ ys ∧ Below V.heap.size V U by
        rw [← hU]
        exact ⟨World.ownsRow.alloc HJ.out _, HX.out.alloc HX.out.size _⟩)
      clear hU HJ HX x0 x1 x2 x3 x4 x5 x6 c3
      generalize wr.heap.size = b at *
      have z0 := (ZU.out U (NB.refl _)).1
      have z1 := (ZU.out U (NB.refl _)).2.1
      have z2 := (ZU.out U (NB.refl _)).2.2.1
      cases bg with
      | false =>
        have HE := Lib.hid (show ys1 = ys ++ [th] by rw [HS.out]; simp [entB, (by_th th th1 th2).1])
        have hw := byte_id th th1 (by omega)
        clear hr HS z2 ZU
        go_wp2_with (at_builtin; refine wpList_append_bc rfl _ _ rfl V.heap.size _ _ [th] rfl (World.ownsRow.alloc HU.out.1 _) ⟨U.heap.size, 0, none⟩ 1 1 rfl rfl (fun q u hq => by
          have : q = 0 := by have := (List.getElem?_eq_some_iff.1 hq).1; simpa [bcells] using this
          subst this
          simp [bcells] at hq; subst hq
          exact Ext.made_in rfl (Below.refl _ _) 0 _ rfl) (by have := HL.out; simp only [List.length_cons, List.length_nil]; omega) (by have := HU.out.2.size; simp; omega) ?_)
        intro v1 w1 hown hg
        have hb := Lib.hid (grow_stepE (W := V) (World.ownsRow.alloc HU.out.1 _) (HU.out.2.alloc HU.out.2.size _) (Nat.le_refl _) hg)
        have HJ1 : Hid (OwnB w1 V.heap.size v1 ys1) := by rw [HE.out]; exact Lib.hid hown
        clear hown hg hw z0 z1
        go_wp2_with fail
        go_roundw
        case rel => exact ⟨i + 1, by omega, by go_num, by rw [← HYS.out]; exact HJ1, hb.out⟩
        case measure => simp [intOf]; omega
      | true =>
        obtain ⟨o1, o2, l1, l2⟩ := right_call hr
        have HE := Lib.hid (show ys1 = (((((ys ++ [th + 128, op]) ++ byL (uw key) 8) ++ byL (uw val) 8) ++ byL (uw hi2) 8) ++ byL lim 2) by rw [HS.out]; simp [entB, callB, (by_th th th1 th2).2, by_one op o1 o2])
        have hw := byte_id (th + 128) (by omega) (by omega)
        have hw2 := byte_id op o1 o2
        clear hr HS
        go_wp2_with (at_builtin; refine wpList_append_bc rfl _ _ rfl V.heap.size _ _ [th + 128, op] rfl (World.ownsRow.alloc HU.out.1 _) ⟨U.heap.size, 0, none⟩ 2 2 rfl rfl (fun q u hq => by
          have : q = 0 ∨ q = 1 := by have := (List.getElem?_eq_some_iff.1 hq).1; simp [bcells] at this; omega
          rcases this with rfl | rfl
          · simp [bcells] at hq; subst hq
            exact Ext.made_in rfl (Below.refl _ _) 0 _ rfl
          · simp [bcells] at hq; subst hq
            exact Ext.made_in rfl (Below.refl _ _) 1 _ rfl) (by have := HL.out; simp only [List.length_cons, List.length_nil]; omega) (by have := HU.out.2.size; simp; omega) ?_)
        intro v1 w1 hown hg
        have HJ1 := Lib.hid (show OwnB w1 V.heap.size v1 (ys ++ [th + 128, op]) ∧ Below V.heap.size V w1 ∧ NB U w1 from ⟨hown, grow_stepE (W := V) (World.ownsRow.alloc HU.out.1 _) (HU.out.2.alloc HU.out.2.size _) (Nat.le_refl _) hg, ((NB.refl _).alloc _).grown (World.ownsRow.alloc HU.out.1 _) hg⟩)
        clear hown hg hw hw2 z0 z1 z2
        have y1 := (ZU.out w1 HJ1.out.2.2).2.2.2.1
        go_wp2_with fail
        refine (rbits key w1).mono ?_; rintro _ _ ⟨rfl, rfl⟩
        go_wp2_with fail
        refine (rnum (uw key) 8 w1 (by decide) (uw_bd _).1 (uw_bd _).2).mono ?_; rintro _ u1 ⟨t1, rfl, o5, b5⟩
        have M1 := Lib.hid (And.intro (own_kept HJ1.out.1 b5) (And.intro o5 (And.intro (below_on HJ1.out.2.1 b5) (HJ1.out.2.2.below b5))))
        clear o5 b5 y1 HJ1
        go_wp2_with (at_builtin; refine wpList_append_bb rfl _ _ rfl V.heap.size _ _ _ _ _ rfl M1.out.1 rfl M1.out.2.1 (by have := HL.out; simp [byL_len]; omega) (by have := M1.out.2.2.1.size; omega) ?_)
        intro v2 w2 o5 hg
        have HJ2 := Lib.hid (And.intro o5 (And.intro (grow_stepE (W := V) M1.out.1 M1.out.2.2.1 (Nat.le_refl _) hg) (M1.out.2.2.2.grown M1.out.1 hg)))
        clear o5 hg M1
        have y2 := (ZU.out w2 HJ2.out.2.2).2.2.2.2.1
        go_wp2_with fail
        refine (rbits val w2).mono ?_; rintro _ _ ⟨rfl, rfl⟩
        go_wp2_with fail
        refine (rnum (uw val) 8 w2 (by decide) (uw_bd _).1 (uw_bd _).2).mono ?_; rintro _ u2 ⟨t2, rfl, o5, b5⟩
        have M2 := Lib.hid (And.intro (own_kept HJ2.out.1 b5) (And.intro o5 (And.intro (below_on HJ2.out.2.1 b5) (HJ2.out.2.2.below b5))))
        clear o5 b5 y2 HJ2
        go_wp2_with (at_builtin; refine wpList_append_bb rfl _ _ rfl V.heap.size _ _ _ _ _ rfl M2.out.1 rfl M2.out.2.1 (by have := HL.out; simp [byL_len]; omega) (by have := M2.out.2.2.1.size; omega) ?_)
        intro v3 w3 o5 hg
        have HJ3 := Lib.hid (And.intro o5 (And.intro (grow_stepE (W := V) M2.out.1 M2.out.2.2.1 (Nat.le_refl _) hg) (M2.out.2.2.2.grown M2.out.1 hg)))
        clear o5 hg M2
        have y3 := (ZU.out w3 HJ3.out.2.2).2.2.2.2.2.1
        go_wp2_with fail
        refine (rbits hi2 w3).mono ?_; rintro _ _ ⟨rfl, rfl⟩
        go_wp2_with fail
        refine (rnum (uw hi2) 8 w3 (by decide) (uw_bd _).1 (uw_bd _).2).mono ?_; rintro _ u3 ⟨t3, rfl, o5, b5⟩
        have M3 := Lib.hid (And.intro (own_kept HJ3.out.1 b5) (And.intro o5 (And.intro (below_on HJ3.out.2.1 b5) (HJ3.out.2.2.below b5))))
        clear o5 b5 y3 HJ3
        go_wp2_with (at_builtin; refine wpList_append_bb rfl _ _ rfl V.heap.size _ _ _ _ _ rfl M3.out.1 rfl M3.out.2.1 (by have := HL.out; simp [byL_len]; omega) (by have := M3.out.2.2.1.size; omega) ?_)
        intro v4 w4 o5 hg
        have HJ4 := Lib.hid (And.intro o5 (And.intro (grow_stepE (W := V) M3.out.1 M3.out.2.2.1 (Nat.le_refl _) hg) (M3.out.2.2.2.grown M3.out.1 hg)))
        clear o5 hg M3
        have HI3 := uw_id lim l1 (by omega)
        have y4 := (ZU.out w4 HJ4.out.2.2).2.2.2.2.2.2
        go_wp2_with fail
        refine (rnum lim 2 w4 (by decide) (by omega) (by omega)).mono ?_; rintro _ u4 ⟨t4, rfl, o5, b5⟩
        have M4 := Lib.hid (And.intro (own_kept HJ4.out.1 b5) (And.intro o5 (And.intro (below_on HJ4.out.2.1 b5) (HJ4.out.2.2.below b5))))
        clear o5 b5 y4 HJ4
        go_wp2_with (at_builtin; refine wpList_append_bb rfl _ _ rfl V.heap.size _ _ _ _ _ rfl M4.out.1 rfl M4.out.2.1 (by have := HL.out; simp [byL_len]; omega) (by have := M4.out.2.2.1.size; omega) ?_)
        intro v5 w5 o5 hg
        have HJ5 := Lib.hid (And.intro o5 (And.intro (grow_stepE (W := V) M4.out.1 M4.out.2.2.1 (Nat.le_refl _) hg) (M4.out.2.2.2.grown M4.out.1 hg)))
        clear o5 hg M4
        have HFE := Lib.hid (show OwnB w5 V.heap.size v5 ys1 by rw [HE.out]; have h := HJ5.out.1; simpa using h)
        go_wp2_with fail
        go_roundw
        case rel => exact ⟨i + 1, by omega, by go_num, by rw [← HYS.out]; exact HFE, HJ5.out.2.1⟩
        case measure => simp [intOf]; omega
    · have HFIN := HJ.out
      rw [heq] at HFIN
      have HFIN := Lib.hid HFIN
      have hge : n ≤ i := by omega
      have HF := Lib.hid (below_on HB.out HX.out)
      clear heq
      go_wp2_with fail
      (try go_ret)
      rw [HQ.out]
      exact ⟨_, _, rfl, HFIN.out, HF.out⟩
end Go.Proofs.Ytkcebfgjabfmaaa
