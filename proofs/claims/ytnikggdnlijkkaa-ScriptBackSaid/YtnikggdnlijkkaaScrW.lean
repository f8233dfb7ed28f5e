/- Layer 14: script.Put. -/
import Derived.Test.YtnikggdnlijkkaaScrV
import Derived.Test.YtnikggdnlijkkaaScrJ
namespace Go.Proofs.Ytnikggdnlijkkaa
open Go.RowKit WordM
set_option linter.unusedVariables false
set_option linter.unusedSimpArgs false
def encL (L : Nat → Ent) : Nat → List Int
  | 0 => []
  | n + 1 => encL L n ++ entB (L n)
theorem encL_len (L : Nat → Ent) : ∀ n, (encL L n).length ≤ n * 28
  | 0 => by simp [encL]
  | n + 1 => by
    have h1 := encL_len L n
    have h2 := entB_len (L n)
    rw [encL, List.length_append, Nat.succ_mul]
    omega
def headL (T S K : Int) : List Int := (byL T 1 ++ byL S 2) ++ byL K 8
theorem headL_len (T S K : Int) : (headL T S K).length = 11 := by simp [headL, byL_len]
theorem mayS_parts {T S K : Int} {n : Nat} {L : Nat → Ent} (h : mayS T S K n L = true) : (1 ≤ T ∧ T ≤ 6 ∧ 7 ≤ S ∧ S ≤ 250 ∧ 1 ≤ K ∧ K ≤ 1099511627776) ∧ n ≤ 60000 ∧ ∀ i, i < n → rightE (L i) = true := by
  unfold mayS at h
  rw [Bool.and_eq_true, Bool.and_eq_true] at h
  obtain ⟨⟨h1, h2⟩, h3⟩ := h
  refine ⟨of_decide_eq_true h1, of_decide_eq_true h2, fun i hi => ?_⟩
  unfold allR at h3
  rw [List.all_eq_true] at h3
  exact h3 i (by simpa using hi)
set_option maxHeartbeats 2000000 in
theorem sputS0 (T S K : Int) (n : Nat) (L : Nat → Ent) (v : Value) (w : World) (h : ER w v n L) (hn : n ≤ 100000) (hm : mayS T S K n L = false) :
    Calls Try.prog 9 #[.agg #[.int .i64 T, .int .i64 S, .int .u64 K, v]] w fun e w' => e = .returned (.tuple #[.slice none 0 0, .int .i64 1]) ∧ Below w.heap.size w w' := by
  refine Calls.veil fun Q HQ => ?_
  have SM := fun (w1 : World) (hb1 : Below w.heap.size w w1) => smay T S K n L v w1 (h.below hb1) hn
  rw [hm] at SM
  have SM := Lib.hid SM
  obtain ⟨p, c, rfl, a1, a2⟩ := h.slice
  clear h hm
  go_enter Try.func9, Try.ntmps9
  go_wp2_with fail
  refine (SM.out _ (by (repeat (first | exact Below.refl _ _ | assumption | refine below_new ?_ _ | refine Below.drew ?_ | refine below_drewN ?_ _ | refine below_on ?_ (by assumption))))).mono ?_; rintro _ w1 ⟨rfl, hb1⟩
  have HF := Lib.hid (show Below w.heap.size w w1 from below_on (by (repeat (first | exact Below.refl _ _ | assumption | refine below_new ?_ _ | refine Below.drew ?_ | refine below_drewN ?_ _ | refine below_on ?_ (by assumption)))) hb1)
  clear hb1
  go_wp2_with fail
  (try go_ret2)
  rw [HQ.out]
  exact ⟨rfl, HF.out⟩
set_option maxHeartbeats 4000000 in
theorem sputS (T S K : Int) (n : Nat) (L : Nat → Ent) (v : Value) (w : World) (h : ER w v n L) (hm : mayS T S K n L = true) :
    Calls Try.prog 9 #[.agg #[.int .i64 T, .int .i64 S, .int .u64 K, v]] w fun e w' => ∃ B v', e = .returned (.tuple #[v', .int .i64 0]) ∧ OwnB w' B v' (headL T S K ++ encL L n) ∧ Below w.heap.size w w' := by
  refine Calls.veil fun Q HQ => ?_
  obtain ⟨⟨t1, t2, s1, s2, k1, k2⟩, hn, hR⟩ := mayS_parts hm
  have HI1 := uw_id T (by omega) (by omega)
  have HI2 := uw_id S (by omega) (by omega)
  have SM := fun (w1 : World) (hb1 : Below w.heap.size w w1) => smay T S K n L v w1 (h.below hb1) (by omega)
  rw [hm] at SM
  have SM := Lib.hid SM
  have HR := Lib.hid hR
  obtain ⟨p, c, rfl, a1, a2, A3⟩ := h.parts
  clear h hm hR
  go_enter Try.func9, Try.ntmps9
  go_wp2_with fail
  generalize hV : World.alloc w _ = V
  have z0 : ∀ x : Ext V, x.w.cell? ⟨w.heap.size, 0, none⟩ = some (.int .i64 T) := Ext.made hV 0 _ rfl
  have z1 : ∀ x : Ext V, x.w.cell? ⟨w.heap.size, 1, none⟩ = some (.int .i64 S) := Ext.made hV 1 _ rfl
  have z2 : ∀ x : Ext V, x.w.cell? ⟨w.heap.size, 2, none⟩ = some (.int .u64 K) := Ext.made hV 2 _ rfl
  have z3 : ∀ x : Ext V, x.w.cell? ⟨w.heap.size, 3, none⟩ = some (.slice p n c) := Ext.made hV 3 _ rfl
  have HB := Lib.hid (show Below w.heap.size w V by rw [← hV]; (repeat (first | exact Below.refl _ _ | assumption | refine below_new ?_ _ | refine Below.drew ?_ | refine below_drewN ?_ _ | refine below_on ?_ (by assumption))))
  clear hV
  have Z := Lib.hid (And.intro z0 (And.intro z1 (And.intro z2 z3)))
  clear z0 z1 z2 z3
  refine (SM.out V HB.out).mono ?_; rintro _ w1 ⟨rfl, hb1⟩
  have c0 := Z.out.1 ⟨w1, hb1⟩
  simp only at c0
  clear SM
  go_wp2_with fail
  refine (sputN [] 1 T (.slice none 0 0) w1 V.heap.size ⟨rfl, .inl ⟨rfl, rfl⟩⟩ hb1.size (by decide) (by omega) (by omega) (by decide)).mono ?_; rintro _ w2 ⟨v1, rfl, o1, hb2, _⟩
  have hb2 := hb1.trans hb2
  have c1 := Z.out.2.1 ⟨w2, hb2⟩
  simp only at c1
  clear c0 hb1
  go_wp2_with fail
  refine (sputN _ 2 S v1 w2 V.heap.size o1 hb2.size (by decide) (by omega) (by omega) (by simp [byL_len])).mono ?_; rintro _ w3 ⟨v2, rfl, o2, hb3, _⟩
  have hb3 := hb2.trans hb3
  have c2 := Z.out.2.2.1 ⟨w3, hb3⟩
  simp only at c2
  clear c1 hb2 o1
  go_wp2_with fail
  refine (sputN _ 8 K v2 w3 V.heap.size o2 hb3.size (by decide) (by omega) (by omega) (by simp [byL_len])).mono ?_; rintro _ w4 ⟨v3, rfl, o3, hb4, _⟩
  have hb4 := hb3.trans hb4
  have c3 := Z.out.2.2.2 ⟨w4, hb4⟩
  simp only at c3
  have HO := Lib.hid (show OwnB w4 V.heap.size v3 (headL T S K) from o3)
  have H4 := Lib.hid hb4
  clear c2 o2 o3 hb3 hb4
  go_wp2_with fail
  clear c3 HI1 HI2
  go_loopw [4, 30] (fun ov iv wr => ∃ i : Nat, i ≤ n ∧ iv = .int .i64 i ∧ Hid (OwnB wr V.heap.size ov (headL T S K ++ encL L i)) ∧ Below V.heap.size V wr)
    (fun _ iv _ => n - (intOf iv).toNat)
  case atStart => exact ⟨0, by omega, rfl, by simpa [encL] using HO, H4.out⟩
  case round =>
    obtain ⟨i, hi', rfl, HJ, hbx⟩ := hrel
    have HX := Lib.hid hbx
    clear hbx
    rcases (by omega : i < n ∨ i = n) with hlt | heq
    · obtain ⟨g, o, rfl, hA⟩ := A3.out (by omega)
      have hA := ((hA.below HB.out).below HX.out).cells i hlt
      have hr := HR.out i hlt
      have HL := Lib.hid (show (headL T S K ++ encL L i).length ≤ 1900000 by
        have := encL_len L i
        rw [List.length_append, headL_len]; omega)
      have HS := Lib.hid (show headL T S K ++ encL L (i + 1) = (headL T S K ++ encL L i) ++ entB (L i) by rw [encL, List.append_assoc])
      generalize L i = e at hA hr HS
      obtain ⟨th, bg, op, key, val, hi2, lim⟩ := e
      simp only at hA
      obtain ⟨x0, x1, x2, x3, x4, x5, x6⟩ := hA
      have HP := Lib.hid (fun w' v B h k => show _ from by cases bg with
        | false => exact sputE0 (headL T S K ++ encL L i) th op key val hi2 lim hr v w' B h k HL.out
        | true => exact sputE1 (headL T S K ++ encL L i) th op key val hi2 lim hr v w' B h k HL.out : ∀ w' v B, OwnB w' B v (headL T S K ++ encL L i) → B ≤ w'.heap.size → Calls Try.prog 20 #[v, .agg #[.int .i64 th, .bool bg, .int .i64 op, .int .i64 key, .int .i64 val, .int .i64 hi2, .int .i64 lim]] w' fun e w'' => ∃ v', e = .returned v' ∧ OwnB w'' B v' ((headL T S K ++ encL L i) ++ entB ⟨th, bg, op, key, val, hi2, lim⟩) ∧ Below B w' w'' ∧ NB w' w'')
      clear hr
      go_wp2_with fail
      refine (HP.out _ _ V.heap.size (World.ownsRow.alloc HJ.out _) (by have := HX.out.size; simp; omega)).mono ?_; rintro _ w5 ⟨v5, rfl, o5, b5, _⟩
      have HJ1 : Hid (OwnB w5 V.heap.size v5 (headL T S K ++ encL L (i + 1))) := by rw [HS.out]; exact Lib.hid o5
      have HX1 := Lib.hid ((HX.out.alloc HX.out.size _).trans b5)
      clear o5 b5 x0 x1 x2 x3 x4 x5 x6
      go_wp2_with fail
      go_roundw
      case rel => exact ⟨i + 1, by omega, by go_num, HJ1, HX1.out⟩
      case measure => simp [intOf]; omega
    · have HFIN := HJ.out
      rw [heq] at HFIN
      have HFIN := Lib.hid HFIN
      have hge : n ≤ i := by omega
      have HF := Lib.hid (below_on HB.out HX.out)
      clear heq
      go_wp2_with fail
      (try go_ret2)
      rw [HQ.out]
      exact ⟨_, _, rfl, HFIN.out, HF.out⟩
end Go.Proofs.Ytnikggdnlijkkaa
