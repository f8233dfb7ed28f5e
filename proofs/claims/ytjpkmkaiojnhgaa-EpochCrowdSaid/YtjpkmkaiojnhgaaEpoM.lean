/- Layer 18: the walk of EpochGoes. -/
import Derived.Test.YtjpkmkaiojnhgaaEpoT
namespace Go.Proofs.Ytjpkmkaiojnhgaa
open Go.RowKit WordM EdgeM
set_option linter.unusedVariables false
set_option linter.unusedSimpArgs false
theorem int_cells {w : World} {cs : List Value} (h : Fr.Sh.oks w [.int .i64] cs) : ∃ x : Int, cs = [.int .i64 x] := by
  obtain ⟨_, _, rfl, k0, h⟩ := Fr.get_cons h
  obtain rfl := Fr.get_nil h
  obtain ⟨x, rfl, _⟩ := Fr.get_int k0
  exact ⟨x, rfl⟩
theorem il_open {w : World} {v : Value} (h : Fr.ok1 w (.slice [.int .i64]) v) : ∃ ao len cap, v = .slice ao len cap ∧ len ≤ cap ∧ cap ≤ 9223372036854775807 ∧ ∀ i, i < len → ∃ g off, ao = some ⟨g, off, none⟩ ∧ ∃ x : Int, w.cell? ⟨g, off + i, none⟩ = some (.int .i64 x) := by
  rcases Fr.get_slice h with rfl | ⟨a, len, cap, rfl, h1, h2, h3⟩
  · exact ⟨none, 0, 0, rfl, Nat.le_refl _, by decide, fun i hi => by omega⟩
  · refine ⟨some a, len, cap, rfl, h1, h2, fun i hi => ?_⟩
    obtain ⟨cs0, h5, h6⟩ := h3 0 (by omega)
    obtain ⟨x, rfl⟩ := int_cells h6
    have hs : a.spot = none := by
      have h7 := (World.cells?_some h5).2.2 0 (by decide)
      exact World.cell?_spot (by simpa [Addr.add] using h7)
    obtain ⟨g, off, spot⟩ := a
    simp only at hs
    subst hs
    obtain ⟨cs, h5, h6⟩ := h3 i (by omega)
    obtain ⟨x, rfl⟩ := int_cells h6
    obtain ⟨_, _, h7⟩ := World.cells?_some h5
    have e : ((⟨g, off, none⟩ : Addr).add (i * [Fr.Sh.int .i64].length)) = ⟨g, off + i, none⟩ := by
      simp [Addr.add] <;> (intro hh; subst hh; rfl)
    rw [e] at h7
    exact ⟨g, off, rfl, x, by simpa [Addr.add] using h7 0 (by decide)⟩
theorem may75 {T : Int} (h : mayC T 7 5 = false) : T < 1 ∨ 6 < T := by
  unfold mayC at h
  simp at h
  omega
theorem lags0 (e : Int) : lagsB 0 e = false := by unfold lagsB oddB; simp
theorem lagsA {e : Int} (h0 : 0 ≤ e) (h1 : e < 9223372036854775808) : lagsB (actI e) e = false := by
  unfold lagsB oddB actI
  have h2 : e % 9223372036854775808 = e := Int.emod_eq_of_lt h0 h1
  rw [h2]
  have h3 : (1 + 2 * e) % 2 = 1 := by omega
  have h4 : (1 + 2 * e) / 2 = e := by omega
  rw [h3, h4]; simp
theorem aI_inj {i j : Nat} (h : aI i = aI j) : i = j := by unfold aI at h; omega
theorem aI_1 (i : Nat) : aI i ≠ 1 := by unfold aI; omega
theorem partF_1 (t c s : Nat) : partF t c s 1 = 3 := by unfold partF; rfl
theorem partF_a {t c s j : Nat} (h : j < t) : partF t c s (aI j) = 0 := by
  unfold partF aI
  rw [if_neg (by omega), if_neg (by omega), if_neg (by omega), if_pos (by omega)]
structure GI (P : Pc) (σ : Sg) (x : Int) (i : Nat) : Prop where
  f1 : σ.f 1 = x
  xi : 3 ≤ x ∧ x ≤ 3 + i
  act : ∀ j, j < P.t → σ.f (aI j) = 0
  idle : ∀ j, j < P.t → (σ.Ts j).nf = 0 ∧ (σ.Ts j).ss 1 = .bool false
  ac : 0 ≤ σ.acc ∧ σ.acc ≤ 20 * i ∧ 0 ≤ σ.steps ∧ σ.steps ≤ 20 * i
  ok : σ.flt = false ∧ σ.sl = 0 ∧ σ.odd = false
theorem GI.le {P : Pc} {σ : Sg} {x : Int} {i j : Nat} (h : GI P σ x i) (hj : i ≤ j) : GI P σ x j := ⟨h.f1, by have := h.xi; omega, h.act, h.idle, by have := h.ac; omega, h.ok⟩
/-- A thread enters, advances and leaves. -/
theorem GI.go {P : Pc} {σ σ1 σ2 σ3 : Sg} {x : Int} {i k : Nat} (h : GI P σ x i) (hk : k < P.t) (ht : P.t ≤ 6) (h1 : EOut σ σ1 k (Mm.upd σ.f (aI k) (actI (σ.f 1))) 3 0 (.int .u64 (σ.f 1 - 1))) {s3 s4 : Value} (h2 : EOut σ1 σ2 k (Mm.upd σ1.f 1 (σ1.f 1 + 1)) (P.t + 2) 1 s3) (h3 : EOut σ2 σ3 k (Mm.upd σ2.f (aI k) 0) 1 0 s4) : GI P σ3 (x + 1) (i + 1) := by
  have e1 := h1.ac; have e2 := h2.ac; have e3 := h3.ac; have e0 := h.ac; have hx := h.xi
  have f11 : σ1.f 1 = x := by rw [h1.f]; unfold Mm.upd; rw [if_neg (Ne.symm (aI_1 k))]; exact h.f1
  refine ⟨?_, by omega, fun j hj => ?_, fun j hj => ?_, by omega, ?_⟩
  · rw [h3.f, h2.f]; unfold Mm.upd; rw [if_neg (Ne.symm (aI_1 k)), if_pos rfl, ← f11]
  · by_cases e : j = k
    · subst e; rw [h3.f]; unfold Mm.upd; rw [if_pos rfl]
    · rw [h3.f]; unfold Mm.upd; rw [if_neg (fun e2 => e (aI_inj e2)), h2.f]
      unfold Mm.upd; rw [if_neg (aI_1 j), h1.f]
      unfold Mm.upd; rw [if_neg (fun e2 => e (aI_inj e2))]; exact h.act j hj
  · by_cases e : j = k
    · subst e; exact ⟨h3.nf, by rw [h3.s1, h2.s1, h1.s1]; exact (h.idle j hj).2⟩
    · rw [h3.oth j e, h2.oth j e, h1.oth j e]; exact h.idle j hj
  · have a1 := h1.ok; have a2 := h2.ok; have a3 := h3.ok; have a0 := h.ok
    exact ⟨by rw [a3.1, a2.1, a1.1]; exact a0.1, by rw [a3.2.1, a2.2.1, a1.2.1]; exact a0.2.1, by rw [a3.2.2, a2.2.2, a1.2.2]; exact a0.2.2⟩
set_option maxRecDepth 16000 in
set_option maxHeartbeats 8000000 in
theorem epochGoes_walk (v0 v1 : Value) (w : World) (s0 : Fr.ok1 w (.int .i64) v0) (s1 : Fr.ok1 w (.slice [.int .i64]) v1) :
    Calls Try.prog 4 #[v0, v1] w fun e w' => e = .returned (.bool true) ∧ Below w.heap.size w w' := by
  obtain ⟨T, rfl, _⟩ := Fr.get_int s0
  obtain ⟨pa, pn, pc, rfl, p1, p2, hp⟩ := il_open s1
  have HP := Lib.hid hp
  clear hp s1 s0
  refine Calls.veil fun Q HQ => ?_
  cases hmay : mayC T 7 5 with
  | false =>
    have HM := Lib.hid hmay
    rcases may75 hmay with h1 | h1
    · clear hmay
      go_enter Try.func4, Try.ntmps4
      go_wp2_with fail
      refine (cnew_no _ _ _ _ HM.out).mono ?_; rintro _ w1 ⟨rfl, hb⟩
      have HB1 := Lib.hid hb
      clear hb
      go_wp2_with fail
      refine (lives18_calls _).mono ?_; rintro _ w3 ⟨rfl, hb⟩
      have HB3 := Lib.hid (below_on HB1.out hb)
      clear hb
      go_wp2_with fail
      (try go_ret)
      rw [HQ.out]
      exact ⟨rfl, HB3.out⟩
    · have h0 : ¬ T < 1 := by omega
      clear hmay
      go_enter Try.func4, Try.ntmps4
      go_wp2_with fail
      refine (cnew_no _ _ _ _ HM.out).mono ?_; rintro _ w1 ⟨rfl, hb⟩
      have HB1 := Lib.hid hb
      clear hb
      go_wp2_with fail
      refine (lives18_calls _).mono ?_; rintro _ w3 ⟨rfl, hb⟩
      have HB3 := Lib.hid (below_on HB1.out hb)
      clear hb
      go_wp2_with fail
      (try go_ret)
      rw [HQ.out]
      exact ⟨rfl, HB3.out⟩
  | true =>
  have hm := mayC_true hmay
  obtain ⟨t, rfl⟩ : ∃ t : Nat, T = t := ⟨T.toNat, by omega⟩
  have HM := Lib.hid hmay
  have t1 : 1 ≤ t := by omega
  have t6 : t ≤ 6 := by omega
  clear hmay hm
  go_enter Try.func4, Try.ntmps4
  go_wp2_with fail
  refine (cnewI (t := t) (s := 7) _ HM.out).mono ?_; rintro _ w2 ⟨q, pl, mb, mg, C, gq, gg, gm, fv, tq, rfl, hmi, hb, hin⟩
  have hm0 := MM.init hmi hin
  obtain ⟨P, hP⟩ : ∃ P : Pc, P = ⟨w.heap.size, q, pl, mb, mg, C, gq, gg, gm, fv, tq, t, 7, 5, w2.heap.size⟩ := ⟨_, rfl⟩
  rw [← hP] at hm0
  have eq1 : q = P.q := by rw [hP]
  have HE := Lib.hid (show P.t = t ∧ P.B = w.heap.size from by rw [hP]; exact ⟨rfl, rfl⟩)
  rw [eq1]
  obtain ⟨σ0, hσ⟩ : ∃ σ0, σ0 = sgInit t 7 := ⟨_, rfl⟩
  rw [← hσ] at hm0
  have HI2 := Lib.hid (show GI P σ0 3 0 from by
    rw [hσ]
    exact ⟨partF_1 t 3 7, ⟨Int.le_refl _, Int.le_refl _⟩, fun j hj => partF_a (by rw [← HE.out.1]; exact hj), fun j hj => ⟨rfl, rfl⟩, ⟨Int.le_refl _, Int.le_refl _, Int.le_refl _, Int.le_refl _⟩, rfl, rfl, rfl⟩)
  have HM2 := Lib.hid hm0; have HB2 := Lib.hid hb
  clear hmi hb hin hP eq1 hm0 hσ
  by_cases hpn : 60 < pn
  · have hp2 : (60 : Int) < pn := by omega
    go_wp2_with fail
    refine (lives18_calls _).mono ?_; rintro _ w3 ⟨rfl, hb⟩
    have HB3 := Lib.hid (below_on HB2.out hb)
    clear hb
    go_wp2_with fail
    (try go_ret)
    rw [HQ.out]
    exact ⟨rfl, HB3.out⟩
  have hp2 : ¬ (60 : Int) < pn := by omega
  go_wp2_with fail
  go_loopw [7, 8] (fun nv iv wr => ∃ i : Nat, i ≤ pn ∧ iv = .int .i64 i ∧ ∃ (σ : Sg) (x : Int), nv = .int .u64 x ∧ Hid (MM wr P σ) ∧ Hid (GI P σ x i) ∧ Hid (Below w.heap.size w wr)) (fun _ iv _ => pn - (intOf iv).toNat)
  case atStart => exact ⟨0, Nat.zero_le _, rfl, σ0, 3, rfl, HM2, HI2, HB2⟩
  case round =>
    clear HM2 HI2 HB2 σ0
    obtain ⟨i, hi, rfl, σ, x, rfl, HM4, HI4, HB4⟩ := hrel
    rcases (by omega : i < pn ∨ i = pn) with hlt | heq
    · obtain ⟨pg, po, rfl, k, hk⟩ := HP.out i hlt
      have HPK := Lib.hid hk
      have pcell : wr.cell? ⟨pg, po + i, none⟩ = some (.int .i64 k) := Ext.use (Ext.cells hk) HB4.out
      have hii : (i : Int) < pn := by omega
      clear hk
      rcases (by omega : k < 0 ∨ (0 ≤ k ∧ (t : Int) ≤ k) ∨ (0 ≤ k ∧ k < t)) with h1 | ⟨h1, h2⟩ | ⟨h1, h2⟩
      · go_wp2_with fail
        clear pcell
        go_roundw
        case rel => exact ⟨i + 1, by omega, by go_num, σ, x, rfl, HM4, Lib.hid (HI4.out.le (by omega)), HB4⟩
        case measure => simp [intOf]; omega
      · have h3 : ¬ k < 0 := by omega
        go_wp2_with fail
        clear pcell
        go_roundw
        case rel => exact ⟨i + 1, by omega, by go_num, σ, x, rfl, HM4, Lib.hid (HI4.out.le (by omega)), HB4⟩
        case measure => simp [intOf]; omega
      · obtain ⟨k, rfl⟩ : ∃ j : Nat, k = j := ⟨k.toNat, by omega⟩
        have HK := Lib.hid (show k < P.t by rw [HE.out.1]; omega)
        have HT := Lib.hid (show P.t ≤ 6 by rw [HE.out.1]; exact t6)
        have h3 : ¬ (k : Int) < 0 := by omega
        have h4 : ¬ (t : Int) ≤ k := by omega
        go_wp2_with fail
        clear pcell
        refine (aEnter (most := 20) HM4.out HK.out (HI4.out.idle k HK.out).1 (by omega) (by have := HI4.out.ac; omega) (by have := HI4.out.ac; omega) (by have := HI4.out.ac; omega) (by have := HI4.out.ac; omega) (by omega) (HI4.out.idle k HK.out).2 (by rw [HI4.out.f1]; have := HI4.out.xi; omega)).mono ?_
        rintro _ wa ⟨rfl, σ1, hm5, hk5, ho5⟩
        have HM5 := Lib.hid hm5; have HO5 := Lib.hid ho5; have HB5 := Lib.hid (show Below w.heap.size w wa by have := hk5; rw [HE.out.2] at this; exact KA.below HB4.out this)
        clear hm5 hk5 ho5 HM4 HB4
        have pcell : wa.cell? ⟨pg, po + i, none⟩ = some (.int .i64 k) := Ext.use (Ext.cells HPK.out) HB5.out
        go_wp2_with fail
        clear pcell
        have hlag : ∀ j, j < P.t → lagsB (σ1.f (aI j)) (σ1.f 1) = false := fun j hj => by
          have f11 : σ1.f 1 = x := by rw [HO5.out.f]; unfold Mm.upd; rw [if_neg (Ne.symm (aI_1 k))]; exact HI4.out.f1
          rw [f11, HO5.out.f]
          unfold Mm.upd
          by_cases e : j = k
          · subst e; rw [if_pos rfl, HI4.out.f1]; have := HI4.out.xi; exact lagsA (by omega) (by omega)
          · rw [if_neg (fun e2 => e (aI_inj e2)), HI4.out.act j hj]; exact lags0 _
        have hf1 : σ1.f 1 < 18446744073709551615 := by
          have f11 : σ1.f 1 = x := by rw [HO5.out.f]; unfold Mm.upd; rw [if_neg (Ne.symm (aI_1 k))]; exact HI4.out.f1
          rw [f11]; have := HI4.out.xi; omega
        refine (aAdv (most := 20) HM5.out HK.out HO5.out.nf (by omega) (by have := HI4.out.ac; have := HO5.out.ac; omega) (by have := HI4.out.ac; have := HO5.out.ac; omega) (by have := HI4.out.ac; have := HO5.out.ac; omega) (by have := HI4.out.ac; have := HO5.out.ac; omega) (by have := HT.out; omega) hlag hf1).mono ?_
        rintro _ wb ⟨rfl, σ2, hm6, hk6, ho6⟩
        have HM6 := Lib.hid hm6; have HO6 := Lib.hid ho6; have HB6 := Lib.hid (show Below w.heap.size w wb by have := hk6; rw [HE.out.2] at this; exact KA.below HB5.out this)
        clear hm6 hk6 ho6 HM5 HB5 hlag hf1
        have pcell : wb.cell? ⟨pg, po + i, none⟩ = some (.int .i64 k) := Ext.use (Ext.cells HPK.out) HB6.out
        go_wp2_with fail
        clear pcell
        refine (cThread_yes HM6.out.c k HK.out).mono ?_; rintro _ wc ⟨rfl, hb⟩
        have HM7 := Lib.hid (HM6.out.below hb); have HB7 := Lib.hid (below_on HB6.out hb)
        clear hb HM6 HB6
        have pcell : wc.cell? ⟨pg, po + i, none⟩ = some (.int .i64 k) := Ext.use (Ext.cells HPK.out) HB7.out
        have cr := HM7.out.ret HK.out (i := 0) (by omega)
        rw [HO6.out.ret] at cr
        go_wp2_with fail
        clear pcell cr
        refine (aLeave (most := 20) HM7.out HK.out HO6.out.nf (by omega) (by have := HI4.out.ac; have := HO5.out.ac; have := HO6.out.ac; have := HT.out; omega) (by have := HI4.out.ac; have := HO5.out.ac; have := HO6.out.ac; have := HT.out; omega) (by have := HI4.out.ac; have := HO5.out.ac; have := HO6.out.ac; have := HT.out; omega) (by have := HI4.out.ac; have := HO5.out.ac; have := HO6.out.ac; have := HT.out; omega) (by omega) (by rw [HO6.out.s1, HO5.out.s1]; exact (HI4.out.idle k HK.out).2)).mono ?_
        rintro _ wd ⟨rfl, σ3, hm8, hk8, ho8⟩
        have HM8 := Lib.hid hm8; have HB8 := Lib.hid (show Below w.heap.size w wd by have := hk8; rw [HE.out.2] at this; exact KA.below HB7.out this)
        have HI8 := Lib.hid (HI4.out.go HK.out HT.out HO5.out HO6.out ho8)
        clear hm8 hk8 ho8 HM7 HB7
        have hwx : IntKind.u64.wrap (x + 1) = x + 1 := by have := HI8.out.xi; rw [IntKind.wrap_u64]; omega
        go_wp2_with fail
        refine (lnow HM8.out).mono ?_; rintro _ we ⟨sv, rfl, hsv, hb⟩
        have HM9 := Lib.hid (HM8.out.below hb); have HB9 := Lib.hid (below_on HB8.out hb)
        rw [HI8.out.f1]
        obtain ⟨sa, sc, rfl, _, _⟩ := hsv.slice
        clear hb hsv HM8 HB8
        have hfd : ∀ w : World, (Instr.field 33 (.agg #[.int .u64 (x + 1), .slice sa P.t sc]) 0).run Try.prog w = .ok (.int .u64 (x + 1)) w := fun w => by kernel_rfl
        go_wp2_with fail
        clear hfd
        clear hwx
        go_roundw
        case rel => exact ⟨i + 1, by omega, by go_num, σ3, x + 1, rfl, HM9, HI8, HB9⟩
        case measure => simp [intOf]; omega
    · have heq := heq.symm
      subst heq
      have hii : ¬ (pn : Int) < pn := by omega
      go_wp2_with fail
      have hcf := HM4.out.c
      rw [HI4.out.ok.1, HI4.out.ok.2.1, HI4.out.ok.2.2] at hcf
      refine (cFault hcf).mono ?_; rintro _ wc ⟨rfl, hb⟩
      have HB5 := Lib.hid (below_on HB4.out hb)
      clear hb hcf
      go_wp2_with fail
      refine (lives18_calls _).mono ?_; rintro _ wd ⟨rfl, hb⟩
      have HB6 := Lib.hid (below_on HB5.out hb)
      clear hb
      go_wp2_with fail
      (try go_ret)
      rw [HQ.out]
      exact ⟨rfl, HB6.out⟩
end Go.Proofs.Ytjpkmkaiojnhgaa
