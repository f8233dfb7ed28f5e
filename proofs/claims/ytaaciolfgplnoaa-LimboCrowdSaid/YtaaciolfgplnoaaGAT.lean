/- GAT: several texts in one. -/
import Derived.Test.YtaaciolfgplnoaaGAS
import Derived.Test.YtaaciolfgplnoaaGAN
/- Layer 17: the law's Chain, and Whole. -/
namespace Go.Proofs.Ytaaciolfgplnoaa.Sl
open Go.RowKit WordM EdgeM
set_option linter.unusedVariables false
set_option linter.unusedSimpArgs false
theorem leads_no {s : Nat} {H : Nat → Bool} {G : Nat → Int} {a : Nat} (a1 : 1 ≤ a) (a2 : a ≤ s) (s2 : s ≤ 250) (h : H (a - 1) = false) : Gd.leadsB s H G (Gd.edgeN s G a) = false := by
  unfold Gd.leadsB Gd.edgeN
  rw [if_pos (by omega)]
  unfold makeI
  rw [slotI_of (by omega) (by omega)]
  have e : ((a : Int) + 4096 * (G ((a : Int).toNat - 1) % 1125899906842624)) % 4096 = a := by omega
  rw [e, show (a : Int).toNat - 1 = a - 1 by omega, h]
  simp
theorem edge_bd {s : Nat} {G : Nat → Int} {x : Int} : 0 ≤ Gd.edgeN s G x ∧ Gd.edgeN s G x < 18446744073709551616 := by
  unfold Gd.edgeN
  split
  · exact make_bd _ _
  · omega
set_option maxRecDepth 8000 in
set_option maxHeartbeats 4000000 in
theorem lchain {w : World} {P : Pc} {σ : Sg} (h : MM w P σ) {L : List Nat} (hL : Lk P.t P.s σ.f (σ.f 2 % 4096) L) (hn : L.length ≤ P.s) (hnd : ∀ i j (h1 : i < L.length) (h2 : j < L.length), j < i → L[i] ≠ L[j]) (hH : ∀ j (h : j < L.length), σ.H (L[j] - 1) = false) :
    Calls Try.prog 47 #[.pointer (some ⟨P.q, 0, none⟩)] w fun e w' => ∃ v', e = .returned (.tuple #[v', .bool true]) ∧ VR w.heap.size 3 w' v' (ints L) ∧ Below w.heap.size w w' := by
  refine Calls.veil fun Q HQ => ?_
  have HH := Lib.hid h; have HL := Lib.hid hL; have HND := Lib.hid hnd; have HF := Lib.hid hH
  obtain ⟨⟨t1, t2⟩, s1, s2⟩ := h.bd
  have hln : L.length ≤ 250 := by omega
  clear h hL hnd hH
  go_enter Try.func47, Try.ntmps47
  go_wp2_with fail
  refine (cPlan HH.out.c).mono ?_; rintro _ _ ⟨rfl, rfl⟩
  go_wp2_with fail
  refine (pconf_calls P.t P.s P.K P.pl w HH.out.c.p0 HH.out.c.p1 (Th.newcell HH.out.c.pln 2 _ rfl)).mono ?_; rintro _ w1 ⟨rfl, hb1⟩
  have HB1 := Lib.hid hb1
  clear hb1
  go_wp2_with fail
  refine (cMem (HH.out.c.below HB1.out)).mono ?_; rintro _ _ ⟨rfl, rfl⟩
  go_wp2_with fail
  refine (Mm.mwordsT _ _ _ _ _ _ _ w1 (HH.out.c.below HB1.out).mem).mono ?_; rintro _ w2 ⟨g', C', rfl, e1, e2, e3, ⟨e4, _⟩, hb2⟩
  have HB2 := Lib.hid (below_on HB1.out hb2); have HE4 := Lib.hid e4
  clear e4 hb2
  go_wp2_with fail
  refine (rchain (K := P.K) HE4.out t1 t2 s1 s2 HL.out hn (HH.out.c.mem.rng 2 (by omega))).mono ?_; rintro _ Z ⟨v', rfl, hv, hb3⟩
  obtain ⟨p, c, rfl, q1, q2, HP⟩ := hv.parts
  have HV := Lib.hid (hv.mono HB2.out.size); have HB3 := Lib.hid (below_on HB2.out hb3)
  have HHZ := Lib.hid (HH.out.below HB3.out)
  rw [ints_len] at q1
  have HPL : Hid (∀ i (h : i < L.length), ∃ g o, p = some ⟨g, o, none⟩ ∧ ∀ i (h : i < L.length), Z.cell? ⟨g, o + i, none⟩ = some (.int .i64 (L[i] : Nat))) := Lib.hid fun i hi => by
    obtain ⟨g, o, e, _, _, k⟩ := HP.out (by rw [ints_len]; omega)
    exact ⟨g, o, e, fun i hi => k i _ (ints_get hi)⟩
  clear hv hb3 HP
  simp only [ints_len]
  go_wp2_with fail
  go_loopw [6] (fun iv wr => ∃ i : Nat, i ≤ L.length ∧ iv = .int .i64 i ∧ Hid (Below Z.heap.size Z wr)) (fun iv _ => L.length - (intOf iv).toNat)
  case atStart => exact ⟨0, by omega, rfl, Lib.hid (Below.refl _ _)⟩
  case round =>
    obtain ⟨i, hi, rfl, HBI⟩ := hrel
    rcases (by omega : i < L.length ∨ i = L.length) with hlt | hje
    · obtain ⟨g, o, rfl, hc⟩ := HPL.out i hlt
      have HC := Lib.hid hc
      obtain ⟨a1, a2, _⟩ := HL.out.at_ i hlt
      have hlf := HF.out i hlt
      have HCI := Lib.hid (hc i hlt)
      have HNI := Lib.hid (fun j (hj : j < i) => HND.out i j hlt (by omega) hj)
      obtain ⟨a, ha⟩ : ∃ a, a = L[i] := ⟨_, rfl⟩
      rw [← ha] at a1 a2 hlf HCI HNI
      have HLD := Lib.hid (leads_no (G := σ.G) a1 a2 s2 hlf)
      clear ha hlf hc
      have HHR := Lib.hid (HHZ.out.below HBI.out)
      have dc : ∀ y : Ext wr, y.w.cell? ⟨g, o + i, none⟩ = some (.int .i64 a) := Ext.cells (Ext.cell ⟨wr, HBI.out⟩ HCI.out)
      go_upto_region 5 with fail
      (with_reducible refine wp_region_mix (fun w' => ∃ y : Ext wr, w' = y.w) ?_ ?_ ?_ ?_; kernel_rfl; kernel_rfl; exact ⟨⟨wr.drew, (Below.refl _ _).drew⟩, rfl⟩)
      have hb0 : Below wr.heap.size wr wr.drew := (Below.refl _ _).drew
      obtain ⟨y0, hy0⟩ : ∃ y : Ext wr, y.w = wr.drew := ⟨⟨wr.drew, hb0⟩, rfl⟩
      rw [← hy0]
      clear hy0 hb0
      repeat (first | ((with_reducible refine mix_skip (by kernel_rfl) ?_); go_big_quiet_skip; (with_reducible refine mix_on ?_)) | ((with_reducible refine mix_plain (by kernel_rfl) ?_); (first | go_big_quiet_skip | (go_big_quiet_want; go_big_quiet_op; go_big_quiet_on)); (with_reducible refine mix_on ?_)))
      ((with_reducible refine wpMix_chain (by kernel_rfl) (by kernel_rfl) (fun K HKK => ?_)); go_step)
      refine (cGuard (HHR.out.c.below y0.h)).mono ?_; rintro _ w5 ⟨rfl, hw5⟩
      rw [← hw5]
      refine HKK.out _ _ ⟨y0, rfl⟩ ?_
      clear HKK K hw5
      repeat (first | ((with_reducible refine mix_skip (by kernel_rfl) ?_); go_big_quiet_skip; (with_reducible refine mix_on ?_)) | ((with_reducible refine mix_plain (by kernel_rfl) ?_); (first | go_big_quiet_skip | (go_big_quiet_want; go_big_quiet_op; go_big_quiet_on)); (with_reducible refine mix_on ?_)))
      ((with_reducible refine wpMix_chain (by kernel_rfl) (by kernel_rfl) (fun K HKK => ?_)); go_step)
      refine (cGuard (HHR.out.c.below y0.h)).mono ?_; rintro _ w5 ⟨rfl, hw5⟩
      rw [← hw5]
      refine HKK.out _ _ ⟨y0, rfl⟩ ?_
      clear HKK K hw5
      repeat (first | ((with_reducible refine mix_skip (by kernel_rfl) ?_); go_big_quiet_skip; (with_reducible refine mix_on ?_)) | ((with_reducible refine mix_plain (by kernel_rfl) ?_); (first | go_big_quiet_skip | (go_big_quiet_want; go_big_quiet_op; go_big_quiet_on)); (with_reducible refine mix_on ?_)))
      ((with_reducible refine wpMix_chain (by kernel_rfl) (by kernel_rfl) (fun K HKK => ?_)); go_step)
      refine (Gd.gedge (HHR.out.c.below y0.h).grd a).mono ?_; rintro _ w5 ⟨rfl, hw5⟩
      rw [← hw5]
      refine HKK.out _ _ ⟨y0, rfl⟩ ?_
      clear HKK K hw5
      repeat (first | ((with_reducible refine mix_skip (by kernel_rfl) ?_); go_big_quiet_skip; (with_reducible refine mix_on ?_)) | ((with_reducible refine mix_plain (by kernel_rfl) ?_); (first | go_big_quiet_skip | (go_big_quiet_want; go_big_quiet_op; go_big_quiet_on)); (with_reducible refine mix_on ?_)))
      ((with_reducible refine wpMix_chain (by kernel_rfl) (by kernel_rfl) (fun K HKK => ?_)); go_step)
      refine (Gd.gleads (HHR.out.c.below y0.h).grd _ edge_bd.1 edge_bd.2).mono ?_; rintro _ w5 ⟨rfl, hb5⟩
      rw [HLD.out]
      have hb5 := below_on y0.h hb5
      obtain ⟨y1, hy1⟩ : ∃ y : Ext wr, y.w = w5 := ⟨⟨w5, hb5⟩, rfl⟩
      rw [← hy1]
      refine HKK.out _ _ ⟨y1, rfl⟩ ?_
      clear HKK K hb5 hy1
      repeat (first | ((with_reducible refine mix_skip (by kernel_rfl) ?_); go_big_quiet_skip; (with_reducible refine mix_on ?_)) | ((with_reducible refine mix_plain (by kernel_rfl) ?_); (first | go_big_quiet_skip | (go_big_quiet_want; go_big_quiet_op; go_big_quiet_on)); (with_reducible refine mix_on ?_)))
      refine wpMix_nil ?_
      obtain ⟨U, hU⟩ : ∃ U, U = y1.w := ⟨_, rfl⟩
      have HBU := Lib.hid (show Below Z.heap.size Z U by rw [hU]; exact below_on HBI.out y1.h)
      rw [← hU]
      clear hU dc
      go_wp2_with fail
      go_loopw [7] (fun kv wr => ∃ k : Nat, k ≤ i ∧ kv = .int .i64 k ∧ Hid (Below Z.heap.size Z wr)) (fun kv _ => i - (intOf kv).toNat)
      case atStart => exact ⟨0, by omega, rfl, HBU⟩
      case round =>
        obtain ⟨k, hk, rfl, HBK⟩ := hrel
        rcases (by omega : k < i ∨ k = i) with hkl | hke
        · have b1 := Ext.cell ⟨wr, HBK.out⟩ HCI.out
          have b2 := Ext.cell ⟨wr, HBK.out⟩ (HC.out k (by omega))
          have hne := HNI.out k hkl
          obtain ⟨b, hb⟩ : ∃ b, b = L[k] := ⟨_, rfl⟩
          rw [← hb] at b2 hne
          have hab : ((a : Int) == b) = false := by simp; omega
          simp only at b1 b2
          clear hb
          go_upto_region 10 with fail
          go_region
          go_wp2_with fail
          go_roundw
          case rel => exact ⟨k + 1, by omega, by go_num, Lib.hid HBK.out.drew⟩
          case measure => simp [intOf]; omega
        · have hge : ¬ ((k : Int) < i) := by omega
          clear hke
          go_wp2_with fail
          go_roundw
          case rel => exact ⟨i + 1, by omega, by go_num, HBK⟩
          case measure => simp [intOf]; omega
    · go_wp2_with fail
      (try rw [HQ.out])
      have HBF := Lib.hid (HBI.out)
      refine ⟨_, rfl, ?_, HB3.out.trans (HBI.out.mono HB3.out.size)⟩
      have h9 := HV.out.below HBI.out
      rw [ints_len] at h9
      exact h9
set_option maxRecDepth 8000 in
set_option maxHeartbeats 4000000 in
theorem lwhole {w : World} {P : Pc} {σ : Sg} (h : MM w P σ) {L : List Nat} (hL : Lk P.t P.s σ.f (σ.f 2 % 4096) L) (hn : L.length ≤ P.s) (hnd : ∀ i j (h1 : i < L.length) (h2 : j < L.length), j < i → L[i] ≠ L[j]) (hH : ∀ j (h : j < L.length), σ.H (L[j] - 1) = false) (hc : Gd.cntB σ.H P.s + L.length = P.s) :
    Calls Try.prog 22 #[.pointer (some ⟨P.q, 0, none⟩)] w fun e w' => e = .returned (.bool true) ∧ Below w.heap.size w w' := by
  refine Calls.veil fun Q HQ => ?_
  have HH := Lib.hid h; have HL := Lib.hid hL; have HND := Lib.hid hnd; have HF := Lib.hid hH; have HC := Lib.hid hc
  obtain ⟨⟨t1, t2⟩, s1, s2⟩ := h.bd
  have hln : L.length ≤ 250 := by omega
  clear h hL hnd hH hc
  have hfd := fun (w : World) => conf_slots P.t P.s P.K w
  go_enter Try.func22, Try.ntmps22
  go_wp2_with fail
  refine (lchain HH.out HL.out hn HND.out HF.out).mono ?_; rintro _ w1 ⟨v', rfl, hv, hb1⟩
  obtain ⟨p, c, rfl, q1, q2, _⟩ := hv.parts
  have HB1 := Lib.hid hb1
  rw [ints_len] at q1
  simp only [ints_len]
  clear hv hb1
  go_wp2_with fail
  refine (cGuard (HH.out.c.below HB1.out)).mono ?_; rintro _ _ ⟨rfl, rfl⟩
  go_wp2_with fail
  refine (Gd.gheld (HH.out.c.below HB1.out).grd).mono ?_; rintro _ _ ⟨rfl, rfl⟩
  have hcn : Gd.cntB σ.H P.s ≤ 250 := by have := HC.out; omega
  go_wp2_with fail
  refine (cPlan (HH.out.c.below HB1.out)).mono ?_; rintro _ _ ⟨rfl, rfl⟩
  go_wp2_with fail
  refine (pconf_calls P.t P.s P.K P.pl w1 (HH.out.c.below HB1.out).p0 (HH.out.c.below HB1.out).p1 (Th.newcell (HH.out.c.below HB1.out).pln 2 _ rfl)).mono ?_; rintro _ w2 ⟨rfl, hb2⟩
  have HB2 := Lib.hid (below_on HB1.out hb2)
  have heq : (((L.length : Int) + Gd.cntB σ.H P.s) == (P.s : Int)) = true := by simp; have := HC.out; omega
  clear hb2
  go_wp2_with fail
  (try rw [HQ.out])
  exact ⟨rfl, HB2.out⟩
end Go.Proofs.Ytaaciolfgplnoaa.Sl

/- Layer 17: what is free, and what is held, step by step. -/
namespace Go.Proofs.Ytaaciolfgplnoaa.Sl
open Go.RowKit WordM EdgeM
set_option linter.unusedVariables false
set_option linter.unusedSimpArgs false
structure SI (t s : Nat) (f : Nat → Int) (H : Nat → Bool) (G : Nat → Int) (L : List Nat) (Gn : List Int) (m : Nat) : Prop where
  lk : Lk t s f (f 2 % 4096) L
  un : L.Nodup
  hh : ∀ a, 1 ≤ a → a ≤ s → (H (a - 1) = false ↔ a ∈ L)
  cn : Gd.cntB H s + L.length = s
  gl : Gn.length = s
  gn : ∀ a, 1 ≤ a → a ≤ s → f (nd t a 1) = Gn.getD (a - 1) 0 ∧ G (a - 1) = Gn.getD (a - 1) 0 ∧ 0 ≤ Gn.getD (a - 1) 0 ∧ Gn.getD (a - 1) 0 ≤ m
section
variable {t s : Nat} {f : Nat → Int} {H : Nat → Bool} {G : Nat → Int} {L : List Nat} {Gn : List Int} {m : Nat}
theorem SI.len (h : SI t s f H G L Gn m) : L.length ≤ s := by have := h.cn; omega
theorem SI.mem (h : SI t s f H G L Gn m) {a : Nat} (ha : a ∈ L) : 1 ≤ a ∧ a ≤ s := by
  obtain ⟨j, hj, rfl⟩ := List.getElem_of_mem ha
  exact ⟨(h.lk.at_ j hj).1, (h.lk.at_ j hj).2.1⟩
theorem SI.ne (h : SI t s f H G L Gn m) : ∀ i j (h1 : i < L.length) (h2 : j < L.length), j < i → L[i] ≠ L[j] := fun i j h1 h2 hij e => by
  exact (List.pairwise_iff_getElem.1 h.un) j i h2 h1 hij e.symm
theorem SI.no (h : SI t s f H G L Gn m) : ∀ j (h : j < L.length), H (L[j] - 1) = false := fun j hj =>
  (h.hh _ (h.lk.at_ j hj).1 (h.lk.at_ j hj).2.1).2 (List.getElem_mem hj)
theorem chg_mod {h x : Int} (x0 : 0 ≤ x) (x1 : x ≤ 4095) : chgI h x % 4096 = x := by
  unfold chgI headI; rw [slotI_of x0 x1]; omega
theorem nd_ne2 {a j : Nat} : nd t a j ≠ 2 := by unfold nd; omega
theorem nd_inj {a b i j : Nat} (a1 : 1 ≤ a) (b1 : 1 ≤ b) (hi : i < 7) (hj : j < 7) (e : nd t a i = nd t b j) : a = b ∧ i = j := by unfold nd at e; omega
theorem SI.take {a : Nat} {r : List Nat} (h : SI t s f H G (a :: r) Gn m) (s2 : s ≤ 250) : SI t s (Mm.upd f 2 (chgI (f 2) (f (nd t a 0)))) (Gd.takeH s H a) G r Gn m := by
  obtain ⟨a1, a2⟩ := h.mem (List.mem_cons_self)
  have hr : f (nd t a 0) = hdN r := by have := (h.lk.at_ 0 (by simp)).2.2; simpa using this
  have hle : hdN r ≤ s := by have := hd_le h.lk 1; simpa using this
  have hH : H (a - 1) = false := (h.hh a a1 a2).2 List.mem_cons_self
  have hT : Gd.takeH s H a = Gd.setB H (a - 1) true := by
    unfold Gd.takeH Gd.canT
    rw [show ((a : Int).toNat - 1) = a - 1 by omega, hH, if_pos]
    simp; omega
  have hu := List.nodup_cons.1 h.un
  have eu : ∀ b j, Mm.upd f 2 (chgI (f 2) (f (nd t a 0))) (nd t b j) = f (nd t b j) := fun b j => by unfold Mm.upd; rw [if_neg nd_ne2]
  refine ⟨⟨?_, fun j hj => ?_⟩, hu.2, fun b b1 b2 => ?_, ?_, h.gl, fun b b1 b2 => ?_⟩
  · show Mm.upd f 2 _ 2 % 4096 = _
    unfold Mm.upd
    rw [if_pos rfl, hr, chg_mod (by omega) (by omega)]
  · have := h.lk.at_ (j + 1) (by simpa using hj)
    rw [eu]
    simpa using this
  · rw [hT]
    unfold Gd.setB
    by_cases e : b - 1 = a - 1
    · have : b = a := by omega
      subst this
      rw [if_pos rfl]
      simp [hu.1]
    · rw [if_neg e, h.hh b b1 b2, List.mem_cons]
      constructor
      · rintro (rfl | h)
        · exact absurd rfl e
        · exact h
      · exact .inr
  · have h1 := Gd.cntB_set H (a - 1) true s (by omega)
    have h2 := h.cn
    rw [hT]
    rw [hH] at h1
    simp at h1 h2
    omega
  · rw [eu]; exact h.gn b b1 b2
theorem SI.give {a : Nat} (h : SI t s f H G L Gn m) (s2 : s ≤ 250) (a1 : 1 ≤ a) (a2 : a ≤ s) (ha : H (a - 1) = true) {v : Int} (hv : v = Gn.getD (a - 1) 0 + 1) :
    SI t s (Mm.upd (Mm.upd (Mm.upd f (nd t a 1) v) (nd t a 0) (f 2 % 4096)) 2 (chgI (f 2) a)) (Gd.setB H (a - 1) false) (Gd.updI G (a - 1) v) (a :: L) (Gn.set (a - 1) v) (m + 1) := by
  have hni : a ∉ L := fun hm => by have := (h.hh a a1 a2).2 hm; rw [ha] at this; cases this
  have e0 : ∀ b, 1 ≤ b → b ≠ a → ∀ j, j < 7 → Mm.upd (Mm.upd (Mm.upd f (nd t a 1) v) (nd t a 0) (f 2 % 4096)) 2 (chgI (f 2) a) (nd t b j) = f (nd t b j) := fun b b1 hb j hj => by
    unfold Mm.upd
    rw [if_neg nd_ne2, if_neg fun e => hb (nd_inj b1 a1 hj (by omega) e).1, if_neg fun e => hb (nd_inj b1 a1 hj (by omega) e).1]
  have e1 : Mm.upd (Mm.upd (Mm.upd f (nd t a 1) v) (nd t a 0) (f 2 % 4096)) 2 (chgI (f 2) a) (nd t a 0) = f 2 % 4096 := by
    unfold Mm.upd; rw [if_neg nd_ne2, if_pos rfl]
  have e2 : Mm.upd (Mm.upd (Mm.upd f (nd t a 1) v) (nd t a 0) (f 2 % 4096)) 2 (chgI (f 2) a) (nd t a 1) = v := by
    unfold Mm.upd; rw [if_neg nd_ne2, if_neg fun e => by have := (nd_inj a1 a1 (show 1 < 7 by omega) (show 0 < 7 by omega) e).2; omega, if_pos rfl]
  have gl := h.gl
  refine ⟨⟨?_, fun j hj => ?_⟩, List.nodup_cons.2 ⟨hni, h.un⟩, fun b b1 b2 => ?_, ?_, by rw [List.length_set]; exact gl, fun b b1 b2 => ?_⟩
  · show Mm.upd _ 2 _ 2 % 4096 = _
    conv => lhs; unfold Mm.upd
    rw [if_pos rfl, chg_mod (by omega) (by omega)]
    rfl
  · cases j with
    | zero =>
      refine ⟨a1, a2, ?_⟩
      show Mm.upd _ _ _ (nd t a 0) = _
      rw [e1, h.lk.hd]
      rfl
    | succ j =>
      have hj' : j < L.length := by simpa using hj
      have h9 := h.lk.at_ j hj'
      have hne : L[j] ≠ a := fun e => hni (e ▸ List.getElem_mem hj')
      simp only [List.getElem_cons_succ, List.drop_succ_cons]
      rw [e0 _ h9.1 hne 0 (by omega)]
      exact h9
  · unfold Gd.setB
    by_cases e : b - 1 = a - 1
    · have : b = a := by omega
      subst this
      simp
    · rw [if_neg e, h.hh b b1 b2, List.mem_cons]
      constructor
      · exact .inr
      · rintro (rfl | h)
        · exact absurd rfl e
        · exact h
  · have h1 := Gd.cntB_set H (a - 1) false s (by omega)
    have h2 := h.cn
    rw [ha] at h1
    simp at h1 ⊢
    omega
  · by_cases e : b = a
    · subst e
      rw [e2]
      have h9 := h.gn b b1 b2
      have h10 : (Gn.set (b - 1) v).getD (b - 1) 0 = v := by simp [List.getD_eq_getElem?_getD, List.getElem?_set, show b - 1 < Gn.length by omega]
      rw [h10]
      exact ⟨rfl, by unfold Gd.updI; rw [if_pos rfl], by omega, by omega⟩
    · rw [e0 b b1 e 1 (by omega)]
      have h9 := h.gn b b1 b2
      have h10 : (Gn.set (a - 1) v).getD (b - 1) 0 = Gn.getD (b - 1) 0 := by simp [List.getD_eq_getElem?_getD, List.getElem?_set, show ¬ (a - 1 = b - 1) by omega]
      rw [h10]
      exact ⟨h9.1, by unfold Gd.updI; rw [if_neg (by omega)]; exact h9.2.1, h9.2.2.1, by omega⟩
end
/-- What was taken, and not given. -/
structure HD (s : Nat) (H : Nat → Bool) (G : Nat → Int) (E : List Int) : Prop where
  ld : ∀ e ∈ E, (0 ≤ e ∧ e < 4611686018427387904) ∧ Gd.leadsB s H G e = true
  un : (E.map fun e => e % 4096).Nodup
section
variable {s : Nat} {H : Nat → Bool} {G : Nat → Int} {E : List Int}
theorem leads_slot {e : Int} (h : Gd.leadsB s H G e = true) : ∃ a : Nat, e % 4096 = a ∧ 1 ≤ a ∧ a ≤ s ∧ H (a - 1) = true ∧ G (a - 1) = e / 4096 % 1125899906842624 := by
  obtain ⟨i, h1, h2, h3, h4⟩ := Gd.leads_parts h
  exact ⟨i + 1, by omega, by omega, by omega, by simpa using h3, by simpa using h4⟩
theorem leads_of {e : Int} {a : Nat} (h1 : e % 4096 = a) (a1 : 1 ≤ a) (a2 : a ≤ s) (h3 : H (a - 1) = true) (h4 : G (a - 1) = e / 4096 % 1125899906842624) : Gd.leadsB s H G e = true := by
  unfold Gd.leadsB
  rw [h1, show (a : Int).toNat - 1 = a - 1 by omega, h3, h4]
  simp; omega
theorem HD.take {a : Nat} {g : Int} (h : HD s H G E) (s2 : s ≤ 250) (a1 : 1 ≤ a) (a2 : a ≤ s) (ha : H (a - 1) = false) (hg : G (a - 1) = g) (g0 : 0 ≤ g) (g1 : g < 1000) : HD s (Gd.takeH s H a) G (E ++ [makeI a g]) := by
  have hT : Gd.takeH s H a = Gd.setB H (a - 1) true := by
    unfold Gd.takeH Gd.canT
    rw [show ((a : Int).toNat - 1) = a - 1 by omega, ha, if_pos]
    simp; omega
  have he : makeI a g = a + 4096 * g := by unfold makeI; rw [slotI_of (by omega) (by omega)]; omega
  rw [hT, he]
  have hE : ∀ e ∈ E, ∃ b : Nat, e % 4096 = b ∧ b ≠ a ∧ 1 ≤ b ∧ b ≤ s ∧ H (b - 1) = true ∧ G (b - 1) = e / 4096 % 1125899906842624 := fun e hm => by
    obtain ⟨b, h1, h2, h3, h4, h5⟩ := leads_slot (h.ld e hm).2
    exact ⟨b, h1, (fun e => by rw [e, ha] at h4; cases h4), h2, h3, h4, h5⟩
  refine ⟨fun e hm => ?_, ?_⟩
  · rcases List.mem_append.1 hm with hm | hm
    · obtain ⟨b, h1, h2, h3, h4, h5, h6⟩ := hE e hm
      exact ⟨(h.ld e hm).1, leads_of h1 h3 h4 (by unfold Gd.setB; rw [if_neg (by omega)]; exact h5) h6⟩
    · simp only [List.mem_singleton] at hm
      subst hm
      exact ⟨by omega, leads_of (a := a) (by omega) a1 a2 (by unfold Gd.setB; rw [if_pos rfl]) (by rw [hg]; omega)⟩
  · rw [List.map_append, List.nodup_append]
    refine ⟨h.un, by simp, ?_⟩
    intro x hx y hy
    simp only [List.mem_map] at hx
    obtain ⟨e, hm, rfl⟩ := hx
    obtain ⟨b, h1, h2, _⟩ := hE e hm
    simp only [List.map_cons, List.map_nil, List.mem_singleton] at hy
    omega
theorem HD.give {A B : List Int} {e : Int} {a : Nat} {v : Int} (h : HD s H G (A ++ e :: B)) (he : e % 4096 = a) (a1 : 1 ≤ a) : HD s (Gd.setB H (a - 1) false) (Gd.updI G (a - 1) v) (A ++ B) := by
  have hu := h.un
  rw [List.map_append, List.map_cons, List.nodup_append] at hu
  obtain ⟨u1, u2, u3⟩ := hu
  rw [List.nodup_cons] at u2
  have hne : ∀ x ∈ A ++ B, x % 4096 ≠ e % 4096 := fun x hx => by
    rcases List.mem_append.1 hx with hx | hx
    · exact u3 _ (List.mem_map.2 ⟨x, hx, rfl⟩) _ List.mem_cons_self
    · exact fun e => u2.1 (List.mem_map.2 ⟨x, hx, e⟩)
  refine ⟨fun x hx => ?_, ?_⟩
  · have hm : x ∈ A ++ e :: B := by
      rcases List.mem_append.1 hx with hx | hx
      · exact List.mem_append.2 (.inl hx)
      · exact List.mem_append.2 (.inr (List.mem_cons_of_mem _ hx))
    obtain ⟨b, h1, h2, h3, h4, h5⟩ := leads_slot (h.ld x hm).2
    have := hne x hx
    exact ⟨(h.ld x hm).1, leads_of h1 h2 h3 (by unfold Gd.setB; rw [if_neg (by omega)]; exact h4) (by unfold Gd.updI; rw [if_neg (by omega)]; exact h5)⟩
  · rw [List.map_append, List.nodup_append]
    exact ⟨u1, u2.2, fun x hx y hy => u3 x hx y (List.mem_cons_of_mem _ hy)⟩
end
/-- At first. -/
theorem SI.init {t s : Nat} (s1 : 7 ≤ s) (s2 : s ≤ 250) : SI t s (partF t 3 s) (fun i => decide (i < 5)) (fun _ => 0) (frees s) (List.replicate s 0) 0 := by
  have hlen : (frees s).length = s - 5 := by simp [frees]
  have hget : ∀ j (h : j < (frees s).length), (frees s)[j] = j + 6 := fun j h => by simp [frees]
  have hp : ∀ a j, 1 ≤ a → j < 7 → partF t 3 s (nd t a j) = nodeF 3 s (a - 1) j := fun a j a1 hj => partF_node t 3 s (a - 1) j hj
  refine ⟨⟨?_, fun j hj => ?_⟩, ?_, fun a a1 a2 => ?_, ?_, by simp, fun a a1 a2 => ?_⟩
  · have : partF t 3 s 2 = 6 := by unfold partF; simp
    rw [this]
    have h0 : hdN (frees s) = 6 := by have := hd_drop (L := frees s) (j := 0) (by omega); rw [hget 0 (by omega)] at this; simpa using this
    rw [h0]; rfl
  · rw [hget j hj, hp _ _ (by omega) (by omega)]
    refine ⟨by omega, by omega, ?_⟩
    unfold nodeF
    rw [if_pos rfl]
    rcases Nat.lt_or_ge (j + 1) (frees s).length with h1 | h1
    · rw [hd_drop h1, hget _ h1, if_pos (by omega)]; omega
    · rw [hd_end h1, if_neg (by omega)]; rfl
  · unfold frees
    refine List.pairwise_map.2 (List.Pairwise.imp ?_ List.nodup_range)
    intro x y e
    omega
  · simp only [frees, List.mem_map, List.mem_range, decide_eq_false_iff_not]
    constructor
    · intro h; exact ⟨a - 6, by omega, by omega⟩
    · rintro ⟨j, h1, rfl⟩; omega
  · rw [hlen]
    have : ∀ n, Gd.cntB (fun i => decide (i < 5)) n = min n 5 := by
      intro n
      induction n with
      | zero => rfl
      | succ n ih =>
        rw [Gd.cntB, ih]
        by_cases h : n < 5
        · rw [if_pos (by simpa using h)]; omega
        · rw [if_neg (by simpa using h)]; omega
    rw [this]; omega
  · rw [hp a 1 a1 (by omega)]
    have h10 : (List.replicate s (0 : Int)).getD (a - 1) 0 = 0 := by rw [List.getD_eq_getElem?_getD, List.getElem?_replicate]; split <;> rfl
    rw [h10]
    exact ⟨by unfold nodeF; rw [if_neg (by omega), if_neg (by omega), if_neg (by omega), if_neg (by omega)], rfl, by omega, by omega⟩
theorem HD.init {s : Nat} {H : Nat → Bool} {G : Nat → Int} : HD s H G [] := ⟨fun e h => by simp at h, by simp⟩
end Go.Proofs.Ytaaciolfgplnoaa.Sl

/- Layer 17: Take and Give alone, and what is free. -/
namespace Go.Proofs.Ytaaciolfgplnoaa.Sl
open Go.RowKit WordM EdgeM
set_option linter.unusedVariables false
set_option linter.unusedSimpArgs false
theorem SI.mono {t s : Nat} {f : Nat → Int} {H : Nat → Bool} {G : Nat → Int} {L : List Nat} {Gn : List Int} {m m' : Nat} (h : SI t s f H G L Gn m) (hm : m ≤ m') : SI t s f H G L Gn m' :=
  ⟨h.lk, h.un, h.hh, h.cn, h.gl, fun a a1 a2 => ⟨(h.gn a a1 a2).1, (h.gn a a1 a2).2.1, (h.gn a a1 a2).2.2.1, by have := (h.gn a a1 a2).2.2.2; omega⟩⟩
structure FI (P : Pc) (σ : Sg) (L : List Nat) (Gn : List Int) (E : List Int) (m : Nat) : Prop where
  si : SI P.t P.s σ.f σ.H σ.G L Gn m
  hd : HD P.s σ.H σ.G E
  fl : σ.flt = false
  sl : σ.sl = 0
  od : σ.odd = false
  ac : 0 ≤ σ.acc ∧ σ.acc ≤ 10 * m
  st : 0 ≤ σ.steps ∧ σ.steps ≤ 10 * m
  id : ∀ k, k < P.t → (σ.Ts k).nf = 0
theorem FI.mono {P : Pc} {σ : Sg} {L : List Nat} {Gn E : List Int} {m m' : Nat} (h : FI P σ L Gn E m) (hm : m ≤ m') : FI P σ L Gn E m' :=
  ⟨h.si.mono hm, h.hd, h.fl, h.sl, h.od, by have := h.ac; omega, by have := h.st; omega, h.id⟩
theorem ld_nd {P : Pc} {f : Nat → Int} {a j : Nat} (a1 : 1 ≤ a) (a2 : a ≤ P.s) (hj : j < 7) : P.ld f a j = f (nd P.t a j) ∧ P.ok a j = true := by
  have h1 := nd_node (t := P.t) a1 a2 hj
  have h2 := nd_lt (t := P.t) a1 a2 hj
  have ho : P.ok a j = true := by unfold Pc.ok Mm.okA Pc.n; rw [h1]; simp; omega
  refine ⟨?_, ho⟩
  unfold Pc.ld Mm.ldI
  rw [if_pos (show Mm.okA P.n (nodeI P.t P.s a j) = true from ho), h1]
  simp
theorem st_nd {P : Pc} {f : Nat → Int} {a j : Nat} {v : Int} (a1 : 1 ≤ a) (a2 : a ≤ P.s) (hj : j < 7) : P.st f a j v = Mm.upd f (nd P.t a j) v := by
  unfold Pc.st
  rw [if_pos (ld_nd (f := f) a1 a2 hj).2, nd_node (t := P.t) a1 a2 hj]
  simp
section
variable {P : Pc} {σ : Sg} {L : List Nat} {Gn E : List Int} {m : Nat}
theorem FI.take {a : Nat} {r : List Nat} (h : FI P σ (a :: r) Gn E m) (s2 : P.s ≤ 250) (hm : m ≤ 60) {k : Nat} (hk : k < P.t) (R : Nat → Int) :
    FI P (tkS P k 0 σ R 4) r Gn (E ++ [makeI a (Gn.getD (a - 1) 0)]) (m + 1) ∧ ((tkS P k 0 σ R 4).Ts k).ret 0 = makeI a (Gn.getD (a - 1) 0) := by
  obtain ⟨a1, a2⟩ := h.si.mem List.mem_cons_self
  have hhd : σ.f 2 % 4096 = a := h.si.lk.hd
  have hz : ¬ σ.f 2 % 4096 = 0 := by omega
  obtain ⟨q1, q2, q3, q4, q5, q6, q7⟩ := tk4 (P := P) (R := R) (h.id k hk) hz
  obtain ⟨c1, c2, c3, c4⟩ := tkS_acc (P := P) (k := k) (m := 0) (σ := σ) (R := R) 4
  have e0 := ld_nd (P := P) (f := σ.f) (j := 0) a1 a2 (by omega)
  have e1 := ld_nd (P := P) (f := Mm.upd σ.f 2 (chgI (σ.f 2) (P.ld σ.f (σ.f 2 % 4096) 0))) (j := 1) a1 a2 (by omega)
  have hgn := h.si.gn a a1 a2
  have hH : σ.H (a - 1) = false := (h.si.hh a a1 a2).2 List.mem_cons_self
  rw [hhd] at q1 q2 q3 q4 q6 e1
  have e0' : P.ld σ.f a 0 = σ.f (nd P.t a 0) := e0.1
  have o0 : P.ok a 0 = true := e0.2
  have o1 : P.ok a 1 = true := e1.2
  rw [e0'] at q1 q6
  have e1' : P.ld (Mm.upd σ.f 2 (chgI (σ.f 2) (σ.f (nd P.t a 0)))) a 1 = Gn.getD (a - 1) 0 := by
    have h9 := e1.1
    rw [e0'] at h9
    rw [← hgn.1]
    refine h9.trans ?_
    unfold Mm.upd; rw [if_neg nd_ne2]
  have hcan : Gd.canT P.s σ.H a = true := by
    unfold Gd.canT
    rw [show ((a : Int).toNat - 1) = a - 1 by omega, hH]
    simp; omega
  rw [o0, o1, h.fl] at q2
  rw [if_pos hcan, h.sl] at q4
  refine ⟨⟨?_, ?_, by rw [q2]; rfl, q4, by rw [c3]; exact h.od, by have := h.ac; omega, by have := h.st; omega, fun i hi => ?_⟩, ?_⟩
  · rw [q1, q3, c4]; exact (h.si.take s2).mono (by omega)
  · rw [q3, c4]; exact h.hd.take s2 a1 a2 hH hgn.2.1 hgn.2.2.1 (by omega)
  · by_cases e : i = k
    · subst e; exact q5
    · rw [q7 i e]; exact h.id i hi
  · rw [q6]; simp only [show (0 : Nat) < 1 by omega, if_true]; rw [e1']
theorem FI.none (h : FI P σ [] Gn E m) {k : Nat} (hk : k < P.t) (R : Nat → Int) :
    FI P (tkS P k 0 σ R 1) [] Gn E (m + 1) ∧ ((tkS P k 0 σ R 1).Ts k).ret 0 = 0 := by
  have hhd : σ.f 2 % 4096 = 0 := h.si.lk.hd
  have e1 := tk1z (P := P) (R := R) (h.id k hk) hhd
  have t0 := tk0 (P := P) (R := R) (h.id k hk)
  obtain ⟨c1, c2, c3, c4⟩ := tkS_acc (P := P) (k := k) (m := 0) (σ := σ) (R := R) 1
  refine ⟨⟨?_, ?_, ?_, ?_, by rw [c3]; exact h.od, by have := h.ac; omega, by have := h.st; omega, fun i hi => ?_⟩, ?_⟩
  · rw [e1]; exact h.si.mono (by omega)
  · rw [e1]; exact h.hd
  · rw [e1]; exact h.fl
  · rw [e1]; exact h.sl
  · rw [e1]
    by_cases e : i = k
    · subst e
      unfold Sg.thr Th.backT setF
      simp only [if_true]
      have h9 := t0.nf
      show ((tkS P i 0 σ R 0).Ts i).nf - 1 = 0
      omega
    · unfold Sg.thr
      simp only [if_neg e]
      have h9 := t0.oth i e
      show ((tkS P k 0 σ R 0).Ts i).nf = 0
      rw [h9]; exact h.id i hi
  · rw [e1]
    unfold Sg.thr Th.backT setF
    simp
theorem FI.give {A B : List Int} {e : Int} (h : FI P σ L Gn (A ++ e :: B) m) (s2 : P.s ≤ 250) (hm : m ≤ 60) {k : Nat} (hk : k < P.t) (R : Nat → Int) (hR : R 0 = e) :
    ∃ a : Nat, e % 4096 = a ∧ 1 ≤ a ∧ a ≤ P.s ∧ gvF2 P σ (R 0) 2 = gvF1 P σ (R 0) 2 ∧ gvF1 P σ (R 0) 2 = σ.f 2 ∧ Gd.leadsB P.s σ.H σ.G (R 0) = true ∧
      FI P (gvS P k 0 σ R 4) (a :: L) (Gn.set (a - 1) (Gn.getD (a - 1) 0 + 1)) (A ++ B) (m + 1) := by
  have hl := h.hd.ld e (List.mem_append.2 (.inr List.mem_cons_self))
  obtain ⟨a, h1, a1, a2, h4, h5⟩ := leads_slot hl.2
  have hgn := h.si.gn a a1 a2
  have hv : (e / 4096 % 1125899906842624 + 1) % 1125899906842624 = Gn.getD (a - 1) 0 + 1 := by rw [← h5, hgn.2.1]; omega
  have f1 : gvF1 P σ e = Mm.upd σ.f (nd P.t a 1) (Gn.getD (a - 1) 0 + 1) := by
    unfold gvF1
    rw [h1, hv]
    exact st_nd (j := 1) a1 a2 (by omega)
  have f12 : gvF1 P σ e 2 = σ.f 2 := by rw [f1]; unfold Mm.upd; rw [if_neg (Ne.symm nd_ne2)]
  have f2 : gvF2 P σ e = Mm.upd (Mm.upd σ.f (nd P.t a 1) (Gn.getD (a - 1) 0 + 1)) (nd P.t a 0) (σ.f 2 % 4096) := by
    unfold gvF2
    rw [f12, f1, h1]
    exact st_nd (j := 0) a1 a2 (by omega)
  have f22 : gvF2 P σ e 2 = gvF1 P σ e 2 := by rw [f2, f1]; unfold Mm.upd; rw [if_neg (Ne.symm nd_ne2)]
  have hD : Gd.dropH P.s σ.H σ.G e = Gd.setB σ.H (a - 1) false := by unfold Gd.dropH; rw [if_pos hl.2, h1, show (a : Int).toNat - 1 = a - 1 by omega]
  have hG : Gd.dropG P.s σ.H σ.G e = Gd.updI σ.G (a - 1) (Gn.getD (a - 1) 0 + 1) := by
    unfold Gd.dropG; rw [if_pos hl.2, h1, show (a : Int).toNat - 1 = a - 1 by omega, h5, hv]
  obtain ⟨q1, q2, q3, q4, q5, q6⟩ := gvt4 (P := P) (R := R) (h.id k hk) (by rw [hR]; exact f22)
  obtain ⟨c1, c2, c3, c4⟩ := gvS_acc (P := P) (k := k) (m := 0) (σ := σ) (R := R) 4
  have o0 : P.ok a 0 = true := (ld_nd (P := P) (f := σ.f) (j := 0) a1 a2 (by omega)).2
  have o1 : P.ok a 1 = true := (ld_nd (P := P) (f := σ.f) (j := 1) a1 a2 (by omega)).2
  rw [hR] at q1 q2 q3 q4 ⊢
  rw [f12, h1, f2] at q1
  rw [h1, o0, o1, h.fl] at q2
  rw [hD] at q3
  rw [hG] at q4
  refine ⟨a, h1, a1, a2, f22, f12, hl.2, ⟨?_, ?_, by rw [q2]; rfl, by rw [c4]; exact h.sl, by rw [c3]; exact h.od, by have := h.ac; omega, by have := h.st; omega, fun i hi => ?_⟩⟩
  · rw [q1, q3, q4]; exact h.si.give s2 a1 a2 h4 rfl
  · rw [q3, q4]; exact h.hd.give h1 a1
  · by_cases e : i = k
    · subst e; exact q5
    · rw [q6 i e]; exact h.id i hi
end
theorem FI.init {t s : Nat} (P : Pc) (ht : P.t = t) (hs : P.s = s) (s1 : 7 ≤ s) (s2 : s ≤ 250) : FI P (sgInit t s) (frees s) (List.replicate s 0) [] 0 :=
  ⟨by rw [ht, hs]; exact SI.init s1 s2, HD.init, rfl, rfl, rfl, ⟨by show (0 : Int) ≤ 0; omega, by show (0 : Int) ≤ _; omega⟩, ⟨by show (0 : Int) ≤ 0; omega, by show (0 : Int) ≤ _; omega⟩, fun k _ => rfl⟩
end Go.Proofs.Ytaaciolfgplnoaa.Sl

/- Layer 17 and on: all threads go on alone, one behind the other, to their ends. -/
namespace Go.Proofs.Ytaaciolfgplnoaa
open Go.RowKit WordM EdgeM
set_option linter.unusedVariables false
set_option linter.unusedSimpArgs false
end Go.Proofs.Ytaaciolfgplnoaa
