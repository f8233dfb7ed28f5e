/- SlA: several texts in one. -/
import Derived.Test.YtlahpnigabfenaaRwD
import Derived.Test.YtlahpnigabfenaaPlanG
import Derived.Test.YtlahpnigabfenaaRwN
/- Layer 17: the reference's Chain. -/
namespace Go.Proofs.Ytlahpnigabfenaa
open Go.RowKit WordM EdgeM
set_option linter.unusedVariables false
set_option linter.unusedSimpArgs false
set_option maxRecDepth 8000 in
set_option maxHeartbeats 1000000 in
theorem ratS (t s : Nat) (K sl fi : Int) (w : World) (t2 : t ≤ 6) (s2 : s ≤ 250) :
    Calls Try.prog 73 #[.agg #[.int .i64 t, .int .i64 s, .int .u64 K], .int .i64 sl, .int .i64 fi] w fun e w' => e = .returned (.int .i64 (nodeI t s sl fi)) ∧ Below w.heap.size w w' := by
  refine Calls.veil fun Q HQ => ?_
  by_cases hc : 1 ≤ sl ∧ sl ≤ s ∧ 0 ≤ fi ∧ fi < 7
  · have HN := Lib.hid (show nodeI t s sl fi = 3 + 8 * (t : Int) + 7 * (sl - 1) + fi from by unfold nodeI; rw [if_pos hc]; omega)
    obtain ⟨h1, h2, h3, h4⟩ := hc
    have g1 : ¬ sl < 1 := by omega
    have g2 : ¬ (s : Int) < sl := by omega
    have g3 : ¬ fi < 0 := by omega
    have g4 : ¬ 6 < fi := by omega
    go_enter Try.func73, Try.ntmps73
    go_upto_region 1 with fail
    generalize hV : World.alloc _ _ = U
    obtain ⟨u0, hbu⟩ := Th.heapnewE hV
    have o0 := Th.newcell u0 0 _ rfl; have o1 := Th.newcell u0 1 _ rfl
    have HB := Lib.hid hbu
    clear hV u0 hbu
    go_wp2_with fail
    (try go_ret)
    rw [HQ.out]
    exact ⟨by first | (rw [HN.out]; done) | (rw [HN.out]; rfl), HB.out⟩
  · have HN := Lib.hid (show nodeI t s sl fi = -1 from by unfold nodeI; rw [if_neg hc])
    rcases (by omega : sl < 1 ∨ (¬ sl < 1 ∧ (s : Int) < sl) ∨ (¬ sl < 1 ∧ ¬ (s : Int) < sl ∧ fi < 0) ∨ (¬ sl < 1 ∧ ¬ (s : Int) < sl ∧ ¬ fi < 0 ∧ 6 < fi)) with g1 | ⟨g1, g2⟩ | ⟨g1, g2, g3⟩ | ⟨g1, g2, g3, g4⟩
    all_goals
      clear hc
      go_enter Try.func73, Try.ntmps73
      go_upto_region 1 with fail
      generalize hV : World.alloc _ _ = U
      obtain ⟨u0, hbu⟩ := Th.heapnewE hV
      have o0 := Th.newcell u0 0 _ rfl; have o1 := Th.newcell u0 1 _ rfl
      have HB := Lib.hid hbu
      clear hV u0 hbu
      go_wp2_with fail
      (try go_ret)
      rw [HQ.out]
      exact ⟨by first | (rw [HN.out]; done) | (rw [HN.out]; rfl), HB.out⟩
end Go.Proofs.Ytlahpnigabfenaa
namespace Go.Proofs.Ytlahpnigabfenaa.Sl
open Go.RowKit WordM EdgeM
set_option linter.unusedVariables false
set_option linter.unusedSimpArgs false
/-- Where a word of a slot lies. -/
def nd (t a j : Nat) : Nat := 3 + 8 * t + 7 * (a - 1) + j
theorem nd_node {t s a j : Nat} (h1 : 1 ≤ a) (h2 : a ≤ s) (hj : j < 7) : nodeI t s a j = ((nd t a j : Nat) : Int) := by
  unfold nodeI nd; rw [if_pos (by omega)]; omega
theorem nd_lt {t s a j : Nat} (h1 : 1 ≤ a) (h2 : a ≤ s) (hj : j < 7) : nd t a j < 3 + 8 * t + 7 * s := by unfold nd; omega
/-- A free list lies there. -/
structure Lk (t s : Nat) (f : Nat → Int) (x : Int) (L : List Nat) : Prop where
  hd : x = hdN L
  at_ : ∀ j (h : j < L.length), 1 ≤ L[j] ∧ L[j] ≤ s ∧ f (nd t L[j] 0) = hdN (L.drop (j + 1))
theorem hd_drop {L : List Nat} {j : Nat} (h : j < L.length) : hdN (L.drop j) = L[j] := by
  rw [List.drop_eq_getElem_cons h]; rfl
theorem hd_end {L : List Nat} {j : Nat} (h : L.length ≤ j) : hdN (L.drop j) = 0 := by rw [List.drop_eq_nil_of_le h]; rfl
theorem hd_le {t s : Nat} {f : Nat → Int} {x : Int} {L : List Nat} (h : Lk t s f x L) (j : Nat) : hdN (L.drop j) ≤ s := by
  rcases Nat.lt_or_ge j L.length with hj | hj
  · rw [hd_drop hj]; exact (h.at_ j hj).2.1
  · rw [hd_end hj]; omega
theorem ints_take {L : List Nat} {j : Nat} (h : j < L.length) : ints (L.take j) ++ [.int .i64 (L[j] : Nat)] = ints (L.take (j + 1)) := by
  rw [List.take_succ_eq_append_getElem h, ints_app]; rfl
def lenOf : Value → Nat
  | .slice _ n _ => n
  | _ => 0
theorem own_slice {T : TypeId} {w : World} {B n : Nat} {v : Value} {xs : List Value} (h : w.ownsRow B T 1 v n xs) : ∃ p c, v = .slice p n c ∧ n ≤ c ∧ c ≤ 9223372036854775807 := by
  rcases h.2 with ⟨rfl, rfl⟩ | ⟨g, cap, cur, rfl, _, _, h1, h2, _⟩
  · exact ⟨none, 0, rfl, Nat.le_refl _, by decide⟩
  · exact ⟨_, _, rfl, h1, h2⟩
set_option maxRecDepth 8000 in
set_option maxHeartbeats 4000000 in
theorem rchain {w : World} {g C t s : Nat} {K : Int} {f : Nat → Int} {L : List Nat} (hr : Mm.RowAt w g (3 + 8 * t + 7 * s) f) (t1 : 1 ≤ t) (t2 : t ≤ 6) (s1 : 7 ≤ s) (s2 : s ≤ 250) (hL : Lk t s f (f 2 % 4096) L) (hn : L.length ≤ s) (hf : 0 ≤ f 2 ∧ f 2 < 18446744073709551616) :
    Calls Try.prog 39 #[.agg #[.int .i64 t, .int .i64 s, .int .u64 K], .slice (some ⟨g, 0, none⟩) (3 + 8 * t + 7 * s) C] w fun e w' => ∃ v', e = .returned (.tuple #[v', .bool true]) ∧ VR w.heap.size 3 w' v' (ints L) ∧ Below w.heap.size w w' := by
  refine Calls.veil fun Q HQ => ?_
  have HR := Lib.hid hr; have HL := Lib.hid hL
  clear hr hL
  obtain ⟨n, hn'⟩ : ∃ n, n = 3 + 8 * t + 7 * s := ⟨_, rfl⟩
  have HN := Lib.hid hn'
  rw [← hn']
  clear hn'
  go_enter Try.func39, Try.ntmps39
  go_upto_region 1 with fail
  generalize hU : World.alloc w _ = U
  obtain ⟨u0, hbu⟩ := Th.heapnewE hU
  obtain ⟨b1, hb1⟩ : ∃ b1, b1 = w.heap.size := ⟨_, rfl⟩
  rw [← hb1] at u0 ⊢
  have HBU := Lib.hid hbu; have HS := Lib.hid (show b1 < U.heap.size ∧ w.heap.size ≤ U.heap.size from ⟨Th.blk_lt u0, hbu.size⟩)
  have HK := Lib.hid (show Th.Blk 24 U b1 3 (fun j => if j = 0 then .int .i64 t else if j = 1 then .int .i64 s else .int .u64 K) from u0)
  clear hU u0 hbu hb1
  have c0 : U.cell? ⟨b1, 0, none⟩ = some (.int .i64 t) := HK.out.get (i := 0) (by omega); have c1 : U.cell? ⟨b1, 1, none⟩ = some (.int .i64 s) := HK.out.get (i := 1) (by omega); have c2 : U.cell? ⟨b1, 2, none⟩ = some (.int .u64 K) := HK.out.get (i := 2) (by omega)
  go_wp2_with fail
  refine (rwords_calls t s K _ t1 t2 s1 s2).mono ?_; rintro _ w1 ⟨vW, rfl, ow, hbw⟩
  obtain ⟨gW, cW, rfl⟩ : ∃ gW cW, vW = .slice (some ⟨gW, 0, none⟩) n cW := by
    rcases ow.2 with ⟨_, h0⟩ | ⟨gW, cW, _, rfl, _⟩
    · omega
    · exact ⟨gW, cW, by rw [HN.out]⟩
  have HB1 := Lib.hid (below_on HBU.out hbw)
  have HK1 := Lib.hid (HK.out.below hbw)
  have HR1 := Lib.hid (HR.out.below (below_on HBU.out hbw))
  have y2 : w1.cell? ⟨g, 2, none⟩ = some (.int .u64 (f 2)) := HR1.out.row 2 (by omega)
  have HS1 := Lib.hid hbw.size
  clear ow hbw c0 c1 c2
  have hn3 : 3 ≤ n := by rw [HN.out]; omega
  have hz : ((n : Int) != n) = false := by simp
  go_wp2_with fail
  go_loopw [6, 7] (fun ov iv wr => ∃ j : Nat, j ≤ L.length ∧ iv = .int .i64 (hdN (L.drop j)) ∧ Hid (wr.ownsRow U.heap.size 3 1 ov j (ints (L.take j)) ∧ Below U.heap.size w1 wr))
    (fun ov _ _ => L.length - (lenOf ov))
  case atStart => exact ⟨0, by omega, by have := HL.out.hd; simp only [List.drop_zero]; rw [← this], Lib.hid ⟨own_nil _ _, Below.refl _ _⟩⟩
  case round =>
    obtain ⟨j, hj, rfl, HO⟩ := hrel
    obtain ⟨p, c, rfl, q1, q2⟩ := own_slice HO.out.1
    have hkb : ∀ k, k < U.heap.size → wr.heap[k]? = w1.heap[k]? := fun k hk => HO.out.2.block k hk
    have HKr := Lib.hid (HK1.out.of (hkb b1 HS.out.1))
    have HRr := Lib.hid (show Mm.RowAt wr g (3 + 8 * t + 7 * s) f from HR1.out.keep (HO.out.2.size) (hkb g (by have := HR.out.lt; have := HS.out.2; omega)))
    have HBr := Lib.hid (show Below w.heap.size w wr from HB1.out.trans (HO.out.2.mono HS.out.2))
    have HSr := Lib.hid (show U.heap.size ≤ wr.heap.size from Nat.le_trans HS1.out HO.out.2.size)
    clear hkb
    rcases (by omega : j < L.length ∨ j = L.length) with hlt | hje
    · rw [hd_drop hlt]
      obtain ⟨a1, a2, a3⟩ := HL.out.at_ j hlt
      obtain ⟨a, ha⟩ : ∃ a, a = L[j] := ⟨_, rfl⟩
      have HT := Lib.hid (ints_take hlt)
      have HX := Lib.hid (hd_le HL.out (j + 1))
      obtain ⟨x, hx⟩ : ∃ x, x = hdN (L.drop (j + 1)) := ⟨_, rfl⟩
      have HXX := Lib.hid hx
      rw [← ha] at a1 a2 a3 HT ⊢
      rw [← hx] at a3 HX
      have hx2 : x ≤ 250 := by have := HX.out; omega
      have HNX : Hid (nodeI (t : Int) s a 0 = ((nd t a 0 : Nat) : Int)) := Lib.hid (by have := nd_node (t := t) a1 a2 (show 0 < 7 by omega); simpa using this)
      have HNL := Lib.hid (nd_lt (t := t) a1 a2 (show 0 < 7 by omega))
      have HA := Lib.hid a3
      have c0 : wr.cell? ⟨b1, 0, none⟩ = some (.int .i64 t) := HKr.out.get (i := 0) (by omega); have c1 : wr.cell? ⟨b1, 1, none⟩ = some (.int .i64 s) := HKr.out.get (i := 1) (by omega); have c2 : wr.cell? ⟨b1, 2, none⟩ = some (.int .u64 K) := HKr.out.get (i := 2) (by omega)
      have g1 : ((a : Int) != 0) = true := by simp; omega
      have g2 : ¬ ((s : Int) < a) := by omega
      have g3 : ¬ ((s : Int) < j) := by omega
      clear ha hx a3 hz y2
      go_wp2_with (at_builtin; refine wpList_append_v uSI infI rfl rfl (.tmp 35) (.tmp 37) rfl U.heap.size wr.heap.size _ _ (ints (L.take j)) [.int .i64 a] rfl (by rw [ints_len, List.length_take, Nat.min_eq_left hj]; exact own_below HO.out.1 ((Below.refl _ _).alloc (Nat.le_refl _) _)) rfl (one_VR _ rfl) (by simp [Value.oneCell']) (by rw [ints_len, List.length_take]; simp; omega) (by have := HSr.out; simp; omega) ?_)
      intro v2 w2 hown hgrow
      have hb : Below U.heap.size wr w2 := by
        have h5 := own_below HO.out.1 ((Below.refl wr.heap.size wr).alloc (Nat.le_refl _) (.cells #[.int .i64 a] 3))
        exact ((Below.refl U.heap.size wr).alloc HSr.out _).grown hgrow (by have := HSr.out; simp; omega) (own_ge h5)
      have hown : w2.ownsRow U.heap.size 3 1 v2 (j + 1) (ints (L.take (j + 1))) := by
        have h9 := hown
        rw [HT.out, ints_len, List.length_take, Nat.min_eq_left hj] at h9
        exact h9
      have HO2 := Lib.hid hown; have HB2 := Lib.hid hb
      have HK2 := Lib.hid (HKr.out.of (hb.block b1 HS.out.1))
      have HR2 := Lib.hid (show Mm.RowAt w2 g (3 + 8 * t + 7 * s) f from HRr.out.keep hb.size (hb.block g (by have := HR.out.lt; have := HS.out.2; omega)))
      obtain ⟨p2, k2, rfl, _, _⟩ := own_slice hown
      clear hown hgrow hb c0 c1 c2
      have c0 : w2.cell? ⟨b1, 0, none⟩ = some (.int .i64 t) := HK2.out.get (i := 0) (by omega); have c1 : w2.cell? ⟨b1, 1, none⟩ = some (.int .i64 s) := HK2.out.get (i := 1) (by omega); have c2 : w2.cell? ⟨b1, 2, none⟩ = some (.int .u64 K) := HK2.out.get (i := 2) (by omega)
      go_wp2_with fail
      refine (ratS t s K a 0 w2 t2 s2).mono ?_; rintro _ w3 ⟨rfl, hb3⟩
      rw [HNX.out]
      have y3 : w3.cell? ⟨g, nd t a 0, none⟩ = some (.int .u64 x) := by
        rw [← HA.out]; exact (HR2.out.below hb3).row _ HNL.out
      have hnd : nd t a 0 < n := by rw [HN.out]; exact HNL.out
      obtain ⟨d, hd⟩ : ∃ d, d = nd t a 0 := ⟨_, rfl⟩
      rw [← hd] at y3 hnd ⊢
      have HO3 := Lib.hid (own_below HO2.out hb3)
      have HB3 := Lib.hid (show Below U.heap.size w1 w3 from (HO.out.2.trans HB2.out).trans (hb3.mono (by have := HSr.out; have := HB2.out.size; omega)))
      clear hd hb3 c0 c1 c2
      go_wp2_with fail
      go_roundw
      case rel => exact ⟨j + 1, by omega, by rw [← HXX.out], Lib.hid ⟨HO3.out, HB3.out⟩⟩
      case measure => simp [lenOf]; omega
    · rw [hd_end (by omega)]
      go_wp2_with fail
      rw [HQ.out]
      refine ⟨_, rfl, ?_, HBr.out⟩
      have h9 := HO.out.1
      rw [hje, List.take_length] at h9
      rw [hje]
      exact (own_VR h9 (by rw [ints_len])).mono HS.out.2
end Go.Proofs.Ytlahpnigabfenaa.Sl

/- Layer 17: the law's Chain, and Whole. -/
namespace Go.Proofs.Ytlahpnigabfenaa.Sl
open Go.RowKit WordM EdgeM
set_option linter.unusedVariables false
set_option linter.unusedSimpArgs false
theorem leads_no {s : Nat} {H : Nat → Bool} {G : Nat → Int} {a : Nat} (a1 : 1 ≤ a) (a2 : a ≤ s) (s2 : s ≤ 250) (h : H (a - 1) = false) : Gd.leadsB s H G (Gd.edgeN s G a) = false := by
  unfold Gd.leadsB Gd.edgeN
  rw [if_pos (by omega)]
  unfold makeI
  rw [slotI_of (by omega) (by omega)]
  have e : ((a : Int) + 4096 * (G ((a : Int).toNat - 1) % 1125899906842624)) % 4096 = a := by omega
  rw [e, show (a : Int).toNat - 1 = a - 1 by omega, h]
  simp
theorem edge_bd {s : Nat} {G : Nat → Int} {x : Int} : 0 ≤ Gd.edgeN s G x ∧ Gd.edgeN s G x < 18446744073709551616 := by
  unfold Gd.edgeN
  split
  · exact make_bd _ _
  · omega
set_option maxRecDepth 8000 in
set_option maxHeartbeats 4000000 in
theorem lchain {w : World} {P : Pc} {σ : Sg} (h : MM w P σ) {L : List Nat} (hL : Lk P.t P.s σ.f (σ.f 2 % 4096) L) (hn : L.length ≤ P.s) (hnd : ∀ i j (h1 : i < L.length) (h2 : j < L.length), j < i → L[i] ≠ L[j]) (hH : ∀ j (h : j < L.length), σ.H (L[j] - 1) = false) :
    Calls Try.prog 16 #[.pointer (some ⟨P.q, 0, none⟩)] w fun e w' => ∃ v', e = .returned (.tuple #[v', .bool true]) ∧ VR w.heap.size 3 w' v' (ints L) ∧ Below w.heap.size w w' := by
  refine Calls.veil fun Q HQ => ?_
  have HH := Lib.hid h; have HL := Lib.hid hL; have HND := Lib.hid hnd; have HF := Lib.hid hH
  obtain ⟨⟨t1, t2⟩, s1, s2⟩ := h.bd
  have hln : L.length ≤ 250 := by omega
  clear h hL hnd hH
  go_enter Try.func16, Try.ntmps16
  go_wp2_with fail
  refine (cPlan HH.out.c).mono ?_; rintro _ _ ⟨rfl, rfl⟩
  go_wp2_with fail
  refine (pconf_calls P.t P.s P.K P.pl w HH.out.c.p0 HH.out.c.p1 (Th.newcell HH.out.c.pln 2 _ rfl)).mono ?_; rintro _ w1 ⟨rfl, hb1⟩
  have HB1 := Lib.hid hb1
  clear hb1
  go_wp2_with fail
  refine (cMem (HH.out.c.below HB1.out)).mono ?_; rintro _ _ ⟨rfl, rfl⟩
  go_wp2_with fail
  refine (Mm.mwordsT _ _ _ _ _ _ _ w1 (HH.out.c.below HB1.out).mem).mono ?_; rintro _ w2 ⟨g', C', rfl, e1, e2, e3, ⟨e4, _⟩, hb2⟩
  have HB2 := Lib.hid (below_on HB1.out hb2); have HE4 := Lib.hid e4
  clear e4 hb2
  go_wp2_with fail
  refine (rchain (K := P.K) HE4.out t1 t2 s1 s2 HL.out hn (HH.out.c.mem.rng 2 (by omega))).mono ?_; rintro _ Z ⟨v', rfl, hv, hb3⟩
  obtain ⟨p, c, rfl, q1, q2, HP⟩ := hv.parts
  have HV := Lib.hid (hv.mono HB2.out.size); have HB3 := Lib.hid (below_on HB2.out hb3)
  have HHZ := Lib.hid (HH.out.below HB3.out)
  rw [ints_len] at q1
  have HPL : Hid (∀ i (h : i < L.length), ∃ g o, p = some ⟨g, o, none⟩ ∧ ∀ i (h : i < L.length), Z.cell? ⟨g, o + i, none⟩ = some (.int .i64 (L[i] : Nat))) := Lib.hid fun i hi => by
    obtain ⟨g, o, e, _, _, k⟩ := HP.out (by rw [ints_len]; omega)
    exact ⟨g, o, e, fun i hi => k i _ (ints_get hi)⟩
  clear hv hb3 HP
  simp only [ints_len]
  go_wp2_with fail
  go_loopw [6] (fun iv wr => ∃ i : Nat, i ≤ L.length ∧ iv = .int .i64 i ∧ Hid (Below Z.heap.size Z wr)) (fun iv _ => L.length - (intOf iv).toNat)
  case atStart => exact ⟨0, by omega, rfl, Lib.hid (Below.refl _ _)⟩
  case round =>
    obtain ⟨i, hi, rfl, HBI⟩ := hrel
    rcases (by omega : i < L.length ∨ i = L.length) with hlt | hje
    · obtain ⟨g, o, rfl, hc⟩ := HPL.out i hlt
      have HC := Lib.hid hc
      obtain ⟨a1, a2, _⟩ := HL.out.at_ i hlt
      have hlf := HF.out i hlt
      have HCI := Lib.hid (hc i hlt)
      have HNI := Lib.hid (fun j (hj : j < i) => HND.out i j hlt (by omega) hj)
      obtain ⟨a, ha⟩ : ∃ a, a = L[i] := ⟨_, rfl⟩
      rw [← ha] at a1 a2 hlf HCI HNI
      have HLD := Lib.hid (leads_no (G := σ.G) a1 a2 s2 hlf)
      clear ha hlf hc
      have HHR := Lib.hid (HHZ.out.below HBI.out)
      have dc : ∀ y : Ext wr, y.w.cell? ⟨g, o + i, none⟩ = some (.int .i64 a) := Ext.cells (Ext.cell ⟨wr, HBI.out⟩ HCI.out)
      go_upto_region 5 with fail
      (with_reducible refine wp_region_mix (fun w' => ∃ y : Ext wr, w' = y.w) ?_ ?_ ?_ ?_; kernel_rfl; kernel_rfl; exact ⟨⟨wr.drew, (Below.refl _ _).drew⟩, rfl⟩)
      have hb0 : Below wr.heap.size wr wr.drew := (Below.refl _ _).drew
      obtain ⟨y0, hy0⟩ : ∃ y : Ext wr, y.w = wr.drew := ⟨⟨wr.drew, hb0⟩, rfl⟩
      rw [← hy0]
      clear hy0 hb0
      repeat (first | ((with_reducible refine mix_skip (by kernel_rfl) ?_); go_big_quiet_skip; (with_reducible refine mix_on ?_)) | ((with_reducible refine mix_plain (by kernel_rfl) ?_); (first | go_big_quiet_skip | (go_big_quiet_want; go_big_quiet_op; go_big_quiet_on)); (with_reducible refine mix_on ?_)))
      ((with_reducible refine wpMix_chain (by kernel_rfl) (by kernel_rfl) (fun K HKK => ?_)); go_step)
      refine (cGuard (HHR.out.c.below y0.h)).mono ?_; rintro _ w5 ⟨rfl, hw5⟩
      rw [← hw5]
      refine HKK.out _ _ ⟨y0, rfl⟩ ?_
      clear HKK K hw5
      repeat (first | ((with_reducible refine mix_skip (by kernel_rfl) ?_); go_big_quiet_skip; (with_reducible refine mix_on ?_)) | ((with_reducible refine mix_plain (by kernel_rfl) ?_); (first | go_big_quiet_skip | (go_big_quiet_want; go_big_quiet_op; go_big_quiet_on)); (with_reducible refine mix_on ?_)))
      ((with_reducible refine wpMix_chain (by kernel_rfl) (by kernel_rfl) (fun K HKK => ?_)); go_step)
      refine (cGuard (HHR.out.c.below y0.h)).mono ?_; rintro _ w5 ⟨rfl, hw5⟩
      rw [← hw5]
      refine HKK.out _ _ ⟨y0, rfl⟩ ?_
      clear HKK K hw5
      repeat (first | ((with_reducible refine mix_skip (by kernel_rfl) ?_); go_big_quiet_skip; (with_reducible refine mix_on ?_)) | ((with_reducible refine mix_plain (by kernel_rfl) ?_); (first | go_big_quiet_skip | (go_big_quiet_want; go_big_quiet_op; go_big_quiet_on)); (with_reducible refine mix_on ?_)))
      ((with_reducible refine wpMix_chain (by kernel_rfl) (by kernel_rfl) (fun K HKK => ?_)); go_step)
      refine (Gd.gedge (HHR.out.c.below y0.h).grd a).mono ?_; rintro _ w5 ⟨rfl, hw5⟩
      rw [← hw5]
      refine HKK.out _ _ ⟨y0, rfl⟩ ?_
      clear HKK K hw5
      repeat (first | ((with_reducible refine mix_skip (by kernel_rfl) ?_); go_big_quiet_skip; (with_reducible refine mix_on ?_)) | ((with_reducible refine mix_plain (by kernel_rfl) ?_); (first | go_big_quiet_skip | (go_big_quiet_want; go_big_quiet_op; go_big_quiet_on)); (with_reducible refine mix_on ?_)))
      ((with_reducible refine wpMix_chain (by kernel_rfl) (by kernel_rfl) (fun K HKK => ?_)); go_step)
      refine (Gd.gleads (HHR.out.c.below y0.h).grd _ edge_bd.1 edge_bd.2).mono ?_; rintro _ w5 ⟨rfl, hb5⟩
      rw [HLD.out]
      have hb5 := below_on y0.h hb5
      obtain ⟨y1, hy1⟩ : ∃ y : Ext wr, y.w = w5 := ⟨⟨w5, hb5⟩, rfl⟩
      rw [← hy1]
      refine HKK.out _ _ ⟨y1, rfl⟩ ?_
      clear HKK K hb5 hy1
      repeat (first | ((with_reducible refine mix_skip (by kernel_rfl) ?_); go_big_quiet_skip; (with_reducible refine mix_on ?_)) | ((with_reducible refine mix_plain (by kernel_rfl) ?_); (first | go_big_quiet_skip | (go_big_quiet_want; go_big_quiet_op; go_big_quiet_on)); (with_reducible refine mix_on ?_)))
      refine wpMix_nil ?_
      obtain ⟨U, hU⟩ : ∃ U, U = y1.w := ⟨_, rfl⟩
      have HBU := Lib.hid (show Below Z.heap.size Z U by rw [hU]; exact below_on HBI.out y1.h)
      rw [← hU]
      clear hU dc
      go_wp2_with fail
      go_loopw [7] (fun kv wr => ∃ k : Nat, k ≤ i ∧ kv = .int .i64 k ∧ Hid (Below Z.heap.size Z wr)) (fun kv _ => i - (intOf kv).toNat)
      case atStart => exact ⟨0, by omega, rfl, HBU⟩
      case round =>
        obtain ⟨k, hk, rfl, HBK⟩ := hrel
        rcases (by omega : k < i ∨ k = i) with hkl | hke
        · have b1 := Ext.cell ⟨wr, HBK.out⟩ HCI.out
          have b2 := Ext.cell ⟨wr, HBK.out⟩ (HC.out k (by omega))
          have hne := HNI.out k hkl
          obtain ⟨b, hb⟩ : ∃ b, b = L[k] := ⟨_, rfl⟩
          rw [← hb] at b2 hne
          have hab : ((a : Int) == b) = false := by simp; omega
          simp only at b1 b2
          clear hb
          go_upto_region 10 with fail
          go_region
          go_wp2_with fail
          go_roundw
          case rel => exact ⟨k + 1, by omega, by go_num, Lib.hid HBK.out.drew⟩
          case measure => simp [intOf]; omega
        · have hge : ¬ ((k : Int) < i) := by omega
          clear hke
          go_wp2_with fail
          go_roundw
          case rel => exact ⟨i + 1, by omega, by go_num, HBK⟩
          case measure => simp [intOf]; omega
    · go_wp2_with fail
      (try rw [HQ.out])
      have HBF := Lib.hid (HBI.out)
      refine ⟨_, rfl, ?_, HB3.out.trans (HBI.out.mono HB3.out.size)⟩
      have h9 := HV.out.below HBI.out
      rw [ints_len] at h9
      exact h9
set_option maxRecDepth 8000 in
set_option maxHeartbeats 4000000 in
theorem lwhole {w : World} {P : Pc} {σ : Sg} (h : MM w P σ) {L : List Nat} (hL : Lk P.t P.s σ.f (σ.f 2 % 4096) L) (hn : L.length ≤ P.s) (hnd : ∀ i j (h1 : i < L.length) (h2 : j < L.length), j < i → L[i] ≠ L[j]) (hH : ∀ j (h : j < L.length), σ.H (L[j] - 1) = false) (hc : Gd.cntB σ.H P.s + L.length = P.s) :
    Calls Try.prog 18 #[.pointer (some ⟨P.q, 0, none⟩)] w fun e w' => e = .returned (.bool true) ∧ Below w.heap.size w w' := by
  refine Calls.veil fun Q HQ => ?_
  have HH := Lib.hid h; have HL := Lib.hid hL; have HND := Lib.hid hnd; have HF := Lib.hid hH; have HC := Lib.hid hc
  obtain ⟨⟨t1, t2⟩, s1, s2⟩ := h.bd
  have hln : L.length ≤ 250 := by omega
  clear h hL hnd hH hc
  have hfd := fun (w : World) => conf_slots P.t P.s P.K w
  go_enter Try.func18, Try.ntmps18
  go_wp2_with fail
  refine (lchain HH.out HL.out hn HND.out HF.out).mono ?_; rintro _ w1 ⟨v', rfl, hv, hb1⟩
  obtain ⟨p, c, rfl, q1, q2, _⟩ := hv.parts
  have HB1 := Lib.hid hb1
  rw [ints_len] at q1
  simp only [ints_len]
  clear hv hb1
  go_wp2_with fail
  refine (cGuard (HH.out.c.below HB1.out)).mono ?_; rintro _ _ ⟨rfl, rfl⟩
  go_wp2_with fail
  refine (Gd.gheld (HH.out.c.below HB1.out).grd).mono ?_; rintro _ _ ⟨rfl, rfl⟩
  have hcn : Gd.cntB σ.H P.s ≤ 250 := by have := HC.out; omega
  go_wp2_with fail
  refine (cPlan (HH.out.c.below HB1.out)).mono ?_; rintro _ _ ⟨rfl, rfl⟩
  go_wp2_with fail
  refine (pconf_calls P.t P.s P.K P.pl w1 (HH.out.c.below HB1.out).p0 (HH.out.c.below HB1.out).p1 (Th.newcell (HH.out.c.below HB1.out).pln 2 _ rfl)).mono ?_; rintro _ w2 ⟨rfl, hb2⟩
  have HB2 := Lib.hid (below_on HB1.out hb2)
  have heq : (((L.length : Int) + Gd.cntB σ.H P.s) == (P.s : Int)) = true := by simp; have := HC.out; omega
  clear hb2
  go_wp2_with fail
  (try rw [HQ.out])
  exact ⟨rfl, HB2.out⟩
end Go.Proofs.Ytlahpnigabfenaa.Sl

/- Layer 17: what is free, and what is held, step by step. -/
namespace Go.Proofs.Ytlahpnigabfenaa.Sl
open Go.RowKit WordM EdgeM
set_option linter.unusedVariables false
set_option linter.unusedSimpArgs false
structure SI (t s : Nat) (f : Nat → Int) (H : Nat → Bool) (G : Nat → Int) (L : List Nat) (Gn : List Int) (m : Nat) : Prop where
  lk : Lk t s f (f 2 % 4096) L
  un : L.Nodup
  hh : ∀ a, 1 ≤ a → a ≤ s → (H (a - 1) = false ↔ a ∈ L)
  cn : Gd.cntB H s + L.length = s
  gl : Gn.length = s
  gn : ∀ a, 1 ≤ a → a ≤ s → f (nd t a 1) = Gn.getD (a - 1) 0 ∧ G (a - 1) = Gn.getD (a - 1) 0 ∧ 0 ≤ Gn.getD (a - 1) 0 ∧ Gn.getD (a - 1) 0 ≤ m
section
variable {t s : Nat} {f : Nat → Int} {H : Nat → Bool} {G : Nat → Int} {L : List Nat} {Gn : List Int} {m : Nat}
theorem SI.len (h : SI t s f H G L Gn m) : L.length ≤ s := by have := h.cn; omega
theorem SI.mem (h : SI t s f H G L Gn m) {a : Nat} (ha : a ∈ L) : 1 ≤ a ∧ a ≤ s := by
  obtain ⟨j, hj, rfl⟩ := List.getElem_of_mem ha
  exact ⟨(h.lk.at_ j hj).1, (h.lk.at_ j hj).2.1⟩
theorem SI.ne (h : SI t s f H G L Gn m) : ∀ i j (h1 : i < L.length) (h2 : j < L.length), j < i → L[i] ≠ L[j] := fun i j h1 h2 hij e => by
  exact (List.pairwise_iff_getElem.1 h.un) j i h2 h1 hij e.symm
theorem SI.no (h : SI t s f H G L Gn m) : ∀ j (h : j < L.length), H (L[j] - 1) = false := fun j hj =>
  (h.hh _ (h.lk.at_ j hj).1 (h.lk.at_ j hj).2.1).2 (List.getElem_mem hj)
theorem chg_mod {h x : Int} (x0 : 0 ≤ x) (x1 : x ≤ 4095) : chgI h x % 4096 = x := by
  unfold chgI headI; rw [slotI_of x0 x1]; omega
theorem nd_ne2 {a j : Nat} : nd t a j ≠ 2 := by unfold nd; omega
theorem nd_inj {a b i j : Nat} (a1 : 1 ≤ a) (b1 : 1 ≤ b) (hi : i < 7) (hj : j < 7) (e : nd t a i = nd t b j) : a = b ∧ i = j := by unfold nd at e; omega
theorem SI.take {a : Nat} {r : List Nat} (h : SI t s f H G (a :: r) Gn m) (s2 : s ≤ 250) : SI t s (Mm.upd f 2 (chgI (f 2) (f (nd t a 0)))) (Gd.takeH s H a) G r Gn m := by
  obtain ⟨a1, a2⟩ := h.mem (List.mem_cons_self)
  have hr : f (nd t a 0) = hdN r := by have := (h.lk.at_ 0 (by simp)).2.2; simpa using this
  have hle : hdN r ≤ s := by have := hd_le h.lk 1; simpa using this
  have hH : H (a - 1) = false := (h.hh a a1 a2).2 List.mem_cons_self
  have hT : Gd.takeH s H a = Gd.setB H (a - 1) true := by
    unfold Gd.takeH Gd.canT
    rw [show ((a : Int).toNat - 1) = a - 1 by omega, hH, if_pos]
    simp; omega
  have hu := List.nodup_cons.1 h.un
  have eu : ∀ b j, Mm.upd f 2 (chgI (f 2) (f (nd t a 0))) (nd t b j) = f (nd t b j) := fun b j => by unfold Mm.upd; rw [if_neg nd_ne2]
  refine ⟨⟨?_, fun j hj => ?_⟩, hu.2, fun b b1 b2 => ?_, ?_, h.gl, fun b b1 b2 => ?_⟩
  · show Mm.upd f 2 _ 2 % 4096 = _
    unfold Mm.upd
    rw [if_pos rfl, hr, chg_mod (by omega) (by omega)]
  · have := h.lk.at_ (j + 1) (by simpa using hj)
    rw [eu]
    simpa using this
  · rw [hT]
    unfold Gd.setB
    by_cases e : b - 1 = a - 1
    · have : b = a := by omega
      subst this
      rw [if_pos rfl]
      simp [hu.1]
    · rw [if_neg e, h.hh b b1 b2, List.mem_cons]
      constructor
      · rintro (rfl | h)
        · exact absurd rfl e
        · exact h
      · exact .inr
  · have h1 := Gd.cntB_set H (a - 1) true s (by omega)
    have h2 := h.cn
    rw [hT]
    rw [hH] at h1
    simp at h1 h2
    omega
  · rw [eu]; exact h.gn b b1 b2
theorem SI.give {a : Nat} (h : SI t s f H G L Gn m) (s2 : s ≤ 250) (a1 : 1 ≤ a) (a2 : a ≤ s) (ha : H (a - 1) = true) {v : Int} (hv : v = Gn.getD (a - 1) 0 + 1) :
    SI t s (Mm.upd (Mm.upd (Mm.upd f (nd t a 1) v) (nd t a 0) (f 2 % 4096)) 2 (chgI (f 2) a)) (Gd.setB H (a - 1) false) (Gd.updI G (a - 1) v) (a :: L) (Gn.set (a - 1) v) (m + 1) := by
  have hni : a ∉ L := fun hm => by have := (h.hh a a1 a2).2 hm; rw [ha] at this; cases this
  have e0 : ∀ b, 1 ≤ b → b ≠ a → ∀ j, j < 7 → Mm.upd (Mm.upd (Mm.upd f (nd t a 1) v) (nd t a 0) (f 2 % 4096)) 2 (chgI (f 2) a) (nd t b j) = f (nd t b j) := fun b b1 hb j hj => by
    unfold Mm.upd
    rw [if_neg nd_ne2, if_neg fun e => hb (nd_inj b1 a1 hj (by omega) e).1, if_neg fun e => hb (nd_inj b1 a1 hj (by omega) e).1]
  have e1 : Mm.upd (Mm.upd (Mm.upd f (nd t a 1) v) (nd t a 0) (f 2 % 4096)) 2 (chgI (f 2) a) (nd t a 0) = f 2 % 4096 := by
    unfold Mm.upd; rw [if_neg nd_ne2, if_pos rfl]
  have e2 : Mm.upd (Mm.upd (Mm.upd f (nd t a 1) v) (nd t a 0) (f 2 % 4096)) 2 (chgI (f 2) a) (nd t a 1) = v := by
    unfold Mm.upd; rw [if_neg nd_ne2, if_neg fun e => by have := (nd_inj a1 a1 (show 1 < 7 by omega) (show 0 < 7 by omega) e).2; omega, if_pos rfl]
  have gl := h.gl
  refine ⟨⟨?_, fun j hj => ?_⟩, List.nodup_cons.2 ⟨hni, h.un⟩, fun b b1 b2 => ?_, ?_, by rw [List.length_set]; exact gl, fun b b1 b2 => ?_⟩
  · show Mm.upd _ 2 _ 2 % 4096 = _
    conv => lhs; unfold Mm.upd
    rw [if_pos rfl, chg_mod (by omega) (by omega)]
    rfl
  · cases j with
    | zero =>
      refine ⟨a1, a2, ?_⟩
      show Mm.upd _ _ _ (nd t a 0) = _
      rw [e1, h.lk.hd]
      rfl
    | succ j =>
      have hj' : j < L.length := by simpa using hj
      have h9 := h.lk.at_ j hj'
      have hne : L[j] ≠ a := fun e => hni (e ▸ List.getElem_mem hj')
      simp only [List.getElem_cons_succ, List.drop_succ_cons]
      rw [e0 _ h9.1 hne 0 (by omega)]
      exact h9
  · unfold Gd.setB
    by_cases e : b - 1 = a - 1
    · have : b = a := by omega
      subst this
      simp
    · rw [if_neg e, h.hh b b1 b2, List.mem_cons]
      constructor
      · exact .inr
      · rintro (rfl | h)
        · exact absurd rfl e
        · exact h
  · have h1 := Gd.cntB_set H (a - 1) false s (by omega)
    have h2 := h.cn
    rw [ha] at h1
    simp at h1 ⊢
    omega
  · by_cases e : b = a
    · subst e
      rw [e2]
      have h9 := h.gn b b1 b2
      have h10 : (Gn.set (b - 1) v).getD (b - 1) 0 = v := by simp [List.getD_eq_getElem?_getD, List.getElem?_set, show b - 1 < Gn.length by omega]
      rw [h10]
      exact ⟨rfl, by unfold Gd.updI; rw [if_pos rfl], by omega, by omega⟩
    · rw [e0 b b1 e 1 (by omega)]
      have h9 := h.gn b b1 b2
      have h10 : (Gn.set (a - 1) v).getD (b - 1) 0 = Gn.getD (b - 1) 0 := by simp [List.getD_eq_getElem?_getD, List.getElem?_set, show ¬ (a - 1 = b - 1) by omega]
      rw [h10]
      exact ⟨h9.1, by unfold Gd.updI; rw [if_neg (by omega)]; exact h9.2.1, h9.2.2.1, by omega⟩
end
/-- What was taken, and not given. -/
structure HD (s : Nat) (H : Nat → Bool) (G : Nat → Int) (E : List Int) : Prop where
  ld : ∀ e ∈ E, (0 ≤ e ∧ e < 4611686018427387904) ∧ Gd.leadsB s H G e = true
  un : (E.map fun e => e % 4096).Nodup
section
variable {s : Nat} {H : Nat → Bool} {G : Nat → Int} {E : List Int}
theorem leads_slot {e : Int} (h : Gd.leadsB s H G e = true) : ∃ a : Nat, e % 4096 = a ∧ 1 ≤ a ∧ a ≤ s ∧ H (a - 1) = true ∧ G (a - 1) = e / 4096 % 1125899906842624 := by
  obtain ⟨i, h1, h2, h3, h4⟩ := Gd.leads_parts h
  exact ⟨i + 1, by omega, by omega, by omega, by simpa using h3, by simpa using h4⟩
theorem leads_of {e : Int} {a : Nat} (h1 : e % 4096 = a) (a1 : 1 ≤ a) (a2 : a ≤ s) (h3 : H (a - 1) = true) (h4 : G (a - 1) = e / 4096 % 1125899906842624) : Gd.leadsB s H G e = true := by
  unfold Gd.leadsB
  rw [h1, show (a : Int).toNat - 1 = a - 1 by omega, h3, h4]
  simp; omega
theorem HD.take {a : Nat} {g : Int} (h : HD s H G E) (s2 : s ≤ 250) (a1 : 1 ≤ a) (a2 : a ≤ s) (ha : H (a - 1) = false) (hg : G (a - 1) = g) (g0 : 0 ≤ g) (g1 : g < 1000) : HD s (Gd.takeH s H a) G (E ++ [makeI a g]) := by
  have hT : Gd.takeH s H a = Gd.setB H (a - 1) true := by
    unfold Gd.takeH Gd.canT
    rw [show ((a : Int).toNat - 1) = a - 1 by omega, ha, if_pos]
    simp; omega
  have he : makeI a g = a + 4096 * g := by unfold makeI; rw [slotI_of (by omega) (by omega)]; omega
  rw [hT, he]
  have hE : ∀ e ∈ E, ∃ b : Nat, e % 4096 = b ∧ b ≠ a ∧ 1 ≤ b ∧ b ≤ s ∧ H (b - 1) = true ∧ G (b - 1) = e / 4096 % 1125899906842624 := fun e hm => by
    obtain ⟨b, h1, h2, h3, h4, h5⟩ := leads_slot (h.ld e hm).2
    exact ⟨b, h1, (fun e => by rw [e, ha] at h4; cases h4), h2, h3, h4, h5⟩
  refine ⟨fun e hm => ?_, ?_⟩
  · rcases List.mem_append.1 hm with hm | hm
    · obtain ⟨b, h1, h2, h3, h4, h5, h6⟩ := hE e hm
      exact ⟨(h.ld e hm).1, leads_of h1 h3 h4 (by unfold Gd.setB; rw [if_neg (by omega)]; exact h5) h6⟩
    · simp only [List.mem_singleton] at hm
      subst hm
      exact ⟨by omega, leads_of (a := a) (by omega) a1 a2 (by unfold Gd.setB; rw [if_pos rfl]) (by rw [hg]; omega)⟩
  · rw [List.map_append, List.nodup_append]
    refine ⟨h.un, by simp, ?_⟩
    intro x hx y hy
    simp only [List.mem_map] at hx
    obtain ⟨e, hm, rfl⟩ := hx
    obtain ⟨b, h1, h2, _⟩ := hE e hm
    simp only [List.map_cons, List.map_nil, List.mem_singleton] at hy
    omega
theorem HD.give {A B : List Int} {e : Int} {a : Nat} {v : Int} (h : HD s H G (A ++ e :: B)) (he : e % 4096 = a) (a1 : 1 ≤ a) : HD s (Gd.setB H (a - 1) false) (Gd.updI G (a - 1) v) (A ++ B) := by
  have hu := h.un
  rw [List.map_append, List.map_cons, List.nodup_append] at hu
  obtain ⟨u1, u2, u3⟩ := hu
  rw [List.nodup_cons] at u2
  have hne : ∀ x ∈ A ++ B, x % 4096 ≠ e % 4096 := fun x hx => by
    rcases List.mem_append.1 hx with hx | hx
    · exact u3 _ (List.mem_map.2 ⟨x, hx, rfl⟩) _ List.mem_cons_self
    · exact fun e => u2.1 (List.mem_map.2 ⟨x, hx, e⟩)
  refine ⟨fun x hx => ?_, ?_⟩
  · have hm : x ∈ A ++ e :: B := by
      rcases List.mem_append.1 hx with hx | hx
      · exact List.mem_append.2 (.inl hx)
      · exact List.mem_append.2 (.inr (List.mem_cons_of_mem _ hx))
    obtain ⟨b, h1, h2, h3, h4, h5⟩ := leads_slot (h.ld x hm).2
    have := hne x hx
    exact ⟨(h.ld x hm).1, leads_of h1 h2 h3 (by unfold Gd.setB; rw [if_neg (by omega)]; exact h4) (by unfold Gd.updI; rw [if_neg (by omega)]; exact h5)⟩
  · rw [List.map_append, List.nodup_append]
    exact ⟨u1, u2.2, fun x hx y hy => u3 x hx y (List.mem_cons_of_mem _ hy)⟩
end
/-- At first. -/
theorem SI.init {t s : Nat} (s1 : 7 ≤ s) (s2 : s ≤ 250) : SI t s (partF t 3 s) (fun i => decide (i < 5)) (fun _ => 0) (frees s) (List.replicate s 0) 0 := by
  have hlen : (frees s).length = s - 5 := by simp [frees]
  have hget : ∀ j (h : j < (frees s).length), (frees s)[j] = j + 6 := fun j h => by simp [frees]
  have hp : ∀ a j, 1 ≤ a → j < 7 → partF t 3 s (nd t a j) = nodeF 3 s (a - 1) j := fun a j a1 hj => partF_node t 3 s (a - 1) j hj
  refine ⟨⟨?_, fun j hj => ?_⟩, ?_, fun a a1 a2 => ?_, ?_, by simp, fun a a1 a2 => ?_⟩
  · have : partF t 3 s 2 = 6 := by unfold partF; simp
    rw [this]
    have h0 : hdN (frees s) = 6 := by have := hd_drop (L := frees s) (j := 0) (by omega); rw [hget 0 (by omega)] at this; simpa using this
    rw [h0]; rfl
  · rw [hget j hj, hp _ _ (by omega) (by omega)]
    refine ⟨by omega, by omega, ?_⟩
    unfold nodeF
    rw [if_pos rfl]
    rcases Nat.lt_or_ge (j + 1) (frees s).length with h1 | h1
    · rw [hd_drop h1, hget _ h1, if_pos (by omega)]; omega
    · rw [hd_end h1, if_neg (by omega)]; rfl
  · unfold frees
    refine List.pairwise_map.2 (List.Pairwise.imp ?_ List.nodup_range)
    intro x y e
    omega
  · simp only [frees, List.mem_map, List.mem_range, decide_eq_false_iff_not]
    constructor
    · intro h; exact ⟨a - 6, by omega, by omega⟩
    · rintro ⟨j, h1, rfl⟩; omega
  · rw [hlen]
    have : ∀ n, Gd.cntB (fun i => decide (i < 5)) n = min n 5 := by
      intro n
      induction n with
      | zero => rfl
      | succ n ih =>
        rw [Gd.cntB, ih]
        by_cases h : n < 5
        · rw [if_pos (by simpa using h)]; omega
        · rw [if_neg (by simpa using h)]; omega
    rw [this]; omega
  · rw [hp a 1 a1 (by omega)]
    have h10 : (List.replicate s (0 : Int)).getD (a - 1) 0 = 0 := by rw [List.getD_eq_getElem?_getD, List.getElem?_replicate]; split <;> rfl
    rw [h10]
    exact ⟨by unfold nodeF; rw [if_neg (by omega), if_neg (by omega), if_neg (by omega), if_neg (by omega)], rfl, by omega, by omega⟩
theorem HD.init {s : Nat} {H : Nat → Bool} {G : Nat → Int} : HD s H G [] := ⟨fun e h => by simp at h, by simp⟩
end Go.Proofs.Ytlahpnigabfenaa.Sl

/- Layer 17: Take and Give alone, and what is free. -/
namespace Go.Proofs.Ytlahpnigabfenaa.Sl
open Go.RowKit WordM EdgeM
set_option linter.unusedVariables false
set_option linter.unusedSimpArgs false
theorem SI.mono {t s : Nat} {f : Nat → Int} {H : Nat → Bool} {G : Nat → Int} {L : List Nat} {Gn : List Int} {m m' : Nat} (h : SI t s f H G L Gn m) (hm : m ≤ m') : SI t s f H G L Gn m' :=
  ⟨h.lk, h.un, h.hh, h.cn, h.gl, fun a a1 a2 => ⟨(h.gn a a1 a2).1, (h.gn a a1 a2).2.1, (h.gn a a1 a2).2.2.1, by have := (h.gn a a1 a2).2.2.2; omega⟩⟩
structure FI (P : Pc) (σ : Sg) (L : List Nat) (Gn : List Int) (E : List Int) (m : Nat) : Prop where
  si : SI P.t P.s σ.f σ.H σ.G L Gn m
  hd : HD P.s σ.H σ.G E
  fl : σ.flt = false
  sl : σ.sl = 0
  od : σ.odd = false
  ac : 0 ≤ σ.acc ∧ σ.acc ≤ 10 * m
  st : 0 ≤ σ.steps ∧ σ.steps ≤ 10 * m
  id : ∀ k, k < P.t → (σ.Ts k).nf = 0
theorem FI.mono {P : Pc} {σ : Sg} {L : List Nat} {Gn E : List Int} {m m' : Nat} (h : FI P σ L Gn E m) (hm : m ≤ m') : FI P σ L Gn E m' :=
  ⟨h.si.mono hm, h.hd, h.fl, h.sl, h.od, by have := h.ac; omega, by have := h.st; omega, h.id⟩
theorem ld_nd {P : Pc} {f : Nat → Int} {a j : Nat} (a1 : 1 ≤ a) (a2 : a ≤ P.s) (hj : j < 7) : P.ld f a j = f (nd P.t a j) ∧ P.ok a j = true := by
  have h1 := nd_node (t := P.t) a1 a2 hj
  have h2 := nd_lt (t := P.t) a1 a2 hj
  have ho : P.ok a j = true := by unfold Pc.ok Mm.okA Pc.n; rw [h1]; simp; omega
  refine ⟨?_, ho⟩
  unfold Pc.ld Mm.ldI
  rw [if_pos (show Mm.okA P.n (nodeI P.t P.s a j) = true from ho), h1]
  simp
theorem st_nd {P : Pc} {f : Nat → Int} {a j : Nat} {v : Int} (a1 : 1 ≤ a) (a2 : a ≤ P.s) (hj : j < 7) : P.st f a j v = Mm.upd f (nd P.t a j) v := by
  unfold Pc.st
  rw [if_pos (ld_nd (f := f) a1 a2 hj).2, nd_node (t := P.t) a1 a2 hj]
  simp
def tkE (E : List Int) (Gn : List Int) : List Nat → List Int
  | [] => E
  | a :: _ => E ++ [makeI a (Gn.getD (a - 1) 0)]
section
variable {P : Pc} {σ : Sg} {L : List Nat} {Gn E : List Int} {m : Nat}
theorem FI.take {a : Nat} {r : List Nat} (h : FI P σ (a :: r) Gn E m) (s2 : P.s ≤ 250) (hm : m ≤ 60) {k : Nat} (hk : k < P.t) (R : Nat → Int) :
    FI P (tkS P k 0 σ R 4) r Gn (E ++ [makeI a (Gn.getD (a - 1) 0)]) (m + 1) ∧ ((tkS P k 0 σ R 4).Ts k).ret 0 = makeI a (Gn.getD (a - 1) 0) := by
  obtain ⟨a1, a2⟩ := h.si.mem List.mem_cons_self
  have hhd : σ.f 2 % 4096 = a := h.si.lk.hd
  have hz : ¬ σ.f 2 % 4096 = 0 := by omega
  obtain ⟨q1, q2, q3, q4, q5, q6, q7⟩ := tk4 (P := P) (R := R) (h.id k hk) hz
  obtain ⟨c1, c2, c3, c4⟩ := tkS_acc (P := P) (k := k) (m := 0) (σ := σ) (R := R) 4
  have e0 := ld_nd (P := P) (f := σ.f) (j := 0) a1 a2 (by omega)
  have e1 := ld_nd (P := P) (f := Mm.upd σ.f 2 (chgI (σ.f 2) (P.ld σ.f (σ.f 2 % 4096) 0))) (j := 1) a1 a2 (by omega)
  have hgn := h.si.gn a a1 a2
  have hH : σ.H (a - 1) = false := (h.si.hh a a1 a2).2 List.mem_cons_self
  rw [hhd] at q1 q2 q3 q4 q6 e1
  have e0' : P.ld σ.f a 0 = σ.f (nd P.t a 0) := e0.1
  have o0 : P.ok a 0 = true := e0.2
  have o1 : P.ok a 1 = true := e1.2
  rw [e0'] at q1 q6
  have e1' : P.ld (Mm.upd σ.f 2 (chgI (σ.f 2) (σ.f (nd P.t a 0)))) a 1 = Gn.getD (a - 1) 0 := by
    have h9 := e1.1
    rw [e0'] at h9
    rw [← hgn.1]
    refine h9.trans ?_
    unfold Mm.upd; rw [if_neg nd_ne2]
  have hcan : Gd.canT P.s σ.H a = true := by
    unfold Gd.canT
    rw [show ((a : Int).toNat - 1) = a - 1 by omega, hH]
    simp; omega
  rw [o0, o1, h.fl] at q2
  rw [if_pos hcan, h.sl] at q4
  refine ⟨⟨?_, ?_, by rw [q2]; rfl, q4, by rw [c3]; exact h.od, by have := h.ac; omega, by have := h.st; omega, fun i hi => ?_⟩, ?_⟩
  · rw [q1, q3, c4]; exact (h.si.take s2).mono (by omega)
  · rw [q3, c4]; exact h.hd.take s2 a1 a2 hH hgn.2.1 hgn.2.2.1 (by omega)
  · by_cases e : i = k
    · subst e; exact q5
    · rw [q7 i e]; exact h.id i hi
  · rw [q6]; simp only [show (0 : Nat) < 1 by omega, if_true]; rw [e1']
theorem FI.none (h : FI P σ [] Gn E m) {k : Nat} (hk : k < P.t) (R : Nat → Int) :
    FI P (tkS P k 0 σ R 1) [] Gn E (m + 1) ∧ ((tkS P k 0 σ R 1).Ts k).ret 0 = 0 := by
  have hhd : σ.f 2 % 4096 = 0 := h.si.lk.hd
  have e1 := tk1z (P := P) (R := R) (h.id k hk) hhd
  have t0 := tk0 (P := P) (R := R) (h.id k hk)
  obtain ⟨c1, c2, c3, c4⟩ := tkS_acc (P := P) (k := k) (m := 0) (σ := σ) (R := R) 1
  refine ⟨⟨?_, ?_, ?_, ?_, by rw [c3]; exact h.od, by have := h.ac; omega, by have := h.st; omega, fun i hi => ?_⟩, ?_⟩
  · rw [e1]; exact h.si.mono (by omega)
  · rw [e1]; exact h.hd
  · rw [e1]; exact h.fl
  · rw [e1]; exact h.sl
  · rw [e1]
    by_cases e : i = k
    · subst e
      unfold Sg.thr Th.backT setF
      simp only [if_true]
      have h9 := t0.nf
      show ((tkS P i 0 σ R 0).Ts i).nf - 1 = 0
      omega
    · unfold Sg.thr
      simp only [if_neg e]
      have h9 := t0.oth i e
      show ((tkS P k 0 σ R 0).Ts i).nf = 0
      rw [h9]; exact h.id i hi
  · rw [e1]
    unfold Sg.thr Th.backT setF
    simp
theorem FI.give {A B : List Int} {e : Int} (h : FI P σ L Gn (A ++ e :: B) m) (s2 : P.s ≤ 250) (hm : m ≤ 60) {k : Nat} (hk : k < P.t) (R : Nat → Int) (hR : R 0 = e) :
    ∃ a : Nat, e % 4096 = a ∧ 1 ≤ a ∧ a ≤ P.s ∧ gvF2 P σ (R 0) 2 = gvF1 P σ (R 0) 2 ∧ gvF1 P σ (R 0) 2 = σ.f 2 ∧ Gd.leadsB P.s σ.H σ.G (R 0) = true ∧
      FI P (gvS P k 0 σ R 4) (a :: L) (Gn.set (a - 1) (Gn.getD (a - 1) 0 + 1)) (A ++ B) (m + 1) := by
  have hl := h.hd.ld e (List.mem_append.2 (.inr List.mem_cons_self))
  obtain ⟨a, h1, a1, a2, h4, h5⟩ := leads_slot hl.2
  have hgn := h.si.gn a a1 a2
  have hv : (e / 4096 % 1125899906842624 + 1) % 1125899906842624 = Gn.getD (a - 1) 0 + 1 := by rw [← h5, hgn.2.1]; omega
  have f1 : gvF1 P σ e = Mm.upd σ.f (nd P.t a 1) (Gn.getD (a - 1) 0 + 1) := by
    unfold gvF1
    rw [h1, hv]
    exact st_nd (j := 1) a1 a2 (by omega)
  have f12 : gvF1 P σ e 2 = σ.f 2 := by rw [f1]; unfold Mm.upd; rw [if_neg (Ne.symm nd_ne2)]
  have f2 : gvF2 P σ e = Mm.upd (Mm.upd σ.f (nd P.t a 1) (Gn.getD (a - 1) 0 + 1)) (nd P.t a 0) (σ.f 2 % 4096) := by
    unfold gvF2
    rw [f12, f1, h1]
    exact st_nd (j := 0) a1 a2 (by omega)
  have f22 : gvF2 P σ e 2 = gvF1 P σ e 2 := by rw [f2, f1]; unfold Mm.upd; rw [if_neg (Ne.symm nd_ne2)]
  have hD : Gd.dropH P.s σ.H σ.G e = Gd.setB σ.H (a - 1) false := by unfold Gd.dropH; rw [if_pos hl.2, h1, show (a : Int).toNat - 1 = a - 1 by omega]
  have hG : Gd.dropG P.s σ.H σ.G e = Gd.updI σ.G (a - 1) (Gn.getD (a - 1) 0 + 1) := by
    unfold Gd.dropG; rw [if_pos hl.2, h1, show (a : Int).toNat - 1 = a - 1 by omega, h5, hv]
  obtain ⟨q1, q2, q3, q4, q5, q6⟩ := gvt4 (P := P) (R := R) (h.id k hk) (by rw [hR]; exact f22)
  obtain ⟨c1, c2, c3, c4⟩ := gvS_acc (P := P) (k := k) (m := 0) (σ := σ) (R := R) 4
  have o0 : P.ok a 0 = true := (ld_nd (P := P) (f := σ.f) (j := 0) a1 a2 (by omega)).2
  have o1 : P.ok a 1 = true := (ld_nd (P := P) (f := σ.f) (j := 1) a1 a2 (by omega)).2
  rw [hR] at q1 q2 q3 q4 ⊢
  rw [f12, h1, f2] at q1
  rw [h1, o0, o1, h.fl] at q2
  rw [hD] at q3
  rw [hG] at q4
  refine ⟨a, h1, a1, a2, f22, f12, hl.2, ⟨?_, ?_, by rw [q2]; rfl, by rw [c4]; exact h.sl, by rw [c3]; exact h.od, by have := h.ac; omega, by have := h.st; omega, fun i hi => ?_⟩⟩
  · rw [q1, q3, q4]; exact h.si.give s2 a1 a2 h4 rfl
  · rw [q3, q4]; exact h.hd.give h1 a1
  · by_cases e : i = k
    · subst e; exact q5
    · rw [q6 i e]; exact h.id i hi
end
theorem atake {w : World} {P : Pc} {σ : Sg} {L : List Nat} {Gn E : List Int} {m k : Nat} (h : MM w P σ) (hf : FI P σ L Gn E m) (hm : m ≤ 60) (hk : k < P.t) :
    Calls Try.prog 9 #[.pointer (some ⟨P.q, 0, none⟩), .int .i64 k, .func (.func 10) #[] #[], .int .i64 10, .int .i64 1, .slice none 0 0] w fun x w' => ∃ (n : Nat) (σ' : Sg), x = .returned (.tuple #[.int .i64 n, .bool true]) ∧ n ≤ 4 ∧ MM w' P σ' ∧ KA P.B P.N w w' ∧ FI P σ' L.tail Gn (tkE E Gn L) (m + 1) ∧ (σ'.Ts k).ret 0 = makeI (hdN L) (gnN Gn L) := by
  have hac := hf.ac; have hst := hf.st; have hsl := hf.sl
  have s2 := h.bd.2.2
  cases L with
  | nil =>
    have hhd : σ.f 2 % 4096 = 0 := hf.si.lk.hd
    refine (alone_none (m := 0) (most := 10) h hk (hf.id k hk) (by omega) (by omega) (by omega) hhd (by omega) (by omega) (by omega) (by omega) (by omega) (R := fun _ => 0) (Th.UR.nil _)).mono ?_
    rintro _ w' ⟨rfl, hm', hk'⟩
    obtain ⟨k1, k2⟩ := hf.none hk (fun _ => 0)
    exact ⟨1, _, rfl, by omega, hm', hk', k1, k2⟩
  | cons a r =>
    have hhd : σ.f 2 % 4096 = a := hf.si.lk.hd
    obtain ⟨a1, a2⟩ := hf.si.mem List.mem_cons_self
    have hl : P.ld σ.f (σ.f 2 % 4096) 0 < 9223372036854775808 := by
      rw [hhd]
      have e0 : P.ld σ.f a 0 = σ.f (nd P.t a 0) := (ld_nd (P := P) (f := σ.f) (j := 0) a1 a2 (by omega)).1
      have h9 := (hf.si.lk.at_ 0 (by simp)).2.2
      have h10 := hd_le hf.si.lk 1
      simp only [List.getElem_cons_zero] at h9
      rw [e0, h9]
      have : hdN (List.drop (0 + 1) (a :: r)) ≤ P.s := h10
      omega
    refine (alone_take (m := 0) (most := 10) h hk (hf.id k hk) (by omega) (by omega) (by omega) (by omega) hl (by omega) (by omega) (by omega) (by omega) (by omega) (R := fun _ => 0) (Th.UR.nil _)).mono ?_
    rintro _ w' ⟨rfl, hm', hk'⟩
    obtain ⟨k1, k2⟩ := hf.take s2 hm hk (fun _ => 0)
    exact ⟨4, _, rfl, by omega, hm', hk', k1, k2⟩
theorem agive {w : World} {P : Pc} {σ : Sg} {L : List Nat} {Gn A B : List Int} {e : Int} {m k : Nat} (h : MM w P σ) (hf : FI P σ L Gn (A ++ e :: B) m) (hm : m ≤ 60) (hk : k < P.t) {v : Value} {R : Nat → Int} (hR : R 0 = e) (hu : Th.UR w v 1 R) :
    Calls Try.prog 9 #[.pointer (some ⟨P.q, 0, none⟩), .int .i64 k, .func (.func 10) #[] #[], .int .i64 10, .int .i64 2, v] w fun x w' => ∃ (a : Nat) (σ' : Sg), x = .returned (.tuple #[.int .i64 4, .bool true]) ∧ e % 4096 = a ∧ 1 ≤ a ∧ a ≤ P.s ∧ MM w' P σ' ∧ KA P.B P.N w w' ∧ FI P σ' (a :: L) (Gn.set (a - 1) (Gn.getD (a - 1) 0 + 1)) (A ++ B) (m + 1) := by
  have hac := hf.ac; have hst := hf.st; have hsl := hf.sl
  have s2 := h.bd.2.2
  obtain ⟨a, h1, a1, a2, q1, q2, q3, q4⟩ := hf.give s2 hm hk R hR
  have hl := hf.hd.ld e (List.mem_append.2 (.inr List.mem_cons_self))
  have hrg := h.c.mem.rng 2 (by omega)
  refine (alone_give (m := 0) (most := 10) h hk (hf.id k hk) (by omega) (by omega) (by omega) (by omega) (by omega) (by omega) (by omega) (by omega) (by rw [hR]; omega) q3 q1 (by rw [q2]; exact hrg) hu).mono ?_
  rintro _ w' ⟨rfl, hm', hk'⟩
  exact ⟨a, _, rfl, h1, a1, a2, hm', hk', q4⟩
theorem FI.init {t s : Nat} (P : Pc) (ht : P.t = t) (hs : P.s = s) (s1 : 7 ≤ s) (s2 : s ≤ 250) : FI P (sgInit t s) (frees s) (List.replicate s 0) [] 0 :=
  ⟨by rw [ht, hs]; exact SI.init s1 s2, HD.init, rfl, rfl, rfl, ⟨by show (0 : Int) ≤ 0; omega, by show (0 : Int) ≤ _; omega⟩, ⟨by show (0 : Int) ≤ 0; omega, by show (0 : Int) ≤ _; omega⟩, fun k _ => rfl⟩
end Go.Proofs.Ytlahpnigabfenaa.Sl

/- Layer 17: what the law of SlotsAlone has in hand. -/
namespace Go.Proofs.Ytlahpnigabfenaa
open Go.RowKit WordM EdgeM
set_option linter.unusedVariables false
theorem TF.ksT {w w' : World} {q t : Nat} {tq : Nat → Nat} {Ts : Nat → Th.Td} {ps : Nat → Nat → Nat} {fvs : Nat → Value} (h : TF w q t tq Ts ps fvs) {X : Nat} {cur : Array Value} {T : TypeId} (hX : w.heap[X]? = some (.cells cur T (0, 0))) (h1 : 50 ≠ T) (h2 : 65 ≠ T) (h3 : 69 ≠ T) (ks : Th.KS (fun j => j = X) w w') : TF w' q t tq Ts ps fvs := by
  refine ⟨fun i hi => (h.th i hi).keep ks.size fun j hj _ hc => ks.block j hj ?_, h.inj, h.sep, h.fsep⟩
  obtain ⟨_, ci, hci⟩ := (h.th i hi).blk
  rcases hc with rfl | hc | ⟨a, ha, rfl⟩
  · exact ty_ne hci hX h1
  · obtain ⟨_, _, c2, e2⟩ := (h.th i hi).own hc
    exact ty_ne e2 hX h2
  · obtain ⟨_, _, c2, e2⟩ := (h.th i hi).frm ha
    exact ty_ne e2 hX h3
/-- A block outside was written. -/
theorem MM.other {w w' : World} {P : Pc} {σ : Sg} (h : MM w P σ) {X : Nat} {cur : Array Value} {T : TypeId} (hX : w.heap[X]? = some (.cells cur T (0, 0))) (hN : P.N ≤ X) (h0 : 51 ≠ T) (h1 : 50 ≠ T) (h2 : 65 ≠ T) (h3 : 69 ≠ T) (ks : Th.KS (fun j => j = X) w w') : MM w' P σ := by
  obtain ⟨ps, fvs, tf⟩ := h.th
  exact ⟨h.c.ksT hX (by have := h.qN; omega) h0 ks, ⟨ps, fvs, tf.ksT hX h1 h2 h3 ks⟩, h.qN, h.tN, Nat.le_trans h.NS ks.size⟩
end Go.Proofs.Ytlahpnigabfenaa
namespace Go.Proofs.Ytlahpnigabfenaa.Sl
open Go.RowKit WordM EdgeM
set_option linter.unusedVariables false
set_option linter.unusedSimpArgs false
theorem int_cells {w : World} {cs : List Value} (h : Fr.Sh.oks w [.int .i64] cs) : ∃ x : Int, cs = [.int .i64 x] := by
  obtain ⟨_, _, rfl, k0, h⟩ := Fr.get_cons h
  obtain rfl := Fr.get_nil h
  obtain ⟨x, rfl, _⟩ := Fr.get_int k0
  exact ⟨x, rfl⟩
theorem il_open {w : World} {v : Value} (h : Fr.ok1 w (.slice [.int .i64]) v) : ∃ ao len cap, v = .slice ao len cap ∧ len ≤ cap ∧ cap ≤ 9223372036854775807 ∧ ∀ i, i < len → ∃ g off, ao = some ⟨g, off, none⟩ ∧ ∃ x : Int, w.cell? ⟨g, off + i, none⟩ = some (.int .i64 x) := by
  rcases Fr.get_slice h with rfl | ⟨a, len, cap, rfl, h1, h2, h3⟩
  · exact ⟨none, 0, 0, rfl, Nat.le_refl _, by decide, fun i hi => by omega⟩
  · refine ⟨some a, len, cap, rfl, h1, h2, fun i hi => ?_⟩
    obtain ⟨cs0, h5, h6⟩ := h3 0 (by omega)
    obtain ⟨x, rfl⟩ := int_cells h6
    have hs : a.spot = none := by
      have h7 := (World.cells?_some h5).2.2 0 (by decide)
      exact World.cell?_spot (by simpa [Addr.add] using h7)
    obtain ⟨g, off, spot⟩ := a
    simp only at hs
    subst hs
    obtain ⟨cs, h5, h6⟩ := h3 i (by omega)
    obtain ⟨x, rfl⟩ := int_cells h6
    obtain ⟨_, _, h7⟩ := World.cells?_some h5
    have e : ((⟨g, off, none⟩ : Addr).add (i * [Fr.Sh.int .i64].length)) = ⟨g, off + i, none⟩ := by
      simp [Addr.add] <;> (intro hh; subst hh; rfl)
    rw [e] at h7
    exact ⟨g, off, rfl, x, by simpa [Addr.add] using h7 0 (by decide)⟩
theorem uSE : Try.prog.underlying 36 = some (.slice 42) := by kernel_rfl
theorem infE : (Try.prog.info? 42).map (fun i => (i.zero, i.size, i.bytes)) = some (some (.int .u64 0), 1, 8) := by kernel_rfl
theorem FV.ka {B N N' : Nat} {w w' : World} {v : Value} {L : List Nat} {G : List Int} (h : FV N w v L G) (k : KA B N' w w') (hN : N' ≤ N) : FV N w' v L G := by
  obtain ⟨a, b, e, h1, h2⟩ := h.e
  exact ⟨a, b, e, h1.ka k hN (by decide) (by decide), h2.ka k hN (by decide) (by decide)⟩
theorem FV.mono {N N' : Nat} {w : World} {v : Value} {L : List Nat} {G : List Int} (h : FV N w v L G) (hN : N' ≤ N) : FV N' w v L G := by
  obtain ⟨a, b, e, h1, h2⟩ := h.e
  exact ⟨a, b, e, h1.mono hN, h2.mono hN⟩
theorem FV.of {N : Nat} {w w' : World} {v : Value} {L : List Nat} {G : List Int} (h : FV N w v L G) (k : ∀ (j : Nat) (T : TypeId) (cur : Array Value), T ≠ 34 → w.heap[j]? = some (.cells cur T (0, 0)) → w'.heap[j]? = w.heap[j]?) : FV N w' v L G := by
  obtain ⟨a, b, e, h1, h2⟩ := h.e
  exact ⟨a, b, e, h1.of fun j cur _ hc => k j 3 cur (by decide) hc, h2.of fun j cur _ hc => k j 22 cur (by decide) hc⟩
/-- The shapes of its two slices. -/
theorem FV.sh {N : Nat} {w : World} {v : Value} {L : List Nat} {G : List Int} (h : FV N w v L G) : ∃ pa ca pb cb, v = .agg #[.slice pa L.length ca, .slice pb G.length cb] ∧ L.length ≤ ca ∧ ca ≤ 9223372036854775807 ∧
    Hid (0 < L.length → ∃ g o, pa = some ⟨g, o, none⟩ ∧ ∀ i (h : i < L.length), w.cell? ⟨g, o + i, none⟩ = some (.int .i64 (L[i] : Nat))) := by
  obtain ⟨a, b, rfl, h1, h2⟩ := h.e
  obtain ⟨p, c, rfl, q1, q2, q3⟩ := h1.parts
  obtain ⟨p', c', rfl, q1', q2', _⟩ := h2.parts
  rw [ints_len] at q1 q3
  rw [ints_len, wds_len]
  refine ⟨p, c, p', c', rfl, q1, q2, fun h => ?_⟩
  obtain ⟨g, o, e, _, _, k⟩ := q3.out h
  exact ⟨g, o, e, fun i hi => k i _ (ints_get hi)⟩
/-- What the law has beside the machine. -/
structure LR (w wr : World) (P : Pc) (cb b7 : Nat) (L : List Nat) (Gn E : List Int) (hv : Value) : Prop where
  fv : ∃ a b, wr.heap[b7]? = some (.cells #[a, b] 34 (0, 0)) ∧ FV P.N wr (.agg #[a, b]) L Gn
  own : wr.ownsRow P.N 42 1 hv E.length (wds E)
  cf : wr.heap[cb]? = some (.cells #[.int .i64 P.t, .int .i64 P.s, .int .u64 P.K] 24 (0, 0))
  bl : Below w.heap.size w wr
  n7 : P.N ≤ b7 ∧ cb < P.B ∧ w.heap.size ≤ P.B
theorem LR.below {w wr w' : World} {P : Pc} {cb b7 : Nat} {L : List Nat} {Gn E : List Int} {hv : Value} (h : LR w wr P cb b7 L Gn E hv) (k : Below wr.heap.size wr w') : LR w w' P cb b7 L Gn E hv := by
  obtain ⟨a, b, e, f⟩ := h.fv
  exact ⟨⟨a, b, Th.up k e, f.below k⟩, own_below h.own k, Th.up k h.cf, below_on h.bl k, h.n7⟩
theorem LR.ka {w wr w' : World} {P : Pc} {cb b7 : Nat} {L : List Nat} {Gn E : List Int} {hv : Value} (h : LR w wr P cb b7 L Gn E hv) (k : KA P.B P.N wr w') : LR w w' P cb b7 L Gn E hv := by
  obtain ⟨a, b, e, f⟩ := h.fv
  refine ⟨⟨a, b, (k.keep e (.inr h.n7.1) (by decide) (by decide)).trans e, f.ka k (Nat.le_refl _)⟩, ?_, (k.keep h.cf (.inl h.n7.2.1) (by decide) (by decide)).trans h.cf, ?_, h.n7⟩
  · refine own_kept h.own fun b hb => ?_
    obtain ⟨cur, hc⟩ := own_ty h.own hb
    exact k.keep hc (.inr (own_ge h.own b hb)) (by decide) (by decide)
  · exact ⟨k.os.trans h.bl.os, k.tape.trans h.bl.tape, k.output.trans h.bl.output, Nat.le_trans h.bl.size k.size, fun j hj => (k.block j (Nat.lt_of_lt_of_le hj h.bl.size) (by have := h.n7; omega)).trans (h.bl.block j hj)⟩
/-- What the law stores. -/
theorem LR.put {w wr : World} {P : Pc} {cb b7 : Nat} {L L' : List Nat} {Gn Gn' E : List Int} {hv : Value} (h : LR w wr P cb b7 L Gn E hv) {a' b' : Value} (hf : FV P.N wr (.agg #[a', b']) L' Gn') (hB : P.B ≤ P.N) : LR w ((wr.setCell ⟨b7, 0, none⟩ a').setCell ⟨b7, 1, none⟩ b') P cb b7 L' Gn' E hv := by
  obtain ⟨a, b, e, f⟩ := h.fv
  have hbk : Th.Blk 34 wr b7 2 (fun j => if j = 0 then a else b) := e
  have ho : ∀ j, j ≠ b7 → ((wr.setCell ⟨b7, 0, none⟩ a').setCell ⟨b7, 1, none⟩ b').heap[j]? = wr.heap[j]? := fun j hj => (heap_setCell_other _ _ _ _ hj).trans (heap_setCell_other _ _ _ _ hj)
  have hk : ∀ (j : Nat) (T : TypeId) (cur : Array Value), T ≠ 34 → wr.heap[j]? = some (.cells cur T (0, 0)) → ((wr.setCell ⟨b7, 0, none⟩ a').setCell ⟨b7, 1, none⟩ b').heap[j]? = wr.heap[j]? := fun j T cur hT hc => ho j fun e' => by
    rw [e', e] at hc
    simp only [Option.some.injEq, Obj.cells.injEq] at hc
    exact hT hc.2.1.symm
  refine ⟨⟨a', b', put2 hbk a' b', hf.of hk⟩, ?_, (ho cb (by have := h.n7; omega)).trans h.cf, ?_, h.n7⟩
  · refine own_kept h.own fun b hb => ?_
    obtain ⟨cur, hc⟩ := own_ty h.own hb
    exact hk b 42 cur (by decide) hc
  · have h1 : w.heap.size ≤ b7 := by have := h.n7; omega
    exact below_set (below_set h.bl h1 _) h1 _
theorem MM.put {wr : World} {P : Pc} {σ : Sg} (h : MM wr P σ) {b7 : Nat} {cur : Array Value} (e : wr.heap[b7]? = some (.cells cur 34 (0, 0))) (hN : P.N ≤ b7) (a' b' : Value) : MM ((wr.setCell ⟨b7, 0, none⟩ a').setCell ⟨b7, 1, none⟩ b') P σ :=
  h.other e hN (by decide) (by decide) (by decide) (by decide) ((Th.KS.set wr b7 0 a').trans (Th.KS.set _ b7 1 b'))
theorem MM.grown {wr w' : World} {P : Pc} {σ : Sg} (h : MM wr P σ) {v : Value} {n : Nat} {xs : List Value} (ho : wr.ownsRow P.N 42 1 v n xs) (hg : wr.grownBy w' v.ownBlock) : MM w' P σ := by
  cases hv : v.ownBlock with
  | none =>
    rw [hv] at hg
    exact h.below ((Below.refl _ _).grown hg (Nat.le_refl _) (by intro k hk; cases hk))
  | some X =>
    obtain ⟨cur, hc⟩ := own_ty ho hv
    rw [hv] at hg
    exact h.other hc (own_ge ho X hv) (by decide) (by decide) (by decide) (by decide) ⟨hg.os, hg.tape, hg.output, hg.size, fun j hj hx => hg.block j hj fun e => hx (by simpa using e)⟩
theorem LR.grown {w wr w' : World} {P : Pc} {cb b7 : Nat} {L : List Nat} {Gn E E' : List Int} {hv hv' : Value} (h : LR w wr P cb b7 L Gn E hv) (hg : wr.grownBy w' hv.ownBlock) (hB : P.B ≤ P.N) (hown : w'.ownsRow P.N 42 1 hv' E'.length (wds E')) : LR w w' P cb b7 L Gn E' hv' := by
  obtain ⟨a, b, e, f⟩ := h.fv
  have hk : ∀ (j : Nat) (T : TypeId) (cur : Array Value), T ≠ 42 → wr.heap[j]? = some (.cells cur T (0, 0)) → w'.heap[j]? = wr.heap[j]? := fun j T cur hT hc => hg.block j (Th.blk_lt hc) fun e' => by
    obtain ⟨c2, h2⟩ := own_ty h.own e'.symm
    rw [h2] at hc
    simp only [Option.some.injEq, Obj.cells.injEq] at hc
    exact hT hc.2.1.symm
  refine ⟨⟨a, b, (hk b7 34 _ (by decide) e).trans e, ?_⟩, hown, (hk cb 24 _ (by decide) h.cf).trans h.cf, ?_, h.n7⟩
  · obtain ⟨a1, b1, e1, h1, h2⟩ := f.e
    exact ⟨a1, b1, e1, h1.of fun j cur _ hc => hk j 3 cur (by decide) hc, h2.of fun j cur _ hc => hk j 22 cur (by decide) hc⟩
  · exact h.bl.grown hg h.bl.size fun k hk' => by have := own_ge h.own k hk'; have := h.n7; omega
/-- A list that is there is appended to an own one, as one operation. -/
theorem wp_append_v {T SL : TypeId} {z : Value} (uT : Try.prog.underlying SL = some (.slice T)) (infoT : (Try.prog.info? T).map (fun i => (i.zero, i.size, i.bytes)) = some (some z, 1, 8)) (hzs : z.cells.size = 1)
    {w : World} {o : Oper} {a : Act} {K : Act → World → Prop} {Q : Exit → Act → World → Prop} (s x : Operand)
    (ho : o.op = .call { callee := .builtin .append, args := #[s, x], argTypes := #[SL, SL] })
    (B N : Nat) (v : Value) (ad : Addr) (m c : Nat) (xs ys : List Value) (hs : a.eval s = v) (hown : w.ownsRow B T 1 v xs.length xs) (hx : a.eval x = .slice (some ad) m c) (hu : VR N T w (.slice (some ad) m c) ys) (h1 : ∀ u ∈ ys, u.oneCell' = true) (hlen : xs.length + ys.length ≤ 1000000) (hB : B ≤ w.heap.size)
    (h : ∀ v' w', w'.ownsRow B T 1 v' (xs ++ ys).length (xs ++ ys) → w.grownBy w' v.ownBlock → K (a.put o.dst v') w') : o.wp Try.prog a w K Q := by
  obtain ⟨i0, hi, hz0, hz1, hz2⟩ := Th.info_one infoT
  cases hu with
  | odd ad c hc0 =>
    refine wp_append_own w s x SL ho B T i0 z 1 8 uT hi hz0 hz1 hz2 hzs (by decide) v xs.length xs hs hown ad 0 c [] hx rfl (fun j u hu => by simp at hu) (fun u hu => by simp at hu) (by unfold maxLen; omega) (by omega) hB ?_
    intro v' w' h4 h5 _
    exact h v' w' (by rw [List.length_append]; exact h4) h5
  | row g o' c _ h0 hb h2 h3 h4 =>
    refine wp_append_own w s x SL ho B T i0 z 1 8 uT hi hz0 hz1 hz2 hzs (by decide) v xs.length xs hs hown ⟨g, o', none⟩ ys.length c ys hx (by omega) ?_ h1 (by unfold maxLen; omega) (by omega) hB ?_
    · intro j u hu
      rw [Th.addP]; exact h4 j u hu
    · intro v' w' h5 h6 _
      exact h v' w' (by rw [List.length_append]; exact h5) h6
/-- The row ahead of a place, and the one behind it. -/
theorem own_ahead {w : World} {B g n c : Nat} {T : TypeId} {xs : List Value} (h : w.ownsRow B T 1 (.slice (some ⟨g, 0, none⟩) n c) n xs) (hn : n = xs.length) {j : Nat} (hj : j ≤ n) : VR B T w (.slice (some ⟨g, 0, none⟩) j c) (xs.take j) := by
  subst hn
  rcases h.2 with ⟨hv, _⟩ | ⟨g', cap, cur, hv, hb, hh, h1, h2, h3, h4⟩
  · cases hv
  · simp only [Value.slice.injEq, Option.some.injEq, Addr.mk.injEq, true_and, and_true] at hv
    obtain ⟨rfl, rfl⟩ := hv
    have h5 := VR.row (N := B) (T := T) (w := w) g 0 c (xs.take j) hb ⟨cur, hh⟩ (by simp; omega) h2 fun i u hu => by
      have hi : i < xs.length ∧ i < j := by have := (List.getElem?_eq_some_iff.1 hu).1; simp at this; omega
      rw [List.getElem?_take_of_lt hi.2] at hu
      rw [← h4, List.getElem?_take_of_lt (by simpa using hi.1)] at hu
      rw [Nat.zero_add, cell_of_row _ g _ _ _ (0, 0) hh]; simpa using hu
    rw [List.length_take, Nat.min_eq_left hj] at h5
    exact h5
theorem own_behind {w : World} {B g n c : Nat} {T : TypeId} {xs : List Value} (h : w.ownsRow B T 1 (.slice (some ⟨g, 0, none⟩) n c) n xs) (hn : n = xs.length) {j : Nat} (hj : j ≤ n) : VR B T w (.slice (some ⟨g, j, none⟩) (n - j) (c - j)) (xs.drop j) := by
  subst hn
  rcases h.2 with ⟨hv, _⟩ | ⟨g', cap, cur, hv, hb, hh, h1, h2, h3, h4⟩
  · cases hv
  · simp only [Value.slice.injEq, Option.some.injEq, Addr.mk.injEq, true_and, and_true] at hv
    obtain ⟨rfl, rfl⟩ := hv
    have h5 := VR.row (N := B) (T := T) (w := w) g j (c - j) (xs.drop j) hb ⟨cur, hh⟩ (by simp; omega) (by have h9 : c ≤ 9223372036854775807 := h2; omega) fun i u hu => by
      have hi : j + i < xs.length := by have := (List.getElem?_eq_some_iff.1 hu).1; simp at this; omega
      rw [List.getElem?_drop] at hu
      rw [← h4, List.getElem?_take_of_lt (by simpa using hi)] at hu
      rw [cell_of_row _ g _ _ _ (0, 0) hh]; simpa using hu
    rw [List.length_drop] at h5
    exact h5
theorem VR.emp {N : Nat} {T : TypeId} {w : World} {a : Addr} {n c : Nat} {xs : List Value} (hx : xs = []) (hn : n = 0) (hc : c ≤ 9223372036854775807) : VR N T w (.slice (some a) n c) xs := by
  subst hx; subst hn; exact .odd a c hc
theorem rtakeL {N : Nat} {w : World} {v : Value} {L : List Nat} {Gn : List Int} (h : FV N w v L Gn) (hL : ∀ a ∈ L, 1 ≤ a ∧ a ≤ Gn.length) (gl : Gn.length ≤ 250) :
    Calls Try.prog 11 #[v] w fun e w' => ∃ v', e = .returned (.tuple #[v', .int .i64 (hdN L), .int .u64 (gnN Gn L)]) ∧ FV N w' v' L.tail Gn ∧ Below w.heap.size w w' := by
  cases L with
  | nil =>
    refine (rtake0 h).mono ?_
    rintro _ w' ⟨rfl, hb⟩
    exact ⟨v, rfl, h.below hb, hb⟩
  | cons a r =>
    obtain ⟨a1, a2⟩ := hL a List.mem_cons_self
    refine (rtake1 h a1 a2 (by omega)).mono ?_
    rintro _ w' ⟨v', rfl, hf, hb⟩
    exact ⟨v', rfl, hf, hb⟩
end Go.Proofs.Ytlahpnigabfenaa.Sl
