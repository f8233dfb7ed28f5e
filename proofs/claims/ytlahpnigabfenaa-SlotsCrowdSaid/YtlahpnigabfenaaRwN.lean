/- RwN: several texts in one. -/
import Derived.Test.YtlahpnigabfenaaRwB
import Derived.Test.YtlahpnigabfenaaFrame
import Derived.Test.YtlahpnigabfenaaFrmH
/- Layer 17: what lives asks. -/
namespace Go.Proofs.Ytlahpnigabfenaa
open Go.RowKit WordM EdgeM
set_option linter.unusedVariables false
set_option linter.unusedSimpArgs false
/-- What a thread was told last. -/
theorem MM.ret {w : World} {P : Pc} {σ : Sg} (h : MM w P σ) {k : Nat} (hk : k < P.t) {i : Nat} (hi : i < 12) : w.cell? ⟨P.tq k, i, none⟩ = some (.int .u64 ((σ.Ts k).ret i)) := by
  obtain ⟨ps, fvs, tf⟩ := h.th
  rw [(tf.th k hk).a.blk.get (i := i) (by omega)]
  unfold Th.thF; rw [if_pos hi]
theorem mayC_157 : mayC 1 7 5 = true := by decide +kernel
theorem l17a : partF 1 3 7 2 = 6 := by decide +kernel
theorem l17b : Mm.ldI 60 (partF 1 3 7) (nodeI 1 7 6 0) = 7 ∧ Mm.ldI 60 (Mm.upd (partF 1 3 7) 2 (chgI 6 7)) (nodeI 1 7 6 1) = 0 ∧ makeI 6 0 = 6 := by decide +kernel
theorem l17c : Mm.upd (partF 1 3 7) 2 (chgI 6 7) 2 = 4103 ∧ Mm.ldI 60 (Mm.upd (partF 1 3 7) 2 (chgI 6 7)) (nodeI 1 7 7 0) = 0 ∧ Mm.ldI 60 (Mm.upd (Mm.upd (partF 1 3 7) 2 (chgI 6 7)) 2 (chgI 4103 0)) (nodeI 1 7 7 1) = 0 ∧ makeI 7 0 = 7 ∧ Mm.upd (Mm.upd (partF 1 3 7) 2 (chgI 6 7)) 2 (chgI 4103 0) 2 % 4096 = 0 := by decide +kernel
set_option maxRecDepth 8000 in
set_option maxHeartbeats 2000000 in
theorem lives17_calls (w : World) : Calls Try.prog 6 #[] w fun e w' => e = .returned (.bool true) ∧ Below w.heap.size w w' := by
  refine Calls.veil fun Q HQ => ?_
  go_enter Try.func6, Try.ntmps6
  go_wp2_with fail
  refine (cnewI (t := 1) (s := 7) _ mayC_157).mono ?_; rintro _ w1 ⟨q, pl, mb, mg, C, gq, gg, gm, fv, tq, rfl, hmi, hb, hin⟩
  have hm0 := MM.init hmi hin
  obtain ⟨P, hP⟩ : ∃ P : Pc, P = ⟨w.heap.size, q, pl, mb, mg, C, gq, gg, gm, fv, tq, 1, 7, 5, w1.heap.size⟩ := ⟨_, rfl⟩
  rw [← hP] at hm0
  have eq1 : q = P.q := by rw [hP]
  have et1 : P.t = 1 := by rw [hP]
  have es1 : P.s = 7 := by rw [hP]
  have eB : P.B = w.heap.size := by rw [hP]
  have en : P.n = 60 := by rw [hP]; rfl
  rw [eq1]
  have HB1 := Lib.hid hb; have HM1 := Lib.hid hm0
  have HE := Lib.hid (And.intro et1 (And.intro es1 (And.intro eB en)))
  clear hmi hb hin hP eq1 et1 es1 eB en hm0
  go_wp2_with fail
  refine (cThread_yes HM1.out.c 0 (by rw [HE.out.1]; omega)).mono ?_; rintro _ w2 ⟨rfl, hb2⟩
  have HM2 := Lib.hid (HM1.out.below hb2); have HB2 := Lib.hid (below_on HB1.out hb2)
  clear hb2 HM1 HB1
  go_wp2_with fail
  -- the first Take
  have ld : ∀ (f : Nat → Int) (a b : Int), P.ld f a b = Mm.ldI 60 f (nodeI 1 7 a b) := fun f a b => by unfold Pc.ld; rw [HE.out.2.2.2, HE.out.1, HE.out.2.1]; rfl
  have HLD := Lib.hid ld
  have z1 : (sgInit 1 7).f 2 = 6 := l17a
  have hz1 : ¬ (sgInit 1 7).f 2 % 4096 = 0 := by rw [z1]; decide
  have hk0 : 0 < P.t := by rw [HE.out.1]; omega
  have HK0 := Lib.hid hk0
  refine (alone_take (R := fun _ => 0) (m := 0) (most := 50) HM2.out hk0 rfl (by omega) (by omega) (by omega) hz1 (by rw [ld, z1]; show Mm.ldI 60 (partF 1 3 7) (nodeI 1 7 6 0) < _; rw [l17b.1]; omega) (by decide) (by decide) (by decide) (by decide) (by decide) (Th.UR.nil _)).mono ?_
  rintro _ w3 ⟨rfl, hm3, hk3⟩
  obtain ⟨f3, _, _, s3, n3, r3, _⟩ := tk4 (P := P) (k := 0) (m := 0) (σ := sgInit 1 7) (R := fun _ => 0) rfl hz1
  obtain ⟨a3, b3, _, _⟩ := tkS_acc (P := P) (k := 0) (m := 0) (σ := sgInit 1 7) (R := fun _ => 0) 4
  generalize tkS P 0 0 (sgInit 1 7) (fun _ => 0) 4 = σ3 at *
  have fe : σ3.f = Mm.upd (partF 1 3 7) 2 (chgI 6 7) := by
    rw [f3, ld, z1]
    show Mm.upd (partF 1 3 7) 2 (chgI 6 (Mm.ldI 60 (partF 1 3 7) (nodeI 1 7 6 0))) = _
    rw [l17b.1]
  have re : (σ3.Ts 0).ret 0 = 6 := by
    rw [r3]
    show makeI ((sgInit 1 7).f 2 % 4096) (P.ld _ _ _) = 6
    rw [ld, ld, z1]
    show makeI 6 (Mm.ldI 60 (Mm.upd (partF 1 3 7) 2 (chgI 6 (Mm.ldI 60 (partF 1 3 7) (nodeI 1 7 6 0)))) (nodeI 1 7 6 1)) = 6
    rw [l17b.1, l17b.2.1, l17b.2.2]
  have se : σ3.sl ≤ 1 := by
    rw [s3]
    have hs0 : (sgInit 1 7).sl = 0 := rfl
    split <;> omega
  have ae : σ3.acc = 4 := a3
  have be : σ3.steps = 4 := b3
  have HM3 := Lib.hid hm3; have HK3 := Lib.hid hk3
  have HF3 := Lib.hid (And.intro fe (And.intro se (And.intro ae (And.intro be n3))))
  have cr := hm3.ret hk0 (i := 0) (by omega)
  rw [re] at cr
  have HB3 := Lib.hid (show Below w.heap.size w w3 by have := hk3; rw [HE.out.2.2.1] at this; exact KA.below HB2.out this)
  clear hm3 hk3 f3 s3 n3 r3 a3 b3 fe re se ae be HM2 HB2 HK3 hz1 z1 ld hk0
  go_wp2_with fail
  clear cr
  -- the second one
  have ld := HLD.out
  have hk0 := HK0.out
  have z1 : σ3.f 2 = 4103 := by rw [HF3.out.1]; exact l17c.1
  have hz1 : ¬ σ3.f 2 % 4096 = 0 := by rw [z1]; decide
  refine (alone_take (R := fun _ => 0) (m := 0) (most := 50) HM3.out hk0 HF3.out.2.2.2.2 (by omega) (by omega) (by omega) hz1 (by rw [ld, z1, HF3.out.1]; show Mm.ldI 60 _ (nodeI 1 7 7 0) < _; rw [l17c.2.1]; omega) (by rw [HF3.out.2.2.1]; omega) (by rw [HF3.out.2.2.1]; omega) (by rw [HF3.out.2.2.2.1]; omega) (by rw [HF3.out.2.2.2.1]; omega) (by have := HF3.out.2.1; omega) (Th.UR.nil _)).mono ?_
  rintro _ w4 ⟨rfl, hm4, hk4⟩
  obtain ⟨f3, _, _, s3, n3, r3, _⟩ := tk4 (P := P) (k := 0) (m := 0) (σ := σ3) (R := fun _ => 0) HF3.out.2.2.2.2 hz1
  obtain ⟨a3, b3, _, _⟩ := tkS_acc (P := P) (k := 0) (m := 0) (σ := σ3) (R := fun _ => 0) 4
  generalize tkS P 0 0 σ3 (fun _ => 0) 4 = σ4 at *
  have fe : σ4.f = Mm.upd (Mm.upd (partF 1 3 7) 2 (chgI 6 7)) 2 (chgI 4103 0) := by
    rw [f3, ld, z1, HF3.out.1]
    show Mm.upd _ 2 (chgI 4103 (Mm.ldI 60 _ (nodeI 1 7 7 0))) = _
    rw [l17c.2.1]
  have re : (σ4.Ts 0).ret 0 = 7 := by
    rw [r3]
    show makeI (σ3.f 2 % 4096) (P.ld _ _ _) = 7
    rw [ld, ld, z1, HF3.out.1]
    show makeI 7 (Mm.ldI 60 (Mm.upd _ 2 (chgI 4103 (Mm.ldI 60 _ (nodeI 1 7 7 0)))) (nodeI 1 7 7 1)) = 7
    rw [l17c.2.1, l17c.2.2.1, l17c.2.2.2.1]
  have se : σ4.sl ≤ 2 := by
    rw [s3]
    have := HF3.out.2.1
    split <;> omega
  have ae : σ4.acc = 8 := by rw [a3, HF3.out.2.2.1]; rfl
  have be : σ4.steps = 8 := by rw [b3, HF3.out.2.2.2.1]; rfl
  have HM4 := Lib.hid hm4
  have HF4 := Lib.hid (And.intro fe (And.intro se (And.intro ae (And.intro be n3))))
  have cr := hm4.ret hk0 (i := 0) (by omega)
  rw [re] at cr
  have HB4 := Lib.hid (show Below w.heap.size w w4 by have := hk4; rw [HE.out.2.2.1] at this; exact KA.below HB3.out this)
  clear hm4 hk4 f3 s3 n3 r3 a3 b3 fe re se ae be HM3 HB3 hz1 z1 ld hk0 HF3
  go_wp2_with fail
  clear cr
  -- the third one
  have hk0 := HK0.out
  have hz1 : σ4.f 2 % 4096 = 0 := by rw [HF4.out.1]; exact l17c.2.2.2.2
  refine (alone_none (R := fun _ => 0) (m := 0) (most := 50) HM4.out hk0 HF4.out.2.2.2.2 (by omega) (by omega) (by omega) hz1 (by rw [HF4.out.2.2.1]; omega) (by rw [HF4.out.2.2.1]; omega) (by rw [HF4.out.2.2.2.1]; omega) (by rw [HF4.out.2.2.2.1]; omega) (by have := HF4.out.2.1; omega) (Th.UR.nil _)).mono ?_
  rintro _ w5 ⟨rfl, hm5, hk5⟩
  have cr := hm5.ret hk0 (i := 0) (by omega)
  rw [tk1z (P := P) (R := fun _ => 0) HF4.out.2.2.2.2 hz1] at cr
  have cr : w5.cell? ⟨P.tq 0, 0, none⟩ = some (.int .u64 0) := cr
  have HB5 := Lib.hid (show Below w.heap.size w w5 by have := hk5; rw [HE.out.2.2.1] at this; exact KA.below HB4.out this)
  clear hm5 hk5 HM4 HB4 hz1 hk0 HF4
  go_wp2_with fail
  (try go_ret)
  rw [HQ.out]
  exact ⟨rfl, HB5.out⟩
end Go.Proofs.Ytlahpnigabfenaa

/- Layer 15: a thread that is not there. -/
namespace Go.Proofs.Ytlahpnigabfenaa.Th
open Go.RowKit
set_option linter.unusedVariables false
set_option linter.unusedSimpArgs false
theorem fz_depth (w : World) : Calls Try.prog 19 #[.pointer none] w fun e w' => e = .returned (.int .i64 0) ∧ Below w.heap.size w w' := by
  refine Calls.veil fun Q HQ => ?_
  go_enter Try.func19, Try.ntmps19
  go_wp2_with fail
  (try go_ret)
  (try go_ret2)
  rw [HQ.out]
  exact ⟨rfl, by (repeat (first | exact Below.refl _ _ | assumption | refine below_new ?_ _ | refine Below.drew ?_ | refine below_drewN ?_ _ | refine below_on ?_ (by assumption)))⟩
theorem fz_top (w : World) : Calls Try.prog 21 #[.pointer none] w fun e w' => e = .returned (.pointer none) ∧ Below w.heap.size w w' := by
  refine Calls.veil fun Q HQ => ?_
  go_enter Try.func21, Try.ntmps21
  go_wp2_with fail
  refine (fz_depth w).mono ?_; rintro _ w1 ⟨rfl, hb⟩
  have HB := Lib.hid hb
  clear hb
  go_wp2_with fail
  (try go_ret)
  rw [HQ.out]
  exact ⟨rfl, HB.out⟩
theorem fz_call (w : World) (fn : Int) (v : Value) : Calls Try.prog 20 #[.pointer none, .int .i64 fn, v] w fun e w' => e = .returned (.tuple #[]) ∧ Below w.heap.size w w' := by
  refine Calls.veil fun Q HQ => ?_
  go_enter Try.func20, Try.ntmps20
  go_wp2_with fail
  first | (refine bodyPost_end (v := .tuple #[]) (by simp [results, Try.results20, go_sem]) rfl ?_) | (refine bodyPost_ret (v := .tuple #[]) (by simp [results, Try.results20, go_sem]) rfl ?_)
  rw [HQ.out]
  exact ⟨rfl, by (repeat (first | exact Below.refl _ _ | assumption | refine below_new ?_ _ | refine Below.drew ?_ | refine below_drewN ?_ _ | refine below_on ?_ (by assumption)))⟩
theorem fz_back (w : World) (v : Value) : Calls Try.prog 63 #[.pointer none, v] w fun e w' => e = .returned (.tuple #[]) ∧ Below w.heap.size w w' := by
  refine Calls.veil fun Q HQ => ?_
  go_enter Try.func63, Try.ntmps63
  go_wp2_with fail
  first | (refine bodyPost_end (v := .tuple #[]) (by simp [results, Try.results63, go_sem]) rfl ?_) | (refine bodyPost_ret (v := .tuple #[]) (by simp [results, Try.results63, go_sem]) rfl ?_)
  rw [HQ.out]
  exact ⟨rfl, by (repeat (first | exact Below.refl _ _ | assumption | refine below_new ?_ _ | refine Below.drew ?_ | refine below_drewN ?_ _ | refine below_on ?_ (by assumption)))⟩
end Go.Proofs.Ytlahpnigabfenaa.Th

/- Layer 17: where nothing is done; the walk of SlotsNone. -/
namespace Go.Proofs.Ytlahpnigabfenaa.Mm
open Go.RowKit
set_option linter.unusedVariables false
set_option linter.unusedSimpArgs false
theorem own_wordsT {w : World} {B : Nat} {v : Value} {n : Nat} {f : Nat → Int} (h : w.ownsRow B 22 1 v n (wordsL n f)) (hn : 0 < n) :
    ∃ g cap, v = .slice (some ⟨g, 0, none⟩) n cap ∧ B ≤ g ∧ n ≤ cap ∧ cap ≤ 9223372036854775807 ∧ RowAt w g n f ∧ ∃ cur, w.heap[g]? = some (.cells cur 22 (0, 0)) := by
  rcases h.2 with ⟨_, h0⟩ | ⟨g, cap, cur, hv, hg, hh, hc, hm, hs, ht⟩
  · omega
  · refine ⟨g, cap, hv, hg, hc, hm, ⟨fun i hi => ?_, fun i => frozen_of_row _ g i _ _ hh, (Array.getElem?_eq_some_iff.1 hh).1⟩, cur, hh⟩
    have h1 := wordsL_get n f i hi
    rw [cell_of_row _ g i _ _ (0, 0) hh]
    rw [← ht, List.getElem?_take_of_lt (by omega)] at h1
    simpa using h1
theorem scloneT (g n C : Nat) (f : Nat → Int) (w : World) (h : ∀ i, i < n → w.cell? ⟨g, i, none⟩ = some (.int .u64 (f i))) (n1 : 1 ≤ n) (n2 : n ≤ 4096) :
    Calls Try.prog 74 #[.slice (some ⟨g, 0, none⟩) n C] w fun e w' => ∃ g' C', e = .returned (.slice (some ⟨g', 0, none⟩) n C') ∧ w.heap.size ≤ g' ∧ n ≤ C' ∧ C' ≤ 9223372036854775807 ∧ (RowAt w' g' n f ∧ ∃ cur, w'.heap[g']? = some (.cells cur 22 (0, 0))) ∧ Below w.heap.size w w' := by
  obtain ⟨i0, hi, hz0, hz1, hz2⟩ := info_parts info64
  have hg : g < w.heap.size := World.block_lt_of_cell? w ⟨g, 0, none⟩ (h 0 (by omega))
  have h' : ∀ i, i < n → (w.alloc (.cells #[] 22)).cell? ⟨g, i, none⟩ = some (.int .u64 (f i)) := fun i hi => Ext.on (h i hi) _
  have H' := Lib.hid h'; clear h' h
  have qT : ∀ (w : World) (a : Addr) (n c : Nat), (binOp .eql 32 (.slice (some a) n c) (.slice none 0 0)).run Try.prog w = .ok (.bool false) w := fun w a n c => Go.run_eql_slice_nil w _ _ (some a) n c u64s
  refine Calls.veil fun Q HQ => ?_
  go_enter Try.func74, Try.ntmps74
  go_wp2_with (at_builtin; refine wpList_append_own _ rfl (.tmp 5) (.tmp 6) 32 rfl w.heap.size 22 i0 _ 1 8 u64s hi hz0 hz1 hz2 rfl (by decide) _ _ _ rfl (own_none w) ⟨g, 0, none⟩ n C (wordsL n f) rfl (by rw [wordsL_len]; omega) (news_words H'.out) (one_words n f) (by unfold maxLen; omega) (by omega) (by simp) ?_)
  intro v1 w1 hown hgrow _
  try simp only [Nat.zero_add, List.nil_append] at hown
  have hb := grow0 hgrow
  obtain ⟨g', C', rfl, e1, e2, e3, e4⟩ := own_wordsT hown n1
  have H4 := Lib.hid e4
  clear e4 hown hgrow
  go_wp2_with fail
  (try go_ret)
  rw [HQ.out]
  exact ⟨g', C', rfl, e1, e2, e3, H4.out, hb⟩
theorem mwordsT (b g n C : Nat) (f : Nat → Int) (acc : Int) (flt : Bool) (w : World) (h : MemAt w b g n C f acc flt) :
    Calls Try.prog 43 #[.pointer (some ⟨b, 0, none⟩)] w fun e w' => ∃ g' C', e = .returned (.slice (some ⟨g', 0, none⟩) n C') ∧ w.heap.size ≤ g' ∧ n ≤ C' ∧ C' ≤ 9223372036854775807 ∧ (RowAt w' g' n f ∧ ∃ cur, w'.heap[g']? = some (.cells cur 22 (0, 0))) ∧ Below w.heap.size w w' := by
  have e0 := h.h0
  refine Calls.veil fun Q HQ => ?_
  go_enter Try.func43, Try.ntmps43
  go_wp2_with fail
  refine (scloneT g n C f w h.row h.n1 h.n2).mono ?_; rintro _ w1 ⟨g', C', rfl, e1, e2, e3, e4, hb⟩
  have H4 := Lib.hid e4
  clear e4
  go_wp2_with fail
  (try go_ret)
  rw [HQ.out]
  exact ⟨g', C', rfl, e1, e2, e3, H4.out, hb⟩
end Go.Proofs.Ytlahpnigabfenaa.Mm
namespace Go.Proofs.Ytlahpnigabfenaa
open Go.RowKit WordM EdgeM
set_option linter.unusedVariables false
set_option linter.unusedSimpArgs false
theorem sdo0 (w : World) (k : Int) : Calls Try.prog 10 #[.pointer none, .int .i64 k] w fun x w' => x = .returned (.tuple #[]) ∧ Below w.heap.size w w' := by
  refine Calls.veil fun Q HQ => ?_
  go_enter Try.func10, Try.ntmps10
  go_wp2_with fail
  refine (z_thread _ k).mono ?_; rintro _ w1 ⟨rfl, hb⟩
  have HB := Lib.hid hb
  clear hb
  go_wp2_with fail
  refine (Th.fz_top _).mono ?_; rintro _ w2 ⟨rfl, hb⟩
  have HB2 := Lib.hid (below_on HB.out hb)
  clear hb HB
  go_wp2_with fail
  first | (refine bodyPost_end (v := .tuple #[]) (by simp [results, Try.results10, go_sem]) rfl ?_) | (refine bodyPost_ret (v := .tuple #[]) (by simp [results, Try.results10, go_sem]) rfl ?_)
  rw [HQ.out]
  exact ⟨rfl, HB2.out⟩
theorem sdo_no {w : World} {P : Pc} {σ : Sg} (h : MM w P σ) (k : Int) (hk : ¬ (0 ≤ k ∧ k < P.t)) : Calls Try.prog 10 #[.pointer (some ⟨P.q, 0, none⟩), .int .i64 k] w fun x w' => x = .returned (.tuple #[]) ∧ Below w.heap.size w w' := by
  refine Calls.veil fun Q HQ => ?_
  have HH := Lib.hid h
  clear h
  go_enter Try.func10, Try.ntmps10
  go_wp2_with fail
  refine (cThread_no HH.out.c k hk).mono ?_; rintro _ w1 ⟨rfl, hb⟩
  have HB := Lib.hid hb
  clear hb
  go_wp2_with fail
  refine (Th.fz_top _).mono ?_; rintro _ w2 ⟨rfl, hb⟩
  have HB2 := Lib.hid (below_on HB.out hb)
  clear hb HB
  go_wp2_with fail
  first | (refine bodyPost_end (v := .tuple #[]) (by simp [results, Try.results10, go_sem]) rfl ?_) | (refine bodyPost_ret (v := .tuple #[]) (by simp [results, Try.results10, go_sem]) rfl ?_)
  rw [HQ.out]
  exact ⟨rfl, HB2.out⟩
theorem sdo_idle {w : World} {P : Pc} {σ : Sg} (h : MM w P σ) {k : Nat} (hk : k < P.t) (hn : (σ.Ts k).nf = 0) : Calls Try.prog 10 #[.pointer (some ⟨P.q, 0, none⟩), .int .i64 k] w fun x w' => x = .returned (.tuple #[]) ∧ Below w.heap.size w w' := by
  refine Calls.veil fun Q HQ => ?_
  obtain ⟨ps, fvs, tf⟩ := h.th
  have HH := Lib.hid h; have HT := Lib.hid tf; have HN := Lib.hid hn
  clear h tf hn
  go_enter Try.func10, Try.ntmps10
  go_wp2_with fail
  refine (cThread_yes HH.out.c k hk).mono ?_; rintro _ w1 ⟨rfl, hb⟩
  have HB := Lib.hid hb
  clear hb
  go_wp2_with fail
  refine (Th.ftop0 ((HT.out.below HB.out).th k hk).a HN.out).mono ?_; rintro _ _ ⟨rfl, rfl⟩
  go_wp2_with fail
  first | (refine bodyPost_end (v := .tuple #[]) (by simp [results, Try.results10, go_sem]) rfl ?_) | (refine bodyPost_ret (v := .tuple #[]) (by simp [results, Try.results10, go_sem]) rfl ?_)
  rw [HQ.out]
  exact ⟨rfl, HB.out⟩
set_option maxRecDepth 8000 in
theorem sdo_other {w : World} {P : Pc} {σ : Sg} (h : MM w P σ) {k m : Nat} (hk : k < P.t) (hm : (σ.Ts k).nf = m + 1) (hN : m ≤ 1000) {fn : Int} (hfn : ((σ.Ts k).fs m).fn = fn) (h1 : ¬ fn = 1) (h2 : ¬ fn = 2) : Calls Try.prog 10 #[.pointer (some ⟨P.q, 0, none⟩), .int .i64 k] w fun x w' => x = .returned (.tuple #[]) ∧ Below w.heap.size w w' := by
  refine Calls.veil fun Q HQ => ?_
  obtain ⟨ps, fvs, tf⟩ := h.th
  have HH := Lib.hid h; have HT := Lib.hid tf; have HM := Lib.hid hm; have HFN := Lib.hid hfn
  clear h tf hm hfn
  go_enter Try.func10, Try.ntmps10
  go_wp2_with fail
  refine (cThread_yes HH.out.c k hk).mono ?_; rintro _ w1 ⟨rfl, hb1⟩
  have HB1 := Lib.hid hb1
  clear hb1
  go_wp2_with fail
  refine (Th.ftop1 ((HT.out.below HB1.out).th k hk).a HM.out (by omega)).mono ?_; rintro _ w2 ⟨rfl, hb2⟩
  have HB2 := Lib.hid (below_on HB1.out hb2)
  clear hb2
  have hbk := (((HT.out.below HB2.out).th k hk).a.fb m (by have := HM.out; omega)).1
  obtain ⟨fb, hfb⟩ : ∃ fb, fb = ps k m := ⟨_, rfl⟩
  have HFB := Lib.hid hfb
  rw [← hfb] at hbk ⊢
  have HC := Lib.hid (show w2.cell? ⟨fb, 0, none⟩ = some (.int .i64 fn) by rw [hbk.get (i := 0) (by omega)]; unfold Th.frF; rw [if_pos rfl, HFN.out])
  clear hfb hbk
  go_upto_region 4 with fail
  generalize hV : World.alloc _ _ = V
  obtain ⟨u0, hbv⟩ := Th.heapnewE hV
  have c0 : V.cell? ⟨fb, 0, none⟩ = some (.int .i64 fn) := Ext.cell ⟨V, hbv⟩ HC.out
  have HBV := Lib.hid (below_on HB2.out hbv)
  clear hV u0 hbv
  go_wp2_with fail
  first | (refine bodyPost_end (v := .tuple #[]) (by simp [results, Try.results10, go_sem]) rfl ?_) | (refine bodyPost_ret (v := .tuple #[]) (by simp [results, Try.results10, go_sem]) rfl ?_)
  rw [HQ.out]
  exact ⟨rfl, HBV.out⟩
end Go.Proofs.Ytlahpnigabfenaa
