/- Layer 40: a change as text; the place of a name. -/
import Derived.Test.YtilcihmoghhndaaDoorNamC
namespace Go.Proofs.YtilcihmoghhndaaDoor
open Go.RowKit
set_option linter.unusedVariables false
set_option linter.unusedSimpArgs false
open Go.Lib (itoa decDigits)
def nmT (T S a : Int) : List UInt8 := if isW T S a = true then nameT T a else []
theorem nm_yes {T S a : Int} (h : isW T S a = true) : nmT T S a = nameT T a := if_pos h
theorem nm_no {T S a : Int} (h : isW T S a = false) : nmT T S a = [] := by unfold nmT; rw [h]; rfl
theorem nm_len {T S : Int} (t1 : 1 ≤ T) (t2 : T ≤ 6) (s2 : S ≤ 250) (a : Int) : (nmT T S a).length ≤ 100 := by
  cases h : isW T S a
  · rw [nm_no h]; simp
  · rw [nm_yes h]
    have h1 := of_decide_eq_true h
    exact nam_len (w_in t1 t2 s2 h1.1 h1.2)
theorem tname {T S : Int} (a : Int) {b : Nat} {w : World} (x0 : w.cell? ⟨b, 0, none⟩ = some (.int .i64 T)) (x1 : w.cell? ⟨b, 1, none⟩ = some (.int .i64 S)) (t1 : 1 ≤ T) (t2 : T ≤ 6) (s1 : 7 ≤ S) (s2 : S ≤ 250) (ht : Pow w.heap.size w) : Calls Tryd.prog 4 #[.pointer (some ⟨b, 0, none⟩), .int .i64 a] w fun e w' => e = .returned (.string ⟨(nmT T S a).toArray⟩) ∧ Below w.heap.size w w' := by
  cases h : isW T S a
  · rw [nm_no h]; exact tname_no h x0 x1 t1 t2 s1 s2
  · rw [nm_yes h]; exact tname_yes h x0 x1 t1 t2 s1 s2 ht
theorem rname {t s : Nat} {K : Int} (a : Int) {w : World} (t1 : 1 ≤ t) (t2 : t ≤ 6) (s1 : 7 ≤ s) (s2 : s ≤ 250) : Calls Tryd.prog 8 #[.agg #[.int .i64 t, .int .i64 s, .int .u64 K], .int .i64 a] w fun e w' => e = .returned (.string ⟨(nmT t s a).toArray⟩) ∧ Below w.heap.size w w' := by
  cases h : isW t s a
  · rw [nm_no h]; exact rname_no h t1 t2 s1 s2
  · rw [nm_yes h]; exact rname_yes h t1 t2 s1 s2
def lineT (T S a : Int) (was is : Nat) : List UInt8 := nmT T S a ++ 58 :: 32 :: (decDigits was ++ 32 :: decDigits is)
set_option maxRecDepth 8000 in
set_option maxHeartbeats 2000000 in
theorem rline {t s : Nat} {K : Int} (a : Int) (u v : Nat) {w : World} (hu : u < 18446744073709551616) (hv : v < 18446744073709551616) (t1 : 1 ≤ t) (t2 : t ≤ 6) (s1 : 7 ≤ s) (s2 : s ≤ 250) : Calls Tryd.prog 10 #[.agg #[.int .i64 t, .int .i64 s, .int .u64 K], .int .i64 a, .int .u64 u, .int .u64 v] w fun e w' => e = .returned (.string ⟨(lineT t s a u v).toArray⟩) ∧ Below w.heap.size w w' := by
  refine Calls.veil fun Q HQ => ?_
  have HN := Lib.hid (fun W => rname (t := t) (s := s) (K := K) a (w := W) t1 t2 s1 s2)
  have HNL := Lib.hid (nm_len (T := t) (S := s) (by omega) (by omega) (by omega) a)
  have HU := Lib.hid (runs u hu); have HV := Lib.hid (runs v hv)
  have HUL := Lib.hid (dec_len hu); have HVL := Lib.hid (dec_len hv)
  have HLT := Lib.hid (show lineT t s a u v = nmT t s a ++ 58 :: 32 :: (decDigits u ++ 32 :: decDigits v) from rfl)
  obtain ⟨LT, hlt⟩ : ∃ x, x = lineT t s a u v := ⟨_, rfl⟩
  rw [← hlt] at HLT HQ
  clear hlt hu hv t1 t2 s1 s2
  generalize nmT t s a = nm at HN HNL HLT
  generalize decDigits u = us at HU HUL HLT
  generalize decDigits v = vs at HV HVL HLT
  have q1 : ¬ 9223372036854775807 < nm.length + 2 := by have := HNL.out; omega
  have q2 : ¬ 9223372036854775807 < nm.length + 2 + us.length := by have := HNL.out; have := HUL.out; omega
  have q3 : ¬ 9223372036854775807 < nm.length + 2 + us.length + 1 := by have := HNL.out; have := HUL.out; omega
  have q4 : ¬ 9223372036854775807 < nm.length + 2 + us.length + 1 + vs.length := by have := HNL.out; have := HUL.out; have := HVL.out; omega
  go_enter Tryd.func10, Tryd.ntmps10
  go_wp2_with fail
  refine (HN.out _).mono ?_; rintro _ z1 ⟨rfl, hb1⟩
  have HB1 := Lib.hid (show Below w.heap.size w z1 by (repeat (first | exact Below.refl _ _ | assumption | refine below_new ?_ _ | refine Below.drew ?_ | refine below_drewN ?_ _ | refine below_on ?_ (by assumption))))
  clear hb1
  go_wp2_with fail
  refine (HU.out _).mono ?_; rintro _ z2 ⟨rfl, hb2⟩
  have HB2 := Lib.hid (below_on HB1.out hb2)
  clear hb2
  go_wp2_with fail
  refine (HV.out _).mono ?_; rintro _ z3 ⟨rfl, hb3⟩
  have HB3 := Lib.hid (below_on HB2.out hb3)
  clear hb3
  go_wp2_with fail
  (try go_ret)
  rw [HQ.out, HLT.out]
  exact ⟨congrArg Ending.returned (strE (by simp)), HB3.out⟩
/-- The worlds in which all below one place is as it was. -/
structure EB (B : Nat) (W : World) where
  w : World
  h : Below B W w
instance (B : Nat) (W : World) : Nonempty (EB B W) := ⟨⟨W, Below.refl _ _⟩⟩
theorem EB.cells {B : Nat} {W : World} {b i : Nat} {v : Value} (h : W.cell? ⟨b, i, none⟩ = some v) (hb : b < B) : ∀ y : EB B W, y.w.cell? ⟨b, i, none⟩ = some v := fun y => by
  rw [y.h.cell (p := ⟨b, i, none⟩) hb]; exact h
set_option maxRecDepth 8000 in
set_option maxHeartbeats 2000000 in
theorem tline {T S : Int} (a : Int) (u v : Nat) {b : Nat} {w : World} (hu : u < 18446744073709551616) (hv : v < 18446744073709551616) (c0 : w.cell? ⟨b, 0, none⟩ = some (.int .i64 T)) (c1 : w.cell? ⟨b, 1, none⟩ = some (.int .i64 S)) (t1 : 1 ≤ T) (t2 : T ≤ 6) (s1 : 7 ≤ S) (s2 : S ≤ 250) (ht : Pow w.heap.size w) : Calls Tryd.prog 9 #[.pointer (some ⟨b, 0, none⟩), .agg #[.int .i64 a, .int .u64 u, .int .u64 v]] w fun e w' => e = .returned (.string ⟨(lineT T S a u v).toArray⟩) ∧ Below w.heap.size w w' := by
  refine Calls.veil fun Q HQ => ?_
  have HN := Lib.hid (fun (W : World) (k : Below w.heap.size w W) => tname a (w := W) (Ext.cell ⟨W, k⟩ c0) (Ext.cell ⟨W, k⟩ c1) t1 t2 s1 s2 (ht.up k))
  have HNL := Lib.hid (nm_len t1 t2 s2 a)
  have HU := Lib.hid (fun (W : World) (k : Below w.heap.size w W) => fmtu u hu (Lib.TabBelow.on ht k)); have HV := Lib.hid (fun (W : World) (k : Below w.heap.size w W) => fmtu v hv (Lib.TabBelow.on ht k))
  have HUL := Lib.hid (dec_len hu); have HVL := Lib.hid (dec_len hv)
  have HLT := Lib.hid (show lineT T S a u v = nmT T S a ++ 58 :: 32 :: (decDigits u ++ 32 :: decDigits v) from rfl)
  obtain ⟨LT, hlt⟩ : ∃ x, x = lineT T S a u v := ⟨_, rfl⟩
  rw [← hlt] at HLT HQ
  clear hlt hu hv t1 t2 s1 s2 c0 c1 ht
  generalize nmT T S a = nm at HN HNL HLT
  generalize decDigits u = us at HU HUL HLT
  generalize decDigits v = vs at HV HVL HLT
  have q1 : ¬ 9223372036854775807 < nm.length + 2 := by have := HNL.out; omega
  have q2 : ¬ 9223372036854775807 < us.length + 1 := by have := HUL.out; omega
  have q3 : ¬ 9223372036854775807 < us.length + 1 + vs.length := by have := HUL.out; have := HVL.out; omega
  go_enter Tryd.func9, Tryd.ntmps9
  go_upto_region 2 with fail
  generalize hV : World.alloc w _ = V
  have hbV : Below w.heap.size w V := by rw [← hV]; exact below_new (Below.refl _ _) _
  have e1 : w.heap.size + 1 = V.heap.size := by rw [← hV]; simp
  have x0 : V.cell? ⟨w.heap.size, 0, none⟩ = some (.int .i64 a) := by rw [← hV]; exact Ext.made rfl 0 _ rfl ⟨_, Below.refl _ _⟩
  have x1 : V.cell? ⟨w.heap.size, 1, none⟩ = some (.int .u64 u) := by rw [← hV]; exact Ext.made rfl 1 _ rfl ⟨_, Below.refl _ _⟩
  have x2 : V.cell? ⟨w.heap.size, 2, none⟩ = some (.int .u64 v) := by rw [← hV]; exact Ext.made rfl 2 _ rfl ⟨_, Below.refl _ _⟩
  have HXV := Lib.hid (show w.heap.size < V.heap.size by omega)
  have HBV := Lib.hid hbV
  generalize w.heap.size = X at x0 x1 x2 e1 HXV ⊢
  generalize hU : World.alloc V _ = V2
  have hb2 : Below V.heap.size V V2 := by rw [← hU]; exact below_new (Below.refl _ _) _
  have HBB := Lib.hid (show BB V.heap.size V.heap.size [] V2 by rw [← hU]; exact BB.fresh V)
  have HB2 := Lib.hid hb2
  have x0 := Ext.cell ⟨V2, hb2⟩ x0; have x1 := Ext.cell ⟨V2, hb2⟩ x1; have x2 := Ext.cell ⟨V2, hb2⟩ x2
  simp only at x0 x1 x2
  have HX12 := Lib.hid (And.intro x1 x2)
  have HBW := Lib.hid (below_on HBV.out hb2)
  rw [e1]
  obtain ⟨q, hq⟩ : ∃ q, q = V.heap.size := ⟨_, rfl⟩
  have HBB : Hid (BB V.heap.size q [] V2) := Lib.hid (by rw [hq]; exact HBB.out)
  rw [← hq]
  clear hV hbV hU hb2 e1 hq x1 x2
  go_wp2_with fail
  refine (HN.out _ HBW.out).mono ?_; rintro _ z1 ⟨rfl, hb1⟩
  have HZ1 := Lib.hid hb1
  clear hb1
  go_wp2_with fail
  refine (bwrite _ (HBB.out.keep HZ1.out) (by have h1 := HNL.out; have h5 : ∀ (x : ByteArray), x.size = x.data.toList.length := fun _ => by rw [Array.length_toList]; rfl
                                              rw [h5]; simp; omega) (by have h1 := HB2.out.size; have h2 := HZ1.out.size; omega)).mono ?_; rintro _ z2 ⟨rfl, hbb, hw2, ho2⟩
  have HB3 := Lib.hid (show BB V.heap.size q (nm ++ [58, 32]) z2 by simpa using hbb)
  have HW2 := Lib.hid ((HZ1.out.mono HB2.out.size).trans hw2)
  have HW3 := Lib.hid (HB2.out.trans HW2.out)
  clear hbb hw2 ho2 x0
  go_upto_region 3 with fail
  have hx1 : z2.cell? ⟨X, 1, none⟩ = some (.int .u64 u) := by rw [HW2.out.cell (p := ⟨X, 1, none⟩) HXV.out]; exact HX12.out.1
  have hx2 : z2.cell? ⟨X, 2, none⟩ = some (.int .u64 v) := by rw [HW2.out.cell (p := ⟨X, 2, none⟩) HXV.out]; exact HX12.out.2
  have y1 := EB.cells (B := V.heap.size) hx1 HXV.out; have y2 := EB.cells (B := V.heap.size) hx2 HXV.out
  have HVZ := Lib.hid (below_on HBV.out HW3.out)
  clear hx1 hx2
  (with_reducible refine wp_region_mix (fun w' => ∃ y : EB V.heap.size z2, w' = y.w) ?_ ?_ ?_ ?_; kernel_rfl; kernel_rfl; exact ⟨⟨z2.drew, (Below.refl _ _).drew⟩, rfl⟩)
  repeat (first | ((with_reducible refine mix_skip (by kernel_rfl) ?_); go_big_quiet_skip; (with_reducible refine mix_on ?_)) | ((with_reducible refine mix_plain (by kernel_rfl) ?_); (first | go_big_quiet_skip | (go_big_quiet_want; go_big_quiet_op; go_big_quiet_on)); (with_reducible refine mix_on ?_)))
  ((with_reducible refine wpMix_chain (by kernel_rfl) (by kernel_rfl) (fun K HK => ?_)); go_step)
  refine (HU.out _ (HVZ.out.trans (Below.refl _ _).drew)).mono ?_; rintro _ z3 ⟨rfl, hb1⟩
  have HZ3 := Lib.hid (below_on (Below.refl z2.heap.size z2).drew hb1)
  refine HK.out _ _ ⟨⟨z3, HZ3.out.mono HW3.out.size⟩, rfl⟩ ?_
  clear HK K hb1
  repeat (first | ((with_reducible refine mix_skip (by kernel_rfl) ?_); go_big_quiet_skip; (with_reducible refine mix_on ?_)) | ((with_reducible refine mix_plain (by kernel_rfl) ?_); (first | go_big_quiet_skip | (go_big_quiet_want; go_big_quiet_op; go_big_quiet_on)); (with_reducible refine mix_on ?_)))
  ((with_reducible refine wpMix_chain (by kernel_rfl) (by kernel_rfl) (fun K HK => ?_)); go_step)
  refine (HV.out _ (below_on HVZ.out HZ3.out)).mono ?_; rintro _ z4 ⟨rfl, hb1⟩
  have HZ4 := Lib.hid (below_on HZ3.out hb1)
  refine HK.out _ _ ⟨⟨z4, HZ4.out.mono HW3.out.size⟩, rfl⟩ ?_
  clear HK K hb1
  repeat (first | ((with_reducible refine mix_skip (by kernel_rfl) ?_); go_big_quiet_skip; (with_reducible refine mix_on ?_)) | ((with_reducible refine mix_plain (by kernel_rfl) ?_); (first | go_big_quiet_skip | (go_big_quiet_want; go_big_quiet_op; go_big_quiet_on)); (with_reducible refine mix_on ?_)))
  ((with_reducible refine wpMix_chain (by kernel_rfl) (by kernel_rfl) (fun K HK => ?_)); go_step)
  refine (bwrite _ (HB3.out.keep HZ4.out) (by have h1 := HNL.out; have h2 := HUL.out; have h3 := HVL.out; have h5 : ∀ (x : ByteArray), x.size = x.data.toList.length := fun _ => by rw [Array.length_toList]; rfl
                                              rw [h5]; simp; omega) (by have h1 := HW3.out.size; have h2 := HZ4.out.size; omega)).mono ?_; rintro _ z5 ⟨rfl, hbb, hw5, ho5⟩
  have HB5 := Lib.hid (show BB V.heap.size q LT z5 by rw [HLT.out]; simpa using hbb)
  have HW5 := Lib.hid ((HW3.out.trans (HZ4.out.mono HW3.out.size)).trans hw5)
  refine HK.out _ _ ⟨⟨z5, (HZ4.out.mono HW3.out.size).trans hw5⟩, rfl⟩ ?_
  clear HK K hbb hw5 ho5
  repeat (first | ((with_reducible refine mix_skip (by kernel_rfl) ?_); go_big_quiet_skip; (with_reducible refine mix_on ?_)) | ((with_reducible refine mix_plain (by kernel_rfl) ?_); (first | go_big_quiet_skip | (go_big_quiet_want; go_big_quiet_op; go_big_quiet_on)); (with_reducible refine mix_on ?_)))
  refine wpMix_nil ?_
  clear y1 y2
  go_wp2_with fail
  refine (bstring HB5.out HW5.out.size).mono ?_; rintro _ z9 ⟨rfl, hbb, hw1, ho1⟩
  have HF := Lib.hid (below_on HBV.out (HW5.out.trans hw1))
  clear hbb hw1 ho1
  go_wp2_with fail
  (try go_ret)
  rw [HQ.out]
  exact ⟨rfl, HF.out⟩
set_option maxRecDepth 8000 in
set_option maxHeartbeats 2000000 in
theorem tplace {T S : Int} {n : Nat} (sl : List UInt8) {b : Nat} {w : World} (hn : wordsI T S = n) (c0 : w.cell? ⟨b, 0, none⟩ = some (.int .i64 T)) (c1 : w.cell? ⟨b, 1, none⟩ = some (.int .i64 S)) (t1 : 1 ≤ T) (t2 : T ≤ 6) (s1 : 7 ≤ S) (s2 : S ≤ 250) (ht : Pow w.heap.size w) : Calls Tryd.prog 12 #[.pointer (some ⟨b, 0, none⟩), .string ⟨sl.toArray⟩] w fun e w' => e = .returned (.tuple #[.int .i64 ((fstN T sl n).getD 0 : Nat), .bool (fstN T sl n).isSome]) ∧ Below w.heap.size w w' := by
  refine Calls.veil fun Q HQ => ?_
  have HN := Lib.hid (fun (i : Nat) (hi : i < n) (W : World) (k : Below w.heap.size w W) => tname_yes (a := (i : Int)) (w := W) (show isW T S i = true from decide_eq_true (by omega)) (Ext.cell ⟨W, k⟩ c0) (Ext.cell ⟨W, k⟩ c1) t1 t2 s1 s2 (ht.up k))
  have HPW := Lib.hid (pwords_calls T S b w c0 c1 t1 t2 s1 s2)
  rw [hn] at HPW
  have hn9 : n ≤ 1801 := by unfold wordsI at hn; omega
  clear hn t1 t2 s1 s2 c0 c1 ht
  go_enter Tryd.func12, Tryd.ntmps12
  go_wp2_with fail
  refine HPW.out.mono ?_; rintro _ z1 ⟨rfl, hb1⟩
  have HZ1 := Lib.hid hb1
  clear hb1
  go_wp2_with fail
  go_loopw [9] (fun iv wr => ∃ i : Nat, i ≤ n ∧ iv = .int .i64 i ∧ Hid (∀ a, a < i → nameT T (a : Int) ≠ sl) ∧ Hid (Below w.heap.size w wr)) (fun iv _ => n - (intOf iv).toNat)
  case atStart => exact ⟨0, Nat.zero_le _, rfl, Lib.hid (fun a ha => absurd ha (Nat.not_lt_zero a)), HZ1⟩
  case round =>
    obtain ⟨i, hi, rfl, HE, HW⟩ := hrel
    rcases (by omega : i < n ∨ i = n) with hlt | heq
    · have HI := Lib.hid hlt
      have hii : (i : Int) < n := by omega
      go_wp2_with fail
      refine (HN.out i hlt _ HW.out).mono ?_; rintro _ z2 ⟨rfl, hb2⟩
      have HZ2 := Lib.hid (below_on HW.out hb2)
      clear hb2
      by_cases hs : nameT T (i : Int) = sl
      · have hb : (nameT T (i : Int) == sl) = true := by simpa using hs
        have HF := Lib.hid (fstN_some HE.out hs HI.out)
        generalize nameT T (i : Int) = nt at hb
        clear hs
        go_wp2_with fail
        (try go_ret2)
        rw [HQ.out, HF.out]
        exact ⟨rfl, HZ2.out⟩
      · have hb : (nameT T (i : Int) == sl) = false := by simpa using hs
        have HNE := Lib.hid hs
        generalize hnt : nameT T (i : Int) = nt at hb
        clear hs hnt
        go_wp2_with fail
        go_roundw
        case rel => exact ⟨i + 1, by omega, by go_num, Lib.hid (fun a ha => by rcases (by omega : a < i ∨ a = i) with h | rfl; exact HE.out a h; exact HNE.out), HZ2⟩
        case measure => simp [intOf]; omega
    · have hge : ¬ (i : Int) < n := by omega
      subst heq
      have HF := Lib.hid (fstN_none HE.out)
      go_wp2_with fail
      (try go_ret2)
      rw [HQ.out, HF.out]
      exact ⟨rfl, HW.out⟩
end Go.Proofs.YtilcihmoghhndaaDoor
