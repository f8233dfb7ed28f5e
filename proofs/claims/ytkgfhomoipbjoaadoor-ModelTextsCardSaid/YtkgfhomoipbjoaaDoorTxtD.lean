/- Layer 10: a state as text. -/
import Derived.Test.YtkgfhomoipbjoaaDoorTxtC
namespace Go.Proofs.YtkgfhomoipbjoaaDoor
open Go.RowKit
set_option linter.unusedVariables false
set_option linter.unusedSimpArgs false
/-- All numbers of a state's pairs go into 64 bits. -/
structure OkV (st : Sm) : Prop where
  mi : Ints st.mp
  fi : ∀ i, Ints (st.th i).fz
theorem Ints.nil : Ints [] := fun p hp => by cases hp
theorem Ints.sub {L M : PL} (h : Ints L) (s : M.Sublist L) : Ints M := fun p hp => h p (s.subset hp)
theorem OkV.new (n : Nat) : OkV ⟨[], n, fun _ => s0⟩ := ⟨Ints.nil, fun _ => Ints.nil⟩
theorem ses_ints {st : Sm} (h : OkV st) (i : Nat) (c : Ca) : Ints (sesA st i c).1.fz := by
  unfold sesA
  split
  · exact Ints.nil
  split
  · exact Ints.nil
  split
  · exact h.mi.sub (cut_sub _ _ _ _)
  split
  · exact h.fi i
  split
  · exact Ints.nil
  split
  · exact h.fi i
  · exact h.fi i
theorem OkV.call {st : Sm} (h : OkV st) (t : Int) (c : Ca) (hk : -9223372036854775808 ≤ c.key ∧ c.key ≤ 9223372036854775807) (hv : -9223372036854775808 ≤ c.val ∧ c.val ≤ 9223372036854775807) : OkV (doA st t c).1 := by
  unfold doA
  split
  · exact h
  split
  · refine ⟨fun p hp => ?_, h.fi⟩
    rcases put_mem hp with e | e
    · rw [e]; exact ⟨hk, hv⟩
    · exact h.mi p e
  split
  · exact ⟨h.mi.sub (drop_sub _ _), h.fi⟩
  split
  · exact h
  split
  · exact h
  split
  · exact h
  · refine ⟨h.mi, fun i => ?_⟩
    simp only [updT]
    split
    · exact ses_ints h _ c
    · exact h.fi i
theorem Pow.on {B B1 : Nat} {w w1 : World} (h : Pow B w) (k : Below B w w1) (hB : B ≤ B1) : Pow B1 w1 := fun w' h' => h w' (k.trans (h'.mono hB))
theorem ssL_take (th : Nat → Se) (i : Nat) : ssL ((List.range (i + 1)).map th) = ssL ((List.range i).map th) ++ sT (th i) := by
  unfold ssL; rw [List.range_succ, List.map_append, List.flatMap_append]; simp
theorem bT_len (b : Bool) : (bT b).length ≤ 5 := by cases b <;> decide
theorem sT_len {s : Se} (h : Ints s.fz) (hl : s.fz.length ≤ 1000) (hp : 0 ≤ s.pt ∧ s.pt ≤ 5000) : (sT s).length ≤ 50000 := by
  have h1 := wL_len s.fz h
  have h2 := bT_len s.j; have h3 := bT_len s.o
  have h4 := Lib.itoa_length_le s.pt (by omega) (by omega)
  unfold sT
  simp only [List.length_cons, List.length_append]
  omega
theorem ssL_len (th : Nat → Se) (h : ∀ i, (sT (th i)).length ≤ 50000) : ∀ i : Nat, (ssL ((List.range i).map th)).length ≤ 50000 * i
  | 0 => by simp [ssL]
  | i + 1 => by
    have := ssL_len th h i
    have := h i
    rw [ssL_take, List.length_append]; omega
set_option maxRecDepth 8000 in
set_option maxHeartbeats 4000000 in
theorem mtext {w : World} {st : Sm} {mv tv : Value} (hp : PR w mv st.mp) (ht : TR w tv st.n st.th) (ok : OkN 1000 st) (ov : OkV st) (hpow : Pow w.heap.size w) :
    Calls Tryd.prog 11 #[.agg #[mv, tv]] w fun e w' => e = .returned (.string ⟨(tS st).toArray⟩) ∧ Below w.heap.size w w' := by
  refine Calls.veil fun Q HQ => ?_
  have HP := Lib.hid hp
  obtain ⟨p, c, rfl, _, _⟩ := hp.slice
  obtain ⟨q, d, rfl, a1, a2, A3⟩ := ht.slice
  have HOK := Lib.hid ok; have HOV := Lib.hid ov; have HPW := Lib.hid hpow
  have hn6 := ok.n6
  have HLM := Lib.hid (show st.mp.length ≤ 100000 by have := ok.ml; omega)
  have HSL := Lib.hid (show ∀ i : Nat, (ssL ((List.range i).map st.th)).length ≤ 50000 * i from ssL_len st.th fun i => sT_len (ov.fi i) (ok.fl i) ⟨ok.p0 i, by have := ok.p1 i; have := ok.fl i; omega⟩)
  have HWL := Lib.hid (show (wL st.mp).length ≤ 44 * st.mp.length from wL_len st.mp ov.mi)
  clear hp ht ok ov hpow
  go_enter Tryd.func11, Tryd.ntmps11
  go_upto_region 2 with fail
  generalize hW1 : World.alloc w _ = w1
  have hb1 : Below w.heap.size w w1 := by rw [← hW1]; exact below_new (Below.refl _ _) _
  have e1 : w.heap.size + 1 = w1.heap.size := by rw [← hW1]; simp
  have s0 : w1.cell? ⟨w.heap.size, 0, none⟩ = some (.slice p st.mp.length c) := by rw [← hW1]; exact Ext.made rfl 0 _ rfl ⟨_, Below.refl _ _⟩
  have s1 : w1.cell? ⟨w.heap.size, 1, none⟩ = some (.slice q st.n d) := by rw [← hW1]; exact Ext.made rfl 1 _ rfl ⟨_, Below.refl _ _⟩
  have HP1 := Lib.hid (HP.out.below hb1)
  have HB1 := Lib.hid hb1
  have HPW1 := Lib.hid (HPW.out.on hb1 hb1.size)
  obtain ⟨X, hX⟩ : ∃ X, X = w.heap.size := ⟨_, rfl⟩
  have HXB := Lib.hid (show X < w1.heap.size by omega)
  rw [← hX] at s0 s1 e1 ⊢
  rw [e1]
  clear hW1 hb1 hX e1
  generalize hV : World.alloc w1 _ = V
  have hbV : Below w1.heap.size w1 V := by rw [← hV]; exact below_new (Below.refl _ _) _
  have HBB := Lib.hid (show BB w1.heap.size w1.heap.size [] V by rw [← hV]; exact BB.fresh w1)
  have HBV := Lib.hid hbV
  have HS1 := Lib.hid s1
  have s0 := Ext.cell ⟨V, hbV⟩ s0
  simp only at s0
  clear hV hbV s1
  obtain ⟨b, hb⟩ : ∃ b, b = w1.heap.size := ⟨_, rfl⟩
  have HBE := Lib.hid hb
  have HBB : Hid (BB w1.heap.size b [] V) := Lib.hid (by rw [hb]; exact HBB.out)
  rw [← hb]
  clear hb
  go_wp2_with fail
  refine (mwrite HBV.out HP1.out HLM.out HOV.out.mi HBB.out (by simp) HPW1.out).mono ?_; rintro _ z1 ⟨rfl, hbb, hw1, ho1⟩
  have HBB1 := Lib.hid hbb
  have HZ1 := Lib.hid (HBV.out.trans hw1)
  have s1 := Ext.cell ⟨z1, HZ1.out⟩ HS1.out
  simp only at s1
  clear s0 hbb hw1 ho1
  go_wp2_with fail
  go_loopw [12] (fun iv wr => ∃ i : Nat, i ≤ st.n ∧ iv = .int .i64 i ∧ Hid (BB w1.heap.size b (wL st.mp ++ ssL ((List.range i).map st.th)) wr) ∧ Hid (Below w1.heap.size w1 wr)) (fun iv _ => st.n - (intOf iv).toNat)
  case atStart => exact ⟨0, Nat.zero_le _, rfl, Lib.hid (by simpa [ssL] using HBB1.out), HZ1⟩
  case round =>
    clear HBB1 HZ1 s1
    obtain ⟨i, hi, rfl, HBR, HBW⟩ := hrel
    rcases (by omega : i < st.n ∨ i = st.n) with hlt | heq
    · obtain ⟨T, fv, rfl, hA⟩ := A3.out i hlt
      have hA := (hA.below HB1.out)
      have HE := Lib.hid (ssL_take st.th i)
      have HFI := Lib.hid (HOV.out.fi i)
      have HFL := Lib.hid (HOK.out.fl i)
      have HPT := Lib.hid (And.intro (HOK.out.p0 i) (Int.le_trans (HOK.out.p1 i) (show ((st.th i).fz.length : Int) ≤ 1000 by have := HOK.out.fl i; omega)))
      have HLEN := Lib.hid (show (ssL ((List.range i).map st.th)).length ≤ 300000 by have := HSL.out i; omega)
      generalize st.th i = s at hA HE HFI HFL HPT
      obtain ⟨j, o, fz, pt⟩ := s
      simp only at HFI HFL HPT
      obtain ⟨fp, fc, rfl, _, _⟩ := hA.p.1.slice
      have HFP := Lib.hid hA.p.1
      have x0 := Ext.cell ⟨wr, HBW.out⟩ hA.c0; have x1 := Ext.cell ⟨wr, HBW.out⟩ hA.c1; have x2 := Ext.cell ⟨wr, HBW.out⟩ hA.c2; have x3 := Ext.cell ⟨wr, HBW.out⟩ hA.c3
      simp only at x0 x1 x2 x3
      have hii : (i : Int) < st.n := by omega
      have h4 : i * 4 ≤ 24 := by omega
      clear hA
      go_upto_region 6 with fail
      generalize hV2 : World.alloc _ _ = V2
      have v0 : V2.heap[wr.heap.size]? = some (.cells #[.bool j, .bool o, .slice fp fz.length fc, .int .i64 pt] 60 (0, 0)) := by rw [← hV2]; exact heap_alloc_new _ _
      have hbV : Below wr.heap.size wr V2 := by rw [← hV2]; exact below_new (Below.refl _ _) _
      have HBV2 := Lib.hid hbV
      have HRW := Lib.hid (show w1.heap.size ≤ wr.heap.size from HBW.out.size)
      have HVW := Lib.hid (show w1.heap.size ≤ V2.heap.size by have := hbV.size; have := HBW.out.size; omega)
      have HNE := Lib.hid (show wr.heap.size ≠ b by have := HBR.out.lt; omega)
      have HWV := Lib.hid (below_on HBW.out hbV)
      have HV0 := Lib.hid v0
      have y0 := EO.cells (R := wr.heap.size) (T := 60) (cs := #[.bool j, .bool o, .slice fp fz.length fc, .int .i64 pt]) 0 rfl
      have y1 := EO.cells (R := wr.heap.size) (T := 60) (cs := #[.bool j, .bool o, .slice fp fz.length fc, .int .i64 pt]) 1 rfl
      have y2 := EO.cells (R := wr.heap.size) (T := 60) (cs := #[.bool j, .bool o, .slice fp fz.length fc, .int .i64 pt]) 2 rfl
      have y3 := EO.cells (R := wr.heap.size) (T := 60) (cs := #[.bool j, .bool o, .slice fp fz.length fc, .int .i64 pt]) 3 rfl
      obtain ⟨R, hR⟩ : ∃ R, R = wr.heap.size := ⟨_, rfl⟩
      rw [← hR] at y0 y1 y2 y3 HV0 HNE ⊢
      have hj5 := bT_len j; have ho5 := bT_len o
      have hp21 := Lib.itoa_length_le pt (by have := HPT.out; omega) (by have := HPT.out; omega)
      obtain ⟨js, hjs⟩ : ∃ x, x = bT j := ⟨_, rfl⟩
      obtain ⟨os, hos⟩ : ∃ x, x = bT o := ⟨_, rfl⟩
      obtain ⟨ps, hps⟩ : ∃ x, x = Lib.itoa pt := ⟨_, rfl⟩
      rw [← hjs] at hj5; rw [← hos] at ho5; rw [← hps] at hp21
      have HJS := Lib.hid hjs; have HOS := Lib.hid hos; have HPS := Lib.hid hps
      have HJ5 := Lib.hid hj5; have HO5 := Lib.hid ho5; have HP21 := Lib.hid hp21
      clear hV2 hbV v0 x0 x1 x2 x3 hR hjs hos hps hj5 ho5 hp21
      have q1 : ¬ 9223372036854775807 < 1 + js.length := by have := HJ5.out; omega
      have q2 : ¬ 9223372036854775807 < 1 + js.length + 1 := by have := HJ5.out; omega
      have q3 : ¬ 9223372036854775807 < 1 + js.length + 1 + os.length := by have := HJ5.out; have := HO5.out; omega
      have q4 : ¬ 9223372036854775807 < 1 + js.length + 1 + os.length + 1 := by have := HJ5.out; have := HO5.out; omega
      have q5 : ¬ 9223372036854775807 < 1 + js.length + 1 + os.length + 1 + ps.length := by have := HJ5.out; have := HO5.out; have := HP21.out; omega
      have q6 : ¬ 9223372036854775807 < 1 + js.length + 1 + os.length + 1 + ps.length + 1 := by have := HJ5.out; have := HO5.out; have := HP21.out; omega
      (with_reducible refine wp_region_mix (fun w' => ∃ y : EO R (.cells #[.bool j, .bool o, .slice fp fz.length fc, .int .i64 pt] 60 (0, 0)), w' = y.w) ?_ ?_ ?_ ?_; kernel_rfl; kernel_rfl; exact ⟨⟨V2.drew, drk HV0.out⟩, rfl⟩)
      repeat (first | ((with_reducible refine mix_skip (by kernel_rfl) ?_); go_big_quiet_skip; (with_reducible refine mix_on ?_)) | ((with_reducible refine mix_plain (by kernel_rfl) ?_); (first | go_big_quiet_skip | (go_big_quiet_want; go_big_quiet_op; go_big_quiet_on)); (with_reducible refine mix_on ?_)))
      ((with_reducible refine wpMix_chain (by kernel_rfl) (by kernel_rfl) (fun K HK => ?_)); go_step)
      refine (bool10 j _).mono ?_; rintro _ z1 ⟨rfl, hb1⟩
      have HZ1 := Lib.hid (below_on (Below.refl V2.heap.size V2).drew hb1)
      have HB1 := Lib.hid ((HBR.out.keep HBV2.out).keep HZ1.out)
      have hr1 : z1.heap[R]? = _ := upk HZ1.out HV0.out
      have HR1 := Lib.hid hr1
      rw [← HJS.out]
      refine HK.out _ _ ⟨⟨z1, hr1⟩, rfl⟩ ?_
      clear HK K hb1 hr1
      repeat (first | ((with_reducible refine mix_skip (by kernel_rfl) ?_); go_big_quiet_skip; (with_reducible refine mix_on ?_)) | ((with_reducible refine mix_plain (by kernel_rfl) ?_); (first | go_big_quiet_skip | (go_big_quiet_want; go_big_quiet_op; go_big_quiet_on)); (with_reducible refine mix_on ?_)))
      ((with_reducible refine wpMix_chain (by kernel_rfl) (by kernel_rfl) (fun K HK => ?_)); go_step)
      refine (bool10 o _).mono ?_; rintro _ z2 ⟨rfl, hb1⟩
      have HZ2 := Lib.hid (below_on HZ1.out hb1)
      have HB2 := Lib.hid (HB1.out.keep hb1)
      have hr1 : z2.heap[R]? = _ := upk hb1 HR1.out
      have HR2 := Lib.hid hr1
      rw [← HOS.out]
      refine HK.out _ _ ⟨⟨z2, hr1⟩, rfl⟩ ?_
      clear HK K hb1 hr1
      repeat (first | ((with_reducible refine mix_skip (by kernel_rfl) ?_); go_big_quiet_skip; (with_reducible refine mix_on ?_)) | ((with_reducible refine mix_plain (by kernel_rfl) ?_); (first | go_big_quiet_skip | (go_big_quiet_want; go_big_quiet_op; go_big_quiet_on)); (with_reducible refine mix_on ?_)))
      ((with_reducible refine wpMix_chain (by kernel_rfl) (by kernel_rfl) (fun K HK => ?_)); go_step)
      refine (itoa10 pt (by have := HPT.out; omega) (by have := HPT.out; omega) (HPW1.out.on (below_on HWV.out HZ2.out) (Nat.le_refl _))).mono ?_; rintro _ z3 ⟨rfl, hb1⟩
      have HZ3 := Lib.hid (below_on HZ2.out hb1)
      have HB3 := Lib.hid (HB2.out.keep hb1)
      have hr1 : z3.heap[R]? = _ := upk hb1 HR2.out
      have HR3 := Lib.hid hr1
      rw [← HPS.out]
      refine HK.out _ _ ⟨⟨z3, hr1⟩, rfl⟩ ?_
      clear HK K hb1 hr1
      repeat (first | ((with_reducible refine mix_skip (by kernel_rfl) ?_); go_big_quiet_skip; (with_reducible refine mix_on ?_)) | ((with_reducible refine mix_plain (by kernel_rfl) ?_); (first | go_big_quiet_skip | (go_big_quiet_want; go_big_quiet_op; go_big_quiet_on)); (with_reducible refine mix_on ?_)))
      ((with_reducible refine wpMix_chain (by kernel_rfl) (by kernel_rfl) (fun K HK => ?_)); go_step)
      have HST := Lib.hid (show (({ data := #[59] } : ByteArray) ++ { data := js.toArray } ++ { data := #[32] } ++ { data := os.toArray } ++ { data := #[32] } ++ { data := ps.toArray } ++ { data := #[32] }).data.toList ++ wL fz = sT ⟨j, o, fz, pt⟩ by rw [HJS.out, HOS.out, HPS.out]; simp [sT])
      have HSZ := Lib.hid (show (({ data := #[59] } : ByteArray) ++ { data := js.toArray } ++ { data := #[32] } ++ { data := os.toArray } ++ { data := #[32] } ++ { data := ps.toArray } ++ { data := #[32] }).size ≤ 50 by
        have h1 := HJ5.out; have h2 := HO5.out; have h3 := HP21.out
        have h5 : ∀ (x : ByteArray), x.size = x.data.toList.length := fun _ => by rw [Array.length_toList]; rfl
        rw [h5]; simp; omega)
      generalize ({ data := #[59] } : ByteArray) ++ { data := js.toArray } ++ { data := #[32] } ++ { data := os.toArray } ++ { data := #[32] } ++ { data := ps.toArray } ++ { data := #[32] } = str at *
      refine (bwrite str HB3.out (by have h2 := HSZ.out; have h3 := HLEN.out; have h4 := HWL.out; have h5 := HLM.out; rw [List.length_append]; omega) (by have h1 := (HWV.out).size; have h2 := HZ3.out.size; omega)).mono ?_; rintro _ z4 ⟨rfl, hb3, hw3, ho3⟩
      have hr4 : z4.heap[R]? = _ := ho3 R _ HR3.out (by intro e; exact HNE.out (Option.some.inj e)) (by intro c fz e; injection e with _ h; exact absurd h (by decide))
      have HB4 := Lib.hid hb3
      have HW4 := Lib.hid ((HWV.out.trans (HZ3.out.mono HVW.out)).trans hw3)
      refine HK.out _ _ ⟨⟨z4, hr4⟩, rfl⟩ ?_
      clear HK K hb3 hw3 ho3
      repeat (first | ((with_reducible refine mix_skip (by kernel_rfl) ?_); go_big_quiet_skip; (with_reducible refine mix_on ?_)) | ((with_reducible refine mix_plain (by kernel_rfl) ?_); (first | go_big_quiet_skip | (go_big_quiet_want; go_big_quiet_op; go_big_quiet_on)); (with_reducible refine mix_on ?_)))
      refine wpMix_nil ?_
      have y2 := y2 ⟨z4, hr4⟩
      simp only at y2
      clear hr4 y0 y1 y3 q1 q2 q3 q4 q5 q6
      go_wp2_with fail
      refine (mwrite HW4.out HFP.out (by have := HFL.out; omega) HFI.out HB4.out (by have h2 := HSZ.out; have h3 := HLEN.out; have h4 := HWL.out; have h5 := HLM.out; have h6 : str.data.toList.length = str.size := (Array.length_toList (xs := str.data)); rw [List.length_append, List.length_append]; omega) HPW1.out).mono ?_; rintro _ z5 ⟨rfl, hbb, hw1, ho1⟩
      have HB5 := Lib.hid hbb
      have HW5 := Lib.hid (HW4.out.trans hw1)
      clear hbb hw1 ho1 y2
      go_wp2_with fail
      go_roundw
      case rel => exact ⟨i + 1, by omega, by go_num, Lib.hid (by rw [HE.out, ← HST.out, ← List.append_assoc, ← List.append_assoc]; exact HB5.out), HW5⟩
      case measure => simp [intOf]; omega
    · have hge : ¬ (i : Int) < st.n := by omega
      subst heq
      go_wp2_with fail
      refine (bstring HBR.out HBW.out.size).mono ?_; rintro _ z5 ⟨rfl, hbb, hw1, ho1⟩
      have HF := Lib.hid (below_on HB1.out (HBW.out.trans hw1))
      clear hbb hw1 ho1
      go_wp2_with fail
      (try go_ret)
      rw [HQ.out]
      exact ⟨rfl, HF.out⟩
end Go.Proofs.YtkgfhomoipbjoaaDoor
