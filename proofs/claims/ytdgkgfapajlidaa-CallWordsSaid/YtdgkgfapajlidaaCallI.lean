/- Layer 9: the walk of CallWords. (gen_calli.py) -/
import Derived.Test.YtdgkgfapajlidaaCallH
namespace Go.Proofs.Ytdgkgfapajlidaa
open Go.RowKit
set_option linter.unusedVariables false
set_option linter.unusedSimpArgs false

set_option maxHeartbeats 8000000 in
set_option maxRecDepth 100000 in
theorem callWords_walk (v0 v1 : Value) (w : World) (s0 : Fr.okN w [.int .i64, .int .i64, .int .i64, .int .i64, .int .i64] v0) (s1 : Fr.ok1 w .str v1) :
    Calls Try.prog 3 #[v0, v1] w fun e w' => e = .returned (.bool true) ∧ Below w.heap.size w w' := by
  obtain ⟨s, rfl, _⟩ := Fr.get_str s1
  obtain ⟨cs, rfl, hcs⟩ := s0
  obtain ⟨op, key, val, hi, limit, rfl⟩ := call_open hcs
  clear hcs s1
  show Calls Try.prog _ #[callV op key val hi limit, _] w _
  refine Calls.veil fun Q HQ => ?_
  have hop3 : op = 0 ∨ op = 1 ∨ (op ≠ 0 ∧ op ≠ 1) := by omega
  rcases hop3 with rfl | rfl | ⟨n0, n1⟩
  · have HCH : Hid (changesB 0 = true) := Lib.hid (by decide)
    go_enter Try.func3, Try.ntmps3
    go_wp2_with fail
    generalize hW : World.alloc w _ = W
    have hBW : Below w.heap.size w W := by rw [← hW]; (repeat (first | exact Below.refl _ _ | assumption | refine below_new ?_ _ | refine Below.drew ?_ | refine below_drewN ?_ _ | refine below_on ?_ (by assumption)))
    have hC := Cells5.made hW
    have c0 := Ext.cells hC.c0; have c1 := Ext.cells hC.c1; have c2 := Ext.cells hC.c2; have c3 := Ext.cells hC.c3; have c4 := Ext.cells hC.c4
    have HB := Lib.hid hBW
    clear hW hBW hC
    (with_reducible refine wp_region_mix (fun w' => ∃ y : Ext W, w' = y.w) ?_ ?_ ?_ ?_; kernel_rfl; kernel_rfl; exact ⟨⟨W.drew, (Below.refl _ _).drew⟩, rfl⟩)
    have hd : Below W.heap.size W W.drew := (Below.refl _ _).drew
    repeat (first | ((with_reducible refine mix_plain (by kernel_rfl) ?_); (first | go_big_quiet_skip | (go_big_quiet_want; go_big_quiet_op; go_big_quiet_on)); (with_reducible refine mix_on ?_)) | ((with_reducible refine mix_skip (by kernel_rfl) ?_); go_big_quiet_skip; (with_reducible refine mix_on ?_)))
    ((with_reducible refine wpMix_chain (by kernel_rfl) (by kernel_rfl) (fun K HK => ?_)); go_step)
    refine (cmay 0 key val hi limit W.drew).mono ?_; rintro _ w2 ⟨rfl, hb2⟩
    have hb2 := below_on hd hb2
    refine HK.out _ _ ⟨⟨w2, hb2⟩, rfl⟩ ?_
    clear HK K hd
    generalize hf : mayB 0 key hi limit = f
    have HF := Lib.hid hf
    clear hf
    repeat (first | ((with_reducible refine mix_plain (by kernel_rfl) ?_); (first | go_big_quiet_skip | (go_big_quiet_want; go_big_quiet_op; go_big_quiet_on)); (with_reducible refine mix_on ?_)) | ((with_reducible refine mix_skip (by kernel_rfl) ?_); go_big_quiet_skip; (with_reducible refine mix_on ?_)))
    ((with_reducible refine wpMix_chain (by kernel_rfl) (by kernel_rfl) (fun K HK => ?_)); go_step)
    refine (rmay 0 key val hi limit w2).mono ?_; rintro _ w3 ⟨rfl, hb3⟩
    have hb3 := below_on hb2 hb3
    rw [HF.out]
    refine HK.out _ _ ⟨⟨w3, hb3⟩, rfl⟩ ?_
    clear HK K hb2
    repeat (first | ((with_reducible refine mix_plain (by kernel_rfl) ?_); (first | go_big_quiet_skip | (go_big_quiet_want; go_big_quiet_op; go_big_quiet_on)); (with_reducible refine mix_on ?_)) | ((with_reducible refine mix_skip (by kernel_rfl) ?_); go_big_quiet_skip; (with_reducible refine mix_on ?_)))
    ((with_reducible refine wpMix_chain (by kernel_rfl) (by kernel_rfl) (fun K HK => ?_)); go_step)
    refine (creads 0 w3).mono ?_; rintro _ w4 ⟨rfl, hb4⟩
    have hb4 := below_on hb3 hb4
    refine HK.out _ _ ⟨⟨w4, hb4⟩, rfl⟩ ?_
    clear HK K hb3
    generalize hf : readsB 0 = g
    have HG := Lib.hid hf
    clear hf
    repeat (first | ((with_reducible refine mix_plain (by kernel_rfl) ?_); (first | go_big_quiet_skip | (go_big_quiet_want; go_big_quiet_op; go_big_quiet_on)); (with_reducible refine mix_on ?_)) | ((with_reducible refine mix_skip (by kernel_rfl) ?_); go_big_quiet_skip; (with_reducible refine mix_on ?_)))
    ((with_reducible refine wpMix_chain (by kernel_rfl) (by kernel_rfl) (fun K HK => ?_)); go_step)
    refine (rreads 0 w4).mono ?_; rintro _ w5 ⟨rfl, hb5⟩
    have hb5 := below_on hb4 hb5
    rw [HG.out]
    refine HK.out _ _ ⟨⟨w5, hb5⟩, rfl⟩ ?_
    clear HK K hb4
    repeat (first | ((with_reducible refine mix_plain (by kernel_rfl) ?_); (first | go_big_quiet_skip | (go_big_quiet_want; go_big_quiet_op; go_big_quiet_on)); (with_reducible refine mix_on ?_)) | ((with_reducible refine mix_skip (by kernel_rfl) ?_); go_big_quiet_skip; (with_reducible refine mix_on ?_)))
    ((with_reducible refine wpMix_chain (by kernel_rfl) (by kernel_rfl) (fun K HK => ?_)); go_step)
    refine (cchanges 0 w5).mono ?_; rintro _ w6 ⟨rfl, hb6⟩
    have hb6 := below_on hb5 hb6
    rw [HCH.out]
    refine HK.out _ _ ⟨⟨w6, hb6⟩, rfl⟩ ?_
    clear HK K hb5
    repeat (first | ((with_reducible refine mix_plain (by kernel_rfl) ?_); (first | go_big_quiet_skip | (go_big_quiet_want; go_big_quiet_op; go_big_quiet_on)); (with_reducible refine mix_on ?_)) | ((with_reducible refine mix_skip (by kernel_rfl) ?_); go_big_quiet_skip; (with_reducible refine mix_on ?_)))
    ((with_reducible refine wpMix_chain (by kernel_rfl) (by kernel_rfl) (fun K HK => ?_)); go_step)
    refine (cword 0 w6).mono ?_; rintro _ w7 ⟨rfl, hb7⟩
    have hb7 := below_on hb6 hb7
    refine HK.out _ _ ⟨⟨w7, hb7⟩, rfl⟩ ?_
    clear HK K hb6
    generalize hf : wordS 0 = ws
    have HWS := Lib.hid hf
    clear hf
    repeat (first | ((with_reducible refine mix_plain (by kernel_rfl) ?_); (first | go_big_quiet_skip | (go_big_quiet_want; go_big_quiet_op; go_big_quiet_on)); (with_reducible refine mix_on ?_)) | ((with_reducible refine mix_skip (by kernel_rfl) ?_); go_big_quiet_skip; (with_reducible refine mix_on ?_)))
    ((with_reducible refine wpMix_chain (by kernel_rfl) (by kernel_rfl) (fun K HK => ?_)); go_step)
    refine (rword 0 w7).mono ?_; rintro _ w8 ⟨rfl, hb8⟩
    have hb8 := below_on hb7 hb8
    rw [HWS.out]
    refine HK.out _ _ ⟨⟨w8, hb8⟩, rfl⟩ ?_
    clear HK K hb7
    repeat (first | ((with_reducible refine mix_plain (by kernel_rfl) ?_); (first | go_big_quiet_skip | (go_big_quiet_want; go_big_quiet_op; go_big_quiet_on)); (with_reducible refine mix_on ?_)) | ((with_reducible refine mix_skip (by kernel_rfl) ?_); go_big_quiet_skip; (with_reducible refine mix_on ?_)))
    refine wpMix_nil ?_
    have HB8 := Lib.hid (below_on HB.out hb8)
    clear c0 c1 c2 c3 c4 hb8
    go_wp2_with fail
    refine (cop s w8).mono ?_; rintro _ w9 ⟨rfl, hb9⟩
    have HB9 := Lib.hid (below_on HB8.out hb9)
    clear hb9
    generalize ho : opI s = oo
    have HO := Lib.hid ho
    clear ho
    generalize hp : (((oo.getD 0 : Nat)) : Int) = po
    generalize hq : oo.isSome = qo
    have HPQ := Lib.hid (And.intro hp hq)
    clear hp hq
    go_wp2_with fail
    go_loopw [7, 8, 9] (fun pv bv iv wr => ∃ (i : Nat) (wn : Int) (b : Bool), i ≤ 15 ∧ pv = .int .i64 wn ∧ bv = .bool b ∧ iv = .int .i64 i ∧ Hid (((∀ j, j < i → wordAt j ≠ s) ∧ wn = 0 ∧ b = false) ∨ ∃ j, j < i ∧ wordAt j = s ∧ wn = (j : Int) ∧ b = true) ∧ Below w9.heap.size w9 wr)
      (fun _ _ iv _ => 15 - (intOf iv).toNat)
    case atStart => exact ⟨0, 0, false, by omega, rfl, rfl, rfl, Lib.hid (.inl ⟨by omega, rfl, rfl⟩), Below.refl _ _⟩
    case round =>
      obtain ⟨i, wn, b, hi', rfl, rfl, rfl, HJ, hbel⟩ := hrel
      rcases (by omega : i < 15 ∨ i = 15) with hlt | heq
      · have HWA := Lib.hid (wordS_in i hlt)
        generalize hy : wordAt i = y at HWA
        have HY := Lib.hid hy
        clear hy
        by_cases he : y = s
        · have HE := Lib.hid he
          have hs := str_t he
          clear he
          go_wp2_with fail
          refine (rword i wr).mono ?_; rintro _ wx ⟨rfl, hbx⟩
          rw [HWA.out]
          have hbel := below_on hbel hbx
          go_wp2_with fail
          go_roundw
          case rel => exact ⟨i + 1, (i : Int), true, by omega, rfl, rfl, by go_num, Lib.hid (.inr ⟨i, by omega, HY.out.trans HE.out, rfl, rfl⟩), hbel⟩
          case measure => simp [intOf]; omega
        · have HE := Lib.hid he
          have hs := str_f he
          clear he
          go_wp2_with fail
          refine (rword i wr).mono ?_; rintro _ wx ⟨rfl, hbx⟩
          rw [HWA.out]
          have hbel := below_on hbel hbx
          go_wp2_with fail
          go_roundw
          case rel => exact ⟨i + 1, wn, b, by omega, rfl, rfl, by go_num, Lib.hid (by
            rcases HJ.out with ⟨h1, h2, h3⟩ | ⟨j, h1, h2, h3, h4⟩
            · exact .inl ⟨fun j hj => by rcases (by omega : j < i ∨ j = i) with h | rfl; exact h1 j h; (rw [HY.out]; exact HE.out), h2, h3⟩
            · exact .inr ⟨j, by omega, h2, h3, h4⟩), hbel⟩
          case measure => simp [intOf]; omega
      · have HE := Lib.hid heq
        have hge : 15 ≤ i := by omega
        have hres : po = wn ∧ qo = b := by
          rcases HJ.out with ⟨h1, h2, h3⟩ | ⟨j, h1, h2, h3, h4⟩
          · have := op_none (s := s) (fun j hj => h1 j (by omega))
            rw [HO.out] at this
            rw [← HPQ.out.1, ← HPQ.out.2, this, h2, h3]; exact ⟨rfl, rfl⟩
          · have := op_at (s := s) (show j < 15 by omega) h2
            rw [HO.out] at this
            rw [← HPQ.out.1, ← HPQ.out.2, this, h3, h4]; exact ⟨rfl, rfl⟩
        obtain ⟨e1, e2⟩ := hres
        subst e1; subst e2
        clear heq
        go_wp2_with fail
        refine (lives9_calls _).mono ?_; rintro _ wz ⟨rfl, hbz⟩
        have HBz := Lib.hid (below_on (below_on HB9.out hbel) hbz)
        clear hbz
        go_wp2_with fail
        (try go_ret)
        rw [HQ.out]
        exact ⟨ret_bool rfl, HBz.out⟩
  · have HCH : Hid (changesB 1 = true) := Lib.hid (by decide)
    go_enter Try.func3, Try.ntmps3
    go_wp2_with fail
    generalize hW : World.alloc w _ = W
    have hBW : Below w.heap.size w W := by rw [← hW]; (repeat (first | exact Below.refl _ _ | assumption | refine below_new ?_ _ | refine Below.drew ?_ | refine below_drewN ?_ _ | refine below_on ?_ (by assumption)))
    have hC := Cells5.made hW
    have c0 := Ext.cells hC.c0; have c1 := Ext.cells hC.c1; have c2 := Ext.cells hC.c2; have c3 := Ext.cells hC.c3; have c4 := Ext.cells hC.c4
    have HB := Lib.hid hBW
    clear hW hBW hC
    (with_reducible refine wp_region_mix (fun w' => ∃ y : Ext W, w' = y.w) ?_ ?_ ?_ ?_; kernel_rfl; kernel_rfl; exact ⟨⟨W.drew, (Below.refl _ _).drew⟩, rfl⟩)
    have hd : Below W.heap.size W W.drew := (Below.refl _ _).drew
    repeat (first | ((with_reducible refine mix_plain (by kernel_rfl) ?_); (first | go_big_quiet_skip | (go_big_quiet_want; go_big_quiet_op; go_big_quiet_on)); (with_reducible refine mix_on ?_)) | ((with_reducible refine mix_skip (by kernel_rfl) ?_); go_big_quiet_skip; (with_reducible refine mix_on ?_)))
    ((with_reducible refine wpMix_chain (by kernel_rfl) (by kernel_rfl) (fun K HK => ?_)); go_step)
    refine (cmay 1 key val hi limit W.drew).mono ?_; rintro _ w2 ⟨rfl, hb2⟩
    have hb2 := below_on hd hb2
    refine HK.out _ _ ⟨⟨w2, hb2⟩, rfl⟩ ?_
    clear HK K hd
    generalize hf : mayB 1 key hi limit = f
    have HF := Lib.hid hf
    clear hf
    repeat (first | ((with_reducible refine mix_plain (by kernel_rfl) ?_); (first | go_big_quiet_skip | (go_big_quiet_want; go_big_quiet_op; go_big_quiet_on)); (with_reducible refine mix_on ?_)) | ((with_reducible refine mix_skip (by kernel_rfl) ?_); go_big_quiet_skip; (with_reducible refine mix_on ?_)))
    ((with_reducible refine wpMix_chain (by kernel_rfl) (by kernel_rfl) (fun K HK => ?_)); go_step)
    refine (rmay 1 key val hi limit w2).mono ?_; rintro _ w3 ⟨rfl, hb3⟩
    have hb3 := below_on hb2 hb3
    rw [HF.out]
    refine HK.out _ _ ⟨⟨w3, hb3⟩, rfl⟩ ?_
    clear HK K hb2
    repeat (first | ((with_reducible refine mix_plain (by kernel_rfl) ?_); (first | go_big_quiet_skip | (go_big_quiet_want; go_big_quiet_op; go_big_quiet_on)); (with_reducible refine mix_on ?_)) | ((with_reducible refine mix_skip (by kernel_rfl) ?_); go_big_quiet_skip; (with_reducible refine mix_on ?_)))
    ((with_reducible refine wpMix_chain (by kernel_rfl) (by kernel_rfl) (fun K HK => ?_)); go_step)
    refine (creads 1 w3).mono ?_; rintro _ w4 ⟨rfl, hb4⟩
    have hb4 := below_on hb3 hb4
    refine HK.out _ _ ⟨⟨w4, hb4⟩, rfl⟩ ?_
    clear HK K hb3
    generalize hf : readsB 1 = g
    have HG := Lib.hid hf
    clear hf
    repeat (first | ((with_reducible refine mix_plain (by kernel_rfl) ?_); (first | go_big_quiet_skip | (go_big_quiet_want; go_big_quiet_op; go_big_quiet_on)); (with_reducible refine mix_on ?_)) | ((with_reducible refine mix_skip (by kernel_rfl) ?_); go_big_quiet_skip; (with_reducible refine mix_on ?_)))
    ((with_reducible refine wpMix_chain (by kernel_rfl) (by kernel_rfl) (fun K HK => ?_)); go_step)
    refine (rreads 1 w4).mono ?_; rintro _ w5 ⟨rfl, hb5⟩
    have hb5 := below_on hb4 hb5
    rw [HG.out]
    refine HK.out _ _ ⟨⟨w5, hb5⟩, rfl⟩ ?_
    clear HK K hb4
    repeat (first | ((with_reducible refine mix_plain (by kernel_rfl) ?_); (first | go_big_quiet_skip | (go_big_quiet_want; go_big_quiet_op; go_big_quiet_on)); (with_reducible refine mix_on ?_)) | ((with_reducible refine mix_skip (by kernel_rfl) ?_); go_big_quiet_skip; (with_reducible refine mix_on ?_)))
    ((with_reducible refine wpMix_chain (by kernel_rfl) (by kernel_rfl) (fun K HK => ?_)); go_step)
    refine (cchanges 1 w5).mono ?_; rintro _ w6 ⟨rfl, hb6⟩
    have hb6 := below_on hb5 hb6
    rw [HCH.out]
    refine HK.out _ _ ⟨⟨w6, hb6⟩, rfl⟩ ?_
    clear HK K hb5
    repeat (first | ((with_reducible refine mix_plain (by kernel_rfl) ?_); (first | go_big_quiet_skip | (go_big_quiet_want; go_big_quiet_op; go_big_quiet_on)); (with_reducible refine mix_on ?_)) | ((with_reducible refine mix_skip (by kernel_rfl) ?_); go_big_quiet_skip; (with_reducible refine mix_on ?_)))
    ((with_reducible refine wpMix_chain (by kernel_rfl) (by kernel_rfl) (fun K HK => ?_)); go_step)
    refine (cword 1 w6).mono ?_; rintro _ w7 ⟨rfl, hb7⟩
    have hb7 := below_on hb6 hb7
    refine HK.out _ _ ⟨⟨w7, hb7⟩, rfl⟩ ?_
    clear HK K hb6
    generalize hf : wordS 1 = ws
    have HWS := Lib.hid hf
    clear hf
    repeat (first | ((with_reducible refine mix_plain (by kernel_rfl) ?_); (first | go_big_quiet_skip | (go_big_quiet_want; go_big_quiet_op; go_big_quiet_on)); (with_reducible refine mix_on ?_)) | ((with_reducible refine mix_skip (by kernel_rfl) ?_); go_big_quiet_skip; (with_reducible refine mix_on ?_)))
    ((with_reducible refine wpMix_chain (by kernel_rfl) (by kernel_rfl) (fun K HK => ?_)); go_step)
    refine (rword 1 w7).mono ?_; rintro _ w8 ⟨rfl, hb8⟩
    have hb8 := below_on hb7 hb8
    rw [HWS.out]
    refine HK.out _ _ ⟨⟨w8, hb8⟩, rfl⟩ ?_
    clear HK K hb7
    repeat (first | ((with_reducible refine mix_plain (by kernel_rfl) ?_); (first | go_big_quiet_skip | (go_big_quiet_want; go_big_quiet_op; go_big_quiet_on)); (with_reducible refine mix_on ?_)) | ((with_reducible refine mix_skip (by kernel_rfl) ?_); go_big_quiet_skip; (with_reducible refine mix_on ?_)))
    refine wpMix_nil ?_
    have HB8 := Lib.hid (below_on HB.out hb8)
    clear c0 c1 c2 c3 c4 hb8
    go_wp2_with fail
    refine (cop s w8).mono ?_; rintro _ w9 ⟨rfl, hb9⟩
    have HB9 := Lib.hid (below_on HB8.out hb9)
    clear hb9
    generalize ho : opI s = oo
    have HO := Lib.hid ho
    clear ho
    generalize hp : (((oo.getD 0 : Nat)) : Int) = po
    generalize hq : oo.isSome = qo
    have HPQ := Lib.hid (And.intro hp hq)
    clear hp hq
    go_wp2_with fail
    go_loopw [7, 8, 9] (fun pv bv iv wr => ∃ (i : Nat) (wn : Int) (b : Bool), i ≤ 15 ∧ pv = .int .i64 wn ∧ bv = .bool b ∧ iv = .int .i64 i ∧ Hid (((∀ j, j < i → wordAt j ≠ s) ∧ wn = 0 ∧ b = false) ∨ ∃ j, j < i ∧ wordAt j = s ∧ wn = (j : Int) ∧ b = true) ∧ Below w9.heap.size w9 wr)
      (fun _ _ iv _ => 15 - (intOf iv).toNat)
    case atStart => exact ⟨0, 0, false, by omega, rfl, rfl, rfl, Lib.hid (.inl ⟨by omega, rfl, rfl⟩), Below.refl _ _⟩
    case round =>
      obtain ⟨i, wn, b, hi', rfl, rfl, rfl, HJ, hbel⟩ := hrel
      rcases (by omega : i < 15 ∨ i = 15) with hlt | heq
      · have HWA := Lib.hid (wordS_in i hlt)
        generalize hy : wordAt i = y at HWA
        have HY := Lib.hid hy
        clear hy
        by_cases he : y = s
        · have HE := Lib.hid he
          have hs := str_t he
          clear he
          go_wp2_with fail
          refine (rword i wr).mono ?_; rintro _ wx ⟨rfl, hbx⟩
          rw [HWA.out]
          have hbel := below_on hbel hbx
          go_wp2_with fail
          go_roundw
          case rel => exact ⟨i + 1, (i : Int), true, by omega, rfl, rfl, by go_num, Lib.hid (.inr ⟨i, by omega, HY.out.trans HE.out, rfl, rfl⟩), hbel⟩
          case measure => simp [intOf]; omega
        · have HE := Lib.hid he
          have hs := str_f he
          clear he
          go_wp2_with fail
          refine (rword i wr).mono ?_; rintro _ wx ⟨rfl, hbx⟩
          rw [HWA.out]
          have hbel := below_on hbel hbx
          go_wp2_with fail
          go_roundw
          case rel => exact ⟨i + 1, wn, b, by omega, rfl, rfl, by go_num, Lib.hid (by
            rcases HJ.out with ⟨h1, h2, h3⟩ | ⟨j, h1, h2, h3, h4⟩
            · exact .inl ⟨fun j hj => by rcases (by omega : j < i ∨ j = i) with h | rfl; exact h1 j h; (rw [HY.out]; exact HE.out), h2, h3⟩
            · exact .inr ⟨j, by omega, h2, h3, h4⟩), hbel⟩
          case measure => simp [intOf]; omega
      · have HE := Lib.hid heq
        have hge : 15 ≤ i := by omega
        have hres : po = wn ∧ qo = b := by
          rcases HJ.out with ⟨h1, h2, h3⟩ | ⟨j, h1, h2, h3, h4⟩
          · have := op_none (s := s) (fun j hj => h1 j (by omega))
            rw [HO.out] at this
            rw [← HPQ.out.1, ← HPQ.out.2, this, h2, h3]; exact ⟨rfl, rfl⟩
          · have := op_at (s := s) (show j < 15 by omega) h2
            rw [HO.out] at this
            rw [← HPQ.out.1, ← HPQ.out.2, this, h3, h4]; exact ⟨rfl, rfl⟩
        obtain ⟨e1, e2⟩ := hres
        subst e1; subst e2
        clear heq
        go_wp2_with fail
        refine (lives9_calls _).mono ?_; rintro _ wz ⟨rfl, hbz⟩
        have HBz := Lib.hid (below_on (below_on HB9.out hbel) hbz)
        clear hbz
        go_wp2_with fail
        (try go_ret)
        rw [HQ.out]
        exact ⟨ret_bool rfl, HBz.out⟩
  · have HCH : Hid (changesB op = false) := Lib.hid (decide_eq_false (by omega))
    have z0 := neq_b n0; have z1 := neq_b n1
    clear n0 n1
    go_enter Try.func3, Try.ntmps3
    go_wp2_with fail
    generalize hW : World.alloc w _ = W
    have hBW : Below w.heap.size w W := by rw [← hW]; (repeat (first | exact Below.refl _ _ | assumption | refine below_new ?_ _ | refine Below.drew ?_ | refine below_drewN ?_ _ | refine below_on ?_ (by assumption)))
    have hC := Cells5.made hW
    have c0 := Ext.cells hC.c0; have c1 := Ext.cells hC.c1; have c2 := Ext.cells hC.c2; have c3 := Ext.cells hC.c3; have c4 := Ext.cells hC.c4
    have HB := Lib.hid hBW
    clear hW hBW hC
    (with_reducible refine wp_region_mix (fun w' => ∃ y : Ext W, w' = y.w) ?_ ?_ ?_ ?_; kernel_rfl; kernel_rfl; exact ⟨⟨W.drew, (Below.refl _ _).drew⟩, rfl⟩)
    have hd : Below W.heap.size W W.drew := (Below.refl _ _).drew
    repeat (first | ((with_reducible refine mix_plain (by kernel_rfl) ?_); (first | go_big_quiet_skip | (go_big_quiet_want; go_big_quiet_op; go_big_quiet_on)); (with_reducible refine mix_on ?_)) | ((with_reducible refine mix_skip (by kernel_rfl) ?_); go_big_quiet_skip; (with_reducible refine mix_on ?_)))
    ((with_reducible refine wpMix_chain (by kernel_rfl) (by kernel_rfl) (fun K HK => ?_)); go_step)
    refine (cmay op key val hi limit W.drew).mono ?_; rintro _ w2 ⟨rfl, hb2⟩
    have hb2 := below_on hd hb2
    refine HK.out _ _ ⟨⟨w2, hb2⟩, rfl⟩ ?_
    clear HK K hd
    generalize hf : mayB op key hi limit = f
    have HF := Lib.hid hf
    clear hf
    repeat (first | ((with_reducible refine mix_plain (by kernel_rfl) ?_); (first | go_big_quiet_skip | (go_big_quiet_want; go_big_quiet_op; go_big_quiet_on)); (with_reducible refine mix_on ?_)) | ((with_reducible refine mix_skip (by kernel_rfl) ?_); go_big_quiet_skip; (with_reducible refine mix_on ?_)))
    ((with_reducible refine wpMix_chain (by kernel_rfl) (by kernel_rfl) (fun K HK => ?_)); go_step)
    refine (rmay op key val hi limit w2).mono ?_; rintro _ w3 ⟨rfl, hb3⟩
    have hb3 := below_on hb2 hb3
    rw [HF.out]
    refine HK.out _ _ ⟨⟨w3, hb3⟩, rfl⟩ ?_
    clear HK K hb2
    repeat (first | ((with_reducible refine mix_plain (by kernel_rfl) ?_); (first | go_big_quiet_skip | (go_big_quiet_want; go_big_quiet_op; go_big_quiet_on)); (with_reducible refine mix_on ?_)) | ((with_reducible refine mix_skip (by kernel_rfl) ?_); go_big_quiet_skip; (with_reducible refine mix_on ?_)))
    ((with_reducible refine wpMix_chain (by kernel_rfl) (by kernel_rfl) (fun K HK => ?_)); go_step)
    refine (creads op w3).mono ?_; rintro _ w4 ⟨rfl, hb4⟩
    have hb4 := below_on hb3 hb4
    refine HK.out _ _ ⟨⟨w4, hb4⟩, rfl⟩ ?_
    clear HK K hb3
    generalize hf : readsB op = g
    have HG := Lib.hid hf
    clear hf
    repeat (first | ((with_reducible refine mix_plain (by kernel_rfl) ?_); (first | go_big_quiet_skip | (go_big_quiet_want; go_big_quiet_op; go_big_quiet_on)); (with_reducible refine mix_on ?_)) | ((with_reducible refine mix_skip (by kernel_rfl) ?_); go_big_quiet_skip; (with_reducible refine mix_on ?_)))
    ((with_reducible refine wpMix_chain (by kernel_rfl) (by kernel_rfl) (fun K HK => ?_)); go_step)
    refine (rreads op w4).mono ?_; rintro _ w5 ⟨rfl, hb5⟩
    have hb5 := below_on hb4 hb5
    rw [HG.out]
    refine HK.out _ _ ⟨⟨w5, hb5⟩, rfl⟩ ?_
    clear HK K hb4
    repeat (first | ((with_reducible refine mix_plain (by kernel_rfl) ?_); (first | go_big_quiet_skip | (go_big_quiet_want; go_big_quiet_op; go_big_quiet_on)); (with_reducible refine mix_on ?_)) | ((with_reducible refine mix_skip (by kernel_rfl) ?_); go_big_quiet_skip; (with_reducible refine mix_on ?_)))
    ((with_reducible refine wpMix_chain (by kernel_rfl) (by kernel_rfl) (fun K HK => ?_)); go_step)
    refine (cchanges op w5).mono ?_; rintro _ w6 ⟨rfl, hb6⟩
    have hb6 := below_on hb5 hb6
    rw [HCH.out]
    refine HK.out _ _ ⟨⟨w6, hb6⟩, rfl⟩ ?_
    clear HK K hb5
    repeat (first | ((with_reducible refine mix_plain (by kernel_rfl) ?_); (first | go_big_quiet_skip | (go_big_quiet_want; go_big_quiet_op; go_big_quiet_on)); (with_reducible refine mix_on ?_)) | ((with_reducible refine mix_skip (by kernel_rfl) ?_); go_big_quiet_skip; (with_reducible refine mix_on ?_)))
    ((with_reducible refine wpMix_chain (by kernel_rfl) (by kernel_rfl) (fun K HK => ?_)); go_step)
    refine (cword op w6).mono ?_; rintro _ w7 ⟨rfl, hb7⟩
    have hb7 := below_on hb6 hb7
    refine HK.out _ _ ⟨⟨w7, hb7⟩, rfl⟩ ?_
    clear HK K hb6
    generalize hf : wordS op = ws
    have HWS := Lib.hid hf
    clear hf
    repeat (first | ((with_reducible refine mix_plain (by kernel_rfl) ?_); (first | go_big_quiet_skip | (go_big_quiet_want; go_big_quiet_op; go_big_quiet_on)); (with_reducible refine mix_on ?_)) | ((with_reducible refine mix_skip (by kernel_rfl) ?_); go_big_quiet_skip; (with_reducible refine mix_on ?_)))
    ((with_reducible refine wpMix_chain (by kernel_rfl) (by kernel_rfl) (fun K HK => ?_)); go_step)
    refine (rword op w7).mono ?_; rintro _ w8 ⟨rfl, hb8⟩
    have hb8 := below_on hb7 hb8
    rw [HWS.out]
    refine HK.out _ _ ⟨⟨w8, hb8⟩, rfl⟩ ?_
    clear HK K hb7
    repeat (first | ((with_reducible refine mix_plain (by kernel_rfl) ?_); (first | go_big_quiet_skip | (go_big_quiet_want; go_big_quiet_op; go_big_quiet_on)); (with_reducible refine mix_on ?_)) | ((with_reducible refine mix_skip (by kernel_rfl) ?_); go_big_quiet_skip; (with_reducible refine mix_on ?_)))
    refine wpMix_nil ?_
    have HB8 := Lib.hid (below_on HB.out hb8)
    clear c0 c1 c2 c3 c4 hb8
    go_wp2_with fail
    refine (cop s w8).mono ?_; rintro _ w9 ⟨rfl, hb9⟩
    have HB9 := Lib.hid (below_on HB8.out hb9)
    clear hb9
    generalize ho : opI s = oo
    have HO := Lib.hid ho
    clear ho
    generalize hp : (((oo.getD 0 : Nat)) : Int) = po
    generalize hq : oo.isSome = qo
    have HPQ := Lib.hid (And.intro hp hq)
    clear hp hq
    go_wp2_with fail
    go_loopw [7, 8, 9] (fun pv bv iv wr => ∃ (i : Nat) (wn : Int) (b : Bool), i ≤ 15 ∧ pv = .int .i64 wn ∧ bv = .bool b ∧ iv = .int .i64 i ∧ Hid (((∀ j, j < i → wordAt j ≠ s) ∧ wn = 0 ∧ b = false) ∨ ∃ j, j < i ∧ wordAt j = s ∧ wn = (j : Int) ∧ b = true) ∧ Below w9.heap.size w9 wr)
      (fun _ _ iv _ => 15 - (intOf iv).toNat)
    case atStart => exact ⟨0, 0, false, by omega, rfl, rfl, rfl, Lib.hid (.inl ⟨by omega, rfl, rfl⟩), Below.refl _ _⟩
    case round =>
      obtain ⟨i, wn, b, hi', rfl, rfl, rfl, HJ, hbel⟩ := hrel
      rcases (by omega : i < 15 ∨ i = 15) with hlt | heq
      · have HWA := Lib.hid (wordS_in i hlt)
        generalize hy : wordAt i = y at HWA
        have HY := Lib.hid hy
        clear hy
        by_cases he : y = s
        · have HE := Lib.hid he
          have hs := str_t he
          clear he
          go_wp2_with fail
          refine (rword i wr).mono ?_; rintro _ wx ⟨rfl, hbx⟩
          rw [HWA.out]
          have hbel := below_on hbel hbx
          go_wp2_with fail
          go_roundw
          case rel => exact ⟨i + 1, (i : Int), true, by omega, rfl, rfl, by go_num, Lib.hid (.inr ⟨i, by omega, HY.out.trans HE.out, rfl, rfl⟩), hbel⟩
          case measure => simp [intOf]; omega
        · have HE := Lib.hid he
          have hs := str_f he
          clear he
          go_wp2_with fail
          refine (rword i wr).mono ?_; rintro _ wx ⟨rfl, hbx⟩
          rw [HWA.out]
          have hbel := below_on hbel hbx
          go_wp2_with fail
          go_roundw
          case rel => exact ⟨i + 1, wn, b, by omega, rfl, rfl, by go_num, Lib.hid (by
            rcases HJ.out with ⟨h1, h2, h3⟩ | ⟨j, h1, h2, h3, h4⟩
            · exact .inl ⟨fun j hj => by rcases (by omega : j < i ∨ j = i) with h | rfl; exact h1 j h; (rw [HY.out]; exact HE.out), h2, h3⟩
            · exact .inr ⟨j, by omega, h2, h3, h4⟩), hbel⟩
          case measure => simp [intOf]; omega
      · have HE := Lib.hid heq
        have hge : 15 ≤ i := by omega
        have hres : po = wn ∧ qo = b := by
          rcases HJ.out with ⟨h1, h2, h3⟩ | ⟨j, h1, h2, h3, h4⟩
          · have := op_none (s := s) (fun j hj => h1 j (by omega))
            rw [HO.out] at this
            rw [← HPQ.out.1, ← HPQ.out.2, this, h2, h3]; exact ⟨rfl, rfl⟩
          · have := op_at (s := s) (show j < 15 by omega) h2
            rw [HO.out] at this
            rw [← HPQ.out.1, ← HPQ.out.2, this, h3, h4]; exact ⟨rfl, rfl⟩
        obtain ⟨e1, e2⟩ := hres
        subst e1; subst e2
        clear heq
        go_wp2_with fail
        refine (lives9_calls _).mono ?_; rintro _ wz ⟨rfl, hbz⟩
        have HBz := Lib.hid (below_on (below_on HB9.out hbel) hbz)
        clear hbz
        go_wp2_with fail
        (try go_ret)
        rw [HQ.out]
        exact ⟨ret_bool rfl, HBz.out⟩
end Go.Proofs.Ytdgkgfapajlidaa
