/- Numbers without a sign as text. -/
import Derived.Test.YtilcihmoghhndaaDoorNumA
namespace Go.Proofs.YtilcihmoghhndaaDoor
open Go.RowKit Go.Sort
set_option linter.unusedVariables false
set_option linter.unusedSimpArgs false
open Go.Lib (itoa decDigits)
theorem dec_len {u : Nat} (h : u < 18446744073709551616) : (decDigits u).length ≤ 20 := by
  rw [Lib.decDigits_length]
  by_cases h10 : u < 10
  · rw [Lib.nDigits_small h10]; omega
  · have := Lib.numDigits_eq u (by omega) h; split at this <;> omega
set_option maxHeartbeats 12800000 in
set_option maxRecDepth 100000 in
theorem fmtu_in {w : World} (u : Nat) (hu64 : u < 18446744073709551616) (htab : Lib.TabIs Tryd.prog w "internal/strconv.uint64pow10" .u64 Lib.pow10Tab) :
    Calls Tryd.prog 28 #[.int .u64 u, .int .i64 10] w fun e w' => e = .returned (.string ⟨(decDigits u).toArray⟩) ∧ Below w.heap.size w w' := by
  by_cases hs : u < 100
  · have hi : (u : Int) < 100 := by omega
    have hw : IntKind.i64.wrap (u : Int) = (u : Int) := by rw [IntKind.wrap_i64]; omega
    go_enter Tryd.func28, Tryd.ntmps28
    go_wp2_with fail
    refine (Tryd.internal_strconv_small u hs _).mono ?_; rintro _ w' ⟨rfl, rfl⟩
    go_wp2_with fail
    (try go_ret)
    exact ⟨rfl, Below.refl _ _⟩
  · have hu1 : 1 ≤ u := by omega
    have hnd20 : Lib.nDigits u ≤ 20 := by have := dec_len hu64; rw [Lib.decDigits_length] at this; exact this
    have u69 : Tryd.prog.underlying 69 = some (.array 24 5) := by kernel_rfl
    have uu8 : Tryd.prog.underlying 5 = some (.int .u8) := by kernel_rfl
    have hal : Tryd.prog.arrayLen 69 = 24 := by simp [Program.arrayLen, u69]
    have hsl : ∀ W, (Instr.sliceAt 69 (.pointer (some ⟨w.heap.size, 0, none⟩)) none (some (.int .i64 (Lib.nDigits u : Int))) none).run Tryd.prog W = .ok (.slice (some ⟨w.heap.size, 0, none⟩) (Lib.nDigits u) 24) W := fun W => by
      rw [run_sliceAt_array_h W 69 ⟨w.heap.size, 0, none⟩ (by simp [Program.arrayLen, Program.elem, u69]) .i64 (Lib.nDigits u : Int) (by omega) (by rw [hal]; omega)]
      go_simp
    have hH0 := Lib.holds_zero0 w 69 (Lib.nDigits u) (by omega)
    have hfmt := Tryd.internal_strconv_formatBase10 w.heap.size 0 24 u (Array.replicate (Lib.nDigits u) 0) (w.alloc (.cells Lib.zeros24 69)) hH0 (by rw [Array.size_replicate]; exact Lib.lt_pow_nDigits u) hu64 (by rw [Array.size_replicate]; omega)
    rw [Array.size_replicate] at hfmt
    have HH0 := Lib.hid hH0
    have iu : ¬ (u : Int) < 100 := by omega
    clear hH0 hal
    go_enter Tryd.func28, Tryd.ntmps28
    go_wp2_with fail
    refine (Tryd.internal_strconv_numDigits u hu1 hu64 _ (Lib.tabIs_alloc htab _)).mono ?_; rintro _ w' ⟨rfl, rfl⟩
    go_wp2_with fail
    refine hfmt.mono ?_
    rintro e w' ⟨rfl, k, v', dk, rfl, hF⟩
    have hcv : (convert 53 9 (.slice (some ⟨w.heap.size, 0, none⟩) (Lib.nDigits u) 24)).run Tryd.prog ((putRow (fun (b : UInt8) => Value.int .u8 (b.toNat : Int)) (w.alloc (.cells Lib.zeros24 69)) w.heap.size 0 dk).drewN k) = .ok (.string ⟨(decDigits u).toArray⟩) ((putRow (fun (b : UInt8) => Value.int .u8 (b.toNat : Int)) (w.alloc (.cells Lib.zeros24 69)) w.heap.size 0 dk).drewN k) := by
      have h := run_convert_bytes_back (P := Tryd.prog) ((putRow (fun (b : UInt8) => Value.int .u8 (b.toNat : Int)) (w.alloc (.cells Lib.zeros24 69)) w.heap.size 0 dk).drewN k) 53 9 5 ⟨w.heap.size, 0, none⟩ 24 (decDigits u) ubytes uu8 ustr (fun j hj => by
        rw [Lib.row_is_numeral hF j hj, Lib.add_plain, World.cell?_drewN]
        exact cell?_putRow (fun (b : UInt8) => Value.int .u8 (b.toNat : Int)) _ w.heap.size 0 _ dk HH0.out (by rw [hF.size, Array.size_replicate]) j (by rw [hF.size]; rw [Lib.decDigits_length] at hj; exact hj))
      rw [Lib.decDigits_length] at h
      exact h
    go_wp2
    go_ret
    obtain ⟨os, eo⟩ := Lib.fin_at w (.cells Lib.zeros24 69) dk k 0
    refine ⟨rfl, ?_⟩
    rw [eo]; exact Lib.below_grow _ w (Nat.le_refl _) k os
theorem fmtu {B : Nat} {w : World} (u : Nat) (hu : u < 18446744073709551616) (ht : Pow B w) :
    Calls Tryd.prog 20 #[.int .u64 u, .int .i64 10] w fun e w' => e = .returned (.string ⟨(decDigits u).toArray⟩) ∧ Below w.heap.size w w' := by
  have F := Lib.hid (fmtu_in (w := w) u hu ht.here)
  go_enter Tryd.func20, Tryd.ntmps20
  go_wp2_with fail
  refine F.out.mono ?_; rintro _ z ⟨rfl, hb⟩
  go_wp2_with fail
  (try go_ret)
  exact ⟨rfl, hb⟩
set_option maxHeartbeats 2000000 in
theorem runs : ∀ (u : Nat), u < 18446744073709551616 → ∀ w : World,
    Calls Tryd.prog 22 #[.int .u64 u] w fun e w' => e = .returned (.string ⟨(decDigits u).toArray⟩) ∧ Below w.heap.size w w' := by
  intro u
  induction u using Nat.strongRecOn with
  | _ u ih =>
    intro hu w
    refine Calls.veil fun Q HQ => ?_
    obtain ⟨d, hd⟩ : ∃ d, d = u % 10 := ⟨_, rfl⟩
    have hd9 : d ≤ 9 := by omega
    have u48 := enc48; have u49 := enc49; have u50 := enc50; have u51 := enc51; have u52 := enc52; have u53 := enc53; have u54 := enc54; have u55 := enc55; have u56 := enc56; have u57 := enc57
    by_cases hs : u < 10
    · have HE := Lib.hid (show decDigits u = [UInt8.ofNat (48 + d)] by rw [dec_small hs, hd]; congr 2; omega)
      have e : u = d := by omega
      subst e
      clear hd ih hu
      have hs' : (u : Int) < 10 := by omega
      rcases (by omega : u = 0 ∨ u = 1 ∨ u = 2 ∨ u = 3 ∨ u = 4 ∨ u = 5 ∨ u = 6 ∨ u = 7 ∨ u = 8 ∨ u = 9) with rfl | rfl | rfl | rfl | rfl | rfl | rfl | rfl | rfl | rfl
      all_goals
        clear hs' hs
        go_enter Tryd.func22, Tryd.ntmps22
        go_wp2_with fail
        (try go_ret)
        rw [HQ.out, HE.out]
        exact ⟨rfl, Below.refl _ _⟩
    · have IH := Lib.hid (ih (u / 10) (by omega) (by omega))
      have HE := Lib.hid (show decDigits u = decDigits (u / 10) ++ [UInt8.ofNat (48 + d)] by rw [dec_big hs, hd])
      have HL := Lib.hid (dec_len (u := u / 10) (by omega))
      have hq : (u : Int) / 10 = ((u / 10 : Nat) : Int) := by omega
      have hq2 : Int.tdiv (u : Int) 10 = ((u / 10 : Nat) : Int) := by rw [Int.tdiv_eq_ediv_of_nonneg (by omega)]; omega
      have hr2 : Int.tmod (u : Int) 10 = (d : Int) := by rw [Int.tmod_eq_emod_of_nonneg (by omega)]; omega
      have hs' : ¬ (u : Int) < 10 := by omega
      have hu' : (u : Int) < 18446744073709551616 := by omega
      have hm2 := Lib.hid (show (u : Int) % 10 = (d : Int) by omega)
      have HQ1 := Lib.hid hq
      clear ih hd hu hs hq hq2 hr2
      go_enter Tryd.func22, Tryd.ntmps22
      go_wp2_with fail
      rw [HQ1.out]
      refine (IH.out _).mono ?_; rintro _ z ⟨rfl, hb⟩
      have HB := Lib.hid hb
      generalize decDigits (u / 10) = r at HE HL ⊢
      have q1 : ¬ 9223372036854775807 < r.length + 1 := by have := HL.out; omega
      have hm2 := hm2.out
      clear hb
      rcases (by omega : d = 0 ∨ d = 1 ∨ d = 2 ∨ d = 3 ∨ d = 4 ∨ d = 5 ∨ d = 6 ∨ d = 7 ∨ d = 8 ∨ d = 9) with rfl | rfl | rfl | rfl | rfl | rfl | rfl | rfl | rfl | rfl
      all_goals
        go_wp2_with fail
        (try go_ret)
        rw [HQ.out, HE.out]
        exact ⟨congrArg Ending.returned (congrArg Value.string (str_app r [_])), HB.out⟩
end Go.Proofs.YtilcihmoghhndaaDoor
