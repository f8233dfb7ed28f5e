/- Layer 7: the reference's guard; New of both. -/
import Derived.Test.YtkkdehniheajeaaGrdB
import Derived.Test.YtkkdehniheajeaaExt
import Derived.Deep.Cut
namespace Go.Proofs.Ytkkdehniheajeaa.Gd
open Go.RowKit Go.Maps WordM EdgeM
set_option linter.unusedVariables false
set_option linter.unusedSimpArgs false
def cS (H : Nat → Bool) (G : Nat → Int) (n : Nat) : List Value := (List.range n).flatMap fun i => [.bool (H i), .int .u64 (G i)]
/-- The slots of the reference's guard, as they are read. -/
def SR (w : World) (b n : Nat) (H : Nat → Bool) (G : Nat → Int) : Prop := ∀ i, i < n → w.cell? ⟨b, i * 2, none⟩ = some (.bool (H i)) ∧ w.cell? ⟨b, i * 2 + 1, none⟩ = some (.int .u64 (G i))
def xV (b n c : Nat) (s : Int) : Value := .agg #[.slice (some ⟨b, 0, none⟩) n c, .int .i64 s]
theorem SR.below {w w' : World} {b n : Nat} {H : Nat → Bool} {G : Nat → Int} (h : SR w b n H G) (k : Below w.heap.size w w') : SR w' b n H G := fun i hi => by
  obtain ⟨h0, h1⟩ := h i hi
  exact ⟨Ext.cell ⟨w', k⟩ h0, Ext.cell ⟨w', k⟩ h1⟩
theorem SR.k3 {w w' : World} {q g m b n : Nat} {H : Nat → Bool} {G : Nat → Int} (h : SR w b n H G) (k : K3 w w' q g m) (h1 : b ≠ q) (h2 : b ≠ g) (h3 : b ≠ m) : SR w' b n H G := fun i hi => by
  obtain ⟨c0, c1⟩ := h i hi
  have hb := k.block b (World.block_lt_of_cell? w ⟨b, i * 2, none⟩ c0) h1 h2 h3
  exact ⟨(World.cell?_of_block (a := ⟨b, i * 2, none⟩) hb).trans c0, (World.cell?_of_block (a := ⟨b, i * 2 + 1, none⟩) hb).trans c1⟩
set_option maxHeartbeats 2000000 in
theorem rheld {w : World} {b n c : Nat} {H : Nat → Bool} {G : Nat → Int} (s : Int) (h : SR w b n H G) (hn : n ≤ 250) (hc : n ≤ c) :
    Calls Try.prog 53 #[xV b n c s] w fun e w' => e = .returned (.int .i64 (cntB H n : Nat)) ∧ Below w.heap.size w w' := by
  refine Calls.veil fun Q HQ => ?_
  have HS := Lib.hid h
  clear h
  unfold xV
  go_enter Try.func53, Try.ntmps53
  go_upto_region 1 with fail
  generalize hV : World.alloc w _ = V
  obtain ⟨Z, hZ⟩ : ∃ Z, Z = w.heap.size := ⟨_, rfl⟩
  rw [← hZ]
  have HC := Lib.hid (show V.cell? ⟨Z, 0, none⟩ = some (.slice (some ⟨b, 0, none⟩) n c) by rw [← hV, hZ, cell_of_row _ _ _ _ _ (0, 0) (heap_alloc_new w _)]; rfl)
  have HB := Lib.hid (show Below w.heap.size w V by rw [← hV]; exact (Below.refl _ _).alloc (Nat.le_refl _) _)
  clear hV hZ
  have HSV := Lib.hid (HS.out.below HB.out)
  go_wp2_with fail
  go_loopw [3, 4] (fun kv iv wr => ∃ i : Nat, i ≤ n ∧ iv = .int .i64 i ∧ ∃ k : Nat, k ≤ i ∧ kv = .int .i64 k ∧ Hid (k = cntB H i) ∧ wr = V)
    (fun _ iv _ => n - (intOf iv).toNat)
  case atStart => exact ⟨0, by omega, rfl, 0, by omega, rfl, Lib.hid rfl, rfl⟩
  case round =>
    obtain ⟨i, hi, rfl, k, hk, rfl, HK, hWR⟩ := hrel
    have hWR := hWR.symm
    subst hWR
    have c0 := HC.out
    rcases (by omega : i < n ∨ i = n) with hlt | hEQ
    · have x0 := (HSV.out i hlt).1
      have HN := Lib.hid (show cntB H (i + 1) = cntB H i + (if H i = true then 1 else 0) from rfl)
      generalize H i = hb at x0 HN
      cases hb with
      | true =>
        have HKN := Lib.hid (show k + 1 = cntB H (i + 1) by rw [HN.out, HK.out]; rfl)
        go_wp2_with fail
        go_roundw
        case rel => exact ⟨i + 1, by omega, by go_num, k + 1, by omega, by go_num, HKN, by trivial⟩
        case measure => simp [intOf]; omega
      | false =>
        have HKN := Lib.hid (show k = cntB H (i + 1) by rw [HN.out, HK.out]; rfl)
        go_wp2_with fail
        go_roundw
        case rel => exact ⟨i + 1, by omega, by go_num, k, by omega, by go_num, HKN, by trivial⟩
        case measure => simp [intOf]; omega
    · have hge : ¬ i < n := by omega
      have HE := Lib.hid (show k = cntB H n by rw [HK.out, hEQ])
      clear hEQ
      go_wp2_with fail
      (try go_ret)
      rw [HQ.out]
      exact ⟨by rw [HE.out], HB.out⟩
def putI (s g : Int) (f t : Bool) : Int := s + 4096 * g + (if f then 4611686018427387904 else 0) + (if t then 9223372036854775808 else 0)
end Go.Proofs.Ytkkdehniheajeaa.Gd
