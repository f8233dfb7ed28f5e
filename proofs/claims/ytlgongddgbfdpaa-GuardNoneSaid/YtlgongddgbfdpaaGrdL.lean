/- Layer 7: lives; do of both, whatever call. -/
import Derived.Test.YtlgongddgbfdpaaGrdK
namespace Go.Proofs.Ytlgongddgbfdpaa
open Go.RowKit Go.Maps WordM EdgeM
set_option linter.unusedVariables false
set_option linter.unusedSimpArgs false
def doE (k slot e : Int) (n : Nat) (G : Nat → Int) : Int := if k = 1 then edgeN n G slot else e
def doH (k slot e : Int) (n : Nat) (H : Nat → Bool) (G : Nat → Int) : Nat → Bool := if k = 0 then takeH n H slot else dropH n H G (doE k slot e n G)
def doG (k slot e : Int) (n : Nat) (H : Nat → Bool) (G : Nat → Int) : Nat → Int := if k = 0 then G else dropG n H G (doE k slot e n G)
def doT (k slot e : Int) (n : Nat) (H : Nat → Bool) (G : Nat → Int) : Bool := if k = 0 then canT n H slot else leadsB n H G (doE k slot e n G)
def doS (k slot e : Int) (n : Nat) (H : Nat → Bool) (G : Nat → Int) (s : Int) : Int := if doT k slot e n H G = true then s else s + 1
theorem doS_le (k slot e : Int) (n : Nat) (H : Nat → Bool) (G : Nat → Int) (s : Int) : s ≤ doS k slot e n H G s ∧ doS k slot e n H G s ≤ s + 1 := by unfold doS; split <;> omega
theorem ldo {w : World} {q g m b n c : Nat} {H : Nat → Bool} {G : Nat → Int} {s : Int} (h : GB w q g m b n c H G s) (k slot e : Int) (e1 : 0 ≤ e) (e2 : e < 18446744073709551616) (hs : s < 1000000) :
    Calls Try.prog 9 #[.pointer (some ⟨q, 0, none⟩), xV b n c s, .agg #[.int .i64 k, .int .i64 slot, .int .u64 e]] w (DoPost w q g m b n (doH k slot e n H G) (doG k slot e n H G) (doS k slot e n H G s)) := by
  rcases (by omega : k = 0 ∨ k = 1 ∨ (¬ k = 0 ∧ ¬ k = 1)) with rfl | rfl | ⟨k0, k1⟩
  · exact ldo_take h slot e hs _ _ _ _ (Lib.hid ⟨by unfold doH; simp, by unfold doG; simp, by unfold doS doT; simp, rfl⟩)
  · exact ldo_edge h slot e e1 e2 hs _ _ _ _ (Lib.hid ⟨by unfold doH doE; simp, by unfold doG doE; simp, by unfold doS doT doE; simp, rfl⟩)
  · exact ldo_drop h slot e k k0 k1 e1 e2 hs _ _ _ _ (Lib.hid ⟨by unfold doH doE; simp [k0, k1], by unfold doG doE; simp [k0, k1], by unfold doS doT doE; simp [k0, k1], rfl⟩)
set_option maxHeartbeats 1000000 in
theorem lives7_calls (w : World) : Calls Try.prog 8 #[] w fun e w' => e = .returned (.bool true) ∧ Below w.heap.size w w' := by
  go_enter Try.func8, Try.ntmps8
  go_wp2_with fail
  refine (gnew 9 w).mono ?_; rintro _ w1 ⟨hB, (⟨hx, _⟩ | ⟨_, _, q, g, m, rfl, hq, hg, hm, h⟩)⟩
  · exact absurd ⟨by decide, by decide⟩ hx
  have HM := Lib.hid (show GA w1 q g m 9 (fun _ => false) (fun _ => 0) 0 from h)
  have HB := Lib.hid hB
  have HQ := Lib.hid (And.intro hq (And.intro hg hm))
  clear h hB hq hg hm
  go_wp2_with fail
  refine (gtake HM.out 3 (by omega)).mono ?_; rintro _ w2 ⟨rfl, h, hk⟩
  have HM := Lib.hid h; have HK := Lib.hid hk; clear h hk
  rw [show canT 9 (fun _ => false) 3 = true by decide] at *
  go_wp2_with fail
  refine (gedge HM.out 3).mono ?_; rintro _ _ ⟨rfl, rfl⟩
  rw [show edgeN 9 (fun _ => 0) 3 = 3 by decide]
  go_wp2_with fail
  refine (gdrop HM.out 3 (by omega) (by omega) (by decide)).mono ?_; rintro _ w3 ⟨rfl, h, hk⟩
  have HM := Lib.hid h; have HK := Lib.hid (HK.out.trans hk); clear h hk
  rw [show leadsB 9 (takeH 9 (fun _ => false) 3) (fun _ => 0) 3 = true by decide] at *
  go_wp2_with fail
  refine (gedge HM.out 3).mono ?_; rintro _ _ ⟨rfl, rfl⟩
  rw [show edgeN 9 (dropG 9 (takeH 9 (fun _ => false) 3) (fun _ => 0) 3) 3 = 4099 by decide]
  go_wp2_with fail
  refine (gheld HM.out).mono ?_; rintro _ _ ⟨rfl, rfl⟩
  rw [show cntB (dropH 9 (takeH 9 (fun _ => false) 3) (fun _ => 0) 3) 9 = 0 by decide]
  go_wp2_with fail
  go_ret
  have hk := HK.out
  have hb := HB.out
  obtain ⟨h1, h2, h3⟩ := HQ.out
  exact ⟨rfl, hk.os.trans hb.os, hk.tape.trans hb.tape, hk.output.trans hb.output, Nat.le_trans hb.size hk.size, fun j hj => (hk.block j (Nat.lt_of_lt_of_le hj hb.size) (by omega) (by omega) (by omega)).trans (hb.block j hj)⟩
end Go.Proofs.Ytlgongddgbfdpaa
