/- Layer 7: a guard's Drop. -/
import Derived.Test.YtlahpnigabfenaaGrdC
namespace Go.Proofs.Ytlahpnigabfenaa.Gd
open Go.RowKit Go.Maps WordM EdgeM
set_option linter.unusedVariables false
set_option linter.unusedSimpArgs false
def dropH (n : Nat) (H : Nat → Bool) (G : Nat → Int) (e : Int) : Nat → Bool := if leadsB n H G e = true then setB H ((e % 4096).toNat - 1) false else H
def dropG (n : Nat) (H : Nat → Bool) (G : Nat → Int) (e : Int) : Nat → Int := if leadsB n H G e = true then updI G ((e % 4096).toNat - 1) ((G ((e % 4096).toNat - 1) + 1) % 1125899906842624) else G
theorem leads_parts {n : Nat} {H : Nat → Bool} {G : Nat → Int} {e : Int} (h : leadsB n H G e = true) : ∃ i : Nat, e % 4096 = i + 1 ∧ i < n ∧ H i = true ∧ G i = e / 4096 % 1125899906842624 := by
  unfold leadsB at h
  rw [Bool.and_eq_true, Bool.and_eq_true, decide_eq_true_eq, beq_iff_eq] at h
  obtain ⟨⟨h1, h2⟩, h3, h4⟩ := h
  exact ⟨(e % 4096).toNat - 1, by omega, by omega, h3, h4⟩
theorem make_gen (s : Int) {x : Int} (hx : 0 ≤ x) : makeI s x / 4096 % 1125899906842624 = x % 1125899906842624 := by
  have := slotI_bd s
  unfold makeI; omega
set_option maxRecDepth 8000 in
set_option maxHeartbeats 1000000 in
theorem gdrop {w : World} {q g m n : Nat} {H : Nat → Bool} {G : Nat → Int} {s : Int} (h : GA w q g m n H G s) (e : Int) (e1 : 0 ≤ e) (e2 : e < 18446744073709551616) (hs : s < 1000000) :
    Calls Try.prog 68 #[.pointer (some ⟨q, 0, none⟩), .int .u64 e] w fun x w' => x = .returned (.bool (leadsB n H G e)) ∧ GA w' q g m n (dropH n H G e) (dropG n H G e) (if leadsB n H G e = true then s else s + 1) ∧ K3 w w' q g m := by
  refine Calls.veil fun Q HQ => ?_
  have HH := Lib.hid h
  have n1 := h.n1
  have E1 := Lib.hid e1
  have E2 := Lib.hid e2
  clear h e1 e2
  cases hl : leadsB n H G e with
  | false =>
    rw [show dropH n H G e = H by unfold dropH; rw [hl]; rfl, show dropG n H G e = G by unfold dropG; rw [hl]; rfl, hl] at HQ
    have HL := Lib.hid hl
    clear hl
    go_enter Try.func68, Try.ntmps68
    go_wp2_with fail
    refine (gleads HH.out _ E1.out E2.out).mono ?_; rintro _ z1 ⟨rfl, hb1⟩
    have HB1 := Lib.hid hb1
    clear hb1
    rw [HL.out]
    go_wp2_with fail
    refine (gslip (HH.out.below HB1.out) hs).mono ?_; rintro _ z ⟨rfl, h1, h2⟩
    have H1 := Lib.hid h1
    have H2 := Lib.hid h2
    clear h1 h2
    go_wp2_with fail
    (try go_ret)
    rw [HQ.out]
    exact ⟨rfl, H1.out, (K3.of_below HB1.out q g m).trans H2.out⟩
  | true =>
    obtain ⟨i, hi, hin, hh, hg⟩ := leads_parts hl
    have hti : ((i : Int) + 1).toNat - 1 = i := by omega
    rw [show dropH n H G e = setB H i false by unfold dropH; rw [hl, hi, hti]; rfl, show dropG n H G e = updI G i ((G i + 1) % 1125899906842624) by unfold dropG; rw [hl, hi, hti]; rfl, hl] at HQ
    have HL := Lib.hid hl
    have HI := Lib.hid hi
    have HGE := Lib.hid hg
    have HHI := Lib.hid hh
    have hgb := HH.out.gb i
    obtain ⟨y, hy⟩ : ∃ y, y = G i := ⟨_, rfl⟩
    rw [← hy] at hgb HGE HQ
    have HY := Lib.hid hy
    clear hl hi hti hh hg hy
    go_enter Try.func68, Try.ntmps68
    go_wp2_with fail
    refine (gleads HH.out _ E1.out E2.out).mono ?_; rintro _ z1 ⟨rfl, hb1⟩
    have HB1 := Lib.hid hb1
    clear hb1
    rw [HL.out]
    go_wp2_with fail
    refine (eslot_calls _ _ E1.out E2.out).mono ?_; rintro _ _ ⟨rfl, rfl⟩
    rw [HI.out]
    have HG1 := Lib.hid (HH.out.below HB1.out)
    have c1 := HG1.out.c1
    obtain ⟨W, hrun, h1, h2⟩ := HG1.out.drop hin HHI.out 0
    have H1 := Lib.hid h1
    have H2 := Lib.hid ((K3.of_below HB1.out q g m).trans h2)
    clear h1 h2
    go_upto_region 5 with fail
    clear c1 hrun
    obtain ⟨c, hc1, hc2, c0⟩ := H1.out.c0
    have ff : ∀ k, W.frozen? ⟨g, k, none⟩ = false := H1.out.gens.fr
    have gc := H1.out.gc hin
    have hii : (i : Int) < n := by omega
    have HMB := Lib.hid (makeI_bd ((i : Int) + 1) (show 0 ≤ y + 1 by omega))
    have HMG := Lib.hid (show makeI ((i : Int) + 1) (y + 1) / 4096 % 1125899906842624 = (y + 1) % 1125899906842624 from make_gen _ (by omega))
    have hwi : IntKind.i64.wrap (i : Int) = i := by rw [IntKind.wrap_i64]; omega
    have hwy : IntKind.u64.wrap (y + 1) = y + 1 := by rw [IntKind.wrap_u64]; omega
    go_still_tail 13, (by kernel_rfl)
    still_call ((egen_calls e _ E1.out E2.out).mono (fun _ _ h => ⟨h.1, h.2.symm⟩))
    rw [← HGE.out]
    repeat still_step
    still_call ((emake_calls ((i : Int) + 1) (y + 1) _ (by omega)).mono (fun _ _ h => ⟨h.1, h.2.symm⟩))
    repeat still_step
    still_call ((egen_calls (makeI ((i : Int) + 1) (y + 1)) _ HMB.out.1 (by have := HMB.out.2; omega)).mono (fun _ _ h => ⟨h.1, h.2.symm⟩))
    rw [HMG.out]
    repeat still_step
    try refine wpStill_nil ?_
    have HYB := Lib.hid (show 0 ≤ (y + 1) % 1125899906842624 ∧ (y + 1) % 1125899906842624 < 1125899906842624 by omega)
    generalize (y + 1) % 1125899906842624 = y2 at HYB HQ ⊢
    go_wp2_with fail
    (try go_ret)
    rw [HQ.out]
    exact ⟨rfl, (H1.out.setG hin HYB.out).below (Below.refl _ _).drew, H2.out.trans ((K3.of_grown (grown_cell _ _ _ _) (.inr (.inl rfl))).trans (.of_below (Below.refl _ _).drew q g m))⟩
end Go.Proofs.Ytlahpnigabfenaa.Gd
