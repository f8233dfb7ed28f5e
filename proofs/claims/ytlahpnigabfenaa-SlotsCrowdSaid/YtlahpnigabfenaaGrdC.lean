/- Layer 7: a guard's Leads, Drop. -/
import Derived.Test.YtlahpnigabfenaaGrdB
import Derived.Test.YtlahpnigabfenaaExt
import Derived.StillTailTactics
import Derived.Deep.RegionHeld3
import Derived.Deep.RegionWith
import Derived.Deep.Cut
namespace Go.Proofs.Ytlahpnigabfenaa.Gd
open Go.RowKit Go.Maps WordM EdgeM
set_option linter.unusedVariables false
set_option linter.unusedSimpArgs false
def leadsB (n : Nat) (H : Nat → Bool) (G : Nat → Int) (e : Int) : Bool := decide (1 ≤ e % 4096 ∧ e % 4096 ≤ n) && (H ((e % 4096).toNat - 1) && (G ((e % 4096).toNat - 1) == e / 4096 % 1125899906842624))
theorem edge_to {i : Nat} {e x : Int} (hi : i < 250) (e1 : 0 ≤ e) (hs : e % 4096 = i + 1) (hx : 0 ≤ x ∧ x < 1125899906842624) : (makeI (i + 1) x % 4611686018427387904 == e % 4611686018427387904) = (x == e / 4096 % 1125899906842624) := by
  have h1 : makeI (i + 1) x = (i + 1) + 4096 * x := by unfold makeI; rw [slotI_of (by omega) (by omega)]; omega
  rw [h1, Bool.eq_iff_iff, beq_iff_eq, beq_iff_eq]
  omega
set_option maxRecDepth 16000 in
set_option maxHeartbeats 2000000 in
theorem gleads {w : World} {q g m n : Nat} {H : Nat → Bool} {G : Nat → Int} {s : Int} (h : GA w q g m n H G s) (e : Int) (e1 : 0 ≤ e) (e2 : e < 18446744073709551616) :
    Calls Try.prog 25 #[.pointer (some ⟨q, 0, none⟩), .int .u64 e] w fun x w' => x = .returned (.bool (leadsB n H G e)) ∧ Below w.heap.size w w' := by
  refine Calls.veil fun Q HQ => ?_
  have HH := Lib.hid h
  have n1 := h.n1
  have E2 := Lib.hid e2
  obtain ⟨t, ht⟩ : ∃ t, t = e % 4096 := ⟨_, rfl⟩
  have HT := Lib.hid ht
  clear h
  by_cases q1 : 1 ≤ t ∧ t ≤ n
  · obtain ⟨i, hi⟩ : ∃ i : Nat, t = i + 1 := ⟨t.toNat - 1, by omega⟩
    have hin : i < n := by omega
    have hgb := HH.out.gb i
    have HE := Lib.hid (edge_to (i := i) (e := e) (x := G i) (by omega) e1 (by omega) hgb)
    have HL := Lib.hid (show leadsB n H G e = (H i && (G i == e / 4096 % 1125899906842624)) by
      unfold leadsB
      rw [← ht, decide_eq_true q1, hi, show ((i : Int) + 1).toNat - 1 = i by omega]
      rfl)
    have HI := Lib.hid hi
    have HD := Lib.hid (show decide (1 ≤ t ∧ t ≤ (n : Int)) = true from decide_eq_true q1)
    have HN := Lib.hid (show edgeN n G t = makeI (i + 1) (G i) by unfold edgeN; rw [if_pos q1, hi]; congr 2)
    have HM := Lib.hid (makeI_bd ((i : Int) + 1) hgb.1)
    have E1 := Lib.hid e1
    clear ht hi q1 hgb e1 e2
    go_enter Try.func25, Try.ntmps25
    go_wp2_with fail
    refine (eslot_calls _ _ E1.out E2.out).mono ?_; rintro _ _ ⟨rfl, rfl⟩
    rw [← HT.out]
    go_wp2_with fail
    refine (ghas HH.out _).mono ?_; rintro _ _ ⟨rfl, rfl⟩
    rw [HD.out]
    go_upto_region 3 with fail
    go_cut [6] from 12 (fun v wx => v = .bool (H i) ∧ Below w.heap.size w wx)
    case first =>
      have c1 := HH.out.c1
      have hlk1 : (Instr.lookup 105 (.map (some m)) (.int .i64 t) true).run Try.prog w.drew = .ok (.tuple #[.agg #[], .bool (H i)]) w.drew := by rw [HI.out]; exact (HH.out.below (Below.refl _ _).drew).look hin
      have hlk2 : (Instr.lookup 105 (.map (some m)) (.int .i64 t) true).run Try.prog (w.drew.alloc (.cells #[] 103)) = .ok (.tuple #[.agg #[], .bool (H i)]) (w.drew.alloc (.cells #[] 103)) := by rw [HI.out]; exact (HH.out.below ((Below.refl _ _).drew.alloc (Nat.le_refl _) _)).look hin
      have hlk3 : (Instr.lookup 105 (.map (some m)) (.int .i64 t) true).run Try.prog (w.alloc (.cells #[] 103)).drew = .ok (.tuple #[.agg #[], .bool (H i)]) (w.alloc (.cells #[] 103)).drew := by rw [HI.out]; exact (HH.out.below ((Below.refl _ _).alloc (Nat.le_refl _) _).drew).look hin
      have c1a : (w.alloc (.cells #[] 103)).cell? ⟨q, 1, none⟩ = some (.map (some m)) := (HH.out.below ((Below.refl _ _).alloc (Nat.le_refl _) _)).c1
      have hql : q < w.heap.size := HH.out.lt.1
      have hqe : ¬ q = w.heap.size := by omega
      have hqf : (q == w.heap.size) = false := by rw [beq_eq_false_iff_ne]; exact hqe
      have HBA := Lib.hid (show Below w.heap.size w (w.alloc (.cells #[] 103)) from (Below.refl _ _).alloc (Nat.le_refl _) _)
      clear hqf
      go_region_with (go_at_call 15; refine (eslot_calls _ _ E1.out E2.out).mono ?_; rintro _ _ ⟨rfl, rfl⟩; rw [← HT.out])
      all_goals
        go_wp2_with fail
        go_meet
        case rel => exact ⟨rfl, (HBA.out).drew⟩
    case rest =>
      obtain ⟨rfl, hb3⟩ := hcut
      have HB3 := Lib.hid hb3
      clear hb3
      have HG3 := Lib.hid (HH.out.below HB3.out)
      rw [HL.out, ← HE.out] at HQ
      cases hf : H i with
      | false =>
        rw [hf] at HQ
        go_wp2_with fail
        (try go_ret)
        rw [HQ.out]
        exact ⟨rfl, HB3.out⟩
      | true =>
        rw [hf, Bool.true_and] at HQ
        go_wp2_with fail
        refine (eslot_calls _ _ E1.out E2.out).mono ?_; rintro _ _ ⟨rfl, rfl⟩
        rw [← HT.out]
        go_wp2_with fail
        refine (gedge HG3.out _).mono ?_; rintro _ _ ⟨rfl, rfl⟩
        rw [HN.out]
        go_wp2_with fail
        refine (eto_calls _ _ _ HM.out.1 (by have := HM.out.2; omega) E1.out E2.out).mono ?_; rintro _ _ ⟨rfl, rfl⟩
        generalize (makeI (↑i + 1) (G i) % 4611686018427387904 == e % 4611686018427387904) = b at HQ
        go_wp2_with fail
        (try go_ret)
        rw [HQ.out]
        exact ⟨rfl, HB3.out⟩
  · have HD := Lib.hid (show decide (1 ≤ t ∧ t ≤ (n : Int)) = false from decide_eq_false q1)
    have HL := Lib.hid (show leadsB n H G e = false by unfold leadsB; rw [← ht, HD.out]; rfl)
    have E1 := Lib.hid e1
    clear ht q1 e1 e2
    go_enter Try.func25, Try.ntmps25
    go_wp2_with fail
    refine (eslot_calls _ _ E1.out E2.out).mono ?_; rintro _ _ ⟨rfl, rfl⟩
    rw [← HT.out]
    go_wp2_with fail
    refine (ghas HH.out _).mono ?_; rintro _ _ ⟨rfl, rfl⟩
    rw [HD.out]
    go_wp2_with fail
    (try go_ret)
    rw [HQ.out]
    exact ⟨by rw [HL.out]; rfl, Below.refl _ _⟩
end Go.Proofs.Ytlahpnigabfenaa.Gd
