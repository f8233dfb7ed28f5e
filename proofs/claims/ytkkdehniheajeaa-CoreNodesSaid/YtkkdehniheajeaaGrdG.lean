/- Layer 7: the reference's Edge, Leads. -/
import Derived.Test.YtkkdehniheajeaaGrdF
namespace Go.Proofs.Ytkkdehniheajeaa.Gd
open Go.RowKit Go.Maps WordM EdgeM
set_option linter.unusedVariables false
set_option linter.unusedSimpArgs false
set_option maxRecDepth 8000 in
set_option maxHeartbeats 1000000 in
theorem rleads {w : World} {b n c : Nat} {H : Nat → Bool} {G : Nat → Int} (s : Int) (h : SR w b n H G) (hn : n ≤ 250) (hc : n ≤ c) (hc2 : c ≤ 9223372036854775807) (hG : ∀ i, 0 ≤ G i ∧ G i < 1125899906842624) (e : Int) (e1 : 0 ≤ e) (e2 : e < 18446744073709551616) :
    Calls Try.prog 58 #[xV b n c s, .int .u64 e] w fun x w' => x = .returned (.bool (leadsB n H G e)) ∧ Below w.heap.size w w' := by
  refine Calls.veil fun Q HQ => ?_
  have HS := Lib.hid h
  have E1 := Lib.hid e1
  have E2 := Lib.hid e2
  have HG := Lib.hid hG
  clear h e1 e2 hG
  unfold xV
  go_enter Try.func58, Try.ntmps58
  go_upto_region 1 with fail
  generalize hV : World.alloc w _ = V
  obtain ⟨Z, hZ⟩ : ∃ Z, Z = w.heap.size := ⟨_, rfl⟩
  rw [← hZ]
  have HC0 := Lib.hid (show V.cell? ⟨Z, 0, none⟩ = some (.slice (some ⟨b, 0, none⟩) n c) by rw [← hV, hZ, cell_of_row _ _ _ _ _ (0, 0) (heap_alloc_new w _)]; rfl)
  have HB := Lib.hid (show Below w.heap.size w V by rw [← hV]; exact (Below.refl _ _).alloc (Nat.le_refl _) _)
  clear hV hZ
  go_wp2_with fail
  refine (read7 e _ E1.out E2.out).mono ?_; rintro _ z1 ⟨rfl, hb1⟩
  have HB1 := Lib.hid (below_on HB.out hb1)
  have HC1 := Lib.hid (show z1.cell? ⟨Z, 0, none⟩ = some (.slice (some ⟨b, 0, none⟩) n c) from Ext.cell ⟨z1, hb1⟩ HC0.out)
  clear hb1
  obtain ⟨t, ht⟩ : ∃ t, t = e % 4096 := ⟨_, rfl⟩
  obtain ⟨y, hy⟩ : ∃ y, y = e / 4096 % 1125899906842624 := ⟨_, rfl⟩
  have HL := Lib.hid (show leadsB n H G e = (decide (1 ≤ t ∧ t ≤ n) && (H (t.toNat - 1) && (G (t.toNat - 1) == y))) by unfold leadsB; rw [← ht, ← hy])
  have ht0 : 0 ≤ t ∧ t ≤ 4095 := by omega
  obtain ⟨ht1, ht2⟩ := ht0
  rw [← ht, ← hy]
  clear ht hy
  go_upto_region 2 with fail
  generalize hU : World.alloc z1 _ = U
  obtain ⟨Z2, hZ2⟩ : ∃ Z, Z = z1.heap.size := ⟨_, rfl⟩
  rw [← hZ2]
  have d0 : U.cell? ⟨Z2, 0, none⟩ = some (.int .i64 t) := by rw [← hU, hZ2, cell_of_row _ _ _ _ _ (0, 0) (heap_alloc_new z1 _)]; rfl
  have d1 : U.cell? ⟨Z2, 1, none⟩ = some (.int .u64 y) := by rw [← hU, hZ2, cell_of_row _ _ _ _ _ (0, 0) (heap_alloc_new z1 _)]; rfl
  have HBU := Lib.hid (show Below w.heap.size w U by rw [← hU]; exact HB1.out.alloc HB1.out.size _)
  have c0 : U.cell? ⟨Z, 0, none⟩ = some (.slice (some ⟨b, 0, none⟩) n c) := Ext.cell ⟨U, by rw [← hU]; exact (Below.refl _ _).alloc (Nat.le_refl _) _⟩ HC1.out
  clear hU hZ2
  have HSU := Lib.hid (HS.out.below HBU.out)
  rcases (by omega : t < 1 ∨ (1 ≤ t ∧ n < t) ∨ (1 ≤ t ∧ t ≤ n)) with q1 | ⟨q1, q2⟩ | ⟨q1, q2⟩
  · have HF := Lib.hid (show leadsB n H G e = false by rw [HL.out, decide_eq_false (by omega)]; rfl)
    have hd : decide (0 < t) = false := decide_eq_false (by omega)
    go_quiet (fail)
    go_wp2_with fail
    (try go_ret)
    rw [HQ.out]
    exact ⟨by rw [HF.out]; rfl, below_drewN HBU.out nq⟩
  · have HF := Lib.hid (show leadsB n H G e = false by rw [HL.out, decide_eq_false (by omega)]; rfl)
    have hd : decide (0 < t) = true := decide_eq_true (by omega)
    have hd2 : decide (t ≤ (n : Int)) = false := decide_eq_false (by omega)
    go_quiet (fail)
    go_wp2_with fail
    (try go_ret)
    rw [HQ.out]
    exact ⟨by rw [HF.out]; rfl, below_drewN HBU.out nq⟩
  · obtain ⟨i, rfl⟩ : ∃ i : Nat, t = i + 1 := ⟨t.toNat - 1, by omega⟩
    have hin : i < n := by omega
    have HF := Lib.hid (show leadsB n H G e = (H i && (G i == y)) by rw [HL.out, decide_eq_true ⟨q1, q2⟩, show ((i : Int) + 1).toNat - 1 = i by omega]; rfl)
    have hd : decide (0 < (i : Int) + 1) = true := decide_eq_true (by omega)
    have hd2 : decide ((i : Int) + 1 ≤ (n : Int)) = true := decide_eq_true (by omega)
    have hwi : IntKind.i64.wrap (i : Int) = i := by rw [IntKind.wrap_i64]; omega
    have hii : (i : Int) < n := by omega
    obtain ⟨x0, x1⟩ := HSU.out i hin
    generalize H i = hb at x0 HF
    cases hb with
    | false =>
      have HF := Lib.hid (show leadsB n H G e = false by rw [HF.out]; rfl)
      go_quiet (fail)
      go_wp2_with fail
      (try go_ret)
      rw [HQ.out]
      exact ⟨by rw [HF.out]; rfl, below_drewN HBU.out nq⟩
    | true =>
      have HF := Lib.hid (show leadsB n H G e = (G i == y) by rw [HF.out]; rfl)
      go_quiet (fail)
      go_wp2_with fail
      (try go_ret)
      rw [HQ.out]
      exact ⟨by rw [HF.out]; rfl, below_drewN HBU.out nq⟩
end Go.Proofs.Ytkkdehniheajeaa.Gd
