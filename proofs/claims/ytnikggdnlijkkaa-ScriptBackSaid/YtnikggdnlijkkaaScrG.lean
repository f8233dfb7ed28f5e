/- Layer 14: lives. -/
import Derived.Test.YtnikggdnlijkkaaScrF
namespace Go.Proofs.Ytnikggdnlijkkaa
open Go.RowKit WordM
set_option linter.unusedVariables false
set_option linter.unusedSimpArgs false
theorem uStr : Try.prog.underlying 9 = some .string := by kernel_rfl
theorem uU8 : Try.prog.underlying 5 = some (.int .u8) := by kernel_rfl
def exB : List UInt8 := [1, 7, 0, 1, 0, 0, 0, 0, 0, 0, 0]
theorem exB_get (j : Nat) (hj : j < exB.length) : (bcells [1, 7, 0, 1, 0, 0, 0, 0, 0, 0, 0])[j]? = some (.int .u8 (exB[j].toNat : Int)) := by
  have : j < 11 := hj
  rcases (by omega : j = 0 ∨ j = 1 ∨ j = 2 ∨ j = 3 ∨ j = 4 ∨ j = 5 ∨ j = 6 ∨ j = 7 ∨ j = 8 ∨ j = 9 ∨ j = 10) with rfl | rfl | rfl | rfl | rfl | rfl | rfl | rfl | rfl | rfl | rfl <;> rfl
set_option maxHeartbeats 2000000 in
theorem lives14_calls (w : World) : Calls Try.prog 5 #[] w fun e w' => e = .returned (.bool true) ∧ Below w.heap.size w w' := by
  refine Calls.veil fun Q HQ => ?_
  go_enter Try.func5, Try.ntmps5
  go_wp2_with fail
  refine (sput_ex w).mono ?_; rintro _ w1 ⟨B, v, rfl, ho, hb⟩
  have HB := Lib.hid hb
  obtain ⟨g, c, rfl, hcell⟩ : ∃ g c, v = .slice (some ⟨g, 0, none⟩) 11 c ∧ ∀ j (hj : j < exB.length), w1.cell? ((⟨g, 0, none⟩ : Addr).add j) = some (.int .u8 (exB[j].toNat : Int)) := by
    rcases ho.2 with ⟨rfl, h0⟩ | ⟨g, cap, cur, hv, hg, hh, hc, hm, hs, ht⟩
    · simp at h0
    · refine ⟨g, cap, hv, fun j hj => ?_⟩
      have g0 := exB_get j hj
      rw [← ht, List.getElem?_take_of_lt (by have : j < 11 := hj; simpa using this)] at g0
      rw [addE, cell_of_row _ g _ _ _ (0, 0) hh]; simpa using g0
  have hcv : (convert 22 9 (.slice (some ⟨g, 0, none⟩) 11 c)).run Try.prog w1 = .ok (.string ⟨exB.toArray⟩) w1 := run_convert_bytes_back w1 22 9 5 ⟨g, 0, none⟩ c exB uBL uU8 uStr hcell
  clear ho hb hcell
  go_wp2_with fail
  (try go_wp2_with fail)
  (try go_ret)
  rw [HQ.out]
  exact ⟨rfl, HB.out⟩
end Go.Proofs.Ytnikggdnlijkkaa
