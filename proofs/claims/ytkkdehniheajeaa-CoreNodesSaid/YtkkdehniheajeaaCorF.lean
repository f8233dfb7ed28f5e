/- Layer 16: the reference's word, of any place. -/
import Derived.Test.YtkkdehniheajeaaCorE
import Derived.Test.YtkkdehniheajeaaPlanG
import Derived.Test.YtkkdehniheajeaaGrdI
import Derived.Test.YtkkdehniheajeaaGrdJ
namespace Go.Proofs.Ytkkdehniheajeaa
open Go.RowKit WordM EdgeM
set_option linter.unusedVariables false
set_option linter.unusedSimpArgs false
theorem nodeF_0 (s q r : Nat) (hq : q < 5) (n2 : r ≠ 2) (n4 : r ≠ 4) (n5 : r ≠ 5) : nodeF 3 s q r = 0 := by
  unfold nodeF
  by_cases r0 : r = 0
  · rw [if_pos r0, if_neg (by omega)]
  · rw [if_neg r0, if_neg n2, if_neg n4, if_neg n5]
theorem rword (t s : Nat) (K : Int) (w : World) (a : Nat) (t1 : 1 ≤ t) (t2 : t ≤ 6) (s2 : s ≤ 250) (ha : a < 3 + 8 * t + 7 * s) :
    Calls Try.prog 56 #[.agg #[.int .i64 t, .int .i64 s, .int .u64 K], .agg #[.int .i64 (wk t a), .int .i64 (wi t a), .int .i64 (wj t a)]] w fun e w' => e = .returned (.int .u64 (partF t 3 s a)) ∧ Below w.heap.size w w' := by
  by_cases h3 : a < 3
  · have e1 : wk t a = 0 := by unfold wk; rw [if_pos (by omega)]
    have e2 : wi t a = a := by unfold wi; rw [if_pos (by omega)]
    have e3 : wj t a = 0 := by unfold wj; rw [if_pos (by omega)]
    rw [e1, e2, e3]
    rcases (by omega : a = 0 ∨ a = 1 ∨ a = 2) with rfl | rfl | rfl
    · exact rword_00 t s K w
    · exact rword_01 t s K w
    · exact rword_02 t s K w
  · by_cases h8 : a < 3 + 8 * t
    · have e0 : partF t 3 s a = 0 := by unfold partF; rw [if_neg (by omega), if_neg (by omega), if_neg (by omega), if_pos h8]
      rw [e0]
      have hk : ¬ wk t a = 0 ∧ ¬ wk t a = 5 := by
        unfold wk
        rw [if_neg (by omega), if_neg (by omega)]
        split
        · omega
        · split
          · omega
          · split <;> omega
      exact rword_z t s K w hk.1 hk.2
    · obtain ⟨q, r, hr, rfl⟩ := at_node t a (by omega)
      obtain ⟨e1, e2, e3⟩ := wn_at t q r _ rfl hr
      rw [e1, e2, e3, partF_node _ _ _ _ _ hr]
      have hq : q < s := by omega
      rcases (by omega : q = 0 ∨ q = 1 ∨ q = 2 ∨ q = 3 ∨ q = 4 ∨ 5 ≤ q) with rfl | rfl | rfl | rfl | rfl | h5
      · rcases (by omega : r = 2 ∨ r = 4 ∨ r = 5 ∨ (r ≠ 2 ∧ r ≠ 4 ∧ r ≠ 5)) with rfl | rfl | rfl | ⟨n2, n4, n5⟩
        · exact rword_21 t s K w
        · exact rword_41 t s K w
        · exact rword_51 t s K w
        · have e : nodeF 3 s 0 r = 0 := nodeF_0 s 0 r (by omega) n2 n4 n5
          rw [e]; exact rword_lo t s K w (by omega) (by omega) (by omega) (by omega)
      · rcases (by omega : r = 2 ∨ r = 4 ∨ r = 5 ∨ (r ≠ 2 ∧ r ≠ 4 ∧ r ≠ 5)) with rfl | rfl | rfl | ⟨n2, n4, n5⟩
        · exact rword_22 t s K w
        · exact rword_42 t s K w
        · exact rword_52 t s K w
        · have e : nodeF 3 s 1 r = 0 := nodeF_0 s 1 r (by omega) n2 n4 n5
          rw [e]; exact rword_lo t s K w (by omega) (by omega) (by omega) (by omega)
      · rcases (by omega : r = 2 ∨ r = 4 ∨ r = 5 ∨ (r ≠ 2 ∧ r ≠ 4 ∧ r ≠ 5)) with rfl | rfl | rfl | ⟨n2, n4, n5⟩
        · exact rword_23 t s K w
        · exact rword_43 t s K w
        · exact rword_53 t s K w
        · have e : nodeF 3 s 2 r = 0 := nodeF_0 s 2 r (by omega) n2 n4 n5
          rw [e]; exact rword_lo t s K w (by omega) (by omega) (by omega) (by omega)
      · rcases (by omega : r = 2 ∨ r = 4 ∨ r = 5 ∨ (r ≠ 2 ∧ r ≠ 4 ∧ r ≠ 5)) with rfl | rfl | rfl | ⟨n2, n4, n5⟩
        · exact rword_24 t s K w
        · exact rword_44 t s K w
        · exact rword_54 t s K w
        · have e : nodeF 3 s 3 r = 0 := nodeF_0 s 3 r (by omega) n2 n4 n5
          rw [e]; exact rword_lo t s K w (by omega) (by omega) (by omega) (by omega)
      · rcases (by omega : r = 2 ∨ r = 4 ∨ r = 5 ∨ (r ≠ 2 ∧ r ≠ 4 ∧ r ≠ 5)) with rfl | rfl | rfl | ⟨n2, n4, n5⟩
        · exact rword_25 t s K w
        · exact rword_45 t s K w
        · exact rword_55 t s K w
        · have e : nodeF 3 s 4 r = 0 := nodeF_0 s 4 r (by omega) n2 n4 n5
          rw [e]; exact rword_lo t s K w (by omega) (by omega) (by omega) (by omega)
      · by_cases r0 : r = 0
        · subst r0
          by_cases hs : q + 1 < s
          · have e : nodeF 3 s q 0 = (q : Int) + 1 + 1 := by unfold nodeF; rw [if_pos rfl, if_pos ⟨h5, hs⟩]; omega
            rw [e]; exact rword_hi0 t s K w (by omega) (by omega) (by omega)
          · have e : nodeF 3 s q 0 = 0 := by unfold nodeF; rw [if_pos rfl, if_neg (by omega)]
            rw [e]; exact rword_hi1 t s K w (by omega) (by omega) (by omega)
        · have e : nodeF 3 s q r = 0 := by
            unfold nodeF
            rw [if_neg r0]
            split
            · rw [if_neg (by omega), if_neg (by omega), if_neg (by omega)]
            · split
              · rw [if_neg (by omega), if_neg (by omega)]
              · split
                · rw [if_neg (by omega), if_neg (by omega)]
                · rfl
          rw [e]; exact rword_hi2 t s K w (by omega) (by omega) (by omega)
end Go.Proofs.Ytkkdehniheajeaa
