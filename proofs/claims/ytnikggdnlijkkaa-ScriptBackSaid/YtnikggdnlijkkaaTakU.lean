/- Layer 14: what is written is read, and what is read is written: bytes as lists. -/
import Derived.Test.YtnikggdnlijkkaaTakH
import Derived.Test.YtnikggdnlijkkaaScrJ
namespace Go.Proofs.Ytnikggdnlijkkaa
open Go.RowKit WordM
set_option linter.unusedVariables false
set_option linter.unusedSimpArgs false
theorem byte_at' (X k : Nat) (hk : k < 8) : fieldI (X : Int) ((k : Int) * 8) 8 = ((X / 256 ^ k % 256 : Nat) : Int) := by
  rw [field_eq (may_mk (by omega)) (by omega)]
  have e : ((k : Int) * 8).toNat = 8 * k := by omega
  rw [e]
  have e2 : (2 : Int) ^ (8 * k) = ((256 ^ k : Nat) : Int) := by
    rw [show (2 : Int) = ((2 : Nat) : Int) from rfl, ← Int.natCast_pow, Nat.pow_mul]
  rw [e2]
  rfl
/-- A byte of a number. -/
theorem num_dig (m : Nat) : ∀ (j : Nat) (D : Nat → Int), BY D → j < m → (numB D m).toNat / 256 ^ j % 256 = (D j).toNat := by
  induction m with
  | zero => intro j D _ h; omega
  | succ m ih =>
    intro j D hD hj
    obtain ⟨a, b⟩ := num_bd (hD.drop 1) m
    obtain ⟨c, d⟩ := hD 0
    have e : (numB D (m + 1)).toNat = (D 0).toNat + 256 * (numB (dropD D 1) m).toNat := by rw [num_left]; omega
    cases j with
    | zero => rw [e]; simp; omega
    | succ j =>
      have h1 := ih j (dropD D 1) (hD.drop 1) (by omega)
      rw [e, Nat.pow_succ, Nat.mul_comm (256 ^ j) 256, ← Nat.div_div_eq_div_mul]
      have h2 : ((D 0).toNat + 256 * (numB (dropD D 1) m).toNat) / 256 = (numB (dropD D 1) m).toNat := by omega
      rw [h2, h1]
      unfold dropD
      rw [Nat.add_comm]
def listD (D : Nat → Int) (m : Nat) : List Int := (List.range m).map D
theorem listD_len (D : Nat → Int) (m : Nat) : (listD D m).length = m := by simp [listD]
theorem listD_add (D : Nat → Int) (a b : Nat) : listD D (a + b) = listD D a ++ listD (dropD D a) b := by
  unfold listD dropD
  rw [List.range_add, List.map_append, List.map_map]; rfl
theorem byL_num {D : Nat → Int} (h : BY D) {m : Nat} (hm : m ≤ 8) : byL (numB D m) m = listD D m := by
  unfold byL listD
  refine List.map_congr_left fun j hj => ?_
  have hj : j < m := by simpa using hj
  obtain ⟨a, _⟩ := num_bd h m
  obtain ⟨c, _⟩ := h j
  have e : numB D m = ((numB D m).toNat : Int) := by omega
  rw [e, byte_at' _ j (by omega), num_dig m j D h hj]
  omega
theorem uw_wrap (y : Int) (h0 : 0 ≤ y) (h1 : y < 18446744073709551616) : uw (wrap64 y) = y := by
  unfold uw wrap64; rw [IntKind.wrap_u64]; omega
theorem wrap_uw (y : Int) (h0 : -9223372036854775808 ≤ y) (h1 : y < 9223372036854775808) : wrap64 (uw y) = y := by
  unfold uw wrap64; rw [IntKind.wrap_u64]; omega
theorem bit7' : ∀ t : Fin 64, fieldI (withI ((t.val : Nat) : Int) 7 1 0) 0 8 = ((t.val : Nat) : Int) ∧ fieldI (withI ((t.val : Nat) : Int) 7 1 1) 0 8 = ((t.val : Nat) : Int) + 128 := by decide
theorem by_th' (t : Int) (h0 : 0 ≤ t) (h1 : t ≤ 63) : byL (withI t 7 1 0) 1 = [t] ∧ byL (withI t 7 1 1) 1 = [t + 128] := by
  obtain ⟨X, rfl⟩ := Int.eq_ofNat_of_zero_le h0
  have h := bit7' ⟨X, by omega⟩
  simp only at h
  exact ⟨by rw [byL_succ]; simp [byL, h.1], by rw [byL_succ]; simp [byL, h.2]⟩
/-- An entry that was read is written as its bytes. -/
theorem ent_back {D : Nat → Int} (h : BY D) (h6 : eNo (D 0) = false) : entB (entD D) = listD D (lenD D) ∧ rightE (entD D) = true := by
  obtain ⟨a, b⟩ := h 0
  obtain ⟨b1, b2, b3⟩ := bits_of (D 0) a b
  rw [b1] at h6
  have h6 := of_decide_eq_false h6
  unfold entD lenD
  cases h7 : eBg (D 0)
  · rw [b3] at h7
    have h7 := of_decide_eq_false h7
    obtain ⟨e1, _⟩ := by_th' (eTh (D 0)) (by omega) (by omega)
    refine ⟨?_, ?_⟩
    · simp only [entB, Bool.false_eq_true, if_false, List.append_nil]
      rw [e1, b2]
      simp [listD]
      omega
    · simp only [rightE, Bool.false_eq_true, if_false, Bool.and_eq_true]
      exact ⟨decide_eq_true ⟨by omega, by omega⟩, by simp [bareE]⟩
  · rw [b3] at h7
    have h7 := of_decide_eq_true h7
    obtain ⟨_, e1⟩ := by_th' (eTh (D 0)) (by omega) (by omega)
    have hc1 := num_sm (h.drop 1) (m := 1) (by decide)
    have hc0 := num_bd (h.drop 1) 1
    have hc5 := num_sm ((h.drop 1).drop 25) (m := 2) (by decide)
    have hc2 := num_max ((h.drop 1).drop 1) (m := 8) (by decide)
    have hc3 := num_max ((h.drop 1).drop 9) (m := 8) (by decide)
    have hc4 := num_max ((h.drop 1).drop 17) (m := 8) (by decide)
    refine ⟨?_, ?_⟩
    · simp only [entB, if_true]
      have e28 : listD D 28 = listD D 1 ++ listD (dropD D 1) 27 := listD_add D 1 27
      rw [e1, e28, b2]
      have e27 : callB (cOp (dropD D 1)) (cKey (dropD D 1)) (cVal (dropD D 1)) (cHi (dropD D 1)) (cLim (dropD D 1)) = listD (dropD D 1) 27 := by
        unfold callB cOp cKey cVal cHi cLim
        rw [uw_wrap _ hc2.1 hc2.2, uw_wrap _ hc3.1 hc3.2, uw_wrap _ hc4.1 hc4.2, byL_num (h.drop 1) (by decide), byL_num ((h.drop 1).drop 1) (by decide), byL_num ((h.drop 1).drop 9) (by decide), byL_num ((h.drop 1).drop 17) (by decide), byL_num ((h.drop 1).drop 25) (by decide)]
        have x1 := listD_add (dropD D 1) 1 26
        have x2 := listD_add (dropD (dropD D 1) 1) 8 18
        have x3 := listD_add (dropD (dropD D 1) 9) 8 10
        have x4 := listD_add (dropD (dropD D 1) 17) 8 2
        rw [dropD_drop] at x2 x3 x4
        rw [dropD_drop] at x2 x3 x4
        simp only [dropD_drop] at x1 x2 x3 x4 ⊢
        rw [x1, x2, x3, x4]
      rw [e27]
      have e11 : listD D 1 = [D 0] := rfl
      rw [e11]
      have : D 0 % 64 + 128 = D 0 := by omega
      rw [this]
    · simp only [rightE, if_true, Bool.and_eq_true]
      refine ⟨decide_eq_true ⟨by omega, by omega⟩, decide_eq_true ⟨?_, ?_, ?_, ?_⟩⟩
      · exact hc1.1
      · have := hc0.2; unfold cOp; simp at this; omega
      · exact hc5.1
      · have := hc5.2; unfold cLim; omega
theorem head_back {D : Nat → Int} (h : BY D) : headL (fT D) (fS D) (fK D) = listD D 11 := by
  unfold headL fT fS fK
  rw [byL_num h (by decide), byL_num (h.drop 1) (by decide), byL_num (h.drop 3) (by decide)]
  have x1 := listD_add D 1 10
  have x2 := listD_add (dropD D 1) 2 8
  rw [dropD_drop] at x2
  rw [x1, x2, List.append_assoc]
/-- WHAT IS READ IS WRITTEN AS JUST THESE BYTES. -/
theorem take_put {D : Nat → Int} (h : BY D) {n : Nat} {T S Kc : Int} {cnt : Nat} (ht : TakeR D n T S Kc cnt 0) : mayS T S Kc cnt (entAt D) = true ∧ headL T S Kc ++ encL (entAt D) cnt = listD D n ∧ 11 ≤ n := by
  rcases ht with ⟨_, _, _, _, _, he⟩ | ⟨_, _, _, _, _, _, he⟩ | ⟨h11, hm, K, hg, hs, ⟨_, rfl, rfl, rfl, rfl⟩ | ⟨he, _⟩⟩
  · cases he
  · cases he
  · have hle := goes_le h11 hg
    have hn : posD D cnt = n := by
      rcases hs with ⟨a, _⟩ | ⟨_, _, a⟩ | ⟨_, _, _, a⟩ | ⟨_, _, _, _, _, a⟩
      · have := hle cnt (Nat.le_refl _); omega
      · cases a
      · cases a
      · cases a
    have key : ∀ k, k ≤ cnt → headL (fT D) (fS D) (fK D) ++ encL (entAt D) k = listD D (posD D k) := by
      intro k
      induction k with
      | zero => intro _; rw [encL, List.append_nil, head_back h]; rfl
      | succ k ih =>
        intro hk
        have hgk := hg k (by omega)
        have e := (ent_back (h.drop (posD D k)) hgk.2.2.1).1
        rw [encL, ← List.append_assoc, ih (by omega), posD, listD_add]
        rw [show entAt D k = entD (dropD D (posD D k)) from rfl, e]
    refine ⟨?_, by rw [key cnt (Nat.le_refl _), hn], h11⟩
    unfold mayS
    rw [hm, Bool.true_and, Bool.and_eq_true]
    refine ⟨decide_eq_true ?_, ?_⟩
    · rcases Nat.eq_zero_or_pos cnt with h0 | h0
      · omega
      · have := (hg (cnt - 1) (by omega)).2.1; omega
    · unfold allR
      rw [List.all_eq_true]
      intro i hi
      exact (ent_back (h.drop (posD D i)) (hg i (by simpa using hi)).2.2.1).2
  · exact absurd rfl he
end Go.Proofs.Ytnikggdnlijkkaa
