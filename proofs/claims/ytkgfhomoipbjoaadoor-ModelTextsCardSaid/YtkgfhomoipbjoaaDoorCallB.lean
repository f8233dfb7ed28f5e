/- Layer 9's contracts: answers. -/
import Derived.Test.YtkgfhomoipbjoaaDoorCallA
import Derived.RegionTactic
namespace Go.Proofs.YtkgfhomoipbjoaaDoor
open Go.RowKit
set_option linter.unusedVariables false
set_option linter.unusedSimpArgs false

abbrev ansV (k key val n : Int) (v : Value) : Value := .agg #[.int .i64 k, .int .i64 key, .int .i64 val, .int .i64 n, v]
abbrev callV (op key val hi limit : Int) : Value := .agg #[.int .i64 op, .int .i64 key, .int .i64 val, .int .i64 hi, .int .i64 limit]
def sameAB (k key val n : Int) (l : PL) (k' key' val' n' : Int) (l' : PL) : Bool := k == k' && key == key' && val == val' && n == n' && sameB l l'

def toldB (k key val n : Int) (l : PL) : Bool := decide ((k = 1 ∨ (key = 0 ∧ val = 0)) ∧ (k = 2 ∨ n = 0) ∧ (k = 3 ∨ l = []))
theorem told_eq (k key val n : Int) (l : PL) : sameAB k key val n l k (if k = 1 then key else 0) (if k = 1 then val else 0) (if k = 2 then n else 0) (if k = 3 then l else []) = toldB k key val n l := by
  unfold sameAB toldB sameB
  rw [Bool.eq_iff_iff]
  simp only [Bool.and_eq_true, beq_iff_eq, decide_eq_true_eq]
  by_cases h1 : k = 1
  · subst h1; simp
  · by_cases h2 : k = 2
    · subst h2; simp
    · by_cases h3 : k = 3
      · subst h3; simp [and_assoc]
      · simp [h1, h2, h3, and_assoc]

/-! ### Which Kinds are an Op's -/
def kindB (op k : Int) : Bool := decide ((k = 0 ∧ (op = 0 ∨ op = 9 ∨ op = 11 ∨ op = 12 ∨ op = 13 ∨ op = 14)) ∨ ((k = 5 ∨ k = 6) ∧ op = 0) ∨ (k = 7 ∧ 3 ≤ op ∧ op ≤ 9) ∨ ((k = 1 ∨ k = 4) ∧ (op = 1 ∨ op = 2 ∨ op = 5 ∨ op = 6 ∨ op = 10 ∨ op = 7 ∨ op = 8)) ∨ (k = 2 ∧ op = 4) ∨ (k = 3 ∧ op = 3))
end Go.Proofs.YtkgfhomoipbjoaaDoor
