/- Layer 35, reading: an answer, read. -/
import Derived.Test.YtdgplijnhkgeiaaDoorRtxJ
namespace Go.Proofs.YtdgplijnhkgeiaaDoor
open Go.RowKit
open Go.Lib (cut itoa)
set_option linter.unusedVariables false
set_option linter.unusedSimpArgs false
/-- The pairs that texts are, or none. -/
noncomputable def pairsOf : List (List UInt8) → Option PL
  | [] => some []
  | x :: r => match pairOf x, pairsOf r with | some n, some l => some (n :: l) | _, _ => none
theorem pairsOf_len : ∀ {l ns}, pairsOf l = some ns → ns.length = l.length
  | [], ns, h => by simp [pairsOf] at h; subst h; rfl
  | x :: r, ns, h => by
    unfold pairsOf at h
    split at h
    · rename_i n l h1 h2
      cases h
      simp [pairsOf_len h2]
    · cases h
theorem pairsOf_snoc : ∀ {l ns} (x : List UInt8) (n : Int × Int), pairsOf l = some ns → pairOf x = some n → pairsOf (l ++ [x]) = some (ns ++ [n])
  | [], ns, x, n, h, hx => by simp [pairsOf] at h; subst h; simp [pairsOf, hx]
  | y :: r, ns, x, n, h, hx => by
    unfold pairsOf at h
    split at h
    · rename_i m l h1 h2
      cases h
      simp [pairsOf, h1, pairsOf_snoc x n h2 hx]
    · cases h
theorem pairsOf_bad : ∀ {l : List (List UInt8)} {x}, x ∈ l → pairOf x = none → pairsOf l = none
  | y :: r, x, h, hx => by
    unfold pairsOf
    rcases List.mem_cons.1 h with rfl | h
    · rw [hx]
    · rw [pairsOf_bad h hx]; cases pairOf y <;> rfl
/-- What stands behind a Kind's word. -/
noncomputable def tailR (k : Nat) (tl : List (List UInt8)) : Except Int An :=
  if k = 1 then (match tl with
    | [x, y] => (match numOf x, numOf y with | some a, some b => .ok ⟨1, a, b, 0, []⟩ | _, _ => .error 4)
    | _ => .error 4)
  else if k = 2 then (match tl with
    | [x] => (match numOf x with | some a => .ok ⟨2, 0, 0, a, []⟩ | none => .error 4)
    | _ => .error 4)
  else if k = 3 then (match pairsOf tl with | some ps => .ok ⟨3, 0, 0, 0, ps⟩ | none => .error 4)
  else (match tl with | [] => .ok ⟨k, 0, 0, 0, []⟩ | _ => .error 4)
/-- The answer that words are, or why they are none. -/
noncomputable def answerR (ws : List (List UInt8)) : Except Int An :=
  match kdI ⟨(ws.headD []).toArray⟩ with
  | none => .error 3
  | some k => tailR k ws.tail
theorem answerR_none {hd : List UInt8} {tl : List (List UInt8)} (h : kdI ⟨hd.toArray⟩ = none) : answerR (hd :: tl) = .error 3 := by unfold answerR; rw [show ((hd :: tl).headD []) = hd from rfl, h]
theorem answerR_some {hd : List UInt8} {tl : List (List UInt8)} {k : Nat} (h : kdI ⟨hd.toArray⟩ = some k) : answerR (hd :: tl) = tailR k tl := by unfold answerR; rw [show ((hd :: tl).headD []) = hd from rfl, h]; rfl
theorem tailR_0 (k : Nat) (h1 : k ≠ 1) (h2 : k ≠ 2) (h3 : k ≠ 3) : tailR k [] = .ok ⟨k, 0, 0, 0, []⟩ := by unfold tailR; rw [if_neg h1, if_neg h2, if_neg h3]
theorem tailR_0n (k : Nat) (h1 : k ≠ 1) (h2 : k ≠ 2) (h3 : k ≠ 3) {tl : List (List UInt8)} (h : tl.length ≠ 0) : tailR k tl = .error 4 := by
  unfold tailR; rw [if_neg h1, if_neg h2, if_neg h3]
  cases tl with | nil => simp at h | cons => rfl
theorem tailR_1n {tl : List (List UInt8)} (h : tl.length ≠ 2) : tailR 1 tl = .error 4 := by
  unfold tailR; rw [if_pos rfl]
  match tl, h with
  | [], _ => rfl
  | [x], _ => rfl
  | [x, y], h => simp at h
  | x :: y :: z :: r, _ => rfl
theorem tailR_2n {tl : List (List UInt8)} (h : tl.length ≠ 1) : tailR 2 tl = .error 4 := by
  unfold tailR; rw [if_neg (by decide), if_pos rfl]
  match tl, h with
  | [], _ => rfl
  | [x], h => simp at h
  | x :: y :: r, _ => rfl
theorem tailR_1y {x y : List UInt8} {a b : Int} (h1 : numOf x = some a) (h2 : numOf y = some b) : tailR 1 [x, y] = .ok ⟨1, a, b, 0, []⟩ := by unfold tailR; rw [if_pos rfl]; simp only [h1, h2]
theorem tailR_1x {x y : List UInt8} (h1 : numOf x = none) : tailR 1 [x, y] = .error 4 := by unfold tailR; rw [if_pos rfl]; simp only [h1]
theorem tailR_1z {x y : List UInt8} (h2 : numOf y = none) : tailR 1 [x, y] = .error 4 := by unfold tailR; rw [if_pos rfl]; simp only [h2]; cases numOf x <;> rfl
theorem tailR_2y {x : List UInt8} {a : Int} (h1 : numOf x = some a) : tailR 2 [x] = .ok ⟨2, 0, 0, a, []⟩ := by unfold tailR; rw [if_neg (by decide), if_pos rfl]; simp only [h1]
theorem tailR_2x {x : List UInt8} (h1 : numOf x = none) : tailR 2 [x] = .error 4 := by unfold tailR; rw [if_neg (by decide), if_pos rfl]; simp only [h1]
theorem tailR_3y {tl : List (List UInt8)} {ps : PL} (h : pairsOf tl = some ps) : tailR 3 tl = .ok ⟨3, 0, 0, 0, ps⟩ := by unfold tailR; rw [if_neg (by decide), if_neg (by decide), if_pos rfl, h]
theorem tailR_3x {tl : List (List UInt8)} (h : pairsOf tl = none) : tailR 3 tl = .error 4 := by unfold tailR; rw [if_neg (by decide), if_neg (by decide), if_pos rfl, h]
end Go.Proofs.YtdgplijnhkgeiaaDoor
