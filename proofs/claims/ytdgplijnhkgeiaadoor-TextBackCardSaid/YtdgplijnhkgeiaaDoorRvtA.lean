/- Layer 35, histories: what lines are (no program); rows of events of one's own. -/
import Derived.Test.YtdgplijnhkgeiaaDoorRtxV
import Derived.Test.YtdgplijnhkgeiaaDoorRtxS
namespace Go.Proofs.YtdgplijnhkgeiaaDoor
open Go.RowKit
open Go.Lib (cut itoa)
set_option linter.unusedVariables false
set_option linter.unusedSimpArgs false
def begW : List UInt8 := [98, 101, 103, 105, 110]
def bakW : List UInt8 := [98, 97, 99, 107]
def zeroE : Ev := ⟨0, false, ⟨0, 0, 0, 0, 0⟩, ⟨0, 0, 0, 0, []⟩⟩
noncomputable def evN (f : List UInt8) (ws : List (List UInt8)) : Option Int → Except Int Ev
  | none => .error 4
  | some t => if f = bakW then (match answerR ws with | .ok a => .ok ⟨t, true, ⟨0, 0, 0, 0, 0⟩, a⟩ | .error y => .error y)
    else (match callR ws with | .ok c => .ok ⟨t, false, c, ⟨0, 0, 0, 0, []⟩⟩ | .error y => .error y)
/-- The event that words are, or why they are none. -/
noncomputable def eventW : List (List UInt8) → Except Int Ev
  | f :: s :: r :: rr => if f = begW ∨ f = bakW then evN f (r :: rr) (numOf s) else .error 4
  | _ => .error 4
theorem eventW_3 (f s r : List UInt8) (rr : List (List UInt8)) : eventW (f :: s :: r :: rr) = if f = begW ∨ f = bakW then evN f (r :: rr) (numOf s) else .error 4 := rfl
theorem eventW_short : ∀ {ws : List (List UInt8)}, ws.length < 3 → eventW ws = .error 4
  | [], _ => rfl
  | [_], _ => rfl
  | [_, _], _ => rfl
  | _ :: _ :: _ :: _, h => by simp at h; omega
theorem eventW_word {f s r : List UInt8} {rr : List (List UInt8)} (h1 : f ≠ begW) (h2 : f ≠ bakW) : eventW (f :: s :: r :: rr) = .error 4 := by
  rw [eventW_3, if_neg (by rintro (h | h); exact h1 h; exact h2 h)]
theorem eventW_num {f s r : List UInt8} {rr : List (List UInt8)} (h : numOf s = none) : eventW (f :: s :: r :: rr) = .error 4 := by
  rw [eventW_3, h]; split <;> rfl
theorem eventW_back {s r : List UInt8} {rr : List (List UInt8)} {t : Int} (h : numOf s = some t) : eventW (bakW :: s :: r :: rr) = (match answerR (r :: rr) with | .ok a => .ok ⟨t, true, ⟨0, 0, 0, 0, 0⟩, a⟩ | .error y => .error y) := by
  rw [eventW_3, if_pos (.inr rfl), h]; unfold evN; simp only []; rw [if_pos trivial]
theorem eventW_beg {s r : List UInt8} {rr : List (List UInt8)} {t : Int} (h : numOf s = some t) : eventW (begW :: s :: r :: rr) = (match callR (r :: rr) with | .ok c => .ok ⟨t, false, c, ⟨0, 0, 0, 0, []⟩⟩ | .error y => .error y) := by
  rw [eventW_3, if_pos (.inl rfl), h]; unfold evN; simp only []; rw [if_neg (by decide)]
/-- The history that lines are, or why they are none. -/
noncomputable def histL : List (List UInt8) → Except Int (List Ev)
  | [] => .ok []
  | [x] => if x = [] then .ok [] else (match eventW (splitL 32 x) with | .error y => .error y | .ok _ => .error 5)
  | x :: z :: r => match eventW (splitL 32 x) with
    | .error y => .error y
    | .ok e => (match histL (z :: r) with | .ok l => .ok (e :: l) | .error y => .error y)
def preR (acc : List Ev) : Except Int (List Ev) → Except Int (List Ev)
  | .ok l => .ok (acc ++ l)
  | .error y => .error y
theorem preR_nil (r : Except Int (List Ev)) : preR [] r = r := by cases r <;> rfl
theorem hist_last0 : histL [[]] = .ok [] := by unfold histL; rw [if_pos rfl]
theorem hist_last_no {x : List UInt8} {y : Int} (h : x ≠ []) (he : eventW (splitL 32 x) = .error y) : histL [x] = .error y := by unfold histL; rw [if_neg h, he]
theorem hist_last_ok {x : List UInt8} {e : Ev} (h : x ≠ []) (he : eventW (splitL 32 x) = .ok e) : histL [x] = .error 5 := by unfold histL; rw [if_neg h, he]
theorem hist_no {x : List UInt8} {r : List (List UInt8)} {y : Int} (hr : r ≠ []) (he : eventW (splitL 32 x) = .error y) : histL (x :: r) = .error y := by
  cases r with
  | nil => exact absurd rfl hr
  | cons z r => unfold histL; rw [he]
theorem hist_ok {x : List UInt8} {r : List (List UInt8)} {e : Ev} (acc : List Ev) (hr : r ≠ []) (he : eventW (splitL 32 x) = .ok e) : preR acc (histL (x :: r)) = preR (acc ++ [e]) (histL r) := by
  cases r with
  | nil => exact absurd rfl hr
  | cons z r =>
    conv => lhs; unfold histL
    rw [he]
    cases histL (z :: r) with
    | ok l => simp [preR]
    | error y => rfl
def hisP : Except Int (List Ev) → List Ev × Int
  | .ok l => (l, 0)
  | .error y => ([], y)
/-- A row of cells is stored, one by one. -/
def putRow (C : Nat) : Nat → List Value → World → World
  | _, [], W => W
  | i, v :: r, W => putRow C (i + 1) r (W.setCell ⟨C, i, none⟩ v)
theorem putRow_other (C : Nat) : ∀ (l : List Value) (i : Nat) (W : World) {k : Nat}, k ≠ C → (putRow C i l W).heap[k]? = W.heap[k]?
  | [], _, _, _, _ => rfl
  | v :: r, i, W, k, h => (putRow_other C r (i + 1) _ h).trans (Below.heap_setCell _ ⟨C, i, none⟩ _ _ h)
theorem putRow_below (C : Nat) {B : Nat} (hB : B ≤ C) : ∀ (l : List Value) (i : Nat) (W : World), Below B W (putRow C i l W)
  | [], _, W => Below.refl _ _
  | v :: r, i, W => ((Below.refl B W).setCell (p := ⟨C, i, none⟩) hB _).trans (putRow_below C hB r (i + 1) _)
theorem putRow_at (C : Nat) {T : TypeId} : ∀ (l : List Value) (i : Nat) (W : World) (A : List Value), W.heap[C]? = some (.cells A.toArray T (0, 0)) → i + l.length ≤ A.length → (putRow C i l W).heap[C]? = some (.cells (A.take i ++ l ++ A.drop (i + l.length)).toArray T (0, 0))
  | [], i, W, A, h, _ => by simp [putRow, h]
  | v :: r, i, W, A, h, hl => by
    have hl : i + (r.length + 1) ≤ A.length := hl
    have h1 : (W.setCell ⟨C, i, none⟩ v).heap[C]? = some (.cells (A.set i v).toArray T (0, 0)) := by
      have := heap_setCell_same W C i _ _ v h
      simpa using this
    have h2 := putRow_at C r (i + 1) _ (A.set i v) h1 (by rw [List.length_set]; omega)
    have e : (A.set i v).take (i + 1) ++ r ++ (A.set i v).drop (i + 1 + r.length) = A.take i ++ v :: r ++ A.drop (i + (v :: r).length) := by
      rw [List.take_add_one, List.getElem?_set_self (by omega), List.take_set_of_le (Nat.le_refl _), List.drop_set_of_lt (by omega)]
      simp only [Option.toList, List.length_cons, List.append_assoc, List.cons_append, List.nil_append]
      rw [show i + 1 + r.length = i + (r.length + 1) by omega]
    rw [e] at h2
    exact h2
theorem putRow_full (C : Nat) {T : TypeId} (l : List Value) (W : World) (A : List Value) (h : W.heap[C]? = some (.cells A.toArray T (0, 0))) (hl : l.length = A.length) : (putRow C 0 l W).heap[C]? = some (.cells l.toArray T (0, 0)) := by
  have := putRow_at C l 0 W A h (by omega)
  rw [this]
  simp [List.drop_eq_nil_of_le (Nat.le_of_eq hl.symm)]
end Go.Proofs.YtdgplijnhkgeiaaDoor
