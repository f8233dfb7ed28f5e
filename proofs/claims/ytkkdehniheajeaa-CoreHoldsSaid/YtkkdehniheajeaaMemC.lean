/- Layer 6: an access, of both. -/
import Derived.Test.YtkkdehniheajeaaMemB
namespace Go.Proofs.Ytkkdehniheajeaa.Mm
open Go.RowKit
set_option linter.unusedVariables false
set_option linter.unusedSimpArgs false

def okD (n : Nat) (k a c : Int) : Bool := if 0 ≤ k ∧ k ≤ 4 then okA n a else okA n c && okA n a
def toldD (n : Nat) (f : Nat → Int) (k a : Int) : Int := if k = 0 ∨ k = 3 ∨ k = 4 then ldI n f a else 0
def doneD (n : Nat) (f : Nat → Int) (k a c is old : Int) : Bool := if 0 ≤ k ∧ k ≤ 4 then (if k = 2 then okA n a && f a.toNat == old else false) else okA n c && okA n a && f c.toNat == is && f a.toNat == old
def nextD (n : Nat) (f : Nat → Int) (k a c is old x : Int) : Nat → Int :=
  if okD n k a c = true then
    (if k = 0 then f else if k = 1 then upd f a.toNat x else if k = 3 then upd f a.toNat (orI (f a.toNat) x) else if k = 4 then upd f a.toNat (addI (f a.toNat) x) else if doneD n f k a c is old = true then upd f a.toNat x else f)
  else f

end Go.Proofs.Ytkkdehniheajeaa.Mm
