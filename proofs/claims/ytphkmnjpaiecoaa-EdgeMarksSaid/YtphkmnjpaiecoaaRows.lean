/-
  No cell of these rows narrows 'for every input' (looked for: loops, veiled, ifaces, maps, wideKeys, modest, calm, conditions, laid).
  DERIVED. THE GIVEN ROWS OF THIS SEAT. 4 by the template 'for every input the law returns true; each argument reads behind the call as it read before'; 0 by the template 'total and deterministic' (their statements: YtphkmnjpaiecoaaTotals.lean).
  GIVEN WITH THE SEED: the statements are not yours to turn. If you find one false, say at which input.
  Laid BY PROGRAM, IN A SANDBOX (cutbox-rows.mjs): the forced cells as the released guide's own fill.sh prints them over the translation 9becc1bd2e6b4180… (all of the seat's roots in one cut). By AI agents, Wed Nov 11 2026. No macro, syntax, notation, axiom, sorry.
-/
import Derived.Test.YtphkmnjpaiecoaaChecked
import GoSem.Claim
import GoSem.ClaimJoined
import GoSem.ClaimMapViews
import Derived.JoinedTies
import Derived.KernelRfl
namespace Go.Proofs.Ytphkmnjpaiecoaa
/- THE CELL 'sum', in the pinned program and in every row, IS THE sha256 OF THE DUMP (.gsa) THAT YtphkmnjpaiecoaaProg.lean LOADS. Nothing in Lean hashes anything: it is a label: what it is worth is what the hold of that sum in a sandbox is worth. -/
noncomputable def Try.pinned : Pinned := { name := "ytphkmnjpaiecoaa", sum := "9becc1bd2e6b418068e5037b956ffc23dcdd271e9cf548f086284db8acd1bc53", checked := Try.checked }
namespace Rows
def none {H : Type} : Left H := { results := [], args := [] }

/-- 'deadwoodlaw03.EdgeParts': WHATEVER THE INPUT: true; the input reads as it did. -/
def edgePartsSpec : ChangeSpec := { name := "edgeParts", fn := fun _ => fun
  | [d] => { results := [.lit (.bool true)], args := [d] }
  | _ => none }
def edgePartsRow : OpenClaim := { program := "ytphkmnjpaiecoaa", sum := "9becc1bd2e6b418068e5037b956ffc23dcdd271e9cf548f086284db8acd1bc53", func := "deadwood/deadwoodlaw03.EdgeParts", spec := "edgeParts", apart := false }
def EdgePartsSaid : Prop := edgePartsRow.holds Try.pinned (OpenSpec.ofChange edgePartsSpec)

/-- ITS FALSE NEIGHBOUR: 'it returns false'. Refute it at one input. -/
def edgePartsWrong : ChangeSpec := { name := "edgeParts", fn := fun _ => fun
  | [d] => { results := [.lit (.bool false)], args := [d] }
  | _ => none }
def EdgePartsWrongFalsely : Prop := edgePartsRow.holds Try.pinned (OpenSpec.ofChange edgePartsWrong)

/-- 'deadwoodlaw03.EdgeMakes': WHATEVER THE INPUT: true; the input reads as it did. -/
def edgeMakesSpec : ChangeSpec := { name := "edgeMakes", fn := fun _ => fun
  | [d1, d2] => { results := [.lit (.bool true)], args := [d1, d2] }
  | _ => none }
def edgeMakesRow : OpenClaim := { program := "ytphkmnjpaiecoaa", sum := "9becc1bd2e6b418068e5037b956ffc23dcdd271e9cf548f086284db8acd1bc53", func := "deadwood/deadwoodlaw03.EdgeMakes", spec := "edgeMakes", apart := false }
def EdgeMakesSaid : Prop := edgeMakesRow.holds Try.pinned (OpenSpec.ofChange edgeMakesSpec)

/-- ITS FALSE NEIGHBOUR: 'it returns false'. Refute it at one input. -/
def edgeMakesWrong : ChangeSpec := { name := "edgeMakes", fn := fun _ => fun
  | [d1, d2] => { results := [.lit (.bool false)], args := [d1, d2] }
  | _ => none }
def EdgeMakesWrongFalsely : Prop := edgeMakesRow.holds Try.pinned (OpenSpec.ofChange edgeMakesWrong)

/-- 'deadwoodlaw03.EdgeMarks': WHATEVER THE INPUT: true; the input reads as it did. -/
def edgeMarksSpec : ChangeSpec := { name := "edgeMarks", fn := fun _ => fun
  | [d1, d2] => { results := [.lit (.bool true)], args := [d1, d2] }
  | _ => none }
def edgeMarksRow : OpenClaim := { program := "ytphkmnjpaiecoaa", sum := "9becc1bd2e6b418068e5037b956ffc23dcdd271e9cf548f086284db8acd1bc53", func := "deadwood/deadwoodlaw03.EdgeMarks", spec := "edgeMarks", apart := false }
def EdgeMarksSaid : Prop := edgeMarksRow.holds Try.pinned (OpenSpec.ofChange edgeMarksSpec)

/-- ITS FALSE NEIGHBOUR: 'it returns false'. Refute it at one input. -/
def edgeMarksWrong : ChangeSpec := { name := "edgeMarks", fn := fun _ => fun
  | [d1, d2] => { results := [.lit (.bool false)], args := [d1, d2] }
  | _ => none }
def EdgeMarksWrongFalsely : Prop := edgeMarksRow.holds Try.pinned (OpenSpec.ofChange edgeMarksWrong)

/-- 'deadwoodlaw03.EdgeKeeps': WHATEVER THE INPUT: true; the input reads as it did. -/
def edgeKeepsSpec : ChangeSpec := { name := "edgeKeeps", fn := fun _ => fun
  | [d] => { results := [.lit (.bool true)], args := [d] }
  | _ => none }
def edgeKeepsRow : OpenClaim := { program := "ytphkmnjpaiecoaa", sum := "9becc1bd2e6b418068e5037b956ffc23dcdd271e9cf548f086284db8acd1bc53", func := "deadwood/deadwoodlaw03.EdgeKeeps", spec := "edgeKeeps", apart := false }
def EdgeKeepsSaid : Prop := edgeKeepsRow.holds Try.pinned (OpenSpec.ofChange edgeKeepsSpec)

/-- ITS FALSE NEIGHBOUR: 'it returns false'. Refute it at one input. -/
def edgeKeepsWrong : ChangeSpec := { name := "edgeKeeps", fn := fun _ => fun
  | [d] => { results := [.lit (.bool false)], args := [d] }
  | _ => none }
def EdgeKeepsWrongFalsely : Prop := edgeKeepsRow.holds Try.pinned (OpenSpec.ofChange edgeKeepsWrong)

/- THE SECOND FORM. 'bulk': how many values and letters a reading holds, each counted each time it is reached (what is shared counts as often as it is met; a slice's spare places count too). A statement '..UptoSaid' is the law's where the arguments, and the package variables that the reading takes, are together of bulk at most 1048576: NARROWER than '..Said'. Prove '..Said' where nothing that the law and all that it calls make is longer than what came in: it says more and counts as full. Else prove '..UptoSaid'. A law counts once. -/
mutual
def uptoBulk {H : Type} : DataW H → Nat
  | .lit (.string bytes) => bytes.length + 1
  | .lit _ => 1
  | .nil => 1
  | .ptr d => uptoBulk d + 1
  | .slice elems spare => uptoBulkAll elems + uptoBulkAll spare + 1
  | .agg parts => uptoBulkAll parts + 1
  | .iface _ d => uptoBulk d + 1
  | .map entries => uptoBulkEntries entries + 1
  | .held _ => 1
def uptoBulkAll {H : Type} : List (DataW H) → Nat
  | [] => 0
  | d :: r => uptoBulk d + uptoBulkAll r
def uptoBulkEntries {H : Type} : List (Lit × DataW H) → Nat
  | [] => 0
  | x :: r => uptoBulkEntry x + uptoBulkEntries r
def uptoBulkEntry {H : Type} : Lit × DataW H → Nat
  | (.string bytes, d) => bytes.length + uptoBulk d + 1
  | (_, d) => uptoBulk d + 1
 end
def uptoSmall : (H : Type) → List (DataW H) → Bool := fun _ ds => decide (uptoBulkAll ds ≤ 1048576)
def OpenSpec.upto (s : _root_.Go.ChangeSpec) : _root_.Go.OpenSpec := { _root_.Go.OpenSpec.ofChange s with cond := some uptoSmall }

/-- 'deadwoodlaw03.EdgeParts', WHERE WHAT IT READS IS OF BULK AT MOST 1048576: true; the input reads as it did. -/
def edgePartsUptoRow : OpenClaim := { program := "ytphkmnjpaiecoaa", sum := "9becc1bd2e6b418068e5037b956ffc23dcdd271e9cf548f086284db8acd1bc53", func := "deadwood/deadwoodlaw03.EdgeParts", spec := "edgeParts", apart := false, narrowed := true }
def EdgePartsUptoSaid : Prop := edgePartsUptoRow.holds Try.pinned (OpenSpec.upto edgePartsSpec)

/-- 'deadwoodlaw03.EdgeMakes', WHERE WHAT IT READS IS OF BULK AT MOST 1048576: true; the input reads as it did. -/
def edgeMakesUptoRow : OpenClaim := { program := "ytphkmnjpaiecoaa", sum := "9becc1bd2e6b418068e5037b956ffc23dcdd271e9cf548f086284db8acd1bc53", func := "deadwood/deadwoodlaw03.EdgeMakes", spec := "edgeMakes", apart := false, narrowed := true }
def EdgeMakesUptoSaid : Prop := edgeMakesUptoRow.holds Try.pinned (OpenSpec.upto edgeMakesSpec)

/-- 'deadwoodlaw03.EdgeMarks', WHERE WHAT IT READS IS OF BULK AT MOST 1048576: true; the input reads as it did. -/
def edgeMarksUptoRow : OpenClaim := { program := "ytphkmnjpaiecoaa", sum := "9becc1bd2e6b418068e5037b956ffc23dcdd271e9cf548f086284db8acd1bc53", func := "deadwood/deadwoodlaw03.EdgeMarks", spec := "edgeMarks", apart := false, narrowed := true }
def EdgeMarksUptoSaid : Prop := edgeMarksUptoRow.holds Try.pinned (OpenSpec.upto edgeMarksSpec)

/-- 'deadwoodlaw03.EdgeKeeps', WHERE WHAT IT READS IS OF BULK AT MOST 1048576: true; the input reads as it did. -/
def edgeKeepsUptoRow : OpenClaim := { program := "ytphkmnjpaiecoaa", sum := "9becc1bd2e6b418068e5037b956ffc23dcdd271e9cf548f086284db8acd1bc53", func := "deadwood/deadwoodlaw03.EdgeKeeps", spec := "edgeKeeps", apart := false, narrowed := true }
def EdgeKeepsUptoSaid : Prop := edgeKeepsUptoRow.holds Try.pinned (OpenSpec.upto edgeKeepsSpec)

end Rows
end Go.Proofs.Ytphkmnjpaiecoaa
