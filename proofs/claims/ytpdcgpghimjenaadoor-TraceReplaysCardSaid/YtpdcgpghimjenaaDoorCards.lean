/-
  DERIVED. GIVEN WITH THE SEED: THE CARDS: each row of YtpdcgpghimjenaaDoorRows.lean that lists a variable, with what it lists TIED to the program's text (the seventh form; the later family's looks); each row that meets fmt, with fmt's text TOLD by the authors' own Lean function (tested against real Go, not proved from fmt's source: count such statements apart). THE CARD IS WHAT COUNTS. Prove the row's statement (the work); the ties are given (YtpdcgpghimjenaaDoorTie.lean); close each card by the builder's one call (the guide's Derived/Test/ToyasCard.lean, 'card_holds'). Laid BY PROGRAM, IN A SANDBOX (cutbox-door.mjs). By AI agents, Wed Nov 11 2026. No macro, syntax, notation, axiom, sorry.
-/
import Derived.Test.YtpdcgpghimjenaaDoorRows
import GoSem.ClaimSeven
namespace Go.Proofs.YtpdcgpghimjenaaDoor
namespace Rows

/-- THE TIED CARD OF 'deadwoodlaw40.TraceNames'. -/
def traceNamesCard : Claim7 := { stood := { row := traceNamesRow, standIns := [], harness := (true, "7ec600ceaf2ff85cf0ab055121a53c778685726577cc9ab6057cb3c610399468"), looks := false }, kinds := [], alts := [], laidByText := true, laidKinds := [.data, .data, .data], laidTests := true, laidLooks := .later }
def TraceNamesCardSaid : Prop := Claim7.holds Tryd.pinned (.plain (OpenSpec.ofChange traceNamesSpec)) traceNamesCard

/-- THE TIED CARD OF 'deadwoodlaw40.TraceReplays'. -/
def traceReplaysCard : Claim7 := { stood := { row := traceReplaysRow, standIns := [], harness := (true, "7ec600ceaf2ff85cf0ab055121a53c778685726577cc9ab6057cb3c610399468"), looks := false }, kinds := [], alts := [], laidByText := true, laidKinds := [.data, .data, .data], laidTests := true, laidLooks := .later }
def TraceReplaysCardSaid : Prop := Claim7.holds Tryd.pinned (.plain (OpenSpec.ofChange traceReplaysSpec)) traceReplaysCard

/-- THE SECOND FORM's CARD OF 'deadwoodlaw40.TraceNames'. -/
def traceNamesUptoCard : Claim7 := { stood := { row := traceNamesUptoRow, standIns := [], harness := (true, "7ec600ceaf2ff85cf0ab055121a53c778685726577cc9ab6057cb3c610399468"), looks := false }, kinds := [], alts := [], laidByText := true, laidKinds := [.data, .data, .data], laidTests := true, laidLooks := .later }
def TraceNamesUptoCardSaid : Prop := Claim7.holds Tryd.pinned (.plain (OpenSpec.upto traceNamesSpec)) traceNamesUptoCard

/-- THE SECOND FORM's CARD OF 'deadwoodlaw40.TraceReplays'. -/
def traceReplaysUptoCard : Claim7 := { stood := { row := traceReplaysUptoRow, standIns := [], harness := (true, "7ec600ceaf2ff85cf0ab055121a53c778685726577cc9ab6057cb3c610399468"), looks := false }, kinds := [], alts := [], laidByText := true, laidKinds := [.data, .data, .data], laidTests := true, laidLooks := .later }
def TraceReplaysUptoCardSaid : Prop := Claim7.holds Tryd.pinned (.plain (OpenSpec.upto traceReplaysSpec)) traceReplaysUptoCard
end Rows
end Go.Proofs.YtpdcgpghimjenaaDoor
