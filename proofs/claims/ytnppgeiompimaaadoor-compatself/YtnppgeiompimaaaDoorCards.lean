/-
  DERIVED. GIVEN WITH THE SEED: THE CARDS: each row of YtnppgeiompimaaaDoorRows.lean that lists a variable, with what it lists TIED to the program's text (the seventh form; the later family's looks); each row that meets fmt, with fmt's text TOLD by the authors' own Lean function (tested against real Go, not proved from fmt's source: count such statements apart). THE CARD IS WHAT COUNTS. Prove the row's statement (the work); the ties are given (YtnppgeiompimaaaDoorTie.lean); close each card by the builder's one call (the guide's Derived/Test/ToyasCard.lean, 'card_holds'). Laid BY PROGRAM, IN A SANDBOX (cutbox-door.mjs). By AI agents, Wed Nov 11 2026. No macro, syntax, notation, axiom, sorry.
-/
import Derived.Test.YtnppgeiompimaaaDoorRows
import GoSem.ClaimSeven
namespace Go.Proofs.YtnppgeiompimaaaDoor
namespace Rows

/-- THE TIED CARD OF 'patternbookkeep.CompatSelf'. -/
def compatSelfCard : Claim7 := { stood := { row := compatSelfRow, standIns := [], harness := (true, "0ab2f36a0c97899f43ee853df7fb6cc1a38c04e91ca0ff49c7f44e58b4292a86"), looks := false }, kinds := [], alts := [], laidByText := true, laidKinds := [.data], laidTests := true, laidLooks := .later }
def CompatSelfCardSaid : Prop := Claim7.holds Tryd.pinned (.plain (OpenSpec.ofChange compatSelfSpec)) compatSelfCard

/-- THE SECOND FORM's CARD OF 'patternbookkeep.CompatSelf'. -/
def compatSelfUptoCard : Claim7 := { stood := { row := compatSelfUptoRow, standIns := [], harness := (true, "0ab2f36a0c97899f43ee853df7fb6cc1a38c04e91ca0ff49c7f44e58b4292a86"), looks := false }, kinds := [], alts := [], laidByText := true, laidKinds := [.data], laidTests := true, laidLooks := .later }
def CompatSelfUptoCardSaid : Prop := Claim7.holds Tryd.pinned (.plain (OpenSpec.upto compatSelfSpec)) compatSelfUptoCard
end Rows
end Go.Proofs.YtnppgeiompimaaaDoor
