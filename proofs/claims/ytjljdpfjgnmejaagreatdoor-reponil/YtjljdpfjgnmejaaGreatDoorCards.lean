/-
  DERIVED. GIVEN WITH THE SEED: THE CARDS: each row of YtjljdpfjgnmejaaGreatDoorRows.lean that lists a variable, with what it lists TIED to the program's text (the seventh form; the later family's looks); each row that meets fmt, with fmt's text TOLD by the authors' own Lean function (tested against real Go, not proved from fmt's source: count such statements apart). THE CARD IS WHAT COUNTS. Prove the row's statement (the work); the ties are given (YtjljdpfjgnmejaaGreatDoorTie.lean); close each card by the builder's one call (the guide's Derived/Test/ToyasCard.lean, 'card_holds'). Laid BY PROGRAM, IN A SANDBOX (cutbox-door.mjs). By AI agents, Wed Nov 11 2026. No macro, syntax, notation, axiom, sorry.
-/
import Derived.Test.YtjljdpfjgnmejaaGreatDoorRows
import GoSem.ClaimSeven
namespace Go.Proofs.YtjljdpfjgnmejaaGreatDoor
namespace Rows

/-- THE TIED CARD OF 'patternbooklaw.RepoNil'. -/
def repoNilCard : Claim7 := { stood := { row := repoNilRow, standIns := [], harness := (true, "37e24ac7617a6c753523df35d68d53fb6602daa06f200a40d6b6957de1d204a1"), looks := false }, kinds := [], alts := [], laidByText := true, laidKinds := [.data, .data, .data, .data, .data, .data], laidTests := true, laidLooks := .later }
def RepoNilCardSaid : Prop := Claim7.holds Tryz.pinned (.plain (OpenSpec.ofChange repoNilSpec)) repoNilCard

/-- THE SECOND FORM's CARD OF 'patternbooklaw.RepoNil'. -/
def repoNilUptoCard : Claim7 := { stood := { row := repoNilUptoRow, standIns := [], harness := (true, "37e24ac7617a6c753523df35d68d53fb6602daa06f200a40d6b6957de1d204a1"), looks := false }, kinds := [], alts := [], laidByText := true, laidKinds := [.data, .data, .data, .data, .data, .data], laidTests := true, laidLooks := .later }
def RepoNilUptoCardSaid : Prop := Claim7.holds Tryz.pinned (.plain (OpenSpec.upto repoNilSpec)) repoNilUptoCard
end Rows
end Go.Proofs.YtjljdpfjgnmejaaGreatDoor
