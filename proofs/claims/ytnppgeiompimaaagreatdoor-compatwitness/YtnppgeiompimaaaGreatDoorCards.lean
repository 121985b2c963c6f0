/-
  DERIVED. GIVEN WITH THE SEED: THE CARDS: each row of YtnppgeiompimaaaGreatDoorRows.lean that lists a variable, with what it lists TIED to the program's text (the seventh form; the later family's looks); each row that meets fmt, with fmt's text TOLD by the authors' own Lean function (tested against real Go, not proved from fmt's source: count such statements apart). THE CARD IS WHAT COUNTS. Prove the row's statement (the work); the ties are given (YtnppgeiompimaaaGreatDoorTie.lean); close each card by the builder's one call (the guide's Derived/Test/ToyasCard.lean, 'card_holds'). Laid BY PROGRAM, IN A SANDBOX (cutbox-door.mjs). By AI agents, Wed Nov 11 2026. No macro, syntax, notation, axiom, sorry.
-/
import Derived.Test.YtnppgeiompimaaaGreatDoorRows
import GoSem.ClaimSeven
namespace Go.Proofs.YtnppgeiompimaaaGreatDoor
namespace Rows

/-- THE TIED CARD OF 'patternbooklaw.CompatFlaws'. -/
def compatFlawsCard : Claim7 := { stood := { row := compatFlawsRow, standIns := [], harness := (true, "0c131800b2feb92519d4ce1de7620a137c12579cac6a7e627c6459fcd441a810"), looks := false }, kinds := [], alts := [], laidByText := true, laidKinds := [.data, .data, .pinned], laidTests := true, laidLooks := .later }
def CompatFlawsCardSaid : Prop := Claim7.holds Tryz.pinned (.plain (OpenSpec.ofChange compatFlawsSpec)) compatFlawsCard

/-- THE TIED CARD OF 'patternbooklaw.CompatProjects'. -/
def compatProjectsCard : Claim7 := { stood := { row := compatProjectsRow, standIns := [], harness := (true, "0c131800b2feb92519d4ce1de7620a137c12579cac6a7e627c6459fcd441a810"), looks := false }, kinds := [], alts := [], laidByText := true, laidKinds := [.data, .data, .pinned], laidTests := true, laidLooks := .later }
def CompatProjectsCardSaid : Prop := Claim7.holds Tryz.pinned (.plain (OpenSpec.ofChange compatProjectsSpec)) compatProjectsCard

/-- THE TIED CARD OF 'patternbookkeep.CompatReads'. -/
def compatReadsCard : Claim7 := { stood := { row := compatReadsRow, standIns := [], harness := (true, "0c131800b2feb92519d4ce1de7620a137c12579cac6a7e627c6459fcd441a810"), looks := false }, kinds := [], alts := [], laidByText := true, laidKinds := [.data], laidTests := true, laidLooks := .later }
def CompatReadsCardSaid : Prop := Claim7.holds Tryz.pinned (.plain (OpenSpec.ofChange compatReadsSpec)) compatReadsCard

/-- THE TIED CARD OF 'patternbookkeep.CompatWitness'. -/
def compatWitnessCard : Claim7 := { stood := { row := compatWitnessRow, standIns := [], harness := (true, "0c131800b2feb92519d4ce1de7620a137c12579cac6a7e627c6459fcd441a810"), looks := false }, kinds := [], alts := [], laidByText := true, laidKinds := [.data], laidTests := true, laidLooks := .later }
def CompatWitnessCardSaid : Prop := Claim7.holds Tryz.pinned (.plain (OpenSpec.ofChange compatWitnessSpec)) compatWitnessCard

/-- THE SECOND FORM's CARD OF 'patternbooklaw.CompatFlaws'. -/
def compatFlawsUptoCard : Claim7 := { stood := { row := compatFlawsUptoRow, standIns := [], harness := (true, "0c131800b2feb92519d4ce1de7620a137c12579cac6a7e627c6459fcd441a810"), looks := false }, kinds := [], alts := [], laidByText := true, laidKinds := [.data, .data, .pinned], laidTests := true, laidLooks := .later }
def CompatFlawsUptoCardSaid : Prop := Claim7.holds Tryz.pinned (.plain (OpenSpec.upto compatFlawsSpec)) compatFlawsUptoCard

/-- THE SECOND FORM's CARD OF 'patternbooklaw.CompatProjects'. -/
def compatProjectsUptoCard : Claim7 := { stood := { row := compatProjectsUptoRow, standIns := [], harness := (true, "0c131800b2feb92519d4ce1de7620a137c12579cac6a7e627c6459fcd441a810"), looks := false }, kinds := [], alts := [], laidByText := true, laidKinds := [.data, .data, .pinned], laidTests := true, laidLooks := .later }
def CompatProjectsUptoCardSaid : Prop := Claim7.holds Tryz.pinned (.plain (OpenSpec.upto compatProjectsSpec)) compatProjectsUptoCard

/-- THE SECOND FORM's CARD OF 'patternbookkeep.CompatReads'. -/
def compatReadsUptoCard : Claim7 := { stood := { row := compatReadsUptoRow, standIns := [], harness := (true, "0c131800b2feb92519d4ce1de7620a137c12579cac6a7e627c6459fcd441a810"), looks := false }, kinds := [], alts := [], laidByText := true, laidKinds := [.data], laidTests := true, laidLooks := .later }
def CompatReadsUptoCardSaid : Prop := Claim7.holds Tryz.pinned (.plain (OpenSpec.upto compatReadsSpec)) compatReadsUptoCard

/-- THE SECOND FORM's CARD OF 'patternbookkeep.CompatWitness'. -/
def compatWitnessUptoCard : Claim7 := { stood := { row := compatWitnessUptoRow, standIns := [], harness := (true, "0c131800b2feb92519d4ce1de7620a137c12579cac6a7e627c6459fcd441a810"), looks := false }, kinds := [], alts := [], laidByText := true, laidKinds := [.data], laidTests := true, laidLooks := .later }
def CompatWitnessUptoCardSaid : Prop := Claim7.holds Tryz.pinned (.plain (OpenSpec.upto compatWitnessSpec)) compatWitnessUptoCard
end Rows
end Go.Proofs.YtnppgeiompimaaaGreatDoor
