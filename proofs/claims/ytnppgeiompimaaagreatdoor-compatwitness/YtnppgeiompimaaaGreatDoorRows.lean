/-
  NARROWER THAN 'FOR EVERY INPUT', by the rows' own cells (each row's printed sentence says how): CompatFlaws: laid · CompatProjects: loops, laid · CompatReads: loops, laid · CompatWitness: laid.
  DERIVED. THE GIVEN ROWS OF THIS SEAT. 4 by the template 'for every input the law returns true; each argument reads behind the call as it read before'; 0 by the template 'total and deterministic' (their statements: YtnppgeiompimaaaGreatDoorTotals.lean).
  GIVEN WITH THE SEED: the statements are not yours to turn. If you find one false, say at which input.
  Laid BY PROGRAM, IN A SANDBOX (cutbox-rows.mjs): the forced cells as the released guide's own fill.sh prints them over the translation 67d8ff1b1825a60b… (all of the seat's roots in one cut). By AI agents, Wed Nov 11 2026. No macro, syntax, notation, axiom, sorry.
-/
import Derived.Test.YtnppgeiompimaaaGreatDoorChecked
import GoSem.PinnedTables
import GoSem.Claim
import GoSem.ClaimJoined
import GoSem.ClaimMapViews
import Derived.JoinedTies
import Derived.KernelRfl
namespace Go.Proofs.YtnppgeiompimaaaGreatDoor
/- THE CELL 'sum', in the pinned program and in every row, IS THE sha256 OF THE DUMP (.gsa) THAT YtnppgeiompimaaaGreatDoorProg.lean LOADS. Nothing in Lean hashes anything: it is a label: what it is worth is what the hold of that sum in a sandbox is worth. -/
noncomputable def Tryz.pinned : Pinned := { name := "ytnppgeiompimaaagreatdoor", sum := "67d8ff1b1825a60bb9e83eb947d49e08ca59eb3651048513a73a0015654e0892", checked := Tryz.checked }
namespace Rows
def none {H : Type} : Left H := { results := [], args := [] }

/- WHAT THE LISTED PACKAGE-LEVEL VARIABLES READ AS WHEN THE CALL BEGINS. Each datum BY PROGRAM (the guide's laid-datum.mjs) off the statement by which the dump's own 'gosem.cut.vars' lays the variable. In a bare row this is a premise. The card (YtnppgeiompimaaaGreatDoorCards.lean) ties it to the program's text. -/
def laid_unicode_utf8_acceptRanges {H : Type} : DataW H := .agg [.agg [.lit (.int .u8 128), .lit (.int .u8 191)], .agg [.lit (.int .u8 160), .lit (.int .u8 191)], .agg [.lit (.int .u8 128), .lit (.int .u8 159)], .agg [.lit (.int .u8 144), .lit (.int .u8 191)], .agg [.lit (.int .u8 128), .lit (.int .u8 143)], .agg [.lit (.int .u8 0), .lit (.int .u8 0)], .agg [.lit (.int .u8 0), .lit (.int .u8 0)], .agg [.lit (.int .u8 0), .lit (.int .u8 0)], .agg [.lit (.int .u8 0), .lit (.int .u8 0)], .agg [.lit (.int .u8 0), .lit (.int .u8 0)], .agg [.lit (.int .u8 0), .lit (.int .u8 0)], .agg [.lit (.int .u8 0), .lit (.int .u8 0)], .agg [.lit (.int .u8 0), .lit (.int .u8 0)], .agg [.lit (.int .u8 0), .lit (.int .u8 0)], .agg [.lit (.int .u8 0), .lit (.int .u8 0)], .agg [.lit (.int .u8 0), .lit (.int .u8 0)]]
def laid_patternbook_book_words {H : Type} : DataW H := .agg [.lit (.string [98, 111, 111, 108]), .lit (.string [101, 110, 117, 109]), .lit (.string [103, 111, 110, 101]), .lit (.string [105, 110, 116]), .lit (.string [109, 97, 110, 121]), .lit (.string [109, 97, 121, 98, 101]), .lit (.string [109, 101, 115, 115, 97, 103, 101]), .lit (.string [111, 110, 101]), .lit (.string [116, 101, 120, 116])]
/-- One of Go's own tables, pinned by name: the form's constant. -/
def laid_unicode_utf8_first : DataW Unit := Go.Pinned.utf8First

/-- 'patternbooklaw.CompatFlaws': WHATEVER THE INPUT: true; the input reads as it did. -/
def compatFlawsSpec : ChangeSpec := { name := "compatFlaws", fn := fun _ => fun
  | [d1, d2, d3] => { results := [.lit (.bool true)], args := [d1, d2, d3] }
  | _ => none }
def compatFlawsRow : OpenClaim := { program := "ytnppgeiompimaaagreatdoor", sum := "67d8ff1b1825a60bb9e83eb947d49e08ca59eb3651048513a73a0015654e0892", func := "patternbook/patternbooklaw.CompatFlaws", spec := "compatFlaws", inPlace := ["internal/bytealg.IndexByteString", "internal/bytealg.IndexString"], unfollowed := true, recurses := true, named := ["patternbook/book.words", "unicode/utf8.first", "unicode/utf8.acceptRanges", "internal/bytealg.MaxLen"], plainKeys := false, apart := false, laid := [("unicode/utf8.acceptRanges", laid_unicode_utf8_acceptRanges), ("patternbook/book.words", laid_patternbook_book_words), ("unicode/utf8.first", laid_unicode_utf8_first)] }
def CompatFlawsSaid : Prop := compatFlawsRow.holds Tryz.pinned (OpenSpec.ofChange compatFlawsSpec)

/-- ITS FALSE NEIGHBOUR: 'it returns false'. Refute it at one input. -/
def compatFlawsWrong : ChangeSpec := { name := "compatFlaws", fn := fun _ => fun
  | [d1, d2, d3] => { results := [.lit (.bool false)], args := [d1, d2, d3] }
  | _ => none }
def CompatFlawsWrongFalsely : Prop := compatFlawsRow.holds Tryz.pinned (OpenSpec.ofChange compatFlawsWrong)

/-- 'patternbooklaw.CompatProjects': WHATEVER THE INPUT: true; the input reads as it did. -/
def compatProjectsSpec : ChangeSpec := { name := "compatProjects", fn := fun _ => fun
  | [d1, d2, d3, d4] => { results := [.lit (.bool true)], args := [d1, d2, d3, d4] }
  | _ => none }
def compatProjectsRow : OpenClaim := { program := "ytnppgeiompimaaagreatdoor", sum := "67d8ff1b1825a60bb9e83eb947d49e08ca59eb3651048513a73a0015654e0892", func := "patternbook/patternbooklaw.CompatProjects", spec := "compatProjects", inPlace := ["internal/bytealg.IndexByteString", "internal/bytealg.IndexString"], unfollowed := true, recurses := true, named := ["patternbook/book.words", "unicode/utf8.first", "unicode/utf8.acceptRanges", "internal/bytealg.MaxLen"], loops := true, plainKeys := false, apart := false, laid := [("unicode/utf8.acceptRanges", laid_unicode_utf8_acceptRanges), ("patternbook/book.words", laid_patternbook_book_words), ("unicode/utf8.first", laid_unicode_utf8_first)] }
def CompatProjectsSaid : Prop := compatProjectsRow.holds Tryz.pinned (OpenSpec.ofChange compatProjectsSpec)

/-- ITS FALSE NEIGHBOUR: 'it returns false'. Refute it at one input. -/
def compatProjectsWrong : ChangeSpec := { name := "compatProjects", fn := fun _ => fun
  | [d1, d2, d3, d4] => { results := [.lit (.bool false)], args := [d1, d2, d3, d4] }
  | _ => none }
def CompatProjectsWrongFalsely : Prop := compatProjectsRow.holds Tryz.pinned (OpenSpec.ofChange compatProjectsWrong)

/-- 'patternbookkeep.CompatReads': WHATEVER THE INPUT: true; the input reads as it did. -/
def compatReadsSpec : ChangeSpec := { name := "compatReads", fn := fun _ => fun
  | [d1, d2, d3, d4] => { results := [.lit (.bool true)], args := [d1, d2, d3, d4] }
  | _ => none }
def compatReadsRow : OpenClaim := { program := "ytnppgeiompimaaagreatdoor", sum := "67d8ff1b1825a60bb9e83eb947d49e08ca59eb3651048513a73a0015654e0892", func := "patternbook/patternbookkeep.CompatReads", spec := "compatReads", inPlace := ["slices.overlaps[int]", "slices.overlaps[patternbook/api.Value]"], unfollowed := true, recurses := true, named := ["patternbook/book.words"], loops := true, plainKeys := false, apart := false, laid := [("patternbook/book.words", laid_patternbook_book_words)] }
def CompatReadsSaid : Prop := compatReadsRow.holds Tryz.pinned (OpenSpec.ofChange compatReadsSpec)

/-- ITS FALSE NEIGHBOUR: 'it returns false'. Refute it at one input. -/
def compatReadsWrong : ChangeSpec := { name := "compatReads", fn := fun _ => fun
  | [d1, d2, d3, d4] => { results := [.lit (.bool false)], args := [d1, d2, d3, d4] }
  | _ => none }
def CompatReadsWrongFalsely : Prop := compatReadsRow.holds Tryz.pinned (OpenSpec.ofChange compatReadsWrong)

/-- 'patternbookkeep.CompatWitness': WHATEVER THE INPUT: true; the input reads as it did. -/
def compatWitnessSpec : ChangeSpec := { name := "compatWitness", fn := fun _ => fun
  | [d1, d2, d3] => { results := [.lit (.bool true)], args := [d1, d2, d3] }
  | _ => none }
def compatWitnessRow : OpenClaim := { program := "ytnppgeiompimaaagreatdoor", sum := "67d8ff1b1825a60bb9e83eb947d49e08ca59eb3651048513a73a0015654e0892", func := "patternbook/patternbookkeep.CompatWitness", spec := "compatWitness", inPlace := ["slices.overlaps[int]", "slices.overlaps[patternbook/api.Value]"], unfollowed := true, recurses := true, named := ["patternbook/book.words"], plainKeys := false, apart := false, laid := [("patternbook/book.words", laid_patternbook_book_words)] }
def CompatWitnessSaid : Prop := compatWitnessRow.holds Tryz.pinned (OpenSpec.ofChange compatWitnessSpec)

/-- ITS FALSE NEIGHBOUR: 'it returns false'. Refute it at one input. -/
def compatWitnessWrong : ChangeSpec := { name := "compatWitness", fn := fun _ => fun
  | [d1, d2, d3] => { results := [.lit (.bool false)], args := [d1, d2, d3] }
  | _ => none }
def CompatWitnessWrongFalsely : Prop := compatWitnessRow.holds Tryz.pinned (OpenSpec.ofChange compatWitnessWrong)

/- THE SECOND FORM. 'bulk': how many values and letters a reading holds, each counted each time it is reached (what is shared counts as often as it is met; a slice's spare places count too). A statement '..UptoSaid' is the law's where the arguments, and the package variables that the reading takes, are together of bulk at most 1048576: NARROWER than '..Said'. Prove '..Said' where nothing that the law and all that it calls make is longer than what came in: it says more and counts as full. Else prove '..UptoSaid'. A law counts once. -/
mutual
def uptoBulk {H : Type} : DataW H → Nat
  | .lit (.string bytes) => bytes.length + 1
  | .lit _ => 1
  | .nil => 1
  | .ptr d => uptoBulk d + 1
  | .slice elems spare => uptoBulkAll elems + uptoBulkAll spare + 1
  | .agg parts => uptoBulkAll parts + 1
  | .iface _ d => uptoBulk d + 1
  | .map entries => uptoBulkEntries entries + 1
  | .held _ => 1
def uptoBulkAll {H : Type} : List (DataW H) → Nat
  | [] => 0
  | d :: r => uptoBulk d + uptoBulkAll r
def uptoBulkEntries {H : Type} : List (Lit × DataW H) → Nat
  | [] => 0
  | x :: r => uptoBulkEntry x + uptoBulkEntries r
def uptoBulkEntry {H : Type} : Lit × DataW H → Nat
  | (.string bytes, d) => bytes.length + uptoBulk d + 1
  | (_, d) => uptoBulk d + 1
 end
def uptoSmall : (H : Type) → List (DataW H) → Bool := fun _ ds => decide (uptoBulkAll ds ≤ 1048576)
def OpenSpec.upto (s : _root_.Go.ChangeSpec) : _root_.Go.OpenSpec := { _root_.Go.OpenSpec.ofChange s with cond := some uptoSmall }

/-- 'patternbooklaw.CompatFlaws', WHERE WHAT IT READS IS OF BULK AT MOST 1048576: true; the input reads as it did. -/
def compatFlawsUptoRow : OpenClaim := { program := "ytnppgeiompimaaagreatdoor", sum := "67d8ff1b1825a60bb9e83eb947d49e08ca59eb3651048513a73a0015654e0892", func := "patternbook/patternbooklaw.CompatFlaws", spec := "compatFlaws", inPlace := ["internal/bytealg.IndexByteString", "internal/bytealg.IndexString"], unfollowed := true, recurses := true, named := ["patternbook/book.words", "unicode/utf8.first", "unicode/utf8.acceptRanges", "internal/bytealg.MaxLen"], plainKeys := false, apart := false, laid := [("unicode/utf8.acceptRanges", laid_unicode_utf8_acceptRanges), ("patternbook/book.words", laid_patternbook_book_words), ("unicode/utf8.first", laid_unicode_utf8_first)], narrowed := true }
def CompatFlawsUptoSaid : Prop := compatFlawsUptoRow.holds Tryz.pinned (OpenSpec.upto compatFlawsSpec)

/-- 'patternbooklaw.CompatProjects', WHERE WHAT IT READS IS OF BULK AT MOST 1048576: true; the input reads as it did. -/
def compatProjectsUptoRow : OpenClaim := { program := "ytnppgeiompimaaagreatdoor", sum := "67d8ff1b1825a60bb9e83eb947d49e08ca59eb3651048513a73a0015654e0892", func := "patternbook/patternbooklaw.CompatProjects", spec := "compatProjects", inPlace := ["internal/bytealg.IndexByteString", "internal/bytealg.IndexString"], unfollowed := true, recurses := true, named := ["patternbook/book.words", "unicode/utf8.first", "unicode/utf8.acceptRanges", "internal/bytealg.MaxLen"], loops := true, plainKeys := false, apart := false, laid := [("unicode/utf8.acceptRanges", laid_unicode_utf8_acceptRanges), ("patternbook/book.words", laid_patternbook_book_words), ("unicode/utf8.first", laid_unicode_utf8_first)], narrowed := true }
def CompatProjectsUptoSaid : Prop := compatProjectsUptoRow.holds Tryz.pinned (OpenSpec.upto compatProjectsSpec)

/-- 'patternbookkeep.CompatReads', WHERE WHAT IT READS IS OF BULK AT MOST 1048576: true; the input reads as it did. -/
def compatReadsUptoRow : OpenClaim := { program := "ytnppgeiompimaaagreatdoor", sum := "67d8ff1b1825a60bb9e83eb947d49e08ca59eb3651048513a73a0015654e0892", func := "patternbook/patternbookkeep.CompatReads", spec := "compatReads", inPlace := ["slices.overlaps[int]", "slices.overlaps[patternbook/api.Value]"], unfollowed := true, recurses := true, named := ["patternbook/book.words"], loops := true, plainKeys := false, apart := false, laid := [("patternbook/book.words", laid_patternbook_book_words)], narrowed := true }
def CompatReadsUptoSaid : Prop := compatReadsUptoRow.holds Tryz.pinned (OpenSpec.upto compatReadsSpec)

/-- 'patternbookkeep.CompatWitness', WHERE WHAT IT READS IS OF BULK AT MOST 1048576: true; the input reads as it did. -/
def compatWitnessUptoRow : OpenClaim := { program := "ytnppgeiompimaaagreatdoor", sum := "67d8ff1b1825a60bb9e83eb947d49e08ca59eb3651048513a73a0015654e0892", func := "patternbook/patternbookkeep.CompatWitness", spec := "compatWitness", inPlace := ["slices.overlaps[int]", "slices.overlaps[patternbook/api.Value]"], unfollowed := true, recurses := true, named := ["patternbook/book.words"], plainKeys := false, apart := false, laid := [("patternbook/book.words", laid_patternbook_book_words)], narrowed := true }
def CompatWitnessUptoSaid : Prop := compatWitnessUptoRow.holds Tryz.pinned (OpenSpec.upto compatWitnessSpec)

end Rows
end Go.Proofs.YtnppgeiompimaaaGreatDoor
