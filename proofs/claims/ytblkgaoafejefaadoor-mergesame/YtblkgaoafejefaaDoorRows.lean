/-
  NARROWER THAN 'FOR EVERY INPUT', by the rows' own cells (each row's printed sentence says how): MergeSides: laid · MergeSame: laid · MergeFields: laid.
  DERIVED. THE GIVEN ROWS OF THIS SEAT. 3 by the template 'for every input the law returns true; each argument reads behind the call as it read before'; 0 by the template 'total and deterministic' (their statements: YtblkgaoafejefaaDoorTotals.lean).
  GIVEN WITH THE SEED: the statements are not yours to turn. If you find one false, say at which input.
  Laid BY PROGRAM, IN A SANDBOX (cutbox-rows.mjs): the forced cells as the released guide's own fill.sh prints them over the translation 618b96b181a8df1c… (all of the seat's roots in one cut). By AI agents, Wed Nov 11 2026. No macro, syntax, notation, axiom, sorry.
-/
import Derived.Test.YtblkgaoafejefaaDoorChecked
import GoSem.Claim
import GoSem.ClaimJoined
import GoSem.ClaimMapViews
import Derived.JoinedTies
import Derived.KernelRfl
namespace Go.Proofs.YtblkgaoafejefaaDoor
/- THE CELL 'sum', in the pinned program and in every row, IS THE sha256 OF THE DUMP (.gsa) THAT YtblkgaoafejefaaDoorProg.lean LOADS. Nothing in Lean hashes anything: it is a label: what it is worth is what the hold of that sum in a sandbox is worth. -/
noncomputable def Tryd.pinned : Pinned := { name := "ytblkgaoafejefaadoor", sum := "618b96b181a8df1c2651469b681dde372d2d0697c69b1ac1c7534055467580aa", checked := Tryd.checked }
namespace Rows
def none {H : Type} : Left H := { results := [], args := [] }

/- WHAT THE LISTED PACKAGE-LEVEL VARIABLES READ AS WHEN THE CALL BEGINS. Each datum BY PROGRAM (the guide's laid-datum.mjs) off the statement by which the dump's own 'gosem.cut.vars' lays the variable. In a bare row this is a premise. The card (YtblkgaoafejefaaDoorCards.lean) ties it to the program's text. -/
def laid_patternbook_book_words {H : Type} : DataW H := .agg [.lit (.string [98, 111, 111, 108]), .lit (.string [101, 110, 117, 109]), .lit (.string [103, 111, 110, 101]), .lit (.string [105, 110, 116]), .lit (.string [109, 97, 110, 121]), .lit (.string [109, 97, 121, 98, 101]), .lit (.string [109, 101, 115, 115, 97, 103, 101]), .lit (.string [111, 110, 101]), .lit (.string [116, 101, 120, 116])]

/-- 'patternbookkeep.MergeSides': WHATEVER THE INPUT: true; the input reads as it did. -/
def mergeSidesSpec : ChangeSpec := { name := "mergeSides", fn := fun _ => fun
  | [d1, d2, d3] => { results := [.lit (.bool true)], args := [d1, d2, d3] }
  | _ => none }
def mergeSidesRow : OpenClaim := { program := "ytblkgaoafejefaadoor", sum := "618b96b181a8df1c2651469b681dde372d2d0697c69b1ac1c7534055467580aa", func := "patternbook/patternbookkeep.MergeSides", spec := "mergeSides", unfollowed := true, recurses := true, named := ["patternbook/book.words"], apart := false, laid := [("patternbook/book.words", laid_patternbook_book_words)] }
def MergeSidesSaid : Prop := mergeSidesRow.holds Tryd.pinned (OpenSpec.ofChange mergeSidesSpec)

/-- ITS FALSE NEIGHBOUR: 'it returns false'. Refute it at one input. -/
def mergeSidesWrong : ChangeSpec := { name := "mergeSides", fn := fun _ => fun
  | [d1, d2, d3] => { results := [.lit (.bool false)], args := [d1, d2, d3] }
  | _ => none }
def MergeSidesWrongFalsely : Prop := mergeSidesRow.holds Tryd.pinned (OpenSpec.ofChange mergeSidesWrong)

/-- 'patternbookkeep.MergeSame': WHATEVER THE INPUT: true; the input reads as it did. -/
def mergeSameSpec : ChangeSpec := { name := "mergeSame", fn := fun _ => fun
  | [d1, d2] => { results := [.lit (.bool true)], args := [d1, d2] }
  | _ => none }
def mergeSameRow : OpenClaim := { program := "ytblkgaoafejefaadoor", sum := "618b96b181a8df1c2651469b681dde372d2d0697c69b1ac1c7534055467580aa", func := "patternbook/patternbookkeep.MergeSame", spec := "mergeSame", unfollowed := true, recurses := true, named := ["patternbook/book.words"], apart := false, laid := [("patternbook/book.words", laid_patternbook_book_words)] }
def MergeSameSaid : Prop := mergeSameRow.holds Tryd.pinned (OpenSpec.ofChange mergeSameSpec)

/-- ITS FALSE NEIGHBOUR: 'it returns false'. Refute it at one input. -/
def mergeSameWrong : ChangeSpec := { name := "mergeSame", fn := fun _ => fun
  | [d1, d2] => { results := [.lit (.bool false)], args := [d1, d2] }
  | _ => none }
def MergeSameWrongFalsely : Prop := mergeSameRow.holds Tryd.pinned (OpenSpec.ofChange mergeSameWrong)

/-- 'patternbookkeep.MergeFields': WHATEVER THE INPUT: true; the input reads as it did. -/
def mergeFieldsSpec : ChangeSpec := { name := "mergeFields", fn := fun _ => fun
  | [d1, d2, d3, d4, d5] => { results := [.lit (.bool true)], args := [d1, d2, d3, d4, d5] }
  | _ => none }
def mergeFieldsRow : OpenClaim := { program := "ytblkgaoafejefaadoor", sum := "618b96b181a8df1c2651469b681dde372d2d0697c69b1ac1c7534055467580aa", func := "patternbook/patternbookkeep.MergeFields", spec := "mergeFields", unfollowed := true, recurses := true, named := ["patternbook/book.words"], apart := false, laid := [("patternbook/book.words", laid_patternbook_book_words)] }
def MergeFieldsSaid : Prop := mergeFieldsRow.holds Tryd.pinned (OpenSpec.ofChange mergeFieldsSpec)

/-- ITS FALSE NEIGHBOUR: 'it returns false'. Refute it at one input. -/
def mergeFieldsWrong : ChangeSpec := { name := "mergeFields", fn := fun _ => fun
  | [d1, d2, d3, d4, d5] => { results := [.lit (.bool false)], args := [d1, d2, d3, d4, d5] }
  | _ => none }
def MergeFieldsWrongFalsely : Prop := mergeFieldsRow.holds Tryd.pinned (OpenSpec.ofChange mergeFieldsWrong)

/- THE SECOND FORM. 'bulk': how many values and letters a reading holds, each counted each time it is reached (what is shared counts as often as it is met; a slice's spare places count too). A statement '..UptoSaid' is the law's where the arguments, and the package variables that the reading takes, are together of bulk at most 1048576: NARROWER than '..Said'. Prove '..Said' where nothing that the law and all that it calls make is longer than what came in: it says more and counts as full. Else prove '..UptoSaid'. A law counts once. -/
mutual
def uptoBulk {H : Type} : DataW H → Nat
  | .lit (.string bytes) => bytes.length + 1
  | .lit _ => 1
  | .nil => 1
  | .ptr d => uptoBulk d + 1
  | .slice elems spare => uptoBulkAll elems + uptoBulkAll spare + 1
  | .agg parts => uptoBulkAll parts + 1
  | .iface _ d => uptoBulk d + 1
  | .map entries => uptoBulkEntries entries + 1
  | .held _ => 1
def uptoBulkAll {H : Type} : List (DataW H) → Nat
  | [] => 0
  | d :: r => uptoBulk d + uptoBulkAll r
def uptoBulkEntries {H : Type} : List (Lit × DataW H) → Nat
  | [] => 0
  | x :: r => uptoBulkEntry x + uptoBulkEntries r
def uptoBulkEntry {H : Type} : Lit × DataW H → Nat
  | (.string bytes, d) => bytes.length + uptoBulk d + 1
  | (_, d) => uptoBulk d + 1
 end
def uptoSmall : (H : Type) → List (DataW H) → Bool := fun _ ds => decide (uptoBulkAll ds ≤ 1048576)
def OpenSpec.upto (s : _root_.Go.ChangeSpec) : _root_.Go.OpenSpec := { _root_.Go.OpenSpec.ofChange s with cond := some uptoSmall }

/-- 'patternbookkeep.MergeSides', WHERE WHAT IT READS IS OF BULK AT MOST 1048576: true; the input reads as it did. -/
def mergeSidesUptoRow : OpenClaim := { program := "ytblkgaoafejefaadoor", sum := "618b96b181a8df1c2651469b681dde372d2d0697c69b1ac1c7534055467580aa", func := "patternbook/patternbookkeep.MergeSides", spec := "mergeSides", unfollowed := true, recurses := true, named := ["patternbook/book.words"], apart := false, laid := [("patternbook/book.words", laid_patternbook_book_words)], narrowed := true }
def MergeSidesUptoSaid : Prop := mergeSidesUptoRow.holds Tryd.pinned (OpenSpec.upto mergeSidesSpec)

/-- 'patternbookkeep.MergeSame', WHERE WHAT IT READS IS OF BULK AT MOST 1048576: true; the input reads as it did. -/
def mergeSameUptoRow : OpenClaim := { program := "ytblkgaoafejefaadoor", sum := "618b96b181a8df1c2651469b681dde372d2d0697c69b1ac1c7534055467580aa", func := "patternbook/patternbookkeep.MergeSame", spec := "mergeSame", unfollowed := true, recurses := true, named := ["patternbook/book.words"], apart := false, laid := [("patternbook/book.words", laid_patternbook_book_words)], narrowed := true }
def MergeSameUptoSaid : Prop := mergeSameUptoRow.holds Tryd.pinned (OpenSpec.upto mergeSameSpec)

/-- 'patternbookkeep.MergeFields', WHERE WHAT IT READS IS OF BULK AT MOST 1048576: true; the input reads as it did. -/
def mergeFieldsUptoRow : OpenClaim := { program := "ytblkgaoafejefaadoor", sum := "618b96b181a8df1c2651469b681dde372d2d0697c69b1ac1c7534055467580aa", func := "patternbook/patternbookkeep.MergeFields", spec := "mergeFields", unfollowed := true, recurses := true, named := ["patternbook/book.words"], apart := false, laid := [("patternbook/book.words", laid_patternbook_book_words)], narrowed := true }
def MergeFieldsUptoSaid : Prop := mergeFieldsUptoRow.holds Tryd.pinned (OpenSpec.upto mergeFieldsSpec)

end Rows
end Go.Proofs.YtblkgaoafejefaaDoor
