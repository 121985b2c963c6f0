/-
  NARROWER THAN 'FOR EVERY INPUT', by the rows' own cells (each row's printed sentence says how): ValueBack: loops, laid · ValueOnce: laid · ValueLeast: laid.
  DERIVED. THE GIVEN ROWS OF THIS SEAT. 3 by the template 'for every input the law returns true; each argument reads behind the call as it read before'; 0 by the template 'total and deterministic' (their statements: YtidcagcdaanijaaDoorTotals.lean).
  GIVEN WITH THE SEED: the statements are not yours to turn. If you find one false, say at which input.
  Laid BY PROGRAM, IN A SANDBOX (cutbox-rows.mjs): the forced cells as the released guide's own fill.sh prints them over the translation 84a202d914562b00… (all of the seat's roots in one cut). By AI agents, Wed Nov 11 2026. No macro, syntax, notation, axiom, sorry.
-/
import Derived.Test.YtidcagcdaanijaaDoorChecked
import GoSem.Claim
import GoSem.ClaimJoined
import GoSem.ClaimMapViews
import Derived.JoinedTies
import Derived.KernelRfl
namespace Go.Proofs.YtidcagcdaanijaaDoor
/- THE CELL 'sum', in the pinned program and in every row, IS THE sha256 OF THE DUMP (.gsa) THAT YtidcagcdaanijaaDoorProg.lean LOADS. Nothing in Lean hashes anything: it is a label: what it is worth is what the hold of that sum in a sandbox is worth. -/
noncomputable def Tryd.pinned : Pinned := { name := "ytidcagcdaanijaadoor", sum := "84a202d914562b004cd601107e199621a7ea65a2e63ad32622b4082615193166", checked := Tryd.checked }
namespace Rows
def none {H : Type} : Left H := { results := [], args := [] }

/- WHAT THE LISTED PACKAGE-LEVEL VARIABLES READ AS WHEN THE CALL BEGINS. Each datum BY PROGRAM (the guide's laid-datum.mjs) off the statement by which the dump's own 'gosem.cut.vars' lays the variable. In a bare row this is a premise. The card (YtidcagcdaanijaaDoorCards.lean) ties it to the program's text. -/
def laid_patternbook_book_words {H : Type} : DataW H := .agg [.lit (.string [98, 111, 111, 108]), .lit (.string [101, 110, 117, 109]), .lit (.string [103, 111, 110, 101]), .lit (.string [105, 110, 116]), .lit (.string [109, 97, 110, 121]), .lit (.string [109, 97, 121, 98, 101]), .lit (.string [109, 101, 115, 115, 97, 103, 101]), .lit (.string [111, 110, 101]), .lit (.string [116, 101, 120, 116])]

/-- 'patternbookkeep.ValueBack': WHATEVER THE INPUT: true; the input reads as it did. -/
def valueBackSpec : ChangeSpec := { name := "valueBack", fn := fun _ => fun
  | [d1, d2, d3] => { results := [.lit (.bool true)], args := [d1, d2, d3] }
  | _ => none }
def valueBackRow : OpenClaim := { program := "ytidcagcdaanijaadoor", sum := "84a202d914562b004cd601107e199621a7ea65a2e63ad32622b4082615193166", func := "patternbook/patternbookkeep.ValueBack", spec := "valueBack", inPlace := ["slices.overlaps[int]", "slices.overlaps[patternbook/api.Value]"], recurses := true, named := ["patternbook/book.words"], loops := true, apart := false, laid := [("patternbook/book.words", laid_patternbook_book_words)] }
def ValueBackSaid : Prop := valueBackRow.holds Tryd.pinned (OpenSpec.ofChange valueBackSpec)

/-- ITS FALSE NEIGHBOUR: 'it returns false'. Refute it at one input. -/
def valueBackWrong : ChangeSpec := { name := "valueBack", fn := fun _ => fun
  | [d1, d2, d3] => { results := [.lit (.bool false)], args := [d1, d2, d3] }
  | _ => none }
def ValueBackWrongFalsely : Prop := valueBackRow.holds Tryd.pinned (OpenSpec.ofChange valueBackWrong)

/-- 'patternbookkeep.ValueOnce': WHATEVER THE INPUT: true; the input reads as it did. -/
def valueOnceSpec : ChangeSpec := { name := "valueOnce", fn := fun _ => fun
  | [d1, d2, d3] => { results := [.lit (.bool true)], args := [d1, d2, d3] }
  | _ => none }
def valueOnceRow : OpenClaim := { program := "ytidcagcdaanijaadoor", sum := "84a202d914562b004cd601107e199621a7ea65a2e63ad32622b4082615193166", func := "patternbook/patternbookkeep.ValueOnce", spec := "valueOnce", inPlace := ["slices.overlaps[int]", "slices.overlaps[patternbook/api.Value]"], recurses := true, named := ["patternbook/book.words"], apart := false, laid := [("patternbook/book.words", laid_patternbook_book_words)] }
def ValueOnceSaid : Prop := valueOnceRow.holds Tryd.pinned (OpenSpec.ofChange valueOnceSpec)

/-- ITS FALSE NEIGHBOUR: 'it returns false'. Refute it at one input. -/
def valueOnceWrong : ChangeSpec := { name := "valueOnce", fn := fun _ => fun
  | [d1, d2, d3] => { results := [.lit (.bool false)], args := [d1, d2, d3] }
  | _ => none }
def ValueOnceWrongFalsely : Prop := valueOnceRow.holds Tryd.pinned (OpenSpec.ofChange valueOnceWrong)

/-- 'patternbookkeep.ValueLeast': WHATEVER THE INPUT: true; the input reads as it did. -/
def valueLeastSpec : ChangeSpec := { name := "valueLeast", fn := fun _ => fun
  | [d1, d2] => { results := [.lit (.bool true)], args := [d1, d2] }
  | _ => none }
def valueLeastRow : OpenClaim := { program := "ytidcagcdaanijaadoor", sum := "84a202d914562b004cd601107e199621a7ea65a2e63ad32622b4082615193166", func := "patternbook/patternbookkeep.ValueLeast", spec := "valueLeast", inPlace := ["slices.overlaps[int]", "slices.overlaps[patternbook/api.Value]"], recurses := true, named := ["patternbook/book.words"], apart := false, laid := [("patternbook/book.words", laid_patternbook_book_words)] }
def ValueLeastSaid : Prop := valueLeastRow.holds Tryd.pinned (OpenSpec.ofChange valueLeastSpec)

/-- ITS FALSE NEIGHBOUR: 'it returns false'. Refute it at one input. -/
def valueLeastWrong : ChangeSpec := { name := "valueLeast", fn := fun _ => fun
  | [d1, d2] => { results := [.lit (.bool false)], args := [d1, d2] }
  | _ => none }
def ValueLeastWrongFalsely : Prop := valueLeastRow.holds Tryd.pinned (OpenSpec.ofChange valueLeastWrong)

/- THE SECOND FORM. 'bulk': how many values and letters a reading holds, each counted each time it is reached (what is shared counts as often as it is met; a slice's spare places count too). A statement '..UptoSaid' is the law's where the arguments, and the package variables that the reading takes, are together of bulk at most 1048576: NARROWER than '..Said'. Prove '..Said' where nothing that the law and all that it calls make is longer than what came in: it says more and counts as full. Else prove '..UptoSaid'. A law counts once. -/
mutual
def uptoBulk {H : Type} : DataW H → Nat
  | .lit (.string bytes) => bytes.length + 1
  | .lit _ => 1
  | .nil => 1
  | .ptr d => uptoBulk d + 1
  | .slice elems spare => uptoBulkAll elems + uptoBulkAll spare + 1
  | .agg parts => uptoBulkAll parts + 1
  | .iface _ d => uptoBulk d + 1
  | .map entries => uptoBulkEntries entries + 1
  | .held _ => 1
def uptoBulkAll {H : Type} : List (DataW H) → Nat
  | [] => 0
  | d :: r => uptoBulk d + uptoBulkAll r
def uptoBulkEntries {H : Type} : List (Lit × DataW H) → Nat
  | [] => 0
  | x :: r => uptoBulkEntry x + uptoBulkEntries r
def uptoBulkEntry {H : Type} : Lit × DataW H → Nat
  | (.string bytes, d) => bytes.length + uptoBulk d + 1
  | (_, d) => uptoBulk d + 1
 end
def uptoSmall : (H : Type) → List (DataW H) → Bool := fun _ ds => decide (uptoBulkAll ds ≤ 1048576)
def OpenSpec.upto (s : _root_.Go.ChangeSpec) : _root_.Go.OpenSpec := { _root_.Go.OpenSpec.ofChange s with cond := some uptoSmall }

/-- 'patternbookkeep.ValueBack', WHERE WHAT IT READS IS OF BULK AT MOST 1048576: true; the input reads as it did. -/
def valueBackUptoRow : OpenClaim := { program := "ytidcagcdaanijaadoor", sum := "84a202d914562b004cd601107e199621a7ea65a2e63ad32622b4082615193166", func := "patternbook/patternbookkeep.ValueBack", spec := "valueBack", inPlace := ["slices.overlaps[int]", "slices.overlaps[patternbook/api.Value]"], recurses := true, named := ["patternbook/book.words"], loops := true, apart := false, laid := [("patternbook/book.words", laid_patternbook_book_words)], narrowed := true }
def ValueBackUptoSaid : Prop := valueBackUptoRow.holds Tryd.pinned (OpenSpec.upto valueBackSpec)

/-- 'patternbookkeep.ValueOnce', WHERE WHAT IT READS IS OF BULK AT MOST 1048576: true; the input reads as it did. -/
def valueOnceUptoRow : OpenClaim := { program := "ytidcagcdaanijaadoor", sum := "84a202d914562b004cd601107e199621a7ea65a2e63ad32622b4082615193166", func := "patternbook/patternbookkeep.ValueOnce", spec := "valueOnce", inPlace := ["slices.overlaps[int]", "slices.overlaps[patternbook/api.Value]"], recurses := true, named := ["patternbook/book.words"], apart := false, laid := [("patternbook/book.words", laid_patternbook_book_words)], narrowed := true }
def ValueOnceUptoSaid : Prop := valueOnceUptoRow.holds Tryd.pinned (OpenSpec.upto valueOnceSpec)

/-- 'patternbookkeep.ValueLeast', WHERE WHAT IT READS IS OF BULK AT MOST 1048576: true; the input reads as it did. -/
def valueLeastUptoRow : OpenClaim := { program := "ytidcagcdaanijaadoor", sum := "84a202d914562b004cd601107e199621a7ea65a2e63ad32622b4082615193166", func := "patternbook/patternbookkeep.ValueLeast", spec := "valueLeast", inPlace := ["slices.overlaps[int]", "slices.overlaps[patternbook/api.Value]"], recurses := true, named := ["patternbook/book.words"], apart := false, laid := [("patternbook/book.words", laid_patternbook_book_words)], narrowed := true }
def ValueLeastUptoSaid : Prop := valueLeastUptoRow.holds Tryd.pinned (OpenSpec.upto valueLeastSpec)

end Rows
end Go.Proofs.YtidcagcdaanijaaDoor
