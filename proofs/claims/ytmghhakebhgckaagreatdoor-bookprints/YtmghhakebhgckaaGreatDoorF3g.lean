import Derived.Test.YtmghhakebhgckaaGreatDoorF2g
namespace Go.Proofs.YtmghhakebhgckaaGreatDoor
set_option linter.unusedSimpArgs false
set_option linter.unusedVariables false
open Go.ChangeShapes Go.WideShapes Go.ChangeAt Go.RowKit

/-- What the program's start lays, put into a heap: the variables' own cells, the two lists' arrays lie at N and behind it. -/
def putCells (h : Array Obj) (g : Nat) (cs : Array Value) : Array Obj := h.modify g fun
  | .cells _ t frozen => .cells cs t frozen
  | o => o
def strRow (L : List (List UInt8)) : Array Value := (L.map fun l => Value.string ⟨l.toArray⟩).toArray
def tab32 : List Int := [0, 1, 28, 2, 29, 14, 24, 3, 30, 22, 20, 15, 25, 17, 4, 8, 31, 27, 13, 23, 21, 19, 16, 7, 26, 12, 18, 6, 11, 5, 10, 9]
def tab64 : List Int := [0, 1, 56, 2, 57, 49, 28, 3, 61, 58, 42, 50, 38, 29, 17, 4, 62, 47, 59, 36, 45, 43, 51, 22, 53, 39, 33, 30, 24, 18, 12, 5, 63, 55, 48, 27, 60, 41, 37, 16, 46, 35, 44, 21, 52, 32, 23, 11, 54, 26, 40, 15, 34, 20, 31, 10, 25, 14, 19, 9, 13, 8, 7, 6]
def layHeap (N : Nat) (h : Array Obj) : Array Obj :=
  putCells (putCells (putCells (putCells (putCells (putCells h 0 (strRow wordsL)) 1 #[.slice (some ⟨N, 0, none⟩) 4 4]) 2 #[.slice (some ⟨N + 1, 0, none⟩) 4 4])
    6 (Lib.pow10Tab.map fun z => Value.int .u64 z).toArray) 7 (tab32.map fun z => Value.int .u8 z).toArray) 8 (tab64.map fun z => Value.int .u8 z).toArray
def twoLists : Input := ⟨#[.cells (strRow rulesL) 9, .cells (strRow kindsL) 9], #[], []⟩

set_option maxRecDepth 100000 in
theorem bookOnce_wit (os : Os) {H : Type} (enc : TypeId × Value → H) :
    ∃ (w : World) (tape : Tape) (i : Input), w.os = os ∧ (w.forCall tape i).Shaped Tryz.checked.prog ∧ i.vars = [] ∧ Input.okWide Tryz.checked.prog (w.forCall tape i) .any w.heap.size 7 i ∧
      (OpenSpec.ofChange Rows.bookOnceSpec).preRow enc Tryz.checked.prog Tryz.f7 Rows.bookOnceRow.domain false Rows.bookOnceRow.laid (w.forCall tape i).memory i.args ∧ ({ modest := false } : Assume).holds Tryz.checked.prog (lone (Frame.enter Tryz.checked.prog 7 i.args .normal) [] (w.forCall tape i)) := by
  refine witness_row_atRef (enc := enc) (C := Tryz.checked) false { World.holding Tryz.prog os twoLists with heap := layHeap (World.settled Tryz.prog os).heap.size (World.holding Tryz.prog os twoLists).heap } #[.string ⟨#[]⟩] rfl (by kernel_rfl) (by kernel_rfl) (by kernel_rfl) ?_
  refine OpenSpec.preRow_of_cond 8 (x := ([.lit (.string [])], [], [])) (by kernel_rfl) (by kernel_rfl) (fun k hk => by cases hk) (by kernel_rfl) ?_
  exact laidMet_of_run' 8 (by kernel_rfl) (by kernel_rfl)
end Go.Proofs.YtmghhakebhgckaaGreatDoor
