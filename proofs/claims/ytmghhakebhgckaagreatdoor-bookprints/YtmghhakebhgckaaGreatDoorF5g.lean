import Derived.Test.YtmghhakebhgckaaGreatDoorD6g
import Derived.Test.YtmghhakebhgckaaGreatDoorF4g
namespace Go.Proofs.YtmghhakebhgckaaGreatDoor
set_option linter.unusedSimpArgs false
set_option linter.unusedVariables false
open Go.ChangeShapes Go.WideShapes Go.ChangeAt Go.RowKit

/-- What the rows of the document's own answer list of the program's start. -/
theorem laidG_of {W : World} (h : laidMet Tryz.prog Rows.bookGoodsRow.laid W) : LaidG W := by
  obtain ⟨ps, ⟨_, _, _, _, _, _, _, _, _, _, ⟨g4, t4, c4, f4, p4, q4, hg4, ht4, hv4, hd4, ⟨g5, t5, c5, f5, p5, q5, hg5, ht5, hv5, hd5, ⟨g6, t6, c6, f6, p6, q6, hg6, ht6, hv6, hd6, _, _⟩, _⟩, _⟩, _⟩, _⟩ := h
  obtain rfl := Option.some.inj (gWords.symm.trans hg4)
  obtain rfl := Option.some.inj (gWordsT.symm.trans ht4)
  obtain rfl := Option.some.inj (gRules.symm.trans hg5)
  obtain rfl := Option.some.inj (gRulesT.symm.trans ht5)
  obtain rfl := Option.some.inj (gKinds.symm.trans hg6)
  obtain rfl := Option.some.inj (gKindsT.symm.trans ht6)
  exact ⟨laid_words hv4 hd4, laid_names rulesL gRules hv5 hd5, laid_names kindsL gKinds hv6 hd6⟩

/-- A variable of an integer's type holds some integer. -/
theorem int_of_shape {P : Program} {w : World} {g : Nat} {t : TypeId} {k : IntKind} {zero : Array Value} (h : w.ShapedOpen P) (hg : g < P.globals.size)
    (h0 : ((begin P (fun _ _ => 0) default).world.heap[g]?).bind Obj.row? = some (zero, t)) (hz : zero.size = 1)
    (hb : P.buildable t = true) (hc : P.cellTypes P.depth t = some [t]) (hu : P.underlying t = some (.int k)) : ∃ n : Int, w.cell? ⟨g, 0, none⟩ = some (.int k n) := by
  obtain ⟨cs, hh, hs, hr⟩ := h.1 g zero t hg h0
  obtain ⟨ts, hts, _, hall⟩ := hr hb
  rw [hc] at hts
  cases hts
  have h1 : 0 < cs.size := by omega
  obtain ⟨u, hu', hok⟩ := hall 0 cs[0] (Array.getElem?_eq_getElem h1)
  have hut : u = t := by simpa using hu'.symm
  subst hut
  have hcell : w.cell? ⟨g, 0, none⟩ = some cs[0] := (cell_of_row w g 0 cs u (0, 0) hh).trans (Array.getElem?_eq_getElem h1)
  rw [hcell]
  unfold Cell.ok at hok
  rw [hu] at hok
  cases hv : cs[0] with
  | int k' n =>
    rw [hv] at hok
    simp at hok
    obtain ⟨rfl, _⟩ := hok
    exact ⟨n, rfl⟩
  | _ => rw [hv] at hok; simp at hok
/-- The variable of the table's length is there. -/
theorem max_of {W : World} (h : W.ShapedOpen Tryz.prog) : MaxAt W :=
  int_of_shape (zero := #[.int .i64 0]) (t := 3) h (by decide +kernel) (by kernel_rfl) rfl (by kernel_rfl) (by kernel_rfl) Tryz.underlying3

def acceptL : List Int := [128, 191, 160, 191, 128, 159, 144, 191, 128, 143, 0, 0, 0, 0, 0, 0, 0, 0, 0, 0, 0, 0, 0, 0, 0, 0, 0, 0, 0, 0, 0, 0]
def layHeapG (N : Nat) (h : Array Obj) : Array Obj :=
  putCells (putCells (layHeap N h) 4 (Go.Pinned.utf8FirstZ.map fun z : Nat => Value.int .u8 (z : Int)).toArray) 5 (acceptL.map fun z => Value.int .u8 z).toArray
end Go.Proofs.YtmghhakebhgckaaGreatDoor
