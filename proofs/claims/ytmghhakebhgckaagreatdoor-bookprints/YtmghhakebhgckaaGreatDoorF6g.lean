import Derived.Test.YtmghhakebhgckaaGreatDoorD9g
import Derived.Test.YtmghhakebhgckaaGreatDoorF5g
namespace Go.Proofs.YtmghhakebhgckaaGreatDoor
set_option linter.unusedSimpArgs false
set_option linter.unusedVariables false
open Go.ChangeShapes Go.WideShapes Go.ChangeAt Go.RowKit

/-- What BookPrints' row lists of the program's start. -/
theorem laidP_of {W : World} (h : laidMet Tryz.prog Rows.bookPrintsRow.laid W) : LaidG W ∧ TabAt W := by
  obtain ⟨ps, ⟨_, _, _, _, _, _, _, _, _, _, ⟨_, _, _, _, _, _, _, _, _, _, ⟨g3, t3, c3, f3, p3, q3, hg3, ht3, hv3, hd3, ⟨_, _, _, _, _, _, _, _, _, _, ⟨g4, t4, c4, f4, p4, q4, hg4, ht4, hv4, hd4, ⟨g5, t5, c5, f5, p5, q5, hg5, ht5, hv5, hd5, ⟨g6, t6, c6, f6, p6, q6, hg6, ht6, hv6, hd6, _, _⟩, _⟩, _⟩, _⟩, _⟩, _⟩, _⟩, _⟩ := h
  obtain rfl := Option.some.inj (gPow.symm.trans hg3)
  obtain rfl := Option.some.inj (gPowT.symm.trans ht3)
  obtain rfl := Option.some.inj (gWords.symm.trans hg4)
  obtain rfl := Option.some.inj (gWordsT.symm.trans ht4)
  obtain rfl := Option.some.inj (gRules.symm.trans hg5)
  obtain rfl := Option.some.inj (gRulesT.symm.trans ht5)
  obtain rfl := Option.some.inj (gKinds.symm.trans hg6)
  obtain rfl := Option.some.inj (gKindsT.symm.trans ht6)
  refine ⟨⟨laid_words hv4 hd4, laid_names rulesL gRules hv5 hd5, laid_names kindsL gKinds hv6 hd6⟩, ?_⟩
  unfold TabAt Lib.TabIs
  have e : c3.toList = Lib.pow10Tab.map fun z => Value.int .u64 z := Lib.cells_of_tab Tryz.underlying191 Tryz.underlying148 cells148 cells191 hd3
  rw [hv3, ← e]
end Go.Proofs.YtmghhakebhgckaaGreatDoor
