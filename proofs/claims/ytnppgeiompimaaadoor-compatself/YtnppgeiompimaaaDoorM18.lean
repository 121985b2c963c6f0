import Derived.Test.YtnppgeiompimaaaDoorM17
import Derived.Lib.Overlaps
import Derived.Laws.Externs
import Derived.Lib.AppendZerosOnto
import Derived.Laws.NewBlocks
namespace Go.Proofs.YtnppgeiompimaaaDoor
set_option linter.unusedSimpArgs false
set_option linter.unusedVariables false
set_option linter.unusedSimpArgs false
set_option linter.unusedVariables false
open Go.RowKit
end Go.Proofs.YtnppgeiompimaaaDoor

namespace Go.Proofs.YtnppgeiompimaaaDoor
set_option linter.unusedSimpArgs false
set_option linter.unusedVariables false
open Go.RowKit

theorem grow_in {cur : List Value} {k i n : Nat} {news z y : List Value} (hk : news.length = k) (hi : i < n) (hl : cur.length = n * k) (hz : z.length = (n + 1 - i) * k) :
    ((((cur.take (i * k) ++ z ++ y).take (i * k) ++ news ++ (cur.take (i * k) ++ z ++ y).drop (i * k + news.length)).take ((i + 1) * k) ++ cur.drop (i * k) ++ ((cur.take (i * k) ++ z ++ y).take (i * k) ++ news ++ (cur.take (i * k) ++ z ++ y).drop (i * k + news.length)).drop ((i + 1) * k + (cur.drop (i * k)).length)).take ((n + 1) * k)) = cur.take (i * k) ++ news ++ cur.drop (i * k) := by
  have e1 : (i + 1) * k = i * k + k := by rw [Nat.add_mul]; omega
  have e2 : (n + 1) * k = n * k + k := by rw [Nat.add_mul]; omega
  have h1 : i * k ≤ n * k := Nat.mul_le_mul_right _ (by omega)
  have a1 : (cur.take (i * k)).length = i * k := by rw [List.length_take]; omega
  have t1 : (cur.take (i * k) ++ z ++ y).take (i * k) = cur.take (i * k) := by
    rw [List.append_assoc, List.take_append_of_le_length (by omega), List.take_of_length_le (by omega)]
  rw [t1]
  have t2 : (cur.take (i * k) ++ news ++ (cur.take (i * k) ++ z ++ y).drop (i * k + news.length)).take ((i + 1) * k) = cur.take (i * k) ++ news := by
    rw [List.take_append_of_le_length (by rw [List.length_append]; omega), List.take_of_length_le (by rw [List.length_append]; omega)]
  rw [t2, List.take_append_of_le_length (by rw [List.length_append, List.length_append, List.length_drop]; omega), List.take_of_length_le (by rw [List.length_append, List.length_append, List.length_drop]; omega)]
theorem zeros_len (z : Value) (n : Nat) : (Builtin.zeroCells z.cells n).toList.length = n * z.cells.size := by
  simp [Builtin.zeroCells, Nat.mul_comm]

end Go.Proofs.YtnppgeiompimaaaDoor

