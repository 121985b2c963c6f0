import Derived.Test.YtnppgeiompimaaaDoorM16
import Derived.Laws.CopyRow
import Derived.Lib.Overlaps
import Derived.Laws.Externs
namespace Go.Proofs.YtnppgeiompimaaaDoor
set_option linter.unusedSimpArgs false
set_option linter.unusedVariables false
set_option linter.unusedSimpArgs false
set_option linter.unusedVariables false
open Go.RowKit

/-- copy within rows, of elements of k cells. -/
theorem run_copy_rowk {P : Program} (w : World) (dT sT ty elem : TypeId) (k g o dLen dCap : Nat) (a : Addr) (sLen sCap m : Nat) (cur : Array Value) (t : TypeId) (cs : List Value)
    (hu : P.underlying dT = some (.slice elem)) (hs : (P.info? elem).map (·.size) = some k)
    (hg : w.heap[g]? = some (.cells cur t (0, 0))) (hm : m = Nat.min sLen dLen) (hn : cs.length = m * k)
    (hsrc : ∀ j v, cs[j]? = some v → w.cell? (a.add j) = some v) (hfit : o + cs.length ≤ cur.size) (h1 : ∀ v ∈ cs, v.oneCell' = true) :
    (Builtin.copy_ #[dT, sT] ty #[.slice (some ⟨g, o, none⟩) dLen dCap, .slice (some a) sLen sCap]).run P w =
      .ok (goInt m) (w.setRow g (cur.toList.take o ++ cs ++ cur.toList.drop (o + cs.length)).toArray) := by
  have hl := run_loadCells_list (P := P) w a cs hsrc
  have hst := run_storeCells_at P g o t cs 0 cur w hg (by simpa using hfit) h1
  cases hq : P.info? elem with
  | none => simp [hq] at hs
  | some i =>
    have hi : i.size = k := by simpa [hq] using hs
    simp [Builtin.copy_, run_underlying hu, Builtin.lenOf, Builtin.firstCells, sizeOf, typeInfo, hq, hi, ← hm, ← hn, hl, hst]
/-- .. as one operation. -/
theorem wpList_copyk {P : Program} {w : World} {ops : Array Oper} {rest : List Oper} {o : Oper} {a : Act} {Q : Exit → Act → World → Prop} (d s : Operand) (t t' : TypeId) (hgd : o.guard = none)
    (ho : o.op = .call { callee := .builtin .copy, args := #[d, s], argTypes := #[t, t'] }) (v u : Value) (hd : a.eval d = v) (hs : a.eval s = u) {v' : Value} {w' : World}
    (hr : (Builtin.copy_ #[t, t'] o.type #[v, u]).run P w = .ok v' w') (h : wpList P ops Q rest (a.put o.dst v') w') : wpList P ops Q (o :: rest) a w := by
  refine wpList_plain hgd fun _ hK => ?_
  unfold Oper.wp execOp
  simp only [ho, resolve, invoke, builtin, Sem.run_bind, Sem.run_pure, Result.andThen_ok, List.map_toArray, List.map_cons, List.map_nil, hd, hs, hr]
  exact hK _ _ h
theorem size3 : (Tryd.prog.info? 3).map (·.size) = some 1 := by kernel_rfl
theorem size28 : (Tryd.prog.info? 28).map (·.size) = some 5 := by kernel_rfl
/-- A row, with one put in: what stood from there on has moved up first. -/
theorem put_in {cur : List Value} {k i n c : Nat} {news : List Value} (hk : news.length = k) (hi : i ≤ n) (hc : n + 1 ≤ c) (hl : cur.length = c * k) :
    (((cur.take ((i + 1) * k) ++ (cur.take (n * k)).drop (i * k) ++ cur.drop ((n + 1) * k)).take (i * k) ++ news ++ (cur.take ((i + 1) * k) ++ (cur.take (n * k)).drop (i * k) ++ cur.drop ((n + 1) * k)).drop ((i + 1) * k)).take ((n + 1) * k)) = (cur.take (n * k)).take (i * k) ++ news ++ (cur.take (n * k)).drop (i * k) := by
  have e1 : (i + 1) * k = i * k + k := by rw [Nat.add_mul]; omega
  have e2 : (n + 1) * k = n * k + k := by rw [Nat.add_mul]; omega
  have h1 : i * k ≤ n * k := Nat.mul_le_mul_right _ hi
  have h2 : n * k + k ≤ c * k := by rw [← e2]; exact Nat.mul_le_mul_right _ hc
  have a1 : (cur.take ((i + 1) * k)).length = i * k + k := by rw [List.length_take]; omega
  have a2 : ((cur.take (n * k)).drop (i * k)).length = n * k - i * k := by rw [List.length_drop, List.length_take]; omega
  have t1 : (cur.take ((i + 1) * k) ++ (cur.take (n * k)).drop (i * k) ++ cur.drop ((n + 1) * k)).take (i * k) = cur.take (i * k) := by
    rw [List.append_assoc, List.take_append_of_le_length (by omega), List.take_take, Nat.min_eq_left (by omega)]
  have t2 : (cur.take ((i + 1) * k) ++ (cur.take (n * k)).drop (i * k) ++ cur.drop ((n + 1) * k)).drop ((i + 1) * k) = (cur.take (n * k)).drop (i * k) ++ cur.drop ((n + 1) * k) := by
    rw [List.append_assoc, List.drop_append_of_le_length (by omega), List.drop_of_length_le (by omega), List.nil_append]
  rw [t1, t2, List.take_take, Nat.min_eq_left h1, ← List.append_assoc]
  rw [List.take_append_of_le_length (by simp only [List.length_append, a2, hk, List.length_take]; omega)]
  rw [List.take_of_length_le (by simp only [List.length_append, a2, hk, List.length_take]; omega)]
end Go.Proofs.YtnppgeiompimaaaDoor

namespace Go.Proofs.YtnppgeiompimaaaDoor
set_option linter.unusedSimpArgs false
set_option linter.unusedVariables false
open Go.RowKit
end Go.Proofs.YtnppgeiompimaaaDoor

