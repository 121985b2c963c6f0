import Derived.Test.YtgobejbboeeieaaA3
namespace Go.Proofs.Ytgobejbboeeieaa
set_option linter.unusedSimpArgs false
set_option linter.unusedVariables false
open Go.RowKit

theorem ret_bool {a b : Bool} (h : a = b) : Ending.returned (.bool a) = .returned (.bool b) := by rw [h]
theorem bytes_toList (s : ByteArray) : s.toList = s.data.toList := ByteArray.toList_eq s
theorem size_toList (s : ByteArray) : s.toList.length = s.size := by rw [bytes_toList, bytes_len]
theorem isEmpty_iff (s : ByteArray) : s.toList.isEmpty = true ↔ s = ⟨#[]⟩ := by
  rw [bytes_toList, List.isEmpty_iff]
  exact ⟨fun h => bytes_ext (by rw [h]), fun h => by rw [h]⟩
theorem goodB_eq {p : PartM} {b : Bool} (h : b = true ↔ p.good) : b = goodB p := by rw [Bool.eq_iff_iff, h, goodB_true]
set_option maxHeartbeats 1600000 in
theorem good_any (p : PartM) (w : World) (hs : p.s.size ≤ 9223372036854775807) :
    Calls Try.prog 9 #[.agg #[.int .i64 p.id, .int .i64 p.kind, .int .i64 p.n, .string p.s]] w fun e w' => e = .returned (.bool (goodB p)) ∧ Ext w w' := by
  obtain ⟨id, kind, n, s⟩ := p
  simp only at hs
  go_enter Try.func9, Try.ntmps9
  go_wp2
  all_goals go_ret
  all_goals refine ⟨ret_bool (goodB_eq ?_), (Ext.refl _).alloc _⟩
  all_goals simp only [PartM.good]
  all_goals try simp only [beq_iff_eq, beq_eq_false_iff_ne, ne_eq] at *
  all_goals (rw [← isEmpty_iff s] ; cases hse : s.toList.isEmpty <;> simp <;> omega)
end Go.Proofs.Ytgobejbboeeieaa
