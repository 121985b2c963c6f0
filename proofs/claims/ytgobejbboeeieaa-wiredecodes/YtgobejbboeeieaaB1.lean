import Derived.Test.YtgobejbboeeieaaA13
namespace Go.Proofs.Ytgobejbboeeieaa
set_option linter.unusedSimpArgs false
set_option linter.unusedVariables false
open Go.RowKit

set_option maxHeartbeats 1600000 in
theorem lawWires_any (w : World) : Calls Try.prog 11 #[] w fun e w' => e = .returned (.bool true) ∧ Ext w w' := by
  go_enter Try.func11, Try.ntmps11
  go_wp2_with fail
  refine (encode_any ⟨some ⟨w.heap.size, 0, none⟩, 2, 2⟩ wiresM _ (wires_parts w) (by decide) (by decide)).mono ?_
  rintro e w1 ⟨rfl, hx1⟩
  rw [wires_encS.1, wires_encS.2]
  go_wp2
  go_ret
  exact ⟨ret_bool (by decide), ((Ext.refl w).alloc _).trans hx1⟩

set_option maxHeartbeats 3200000 in
theorem isPart_any (p : PartM) (w : World) (hs : p.s.size ≤ 9223372036854775807) :
    Calls Try.prog 10 #[.agg #[.int .i64 p.id, .int .i64 p.kind, .int .i64 p.n, .string p.s]] w fun e w' => e = .returned (.bool (goodB p)) ∧ Ext w w' := by
  obtain ⟨id, kind, n, s⟩ := p
  simp only at hs
  by_cases h0 : id < 1 ∨ 30 < id ∨ 1099511627776 < n ∨ n < -1099511627776 ∨ 20000 < (s.size : Int)
  · have hb : goodB ⟨id, kind, n, s⟩ = false := by
      rw [goodB_false]
      rintro ⟨h1, h2, h3⟩
      simp only at h1 h2 h3
      rcases h3 with ⟨_, h3, h4, rfl⟩ | ⟨_, h3, h4⟩
      · have : (ByteArray.mk #[]).size = 0 := rfl
        omega
      · omega
    rw [hb]
    go_enter Try.func10, Try.ntmps10
    go_wp2
    all_goals first | (exfalso; omega) | skip
    all_goals go_ret
    all_goals exact ⟨rfl, (Ext.refl _).alloc _⟩
  · have h1 : 1 ≤ id := by omega
    have h2 : id ≤ 30 := by omega
    have h3 : n ≤ 1099511627776 := by omega
    have h4 : -1099511627776 ≤ n := by omega
    have h5 : (s.size : Int) ≤ 20000 := by omega
    clear h0
    go_enter Try.func10, Try.ntmps10
    go_wp2
    all_goals go_ret
    all_goals refine ⟨ret_bool (goodB_eq ?_), (Ext.refl _).alloc _⟩
    all_goals simp only [PartM.good]
    all_goals try simp only [beq_iff_eq, beq_eq_false_iff_ne, ne_eq] at *
    all_goals (rw [← isEmpty_iff s]; cases hse : s.toList.isEmpty <;> simp <;> simp_all <;> omega)
end Go.Proofs.Ytgobejbboeeieaa
