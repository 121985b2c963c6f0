import Derived.Test.YtmdpdgldmedebaaGreatDoorM19
namespace Go.Proofs.YtmdpdgldmedebaaGreatDoor
set_option linter.unusedSimpArgs false
set_option linter.unusedVariables false
set_option linter.unusedSimpArgs false
set_option linter.unusedVariables false
open Go.RowKit

theorem insPI : InsP 84 3 1 := by
  intro base w v n xs i g news ho hi hl hgr hne h1 hn hbase h1c
  by_cases hin : i = n
  · subst hin
    have hnews : w.rangeAt g 0 news := by
      intro j u hu
      rw [Nat.zero_add, cell_of_row w g j news.toArray 3 _ hgr]; simpa using hu
    refine (insertI_end base w v i xs g news ho hl hnews h1 hn hbase).mono ?_
    rintro e w' ⟨v', rfl, a, b, c⟩
    refine ⟨v', rfl, ?_, b, c⟩
    rw [List.take_of_length_le (by rw [ho.1]; exact Nat.le_refl _), List.drop_of_length_le (by rw [ho.1]; exact Nat.le_refl _), List.append_nil]; exact a
  · have hlt : i < n := by omega
    rcases ho.2 with ⟨_, h0⟩ | ⟨g0, c, cur, rfl, hbg, hg, hnc, hcm, hcz, htake⟩
    · omega
    · have hgne : g ≠ g0 := fun e => hne (by rw [e]; rfl)
      by_cases hroom : n + 1 ≤ c
      · refine (insertI_room w g0 n c i g cur news hg hroom hcm hcz hlt hl hgr hgne h1 (by rw [htake]; exact h1c) hn).mono ?_
        rintro e w' ⟨rfl, cur', a1, a2, a3, a4⟩
        rw [htake] at a3
        refine ⟨_, rfl, ⟨?_, .inr ⟨g0, c, cur', rfl, hbg, a1, by omega, hcm, a2, a3⟩⟩, a4, .inl rfl⟩
        rw [← a3, List.length_take, Array.length_toList, a2]
        have : (n + 1) * 1 ≤ c * 1 := Nat.mul_le_mul_right _ hroom
        omega
      · obtain rfl : c = n := by omega
        have hall : cur.toList = xs := by rw [← htake, List.take_of_length_le (by rw [Array.length_toList, hcz]; exact Nat.le_refl _)]
        refine (insertI_grow w g0 c i g cur news hg hcz hlt hl hgr h1 (by rw [hall]; exact h1c) hn).mono ?_
        rintro e w' ⟨G, cur', rfl, a1, a2, a3, a4, a5, a6⟩
        rw [hall] at a5
        refine ⟨_, rfl, ⟨?_, .inr ⟨w.heap.size, G, cur', rfl, hbase, a1, a2, a3, a4, a5⟩⟩, ?_, .inr ⟨w.heap.size, rfl, Nat.le_refl _⟩⟩
        · rw [← a5, List.length_take, Array.length_toList, a4]
          have : (c + 1) * 1 ≤ G * 1 := Nat.mul_le_mul_right _ a2
          omega
        · exact ⟨a6.os, a6.tape, a6.output, a6.size, fun k hk _ => a6.block k hk (by simp)⟩

theorem insPV : InsP 85 28 5 := by
  intro base w v n xs i g news ho hi hl hgr hne h1 hn hbase h1c
  by_cases hin : i = n
  · subst hin
    have hnews : w.rangeAt g 0 news := by
      intro j u hu
      rw [Nat.zero_add, cell_of_row w g j news.toArray 28 _ hgr]; simpa using hu
    refine (insertV_end base w v i xs g news ho hl hnews h1 hn hbase).mono ?_
    rintro e w' ⟨v', rfl, a, b, c⟩
    refine ⟨v', rfl, ?_, b, c⟩
    rw [List.take_of_length_le (by rw [ho.1]; exact Nat.le_refl _), List.drop_of_length_le (by rw [ho.1]; exact Nat.le_refl _), List.append_nil]; exact a
  · have hlt : i < n := by omega
    rcases ho.2 with ⟨_, h0⟩ | ⟨g0, c, cur, rfl, hbg, hg, hnc, hcm, hcz, htake⟩
    · omega
    · have hgne : g ≠ g0 := fun e => hne (by rw [e]; rfl)
      by_cases hroom : n + 1 ≤ c
      · refine (insertV_room w g0 n c i g cur news hg hroom hcm hcz hlt hl hgr hgne h1 (by rw [htake]; exact h1c) hn).mono ?_
        rintro e w' ⟨rfl, cur', a1, a2, a3, a4⟩
        rw [htake] at a3
        refine ⟨_, rfl, ⟨?_, .inr ⟨g0, c, cur', rfl, hbg, a1, by omega, hcm, a2, a3⟩⟩, a4, .inl rfl⟩
        rw [← a3, List.length_take, Array.length_toList, a2]
        have : (n + 1) * 5 ≤ c * 5 := Nat.mul_le_mul_right _ hroom
        omega
      · obtain rfl : c = n := by omega
        have hall : cur.toList = xs := by rw [← htake, List.take_of_length_le (by rw [Array.length_toList, hcz]; exact Nat.le_refl _)]
        refine (insertV_grow w g0 c i g cur news hg hcz hlt hl hgr h1 (by rw [hall]; exact h1c) hn).mono ?_
        rintro e w' ⟨G, cur', rfl, a1, a2, a3, a4, a5, a6⟩
        rw [hall] at a5
        refine ⟨_, rfl, ⟨?_, .inr ⟨w.heap.size, G, cur', rfl, hbase, a1, a2, a3, a4, a5⟩⟩, ?_, .inr ⟨w.heap.size, rfl, Nat.le_refl _⟩⟩
        · rw [← a5, List.length_take, Array.length_toList, a4]
          have : (c + 1) * 5 ≤ G * 5 := Nat.mul_le_mul_right _ a2
          omega
        · exact ⟨a6.os, a6.tape, a6.output, a6.size, fun k hk _ => a6.block k hk (by simp)⟩
end Go.Proofs.YtmdpdgldmedebaaGreatDoor

