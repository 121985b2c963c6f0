import Derived.Test.YtblkgaoafejefaaDoorP3
import Derived.Lib.SlicesCompact
namespace Go.Proofs.YtblkgaoafejefaaDoor
set_option linter.unusedSimpArgs false
set_option linter.unusedVariables false
open Go.RowKit

/-- What is left of a sorted list when runs are made one: rising, of the same. -/
theorem compact_rise {α : Type} [Inhabited α] [DecidableEq α] {lt : α → α → Bool} (o : Ord3 lt) (zs : List α) (hs : zs.Pairwise fun x y => lt y x = false) :
    (Lib.compact zs).Pairwise (fun a b => lt a b = true) ∧ ∀ z, z ∈ Lib.compact zs ↔ z ∈ zs := by
  have hget : ∀ j (hj : j < zs.length), zs.toArray[j]! = zs[j] := fun j hj => by simp [hj]
  have hle : ∀ i j (hi : i < zs.length) (hj : j < zs.length), i ≤ j → lt zs[j] zs[i] = false := fun i j hi hj hij => by
    rcases Nat.lt_or_eq_of_le hij with h | h
    · exact List.pairwise_iff_getElem.1 hs i j hi hj h
    · subst h; exact o.irr _
  have hkeep : ∀ j, Lib.keeps zs.toArray j = true ↔ j = 0 ∨ zs.toArray[j]! ≠ zs.toArray[j - 1]! := fun j => by
    unfold Lib.keeps; simp
  constructor
  · unfold Lib.compact Lib.compactUpTo
    rw [List.pairwise_map]
    refine List.Pairwise.imp_of_mem ?_ (List.Pairwise.filter _ (List.pairwise_lt_range (n := zs.length)))
    intro i j hi hj hij
    rw [List.mem_filter, List.mem_range] at hi hj
    have hk := (hkeep j).1 hj.2
    have h0 : j ≠ 0 := by omega
    have hne := hk.resolve_left h0
    rw [hget j hj.1, hget (j - 1) (by omega)] at hne
    rw [hget i hi.1, hget j hj.1]
    have h1 := hle i (j - 1) hi.1 (by omega) (by omega)
    have h2 := hle (j - 1) j (by omega) hj.1 (by omega)
    have h3 : lt zs[j - 1] zs[j] = true := by
      cases h : lt (zs[j - 1]'(by omega)) zs[j] with
      | true => rfl
      | false => exact absurd (o.tot _ _ h2 h) hne
    cases h4 : lt zs[i] (zs[j - 1]'(by omega)) with
    | true => exact o.tr _ _ _ h4 h3
    | false => rw [o.tot _ _ h4 h1]; exact h3
  · intro z
    unfold Lib.compact Lib.compactUpTo
    simp only [List.mem_map, List.mem_filter, List.mem_range]
    constructor
    · rintro ⟨j, ⟨hj, _⟩, rfl⟩
      rw [hget j hj]; exact List.getElem_mem hj
    · intro hz
      obtain ⟨j, hj, rfl⟩ := List.getElem_of_mem hz
      have key : ∀ n (hn : n < zs.length), ∃ i, (i < zs.length ∧ Lib.keeps zs.toArray i = true) ∧ zs.toArray[i]! = zs[n] := by
        intro n
        induction n with
        | zero => intro hn; exact ⟨0, ⟨hn, (hkeep 0).2 (.inl rfl)⟩, hget 0 hn⟩
        | succ n ih =>
          intro hn
          by_cases he : zs.toArray[n + 1]! = zs.toArray[n]!
          · obtain ⟨i, hi, e⟩ := ih (by omega)
            exact ⟨i, hi, by rw [e, ← hget n (by omega), ← he, hget (n + 1) hn]⟩
          · exact ⟨n + 1, ⟨hn, (hkeep _).2 (.inr (by simpa using he))⟩, hget (n + 1) hn⟩
      exact key j hj
theorem compact_unions {α : Type} [Inhabited α] [DecidableEq α] {lt : α → α → Bool} (o : Ord3 lt) {l zs : List α} (hs : zs.Pairwise fun x y => lt y x = false) (hp : ∀ z, z ∈ zs ↔ z ∈ l) : Lib.compact zs = unions lt l := by
  obtain ⟨h1, h2⟩ := compact_rise o zs hs
  exact rise_same o _ _ h1 (rise_unions o l) fun z => by rw [h2, mem_unions o, hp]
theorem sortInt_rise (l : List Int) : (l.mergeSort fun x y => decide (x ≤ y)).Pairwise (fun x y => ltI y x = false) ∧ ∀ z, z ∈ (l.mergeSort fun x y => decide (x ≤ y)) ↔ z ∈ l := by
  refine ⟨(List.pairwise_mergeSort (le := fun x y : Int => decide (x ≤ y)) (fun a b c h1 h2 => by simp at *; omega) (fun a b => by simp; omega) l).imp fun h => by simp [ltI] at *; omega, fun z => List.mem_mergeSort⟩
end Go.Proofs.YtblkgaoafejefaaDoor
