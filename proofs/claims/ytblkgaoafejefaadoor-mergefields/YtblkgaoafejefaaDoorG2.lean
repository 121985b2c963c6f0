import Derived.Test.YtblkgaoafejefaaDoorG1
import Derived.Test.YtblkgaoafejefaaDoorP3
namespace Go.Proofs.YtblkgaoafejefaaDoor
set_option linter.unusedSimpArgs false
set_option linter.unusedVariables false
open Go.RowKit Go.Sort

theorem good_B {ts : BookM} (h : goodM ts = 0) : GoodB ts := by
  obtain ⟨_, hp, ht⟩ := goodM_out h
  have he : ∀ t ∈ ts, t.enum = true → t.fields = [] ∧ t.gone = [] := fun t hm e => ⟨((ht t hm).enum e).1, ((ht t hm).enum e).2.1⟩
  have hi : ∀ t ∈ ts, t.enum = false → t.items = [] := fun t hm e => ((ht t hm).msg e).1
  have hid : ∀ t ∈ ts, t.enum = false → risingL (t.fields.map (·.id)) 1 30 = true ∧ risingL t.gone 1 30 = true := fun t hm e => goodIds_out ((ht t hm).msg e).2.2.2.2
  refine ⟨hp.imp fun h => by simpa [ltStr] using h, fun t hm e => ?_, fun t hm => ?_, fun t hm => ?_, fun t hm f hf => ?_, fun t hm => ?_, he, hi⟩
  · have := (ht t hm).name
    rw [e] at this
    simp [namedL] at this
  · cases e : t.enum with
    | true => rw [(he t hm e).1]; simp
    | false => exact risingL_out (hid t hm e).1
  · cases e : t.enum with
    | true => rw [(he t hm e).2]; simp
    | false => exact risingL_out (hid t hm e).2
  · cases e : t.enum with
    | true => rw [(he t hm e).1] at hf; cases hf
    | false =>
      have h1 := ((ht t hm).msg e).2.2.2.2
      unfold goodIdsL at h1
      rw [Bool.and_eq_true] at h1
      obtain ⟨i, hi, rfl⟩ := List.getElem_of_mem hf
      have := all_range h1.2 (k := i) (by simpa using hi)
      unfold idsApartAt at this
      simpa [List.getD, hi] using this
  · cases e : t.enum with
    | true => exact (risingL_out ((ht t hm).enum e).2.2.2.2.2).1
    | false => rw [hi t hm e]; simp
theorem good_err {ts : BookM} : goodM ts = 0 ∨ goodM ts = 1 ∨ goodM ts = 7 := by
  unfold goodM
  split
  · exact .inr (.inr rfl)
  · split
    · split
      · exact .inl rfl
      · exact .inr (.inr rfl)
    · exact .inr (.inl rfl)
end Go.Proofs.YtblkgaoafejefaaDoor
