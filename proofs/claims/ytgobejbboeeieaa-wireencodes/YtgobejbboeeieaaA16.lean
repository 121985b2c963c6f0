import Derived.Test.YtgobejbboeeieaaA15
namespace Go.Proofs.Ytgobejbboeeieaa
set_option linter.unusedSimpArgs false
set_option linter.unusedVariables false
open Go.ChangeShapes Go.WideShapes Go.ChangeAt Go.RowKit

theorem cells27 : Try.prog.cellsOf 27 = 4 := by kernel_rfl
theorem cells3 : Try.prog.cellsOf 3 = 1 := by kernel_rfl
theorem cells9 : Try.prog.cellsOf 9 = 1 := by kernel_rfl

theorem list4 {α : Type} {l : List α} (h : l.length = 4) : ∃ a b c d, l = [a, b, c, d] := by
  match l, h with
  | [a, b, c, d], _ => exact ⟨a, b, c, d, rfl⟩

/-- A part that is read. -/
theorem part_reads {H : Type} {enc : TypeId × Value → H} {w : World} {held : Bool} (n : Nat) (cs : List Value) (y : DataW H × List MemPlace) (h : DataW.trod enc Try.prog w 0 (fun _ => true) held n 27 cs = some y) :
    ∃ p : PartM, cs = p.cells ∧ p.s.size ≤ maxLen := by
  obtain ⟨y0, y1, y2, y3, m, _, hl, h0, h1, h2, h3⟩ := Go.Joins.trod_struct4 Try.underlying27 h
  rw [cells27] at hl
  obtain ⟨c0, c1, c2, c3, rfl⟩ := list4 hl
  simp only [cells3, cells9] at h0 h1 h2 h3
  obtain ⟨i0, e0, _⟩ := DataW.trod_int Try.underlying3 h0
  obtain ⟨i1, e1, _⟩ := DataW.trod_int Try.underlying3 h1
  obtain ⟨i2, e2, _⟩ := DataW.trod_int Try.underlying3 h2
  obtain ⟨s, e3, _, hs⟩ := DataW.trod_string Try.underlying9 h3
  simp at e0 e1 e2 e3
  subst e0 e1 e2 e3
  exact ⟨⟨i0, i1, i2, s⟩, rfl, hs⟩

/-- Parts that are read. -/
theorem parts_reads {H : Type} {enc : TypeId × Value → H} {w : World} {held : Bool} {fuel : Nat} {cs : List Value} {x : DataW H × List MemPlace} (h : DataW.trod enc Try.prog w 0 (fun _ => true) held fuel 22 cs = some x) :
    ∃ (s : SV) (ps : List PartM), cs = [.slice s.a s.len s.cap] ∧ PartsAt w s ps ∧ s.ok ∧ ps.length ≤ maxLen ∧ ∀ p ∈ ps, p.s.size ≤ maxLen := by
  obtain ⟨s, l, ds, sp, rfl, hsl, hok, hlen, _, _, hq⟩ := slice_reads (α := PartM) ⟨0, 0, 0, ⟨#[]⟩⟩ 4 (fun _ cs p => cs = p.cells) (fun p _ => p.s.size ≤ maxLen) Try.underlying22 cells27 (by decide) h (fun n cs' y h => part_reads n cs' y h)
  refine ⟨s, l, rfl, hsl, hok, by rw [← hsl.1]; exact hlen, fun p hp => ?_⟩
  obtain ⟨i, hi, rfl⟩ := List.getElem_of_mem hp
  obtain ⟨_, _, h⟩ := hq i l[i] (by simp [hi])
  exact h
end Go.Proofs.Ytgobejbboeeieaa
