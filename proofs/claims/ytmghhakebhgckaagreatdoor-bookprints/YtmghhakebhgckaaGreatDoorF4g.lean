import Derived.Test.YtmghhakebhgckaaGreatDoorF3g
namespace Go.Proofs.YtmghhakebhgckaaGreatDoor
set_option linter.unusedSimpArgs false
set_option linter.unusedVariables false
open Go.ChangeShapes Go.WideShapes Go.ChangeAt Go.RowKit
section
variable {H : Type} {enc : TypeId × Value → H} {w : World} {held : Bool}

theorem field_fits (n : Nat) (cs : List Value) (y : DataW H × List MemPlace) (h : DataW.trod enc Tryz.prog w 0 (fun _ => true) held n 34 cs = some y) :
    ∃ f : FieldM, cs = f.cells ∧ (f.name.size ≤ maxLen ∧ f.type.size ≤ maxLen) := by
  obtain ⟨y0, y1, y2, y3, y4, m, hy, hl, h0, h1, h2, h3, h4⟩ := trod_five Tryz.underlying34 h
  rw [cells34] at hl
  obtain ⟨c0, c1, c2, c3, c4, rfl⟩ := list5 hl
  simp only [cells3, cells9] at h0 h1 h2 h3 h4
  obtain ⟨i0, e0, _⟩ := DataW.trod_int Tryz.underlying3 h0
  obtain ⟨s1, e1, _, z1⟩ := DataW.trod_string Tryz.underlying9 h1
  obtain ⟨s2, e2, _, z2⟩ := DataW.trod_string Tryz.underlying9 h2
  obtain ⟨i3, e3, _⟩ := DataW.trod_int Tryz.underlying3 h3
  obtain ⟨i4, e4, _⟩ := DataW.trod_int Tryz.underlying3 h4
  simp at e0 e1 e2 e3 e4
  subst e0 e1 e2 e3 e4
  exact ⟨⟨i0, s1, s2, i3, i4⟩, rfl, z1, z2⟩

theorem item_fits (n : Nat) (cs : List Value) (y : DataW H × List MemPlace) (h : DataW.trod enc Tryz.prog w 0 (fun _ => true) held n 55 cs = some y) :
    ∃ f : ItemM, cs = f.cells ∧ f.name.size ≤ maxLen := by
  obtain ⟨y0, y1, m, hy, hl, h0, h1⟩ := trod_struct2 Tryz.underlying55 h
  rw [cells55] at hl
  obtain ⟨c0, c1, rfl⟩ := list2 hl
  simp only [cells3, cells9] at h0 h1
  obtain ⟨s0, e0, _, z0⟩ := DataW.trod_string Tryz.underlying9 h0
  obtain ⟨i1, e1, _⟩ := DataW.trod_int Tryz.underlying3 h1
  simp at e0 e1
  subst e0 e1
  exact ⟨⟨s0, i1⟩, rfl, z0⟩

theorem all_of {α : Type} {l : List α} {ds : List (DataW H)} {Q : α → Prop} (hq : ∀ (i : Nat) (a : α), l[i]? = some a → ∃ d, ds[i]? = some d ∧ Q a) : ∀ a ∈ l, Q a := fun a ha => by
  obtain ⟨i, hi, rfl⟩ := List.getElem_of_mem ha
  obtain ⟨_, _, h⟩ := hq i l[i] (by simp [hi])
  exact h

theorem type_fits (n : Nat) (cs : List Value) (y : DataW H × List MemPlace) (h : DataW.trod enc Tryz.prog w 0 (fun _ => true) held n 30 cs = some y) :
    ∃ t : TypeM, (∃ tv : TV, cs = tv.cells ∧ TypeAt w tv t) ∧ t.Fits := by
  obtain ⟨y0, y1, y2, y3, y4, m, hy, hl, h0, h1, h2, h3, h4⟩ := trod_five Tryz.underlying30 h
  rw [cells30] at hl
  obtain ⟨c0, c1, c2, c3, c4, rfl⟩ := list5 hl
  simp only [cells4, cells9, cells26, cells27, cells28] at h0 h1 h2 h3 h4
  obtain ⟨s0, e0, _, z0⟩ := DataW.trod_string Tryz.underlying9 h0
  obtain ⟨b1, e1, _⟩ := DataW.trod_bool Tryz.underlying4 h1
  obtain ⟨sf, lf, df, pf, ef, hf, okf, zf, _, _, qf⟩ := slice_reads (α := FieldM) FieldM.zero 5 (fun _ cs f => cs = f.cells) (fun f _ => f.name.size ≤ maxLen ∧ f.type.size ≤ maxLen) Tryz.underlying26 cells34 (by decide) h2 field_fits
  obtain ⟨sg, lg, dg, pg, eg, hg, okg, zg, _, _, _⟩ := slice_reads (α := Int) 0 1 (fun _ cs n => cs = [.int .i64 n]) (fun _ _ => True) Tryz.underlying27 cells3 (by decide) h3 int_reads
  obtain ⟨si, li, di, pi, ei, hi, oki, zi, _, _, qi⟩ := slice_reads (α := ItemM) ⟨⟨#[]⟩, 0⟩ 2 (fun _ cs f => cs = f.cells) (fun f _ => f.name.size ≤ maxLen) Tryz.underlying28 cells55 (by decide) h4 item_fits
  simp at e0 e1 ef eg ei
  subst e0 e1 ef eg ei
  rw [hf.1] at zf
  rw [hg.1] at zg
  rw [hi.1] at zi
  exact ⟨⟨s0, b1, lf, lg, li⟩, ⟨⟨s0, b1, sf, sg, si⟩, rfl, ⟨rfl, rfl, hf, hg, hi, okf, okg, oki⟩⟩, ⟨z0, zf, zg, zi, all_of qf, all_of qi⟩⟩

theorem book_fits {fuel : Nat} {cs : List Value} {x : DataW H × List MemPlace} (h : DataW.trod enc Tryz.prog w 0 (fun _ => true) held fuel 24 cs = some x) :
    ∃ (s : SV) (ts : BookM), cs = [.slice s.a s.len s.cap] ∧ BookAt w s ts ∧ ts.Fits := by
  obtain ⟨y0, m, hy, hl, h0⟩ := trod_struct1 Tryz.underlying24 h
  rw [cells24] at hl
  obtain ⟨c0, rfl⟩ := list1 hl
  simp only [cells22] at h0
  obtain ⟨s, ts, ds, sp, e, hs, _, z, _, _, q⟩ := slice_reads (α := TypeM) TypeM.zero 5 (fun w cs t => ∃ tv : TV, cs = tv.cells ∧ TypeAt w tv t) (fun t _ => t.Fits) Tryz.underlying22 cells30 (by decide) h0 type_fits
  simp at e
  subst e
  rw [hs.1] at z
  exact ⟨s, ts, rfl, hs, z, all_of q⟩
end
end Go.Proofs.YtmghhakebhgckaaGreatDoor
