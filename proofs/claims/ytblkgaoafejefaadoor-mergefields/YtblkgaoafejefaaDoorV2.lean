import Derived.Test.YtblkgaoafejefaaDoorV1
import Derived.Lib.SmallJoins
namespace Go.Proofs.YtblkgaoafejefaaDoor
set_option linter.unusedSimpArgs false
set_option linter.unusedVariables false
open Go.ChangeShapes Go.WideShapes Go.ChangeAt Go.RowKit

theorem bulk_pos {H : Type} (d : DataW H) : 1 ≤ Rows.uptoBulk d := by
  cases d with
  | lit l => cases l <;> simp [Rows.uptoBulk]
  | _ => simp [Rows.uptoBulk]
theorem bulk_mem {H : Type} : ∀ {l : List (DataW H)} {d : DataW H}, d ∈ l → Rows.uptoBulk d ≤ Rows.uptoBulkAll l
  | [], _, h => absurd h List.not_mem_nil
  | x :: r, d, h => by
    rw [Rows.uptoBulkAll]
    rcases List.mem_cons.1 h with rfl | h
    · omega
    · have := bulk_mem h; omega
theorem bulk_len {H : Type} : ∀ l : List (DataW H), l.length ≤ Rows.uptoBulkAll l
  | [] => by simp [Rows.uptoBulkAll]
  | x :: r => by
    rw [Rows.uptoBulkAll, List.length_cons]
    have h1 := bulk_pos x
    have h2 := bulk_len r
    omega
theorem bulk_str {H : Type} (s : ByteArray) : Rows.uptoBulk (DataW.lit (H := H) (.string s.data.toList)) = s.size + 1 := by
  rw [Rows.uptoBulk, Array.length_toList]; rfl

theorem cells3 : Tryd.prog.cellsOf 3 = 1 := by kernel_rfl
theorem cells4 : Tryd.prog.cellsOf 4 = 1 := by kernel_rfl
theorem cells22 : Tryd.prog.cellsOf 22 = 1 := by kernel_rfl
theorem cells24 : Tryd.prog.cellsOf 24 = 1 := by kernel_rfl
theorem cells43 : Tryd.prog.cellsOf 43 = 1 := by kernel_rfl
theorem cells36 : Tryd.prog.cellsOf 36 = 5 := by kernel_rfl
theorem cells42 : Tryd.prog.cellsOf 42 = 1 := by kernel_rfl
theorem cells44 : Tryd.prog.cellsOf 44 = 1 := by kernel_rfl
theorem cells46 : Tryd.prog.cellsOf 46 = 5 := by kernel_rfl
theorem cells73 : Tryd.prog.cellsOf 73 = 2 := by kernel_rfl
theorem list5 {α : Type} {l : List α} (h : l.length = 5) : ∃ a b c d e, l = [a, b, c, d, e] := by
  match l, h with
  | [a, b, c, d, e], _ => exact ⟨a, b, c, d, e, rfl⟩
theorem list2 {α : Type} {l : List α} (h : l.length = 2) : ∃ a b, l = [a, b] := by
  match l, h with
  | [a, b], _ => exact ⟨a, b, rfl⟩

theorem list1 {α : Type} {l : List α} (h : l.length = 1) : ∃ a, l = [a] := by
  match l, h with
  | [a], _ => exact ⟨a, rfl⟩

theorem trod_five {H : Type} {enc : TypeId × Value → H} {P : Program} {w : World} {base : Nat} {spare : Nat → Bool} {held : Bool} {t : TypeId} {f0 f1 f2 f3 f4 : Field} {fuel : Nat} {cs : List Value} {x : DataW H × List MemPlace}
    (ht : P.underlying t = some (.struct #[f0, f1, f2, f3, f4])) (h : DataW.trod enc P w base spare held fuel t cs = some x) :
    ∃ y0 y1 y2 y3 y4 n, x.1 = .agg [y0.1, y1.1, y2.1, y3.1, y4.1] ∧ cs.length = P.cellsOf t ∧ DataW.trod enc P w base spare held n f0.type ((cs.drop f0.offset).take (P.cellsOf f0.type)) = some y0 ∧
      DataW.trod enc P w base spare held n f1.type ((cs.drop f1.offset).take (P.cellsOf f1.type)) = some y1 ∧ DataW.trod enc P w base spare held n f2.type ((cs.drop f2.offset).take (P.cellsOf f2.type)) = some y2 ∧
      DataW.trod enc P w base spare held n f3.type ((cs.drop f3.offset).take (P.cellsOf f3.type)) = some y3 ∧ DataW.trod enc P w base spare held n f4.type ((cs.drop f4.offset).take (P.cellsOf f4.type)) = some y4 := by
  obtain ⟨xs, n, _, rfl, hl, hlen, hf⟩ := DataW.trod_struct ht h
  match xs, hlen with
  | [y0, y1, y2, y3, y4], _ => exact ⟨y0, y1, y2, y3, y4, n, by simp, hl, by simpa using hf 0 f0 rfl, by simpa using hf 1 f1 rfl, by simpa using hf 2 f2 rfl, by simpa using hf 3 f3 rfl, by simpa using hf 4 f4 rfl⟩

section
variable {H : Type} {enc : TypeId × Value → H} {w : World} {held : Bool}

theorem int_reads (n : Nat) (cs : List Value) (y : DataW H × List MemPlace) (h : DataW.trod enc Tryd.prog w 0 (fun _ => true) held n 3 cs = some y) :
    ∃ i : Int, cs = [.int .i64 i] ∧ True := by
  obtain ⟨i, e, _⟩ := DataW.trod_int Tryd.underlying3 h
  exact ⟨i, e, trivial⟩

/-- What a slice's bulk bounds. -/
theorem bulk_slice {α : Type} {x : DataW H} {l : List α} {ds sp : List (DataW H)} {Q : α → DataW H → Prop} (hx : x = .nil ∧ l = [] ∨ x = .slice ds sp) (hl : ds.length = l.length) (hq : ∀ (i : Nat) (a : α), l[i]? = some a → ∃ d, ds[i]? = some d ∧ Q a d) :
    l.length ≤ Rows.uptoBulk x ∧ ∀ a ∈ l, ∃ d, Rows.uptoBulk d ≤ Rows.uptoBulk x ∧ Q a d := by
  rcases hx with ⟨_, rfl⟩ | rfl
  · exact ⟨by simp, fun a ha => absurd ha List.not_mem_nil⟩
  · have hb : Rows.uptoBulkAll ds ≤ Rows.uptoBulk (.slice ds sp) := by rw [Rows.uptoBulk]; omega
    refine ⟨by rw [← hl]; exact Nat.le_trans (bulk_len ds) hb, fun a ha => ?_⟩
    obtain ⟨i, hi, rfl⟩ := List.getElem_of_mem ha
    obtain ⟨d, hd, h⟩ := hq i l[i] (by simp [hi])
    exact ⟨d, Nat.le_trans (bulk_mem (List.mem_of_getElem? hd)) hb, h⟩

theorem field_fits (n : Nat) (cs : List Value) (y : DataW H × List MemPlace) (h : DataW.trod enc Tryd.prog w 0 (fun _ => true) held n 36 cs = some y) :
    ∃ f : FieldM, cs = f.cells ∧ (f.name.size ≤ maxLen ∧ f.type.size ≤ maxLen) := by
  obtain ⟨y0, y1, y2, y3, y4, m, hy, hl, h0, h1, h2, h3, h4⟩ := trod_five Tryd.underlying36 h
  rw [cells36] at hl
  obtain ⟨c0, c1, c2, c3, c4, rfl⟩ := list5 hl
  simp only [cells3, cells9] at h0 h1 h2 h3 h4
  obtain ⟨i0, e0, _⟩ := DataW.trod_int Tryd.underlying3 h0
  obtain ⟨s1, e1, _, z1⟩ := DataW.trod_string Tryd.underlying9 h1
  obtain ⟨s2, e2, _, z2⟩ := DataW.trod_string Tryd.underlying9 h2
  obtain ⟨i3, e3, _⟩ := DataW.trod_int Tryd.underlying3 h3
  obtain ⟨i4, e4, _⟩ := DataW.trod_int Tryd.underlying3 h4
  simp at e0 e1 e2 e3 e4
  subst e0 e1 e2 e3 e4
  exact ⟨⟨i0, s1, s2, i3, i4⟩, rfl, z1, z2⟩

theorem item_fits (n : Nat) (cs : List Value) (y : DataW H × List MemPlace) (h : DataW.trod enc Tryd.prog w 0 (fun _ => true) held n 73 cs = some y) :
    ∃ f : ItemM, cs = f.cells ∧ f.name.size ≤ maxLen := by
  obtain ⟨y0, y1, m, hy, hl, h0, h1⟩ := trod_struct2 Tryd.underlying73 h
  rw [cells73] at hl
  obtain ⟨c0, c1, rfl⟩ := list2 hl
  simp only [cells3, cells9] at h0 h1
  obtain ⟨s0, e0, _, z0⟩ := DataW.trod_string Tryd.underlying9 h0
  obtain ⟨i1, e1, _⟩ := DataW.trod_int Tryd.underlying3 h1
  simp at e0 e1
  subst e0 e1
  exact ⟨⟨s0, i1⟩, rfl, z0⟩

theorem all_of {α : Type} {l : List α} {ds : List (DataW H)} {Q : α → Prop} (hq : ∀ (i : Nat) (a : α), l[i]? = some a → ∃ d, ds[i]? = some d ∧ Q a) : ∀ a ∈ l, Q a := fun a ha => by
  obtain ⟨i, hi, rfl⟩ := List.getElem_of_mem ha
  obtain ⟨_, _, h⟩ := hq i l[i] (by simp [hi])
  exact h

theorem type_fits (n : Nat) (cs : List Value) (y : DataW H × List MemPlace) (h : DataW.trod enc Tryd.prog w 0 (fun _ => true) held n 46 cs = some y) :
    ∃ t : TypeM, (∃ tv : TV, cs = tv.cells ∧ TypeAt w tv t) ∧ t.Fits := by
  obtain ⟨y0, y1, y2, y3, y4, m, hy, hl, h0, h1, h2, h3, h4⟩ := trod_five Tryd.underlying46 h
  rw [cells46] at hl
  obtain ⟨c0, c1, c2, c3, c4, rfl⟩ := list5 hl
  simp only [cells4, cells9, cells42, cells43, cells44] at h0 h1 h2 h3 h4
  obtain ⟨s0, e0, _, z0⟩ := DataW.trod_string Tryd.underlying9 h0
  obtain ⟨b1, e1, _⟩ := DataW.trod_bool Tryd.underlying4 h1
  obtain ⟨sf, lf, df, pf, ef, hf, okf, zf, _, _, qf⟩ := slice_reads (α := FieldM) FieldM.zero 5 (fun _ cs f => cs = f.cells) (fun f _ => f.name.size ≤ maxLen ∧ f.type.size ≤ maxLen) Tryd.underlying42 cells36 (by decide) h2 field_fits
  obtain ⟨sg, lg, dg, pg, eg, hg, okg, zg, _, _, _⟩ := slice_reads (α := Int) 0 1 (fun _ cs n => cs = [.int .i64 n]) (fun _ _ => True) Tryd.underlying43 cells3 (by decide) h3 int_reads
  obtain ⟨si, li, di, pi, ei, hi, oki, zi, _, _, qi⟩ := slice_reads (α := ItemM) ⟨⟨#[]⟩, 0⟩ 2 (fun _ cs f => cs = f.cells) (fun f _ => f.name.size ≤ maxLen) Tryd.underlying44 cells73 (by decide) h4 item_fits
  simp at e0 e1 ef eg ei
  subst e0 e1 ef eg ei
  rw [hf.1] at zf
  rw [hg.1] at zg
  rw [hi.1] at zi
  exact ⟨⟨s0, b1, lf, lg, li⟩, ⟨⟨s0, b1, sf, sg, si⟩, rfl, ⟨rfl, rfl, hf, hg, hi, okf, okg, oki⟩⟩, ⟨z0, zf, zg, zi, all_of qf, all_of qi⟩⟩

theorem book_fits {fuel : Nat} {cs : List Value} {x : DataW H × List MemPlace} (h : DataW.trod enc Tryd.prog w 0 (fun _ => true) held fuel 24 cs = some x) :
    ∃ (s : SV) (ts : BookM), cs = [.slice s.a s.len s.cap] ∧ BookAt w s ts ∧ ts.Fits := by
  obtain ⟨y0, m, hy, hl, h0⟩ := trod_struct1 Tryd.underlying24 h
  rw [cells24] at hl
  obtain ⟨c0, rfl⟩ := list1 hl
  simp only [cells22] at h0
  obtain ⟨s, ts, ds, sp, e, hs, _, z, _, _, q⟩ := slice_reads (α := TypeM) TypeM.zero 5 (fun w cs t => ∃ tv : TV, cs = tv.cells ∧ TypeAt w tv t) (fun t _ => t.Fits) Tryd.underlying22 cells46 (by decide) h0 type_fits
  simp at e
  subst e
  rw [hs.1] at z
  exact ⟨s, ts, rfl, hs, z, all_of q⟩

end
end Go.Proofs.YtblkgaoafejefaaDoor
