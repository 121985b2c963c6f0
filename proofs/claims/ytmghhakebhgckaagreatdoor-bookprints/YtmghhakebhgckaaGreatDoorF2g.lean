import Derived.Test.YtmghhakebhgckaaGreatDoorF1g
import Derived.Lib.SmallJoins
namespace Go.Proofs.YtmghhakebhgckaaGreatDoor
set_option linter.unusedSimpArgs false
set_option linter.unusedVariables false
open Go.ChangeShapes Go.WideShapes Go.ChangeAt Go.RowKit

theorem bulk_pos {H : Type} (d : DataW H) : 1 ≤ Rows.uptoBulk d := by
  cases d with
  | lit l => cases l <;> simp [Rows.uptoBulk]
  | _ => simp [Rows.uptoBulk]
theorem bulk_mem {H : Type} : ∀ {l : List (DataW H)} {d : DataW H}, d ∈ l → Rows.uptoBulk d ≤ Rows.uptoBulkAll l
  | [], _, h => absurd h List.not_mem_nil
  | x :: r, d, h => by
    rw [Rows.uptoBulkAll]
    rcases List.mem_cons.1 h with rfl | h
    · omega
    · have := bulk_mem h; omega
theorem bulk_len {H : Type} : ∀ l : List (DataW H), l.length ≤ Rows.uptoBulkAll l
  | [] => by simp [Rows.uptoBulkAll]
  | x :: r => by
    rw [Rows.uptoBulkAll, List.length_cons]
    have h1 := bulk_pos x
    have h2 := bulk_len r
    omega
theorem bulk_str {H : Type} (s : ByteArray) : Rows.uptoBulk (DataW.lit (H := H) (.string s.data.toList)) = s.size + 1 := by
  rw [Rows.uptoBulk, Array.length_toList]; rfl

theorem cells3 : Tryz.prog.cellsOf 3 = 1 := by kernel_rfl
theorem cells4 : Tryz.prog.cellsOf 4 = 1 := by kernel_rfl
theorem cells22 : Tryz.prog.cellsOf 22 = 1 := by kernel_rfl
theorem cells24 : Tryz.prog.cellsOf 24 = 1 := by kernel_rfl
theorem cells26 : Tryz.prog.cellsOf 26 = 1 := by kernel_rfl
theorem cells27 : Tryz.prog.cellsOf 27 = 1 := by kernel_rfl
theorem cells28 : Tryz.prog.cellsOf 28 = 1 := by kernel_rfl
theorem cells30 : Tryz.prog.cellsOf 30 = 5 := by kernel_rfl
theorem cells34 : Tryz.prog.cellsOf 34 = 5 := by kernel_rfl
theorem cells55 : Tryz.prog.cellsOf 55 = 2 := by kernel_rfl

theorem list5 {α : Type} {l : List α} (h : l.length = 5) : ∃ a b c d e, l = [a, b, c, d, e] := by
  match l, h with
  | [a, b, c, d, e], _ => exact ⟨a, b, c, d, e, rfl⟩
theorem list2 {α : Type} {l : List α} (h : l.length = 2) : ∃ a b, l = [a, b] := by
  match l, h with
  | [a, b], _ => exact ⟨a, b, rfl⟩

theorem list1 {α : Type} {l : List α} (h : l.length = 1) : ∃ a, l = [a] := by
  match l, h with
  | [a], _ => exact ⟨a, rfl⟩

theorem trod_five {H : Type} {enc : TypeId × Value → H} {P : Program} {w : World} {base : Nat} {spare : Nat → Bool} {held : Bool} {t : TypeId} {f0 f1 f2 f3 f4 : Field} {fuel : Nat} {cs : List Value} {x : DataW H × List MemPlace}
    (ht : P.underlying t = some (.struct #[f0, f1, f2, f3, f4])) (h : DataW.trod enc P w base spare held fuel t cs = some x) :
    ∃ y0 y1 y2 y3 y4 n, x.1 = .agg [y0.1, y1.1, y2.1, y3.1, y4.1] ∧ cs.length = P.cellsOf t ∧ DataW.trod enc P w base spare held n f0.type ((cs.drop f0.offset).take (P.cellsOf f0.type)) = some y0 ∧
      DataW.trod enc P w base spare held n f1.type ((cs.drop f1.offset).take (P.cellsOf f1.type)) = some y1 ∧ DataW.trod enc P w base spare held n f2.type ((cs.drop f2.offset).take (P.cellsOf f2.type)) = some y2 ∧
      DataW.trod enc P w base spare held n f3.type ((cs.drop f3.offset).take (P.cellsOf f3.type)) = some y3 ∧ DataW.trod enc P w base spare held n f4.type ((cs.drop f4.offset).take (P.cellsOf f4.type)) = some y4 := by
  obtain ⟨xs, n, _, rfl, hl, hlen, hf⟩ := DataW.trod_struct ht h
  match xs, hlen with
  | [y0, y1, y2, y3, y4], _ => exact ⟨y0, y1, y2, y3, y4, n, by simp, hl, by simpa using hf 0 f0 rfl, by simpa using hf 1 f1 rfl, by simpa using hf 2 f2 rfl, by simpa using hf 3 f3 rfl, by simpa using hf 4 f4 rfl⟩

section
variable {H : Type} {enc : TypeId × Value → H} {w : World} {held : Bool}

theorem field_reads (n : Nat) (cs : List Value) (y : DataW H × List MemPlace) (h : DataW.trod enc Tryz.prog w 0 (fun _ => true) held n 34 cs = some y) :
    ∃ f : FieldM, cs = f.cells ∧ f.name.size + f.type.size ≤ Rows.uptoBulk y.1 := by
  obtain ⟨y0, y1, y2, y3, y4, m, hy, hl, h0, h1, h2, h3, h4⟩ := trod_five Tryz.underlying34 h
  rw [cells34] at hl
  obtain ⟨c0, c1, c2, c3, c4, rfl⟩ := list5 hl
  simp only [cells3, cells9] at h0 h1 h2 h3 h4
  obtain ⟨i0, e0, _⟩ := DataW.trod_int Tryz.underlying3 h0
  obtain ⟨s1, e1, rfl, _⟩ := DataW.trod_string Tryz.underlying9 h1
  obtain ⟨s2, e2, rfl, _⟩ := DataW.trod_string Tryz.underlying9 h2
  obtain ⟨i3, e3, _⟩ := DataW.trod_int Tryz.underlying3 h3
  obtain ⟨i4, e4, _⟩ := DataW.trod_int Tryz.underlying3 h4
  simp at e0 e1 e2 e3 e4
  subst e0 e1 e2 e3 e4
  refine ⟨⟨i0, s1, s2, i3, i4⟩, rfl, ?_⟩
  rw [hy]
  simp only [Rows.uptoBulk, Rows.uptoBulkAll, Array.length_toList]
  show s1.data.size + s2.data.size ≤ _
  omega

theorem item_reads (n : Nat) (cs : List Value) (y : DataW H × List MemPlace) (h : DataW.trod enc Tryz.prog w 0 (fun _ => true) held n 55 cs = some y) :
    ∃ f : ItemM, cs = f.cells ∧ f.name.size ≤ Rows.uptoBulk y.1 := by
  obtain ⟨y0, y1, m, hy, hl, h0, h1⟩ := trod_struct2 Tryz.underlying55 h
  rw [cells55] at hl
  obtain ⟨c0, c1, rfl⟩ := list2 hl
  simp only [cells3, cells9] at h0 h1
  obtain ⟨s0, e0, rfl, _⟩ := DataW.trod_string Tryz.underlying9 h0
  obtain ⟨i1, e1, _⟩ := DataW.trod_int Tryz.underlying3 h1
  simp at e0 e1
  subst e0 e1
  refine ⟨⟨s0, i1⟩, rfl, ?_⟩
  rw [hy]
  simp only [Rows.uptoBulk, Rows.uptoBulkAll, Array.length_toList]
  show s0.data.size ≤ _
  omega

theorem int_reads (n : Nat) (cs : List Value) (y : DataW H × List MemPlace) (h : DataW.trod enc Tryz.prog w 0 (fun _ => true) held n 3 cs = some y) :
    ∃ i : Int, cs = [.int .i64 i] ∧ True := by
  obtain ⟨i, e, _⟩ := DataW.trod_int Tryz.underlying3 h
  exact ⟨i, e, trivial⟩

/-- What a slice's bulk bounds. -/
theorem bulk_slice {α : Type} {x : DataW H} {l : List α} {ds sp : List (DataW H)} {Q : α → DataW H → Prop} (hx : x = .nil ∧ l = [] ∨ x = .slice ds sp) (hl : ds.length = l.length) (hq : ∀ (i : Nat) (a : α), l[i]? = some a → ∃ d, ds[i]? = some d ∧ Q a d) :
    l.length ≤ Rows.uptoBulk x ∧ ∀ a ∈ l, ∃ d, Rows.uptoBulk d ≤ Rows.uptoBulk x ∧ Q a d := by
  rcases hx with ⟨_, rfl⟩ | rfl
  · exact ⟨by simp, fun a ha => absurd ha List.not_mem_nil⟩
  · have hb : Rows.uptoBulkAll ds ≤ Rows.uptoBulk (.slice ds sp) := by rw [Rows.uptoBulk]; omega
    refine ⟨by rw [← hl]; exact Nat.le_trans (bulk_len ds) hb, fun a ha => ?_⟩
    obtain ⟨i, hi, rfl⟩ := List.getElem_of_mem ha
    obtain ⟨d, hd, h⟩ := hq i l[i] (by simp [hi])
    exact ⟨d, Nat.le_trans (bulk_mem (List.mem_of_getElem? hd)) hb, h⟩

theorem type_reads (n : Nat) (cs : List Value) (y : DataW H × List MemPlace) (h : DataW.trod enc Tryz.prog w 0 (fun _ => true) held n 30 cs = some y) :
    ∃ t : TypeM, (∃ tv : TV, cs = tv.cells ∧ TypeAt w tv t) ∧ (Rows.uptoBulk y.1 ≤ 1048576 → t.Small) := by
  obtain ⟨y0, y1, y2, y3, y4, m, hy, hl, h0, h1, h2, h3, h4⟩ := trod_five Tryz.underlying30 h
  rw [cells30] at hl
  obtain ⟨c0, c1, c2, c3, c4, rfl⟩ := list5 hl
  simp only [cells4, cells9, cells26, cells27, cells28] at h0 h1 h2 h3 h4
  obtain ⟨s0, e0, rfl, _⟩ := DataW.trod_string Tryz.underlying9 h0
  obtain ⟨b1, e1, _⟩ := DataW.trod_bool Tryz.underlying4 h1
  obtain ⟨sf, lf, df, pf, ef, hf, okf, _, xf, dlf, qf⟩ := slice_reads (α := FieldM) FieldM.zero 5 (fun _ cs f => cs = f.cells) (fun f d => f.name.size + f.type.size ≤ Rows.uptoBulk d) Tryz.underlying26 cells34 (by decide) h2 field_reads
  obtain ⟨sg, lg, dg, pg, eg, hg, okg, _, xg, dlg, qg⟩ := slice_reads (α := Int) 0 1 (fun _ cs n => cs = [.int .i64 n]) (fun _ _ => True) Tryz.underlying27 cells3 (by decide) h3 int_reads
  obtain ⟨si, li, di, pi, ei, hi, oki, _, xi, dli, qi⟩ := slice_reads (α := ItemM) ⟨⟨#[]⟩, 0⟩ 2 (fun _ cs f => cs = f.cells) (fun f d => f.name.size ≤ Rows.uptoBulk d) Tryz.underlying28 cells55 (by decide) h4 item_reads
  simp at e0 e1 ef eg ei
  subst e0 e1 ef eg ei
  refine ⟨⟨s0, b1, lf, lg, li⟩, ⟨⟨s0, b1, sf, sg, si⟩, rfl, ⟨rfl, rfl, hf, hg, hi, okf, okg, oki⟩⟩, fun hb => ?_⟩
  obtain ⟨a1, a2⟩ := bulk_slice xf dlf qf
  obtain ⟨g1, _⟩ := bulk_slice xg dlg qg
  obtain ⟨i1, i2⟩ := bulk_slice xi dli qi
  rw [hy] at hb
  simp only [Rows.uptoBulk, Rows.uptoBulkAll] at hb
  have hs : s0.data.toList.length = s0.size := by rw [Array.length_toList]; rfl
  refine ⟨by simp only; omega, by simp only; omega, by simp only; omega, by simp only; omega, fun x hx => ?_, fun x hx => ?_⟩
  · obtain ⟨d, hd, hq⟩ := a2 x hx
    have h5 : x.name.size + x.type.size ≤ 1048576 := Nat.le_trans (Nat.le_trans hq hd) (by omega)
    exact ⟨Nat.le_trans (Nat.le_add_right _ _) h5, Nat.le_trans (Nat.le_add_left _ _) h5⟩
  · obtain ⟨d, hd, hq⟩ := i2 x hx
    exact Nat.le_trans (Nat.le_trans hq hd) (by omega)

theorem book_reads {fuel : Nat} {cs : List Value} {x : DataW H × List MemPlace} (h : DataW.trod enc Tryz.prog w 0 (fun _ => true) held fuel 24 cs = some x) :
    ∃ (s : SV) (ts : BookM), cs = [.slice s.a s.len s.cap] ∧ BookAt w s ts ∧ (Rows.uptoBulk x.1 ≤ 1048576 → ts.Small) := by
  obtain ⟨y0, m, hy, hl, h0⟩ := trod_struct1 Tryz.underlying24 h
  rw [cells24] at hl
  obtain ⟨c0, rfl⟩ := list1 hl
  simp only [cells22] at h0
  obtain ⟨s, ts, ds, sp, e, hs, _, _, xs, dl, q⟩ := slice_reads (α := TypeM) TypeM.zero 5 (fun w cs t => ∃ tv : TV, cs = tv.cells ∧ TypeAt w tv t) (fun t d => Rows.uptoBulk d ≤ 1048576 → t.Small) Tryz.underlying22 cells30 (by decide) h0 type_reads
  simp at e
  subst e
  refine ⟨s, ts, rfl, hs, fun hb => ?_⟩
  obtain ⟨b1, b2⟩ := bulk_slice xs dl q
  rw [hy] at hb
  simp only [Rows.uptoBulk, Rows.uptoBulkAll] at hb
  refine ⟨by omega, fun t ht => ?_⟩
  obtain ⟨d, hd, hq⟩ := b2 t ht
  exact hq (by omega)
end
end Go.Proofs.YtmghhakebhgckaaGreatDoor
