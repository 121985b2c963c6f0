import Derived.WalkKit
import Derived.Deep.MidRow
namespace Go.Proofs.YtblkgaoafejefaaDoor
set_option linter.unusedSimpArgs false
set_option linter.unusedVariables false
open Go.RowKit

/-- Nothing that was there has turned. -/
abbrev Ext (w w' : World) : Prop := Below w.heap.size w w'

theorem Ext.refl (w : World) : Ext w w := Below.refl _ _
theorem Ext.trans {a b c : World} (h : Ext a b) (k : Ext b c) : Ext a c := Below.trans h (k.mono h.size)
theorem Ext.alloc {a w : World} (h : Ext a w) (o : Obj) : Ext a (w.alloc o) := Below.alloc h h.size o
theorem Ext.drew {a w : World} (h : Ext a w) : Ext a w.drew := Below.drew h
theorem Ext.setCell {a w : World} (h : Ext a w) {p : Addr} (hp : a.heap.size ≤ p.block) (u : Value) : Ext a (w.setCell p u) := Below.setCell h hp u
theorem Ext.cell {w w' : World} (h : Ext w w') {p : Addr} {v : Value} (hc : w.cell? p = some v) : w'.cell? p = some v := by
  rw [Below.cell h (World.block_lt_of_cell? w _ hc)]; exact hc
theorem Ext.range {w w' : World} (h : Ext w w') {b o : Nat} {cs : List Value} (hc : w.rangeAt b o cs) : w'.rangeAt b o cs := fun j v hv => h.cell (hc j v hv)

/-- A slice, as its value bears it. -/
structure SV where
  a : Option Addr
  len : Nat
  cap : Nat
abbrev SV.v (s : SV) : Value := .slice s.a s.len s.cap

/-- A slice's own shape: no more elements than room, and nil is without room. -/
def SV.ok (s : SV) : Prop := s.len ≤ s.cap ∧ (s.a = none → s.cap = 0)
theorem SV.ok.nil {s : SV} (h : s.ok) : s.a = none → s.len = 0 ∧ s.cap = 0 := fun e => by have := h.1; have := h.2 e; omega

/-- A slice of elements of k cells each, each of which is told by R. -/
def SliceAt {α : Type} (k : Nat) (R : World → List Value → α → Prop) (w : World) (s : SV) (l : List α) : Prop :=
  s.len = l.length ∧ ∀ i x, l[i]? = some x → ∃ b o cs, s.a = some ⟨b, o, none⟩ ∧ w.rangeAt b (o + i * k) cs ∧ R w cs x

theorem SliceAt.ext {α : Type} {k : Nat} {R : World → List Value → α → Prop} {w w' : World} {s : SV} {l : List α} (h : SliceAt k R w s l) (he : Ext w w')
    (hR : ∀ cs x, R w cs x → R w' cs x) : SliceAt k R w' s l :=
  ⟨h.1, fun i x hx => let ⟨b, o, cs, h1, h2, h3⟩ := h.2 i x hx; ⟨b, o, cs, h1, he.range h2, hR _ _ h3⟩⟩

structure FieldM where
  id : Int
  name : ByteArray
  type : ByteArray
  kind : Int
  rule : Int
structure ItemM where
  name : ByteArray
  n : Int
structure TypeM where
  name : ByteArray
  enum : Bool
  fields : List FieldM
  gone : List Int
  items : List ItemM
abbrev BookM := List TypeM

abbrev FieldM.cells (f : FieldM) : List Value := [.int .i64 f.id, .string f.name, .string f.type, .int .i64 f.kind, .int .i64 f.rule]
abbrev ItemM.cells (f : ItemM) : List Value := [.string f.name, .int .i64 f.n]

def IntsAt (w : World) (s : SV) (l : List Int) : Prop := SliceAt 1 (fun _ cs n => cs = [.int .i64 n]) w s l
def FieldsAt (w : World) (s : SV) (l : List FieldM) : Prop := SliceAt 5 (fun _ cs f => cs = f.cells) w s l
def ItemsAt (w : World) (s : SV) (l : List ItemM) : Prop := SliceAt 2 (fun _ cs f => cs = f.cells) w s l

/-- A type, as its five cells bear it. -/
structure TV where
  name : ByteArray
  enum : Bool
  fields : SV
  gone : SV
  items : SV
abbrev TV.cells (t : TV) : List Value := [.string t.name, .bool t.enum, t.fields.v, t.gone.v, t.items.v]
structure TypeAt (w : World) (tv : TV) (t : TypeM) : Prop where
  name : tv.name = t.name
  enum : tv.enum = t.enum
  fields : FieldsAt w tv.fields t.fields
  gone : IntsAt w tv.gone t.gone
  items : ItemsAt w tv.items t.items
  fok : tv.fields.ok
  gok : tv.gone.ok
  iok : tv.items.ok
def BookAt (w : World) (s : SV) (l : BookM) : Prop := SliceAt 5 (fun w cs t => ∃ tv : TV, cs = tv.cells ∧ TypeAt w tv t) w s l

theorem IntsAt.ext {w w' : World} {s : SV} {l : List Int} (h : IntsAt w s l) (he : Ext w w') : IntsAt w' s l := SliceAt.ext h he fun _ _ h => h
theorem FieldsAt.ext {w w' : World} {s : SV} {l : List FieldM} (h : FieldsAt w s l) (he : Ext w w') : FieldsAt w' s l := SliceAt.ext h he fun _ _ h => h
theorem ItemsAt.ext {w w' : World} {s : SV} {l : List ItemM} (h : ItemsAt w s l) (he : Ext w w') : ItemsAt w' s l := SliceAt.ext h he fun _ _ h => h
theorem TypeAt.ext {w w' : World} {tv : TV} {t : TypeM} (h : TypeAt w tv t) (he : Ext w w') : TypeAt w' tv t := ⟨h.name, h.enum, h.fields.ext he, h.gone.ext he, h.items.ext he, h.fok, h.gok, h.iok⟩
theorem BookAt.ext {w w' : World} {s : SV} {l : BookM} (h : BookAt w s l) (he : Ext w w') : BookAt w' s l := SliceAt.ext h he fun _ _ ⟨tv, e, h⟩ => ⟨tv, e, h.ext he⟩

/-- The cells of a range, one by one. -/
theorem range5 {w : World} {b o : Nat} {c0 c1 c2 c3 c4 : Value} (h : w.rangeAt b o [c0, c1, c2, c3, c4]) :
    w.cell? ⟨b, o, none⟩ = some c0 ∧ w.cell? ⟨b, o + 1, none⟩ = some c1 ∧ w.cell? ⟨b, o + 2, none⟩ = some c2 ∧ w.cell? ⟨b, o + 3, none⟩ = some c3 ∧ w.cell? ⟨b, o + 4, none⟩ = some c4 :=
  ⟨h 0 _ rfl, h 1 _ rfl, h 2 _ rfl, h 3 _ rfl, h 4 _ rfl⟩
theorem range2 {w : World} {b o : Nat} {c0 c1 : Value} (h : w.rangeAt b o [c0, c1]) :
    w.cell? ⟨b, o, none⟩ = some c0 ∧ w.cell? ⟨b, o + 1, none⟩ = some c1 := ⟨h 0 _ rfl, h 1 _ rfl⟩
theorem range1 {w : World} {b o : Nat} {c0 : Value} (h : w.rangeAt b o [c0]) : w.cell? ⟨b, o, none⟩ = some c0 := h 0 _ rfl
/-- A block that was there, whole: its cells, and that none is frozen. -/
theorem Ext.whole {w w' : World} (h : Ext w w') {g : Nat} {cs : Array Value} {t : TypeId} (hb : w.heap[g]? = some (.cells cs t (0, 0))) :
    (∀ j v, cs[j]? = some v → w'.cell? ⟨g, j, none⟩ = some v) ∧ ∀ j, w'.frozen? ⟨g, j, none⟩ = false := by
  have hg : g < w.heap.size := by
    by_cases hlt : g < w.heap.size
    · exact hlt
    · have hn : w.heap[g]? = none := by simp; omega
      rw [hn] at hb; cases hb
  have hb' : w'.heap[g]? = some (.cells cs t (0, 0)) := by rw [Below.block h g hg]; exact hb
  exact ⟨fun j v hv => by rw [cell_of_row w' g j cs t _ hb']; exact hv, fun j => frozen_of_row w' g j cs t hb'⟩
theorem lt_of_heap {w : World} {g : Nat} {o : Obj} (hb : w.heap[g]? = some o) : g < w.heap.size := by
  by_cases hlt : g < w.heap.size
  · exact hlt
  · have hn : w.heap[g]? = none := by simp; omega
    rw [hn] at hb; cases hb
theorem Ext.heap {w w' : World} (h : Ext w w') {g : Nat} {o : Obj} (hb : w.heap[g]? = some o) : w'.heap[g]? = some o := by
  rw [Below.block h g (lt_of_heap hb)]; exact hb
/-- A row of five cells, one by one, and none is frozen. -/
theorem row5 {w : World} {g : Nat} {t : TypeId} {c0 c1 c2 c3 c4 : Value} (hb : w.heap[g]? = some (.cells #[c0, c1, c2, c3, c4] t (0, 0))) :
    w.cell? ⟨g, 0, none⟩ = some c0 ∧ w.cell? ⟨g, 1, none⟩ = some c1 ∧ w.cell? ⟨g, 2, none⟩ = some c2 ∧ w.cell? ⟨g, 3, none⟩ = some c3 ∧ w.cell? ⟨g, 4, none⟩ = some c4 ∧ ∀ j, w.frozen? ⟨g, j, none⟩ = false :=
  ⟨cell_of_row w g 0 _ t _ hb, cell_of_row w g 1 _ t _ hb, cell_of_row w g 2 _ t _ hb, cell_of_row w g 3 _ t _ hb, cell_of_row w g 4 _ t _ hb, fun j => frozen_of_row w g j _ t hb⟩
/-- A slice of memory that came behind w. -/
def SV.Fresh (w : World) (s : SV) : Prop := ∀ ad, s.a = some ad → w.heap.size ≤ ad.block
theorem SV.Fresh.mono {w w' : World} {s : SV} (h : s.Fresh w') (hz : w.heap.size ≤ w'.heap.size) : s.Fresh w := fun ad ha => Nat.le_trans hz (h ad ha)
theorem World.rangeAt_setCell {w : World} {b o : Nat} {cs : List Value} (h : w.rangeAt b o cs) (p : Addr) (u : Value) (hp : b ≠ p.block) : (w.setCell p u).rangeAt b o cs := fun j v hv => by
  rw [World.cell?_of_block (w := w) (Below.heap_setCell w p u b hp)]; exact h j v hv
theorem SliceAt.setCell {α : Type} {k : Nat} {R : List Value → α → Prop} {w : World} {s : SV} {l : List α} (h : SliceAt k (fun _ cs x => R cs x) w s l) (p : Addr) (u : Value) (hp : ∀ ad, s.a = some ad → ad.block ≠ p.block) : SliceAt k (fun _ cs x => R cs x) (w.setCell p u) s l :=
  ⟨h.1, fun i x hx => let ⟨b, o, cs, h1, h2, h3⟩ := h.2 i x hx; ⟨b, o, cs, h1, World.rangeAt_setCell h2 p u (hp _ h1), h3⟩⟩
theorem IntsAt.setCell {w : World} {s : SV} {l : List Int} (h : IntsAt w s l) (p : Addr) (u : Value) (hp : ∀ ad, s.a = some ad → ad.block ≠ p.block) : IntsAt (w.setCell p u) s l := SliceAt.setCell h p u hp
theorem FieldsAt.setCell {w : World} {s : SV} {l : List FieldM} (h : FieldsAt w s l) (p : Addr) (u : Value) (hp : ∀ ad, s.a = some ad → ad.block ≠ p.block) : FieldsAt (w.setCell p u) s l := SliceAt.setCell h p u hp
theorem ItemsAt.setCell {w : World} {s : SV} {l : List ItemM} (h : ItemsAt w s l) (p : Addr) (u : Value) (hp : ∀ ad, s.a = some ad → ad.block ≠ p.block) : ItemsAt (w.setCell p u) s l := SliceAt.setCell h p u hp
end Go.Proofs.YtblkgaoafejefaaDoor
