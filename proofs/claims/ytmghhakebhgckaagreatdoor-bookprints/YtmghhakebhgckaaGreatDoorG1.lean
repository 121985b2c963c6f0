import Derived.WalkKit
import Derived.Deep.MidRow
import Derived.Test.YtmghhakebhgckaaGreatDoorProg
namespace Go.Proofs.YtmghhakebhgckaaGreatDoor
set_option linter.unusedSimpArgs false
set_option linter.unusedVariables false
set_option linter.unusedSimpArgs false
set_option linter.unusedVariables false
open Go.RowKit

/-- Nothing that was there has turned. -/
abbrev Ext (w w' : World) : Prop := Below w.heap.size w w'

theorem Ext.refl (w : World) : Ext w w := Below.refl _ _
theorem Ext.trans {a b c : World} (h : Ext a b) (k : Ext b c) : Ext a c := Below.trans h (k.mono h.size)
theorem Ext.alloc {a w : World} (h : Ext a w) (o : Obj) : Ext a (w.alloc o) := Below.alloc h h.size o
theorem Ext.drew {a w : World} (h : Ext a w) : Ext a w.drew := Below.drew h
theorem Ext.setCell {a w : World} (h : Ext a w) {p : Addr} (hp : a.heap.size ≤ p.block) (u : Value) : Ext a (w.setCell p u) := Below.setCell h hp u
theorem Ext.cell {w w' : World} (h : Ext w w') {p : Addr} {v : Value} (hc : w.cell? p = some v) : w'.cell? p = some v := by
  rw [Below.cell h (World.block_lt_of_cell? w _ hc)]; exact hc
theorem Ext.range {w w' : World} (h : Ext w w') {b o : Nat} {cs : List Value} (hc : w.rangeAt b o cs) : w'.rangeAt b o cs := fun j v hv => h.cell (hc j v hv)

/-- A slice, as its value bears it. -/
structure SV where
  a : Option Addr
  len : Nat
  cap : Nat
abbrev SV.v (s : SV) : Value := .slice s.a s.len s.cap

/-- A slice's own shape: no more elements than room, and nil is without room. -/
def SV.ok (s : SV) : Prop := s.len ≤ s.cap ∧ (s.a = none → s.cap = 0)
theorem SV.ok.nil {s : SV} (h : s.ok) : s.a = none → s.len = 0 ∧ s.cap = 0 := fun e => by have := h.1; have := h.2 e; omega

/-- A slice of elements of k cells each, each of which is told by R. -/
def SliceAt {α : Type} (k : Nat) (R : World → List Value → α → Prop) (w : World) (s : SV) (l : List α) : Prop :=
  s.len = l.length ∧ ∀ i x, l[i]? = some x → ∃ b o cs, s.a = some ⟨b, o, none⟩ ∧ w.rangeAt b (o + i * k) cs ∧ R w cs x

theorem SliceAt.ext {α : Type} {k : Nat} {R : World → List Value → α → Prop} {w w' : World} {s : SV} {l : List α} (h : SliceAt k R w s l) (he : Ext w w')
    (hR : ∀ cs x, R w cs x → R w' cs x) : SliceAt k R w' s l :=
  ⟨h.1, fun i x hx => let ⟨b, o, cs, h1, h2, h3⟩ := h.2 i x hx; ⟨b, o, cs, h1, he.range h2, hR _ _ h3⟩⟩

structure FieldM where
  id : Int
  name : ByteArray
  type : ByteArray
  kind : Int
  rule : Int
structure ItemM where
  name : ByteArray
  n : Int
structure TypeM where
  name : ByteArray
  enum : Bool
  fields : List FieldM
  gone : List Int
  items : List ItemM
abbrev BookM := List TypeM

abbrev FieldM.cells (f : FieldM) : List Value := [.int .i64 f.id, .string f.name, .string f.type, .int .i64 f.kind, .int .i64 f.rule]
abbrev ItemM.cells (f : ItemM) : List Value := [.string f.name, .int .i64 f.n]

def IntsAt (w : World) (s : SV) (l : List Int) : Prop := SliceAt 1 (fun _ cs n => cs = [.int .i64 n]) w s l
def FieldsAt (w : World) (s : SV) (l : List FieldM) : Prop := SliceAt 5 (fun _ cs f => cs = f.cells) w s l
def ItemsAt (w : World) (s : SV) (l : List ItemM) : Prop := SliceAt 2 (fun _ cs f => cs = f.cells) w s l

/-- A type, as its five cells bear it. -/
structure TV where
  name : ByteArray
  enum : Bool
  fields : SV
  gone : SV
  items : SV
abbrev TV.cells (t : TV) : List Value := [.string t.name, .bool t.enum, t.fields.v, t.gone.v, t.items.v]
structure TypeAt (w : World) (tv : TV) (t : TypeM) : Prop where
  name : tv.name = t.name
  enum : tv.enum = t.enum
  fields : FieldsAt w tv.fields t.fields
  gone : IntsAt w tv.gone t.gone
  items : ItemsAt w tv.items t.items
  fok : tv.fields.ok
  gok : tv.gone.ok
  iok : tv.items.ok
def BookAt (w : World) (s : SV) (l : BookM) : Prop := SliceAt 5 (fun w cs t => ∃ tv : TV, cs = tv.cells ∧ TypeAt w tv t) w s l

theorem IntsAt.ext {w w' : World} {s : SV} {l : List Int} (h : IntsAt w s l) (he : Ext w w') : IntsAt w' s l := SliceAt.ext h he fun _ _ h => h
theorem FieldsAt.ext {w w' : World} {s : SV} {l : List FieldM} (h : FieldsAt w s l) (he : Ext w w') : FieldsAt w' s l := SliceAt.ext h he fun _ _ h => h
theorem ItemsAt.ext {w w' : World} {s : SV} {l : List ItemM} (h : ItemsAt w s l) (he : Ext w w') : ItemsAt w' s l := SliceAt.ext h he fun _ _ h => h
theorem TypeAt.ext {w w' : World} {tv : TV} {t : TypeM} (h : TypeAt w tv t) (he : Ext w w') : TypeAt w' tv t := ⟨h.name, h.enum, h.fields.ext he, h.gone.ext he, h.items.ext he, h.fok, h.gok, h.iok⟩
theorem BookAt.ext {w w' : World} {s : SV} {l : BookM} (h : BookAt w s l) (he : Ext w w') : BookAt w' s l := SliceAt.ext h he fun _ _ ⟨tv, e, h⟩ => ⟨tv, e, h.ext he⟩

/-- The cells of a range, one by one. -/
theorem range5 {w : World} {b o : Nat} {c0 c1 c2 c3 c4 : Value} (h : w.rangeAt b o [c0, c1, c2, c3, c4]) :
    w.cell? ⟨b, o, none⟩ = some c0 ∧ w.cell? ⟨b, o + 1, none⟩ = some c1 ∧ w.cell? ⟨b, o + 2, none⟩ = some c2 ∧ w.cell? ⟨b, o + 3, none⟩ = some c3 ∧ w.cell? ⟨b, o + 4, none⟩ = some c4 :=
  ⟨h 0 _ rfl, h 1 _ rfl, h 2 _ rfl, h 3 _ rfl, h 4 _ rfl⟩
theorem range2 {w : World} {b o : Nat} {c0 c1 : Value} (h : w.rangeAt b o [c0, c1]) :
    w.cell? ⟨b, o, none⟩ = some c0 ∧ w.cell? ⟨b, o + 1, none⟩ = some c1 := ⟨h 0 _ rfl, h 1 _ rfl⟩
theorem range1 {w : World} {b o : Nat} {c0 : Value} (h : w.rangeAt b o [c0]) : w.cell? ⟨b, o, none⟩ = some c0 := h 0 _ rfl
/-- A block that was there, whole: its cells, and that none is frozen. -/
theorem Ext.whole {w w' : World} (h : Ext w w') {g : Nat} {cs : Array Value} {t : TypeId} (hb : w.heap[g]? = some (.cells cs t (0, 0))) :
    (∀ j v, cs[j]? = some v → w'.cell? ⟨g, j, none⟩ = some v) ∧ ∀ j, w'.frozen? ⟨g, j, none⟩ = false := by
  have hg : g < w.heap.size := by
    by_cases hlt : g < w.heap.size
    · exact hlt
    · have hn : w.heap[g]? = none := by simp; omega
      rw [hn] at hb; cases hb
  have hb' : w'.heap[g]? = some (.cells cs t (0, 0)) := by rw [Below.block h g hg]; exact hb
  exact ⟨fun j v hv => by rw [cell_of_row w' g j cs t _ hb']; exact hv, fun j => frozen_of_row w' g j cs t hb'⟩
theorem lt_of_heap {w : World} {g : Nat} {o : Obj} (hb : w.heap[g]? = some o) : g < w.heap.size := by
  by_cases hlt : g < w.heap.size
  · exact hlt
  · have hn : w.heap[g]? = none := by simp; omega
    rw [hn] at hb; cases hb
theorem Ext.heap {w w' : World} (h : Ext w w') {g : Nat} {o : Obj} (hb : w.heap[g]? = some o) : w'.heap[g]? = some o := by
  rw [Below.block h g (lt_of_heap hb)]; exact hb
/-- A row of five cells, one by one, and none is frozen. -/
theorem row5 {w : World} {g : Nat} {t : TypeId} {c0 c1 c2 c3 c4 : Value} (hb : w.heap[g]? = some (.cells #[c0, c1, c2, c3, c4] t (0, 0))) :
    w.cell? ⟨g, 0, none⟩ = some c0 ∧ w.cell? ⟨g, 1, none⟩ = some c1 ∧ w.cell? ⟨g, 2, none⟩ = some c2 ∧ w.cell? ⟨g, 3, none⟩ = some c3 ∧ w.cell? ⟨g, 4, none⟩ = some c4 ∧ ∀ j, w.frozen? ⟨g, j, none⟩ = false :=
  ⟨cell_of_row w g 0 _ t _ hb, cell_of_row w g 1 _ t _ hb, cell_of_row w g 2 _ t _ hb, cell_of_row w g 3 _ t _ hb, cell_of_row w g 4 _ t _ hb, fun j => frozen_of_row w g j _ t hb⟩
/-- A slice of memory that came behind w. -/
def SV.Fresh (w : World) (s : SV) : Prop := ∀ ad, s.a = some ad → w.heap.size ≤ ad.block
theorem SV.Fresh.mono {w w' : World} {s : SV} (h : s.Fresh w') (hz : w.heap.size ≤ w'.heap.size) : s.Fresh w := fun ad ha => Nat.le_trans hz (h ad ha)
theorem World.rangeAt_setCell {w : World} {b o : Nat} {cs : List Value} (h : w.rangeAt b o cs) (p : Addr) (u : Value) (hp : b ≠ p.block) : (w.setCell p u).rangeAt b o cs := fun j v hv => by
  rw [World.cell?_of_block (w := w) (Below.heap_setCell w p u b hp)]; exact h j v hv
theorem SliceAt.setCell {α : Type} {k : Nat} {R : List Value → α → Prop} {w : World} {s : SV} {l : List α} (h : SliceAt k (fun _ cs x => R cs x) w s l) (p : Addr) (u : Value) (hp : ∀ ad, s.a = some ad → ad.block ≠ p.block) : SliceAt k (fun _ cs x => R cs x) (w.setCell p u) s l :=
  ⟨h.1, fun i x hx => let ⟨b, o, cs, h1, h2, h3⟩ := h.2 i x hx; ⟨b, o, cs, h1, World.rangeAt_setCell h2 p u (hp _ h1), h3⟩⟩
theorem IntsAt.setCell {w : World} {s : SV} {l : List Int} (h : IntsAt w s l) (p : Addr) (u : Value) (hp : ∀ ad, s.a = some ad → ad.block ≠ p.block) : IntsAt (w.setCell p u) s l := SliceAt.setCell h p u hp
theorem FieldsAt.setCell {w : World} {s : SV} {l : List FieldM} (h : FieldsAt w s l) (p : Addr) (u : Value) (hp : ∀ ad, s.a = some ad → ad.block ≠ p.block) : FieldsAt (w.setCell p u) s l := SliceAt.setCell h p u hp
theorem ItemsAt.setCell {w : World} {s : SV} {l : List ItemM} (h : ItemsAt w s l) (p : Addr) (u : Value) (hp : ∀ ad, s.a = some ad → ad.block ≠ p.block) : ItemsAt (w.setCell p u) s l := SliceAt.setCell h p u hp
end Go.Proofs.YtmghhakebhgckaaGreatDoor

namespace Go.Proofs.YtmghhakebhgckaaGreatDoor
set_option linter.unusedSimpArgs false
set_option linter.unusedVariables false
open Go.RowKit

def TypeM.zero : TypeM := ⟨⟨#[]⟩, false, [], [], []⟩
def findM (ts : BookM) (name : ByteArray) : Option TypeM := ts.find? fun t => t.name.toList == name.toList

theorem zeroTypeAt (w : World) : TypeAt w ⟨⟨#[]⟩, false, ⟨none, 0, 0⟩, ⟨none, 0, 0⟩, ⟨none, 0, 0⟩⟩ TypeM.zero :=
  ⟨rfl, rfl, ⟨rfl, fun _ _ h => by simp [TypeM.zero] at h⟩, ⟨rfl, fun _ _ h => by simp [TypeM.zero] at h⟩, ⟨rfl, fun _ _ h => by simp [TypeM.zero] at h⟩, ⟨by simp, by simp⟩, ⟨by simp, by simp⟩, ⟨by simp, by simp⟩⟩

/-- None ahead of place k. -/
def NoneTo {α : Type} (p : α → Bool) (l : List α) (k : Nat) : Prop := ∀ j x, j < k → l[j]? = some x → p x = false
theorem NoneTo.zero {α : Type} (p : α → Bool) (l : List α) : NoneTo p l 0 := fun _ _ h => by omega
theorem NoneTo.succ {α : Type} {p : α → Bool} {l : List α} {k : Nat} (h : NoneTo p l k) {x : α} (hx : l[k]? = some x) (hp : p x = false) : NoneTo p l (k + 1) := fun j y hj hy => by
  by_cases e : j = k
  · subst e; rw [hx] at hy; cases hy; exact hp
  · exact h j y (by omega) hy
theorem NoneTo.none {α : Type} {p : α → Bool} {l : List α} {k : Nat} (h : NoneTo p l k) (hk : l.length ≤ k) : l.find? p = none := by
  rw [List.find?_eq_none]
  intro x hx
  obtain ⟨j, hj, rfl⟩ := List.getElem_of_mem hx
  simp [h j l[j] (by omega) (by simp [hj])]
theorem NoneTo.some {α : Type} {p : α → Bool} {l : List α} {k : Nat} (h : NoneTo p l k) {x : α} (hx : l[k]? = some x) (hp : p x = true) : l.find? p = some x := by
  have hk := (List.getElem?_eq_some_iff.1 hx).1
  have e := (List.getElem?_eq_some_iff.1 hx).2
  rw [List.find?_eq_some_iff_getElem]
  refine ⟨hp, k, hk, e, fun j hj => ?_⟩
  simp [h j l[j] hj (by simp [Nat.lt_trans hj hk])]

set_option maxHeartbeats 400000 in
theorem lookUp_any (s : SV) (ts : BookM) (name : ByteArray) (w : World) (hs : BookAt w s ts) (hn : ts.length ≤ 9223372036854775807) :
   Calls Tryz.prog 30 #[.agg #[.slice s.a s.len s.cap], .string name] w fun e w' => ∃ tv : TV, e = .returned (.tuple #[.agg #[.string tv.name, .bool tv.enum, .slice tv.fields.a tv.fields.len tv.fields.cap, .slice tv.gone.a tv.gone.len tv.gone.cap, .slice tv.items.a tv.items.len tv.items.cap], .bool (findM ts name).isSome]) ∧ TypeAt w tv ((findM ts name).getD TypeM.zero) ∧ Ext w w' := by
  obtain ⟨a, n, cap⟩ := s
  obtain ⟨hl, hts⟩ := hs
  simp only at hl
  subst hl
  show Calls Tryz.prog 30 #[.agg #[.slice a ts.length cap], .string name] w _
  go_enter Tryz.func30, Tryz.ntmps30
  go_wp2
  go_loopw [11] (fun i wr => ∃ k : Nat, k ≤ ts.length ∧ i = .int .i64 k ∧ NoneTo (fun t : TypeM => t.name.toList == name.toList) ts k ∧ Ext ((w.alloc (Obj.cells #[Value.slice a ts.length cap] 24)).alloc (Obj.cells #[Value.string { data := #[] }, Value.bool false, Value.slice none 0 0, Value.slice none 0 0, Value.slice none 0 0] 30)) wr) (fun i wr => ts.length - (intOf i).toNat)
  case atStart => exact ⟨0, by omega, rfl, NoneTo.zero _ _, Below.refl _ _⟩
  case round =>
    obtain ⟨k, hk, rfl, hne, hx⟩ := hrel
    have hE : Ext w wr := (((Ext.refl w).alloc _).alloc _).trans hx
    obtain ⟨hq, hf⟩ := hx.whole (heap_alloc2_new _ _ _)
    have q0 := hq 0 (.string ⟨#[]⟩) rfl
    have q1 := hq 1 (.bool false) rfl
    have q2 := hq 2 (.slice none 0 0) rfl
    have q3 := hq 3 (.slice none 0 0) rfl
    have q4 := hq 4 (.slice none 0 0) rfl
    have hz : w.heap.size + 1 < wr.heap.size := by have := hx.size; simp at this; omega
    clear hq
    by_cases hlt : k < ts.length
    · obtain ⟨b, o, cs, rfl, hr, tv, rfl, htv⟩ := hts k ts[k] (by simp [hlt])
      obtain ⟨h0, h1, h2, h3, h4⟩ := range5 (hE.range hr)
      have Htv : Hid (TypeAt w tv ts[k]) := htv
      have Hk : Hid (ts[k]? = some ts[k]) := by simp [Hid, hlt]
      clear hts hr htv
      go_wp2
      · rename_i hname
        have e : findM ts name = some ts[k] := NoneTo.some hne Hk.out (by rw [← Htv.out.name]; exact hname)
        refine bodyPost_ret (v := .tuple #[.agg tv.cells.toArray, .bool true]) (by simp [results, Tryz.results30, go_sem, hz, q0, q1, q2, q3, q4]) rfl ⟨tv, by rw [e]; rfl, by rw [e]; exact Htv.out, ?_⟩
        exact (((((hE.setCell (by simp) _).setCell (by simp) _).setCell (by simp) _).setCell (by simp) _).setCell (by simp) _).alloc _
      · rename_i hname
        exact ⟨⟨k + 1, by omega, by go_num, NoneTo.succ hne Hk.out (by rw [← Htv.out.name]; exact hname), hx.alloc _⟩, by simp [intOf]; omega⟩
    · go_wp2
      have e : findM ts name = none := NoneTo.none hne (by omega)
      refine bodyPost_ret (v := .tuple #[.agg #[.string ⟨#[]⟩, .bool false, .slice none 0 0, .slice none 0 0, .slice none 0 0], .bool false]) (by simp [results, Tryz.results30, go_sem, q0, q1, q2, q3, q4]) rfl ⟨⟨⟨#[]⟩, false, ⟨none, 0, 0⟩, ⟨none, 0, 0⟩, ⟨none, 0, 0⟩⟩, by rw [e]; rfl, by rw [e]; exact zeroTypeAt w, ?_⟩
      exact (((((hE.setCell (by simp) _).setCell (by simp) _).setCell (by simp) _).setCell (by simp) _).setCell (by simp) _)
end Go.Proofs.YtmghhakebhgckaaGreatDoor

namespace Go.Proofs.YtmghhakebhgckaaGreatDoor
set_option linter.unusedSimpArgs false
set_option linter.unusedVariables false
open Go.RowKit

def letterB (c : UInt8) : Bool := decide (97 ≤ (c.toNat : Int)) && decide ((c.toNat : Int) ≤ 122)
def wordsL : List (List UInt8) := [[98, 111, 111, 108], [101, 110, 117, 109], [103, 111, 110, 101], [105, 110, 116], [109, 97, 110, 121], [109, 97, 121, 98, 101], [109, 101, 115, 115, 97, 103, 101], [111, 110, 101], [116, 101, 120, 116]]
def namedL (l : List UInt8) : Bool := decide (1 ≤ l.length) && decide (l.length ≤ 12) && l.all letterB && !wordsL.contains l

/-- The nine words lie where the program's text lays them. -/
def WordsAt (w : World) : Prop := w.rangeAt 0 0 (wordsL.map fun l => .string ⟨l.toArray⟩)
theorem WordsAt.ext {w w' : World} (h : WordsAt w) (he : Ext w w') : WordsAt w' := he.range h

theorem NoneTo.any {α : Type} {p : α → Bool} {l : List α} {k : Nat} (h : NoneTo p l k) (hk : l.length ≤ k) : l.any p = false := by
  have := NoneTo.none h hk
  rw [List.find?_eq_none] at this
  exact List.any_eq_false.2 this

set_option maxHeartbeats 400000 in
theorem isLetter_any (c : UInt8) (w : World) : Calls Tryz.prog 37 #[.int .u8 c.toNat] w fun e w' => e = .returned (.bool (letterB c)) ∧ w' = w := by
  unfold letterB
  go_enter Tryz.func37, Tryz.ntmps37
  go_wp2
  all_goals
    go_ret
    rename_i h
    exact ⟨by simp [h]; try omega, rfl⟩

set_option maxHeartbeats 400000 in
theorem means_any (tv : TV) (t : TypeM) (n : Int) (w : World) (ht : TypeAt w tv t) (hn : t.items.length ≤ 9223372036854775807) :
    Calls Tryz.prog 16 #[.agg #[.string tv.name, .bool tv.enum, .slice tv.fields.a tv.fields.len tv.fields.cap, .slice tv.gone.a tv.gone.len tv.gone.cap, .slice tv.items.a tv.items.len tv.items.cap], .int .i64 n] w fun e w' => e = .returned (.bool (t.items.any fun i => i.n == n)) ∧ Ext w w' := by
  obtain ⟨name, enum, fs, gs, is⟩ := tv
  obtain ⟨b', n', c'⟩ := is
  obtain ⟨hl, hts⟩ := ht.items
  simp only at hl
  subst hl
  show Calls Tryz.prog 16 #[.agg #[.string name, .bool enum, .slice fs.a fs.len fs.cap, .slice gs.a gs.len gs.cap, .slice b' t.items.length c'], .int .i64 n] w _
  go_enter Tryz.func16, Tryz.ntmps16
  go_wp2
  go_loopw [10] (fun i wr => ∃ k : Nat, k ≤ t.items.length ∧ i = .int .i64 k ∧ NoneTo (fun i : ItemM => i.n == n) t.items k ∧ Ext w wr) (fun i wr => t.items.length - (intOf i).toNat)
  case atStart => exact ⟨0, by omega, rfl, NoneTo.zero _ _, (Ext.refl w).alloc _⟩
  case round =>
    obtain ⟨k, hk, rfl, hne, hx⟩ := hrel
    by_cases hlt : k < t.items.length
    · obtain ⟨b, o, cs, rfl, hr, rfl⟩ := hts k t.items[k] (by simp [hlt])
      obtain ⟨h0, h1⟩ := range2 (hx.range hr)
      have Hk : Hid (t.items[k]? = some t.items[k]) := by simp [Hid, hlt]
      clear hts hr
      go_wp2
      · rename_i hname
        go_ret
        have e : (t.items.any fun i => i.n == n) = true := List.any_eq_true.2 ⟨t.items[k], by simp, hname⟩
        exact ⟨by rw [e]; rfl, hx.alloc _⟩
      · rename_i hname
        exact ⟨⟨k + 1, by omega, by go_num, NoneTo.succ hne Hk.out hname, hx.alloc _⟩, by simp [intOf]; omega⟩
    · go_wp2
      go_ret
      have e : (t.items.any fun i => i.n == n) = false := NoneTo.any hne (by omega)
      exact ⟨by rw [e]; rfl, hx⟩

def fieldM (t : TypeM) (id : Int) : Option FieldM := t.fields.find? fun f => f.id == id
def FieldM.zero : FieldM := ⟨0, ⟨#[]⟩, ⟨#[]⟩, 0, 0⟩

set_option maxHeartbeats 400000 in
theorem fieldOf_any (tv : TV) (t : TypeM) (n : Int) (w : World) (ht : TypeAt w tv t) (hn : t.fields.length ≤ 9223372036854775807) :
    Calls Tryz.prog 11 #[.agg #[.string tv.name, .bool tv.enum, .slice tv.fields.a tv.fields.len tv.fields.cap, .slice tv.gone.a tv.gone.len tv.gone.cap, .slice tv.items.a tv.items.len tv.items.cap], .int .i64 n] w fun e w' => e = .returned (.tuple #[.agg ((fieldM t n).getD FieldM.zero).cells.toArray, .bool (fieldM t n).isSome]) ∧ Ext w w' := by
  obtain ⟨name, enum, fs, gs, is⟩ := tv
  obtain ⟨b', n', c'⟩ := fs
  obtain ⟨hl, hts⟩ := ht.fields
  simp only at hl
  subst hl
  show Calls Tryz.prog 11 #[.agg #[.string name, .bool enum, .slice b' t.fields.length c', .slice gs.a gs.len gs.cap, .slice is.a is.len is.cap], .int .i64 n] w _
  go_enter Tryz.func11, Tryz.ntmps11
  go_wp2
  go_loopw [11] (fun i wr => ∃ k : Nat, k ≤ t.fields.length ∧ i = .int .i64 k ∧ NoneTo (fun i : FieldM => i.id == n) t.fields k ∧ Ext ((w.alloc (Obj.cells #[.string name, .bool enum, .slice b' t.fields.length c', .slice gs.a gs.len gs.cap, .slice is.a is.len is.cap] 30)).alloc (Obj.cells #[.int .i64 0, .string ⟨#[]⟩, .string ⟨#[]⟩, .int .i64 0, .int .i64 0] 34)) wr) (fun i wr => t.fields.length - (intOf i).toNat)
  case atStart => exact ⟨0, by omega, rfl, NoneTo.zero _ _, Below.refl _ _⟩
  case round =>
    obtain ⟨k, hk, rfl, hne, hx⟩ := hrel
    have hE : Ext w wr := (((Ext.refl w).alloc _).alloc _).trans hx
    obtain ⟨hq, hf⟩ := hx.whole (heap_alloc2_new _ _ _)
    have q0 := hq 0 (.int .i64 0) rfl
    have q1 := hq 1 (.string ⟨#[]⟩) rfl
    have q2 := hq 2 (.string ⟨#[]⟩) rfl
    have q3 := hq 3 (.int .i64 0) rfl
    have q4 := hq 4 (.int .i64 0) rfl
    have hz : w.heap.size + 1 < wr.heap.size := by have := hx.size; simp at this; omega
    clear hq
    by_cases hlt : k < t.fields.length
    · obtain ⟨b, o, cs, rfl, hr, rfl⟩ := hts k t.fields[k] (by simp [hlt])
      obtain ⟨h0, h1, h2, h3, h4⟩ := range5 (hE.range hr)
      have Hk : Hid (t.fields[k]? = some t.fields[k]) := by simp [Hid, hlt]
      clear hts hr
      go_wp2
      · rename_i hname
        have e : fieldM t n = some t.fields[k] := NoneTo.some hne Hk.out hname
        refine bodyPost_ret (v := .tuple #[.agg t.fields[k].cells.toArray, .bool true]) (by simp [results, Tryz.results11, go_sem, hz, q0, q1, q2, q3, q4]) rfl ⟨by rw [e]; rfl, ?_⟩
        exact (((((hE.setCell (by simp) _).setCell (by simp) _).setCell (by simp) _).setCell (by simp) _).setCell (by simp) _).alloc _
      · rename_i hname
        exact ⟨⟨k + 1, by omega, by go_num, NoneTo.succ hne Hk.out hname, hx.alloc _⟩, by simp [intOf]; omega⟩
    · go_wp2
      have e : fieldM t n = none := NoneTo.none hne (by omega)
      refine bodyPost_ret (v := .tuple #[.agg FieldM.zero.cells.toArray, .bool false]) (by simp [results, Tryz.results11, go_sem, q0, q1, q2, q3, q4, FieldM.zero]) rfl ⟨by rw [e]; rfl, ?_⟩
      exact (((((hE.setCell (by simp) _).setCell (by simp) _).setCell (by simp) _).setCell (by simp) _).setCell (by simp) _)
end Go.Proofs.YtmghhakebhgckaaGreatDoor

namespace Go.Proofs.YtmghhakebhgckaaGreatDoor
set_option linter.unusedSimpArgs false
set_option linter.unusedVariables false
open Go.RowKit

theorem IntsAt.cell {w : World} {s : SV} {l : List Int} (h : IntsAt w s l) {k : Nat} (hk : k < l.length) : ∃ b o, s.a = some ⟨b, o, none⟩ ∧ w.cell? ⟨b, o + k, none⟩ = some (.int .i64 l[k]) := by
  obtain ⟨b, o, cs, h1, h2, rfl⟩ := h.2 k l[k] (by simp [hk])
  have := range1 h2
  rw [Nat.mul_one] at this
  exact ⟨b, o, h1, this⟩

def risesAt (lo hi : Int) (l : List Int) (i : Nat) : Bool := decide (lo ≤ l.getD i 0) && decide (l.getD i 0 ≤ hi) && (i == 0 || decide (l.getD (i - 1) 0 < l.getD i 0))
def risingL (l : List Int) (lo hi : Int) : Bool := (List.range l.length).all (risesAt lo hi l)
def AllTo (p : Nat → Bool) (k : Nat) : Prop := ∀ j, j < k → p j = true
theorem AllTo.zero (p : Nat → Bool) : AllTo p 0 := fun _ h => by omega
theorem AllTo.succ {p : Nat → Bool} {k : Nat} (h : AllTo p k) (hp : p k = true) : AllTo p (k + 1) := fun j hj => by
  by_cases e : j = k
  · subst e; exact hp
  · exact h j (by omega)
theorem AllTo.all {p : Nat → Bool} {k n : Nat} (h : AllTo p k) (hk : n ≤ k) : (List.range n).all p = true := by
  rw [List.all_eq_true]
  intro x hx
  exact h x (by have := List.mem_range.1 hx; omega)
theorem not_all_range {p : Nat → Bool} {k n : Nat} (hk : k < n) (hp : p k = false) : (List.range n).all p = false := by
  rw [List.all_eq_false]
  exact ⟨k, List.mem_range.2 hk, by simp [hp]⟩

theorem risesAt_iff {lo hi : Int} {l : List Int} {k : Nat} (hk : k < l.length) : risesAt lo hi l k = true ↔ (lo ≤ l[k] ∧ l[k] ≤ hi ∧ (k = 0 ∨ l[k - 1] < l[k])) := by
  have h1 : l.getD k 0 = l[k] := by simp [List.getD, hk]
  have h2 : l.getD (k - 1) 0 = l[k - 1] := by simp [List.getD, show k - 1 < l.length by omega]
  unfold risesAt
  rw [h1, h2]
  simp only [Bool.and_eq_true, decide_eq_true_eq, Bool.or_eq_true, beq_iff_eq, and_assoc]
theorem rises_yes {lo hi : Int} {l : List Int} {k : Nat} (hk : k < l.length) (h : lo ≤ l[k] ∧ l[k] ≤ hi ∧ (k = 0 ∨ l[k - 1] < l[k])) : risesAt lo hi l k = true := (risesAt_iff hk).2 h
theorem rises_no {lo hi : Int} {l : List Int} {k : Nat} (hk : k < l.length) (h : ¬ (lo ≤ l[k] ∧ l[k] ≤ hi ∧ (k = 0 ∨ l[k - 1] < l[k]))) : risingL l lo hi = false :=
  not_all_range hk (by rw [Bool.eq_false_iff]; exact fun e => h ((risesAt_iff hk).1 e))

set_option maxHeartbeats 400000 in
theorem rising_any (s : SV) (l : List Int) (lo hi : Int) (w : World) (hs : IntsAt w s l) (hn : l.length ≤ 9223372036854775807) :
    Calls Tryz.prog 85 #[.slice s.a s.len s.cap, .int .i64 lo, .int .i64 hi] w fun e w' => e = .returned (.bool (risingL l lo hi)) ∧ Ext w w' := by
  obtain ⟨a, n, cap⟩ := s
  have hl := hs.1
  simp only at hl
  subst hl
  show Calls Tryz.prog 85 #[.slice a l.length cap, .int .i64 lo, .int .i64 hi] w _
  go_enter Tryz.func85, Tryz.ntmps85
  go_wp2
  go_loopw [11] (fun i wr => ∃ k : Nat, k ≤ l.length ∧ i = .int .i64 k ∧ AllTo (risesAt lo hi l) k ∧ Ext w wr) (fun i wr => l.length - (intOf i).toNat)
  case atStart => exact ⟨0, by omega, rfl, AllTo.zero _, Ext.refl w⟩
  case round =>
    obtain ⟨k, hk, rfl, hne, hx⟩ := hrel
    by_cases hlt : k < l.length
    · obtain ⟨b, o, rfl, h0⟩ := hs.cell hlt
      replace h0 := hx.cell h0
      by_cases hz : k < 1
      · clear hs
        go_wp2
        · go_ret
          exact ⟨by rw [rises_no hlt (by omega)]; rfl, hx⟩
        · exact ⟨⟨k + 1, by omega, by go_num, hne.succ (rises_yes hlt (by omega)), hx⟩, by simp [intOf]; omega⟩
        · go_ret
          exact ⟨by rw [rises_no hlt (by omega)]; rfl, hx⟩
      · obtain ⟨b2, o2, e2, h1⟩ := hs.cell (show k - 1 < l.length by omega)
        simp only [Option.some.injEq, Addr.mk.injEq] at e2
        obtain ⟨rfl, rfl, _⟩ := e2
        replace h1 := hx.cell h1
        clear hs
        go_wp2
        · go_ret
          exact ⟨by rw [rises_no hlt (by omega)]; rfl, hx⟩
        · go_ret
          exact ⟨by rw [rises_no hlt (by omega)]; rfl, hx⟩
        · exact ⟨⟨k + 1, by omega, by go_num, hne.succ (rises_yes hlt (by omega)), hx⟩, by simp [intOf]; omega⟩
        · go_ret
          exact ⟨by rw [rises_no hlt (by omega)]; rfl, hx⟩
    · go_wp2
      go_ret
      have e : risingL l lo hi = true := AllTo.all hne (by omega)
      exact ⟨by rw [e]; rfl, hx⟩
end Go.Proofs.YtmghhakebhgckaaGreatDoor

