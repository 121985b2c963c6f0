import Derived.WalkKit
import Derived.Deep.MidRow
import Derived.Test.YtmdpdgldmedebaaGreatDoorProg
namespace Go.Proofs.YtmdpdgldmedebaaGreatDoor
set_option linter.unusedSimpArgs false
set_option linter.unusedVariables false
set_option linter.unusedSimpArgs false
set_option linter.unusedVariables false
open Go.RowKit

/-- Nothing that was there has turned. -/
abbrev Ext (w w' : World) : Prop := Below w.heap.size w w'

theorem Ext.refl (w : World) : Ext w w := Below.refl _ _
theorem Ext.trans {a b c : World} (h : Ext a b) (k : Ext b c) : Ext a c := Below.trans h (k.mono h.size)
theorem Ext.alloc {a w : World} (h : Ext a w) (o : Obj) : Ext a (w.alloc o) := Below.alloc h h.size o
theorem Ext.drew {a w : World} (h : Ext a w) : Ext a w.drew := Below.drew h
theorem Ext.setCell {a w : World} (h : Ext a w) {p : Addr} (hp : a.heap.size ≤ p.block) (u : Value) : Ext a (w.setCell p u) := Below.setCell h hp u
theorem Ext.cell {w w' : World} (h : Ext w w') {p : Addr} {v : Value} (hc : w.cell? p = some v) : w'.cell? p = some v := by
  rw [Below.cell h (World.block_lt_of_cell? w _ hc)]; exact hc
theorem Ext.range {w w' : World} (h : Ext w w') {b o : Nat} {cs : List Value} (hc : w.rangeAt b o cs) : w'.rangeAt b o cs := fun j v hv => h.cell (hc j v hv)

/-- A slice, as its value bears it. -/
structure SV where
  a : Option Addr
  len : Nat
  cap : Nat
abbrev SV.v (s : SV) : Value := .slice s.a s.len s.cap

/-- A slice's own shape: no more elements than room, and nil is without room. -/
def SV.ok (s : SV) : Prop := s.len ≤ s.cap ∧ (s.a = none → s.cap = 0)
theorem SV.ok.nil {s : SV} (h : s.ok) : s.a = none → s.len = 0 ∧ s.cap = 0 := fun e => by have := h.1; have := h.2 e; omega

/-- A slice of elements of k cells each, each of which is told by R. -/
def SliceAt {α : Type} (k : Nat) (R : World → List Value → α → Prop) (w : World) (s : SV) (l : List α) : Prop :=
  s.len = l.length ∧ ∀ i x, l[i]? = some x → ∃ b o cs, s.a = some ⟨b, o, none⟩ ∧ w.rangeAt b (o + i * k) cs ∧ R w cs x

theorem SliceAt.ext {α : Type} {k : Nat} {R : World → List Value → α → Prop} {w w' : World} {s : SV} {l : List α} (h : SliceAt k R w s l) (he : Ext w w')
    (hR : ∀ cs x, R w cs x → R w' cs x) : SliceAt k R w' s l :=
  ⟨h.1, fun i x hx => let ⟨b, o, cs, h1, h2, h3⟩ := h.2 i x hx; ⟨b, o, cs, h1, he.range h2, hR _ _ h3⟩⟩

structure FieldM where
  id : Int
  name : ByteArray
  type : ByteArray
  kind : Int
  rule : Int
structure ItemM where
  name : ByteArray
  n : Int
structure TypeM where
  name : ByteArray
  enum : Bool
  fields : List FieldM
  gone : List Int
  items : List ItemM
abbrev BookM := List TypeM

abbrev FieldM.cells (f : FieldM) : List Value := [.int .i64 f.id, .string f.name, .string f.type, .int .i64 f.kind, .int .i64 f.rule]
abbrev ItemM.cells (f : ItemM) : List Value := [.string f.name, .int .i64 f.n]

def IntsAt (w : World) (s : SV) (l : List Int) : Prop := SliceAt 1 (fun _ cs n => cs = [.int .i64 n]) w s l
def FieldsAt (w : World) (s : SV) (l : List FieldM) : Prop := SliceAt 5 (fun _ cs f => cs = f.cells) w s l
def ItemsAt (w : World) (s : SV) (l : List ItemM) : Prop := SliceAt 2 (fun _ cs f => cs = f.cells) w s l

/-- A type, as its five cells bear it. -/
structure TV where
  name : ByteArray
  enum : Bool
  fields : SV
  gone : SV
  items : SV
abbrev TV.cells (t : TV) : List Value := [.string t.name, .bool t.enum, t.fields.v, t.gone.v, t.items.v]
structure TypeAt (w : World) (tv : TV) (t : TypeM) : Prop where
  name : tv.name = t.name
  enum : tv.enum = t.enum
  fields : FieldsAt w tv.fields t.fields
  gone : IntsAt w tv.gone t.gone
  items : ItemsAt w tv.items t.items
  fok : tv.fields.ok
  gok : tv.gone.ok
  iok : tv.items.ok
def BookAt (w : World) (s : SV) (l : BookM) : Prop := SliceAt 5 (fun w cs t => ∃ tv : TV, cs = tv.cells ∧ TypeAt w tv t) w s l

theorem IntsAt.ext {w w' : World} {s : SV} {l : List Int} (h : IntsAt w s l) (he : Ext w w') : IntsAt w' s l := SliceAt.ext h he fun _ _ h => h
theorem FieldsAt.ext {w w' : World} {s : SV} {l : List FieldM} (h : FieldsAt w s l) (he : Ext w w') : FieldsAt w' s l := SliceAt.ext h he fun _ _ h => h
theorem ItemsAt.ext {w w' : World} {s : SV} {l : List ItemM} (h : ItemsAt w s l) (he : Ext w w') : ItemsAt w' s l := SliceAt.ext h he fun _ _ h => h
theorem TypeAt.ext {w w' : World} {tv : TV} {t : TypeM} (h : TypeAt w tv t) (he : Ext w w') : TypeAt w' tv t := ⟨h.name, h.enum, h.fields.ext he, h.gone.ext he, h.items.ext he, h.fok, h.gok, h.iok⟩
theorem BookAt.ext {w w' : World} {s : SV} {l : BookM} (h : BookAt w s l) (he : Ext w w') : BookAt w' s l := SliceAt.ext h he fun _ _ ⟨tv, e, h⟩ => ⟨tv, e, h.ext he⟩

/-- The cells of a range, one by one. -/
theorem range5 {w : World} {b o : Nat} {c0 c1 c2 c3 c4 : Value} (h : w.rangeAt b o [c0, c1, c2, c3, c4]) :
    w.cell? ⟨b, o, none⟩ = some c0 ∧ w.cell? ⟨b, o + 1, none⟩ = some c1 ∧ w.cell? ⟨b, o + 2, none⟩ = some c2 ∧ w.cell? ⟨b, o + 3, none⟩ = some c3 ∧ w.cell? ⟨b, o + 4, none⟩ = some c4 :=
  ⟨h 0 _ rfl, h 1 _ rfl, h 2 _ rfl, h 3 _ rfl, h 4 _ rfl⟩
theorem range2 {w : World} {b o : Nat} {c0 c1 : Value} (h : w.rangeAt b o [c0, c1]) :
    w.cell? ⟨b, o, none⟩ = some c0 ∧ w.cell? ⟨b, o + 1, none⟩ = some c1 := ⟨h 0 _ rfl, h 1 _ rfl⟩
theorem range1 {w : World} {b o : Nat} {c0 : Value} (h : w.rangeAt b o [c0]) : w.cell? ⟨b, o, none⟩ = some c0 := h 0 _ rfl
/-- A block that was there, whole: its cells, and that none is frozen. -/
theorem Ext.whole {w w' : World} (h : Ext w w') {g : Nat} {cs : Array Value} {t : TypeId} (hb : w.heap[g]? = some (.cells cs t (0, 0))) :
    (∀ j v, cs[j]? = some v → w'.cell? ⟨g, j, none⟩ = some v) ∧ ∀ j, w'.frozen? ⟨g, j, none⟩ = false := by
  have hg : g < w.heap.size := by
    by_cases hlt : g < w.heap.size
    · exact hlt
    · have hn : w.heap[g]? = none := by simp; omega
      rw [hn] at hb; cases hb
  have hb' : w'.heap[g]? = some (.cells cs t (0, 0)) := by rw [Below.block h g hg]; exact hb
  exact ⟨fun j v hv => by rw [cell_of_row w' g j cs t _ hb']; exact hv, fun j => frozen_of_row w' g j cs t hb'⟩
theorem lt_of_heap {w : World} {g : Nat} {o : Obj} (hb : w.heap[g]? = some o) : g < w.heap.size := by
  by_cases hlt : g < w.heap.size
  · exact hlt
  · have hn : w.heap[g]? = none := by simp; omega
    rw [hn] at hb; cases hb
theorem Ext.heap {w w' : World} (h : Ext w w') {g : Nat} {o : Obj} (hb : w.heap[g]? = some o) : w'.heap[g]? = some o := by
  rw [Below.block h g (lt_of_heap hb)]; exact hb
/-- A row of five cells, one by one, and none is frozen. -/
theorem row5 {w : World} {g : Nat} {t : TypeId} {c0 c1 c2 c3 c4 : Value} (hb : w.heap[g]? = some (.cells #[c0, c1, c2, c3, c4] t (0, 0))) :
    w.cell? ⟨g, 0, none⟩ = some c0 ∧ w.cell? ⟨g, 1, none⟩ = some c1 ∧ w.cell? ⟨g, 2, none⟩ = some c2 ∧ w.cell? ⟨g, 3, none⟩ = some c3 ∧ w.cell? ⟨g, 4, none⟩ = some c4 ∧ ∀ j, w.frozen? ⟨g, j, none⟩ = false :=
  ⟨cell_of_row w g 0 _ t _ hb, cell_of_row w g 1 _ t _ hb, cell_of_row w g 2 _ t _ hb, cell_of_row w g 3 _ t _ hb, cell_of_row w g 4 _ t _ hb, fun j => frozen_of_row w g j _ t hb⟩
/-- A slice of memory that came behind w. -/
def SV.Fresh (w : World) (s : SV) : Prop := ∀ ad, s.a = some ad → w.heap.size ≤ ad.block
theorem SV.Fresh.mono {w w' : World} {s : SV} (h : s.Fresh w') (hz : w.heap.size ≤ w'.heap.size) : s.Fresh w := fun ad ha => Nat.le_trans hz (h ad ha)
theorem World.rangeAt_setCell {w : World} {b o : Nat} {cs : List Value} (h : w.rangeAt b o cs) (p : Addr) (u : Value) (hp : b ≠ p.block) : (w.setCell p u).rangeAt b o cs := fun j v hv => by
  rw [World.cell?_of_block (w := w) (Below.heap_setCell w p u b hp)]; exact h j v hv
theorem SliceAt.setCell {α : Type} {k : Nat} {R : List Value → α → Prop} {w : World} {s : SV} {l : List α} (h : SliceAt k (fun _ cs x => R cs x) w s l) (p : Addr) (u : Value) (hp : ∀ ad, s.a = some ad → ad.block ≠ p.block) : SliceAt k (fun _ cs x => R cs x) (w.setCell p u) s l :=
  ⟨h.1, fun i x hx => let ⟨b, o, cs, h1, h2, h3⟩ := h.2 i x hx; ⟨b, o, cs, h1, World.rangeAt_setCell h2 p u (hp _ h1), h3⟩⟩
theorem IntsAt.setCell {w : World} {s : SV} {l : List Int} (h : IntsAt w s l) (p : Addr) (u : Value) (hp : ∀ ad, s.a = some ad → ad.block ≠ p.block) : IntsAt (w.setCell p u) s l := SliceAt.setCell h p u hp
theorem FieldsAt.setCell {w : World} {s : SV} {l : List FieldM} (h : FieldsAt w s l) (p : Addr) (u : Value) (hp : ∀ ad, s.a = some ad → ad.block ≠ p.block) : FieldsAt (w.setCell p u) s l := SliceAt.setCell h p u hp
theorem ItemsAt.setCell {w : World} {s : SV} {l : List ItemM} (h : ItemsAt w s l) (p : Addr) (u : Value) (hp : ∀ ad, s.a = some ad → ad.block ≠ p.block) : ItemsAt (w.setCell p u) s l := SliceAt.setCell h p u hp
end Go.Proofs.YtmdpdgldmedebaaGreatDoor

namespace Go.Proofs.YtmdpdgldmedebaaGreatDoor
set_option linter.unusedSimpArgs false
set_option linter.unusedVariables false
open Go.RowKit

/-- Two rows of the call's own whose elements are of two types are two rows. -/
theorem owns_apart {w : World} {base base' : Nat} {e e' : TypeId} {size size' : Nat} {v v' : Value} {n n' : Nat} {xs xs' : List Value}
    (h : w.ownsRow base e size v n xs) (h' : w.ownsRow base' e' size' v' n' xs') (hne : e ≠ e') : v.ownBlock = none ∨ v.ownBlock ≠ v'.ownBlock := by
  rcases h.2 with ⟨rfl, _⟩ | ⟨g, cap, cur, rfl, _, hg, _⟩
  · exact .inl rfl
  · refine .inr ?_
    rcases h'.2 with ⟨rfl, _⟩ | ⟨g', cap', cur', rfl, _, hg', _⟩
    · simp [Value.ownBlock]
    · intro e
      simp only [Value.ownBlock, Option.some.injEq] at e
      subst e
      rw [hg] at hg'
      simp only [Option.some.injEq, Obj.cells.injEq] at hg'
      exact hne hg'.2.1

theorem Ext.grown {a w w' : World} {row : Option Nat} (h : Ext a w) (hg : w.grownBy w' row) (hr : ∀ k, row = some k → a.heap.size ≤ k) : Ext a w' := Below.grown h hg h.size hr
theorem Ext.owned {a w w' : World} {base : Nat} {e : TypeId} {size : Nat} {v : Value} {n : Nat} {xs : List Value} (h : Ext a w) (hg : w.grownBy w' v.ownBlock) (ho : w.ownsRow base e size v n xs) (hb : a.heap.size ≤ base) : Ext a w' :=
  h.grown hg fun k hk => Nat.le_trans hb (ho.lt k hk).1

theorem owns_ext {w w' : World} {base : Nat} {e : TypeId} {size : Nat} {v : Value} {n : Nat} {xs : List Value} (h : w.ownsRow base e size v n xs) (he : Ext w w') : w'.ownsRow base e size v n xs := by
  refine ⟨h.1, ?_⟩
  rcases h.2 with h0 | ⟨g, cap, cur, hv, hb, hg, r⟩
  · exact .inl h0
  · refine .inr ⟨g, cap, cur, hv, hb, ?_, r⟩
    have hlt : g < w.heap.size := by
      by_cases hlt : g < w.heap.size
      · exact hlt
      · have hn : w.heap[g]? = none := by simp; omega
        rw [hn] at hg; cases hg
    rw [Below.block he g hlt]; exact hg

/-- A row of the call's own, as a slice of elements of k cells each. -/
theorem sliceAt_of_owns {α : Type} {k : Nat} {w : World} {base : Nat} {e : TypeId} {v : Value} {n : Nat} {l : List α} (enc : α → List Value) (hk : ∀ x, (enc x).length = k)
    (h : w.ownsRow base e k v n (l.flatMap enc)) (hn : n = l.length) : ∃ s : SV, v = .slice s.a s.len s.cap ∧ SliceAt k (fun _ cs x => cs = enc x) w s l := by
  subst hn
  rcases h.2 with ⟨rfl, h0⟩ | ⟨g, cap, cur, rfl, hb, hg, hc, hm, hs, ht⟩
  · have : l = [] := List.length_eq_zero_iff.1 h0
    subst this
    exact ⟨⟨none, 0, 0⟩, rfl, rfl, fun i x hx => by simp at hx⟩
  · refine ⟨⟨some ⟨g, 0, none⟩, l.length, cap⟩, rfl, rfl, fun i x hx => ⟨g, 0, enc x, rfl, fun j v hv => ?_, rfl⟩⟩
    have hj : j < k := by
      have := (List.getElem?_eq_some_iff.1 hv).1
      rw [hk] at this; exact this
    have hi := (List.getElem?_eq_some_iff.1 hx).1
    have key : (l.flatMap enc)[i * k + j]? = some v := by
      clear h ht hs hc hm hg hb
      induction l generalizing i with
      | nil => simp at hi
      | cons y l ih =>
        rw [List.flatMap_cons]
        cases i with
        | zero =>
          simp only [List.getElem?_cons_zero, Option.some.injEq] at hx
          subst hx
          rw [Nat.zero_mul, Nat.zero_add, List.getElem?_append_left (by rw [hk]; exact hj)]
          exact hv
        | succ i =>
          rw [List.getElem?_append_right (by rw [hk, Nat.add_mul]; omega), hk, show (i + 1) * k + j - k = i * k + j by rw [Nat.add_mul]; omega]
          exact ih i (by simpa using hx) (by simpa using hi)
    have hlt : 0 + i * k + j < l.length * k := by
      have : (i + 1) * k ≤ l.length * k := Nat.mul_le_mul_right k hi
      rw [Nat.add_mul] at this; omega
    rw [cell_of_row w g _ cur e _ hg]
    rw [← ht, List.getElem?_take] at key
    rw [if_pos (by omega)] at key
    rw [Nat.zero_add]
    simpa using key

theorem ok_of_owns {w : World} {base : Nat} {e : TypeId} {k n : Nat} {s : SV} {xs : List Value} (h : w.ownsRow base e k (.slice s.a s.len s.cap) n xs) : s.ok := by
  rcases h.2 with ⟨e, _⟩ | ⟨g, cap, cur, e, _, _, hc, _⟩
  · simp only [Value.slice.injEq] at e; exact ⟨by omega, fun _ => e.2.2⟩
  · simp only [Value.slice.injEq] at e; exact ⟨by omega, fun h => by rw [e.1] at h; cases h⟩

theorem fresh_of_owns {w w0 : World} {base : Nat} {e : TypeId} {k n : Nat} {s : SV} {xs : List Value} (h : w.ownsRow base e k (.slice s.a s.len s.cap) n xs) (hb : w0.heap.size ≤ base) : s.Fresh w0 := by
  intro ad ha
  exact Nat.le_trans hb (h.lt ad.block (by simp [Value.ownBlock, ha])).1

/-- append of one element, given as a new row of its own. -/
theorem wpList_app1 {P : Program} {w : World} {ops : Array Oper} {rest : List Oper} {o : Oper} {a : Act} {Q : Exit → Act → World → Prop} (s x : Operand) (t e : TypeId) (z : Value) (size bytes : Nat)
    (ht : P.underlying t = some (.slice e)) (hinfo : (P.info? e).map (fun i => (i.zero, i.size, i.bytes)) = some (some z, size, bytes)) (hzs : z.cells.size = size) (hsz : 0 < size) (hby : bytes ≤ 96)
    (hgd : o.guard = none) (ho : o.op = .call { callee := .builtin .append, args := #[s, x], argTypes := #[t, t] })
    (base : Nat) (v : Value) (n : Nat) (xs : List Value) (hs : a.eval s = v) (hown : w.ownsRow base e size v n xs)
    (g c : Nat) (news : List Value) (hx : a.eval x = .slice (some ⟨g, 0, none⟩) 1 c) (hl : news.length = size) (hnews : w.rangeAt g 0 news) (h1 : ∀ u ∈ news, u.oneCell' = true)
    (hn : n < 1048576) (hbase : base ≤ w.heap.size)
    (h : ∀ v' w', w'.ownsRow base e size v' (n + 1) (xs ++ news) → w.grownBy w' v.ownBlock → wpList P ops Q rest (a.put o.dst v') w') : wpList P ops Q (o :: rest) a w := by
  obtain ⟨i, hi, hz0, hz1, hz2⟩ := info_parts hinfo
  refine wpList_append_own w hgd s x t ho base e i z size bytes ht hi hz0 hz1 hz2 hzs hsz v n xs hs hown ⟨g, 0, none⟩ 1 c news hx (by rw [hl, Nat.one_mul]) (fun j u hu => ?_) h1 (by unfold maxLen; omega) ?_ hbase (fun v' w' h2 h3 _ => h v' w' h2 h3)
  · rw [Addr.add_mid]; exact hnews j u hu
  · have : (n + 1) * bytes ≤ 1048576 * 96 := Nat.mul_le_mul (by omega) hby
    omega

theorem flatMap_get {α β : Type} {k : Nat} {enc : α → List β} (hk : ∀ x, (enc x).length = k) : ∀ (l : List α) (j : Nat) (u : β), (l.flatMap enc)[j]? = some u → ∃ i r x, j = i * k + r ∧ r < k ∧ l[i]? = some x ∧ (enc x)[r]? = some u
  | [], j, u, h => by simp at h
  | y :: l, j, u, h => by
    rw [List.flatMap_cons] at h
    by_cases hj : j < k
    · rw [List.getElem?_append_left (by rw [hk]; exact hj)] at h
      exact ⟨0, j, y, by omega, hj, rfl, h⟩
    · rw [List.getElem?_append_right (by rw [hk]; omega), hk] at h
      obtain ⟨i, r, x, e, hr, hx, hu⟩ := flatMap_get hk l _ _ h
      exact ⟨i + 1, r, x, by rw [Nat.add_mul]; omega, hr, hx, hu⟩
theorem flatMap_len {α β : Type} {k : Nat} {enc : α → List β} (hk : ∀ x, (enc x).length = k) : ∀ (l : List α), (l.flatMap enc).length = l.length * k
  | [] => by simp
  | y :: l => by rw [List.flatMap_cons, List.length_append, hk, flatMap_len hk l, List.length_cons, Nat.add_mul]; omega

/-- A slice's elements, all its cells in a row. -/
theorem SliceAt.row {α : Type} {k : Nat} {w : World} {s : SV} {l : List α} {enc : α → List Value} (hk : ∀ x, (enc x).length = k) (h : SliceAt k (fun _ cs x => cs = enc x) w s l) {ad : Addr} (ha : s.a = some ad) :
    ∀ j u, (l.flatMap enc)[j]? = some u → w.cell? (ad.add j) = some u := by
  intro j u hu
  obtain ⟨i, r, x, rfl, hr, hx, hu⟩ := flatMap_get hk l j u hu
  obtain ⟨b, o, cs, h1, h2, rfl⟩ := h.2 i x hx
  rw [ha] at h1
  cases h1
  rw [Addr.add_mid]
  have := h2 r u hu
  rwa [Nat.add_assoc] at this

/-- append(nil, s...): a new slice of the same elements. -/
theorem run_app_all {α : Type} {P : Program} {w : World} (t ty e : TypeId) (z : Value) (k bytes : Nat)
    (ht : P.underlying t = some (.slice e)) (hinfo : (P.info? e).map (fun i => (i.zero, i.size, i.bytes)) = some (some z, k, bytes)) (hzs : z.cells.size = k) (hsz : 0 < k) (hby : bytes ≤ 96)
    (enc : α → List Value) (hk : ∀ x, (enc x).length = k) (h1 : ∀ x, ∀ u ∈ enc x, u.oneCell' = true) (base : Nat) (v : Value) (hown : w.ownsRow base e k v 0 []) (w0 : World) (hw0 : Ext w0 w) (hbase : w0.heap.size ≤ base) (hv : base ≤ w.heap.size) (s : SV) (l : List α) (hs : SliceAt k (fun _ cs x => cs = enc x) w s l) (h0 : s.a = none → s.len = 0 ∧ s.cap = 0) (hl : l.length ≤ 1048576) :
    ∃ (s' : SV) (w' : World), (Builtin.append_ #[t, t] ty #[v, .slice s.a s.len s.cap]).run P w = .ok (.slice s'.a s'.len s'.cap) w' ∧ SliceAt k (fun _ cs x => cs = enc x) w' s' l ∧ Ext w0 w' ∧ w.grownBy w' v.ownBlock ∧ w'.ownsRow base e k (.slice s'.a s'.len s'.cap) l.length (l.flatMap enc) := by
  obtain ⟨i, hi, hz0, hz1, hz2⟩ := info_parts hinfo
  obtain ⟨a, n, cap⟩ := s
  have hn := hs.1
  simp only at hn
  subst hn
  cases a with
  | none =>
    obtain ⟨e0, e1⟩ := h0 rfl
    simp only at e0 e1
    have : l = [] := List.length_eq_zero_iff.1 e0
    subst this
    subst e1
    have hr := run_append_owned_none (P := P) w base t ty e i k ht hi v 0 [] hown
    obtain ⟨s', hs', hsl⟩ := sliceAt_of_owns enc hk (l := []) hown rfl
    refine ⟨s', w, by rw [← hs']; exact hr, hsl, hw0, World.grownBy.refl _ _, ?_⟩
    rw [← hs']
    exact hown
  | some ad =>
    obtain ⟨v', w', hr, ho', hg, _⟩ := run_append_own (P := P) w base t ty e i z k bytes ht hi hz0 hz1 hz2 hzs hsz v 0 [] hown ad l.length cap (l.flatMap enc) (flatMap_len hk l) (hs.row hk rfl)
      (fun u hu => let ⟨x, _, hx⟩ := List.mem_flatMap.1 hu; h1 x u hx) (by unfold maxLen; omega)
      (by have : (0 + l.length) * bytes ≤ 1048576 * 96 := Nat.mul_le_mul (by omega) hby
          omega) hv
    rw [Nat.zero_add, List.nil_append] at ho'
    obtain ⟨s', rfl, hsl⟩ := sliceAt_of_owns enc hk ho' rfl
    exact ⟨s', w', hr, hsl, hw0.owned hg hown hbase, hg, ho'⟩

/-- .. as one operation of a region. -/
theorem wp_app_all {α : Type} {P : Program} {w : World} {o : Oper} {a : Act} {K : Act → World → Prop} {Q : Exit → Act → World → Prop} (d x : Operand) (t e : TypeId) (z : Value) (k bytes : Nat)
    (ho : o.op = .call { callee := .builtin .append, args := #[d, x], argTypes := #[t, t] })
    (ht : P.underlying t = some (.slice e)) (hinfo : (P.info? e).map (fun i => (i.zero, i.size, i.bytes)) = some (some z, k, bytes)) (hzs : z.cells.size = k) (hsz : 0 < k) (hby : bytes ≤ 96)
    (enc : α → List Value) (hk : ∀ x, (enc x).length = k) (h1 : ∀ x, ∀ u ∈ enc x, u.oneCell' = true) (base : Nat) (v : Value) (hown : w.ownsRow base e k v 0 []) (w0 : World) (hw0 : Ext w0 w) (hbase : w0.heap.size ≤ base) (hv : base ≤ w.heap.size) (hd : a.eval d = v) (s : SV) (l : List α) (hs : SliceAt k (fun _ cs x => cs = enc x) w s l) (h0 : s.a = none → s.len = 0 ∧ s.cap = 0) (hl : l.length ≤ 1048576)
    (hx : a.eval x = .slice s.a s.len s.cap)
    (h : ∀ (s' : SV) (w' : World), SliceAt k (fun _ cs x => cs = enc x) w' s' l → Ext w0 w' → w.grownBy w' v.ownBlock → w'.ownsRow base e k (.slice s'.a s'.len s'.cap) l.length (l.flatMap enc) → K (a.put o.dst (.slice s'.a s'.len s'.cap)) w') : o.wp P a w K Q := by
  obtain ⟨s', w', hr, hsl, hE, hg, hw'⟩ := run_app_all (P := P) (w := w) t o.type e z k bytes ht hinfo hzs hsz hby enc hk h1 base v hown w0 hw0 hbase hv s l hs h0 hl
  unfold Oper.wp execOp
  simp only [ho, resolve, invoke, builtin, Sem.run_bind, Sem.run_pure, Result.andThen_ok, List.map_toArray, List.map_cons, List.map_nil, hd, hx, hr]
  exact h s' w' hsl hE hg hw'
end Go.Proofs.YtmdpdgldmedebaaGreatDoor

namespace Go.Proofs.YtmdpdgldmedebaaGreatDoor
set_option linter.unusedSimpArgs false
set_option linter.unusedVariables false
open Go.RowKit

def TypeM.zero : TypeM := ⟨⟨#[]⟩, false, [], [], []⟩
def findM (ts : BookM) (name : ByteArray) : Option TypeM := ts.find? fun t => t.name.toList == name.toList

theorem zeroTypeAt (w : World) : TypeAt w ⟨⟨#[]⟩, false, ⟨none, 0, 0⟩, ⟨none, 0, 0⟩, ⟨none, 0, 0⟩⟩ TypeM.zero :=
  ⟨rfl, rfl, ⟨rfl, fun _ _ h => by simp [TypeM.zero] at h⟩, ⟨rfl, fun _ _ h => by simp [TypeM.zero] at h⟩, ⟨rfl, fun _ _ h => by simp [TypeM.zero] at h⟩, ⟨by simp, by simp⟩, ⟨by simp, by simp⟩, ⟨by simp, by simp⟩⟩

/-- None ahead of place k. -/
def NoneTo {α : Type} (p : α → Bool) (l : List α) (k : Nat) : Prop := ∀ j x, j < k → l[j]? = some x → p x = false
theorem NoneTo.zero {α : Type} (p : α → Bool) (l : List α) : NoneTo p l 0 := fun _ _ h => by omega
theorem NoneTo.succ {α : Type} {p : α → Bool} {l : List α} {k : Nat} (h : NoneTo p l k) {x : α} (hx : l[k]? = some x) (hp : p x = false) : NoneTo p l (k + 1) := fun j y hj hy => by
  by_cases e : j = k
  · subst e; rw [hx] at hy; cases hy; exact hp
  · exact h j y (by omega) hy
theorem NoneTo.none {α : Type} {p : α → Bool} {l : List α} {k : Nat} (h : NoneTo p l k) (hk : l.length ≤ k) : l.find? p = none := by
  rw [List.find?_eq_none]
  intro x hx
  obtain ⟨j, hj, rfl⟩ := List.getElem_of_mem hx
  simp [h j l[j] (by omega) (by simp [hj])]
theorem NoneTo.some {α : Type} {p : α → Bool} {l : List α} {k : Nat} (h : NoneTo p l k) {x : α} (hx : l[k]? = some x) (hp : p x = true) : l.find? p = some x := by
  have hk := (List.getElem?_eq_some_iff.1 hx).1
  have e := (List.getElem?_eq_some_iff.1 hx).2
  rw [List.find?_eq_some_iff_getElem]
  refine ⟨hp, k, hk, e, fun j hj => ?_⟩
  simp [h j l[j] hj (by simp [Nat.lt_trans hj hk])]

set_option maxHeartbeats 400000 in
theorem lookUp_any (s : SV) (ts : BookM) (name : ByteArray) (w : World) (hs : BookAt w s ts) (hn : ts.length ≤ 9223372036854775807) :
   Calls Tryz.prog 68 #[.agg #[.slice s.a s.len s.cap], .string name] w fun e w' => ∃ tv : TV, e = .returned (.tuple #[.agg #[.string tv.name, .bool tv.enum, .slice tv.fields.a tv.fields.len tv.fields.cap, .slice tv.gone.a tv.gone.len tv.gone.cap, .slice tv.items.a tv.items.len tv.items.cap], .bool (findM ts name).isSome]) ∧ TypeAt w tv ((findM ts name).getD TypeM.zero) ∧ Ext w w' := by
  obtain ⟨a, n, cap⟩ := s
  obtain ⟨hl, hts⟩ := hs
  simp only at hl
  subst hl
  show Calls Tryz.prog 68 #[.agg #[.slice a ts.length cap], .string name] w _
  go_enter Tryz.func68, Tryz.ntmps68
  go_wp2
  go_loopw [11] (fun i wr => ∃ k : Nat, k ≤ ts.length ∧ i = .int .i64 k ∧ NoneTo (fun t : TypeM => t.name.toList == name.toList) ts k ∧ Ext ((w.alloc (Obj.cells #[Value.slice a ts.length cap] 24)).alloc (Obj.cells #[Value.string { data := #[] }, Value.bool false, Value.slice none 0 0, Value.slice none 0 0, Value.slice none 0 0] 50)) wr) (fun i wr => ts.length - (intOf i).toNat)
  case atStart => exact ⟨0, by omega, rfl, NoneTo.zero _ _, Below.refl _ _⟩
  case round =>
    obtain ⟨k, hk, rfl, hne, hx⟩ := hrel
    have hE : Ext w wr := (((Ext.refl w).alloc _).alloc _).trans hx
    obtain ⟨hq, hf⟩ := hx.whole (heap_alloc2_new _ _ _)
    have q0 := hq 0 (.string ⟨#[]⟩) rfl
    have q1 := hq 1 (.bool false) rfl
    have q2 := hq 2 (.slice none 0 0) rfl
    have q3 := hq 3 (.slice none 0 0) rfl
    have q4 := hq 4 (.slice none 0 0) rfl
    have hz : w.heap.size + 1 < wr.heap.size := by have := hx.size; simp at this; omega
    clear hq
    by_cases hlt : k < ts.length
    · obtain ⟨b, o, cs, rfl, hr, tv, rfl, htv⟩ := hts k ts[k] (by simp [hlt])
      obtain ⟨h0, h1, h2, h3, h4⟩ := range5 (hE.range hr)
      have Htv : Hid (TypeAt w tv ts[k]) := htv
      have Hk : Hid (ts[k]? = some ts[k]) := by simp [Hid, hlt]
      clear hts hr htv
      go_wp2
      · rename_i hname
        have e : findM ts name = some ts[k] := NoneTo.some hne Hk.out (by rw [← Htv.out.name]; exact hname)
        refine bodyPost_ret (v := .tuple #[.agg tv.cells.toArray, .bool true]) (by simp [results, Tryz.results68, go_sem, hz, q0, q1, q2, q3, q4]) rfl ⟨tv, by rw [e]; rfl, by rw [e]; exact Htv.out, ?_⟩
        exact (((((hE.setCell (by simp) _).setCell (by simp) _).setCell (by simp) _).setCell (by simp) _).setCell (by simp) _).alloc _
      · rename_i hname
        exact ⟨⟨k + 1, by omega, by go_num, NoneTo.succ hne Hk.out (by rw [← Htv.out.name]; exact hname), hx.alloc _⟩, by simp [intOf]; omega⟩
    · go_wp2
      have e : findM ts name = none := NoneTo.none hne (by omega)
      refine bodyPost_ret (v := .tuple #[.agg #[.string ⟨#[]⟩, .bool false, .slice none 0 0, .slice none 0 0, .slice none 0 0], .bool false]) (by simp [results, Tryz.results68, go_sem, q0, q1, q2, q3, q4]) rfl ⟨⟨⟨#[]⟩, false, ⟨none, 0, 0⟩, ⟨none, 0, 0⟩, ⟨none, 0, 0⟩⟩, by rw [e]; rfl, by rw [e]; exact zeroTypeAt w, ?_⟩
      exact (((((hE.setCell (by simp) _).setCell (by simp) _).setCell (by simp) _).setCell (by simp) _).setCell (by simp) _)
end Go.Proofs.YtmdpdgldmedebaaGreatDoor

namespace Go.Proofs.YtmdpdgldmedebaaGreatDoor
set_option linter.unusedSimpArgs false
set_option linter.unusedVariables false
open Go.RowKit

def letterB (c : UInt8) : Bool := decide (97 ≤ (c.toNat : Int)) && decide ((c.toNat : Int) ≤ 122)
def wordsL : List (List UInt8) := [[98, 111, 111, 108], [101, 110, 117, 109], [103, 111, 110, 101], [105, 110, 116], [109, 97, 110, 121], [109, 97, 121, 98, 101], [109, 101, 115, 115, 97, 103, 101], [111, 110, 101], [116, 101, 120, 116]]
def namedL (l : List UInt8) : Bool := decide (1 ≤ l.length) && decide (l.length ≤ 12) && l.all letterB && !wordsL.contains l

/-- The nine words lie where the program's text lays them. -/
def WordsAt (w : World) : Prop := w.rangeAt 0 0 (wordsL.map fun l => .string ⟨l.toArray⟩)
theorem WordsAt.ext {w w' : World} (h : WordsAt w) (he : Ext w w') : WordsAt w' := he.range h

theorem NoneTo.any {α : Type} {p : α → Bool} {l : List α} {k : Nat} (h : NoneTo p l k) (hk : l.length ≤ k) : l.any p = false := by
  have := NoneTo.none h hk
  rw [List.find?_eq_none] at this
  exact List.any_eq_false.2 this

set_option maxHeartbeats 400000 in
theorem isLetter_any (c : UInt8) (w : World) : Calls Tryz.prog 111 #[.int .u8 c.toNat] w fun e w' => e = .returned (.bool (letterB c)) ∧ w' = w := by
  unfold letterB
  go_enter Tryz.func111, Tryz.ntmps111
  go_wp2
  all_goals
    go_ret
    rename_i h
    exact ⟨by simp [h]; try omega, rfl⟩

set_option maxHeartbeats 400000 in
theorem means_any (tv : TV) (t : TypeM) (n : Int) (w : World) (ht : TypeAt w tv t) (hn : t.items.length ≤ 9223372036854775807) :
    Calls Tryz.prog 75 #[.agg #[.string tv.name, .bool tv.enum, .slice tv.fields.a tv.fields.len tv.fields.cap, .slice tv.gone.a tv.gone.len tv.gone.cap, .slice tv.items.a tv.items.len tv.items.cap], .int .i64 n] w fun e w' => e = .returned (.bool (t.items.any fun i => i.n == n)) ∧ Ext w w' := by
  obtain ⟨name, enum, fs, gs, is⟩ := tv
  obtain ⟨b', n', c'⟩ := is
  obtain ⟨hl, hts⟩ := ht.items
  simp only at hl
  subst hl
  show Calls Tryz.prog 75 #[.agg #[.string name, .bool enum, .slice fs.a fs.len fs.cap, .slice gs.a gs.len gs.cap, .slice b' t.items.length c'], .int .i64 n] w _
  go_enter Tryz.func75, Tryz.ntmps75
  go_wp2
  go_loopw [10] (fun i wr => ∃ k : Nat, k ≤ t.items.length ∧ i = .int .i64 k ∧ NoneTo (fun i : ItemM => i.n == n) t.items k ∧ Ext w wr) (fun i wr => t.items.length - (intOf i).toNat)
  case atStart => exact ⟨0, by omega, rfl, NoneTo.zero _ _, (Ext.refl w).alloc _⟩
  case round =>
    obtain ⟨k, hk, rfl, hne, hx⟩ := hrel
    by_cases hlt : k < t.items.length
    · obtain ⟨b, o, cs, rfl, hr, rfl⟩ := hts k t.items[k] (by simp [hlt])
      obtain ⟨h0, h1⟩ := range2 (hx.range hr)
      have Hk : Hid (t.items[k]? = some t.items[k]) := by simp [Hid, hlt]
      clear hts hr
      go_wp2
      · rename_i hname
        go_ret
        have e : (t.items.any fun i => i.n == n) = true := List.any_eq_true.2 ⟨t.items[k], by simp, hname⟩
        exact ⟨by rw [e]; rfl, hx.alloc _⟩
      · rename_i hname
        exact ⟨⟨k + 1, by omega, by go_num, NoneTo.succ hne Hk.out hname, hx.alloc _⟩, by simp [intOf]; omega⟩
    · go_wp2
      go_ret
      have e : (t.items.any fun i => i.n == n) = false := NoneTo.any hne (by omega)
      exact ⟨by rw [e]; rfl, hx⟩

def fieldM (t : TypeM) (id : Int) : Option FieldM := t.fields.find? fun f => f.id == id
def FieldM.zero : FieldM := ⟨0, ⟨#[]⟩, ⟨#[]⟩, 0, 0⟩

set_option maxHeartbeats 400000 in
theorem fieldOf_any (tv : TV) (t : TypeM) (n : Int) (w : World) (ht : TypeAt w tv t) (hn : t.fields.length ≤ 9223372036854775807) :
    Calls Tryz.prog 27 #[.agg #[.string tv.name, .bool tv.enum, .slice tv.fields.a tv.fields.len tv.fields.cap, .slice tv.gone.a tv.gone.len tv.gone.cap, .slice tv.items.a tv.items.len tv.items.cap], .int .i64 n] w fun e w' => e = .returned (.tuple #[.agg ((fieldM t n).getD FieldM.zero).cells.toArray, .bool (fieldM t n).isSome]) ∧ Ext w w' := by
  obtain ⟨name, enum, fs, gs, is⟩ := tv
  obtain ⟨b', n', c'⟩ := fs
  obtain ⟨hl, hts⟩ := ht.fields
  simp only at hl
  subst hl
  show Calls Tryz.prog 27 #[.agg #[.string name, .bool enum, .slice b' t.fields.length c', .slice gs.a gs.len gs.cap, .slice is.a is.len is.cap], .int .i64 n] w _
  go_enter Tryz.func27, Tryz.ntmps27
  go_wp2
  go_loopw [11] (fun i wr => ∃ k : Nat, k ≤ t.fields.length ∧ i = .int .i64 k ∧ NoneTo (fun i : FieldM => i.id == n) t.fields k ∧ Ext ((w.alloc (Obj.cells #[.string name, .bool enum, .slice b' t.fields.length c', .slice gs.a gs.len gs.cap, .slice is.a is.len is.cap] 50)).alloc (Obj.cells #[.int .i64 0, .string ⟨#[]⟩, .string ⟨#[]⟩, .int .i64 0, .int .i64 0] 56)) wr) (fun i wr => t.fields.length - (intOf i).toNat)
  case atStart => exact ⟨0, by omega, rfl, NoneTo.zero _ _, Below.refl _ _⟩
  case round =>
    obtain ⟨k, hk, rfl, hne, hx⟩ := hrel
    have hE : Ext w wr := (((Ext.refl w).alloc _).alloc _).trans hx
    obtain ⟨hq, hf⟩ := hx.whole (heap_alloc2_new _ _ _)
    have q0 := hq 0 (.int .i64 0) rfl
    have q1 := hq 1 (.string ⟨#[]⟩) rfl
    have q2 := hq 2 (.string ⟨#[]⟩) rfl
    have q3 := hq 3 (.int .i64 0) rfl
    have q4 := hq 4 (.int .i64 0) rfl
    have hz : w.heap.size + 1 < wr.heap.size := by have := hx.size; simp at this; omega
    clear hq
    by_cases hlt : k < t.fields.length
    · obtain ⟨b, o, cs, rfl, hr, rfl⟩ := hts k t.fields[k] (by simp [hlt])
      obtain ⟨h0, h1, h2, h3, h4⟩ := range5 (hE.range hr)
      have Hk : Hid (t.fields[k]? = some t.fields[k]) := by simp [Hid, hlt]
      clear hts hr
      go_wp2
      · rename_i hname
        have e : fieldM t n = some t.fields[k] := NoneTo.some hne Hk.out hname
        refine bodyPost_ret (v := .tuple #[.agg t.fields[k].cells.toArray, .bool true]) (by simp [results, Tryz.results27, go_sem, hz, q0, q1, q2, q3, q4]) rfl ⟨by rw [e]; rfl, ?_⟩
        exact (((((hE.setCell (by simp) _).setCell (by simp) _).setCell (by simp) _).setCell (by simp) _).setCell (by simp) _).alloc _
      · rename_i hname
        exact ⟨⟨k + 1, by omega, by go_num, NoneTo.succ hne Hk.out hname, hx.alloc _⟩, by simp [intOf]; omega⟩
    · go_wp2
      have e : fieldM t n = none := NoneTo.none hne (by omega)
      refine bodyPost_ret (v := .tuple #[.agg FieldM.zero.cells.toArray, .bool false]) (by simp [results, Tryz.results27, go_sem, q0, q1, q2, q3, q4, FieldM.zero]) rfl ⟨by rw [e]; rfl, ?_⟩
      exact (((((hE.setCell (by simp) _).setCell (by simp) _).setCell (by simp) _).setCell (by simp) _).setCell (by simp) _)
end Go.Proofs.YtmdpdgldmedebaaGreatDoor

namespace Go.Proofs.YtmdpdgldmedebaaGreatDoor
set_option linter.unusedSimpArgs false
set_option linter.unusedVariables false
open Go.RowKit

theorem IntsAt.cell {w : World} {s : SV} {l : List Int} (h : IntsAt w s l) {k : Nat} (hk : k < l.length) : ∃ b o, s.a = some ⟨b, o, none⟩ ∧ w.cell? ⟨b, o + k, none⟩ = some (.int .i64 l[k]) := by
  obtain ⟨b, o, cs, h1, h2, rfl⟩ := h.2 k l[k] (by simp [hk])
  have := range1 h2
  rw [Nat.mul_one] at this
  exact ⟨b, o, h1, this⟩

def risesAt (lo hi : Int) (l : List Int) (i : Nat) : Bool := decide (lo ≤ l.getD i 0) && decide (l.getD i 0 ≤ hi) && (i == 0 || decide (l.getD (i - 1) 0 < l.getD i 0))
def risingL (l : List Int) (lo hi : Int) : Bool := (List.range l.length).all (risesAt lo hi l)
def AllTo (p : Nat → Bool) (k : Nat) : Prop := ∀ j, j < k → p j = true
theorem AllTo.zero (p : Nat → Bool) : AllTo p 0 := fun _ h => by omega
theorem AllTo.succ {p : Nat → Bool} {k : Nat} (h : AllTo p k) (hp : p k = true) : AllTo p (k + 1) := fun j hj => by
  by_cases e : j = k
  · subst e; exact hp
  · exact h j (by omega)
theorem AllTo.all {p : Nat → Bool} {k n : Nat} (h : AllTo p k) (hk : n ≤ k) : (List.range n).all p = true := by
  rw [List.all_eq_true]
  intro x hx
  exact h x (by have := List.mem_range.1 hx; omega)
theorem not_all_range {p : Nat → Bool} {k n : Nat} (hk : k < n) (hp : p k = false) : (List.range n).all p = false := by
  rw [List.all_eq_false]
  exact ⟨k, List.mem_range.2 hk, by simp [hp]⟩

theorem risesAt_iff {lo hi : Int} {l : List Int} {k : Nat} (hk : k < l.length) : risesAt lo hi l k = true ↔ (lo ≤ l[k] ∧ l[k] ≤ hi ∧ (k = 0 ∨ l[k - 1] < l[k])) := by
  have h1 : l.getD k 0 = l[k] := by simp [List.getD, hk]
  have h2 : l.getD (k - 1) 0 = l[k - 1] := by simp [List.getD, show k - 1 < l.length by omega]
  unfold risesAt
  rw [h1, h2]
  simp only [Bool.and_eq_true, decide_eq_true_eq, Bool.or_eq_true, beq_iff_eq, and_assoc]
theorem rises_yes {lo hi : Int} {l : List Int} {k : Nat} (hk : k < l.length) (h : lo ≤ l[k] ∧ l[k] ≤ hi ∧ (k = 0 ∨ l[k - 1] < l[k])) : risesAt lo hi l k = true := (risesAt_iff hk).2 h
theorem rises_no {lo hi : Int} {l : List Int} {k : Nat} (hk : k < l.length) (h : ¬ (lo ≤ l[k] ∧ l[k] ≤ hi ∧ (k = 0 ∨ l[k - 1] < l[k]))) : risingL l lo hi = false :=
  not_all_range hk (by rw [Bool.eq_false_iff]; exact fun e => h ((risesAt_iff hk).1 e))

set_option maxHeartbeats 400000 in
theorem rising_any (s : SV) (l : List Int) (lo hi : Int) (w : World) (hs : IntsAt w s l) (hn : l.length ≤ 9223372036854775807) :
    Calls Tryz.prog 113 #[.slice s.a s.len s.cap, .int .i64 lo, .int .i64 hi] w fun e w' => e = .returned (.bool (risingL l lo hi)) ∧ Ext w w' := by
  obtain ⟨a, n, cap⟩ := s
  have hl := hs.1
  simp only at hl
  subst hl
  show Calls Tryz.prog 113 #[.slice a l.length cap, .int .i64 lo, .int .i64 hi] w _
  go_enter Tryz.func113, Tryz.ntmps113
  go_wp2
  go_loopw [11] (fun i wr => ∃ k : Nat, k ≤ l.length ∧ i = .int .i64 k ∧ AllTo (risesAt lo hi l) k ∧ Ext w wr) (fun i wr => l.length - (intOf i).toNat)
  case atStart => exact ⟨0, by omega, rfl, AllTo.zero _, Ext.refl w⟩
  case round =>
    obtain ⟨k, hk, rfl, hne, hx⟩ := hrel
    by_cases hlt : k < l.length
    · obtain ⟨b, o, rfl, h0⟩ := hs.cell hlt
      replace h0 := hx.cell h0
      by_cases hz : k < 1
      · clear hs
        go_wp2
        · go_ret
          exact ⟨by rw [rises_no hlt (by omega)]; rfl, hx⟩
        · exact ⟨⟨k + 1, by omega, by go_num, hne.succ (rises_yes hlt (by omega)), hx⟩, by simp [intOf]; omega⟩
        · go_ret
          exact ⟨by rw [rises_no hlt (by omega)]; rfl, hx⟩
      · obtain ⟨b2, o2, e2, h1⟩ := hs.cell (show k - 1 < l.length by omega)
        simp only [Option.some.injEq, Addr.mk.injEq] at e2
        obtain ⟨rfl, rfl, _⟩ := e2
        replace h1 := hx.cell h1
        clear hs
        go_wp2
        · go_ret
          exact ⟨by rw [rises_no hlt (by omega)]; rfl, hx⟩
        · go_ret
          exact ⟨by rw [rises_no hlt (by omega)]; rfl, hx⟩
        · exact ⟨⟨k + 1, by omega, by go_num, hne.succ (rises_yes hlt (by omega)), hx⟩, by simp [intOf]; omega⟩
        · go_ret
          exact ⟨by rw [rises_no hlt (by omega)]; rfl, hx⟩
    · go_wp2
      go_ret
      have e : risingL l lo hi = true := AllTo.all hne (by omega)
      exact ⟨by rw [e]; rfl, hx⟩
end Go.Proofs.YtmdpdgldmedebaaGreatDoor

