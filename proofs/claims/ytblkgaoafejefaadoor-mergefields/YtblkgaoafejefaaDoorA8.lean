import Derived.Test.YtblkgaoafejefaaDoorA4
namespace Go.Proofs.YtblkgaoafejefaaDoor
set_option linter.unusedSimpArgs false
set_option linter.unusedVariables false
open Go.RowKit

theorem set5 {w : World} {g : Nat} {t : TypeId} {c0 c1 c2 c3 c4 : Value} (hb : w.heap[g]? = some (.cells #[c0, c1, c2, c3, c4] t (0, 0))) (d0 d1 d2 d3 d4 : Value) :
    ∃ W, W = ((((w.setCell ⟨g, 0, none⟩ d0).setCell ⟨g, 1, none⟩ d1).setCell ⟨g, 2, none⟩ d2).setCell ⟨g, 3, none⟩ d3).setCell ⟨g, 4, none⟩ d4 ∧ W.heap[g]? = some (.cells #[d0, d1, d2, d3, d4] t (0, 0)) ∧ (∀ w0, Ext w0 w → w0.heap.size ≤ g → Ext w0 W) := by
  have h0 := heap_setCell_same w g 0 _ t d0 hb
  have h1 := heap_setCell_same _ g 1 _ t d1 h0
  have h2 := heap_setCell_same _ g 2 _ t d2 h1
  have h3 := heap_setCell_same _ g 3 _ t d3 h2
  have h4 := heap_setCell_same _ g 4 _ t d4 h3
  exact ⟨_, rfl, h4, fun w0 hx hg => ((((hx.setCell hg _).setCell hg _).setCell hg _).setCell hg _).setCell hg _⟩
theorem no_int {w : World} {g : Nat} {t : TypeId} {x : ByteArray} {y : Bool} {a1 a2 a3 : SV} (hb : w.heap[g]? = some (.cells #[.string x, .bool y, .slice a1.a a1.len a1.cap, .slice a2.a a2.len a2.cap, .slice a3.a a3.len a3.cap] t (0, 0))) {j : Nat} {k : IntKind} {n : Int} (h : w.cell? ⟨g, j, none⟩ = some (.int k n)) : False := by
  rw [cell_of_row w g j _ t _ hb] at h
  have hj : j < 5 := by
    have := (Array.getElem?_eq_some_iff.1 h).1
    simpa using this
  have : j = 0 ∨ j = 1 ∨ j = 2 ∨ j = 3 ∨ j = 4 := by omega
  rcases this with rfl | rfl | rfl | rfl | rfl <;> cases h
theorem TypeAt.setG {w : World} {g : Nat} {t : TypeId} {x : ByteArray} {y : Bool} {a1 a2 a3 : SV} (hb : w.heap[g]? = some (.cells #[.string x, .bool y, .slice a1.a a1.len a1.cap, .slice a2.a a2.len a2.cap, .slice a3.a a3.len a3.cap] t (0, 0))) {tv : TV} {m : TypeM} (h : TypeAt w tv m) (j : Nat) (u : Value) : TypeAt (w.setCell ⟨g, j, none⟩ u) tv m := by
  refine ⟨h.name, h.enum, ⟨h.fields.1, fun i f hf => ?_⟩, ⟨h.gone.1, fun i f hf => ?_⟩, ⟨h.items.1, fun i f hf => ?_⟩, h.fok, h.gok, h.iok⟩
  · obtain ⟨b, o, cs, h1, h2, h3⟩ := h.fields.2 i f hf
    refine ⟨b, o, cs, h1, World.rangeAt_setCell h2 _ _ fun e => ?_, h3⟩
    simp only at e
    subst e h3
    exact no_int hb (h2 0 _ rfl)
  · obtain ⟨b, o, cs, h1, h2, h3⟩ := h.gone.2 i f hf
    refine ⟨b, o, cs, h1, World.rangeAt_setCell h2 _ _ fun e => ?_, h3⟩
    simp only at e
    subst e h3
    exact no_int hb (h2 0 _ rfl)
  · obtain ⟨b, o, cs, h1, h2, h3⟩ := h.items.2 i f hf
    refine ⟨b, o, cs, h1, World.rangeAt_setCell h2 _ _ fun e => ?_, h3⟩
    simp only at e
    subst e h3
    exact no_int hb (h2 1 _ rfl)
theorem TypeAt.set5 {w : World} {g : Nat} {t : TypeId} {x x1 : ByteArray} {y y1 : Bool} {a1 a2 a3 b1 b2 b3 : SV} (hb : w.heap[g]? = some (.cells #[.string x, .bool y, .slice a1.a a1.len a1.cap, .slice a2.a a2.len a2.cap, .slice a3.a a3.len a3.cap] t (0, 0))) {tv : TV} {m : TypeM} (h : TypeAt w tv m) :
    TypeAt (((((w.setCell ⟨g, 0, none⟩ (.string x1)).setCell ⟨g, 1, none⟩ (.bool y1)).setCell ⟨g, 2, none⟩ (.slice b1.a b1.len b1.cap)).setCell ⟨g, 3, none⟩ (.slice b2.a b2.len b2.cap)).setCell ⟨g, 4, none⟩ (.slice b3.a b3.len b3.cap)) tv m := by
  have h0 := heap_setCell_same w g 0 _ t (.string x1) hb
  have h1 := heap_setCell_same _ g 1 _ t (.bool y1) h0
  have h2 := heap_setCell_same _ g 2 _ t (.slice b1.a b1.len b1.cap) h1
  have h3 := heap_setCell_same _ g 3 _ t (.slice b2.a b2.len b2.cap) h2
  exact TypeAt.setG (a1 := b1) (a2 := b2) (a3 := a3) h3 (TypeAt.setG (a1 := b1) (a2 := a2) (a3 := a3) h2 (TypeAt.setG (a1 := a1) (a2 := a2) (a3 := a3) h1 (TypeAt.setG (a1 := a1) (a2 := a2) (a3 := a3) h0 (TypeAt.setG (a1 := a1) (a2 := a2) (a3 := a3) hb h 0 _) 1 _) 2 _) 3 _) 4 _
set_option maxHeartbeats 3200000 in
theorem typesOf1_any (s : SV) (ts : BookM) (name : ByteArray) (nb : Nat) (w : World) (hs : BookAt w s ts) (hn : ts.Small) (hc : w.cell? ⟨nb, 0, none⟩ = some (.string name)) :
    Calls Tryd.prog 23 #[.agg #[.slice s.a s.len s.cap], .pointer (some ⟨nb, 0, none⟩)] w fun e w' => ∃ tv : TV, e = .returned (.agg #[.string tv.name, .bool tv.enum, .slice tv.fields.a tv.fields.len tv.fields.cap, .slice tv.gone.a tv.gone.len tv.gone.cap, .slice tv.items.a tv.items.len tv.items.cap]) ∧ TypeAt w' tv (findZ ts name) ∧ Ext w w' := by
  obtain ⟨W, hW⟩ : ∃ W, W = (w.alloc (.cells #[.slice s.a s.len s.cap] 24)).alloc (.cells #[.string ⟨#[]⟩, .bool false, .slice none 0 0, .slice none 0 0, .slice none 0 0] 46) := ⟨_, rfl⟩
  have hxW : Ext w W := by rw [hW]; exact ((Ext.refl w).alloc _).alloc _
  have rW : W.heap[w.heap.size + 1]? = some (.cells #[.string ⟨#[]⟩, .bool false, .slice none 0 0, .slice none 0 0, .slice none 0 0] 46 (0, 0)) := by rw [hW]; exact heap_alloc2_new _ _ _
  have rA : W.heap[w.heap.size]? = some (.cells #[.slice s.a s.len s.cap] 24 (0, 0)) := by rw [hW]; exact heap_alloc2_old _ _ _
  have HW := hide hW
  have hf := find_any s ts name W (hs.ext hxW) hn
  have hnb := World.block_lt_of_cell? w _ hc
  have cA : W.cell? ⟨w.heap.size, 0, none⟩ = some (.slice s.a s.len s.cap) := cell_of_row _ _ 0 _ _ _ rA
  clear hW hs
  unfold findZ
  generalize (findM ts name).getD TypeM.zero = t at *
  generalize (findM ts name).isSome = b at *
  have Hf := hide hf
  clear hf
  go_enter Tryd.func23, Tryd.ntmps23
  go_wp2_with fail
  rw [← unhide HW]
  refine (unhide Hf).mono ?_
  rintro e w1 ⟨⟨nm, en, sf, sg, si⟩, rfl, htv, hx1⟩
  have Htv := hide htv
  have hx01 := hxW.trans hx1
  have r1 := hx1.heap rW
  obtain ⟨W6, hW6, r6, hx6⟩ := set5 r1 (.string nm) (.bool en) (.slice sf.a sf.len sf.cap) (.slice sg.a sg.len sg.cap) (.slice si.a si.len si.cap)
  have hx7 := hx6 w hx01 (Nat.le_succ _)
  have hx8 : Ext w1 w1 := Ext.refl _
  obtain ⟨a0, a1, a2, a3, a4, a5⟩ := row5 r1
  have hz := lt_of_heap r1
  have HW6 := hide hW6
  have hx9 : TypeAt W6 ⟨nm, en, sf, sg, si⟩ t := by
    rw [hW6]
    exact TypeAt.set5 (a1 := ⟨none, 0, 0⟩) (a2 := ⟨none, 0, 0⟩) (a3 := ⟨none, 0, 0⟩) r1 htv
  clear hW6 htv hx6
  go_wp2
  rw [← unhide HW6]
  have e := (Ext.refl W6).alloc (.cells #[.string nm, .bool en, .slice sf.a sf.len sf.cap, .slice sg.a sg.len sg.cap, .slice si.a si.len si.cap] 46)
  obtain ⟨k0, k1, k2, k3, k4, _⟩ := row5 (e.heap r6)
  have hx10 := hx7.trans e
  have hx11 := hx9.ext e
  generalize W6.alloc (.cells #[.string nm, .bool en, .slice sf.a sf.len sf.cap, .slice sg.a sg.len sg.cap, .slice si.a si.len si.cap] 46) = W7 at *
  clear e hx7 hx9 a0 a1 a2 a3 a4 a5 HW6
  exact bodyPost_ret (v := .agg #[.string nm, .bool en, .slice sf.a sf.len sf.cap, .slice sg.a sg.len sg.cap, .slice si.a si.len si.cap]) (by simp [results, Tryd.results23, go_sem, k0, k1, k2, k3, k4]) rfl ⟨⟨nm, en, sf, sg, si⟩, rfl, hx11, hx10⟩
theorem row16b {w : World} {g : Nat} {t : TypeId} {c0 c1 c2 c3 c4 c5 c6 c7 c8 c9 c10 c11 c12 c13 c14 c15 : Value} (hb : w.heap[g]? = some (.cells #[c0, c1, c2, c3, c4, c5, c6, c7, c8, c9, c10, c11, c12, c13, c14, c15] t (0, 0))) :
    w.cell? ⟨g, 0, none⟩ = some c0 ∧ w.cell? ⟨g, 1, none⟩ = some c1 ∧ w.cell? ⟨g, 2, none⟩ = some c2 ∧ w.cell? ⟨g, 3, none⟩ = some c3 ∧ w.cell? ⟨g, 4, none⟩ = some c4 ∧ w.cell? ⟨g, 5, none⟩ = some c5 ∧ w.cell? ⟨g, 6, none⟩ = some c6 ∧ w.cell? ⟨g, 7, none⟩ = some c7 ∧ w.cell? ⟨g, 8, none⟩ = some c8 ∧ w.cell? ⟨g, 9, none⟩ = some c9 ∧ w.cell? ⟨g, 10, none⟩ = some c10 ∧ w.cell? ⟨g, 11, none⟩ = some c11 ∧ w.cell? ⟨g, 12, none⟩ = some c12 ∧ w.cell? ⟨g, 13, none⟩ = some c13 ∧ w.cell? ⟨g, 14, none⟩ = some c14 ∧ w.cell? ⟨g, 15, none⟩ = some c15 :=
  ⟨cell_of_row w g 0 _ t _ hb, cell_of_row w g 1 _ t _ hb, cell_of_row w g 2 _ t _ hb, cell_of_row w g 3 _ t _ hb, cell_of_row w g 4 _ t _ hb, cell_of_row w g 5 _ t _ hb, cell_of_row w g 6 _ t _ hb, cell_of_row w g 7 _ t _ hb, cell_of_row w g 8 _ t _ hb, cell_of_row w g 9 _ t _ hb, cell_of_row w g 10 _ t _ hb, cell_of_row w g 11 _ t _ hb, cell_of_row w g 12 _ t _ hb, cell_of_row w g 13 _ t _ hb, cell_of_row w g 14 _ t _ hb, cell_of_row w g 15 _ t _ hb⟩
def notInt : Value → Bool
  | .int _ _ => false
  | _ => true
theorem TypeAt.setR {w : World} {g : Nat} {t : TypeId} {cs : Array Value} (hb : w.heap[g]? = some (.cells cs t (0, 0))) (hc : cs.toList.all notInt = true) {tv : TV} {m : TypeM} (h : TypeAt w tv m) (j : Nat) (u : Value) : TypeAt (w.setCell ⟨g, j, none⟩ u) tv m := by
  have no : ∀ {j : Nat} {k : IntKind} {n : Int}, w.cell? ⟨g, j, none⟩ = some (.int k n) → False := fun {j k n} h => by
    rw [cell_of_row w g j _ t _ hb] at h
    have hm : Value.int k n ∈ cs.toList := Array.mem_toList_iff.2 (Array.mem_of_getElem? h)
    have := List.all_eq_true.1 hc _ hm
    cases this
  refine ⟨h.name, h.enum, ⟨h.fields.1, fun i f hf => ?_⟩, ⟨h.gone.1, fun i f hf => ?_⟩, ⟨h.items.1, fun i f hf => ?_⟩, h.fok, h.gok, h.iok⟩
  · obtain ⟨b, o, cs, h1, h2, h3⟩ := h.fields.2 i f hf
    refine ⟨b, o, cs, h1, World.rangeAt_setCell h2 _ _ fun e => ?_, h3⟩
    simp only at e
    subst e h3
    exact no (h2 0 _ rfl)
  · obtain ⟨b, o, cs, h1, h2, h3⟩ := h.gone.2 i f hf
    refine ⟨b, o, cs, h1, World.rangeAt_setCell h2 _ _ fun e => ?_, h3⟩
    simp only at e
    subst e h3
    exact no (h2 0 _ rfl)
  · obtain ⟨b, o, cs, h1, h2, h3⟩ := h.items.2 i f hf
    refine ⟨b, o, cs, h1, World.rangeAt_setCell h2 _ _ fun e => ?_, h3⟩
    simp only at e
    subst e h3
    exact no (h2 1 _ rfl)
theorem heap_at {w : World} {g g' : Nat} {o : Option Obj} (e : g = g') (h : w.heap[g']? = o) : w.heap[g]? = o := by rw [e]; exact h
theorem set16 {w : World} {g : Nat} {t : TypeId} {c0 c1 c2 c3 c4 c5 c6 c7 c8 c9 c10 c11 c12 c13 c14 c15 : Value} (hb : w.heap[g]? = some (.cells #[c0, c1, c2, c3, c4, c5, c6, c7, c8, c9, c10, c11, c12, c13, c14, c15] t (0, 0))) (d0 d1 d2 d3 d4 d5 d6 d7 d8 d9 d10 d11 d12 d13 d14 d15 : Value) :
    ∃ W, W = ((((((((((((((((w.setCell ⟨g, 0, none⟩ d0).setCell ⟨g, 1, none⟩ d1).setCell ⟨g, 2, none⟩ d2).setCell ⟨g, 3, none⟩ d3).setCell ⟨g, 4, none⟩ d4).setCell ⟨g, 5, none⟩ d5).setCell ⟨g, 6, none⟩ d6).setCell ⟨g, 7, none⟩ d7).setCell ⟨g, 8, none⟩ d8).setCell ⟨g, 9, none⟩ d9).setCell ⟨g, 10, none⟩ d10).setCell ⟨g, 11, none⟩ d11).setCell ⟨g, 12, none⟩ d12).setCell ⟨g, 13, none⟩ d13).setCell ⟨g, 14, none⟩ d14).setCell ⟨g, 15, none⟩ d15) ∧ W.heap[g]? = some (.cells #[d0, d1, d2, d3, d4, d5, d6, d7, d8, d9, d10, d11, d12, d13, d14, d15] t (0, 0)) ∧ (∀ w0, Ext w0 w → w0.heap.size ≤ g → Ext w0 W) ∧ ([c0, c1, c2, c3, c4, c5, c6, c7, c8, c9, c10, c11, c12, c13, c14, c15].all notInt = true → [d0, d1, d2, d3, d4, d5, d6, d7, d8, d9, d10, d11, d12, d13, d14, d15].all notInt = true → ∀ tv m, TypeAt w tv m → TypeAt W tv m) := by
  obtain ⟨w1, e1⟩ : ∃ X, X = w.setCell ⟨g, 0, none⟩ d0 := ⟨_, rfl⟩
  have r1 : w1.heap[g]? = some (.cells #[d0, c1, c2, c3, c4, c5, c6, c7, c8, c9, c10, c11, c12, c13, c14, c15] t (0, 0)) := by rw [e1]; exact heap_setCell_same w g 0 _ t d0 hb
  have x1 : ∀ w0, Ext w0 w → w0.heap.size ≤ g → Ext w0 w1 := fun w0 hx hg => by rw [e1]; exact (hx).setCell hg _
  have y1 : [c0, c1, c2, c3, c4, c5, c6, c7, c8, c9, c10, c11, c12, c13, c14, c15].all notInt = true → [d0, d1, d2, d3, d4, d5, d6, d7, d8, d9, d10, d11, d12, d13, d14, d15].all notInt = true → ∀ tv m, TypeAt w tv m → TypeAt w1 tv m := fun hc hd tv m h => by rw [e1]; exact TypeAt.setR hb (by simp only [List.all_cons, List.all_nil, Bool.and_eq_true, Bool.and_true] at hc hd ⊢; simp only [hc, hd, and_self]) (h) 0 _
  obtain ⟨w2, e2⟩ : ∃ X, X = w1.setCell ⟨g, 1, none⟩ d1 := ⟨_, rfl⟩
  have r2 : w2.heap[g]? = some (.cells #[d0, d1, c2, c3, c4, c5, c6, c7, c8, c9, c10, c11, c12, c13, c14, c15] t (0, 0)) := by rw [e2]; exact heap_setCell_same w1 g 1 _ t d1 r1
  have x2 : ∀ w0, Ext w0 w → w0.heap.size ≤ g → Ext w0 w2 := fun w0 hx hg => by rw [e2]; exact (x1 w0 hx hg).setCell hg _
  have y2 : [c0, c1, c2, c3, c4, c5, c6, c7, c8, c9, c10, c11, c12, c13, c14, c15].all notInt = true → [d0, d1, d2, d3, d4, d5, d6, d7, d8, d9, d10, d11, d12, d13, d14, d15].all notInt = true → ∀ tv m, TypeAt w tv m → TypeAt w2 tv m := fun hc hd tv m h => by rw [e2]; exact TypeAt.setR r1 (by simp only [List.all_cons, List.all_nil, Bool.and_eq_true, Bool.and_true] at hc hd ⊢; simp only [hc, hd, and_self]) (y1 hc hd tv m h) 1 _
  obtain ⟨w3, e3⟩ : ∃ X, X = w2.setCell ⟨g, 2, none⟩ d2 := ⟨_, rfl⟩
  have r3 : w3.heap[g]? = some (.cells #[d0, d1, d2, c3, c4, c5, c6, c7, c8, c9, c10, c11, c12, c13, c14, c15] t (0, 0)) := by rw [e3]; exact heap_setCell_same w2 g 2 _ t d2 r2
  have x3 : ∀ w0, Ext w0 w → w0.heap.size ≤ g → Ext w0 w3 := fun w0 hx hg => by rw [e3]; exact (x2 w0 hx hg).setCell hg _
  have y3 : [c0, c1, c2, c3, c4, c5, c6, c7, c8, c9, c10, c11, c12, c13, c14, c15].all notInt = true → [d0, d1, d2, d3, d4, d5, d6, d7, d8, d9, d10, d11, d12, d13, d14, d15].all notInt = true → ∀ tv m, TypeAt w tv m → TypeAt w3 tv m := fun hc hd tv m h => by rw [e3]; exact TypeAt.setR r2 (by simp only [List.all_cons, List.all_nil, Bool.and_eq_true, Bool.and_true] at hc hd ⊢; simp only [hc, hd, and_self]) (y2 hc hd tv m h) 2 _
  obtain ⟨w4, e4⟩ : ∃ X, X = w3.setCell ⟨g, 3, none⟩ d3 := ⟨_, rfl⟩
  have r4 : w4.heap[g]? = some (.cells #[d0, d1, d2, d3, c4, c5, c6, c7, c8, c9, c10, c11, c12, c13, c14, c15] t (0, 0)) := by rw [e4]; exact heap_setCell_same w3 g 3 _ t d3 r3
  have x4 : ∀ w0, Ext w0 w → w0.heap.size ≤ g → Ext w0 w4 := fun w0 hx hg => by rw [e4]; exact (x3 w0 hx hg).setCell hg _
  have y4 : [c0, c1, c2, c3, c4, c5, c6, c7, c8, c9, c10, c11, c12, c13, c14, c15].all notInt = true → [d0, d1, d2, d3, d4, d5, d6, d7, d8, d9, d10, d11, d12, d13, d14, d15].all notInt = true → ∀ tv m, TypeAt w tv m → TypeAt w4 tv m := fun hc hd tv m h => by rw [e4]; exact TypeAt.setR r3 (by simp only [List.all_cons, List.all_nil, Bool.and_eq_true, Bool.and_true] at hc hd ⊢; simp only [hc, hd, and_self]) (y3 hc hd tv m h) 3 _
  obtain ⟨w5, e5⟩ : ∃ X, X = w4.setCell ⟨g, 4, none⟩ d4 := ⟨_, rfl⟩
  have r5 : w5.heap[g]? = some (.cells #[d0, d1, d2, d3, d4, c5, c6, c7, c8, c9, c10, c11, c12, c13, c14, c15] t (0, 0)) := by rw [e5]; exact heap_setCell_same w4 g 4 _ t d4 r4
  have x5 : ∀ w0, Ext w0 w → w0.heap.size ≤ g → Ext w0 w5 := fun w0 hx hg => by rw [e5]; exact (x4 w0 hx hg).setCell hg _
  have y5 : [c0, c1, c2, c3, c4, c5, c6, c7, c8, c9, c10, c11, c12, c13, c14, c15].all notInt = true → [d0, d1, d2, d3, d4, d5, d6, d7, d8, d9, d10, d11, d12, d13, d14, d15].all notInt = true → ∀ tv m, TypeAt w tv m → TypeAt w5 tv m := fun hc hd tv m h => by rw [e5]; exact TypeAt.setR r4 (by simp only [List.all_cons, List.all_nil, Bool.and_eq_true, Bool.and_true] at hc hd ⊢; simp only [hc, hd, and_self]) (y4 hc hd tv m h) 4 _
  obtain ⟨w6, e6⟩ : ∃ X, X = w5.setCell ⟨g, 5, none⟩ d5 := ⟨_, rfl⟩
  have r6 : w6.heap[g]? = some (.cells #[d0, d1, d2, d3, d4, d5, c6, c7, c8, c9, c10, c11, c12, c13, c14, c15] t (0, 0)) := by rw [e6]; exact heap_setCell_same w5 g 5 _ t d5 r5
  have x6 : ∀ w0, Ext w0 w → w0.heap.size ≤ g → Ext w0 w6 := fun w0 hx hg => by rw [e6]; exact (x5 w0 hx hg).setCell hg _
  have y6 : [c0, c1, c2, c3, c4, c5, c6, c7, c8, c9, c10, c11, c12, c13, c14, c15].all notInt = true → [d0, d1, d2, d3, d4, d5, d6, d7, d8, d9, d10, d11, d12, d13, d14, d15].all notInt = true → ∀ tv m, TypeAt w tv m → TypeAt w6 tv m := fun hc hd tv m h => by rw [e6]; exact TypeAt.setR r5 (by simp only [List.all_cons, List.all_nil, Bool.and_eq_true, Bool.and_true] at hc hd ⊢; simp only [hc, hd, and_self]) (y5 hc hd tv m h) 5 _
  obtain ⟨w7, e7⟩ : ∃ X, X = w6.setCell ⟨g, 6, none⟩ d6 := ⟨_, rfl⟩
  have r7 : w7.heap[g]? = some (.cells #[d0, d1, d2, d3, d4, d5, d6, c7, c8, c9, c10, c11, c12, c13, c14, c15] t (0, 0)) := by rw [e7]; exact heap_setCell_same w6 g 6 _ t d6 r6
  have x7 : ∀ w0, Ext w0 w → w0.heap.size ≤ g → Ext w0 w7 := fun w0 hx hg => by rw [e7]; exact (x6 w0 hx hg).setCell hg _
  have y7 : [c0, c1, c2, c3, c4, c5, c6, c7, c8, c9, c10, c11, c12, c13, c14, c15].all notInt = true → [d0, d1, d2, d3, d4, d5, d6, d7, d8, d9, d10, d11, d12, d13, d14, d15].all notInt = true → ∀ tv m, TypeAt w tv m → TypeAt w7 tv m := fun hc hd tv m h => by rw [e7]; exact TypeAt.setR r6 (by simp only [List.all_cons, List.all_nil, Bool.and_eq_true, Bool.and_true] at hc hd ⊢; simp only [hc, hd, and_self]) (y6 hc hd tv m h) 6 _
  obtain ⟨w8, e8⟩ : ∃ X, X = w7.setCell ⟨g, 7, none⟩ d7 := ⟨_, rfl⟩
  have r8 : w8.heap[g]? = some (.cells #[d0, d1, d2, d3, d4, d5, d6, d7, c8, c9, c10, c11, c12, c13, c14, c15] t (0, 0)) := by rw [e8]; exact heap_setCell_same w7 g 7 _ t d7 r7
  have x8 : ∀ w0, Ext w0 w → w0.heap.size ≤ g → Ext w0 w8 := fun w0 hx hg => by rw [e8]; exact (x7 w0 hx hg).setCell hg _
  have y8 : [c0, c1, c2, c3, c4, c5, c6, c7, c8, c9, c10, c11, c12, c13, c14, c15].all notInt = true → [d0, d1, d2, d3, d4, d5, d6, d7, d8, d9, d10, d11, d12, d13, d14, d15].all notInt = true → ∀ tv m, TypeAt w tv m → TypeAt w8 tv m := fun hc hd tv m h => by rw [e8]; exact TypeAt.setR r7 (by simp only [List.all_cons, List.all_nil, Bool.and_eq_true, Bool.and_true] at hc hd ⊢; simp only [hc, hd, and_self]) (y7 hc hd tv m h) 7 _
  obtain ⟨w9, e9⟩ : ∃ X, X = w8.setCell ⟨g, 8, none⟩ d8 := ⟨_, rfl⟩
  have r9 : w9.heap[g]? = some (.cells #[d0, d1, d2, d3, d4, d5, d6, d7, d8, c9, c10, c11, c12, c13, c14, c15] t (0, 0)) := by rw [e9]; exact heap_setCell_same w8 g 8 _ t d8 r8
  have x9 : ∀ w0, Ext w0 w → w0.heap.size ≤ g → Ext w0 w9 := fun w0 hx hg => by rw [e9]; exact (x8 w0 hx hg).setCell hg _
  have y9 : [c0, c1, c2, c3, c4, c5, c6, c7, c8, c9, c10, c11, c12, c13, c14, c15].all notInt = true → [d0, d1, d2, d3, d4, d5, d6, d7, d8, d9, d10, d11, d12, d13, d14, d15].all notInt = true → ∀ tv m, TypeAt w tv m → TypeAt w9 tv m := fun hc hd tv m h => by rw [e9]; exact TypeAt.setR r8 (by simp only [List.all_cons, List.all_nil, Bool.and_eq_true, Bool.and_true] at hc hd ⊢; simp only [hc, hd, and_self]) (y8 hc hd tv m h) 8 _
  obtain ⟨w10, e10⟩ : ∃ X, X = w9.setCell ⟨g, 9, none⟩ d9 := ⟨_, rfl⟩
  have r10 : w10.heap[g]? = some (.cells #[d0, d1, d2, d3, d4, d5, d6, d7, d8, d9, c10, c11, c12, c13, c14, c15] t (0, 0)) := by rw [e10]; exact heap_setCell_same w9 g 9 _ t d9 r9
  have x10 : ∀ w0, Ext w0 w → w0.heap.size ≤ g → Ext w0 w10 := fun w0 hx hg => by rw [e10]; exact (x9 w0 hx hg).setCell hg _
  have y10 : [c0, c1, c2, c3, c4, c5, c6, c7, c8, c9, c10, c11, c12, c13, c14, c15].all notInt = true → [d0, d1, d2, d3, d4, d5, d6, d7, d8, d9, d10, d11, d12, d13, d14, d15].all notInt = true → ∀ tv m, TypeAt w tv m → TypeAt w10 tv m := fun hc hd tv m h => by rw [e10]; exact TypeAt.setR r9 (by simp only [List.all_cons, List.all_nil, Bool.and_eq_true, Bool.and_true] at hc hd ⊢; simp only [hc, hd, and_self]) (y9 hc hd tv m h) 9 _
  obtain ⟨w11, e11⟩ : ∃ X, X = w10.setCell ⟨g, 10, none⟩ d10 := ⟨_, rfl⟩
  have r11 : w11.heap[g]? = some (.cells #[d0, d1, d2, d3, d4, d5, d6, d7, d8, d9, d10, c11, c12, c13, c14, c15] t (0, 0)) := by rw [e11]; exact heap_setCell_same w10 g 10 _ t d10 r10
  have x11 : ∀ w0, Ext w0 w → w0.heap.size ≤ g → Ext w0 w11 := fun w0 hx hg => by rw [e11]; exact (x10 w0 hx hg).setCell hg _
  have y11 : [c0, c1, c2, c3, c4, c5, c6, c7, c8, c9, c10, c11, c12, c13, c14, c15].all notInt = true → [d0, d1, d2, d3, d4, d5, d6, d7, d8, d9, d10, d11, d12, d13, d14, d15].all notInt = true → ∀ tv m, TypeAt w tv m → TypeAt w11 tv m := fun hc hd tv m h => by rw [e11]; exact TypeAt.setR r10 (by simp only [List.all_cons, List.all_nil, Bool.and_eq_true, Bool.and_true] at hc hd ⊢; simp only [hc, hd, and_self]) (y10 hc hd tv m h) 10 _
  obtain ⟨w12, e12⟩ : ∃ X, X = w11.setCell ⟨g, 11, none⟩ d11 := ⟨_, rfl⟩
  have r12 : w12.heap[g]? = some (.cells #[d0, d1, d2, d3, d4, d5, d6, d7, d8, d9, d10, d11, c12, c13, c14, c15] t (0, 0)) := by rw [e12]; exact heap_setCell_same w11 g 11 _ t d11 r11
  have x12 : ∀ w0, Ext w0 w → w0.heap.size ≤ g → Ext w0 w12 := fun w0 hx hg => by rw [e12]; exact (x11 w0 hx hg).setCell hg _
  have y12 : [c0, c1, c2, c3, c4, c5, c6, c7, c8, c9, c10, c11, c12, c13, c14, c15].all notInt = true → [d0, d1, d2, d3, d4, d5, d6, d7, d8, d9, d10, d11, d12, d13, d14, d15].all notInt = true → ∀ tv m, TypeAt w tv m → TypeAt w12 tv m := fun hc hd tv m h => by rw [e12]; exact TypeAt.setR r11 (by simp only [List.all_cons, List.all_nil, Bool.and_eq_true, Bool.and_true] at hc hd ⊢; simp only [hc, hd, and_self]) (y11 hc hd tv m h) 11 _
  obtain ⟨w13, e13⟩ : ∃ X, X = w12.setCell ⟨g, 12, none⟩ d12 := ⟨_, rfl⟩
  have r13 : w13.heap[g]? = some (.cells #[d0, d1, d2, d3, d4, d5, d6, d7, d8, d9, d10, d11, d12, c13, c14, c15] t (0, 0)) := by rw [e13]; exact heap_setCell_same w12 g 12 _ t d12 r12
  have x13 : ∀ w0, Ext w0 w → w0.heap.size ≤ g → Ext w0 w13 := fun w0 hx hg => by rw [e13]; exact (x12 w0 hx hg).setCell hg _
  have y13 : [c0, c1, c2, c3, c4, c5, c6, c7, c8, c9, c10, c11, c12, c13, c14, c15].all notInt = true → [d0, d1, d2, d3, d4, d5, d6, d7, d8, d9, d10, d11, d12, d13, d14, d15].all notInt = true → ∀ tv m, TypeAt w tv m → TypeAt w13 tv m := fun hc hd tv m h => by rw [e13]; exact TypeAt.setR r12 (by simp only [List.all_cons, List.all_nil, Bool.and_eq_true, Bool.and_true] at hc hd ⊢; simp only [hc, hd, and_self]) (y12 hc hd tv m h) 12 _
  obtain ⟨w14, e14⟩ : ∃ X, X = w13.setCell ⟨g, 13, none⟩ d13 := ⟨_, rfl⟩
  have r14 : w14.heap[g]? = some (.cells #[d0, d1, d2, d3, d4, d5, d6, d7, d8, d9, d10, d11, d12, d13, c14, c15] t (0, 0)) := by rw [e14]; exact heap_setCell_same w13 g 13 _ t d13 r13
  have x14 : ∀ w0, Ext w0 w → w0.heap.size ≤ g → Ext w0 w14 := fun w0 hx hg => by rw [e14]; exact (x13 w0 hx hg).setCell hg _
  have y14 : [c0, c1, c2, c3, c4, c5, c6, c7, c8, c9, c10, c11, c12, c13, c14, c15].all notInt = true → [d0, d1, d2, d3, d4, d5, d6, d7, d8, d9, d10, d11, d12, d13, d14, d15].all notInt = true → ∀ tv m, TypeAt w tv m → TypeAt w14 tv m := fun hc hd tv m h => by rw [e14]; exact TypeAt.setR r13 (by simp only [List.all_cons, List.all_nil, Bool.and_eq_true, Bool.and_true] at hc hd ⊢; simp only [hc, hd, and_self]) (y13 hc hd tv m h) 13 _
  obtain ⟨w15, e15⟩ : ∃ X, X = w14.setCell ⟨g, 14, none⟩ d14 := ⟨_, rfl⟩
  have r15 : w15.heap[g]? = some (.cells #[d0, d1, d2, d3, d4, d5, d6, d7, d8, d9, d10, d11, d12, d13, d14, c15] t (0, 0)) := by rw [e15]; exact heap_setCell_same w14 g 14 _ t d14 r14
  have x15 : ∀ w0, Ext w0 w → w0.heap.size ≤ g → Ext w0 w15 := fun w0 hx hg => by rw [e15]; exact (x14 w0 hx hg).setCell hg _
  have y15 : [c0, c1, c2, c3, c4, c5, c6, c7, c8, c9, c10, c11, c12, c13, c14, c15].all notInt = true → [d0, d1, d2, d3, d4, d5, d6, d7, d8, d9, d10, d11, d12, d13, d14, d15].all notInt = true → ∀ tv m, TypeAt w tv m → TypeAt w15 tv m := fun hc hd tv m h => by rw [e15]; exact TypeAt.setR r14 (by simp only [List.all_cons, List.all_nil, Bool.and_eq_true, Bool.and_true] at hc hd ⊢; simp only [hc, hd, and_self]) (y14 hc hd tv m h) 14 _
  obtain ⟨w16, e16⟩ : ∃ X, X = w15.setCell ⟨g, 15, none⟩ d15 := ⟨_, rfl⟩
  have r16 : w16.heap[g]? = some (.cells #[d0, d1, d2, d3, d4, d5, d6, d7, d8, d9, d10, d11, d12, d13, d14, d15] t (0, 0)) := by rw [e16]; exact heap_setCell_same w15 g 15 _ t d15 r15
  have x16 : ∀ w0, Ext w0 w → w0.heap.size ≤ g → Ext w0 w16 := fun w0 hx hg => by rw [e16]; exact (x15 w0 hx hg).setCell hg _
  have y16 : [c0, c1, c2, c3, c4, c5, c6, c7, c8, c9, c10, c11, c12, c13, c14, c15].all notInt = true → [d0, d1, d2, d3, d4, d5, d6, d7, d8, d9, d10, d11, d12, d13, d14, d15].all notInt = true → ∀ tv m, TypeAt w tv m → TypeAt w16 tv m := fun hc hd tv m h => by rw [e16]; exact TypeAt.setR r15 (by simp only [List.all_cons, List.all_nil, Bool.and_eq_true, Bool.and_true] at hc hd ⊢; simp only [hc, hd, and_self]) (y15 hc hd tv m h) 15 _
  refine ⟨w16, ?_, r16, x16, y16⟩
  rw [e16, e15, e14, e13, e12, e11, e10, e9, e8, e7, e6, e5, e4, e3, e2, e1]
set_option maxHeartbeats 6400000 in
set_option maxRecDepth 20000 in
theorem typesOf_any (nm : ByteArray) (s0 s1 s2 : SV) (t0 t1 t2 : BookM) (w : World) (h0 : BookAt w s0 t0) (h1 : BookAt w s1 t1) (h2 : BookAt w s2 t2) (n0 : t0.Small) (n1 : t1.Small) (n2 : t2.Small) :
    Calls Tryd.prog 12 #[.string nm, .agg #[.slice s0.a s0.len s0.cap], .agg #[.slice s1.a s1.len s1.cap], .agg #[.slice s2.a s2.len s2.cap]] w fun e w' => ∃ wt at1 bt : TV, e = .returned (.agg #[.string nm, .string wt.name, .bool wt.enum, .slice wt.fields.a wt.fields.len wt.fields.cap, .slice wt.gone.a wt.gone.len wt.gone.cap, .slice wt.items.a wt.items.len wt.items.cap, .string at1.name, .bool at1.enum, .slice at1.fields.a at1.fields.len at1.fields.cap, .slice at1.gone.a at1.gone.len at1.gone.cap, .slice at1.items.a at1.items.len at1.items.cap, .string bt.name, .bool bt.enum, .slice bt.fields.a bt.fields.len bt.fields.cap, .slice bt.gone.a bt.gone.len bt.gone.cap, .slice bt.items.a bt.items.len bt.items.cap]) ∧ TypeAt w' wt (findZ t0 nm) ∧ TypeAt w' at1 (findZ t1 nm) ∧ TypeAt w' bt (findZ t2 nm) ∧ Ext w w' := by
  obtain ⟨W, hW⟩ : ∃ W, W = ((((w.alloc (.cells #[.string nm] 9)).alloc (.cells #[.slice s0.a s0.len s0.cap] 24)).alloc (.cells #[.slice s1.a s1.len s1.cap] 24)).alloc (.cells #[.slice s2.a s2.len s2.cap] 24)).alloc (.cells #[.string ⟨#[]⟩, .string ⟨#[]⟩, .bool false, .slice none 0 0, .slice none 0 0, .slice none 0 0, .string ⟨#[]⟩, .bool false, .slice none 0 0, .slice none 0 0, .slice none 0 0, .string ⟨#[]⟩, .bool false, .slice none 0 0, .slice none 0 0, .slice none 0 0] 49) := ⟨_, rfl⟩
  have hxW : Ext w W := by rw [hW]; exact (((((Ext.refl w).alloc _).alloc _).alloc _).alloc _).alloc _
  have hb0 : W.heap[w.heap.size]? = some (.cells #[.string nm] 9 (0, 0)) := by rw [hW]; exact (((((Ext.refl _).alloc _).alloc _).alloc _).alloc _).heap (heap_alloc_new w _)
  have hb1 : W.heap[w.heap.size + 1]? = some (.cells #[.slice s0.a s0.len s0.cap] 24 (0, 0)) := by rw [hW]; exact ((((Ext.refl _).alloc _).alloc _).alloc _).heap (heap_alloc2_new w _ _)
  have hb2 : W.heap[w.heap.size + 1 + 1]? = some (.cells #[.slice s1.a s1.len s1.cap] 24 (0, 0)) := by rw [hW]; exact (((Ext.refl _).alloc _).alloc _).heap (heap_at (by simp) (heap_alloc_new _ _))
  have hb3 : W.heap[w.heap.size + 1 + 1 + 1]? = some (.cells #[.slice s2.a s2.len s2.cap] 24 (0, 0)) := by rw [hW]; exact ((Ext.refl _).alloc _).heap (heap_at (by simp) (heap_alloc_new _ _))
  have hb4 : W.heap[w.heap.size + 1 + 1 + 1 + 1]? = some (.cells #[.string ⟨#[]⟩, .string ⟨#[]⟩, .bool false, .slice none 0 0, .slice none 0 0, .slice none 0 0, .string ⟨#[]⟩, .bool false, .slice none 0 0, .slice none 0 0, .slice none 0 0, .string ⟨#[]⟩, .bool false, .slice none 0 0, .slice none 0 0, .slice none 0 0] 49 (0, 0)) := by rw [hW]; exact heap_at (by simp) (heap_alloc_new _ _)
  have c0 : W.cell? ⟨w.heap.size, 0, none⟩ = some (.string nm) := cell_of_row _ _ 0 _ _ _ hb0
  have c1 : W.cell? ⟨w.heap.size + 1, 0, none⟩ = some (.slice s0.a s0.len s0.cap) := cell_of_row _ _ 0 _ _ _ hb1
  have c2 : W.cell? ⟨w.heap.size + 1 + 1, 0, none⟩ = some (.slice s1.a s1.len s1.cap) := cell_of_row _ _ 0 _ _ _ hb2
  have c3 : W.cell? ⟨w.heap.size + 1 + 1 + 1, 0, none⟩ = some (.slice s2.a s2.len s2.cap) := cell_of_row _ _ 0 _ _ _ hb3
  have HW := hide hW
  have H0 := hide h0
  have H1 := hide h1
  have H2 := hide h2
  clear hW h0 h1 h2
  go_enter Tryd.func12, Tryd.ntmps12
  go_wp2_with fail
  rw [← unhide HW]
  refine wp_region_X (fun w' => Ext W w') (fun j => decide (11 ≤ j)) (by kernel_rfl) ?_
  obtain ⟨Wd, hWd⟩ : ∃ Wd, Wd = W.drew := ⟨_, rfl⟩
  have hS0 : Ext W Wd := by rw [hWd]; exact (Ext.refl W).drew
  rw [← hWd]
  clear hWd
  refine wpAnyX_take (i := 0) (v := .string nm) rfl (by kernel_rfl) (by kernel_rfl) (fun _ _ _ h => h) (.inl ⟨rfl, fun w' hS => by simp [execOp, go_sem, hS.cell c0]⟩) (hS0) ?_
  simp only [Act.put, List.getElem_toArray, List.getElem_cons_zero, List.getElem_cons_succ, List.setIfInBounds_toArray, List.set_cons_succ, List.set_cons_zero]
  refine wpAnyX_take (i := 1) (v := .func (.func 23) #[] #[.pointer (some ⟨w.heap.size, 0, none⟩)]) rfl (by kernel_rfl) (by kernel_rfl) (fun _ _ _ h => h) (.inl ⟨rfl, fun w' hS => by simp [execOp, go_sem]⟩) (hS0) ?_
  simp only [Act.put, List.getElem_toArray, List.getElem_cons_zero, List.getElem_cons_succ, List.setIfInBounds_toArray, List.set_cons_succ, List.set_cons_zero]
  refine wpAnyX_take (i := 2) (v := .agg #[.slice s0.a s0.len s0.cap]) rfl (by kernel_rfl) (by kernel_rfl) (fun _ _ _ h => h) (.inl ⟨rfl, fun w' hS => by simp [execOp, go_sem, hS.cell c1]⟩) (hS0) ?_
  simp only [Act.put, List.getElem_toArray, List.getElem_cons_zero, List.getElem_cons_succ, List.setIfInBounds_toArray, List.set_cons_succ, List.set_cons_zero]
  refine wpAnyX_take (i := 4) (v := .func (.func 23) #[] #[.pointer (some ⟨w.heap.size, 0, none⟩)]) rfl (by kernel_rfl) (by kernel_rfl) (fun _ _ _ h => h) (.inl ⟨rfl, fun w' hS => by simp [execOp, go_sem]⟩) (hS0) ?_
  simp only [Act.put, List.getElem_toArray, List.getElem_cons_zero, List.getElem_cons_succ, List.setIfInBounds_toArray, List.set_cons_succ, List.set_cons_zero]
  refine wpAnyX_take (i := 5) (v := .agg #[.slice s1.a s1.len s1.cap]) rfl (by kernel_rfl) (by kernel_rfl) (fun _ _ _ h => h) (.inl ⟨rfl, fun w' hS => by simp [execOp, go_sem, hS.cell c2]⟩) (hS0) ?_
  simp only [Act.put, List.getElem_toArray, List.getElem_cons_zero, List.getElem_cons_succ, List.setIfInBounds_toArray, List.set_cons_succ, List.set_cons_zero]
  refine wpAnyX_take (i := 7) (v := .func (.func 23) #[] #[.pointer (some ⟨w.heap.size, 0, none⟩)]) rfl (by kernel_rfl) (by kernel_rfl) (fun _ _ _ h => h) (.inl ⟨rfl, fun w' hS => by simp [execOp, go_sem]⟩) (hS0) ?_
  simp only [Act.put, List.getElem_toArray, List.getElem_cons_zero, List.getElem_cons_succ, List.setIfInBounds_toArray, List.set_cons_succ, List.set_cons_zero]
  refine wpAnyX_take (i := 8) (v := .agg #[.slice s2.a s2.len s2.cap]) rfl (by kernel_rfl) (by kernel_rfl) (fun _ _ _ h => h) (.inl ⟨rfl, fun w' hS => by simp [execOp, go_sem, hS.cell c3]⟩) (hS0) ?_
  simp only [Act.put, List.getElem_toArray, List.getElem_cons_zero, List.getElem_cons_succ, List.setIfInBounds_toArray, List.set_cons_succ, List.set_cons_zero]
  refine wpAnyX_one (j := 3) rfl (by kernel_rfl) rfl fun K hK => ?_
  go_wp2_with fail
  refine (typesOf1_any s0 t0 nm w.heap.size Wd ((unhide H0).ext (hxW.trans (hS0))) n0 ((hS0).cell c0)).mono ?_
  rintro e V0 ⟨wt, rfl, ha0, xv0⟩
  have fv0 : Ext W V0 := (hS0).trans xv0
  have Ha0 := hide ha0
  clear ha0
  go_wp2
  refine hK.out _ _ (fv0) ?_
  clear hK K
  refine wpAnyX_one (j := 6) rfl (by kernel_rfl) rfl fun K hK => ?_
  go_wp2_with fail
  refine (typesOf1_any s1 t1 nm w.heap.size V0 ((unhide H1).ext (hxW.trans (fv0))) n1 ((fv0).cell c0)).mono ?_
  rintro e V1 ⟨at1, rfl, ha1, xv1⟩
  have fv1 : Ext W V1 := (fv0).trans xv1
  have Ha1 := hide ha1
  clear ha1
  go_wp2
  refine hK.out _ _ (fv1) ?_
  clear hK K
  refine wpAnyX_one (j := 9) rfl (by kernel_rfl) rfl fun K hK => ?_
  go_wp2_with fail
  refine (typesOf1_any s2 t2 nm w.heap.size V1 ((unhide H2).ext (hxW.trans (fv1))) n2 ((fv1).cell c0)).mono ?_
  rintro e V2 ⟨bt, rfl, ha2, xv2⟩
  have fv2 : Ext W V2 := (fv1).trans xv2
  have Ha2 := hide ha2
  clear ha2
  go_wp2
  refine hK.out _ _ (fv2) ?_
  clear hK K
  refine wpAnyX_take (i := 10) (v := .agg #[.string nm, .string wt.name, .bool wt.enum, .slice wt.fields.a wt.fields.len wt.fields.cap, .slice wt.gone.a wt.gone.len wt.gone.cap, .slice wt.items.a wt.items.len wt.items.cap, .string at1.name, .bool at1.enum, .slice at1.fields.a at1.fields.len at1.fields.cap, .slice at1.gone.a at1.gone.len at1.gone.cap, .slice at1.items.a at1.items.len at1.items.cap, .string bt.name, .bool bt.enum, .slice bt.fields.a bt.fields.len bt.fields.cap, .slice bt.gone.a bt.gone.len bt.gone.cap, .slice bt.items.a bt.items.len bt.items.cap]) rfl (by kernel_rfl) (by kernel_rfl) (fun _ _ _ h => h) (.inl ⟨rfl, fun w' hS => by simp [execOp, go_sem]⟩) (fv2) ?_
  simp only [Act.put, List.getElem_toArray, List.getElem_cons_zero, List.getElem_cons_succ, List.setIfInBounds_toArray, List.set_cons_succ, List.set_cons_zero]
  obtain ⟨W6, hW6, r6, hx6, hy6⟩ := set16 (fv2.heap hb4) (.string nm) (.string wt.name) (.bool wt.enum) (.slice wt.fields.a wt.fields.len wt.fields.cap) (.slice wt.gone.a wt.gone.len wt.gone.cap) (.slice wt.items.a wt.items.len wt.items.cap) (.string at1.name) (.bool at1.enum) (.slice at1.fields.a at1.fields.len at1.fields.cap) (.slice at1.gone.a at1.gone.len at1.gone.cap) (.slice at1.items.a at1.items.len at1.items.cap) (.string bt.name) (.bool bt.enum) (.slice bt.fields.a bt.fields.len bt.fields.cap) (.slice bt.gone.a bt.gone.len bt.gone.cap) (.slice bt.items.a bt.items.len bt.items.cap)
  have f6 := hx6 w (hxW.trans fv2) (by omega)
  have T0 := hy6 rfl rfl _ _ (((unhide Ha0).ext xv1).ext xv2)
  have T1 := hy6 rfl rfl _ _ ((unhide Ha1).ext xv2)
  have T2 := hy6 rfl rfl _ _ (unhide Ha2)
  have r5 := fv2.heap hb4
  obtain ⟨q0, q1, q2, q3, q4, q5, q6, q7, q8, q9, q10, q11, q12, q13, q14, q15⟩ := row16b r5
  have qf : ∀ j, V2.frozen? ⟨w.heap.size + 1 + 1 + 1 + 1, j, none⟩ = false := fun j => frozen_of_row V2 _ j _ _ r5
  have hz := lt_of_heap r5
  have HW6 := hide hW6
  clear hW6 hx6 hy6 r5 hb0 hb1 hb2 hb3 hb4 c0 c1 c2 c3
  refine wpAnyX_end [11] [_] rfl (by intro j i hj; match j, hj with | 0, hj => cases hj; rfl) (by kernel_rfl) (by intro i hi; cases hi; rfl) fun K hK => ?_
  go_wp2
  rw [← unhide HW6]
  refine hK.out _ _ ?_
  clear hK K qf q0 q1 q2 q3 q4 q5 q6 q7 q8 q9 q10 q11 q12 q13 q14 q15
  go_wp2
  obtain ⟨k0, k1, k2, k3, k4, k5, k6, k7, k8, k9, k10, k11, k12, k13, k14, k15⟩ := row16b r6
  exact bodyPost_ret (v := .agg #[.string nm, .string wt.name, .bool wt.enum, .slice wt.fields.a wt.fields.len wt.fields.cap, .slice wt.gone.a wt.gone.len wt.gone.cap, .slice wt.items.a wt.items.len wt.items.cap, .string at1.name, .bool at1.enum, .slice at1.fields.a at1.fields.len at1.fields.cap, .slice at1.gone.a at1.gone.len at1.gone.cap, .slice at1.items.a at1.items.len at1.items.cap, .string bt.name, .bool bt.enum, .slice bt.fields.a bt.fields.len bt.fields.cap, .slice bt.gone.a bt.gone.len bt.gone.cap, .slice bt.items.a bt.items.len bt.items.cap]) (by simp [results, Tryd.results12, go_sem, k0, k1, k2, k3, k4, k5, k6, k7, k8, k9, k10, k11, k12, k13, k14, k15]) rfl ⟨wt, at1, bt, rfl, T0, T1, T2, f6⟩
end Go.Proofs.YtblkgaoafejefaaDoor
