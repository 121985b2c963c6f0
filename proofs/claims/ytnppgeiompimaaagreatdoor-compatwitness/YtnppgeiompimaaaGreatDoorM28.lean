import Derived.Test.YtnppgeiompimaaaGreatDoorM27
namespace Go.Proofs.YtnppgeiompimaaaGreatDoor
set_option linter.unusedSimpArgs false
set_option linter.unusedVariables false
set_option linter.unusedSimpArgs false
set_option linter.unusedVariables false
open Go.RowKit

/-- append(v, s...), v a row of the call's own: the row grows by the slice's elements. -/
theorem wpList_appAll {α : Type} {P : Program} {w : World} {ops : Array Oper} {rest : List Oper} {o : Oper} {a : Act} {Q : Exit → Act → World → Prop} (d x : Operand) (t e : TypeId) (z : Value) (k bytes : Nat)
    (hgd : o.guard = none) (ho : o.op = .call { callee := .builtin .append, args := #[d, x], argTypes := #[t, t] })
    (ht : P.underlying t = some (.slice e)) (hinfo : (P.info? e).map (fun i => (i.zero, i.size, i.bytes)) = some (some z, k, bytes)) (hzs : z.cells.size = k) (hsz : 0 < k) (hby : bytes ≤ 96)
    (enc : α → List Value) (hk : ∀ x, (enc x).length = k) (h1 : ∀ x, ∀ u ∈ enc x, u.oneCell' = true) (base : Nat) (v : Value) (m : List α) (hown : w.ownsRow base e k v m.length (m.flatMap enc)) (hv : base ≤ w.heap.size) (hd : a.eval d = v)
    (s : SV) (l : List α) (hs : SliceAt k (fun _ cs x => cs = enc x) w s l) (h0 : s.ok) (hx : a.eval x = .slice s.a s.len s.cap) (hl : m.length + l.length ≤ 1048576)
    (h : ∀ (v' : SV) (w' : World), w'.ownsRow base e k (.slice v'.a v'.len v'.cap) (m ++ l).length ((m ++ l).flatMap enc) → w.grownBy w' v.ownBlock → wpList P ops Q rest (a.put o.dst (.slice v'.a v'.len v'.cap)) w') : wpList P ops Q (o :: rest) a w := by
  obtain ⟨i, hi, hz0, hz1, hz2⟩ := info_parts hinfo
  refine wpList_plain hgd fun K hK => ?_
  obtain ⟨sa, sl, sc⟩ := s
  have hn := hs.1
  simp only at hn
  subst hn
  cases sa with
  | none =>
    obtain ⟨e0, e1⟩ := h0.nil rfl
    simp only at e0 e1
    have : l = [] := List.length_eq_zero_iff.1 e0
    subst this
    subst e1
    have hr := run_append_owned_none (P := P) w base t o.type e i k ht hi v m.length (m.flatMap enc) hown
    obtain ⟨s', hs', _⟩ := sliceAt_of_owns enc hk (l := m) hown rfl
    unfold Oper.wp execOp
    simp only [List.length_nil] at hx
    simp only [ho, resolve, invoke, builtin, Sem.run_bind, Sem.run_pure, Result.andThen_ok, List.map_toArray, List.map_cons, List.map_nil, hd, hx, hr]
    have := h s' w (by rw [List.append_nil, ← hs']; exact hown) (World.grownBy.refl _ _)
    rw [← hs'] at this
    exact hK _ _ this
  | some ad =>
    obtain ⟨v', w', hr, ho', hg, _⟩ := run_append_own (P := P) w base t o.type e i z k bytes ht hi hz0 hz1 hz2 hzs hsz v m.length (m.flatMap enc) hown ad l.length sc (l.flatMap enc) (flatMap_len hk l) (hs.row hk rfl)
      (fun u hu => let ⟨x, _, hx⟩ := List.mem_flatMap.1 hu; h1 x u hx) (by unfold maxLen; omega)
      (by have : (m.length + l.length) * bytes ≤ 1048576 * 96 := Nat.mul_le_mul (by omega) hby
          omega) hv
    rw [← List.flatMap_append, ← List.length_append] at ho'
    obtain ⟨s', rfl, _⟩ := sliceAt_of_owns enc hk ho' rfl
    unfold Oper.wp execOp
    simp only at hx
    simp only [ho, resolve, invoke, builtin, Sem.run_bind, Sem.run_pure, Result.andThen_ok, List.map_toArray, List.map_cons, List.map_nil, hd, hx, hr]
    exact hK _ _ (h s' w' ho' hg)
end Go.Proofs.YtnppgeiompimaaaGreatDoor

namespace Go.Proofs.YtnppgeiompimaaaGreatDoor
set_option linter.unusedSimpArgs false
set_option linter.unusedVariables false
open Go.RowKit

theorem size_setCell (w : World) (p : Addr) (u : Value) : (w.setCell p u).heap.size = w.heap.size := by simp [World.setCell]
theorem rowN2 {w : World} {g : Nat} {t : TypeId} {c0 c1 : Value} (hb : w.heap[g]? = some (.cells #[c0, c1] t (0, 0))) :
    w.cell? ⟨g, 0, none⟩ = some c0 ∧ w.cell? ⟨g, 1, none⟩ = some c1 ∧ ∀ j, w.frozen? ⟨g, j, none⟩ = false :=
  ⟨cell_of_row w g 0 _ t _ hb, cell_of_row w g 1 _ t _ hb, fun j => frozen_of_row w g j _ t hb⟩
theorem setN2 {w : World} {g : Nat} {t : TypeId} {c0 c1 : Value} (hb : w.heap[g]? = some (.cells #[c0, c1] t (0, 0))) (d0 d1 : Value) :
    ∃ W, W = (w.setCell ⟨g, 0, none⟩ d0).setCell ⟨g, 1, none⟩ d1 ∧ W.heap[g]? = some (.cells #[d0, d1] t (0, 0)) ∧ (∀ w0, Ext w0 w → w0.heap.size ≤ g → Ext w0 W) ∧ (∀ b, b ≠ g → W.heap[b]? = w.heap[b]?) ∧ W.heap.size = w.heap.size := by
  have h0 := heap_setCell_same w g 0 _ t d0 hb
  simp only [List.setIfInBounds_toArray, List.set_cons_succ, List.set_cons_zero] at h0
  have h1 := heap_setCell_same _ g 1 _ t d1 h0
  simp only [List.setIfInBounds_toArray, List.set_cons_succ, List.set_cons_zero] at h1
  refine ⟨_, rfl, h1, fun w0 hx hg => (hx.setCell hg _).setCell hg _, fun b hb => ?_, ?_⟩
  · rw [Below.heap_setCell _ _ _ _ hb, Below.heap_setCell _ _ _ _ hb]
  · rw [size_setCell, size_setCell]
theorem rowN5 {w : World} {g : Nat} {t : TypeId} {c0 c1 c2 c3 c4 : Value} (hb : w.heap[g]? = some (.cells #[c0, c1, c2, c3, c4] t (0, 0))) :
    w.cell? ⟨g, 0, none⟩ = some c0 ∧ w.cell? ⟨g, 1, none⟩ = some c1 ∧ w.cell? ⟨g, 2, none⟩ = some c2 ∧ w.cell? ⟨g, 3, none⟩ = some c3 ∧ w.cell? ⟨g, 4, none⟩ = some c4 ∧ ∀ j, w.frozen? ⟨g, j, none⟩ = false :=
  ⟨cell_of_row w g 0 _ t _ hb, cell_of_row w g 1 _ t _ hb, cell_of_row w g 2 _ t _ hb, cell_of_row w g 3 _ t _ hb, cell_of_row w g 4 _ t _ hb, fun j => frozen_of_row w g j _ t hb⟩
theorem setN5 {w : World} {g : Nat} {t : TypeId} {c0 c1 c2 c3 c4 : Value} (hb : w.heap[g]? = some (.cells #[c0, c1, c2, c3, c4] t (0, 0))) (d0 d1 d2 d3 d4 : Value) :
    ∃ W, W = ((((w.setCell ⟨g, 0, none⟩ d0).setCell ⟨g, 1, none⟩ d1).setCell ⟨g, 2, none⟩ d2).setCell ⟨g, 3, none⟩ d3).setCell ⟨g, 4, none⟩ d4 ∧ W.heap[g]? = some (.cells #[d0, d1, d2, d3, d4] t (0, 0)) ∧ (∀ w0, Ext w0 w → w0.heap.size ≤ g → Ext w0 W) ∧ (∀ b, b ≠ g → W.heap[b]? = w.heap[b]?) ∧ W.heap.size = w.heap.size := by
  have h0 := heap_setCell_same w g 0 _ t d0 hb
  simp only [List.setIfInBounds_toArray, List.set_cons_succ, List.set_cons_zero] at h0
  have h1 := heap_setCell_same _ g 1 _ t d1 h0
  simp only [List.setIfInBounds_toArray, List.set_cons_succ, List.set_cons_zero] at h1
  have h2 := heap_setCell_same _ g 2 _ t d2 h1
  simp only [List.setIfInBounds_toArray, List.set_cons_succ, List.set_cons_zero] at h2
  have h3 := heap_setCell_same _ g 3 _ t d3 h2
  simp only [List.setIfInBounds_toArray, List.set_cons_succ, List.set_cons_zero] at h3
  have h4 := heap_setCell_same _ g 4 _ t d4 h3
  simp only [List.setIfInBounds_toArray, List.set_cons_succ, List.set_cons_zero] at h4
  refine ⟨_, rfl, h4, fun w0 hx hg => ((((hx.setCell hg _).setCell hg _).setCell hg _).setCell hg _).setCell hg _, fun b hb => ?_, ?_⟩
  · rw [Below.heap_setCell _ _ _ _ hb, Below.heap_setCell _ _ _ _ hb, Below.heap_setCell _ _ _ _ hb, Below.heap_setCell _ _ _ _ hb, Below.heap_setCell _ _ _ _ hb]
  · rw [size_setCell, size_setCell, size_setCell, size_setCell, size_setCell]
theorem rowN12 {w : World} {g : Nat} {t : TypeId} {c0 c1 c2 c3 c4 c5 c6 c7 c8 c9 c10 c11 : Value} (hb : w.heap[g]? = some (.cells #[c0, c1, c2, c3, c4, c5, c6, c7, c8, c9, c10, c11] t (0, 0))) :
    w.cell? ⟨g, 0, none⟩ = some c0 ∧ w.cell? ⟨g, 1, none⟩ = some c1 ∧ w.cell? ⟨g, 2, none⟩ = some c2 ∧ w.cell? ⟨g, 3, none⟩ = some c3 ∧ w.cell? ⟨g, 4, none⟩ = some c4 ∧ w.cell? ⟨g, 5, none⟩ = some c5 ∧ w.cell? ⟨g, 6, none⟩ = some c6 ∧ w.cell? ⟨g, 7, none⟩ = some c7 ∧ w.cell? ⟨g, 8, none⟩ = some c8 ∧ w.cell? ⟨g, 9, none⟩ = some c9 ∧ w.cell? ⟨g, 10, none⟩ = some c10 ∧ w.cell? ⟨g, 11, none⟩ = some c11 ∧ ∀ j, w.frozen? ⟨g, j, none⟩ = false :=
  ⟨cell_of_row w g 0 _ t _ hb, cell_of_row w g 1 _ t _ hb, cell_of_row w g 2 _ t _ hb, cell_of_row w g 3 _ t _ hb, cell_of_row w g 4 _ t _ hb, cell_of_row w g 5 _ t _ hb, cell_of_row w g 6 _ t _ hb, cell_of_row w g 7 _ t _ hb, cell_of_row w g 8 _ t _ hb, cell_of_row w g 9 _ t _ hb, cell_of_row w g 10 _ t _ hb, cell_of_row w g 11 _ t _ hb, fun j => frozen_of_row w g j _ t hb⟩
theorem setN12 {w : World} {g : Nat} {t : TypeId} {c0 c1 c2 c3 c4 c5 c6 c7 c8 c9 c10 c11 : Value} (hb : w.heap[g]? = some (.cells #[c0, c1, c2, c3, c4, c5, c6, c7, c8, c9, c10, c11] t (0, 0))) (d0 d1 d2 d3 d4 d5 d6 d7 d8 d9 d10 d11 : Value) :
    ∃ W, W = (((((((((((w.setCell ⟨g, 0, none⟩ d0).setCell ⟨g, 1, none⟩ d1).setCell ⟨g, 2, none⟩ d2).setCell ⟨g, 3, none⟩ d3).setCell ⟨g, 4, none⟩ d4).setCell ⟨g, 5, none⟩ d5).setCell ⟨g, 6, none⟩ d6).setCell ⟨g, 7, none⟩ d7).setCell ⟨g, 8, none⟩ d8).setCell ⟨g, 9, none⟩ d9).setCell ⟨g, 10, none⟩ d10).setCell ⟨g, 11, none⟩ d11 ∧ W.heap[g]? = some (.cells #[d0, d1, d2, d3, d4, d5, d6, d7, d8, d9, d10, d11] t (0, 0)) ∧ (∀ w0, Ext w0 w → w0.heap.size ≤ g → Ext w0 W) ∧ (∀ b, b ≠ g → W.heap[b]? = w.heap[b]?) ∧ W.heap.size = w.heap.size := by
  have h0 := heap_setCell_same w g 0 _ t d0 hb
  simp only [List.setIfInBounds_toArray, List.set_cons_succ, List.set_cons_zero] at h0
  have h1 := heap_setCell_same _ g 1 _ t d1 h0
  simp only [List.setIfInBounds_toArray, List.set_cons_succ, List.set_cons_zero] at h1
  have h2 := heap_setCell_same _ g 2 _ t d2 h1
  simp only [List.setIfInBounds_toArray, List.set_cons_succ, List.set_cons_zero] at h2
  have h3 := heap_setCell_same _ g 3 _ t d3 h2
  simp only [List.setIfInBounds_toArray, List.set_cons_succ, List.set_cons_zero] at h3
  have h4 := heap_setCell_same _ g 4 _ t d4 h3
  simp only [List.setIfInBounds_toArray, List.set_cons_succ, List.set_cons_zero] at h4
  have h5 := heap_setCell_same _ g 5 _ t d5 h4
  simp only [List.setIfInBounds_toArray, List.set_cons_succ, List.set_cons_zero] at h5
  have h6 := heap_setCell_same _ g 6 _ t d6 h5
  simp only [List.setIfInBounds_toArray, List.set_cons_succ, List.set_cons_zero] at h6
  have h7 := heap_setCell_same _ g 7 _ t d7 h6
  simp only [List.setIfInBounds_toArray, List.set_cons_succ, List.set_cons_zero] at h7
  have h8 := heap_setCell_same _ g 8 _ t d8 h7
  simp only [List.setIfInBounds_toArray, List.set_cons_succ, List.set_cons_zero] at h8
  have h9 := heap_setCell_same _ g 9 _ t d9 h8
  simp only [List.setIfInBounds_toArray, List.set_cons_succ, List.set_cons_zero] at h9
  have h10 := heap_setCell_same _ g 10 _ t d10 h9
  simp only [List.setIfInBounds_toArray, List.set_cons_succ, List.set_cons_zero] at h10
  have h11 := heap_setCell_same _ g 11 _ t d11 h10
  simp only [List.setIfInBounds_toArray, List.set_cons_succ, List.set_cons_zero] at h11
  refine ⟨_, rfl, h11, fun w0 hx hg => (((((((((((hx.setCell hg _).setCell hg _).setCell hg _).setCell hg _).setCell hg _).setCell hg _).setCell hg _).setCell hg _).setCell hg _).setCell hg _).setCell hg _).setCell hg _, fun b hb => ?_, ?_⟩
  · rw [Below.heap_setCell _ _ _ _ hb, Below.heap_setCell _ _ _ _ hb, Below.heap_setCell _ _ _ _ hb, Below.heap_setCell _ _ _ _ hb, Below.heap_setCell _ _ _ _ hb, Below.heap_setCell _ _ _ _ hb, Below.heap_setCell _ _ _ _ hb, Below.heap_setCell _ _ _ _ hb, Below.heap_setCell _ _ _ _ hb, Below.heap_setCell _ _ _ _ hb, Below.heap_setCell _ _ _ _ hb, Below.heap_setCell _ _ _ _ hb]
  · rw [size_setCell, size_setCell, size_setCell, size_setCell, size_setCell, size_setCell, size_setCell, size_setCell, size_setCell, size_setCell, size_setCell, size_setCell]

theorem SliceAt.keepAt {α : Type} {k : Nat} {R : List Value → α → Prop} {w W : World} {s : SV} {l : List α} (h : SliceAt k (fun _ cs x => R cs x) w s l) (hb : ∀ ad, s.a = some ad → W.heap[ad.block]? = w.heap[ad.block]?) : SliceAt k (fun _ cs x => R cs x) W s l :=
  ⟨h.1, fun i x hx => let ⟨b, o, cs, h1, h2, h3⟩ := h.2 i x hx; ⟨b, o, cs, h1, fun j v hv => by rw [World.cell?_of_block (w := w) (show W.heap[b]? = w.heap[b]? from hb _ h1)]; exact h2 j v hv, h3⟩⟩
theorem TypeAt.keepAt {w W : World} {tv : TV} {t : TypeM} (h : TypeAt w tv t) {g : Nat} (ho : tv.off g) (hb : ∀ b, b ≠ g → W.heap[b]? = w.heap[b]?) : TypeAt W tv t :=
  ⟨h.name, h.enum, SliceAt.keepAt h.fields fun ad ha => hb _ (ho.1 ad ha), SliceAt.keepAt h.gone fun ad ha => hb _ (ho.2.1 ad ha), SliceAt.keepAt h.items fun ad ha => hb _ (ho.2.2 ad ha), h.fok, h.gok, h.iok⟩

set_option maxHeartbeats 800000 in
theorem typeOfC_any (s : SV) (ts : BookM) (f : FieldM) (w : World) (hs : BookAt w s ts) (hn : ts.Small) :
    Calls Tryz.prog 90 #[.agg #[.slice s.a s.len s.cap], .agg #[.int .i64 f.id, .string f.name, .string f.type, .int .i64 f.kind, .int .i64 f.rule]] w fun e w' => ∃ tv : TV, e = .returned (.agg #[.string tv.name, .bool tv.enum, .slice tv.fields.a tv.fields.len tv.fields.cap, .slice tv.gone.a tv.gone.len tv.gone.cap, .slice tv.items.a tv.items.len tv.items.cap]) ∧ TypeAt w' tv (typeM ts f) ∧ Ext w w' ∧ tv.Fresh w := by
  have hx0 : Ext w (((w.alloc (.cells #[.slice s.a s.len s.cap] 24)).alloc (.cells #[.int .i64 f.id, .string f.name, .string f.type, .int .i64 f.kind, .int .i64 f.rule] 70)).alloc (.cells #[.string ⟨#[]⟩, .bool false, .slice none 0 0, .slice none 0 0, .slice none 0 0] 50)) := (((Ext.refl w).alloc _).alloc _).alloc _
  go_enter Tryz.func90, Tryz.ntmps90
  go_wp2_with fail
  refine (find_any s ts f.type _ (hs.ext hx0) hn).mono ?_
  rintro e w1 ⟨tv, rfl, htv, hx1, hfr⟩
  have hr1 := hx1.heap (heap_alloc_new ((w.alloc (.cells #[.slice s.a s.len s.cap] 24)).alloc (.cells #[.int .i64 f.id, .string f.name, .string f.type, .int .i64 f.kind, .int .i64 f.rule] 70)) (.cells #[.string ⟨#[]⟩, .bool false, .slice none 0 0, .slice none 0 0, .slice none 0 0] 50))
  have hz1 := lt_of_heap hr1
  obtain ⟨q0, q1, q2, q3, q4, hf⟩ := row5 hr1
  have Htv := hide htv
  have hfr2 : tv.Fresh (((w.alloc (.cells #[.slice s.a s.len s.cap] 24)).alloc (.cells #[.int .i64 f.id, .string f.name, .string f.type, .int .i64 f.kind, .int .i64 f.rule] 70)).alloc (.cells #[.string ⟨#[]⟩, .bool false, .slice none 0 0, .slice none 0 0, .slice none 0 0] 50)) := hfr
  have Hfr := hide hfr2
  clear htv hfr hfr2
  simp only [World.alloc, Array.size_push] at hr1 hz1 q0 q1 q2 q3 q4 hf
  go_wp2
  refine bodyPost_ret (v := .agg #[.string tv.name, .bool tv.enum, .slice tv.fields.a tv.fields.len tv.fields.cap, .slice tv.gone.a tv.gone.len tv.gone.cap, .slice tv.items.a tv.items.len tv.items.cap]) ?_ rfl ⟨tv, rfl, ?_, ?_, ?_⟩
  · simp [results, Tryz.results90, go_sem, q0, q1, q2, q3, q4, hz1]
  · exact ((unhide Htv).setCell5 ((unhide Hfr).off (by simp)) _ _ _ _ _).ext ((Ext.refl _).alloc _)
  · exact ((hx0.trans hx1).setCell5 (by omega) _ _ _ _ _).alloc _
  · exact (unhide Hfr).mono (by simp; omega)

set_option maxHeartbeats 6400000 in
set_option maxRecDepth 10000 in
theorem within_any (s1 s2 : SV) (ws rs : BookM) (f g : FieldM) (w : World) (h1 : BookAt w s1 ws) (h2 : BookAt w s2 rs) (n1 : ws.Small) (n2 : rs.Small) :
    Calls Tryz.prog 51 #[.agg #[.slice s1.a s1.len s1.cap, .slice s2.a s2.len s2.cap], .agg #[.int .i64 f.id, .string f.name, .string f.type, .int .i64 f.kind, .int .i64 f.rule], .agg #[.int .i64 g.id, .string g.name, .string g.type, .int .i64 g.kind, .int .i64 g.rule]] w fun e w' => ∃ tv uv : TV, e = .returned (.agg #[.string tv.name, .bool tv.enum, .slice tv.fields.a tv.fields.len tv.fields.cap, .slice tv.gone.a tv.gone.len tv.gone.cap, .slice tv.items.a tv.items.len tv.items.cap, .string uv.name, .bool uv.enum, .slice uv.fields.a uv.fields.len uv.fields.cap, .slice uv.gone.a uv.gone.len uv.gone.cap, .slice uv.items.a uv.items.len uv.items.cap, .int .i64 0, .int .i64 0]) ∧ TypeAt w' tv (typeM ws f) ∧ TypeAt w' uv (typeM rs g) ∧ Ext w w' ∧ tv.Fresh w ∧ uv.Fresh w := by
  obtain ⟨W, hW⟩ : ∃ W, W = (((w.alloc (.cells #[.slice s1.a s1.len s1.cap, .slice s2.a s2.len s2.cap] 52)).alloc (.cells #[.int .i64 f.id, .string f.name, .string f.type, .int .i64 f.kind, .int .i64 f.rule] 70)).alloc (.cells #[.int .i64 g.id, .string g.name, .string g.type, .int .i64 g.kind, .int .i64 g.rule] 70)).alloc (.cells #[.string ⟨#[]⟩, .bool false, .slice none 0 0, .slice none 0 0, .slice none 0 0, .string ⟨#[]⟩, .bool false, .slice none 0 0, .slice none 0 0, .slice none 0 0, .int .i64 0, .int .i64 0] 54) := ⟨_, rfl⟩
  have hxW : Ext w W := by rw [hW]; exact ((((Ext.refl w).alloc _).alloc _).alloc _).alloc _
  have r0 : W.heap[w.heap.size]? = some (.cells #[.slice s1.a s1.len s1.cap, .slice s2.a s2.len s2.cap] 52 (0, 0)) := by rw [hW]; exact ((((Ext.refl _).alloc _).alloc _).alloc _).heap (heap_alloc_new w _)
  have r1 : W.heap[w.heap.size + 1]? = some (.cells #[.int .i64 f.id, .string f.name, .string f.type, .int .i64 f.kind, .int .i64 f.rule] 70 (0, 0)) := by rw [hW]; exact (((Ext.refl _).alloc _).alloc _).heap (by simpa using heap_alloc_new (w.alloc _) _)
  have r2 : W.heap[w.heap.size + 1 + 1]? = some (.cells #[.int .i64 g.id, .string g.name, .string g.type, .int .i64 g.kind, .int .i64 g.rule] 70 (0, 0)) := by rw [hW]; exact ((Ext.refl _).alloc _).heap (by simpa using heap_alloc_new ((w.alloc _).alloc _) _)
  have r3 : W.heap[w.heap.size + 1 + 1 + 1]? = some (.cells #[.string ⟨#[]⟩, .bool false, .slice none 0 0, .slice none 0 0, .slice none 0 0, .string ⟨#[]⟩, .bool false, .slice none 0 0, .slice none 0 0, .slice none 0 0, .int .i64 0, .int .i64 0] 54 (0, 0)) := by rw [hW]; simpa using heap_alloc_new (((w.alloc _).alloc _).alloc _) _
  have HT1 := fun w' (hx : Ext w w') => typeOfC_any s1 ws f w' (h1.ext hx) n1
  have HT2 := fun w' (hx : Ext w w') => typeOfC_any s2 rs g w' (h2.ext hx) n2
  have HT1 := hide HT1
  have HT2 := hide HT2
  have HW := hide hW
  clear hW h1 h2 n1 n2
  go_enter Tryz.func51, Tryz.ntmps51
  go_wp2_with fail
  rw [← unhide HW]
  refine wp_region_X (fun w' => w'.heap[w.heap.size]? = some (.cells #[.slice s1.a s1.len s1.cap, .slice s2.a s2.len s2.cap] 52 (0, 0)) ∧ w'.heap[w.heap.size + 1]? = some (.cells #[.int .i64 f.id, .string f.name, .string f.type, .int .i64 f.kind, .int .i64 f.rule] 70 (0, 0)) ∧ w'.heap[w.heap.size + 1 + 1]? = some (.cells #[.int .i64 g.id, .string g.name, .string g.type, .int .i64 g.kind, .int .i64 g.rule] 70 (0, 0))) (fun _ => false) (by kernel_rfl) ?_
  obtain ⟨Wd, hWd⟩ : ∃ Wd, Wd = W.drew := ⟨_, rfl⟩
  have fd : Ext W Wd := by rw [hWd]; exact (Ext.refl W).drew
  have hS0 : Wd.heap[w.heap.size]? = some (.cells #[.slice s1.a s1.len s1.cap, .slice s2.a s2.len s2.cap] 52 (0, 0)) ∧ Wd.heap[w.heap.size + 1]? = some (.cells #[.int .i64 f.id, .string f.name, .string f.type, .int .i64 f.kind, .int .i64 f.rule] 70 (0, 0)) ∧ Wd.heap[w.heap.size + 1 + 1]? = some (.cells #[.int .i64 g.id, .string g.name, .string g.type, .int .i64 g.kind, .int .i64 g.rule] 70 (0, 0)) := ⟨fd.heap r0, fd.heap r1, fd.heap r2⟩
  rw [← hWd]
  clear hWd
  refine wpAnyX_take (i := 0) (v := .pointer (some ⟨w.heap.size, 0, none⟩)) rfl (by kernel_rfl) (by kernel_rfl) (fun _ _ _ h => h) (.inl ⟨rfl, fun w' hS => by simp [execOp, go_sem]⟩) (hS0) ?_
  simp only [Act.put, List.getElem_toArray, List.getElem_cons_zero, List.getElem_cons_succ, List.setIfInBounds_toArray, List.set_cons_succ, List.set_cons_zero]
  refine wpAnyX_take (i := 1) (v := .agg #[.slice s1.a s1.len s1.cap]) rfl (by kernel_rfl) (by kernel_rfl) (fun _ _ _ h => h) (.inl ⟨rfl, fun w' hS => by simp [execOp, go_sem, (rowN2 hS.1).1]⟩) (hS0) ?_
  simp only [Act.put, List.getElem_toArray, List.getElem_cons_zero, List.getElem_cons_succ, List.setIfInBounds_toArray, List.set_cons_succ, List.set_cons_zero]
  refine wpAnyX_take (i := 2) (v := .agg #[.int .i64 f.id, .string f.name, .string f.type, .int .i64 f.kind, .int .i64 f.rule]) rfl (by kernel_rfl) (by kernel_rfl) (fun _ _ _ h => h) (.inl ⟨rfl, fun w' hS => by simp [execOp, go_sem, (rowN5 hS.2.1).1, (rowN5 hS.2.1).2.1, (rowN5 hS.2.1).2.2.1, (rowN5 hS.2.1).2.2.2.1, (rowN5 hS.2.1).2.2.2.2.1]⟩) (hS0) ?_
  simp only [Act.put, List.getElem_toArray, List.getElem_cons_zero, List.getElem_cons_succ, List.setIfInBounds_toArray, List.set_cons_succ, List.set_cons_zero]
  refine wpAnyX_take (i := 4) (v := .pointer (some ⟨w.heap.size, 1, none⟩)) rfl (by kernel_rfl) (by kernel_rfl) (fun _ _ _ h => h) (.inl ⟨rfl, fun w' hS => by simp [execOp, go_sem]⟩) (hS0) ?_
  simp only [Act.put, List.getElem_toArray, List.getElem_cons_zero, List.getElem_cons_succ, List.setIfInBounds_toArray, List.set_cons_succ, List.set_cons_zero]
  refine wpAnyX_take (i := 5) (v := .agg #[.slice s2.a s2.len s2.cap]) rfl (by kernel_rfl) (by kernel_rfl) (fun _ _ _ h => h) (.inl ⟨rfl, fun w' hS => by simp [execOp, go_sem, (rowN2 hS.1).2.1]⟩) (hS0) ?_
  simp only [Act.put, List.getElem_toArray, List.getElem_cons_zero, List.getElem_cons_succ, List.setIfInBounds_toArray, List.set_cons_succ, List.set_cons_zero]
  refine wpAnyX_take (i := 6) (v := .agg #[.int .i64 g.id, .string g.name, .string g.type, .int .i64 g.kind, .int .i64 g.rule]) rfl (by kernel_rfl) (by kernel_rfl) (fun _ _ _ h => h) (.inl ⟨rfl, fun w' hS => by simp [execOp, go_sem, (rowN5 hS.2.2).1, (rowN5 hS.2.2).2.1, (rowN5 hS.2.2).2.2.1, (rowN5 hS.2.2).2.2.2.1, (rowN5 hS.2.2).2.2.2.2.1]⟩) (hS0) ?_
  simp only [Act.put, List.getElem_toArray, List.getElem_cons_zero, List.getElem_cons_succ, List.setIfInBounds_toArray, List.set_cons_succ, List.set_cons_zero]
  refine wpAnyX_one (j := 3) rfl (by kernel_rfl) rfl fun K hK => ?_
  go_wp2_with fail
  refine (unhide HT1 Wd (hxW.trans fd)).mono ?_
  rintro e w1 ⟨tv, rfl, ht, x1, fr1⟩
  have f1 := fd.trans x1
  go_wp2
  refine hK.out _ _ (⟨f1.heap r0, f1.heap r1, f1.heap r2⟩) ?_
  clear hK K
  refine wpAnyX_one (j := 7) rfl (by kernel_rfl) rfl fun K hK => ?_
  go_wp2_with fail
  refine (unhide HT2 w1 (hxW.trans f1)).mono ?_
  rintro e w2 ⟨uv, rfl, hu, x2, fr2⟩
  have f2 := f1.trans x2
  have r3b := f2.heap r3
  have hz3 := lt_of_heap r3
  have hz := lt_of_heap r3b
  have of1 := fr1.off (g := w.heap.size + 1 + 1 + 1) (by have := fd.size; omega)
  have of2 := fr2.off (g := w.heap.size + 1 + 1 + 1) (by have := f1.size; omega)
  have ht := ht.ext x2
  have fw1 : tv.Fresh w := fr1.mono (hxW.trans fd).size
  have fw2 : uv.Fresh w := fr2.mono (hxW.trans f1).size
  go_wp2
  refine hK.out _ _ (⟨f2.heap r0, f2.heap r1, f2.heap r2⟩) ?_
  clear hK K
  refine wpAnyX_take (i := 8) (v := .agg #[.string tv.name, .bool tv.enum, .slice tv.fields.a tv.fields.len tv.fields.cap, .slice tv.gone.a tv.gone.len tv.gone.cap, .slice tv.items.a tv.items.len tv.items.cap, .string uv.name, .bool uv.enum, .slice uv.fields.a uv.fields.len uv.fields.cap, .slice uv.gone.a uv.gone.len uv.gone.cap, .slice uv.items.a uv.items.len uv.items.cap, .int .i64 0, .int .i64 0]) rfl (by kernel_rfl) (by kernel_rfl) (fun _ _ _ h => h) (.inl ⟨rfl, fun w' hS => by simp [execOp, go_sem]⟩) ((⟨f2.heap r0, f2.heap r1, f2.heap r2⟩ : _ ∧ _ ∧ _)) ?_
  simp only [Act.put, List.getElem_toArray, List.getElem_cons_zero, List.getElem_cons_succ, List.setIfInBounds_toArray, List.set_cons_succ, List.set_cons_zero]
  obtain ⟨W6, hW6, r6, hx6, hk6, _⟩ := setN12 r3b (.string tv.name) (.bool tv.enum) (.slice tv.fields.a tv.fields.len tv.fields.cap) (.slice tv.gone.a tv.gone.len tv.gone.cap) (.slice tv.items.a tv.items.len tv.items.cap) (.string uv.name) (.bool uv.enum) (.slice uv.fields.a uv.fields.len uv.fields.cap) (.slice uv.gone.a uv.gone.len uv.gone.cap) (.slice uv.items.a uv.items.len uv.items.cap) (.int .i64 0) (.int .i64 0)
  have f6 := hx6 w (hxW.trans f2) (by omega)
  have ht6 := ht.keepAt of1 hk6
  have hu6 := hu.keepAt of2 hk6
  have hS6 : W6.heap[w.heap.size]? = some (.cells #[.slice s1.a s1.len s1.cap, .slice s2.a s2.len s2.cap] 52 (0, 0)) ∧ W6.heap[w.heap.size + 1]? = some (.cells #[.int .i64 f.id, .string f.name, .string f.type, .int .i64 f.kind, .int .i64 f.rule] 70 (0, 0)) ∧ W6.heap[w.heap.size + 1 + 1]? = some (.cells #[.int .i64 g.id, .string g.name, .string g.type, .int .i64 g.kind, .int .i64 g.rule] 70 (0, 0)) := ⟨(hk6 _ (by omega)).trans (f2.heap r0), (hk6 _ (by omega)).trans (f2.heap r1), (hk6 _ (by omega)).trans (f2.heap r2)⟩
  have HW6 := hide hW6
  obtain ⟨a0, a1, a2, a3, a4, a5, a6, a7, a8, a9, a10, a11, af⟩ := rowN12 r3b
  clear hW6 hx6 hk6
  refine wpAnyX_one (j := 9) rfl (by kernel_rfl) rfl fun K hK => ?_
  go_wp2
  rw [← unhide HW6]
  refine hK.out _ _ (hS6) ?_
  clear hK K
  refine wpAnyX_end [] [] rfl (by intro j i hj; simp at hj) (by kernel_rfl) (by intro i hi; simp at hi) fun K hK => ?_
  go_wp2
  refine hK.out _ _ ?_
  clear hK K
  clear a0 a1 a2 a3 a4 a5 a6 a7 a8 a9 a10 a11 af
  obtain ⟨k0, k1, k2, k3, k4, k5, k6, k7, k8, k9, k10, k11, _⟩ := rowN12 r6
  go_wp2
  exact bodyPost_ret (v := .agg #[.string tv.name, .bool tv.enum, .slice tv.fields.a tv.fields.len tv.fields.cap, .slice tv.gone.a tv.gone.len tv.gone.cap, .slice tv.items.a tv.items.len tv.items.cap, .string uv.name, .bool uv.enum, .slice uv.fields.a uv.fields.len uv.fields.cap, .slice uv.gone.a uv.gone.len uv.gone.cap, .slice uv.items.a uv.items.len uv.items.cap, .int .i64 0, .int .i64 0]) (by simp [results, Tryz.results51, go_sem, k0, k1, k2, k3, k4, k5, k6, k7, k8, k9, k10, k11]) rfl ⟨tv, uv, rfl, ht6, hu6, f6, fw1, fw2⟩
end Go.Proofs.YtnppgeiompimaaaGreatDoor

