import Derived.Test.YtnppgeiompimaaaGreatDoorM37
namespace Go.Proofs.YtnppgeiompimaaaGreatDoor
set_option linter.unusedSimpArgs false
set_option linter.unusedVariables false
set_option linter.unusedSimpArgs false
set_option linter.unusedVariables false
open Go.RowKit

theorem putter_any (g : Nat) (w : World) : Calls Tryz.prog 65 #[.pointer (some ⟨g, 0, none⟩)] w fun e w' => e = .returned (.func (.func 114) #[] #[.pointer (some ⟨w.heap.size, 0, none⟩)]) ∧ w' = w.alloc (.cells #[.pointer (some ⟨g, 0, none⟩)] 111) := by
  go_enter Tryz.func65, Tryz.ntmps65
  go_wp2
  go_ret
  exact ⟨rfl, rfl⟩
end Go.Proofs.YtnppgeiompimaaaGreatDoor

namespace Go.Proofs.YtnppgeiompimaaaGreatDoor
set_option linter.unusedSimpArgs false
set_option linter.unusedVariables false
open Go.RowKit

set_option maxHeartbeats 3200000 in
set_option maxRecDepth 10000 in
theorem leastOf_any (sb : SV) (ts : BookM) (name : ByteArray) (id : Int) (f : FieldM) (w : World) (hb : BookAt w sb ts) (hw : WordsAt w) (hn : ts.Fits) (hs : ts.Small) (hE : msgE ts name = 0) (hF : fieldM (msgT ts name) id = some f) (hf : LeF ts (LeOk ts 4) f) (hl : (msgT ts name).fields.length ≤ 9223372036854775807) :
    Calls Tryz.prog 116 #[.agg #[.slice sb.a sb.len sb.cap], .string name, .int .i64 id] w fun e w' => ∃ ids l : SV, e = .returned (.tuple #[.agg #[.int .i64 (leastF ts (leastV ts 4) f).kind, .int .i64 (leastF ts (leastV ts 4) f).n, .string (leastF ts (leastV ts 4) f).s, .slice ids.a ids.len ids.cap, .slice l.a l.len l.cap], .int .i64 0]) ∧ ValueAtP (Btw w w') 5 w' [.int .i64 (leastF ts (leastV ts 4) f).kind, .int .i64 (leastF ts (leastV ts 4) f).n, .string (leastF ts (leastV ts 4) f).s, .slice ids.a ids.len ids.cap, .slice l.a l.len l.cap] (leastF ts (leastV ts 4) f) ∧ Ext w w' := by
  obtain ⟨w0, hw0⟩ : ∃ w0, w0 = (w.alloc (.cells #[.slice sb.a sb.len sb.cap] 24)).alloc (.cells #[.int .i64 0, .int .i64 0, .string ⟨#[]⟩, .slice none 0 0, .slice none 0 0] 37) := ⟨_, rfl⟩
  obtain ⟨hx0, hz, r0, r1⟩ := heaps2 hw0
  have HW0 := hide hw0
  have H1 := fun w' (hx : Ext w w') => messageOf_any sb ts name w' (hb.ext hx) (hw.ext hx) hn
  have H3 := fun w' (hx : Ext w w') => leastOne_of sb ts hs 4 (leastMessage_any sb ts hs 4) f w' (hb.ext hx) hf
  rw [hE] at H1
  have H2 := fun (tv : TV) w' (ht : TypeAt w' tv (msgT ts name)) => fieldOf_any tv (msgT ts name) id w' ht hl
  rw [hF] at H2
  generalize msgT ts name = t at *
  generalize leastF ts (leastV ts 4) f = x at *
  have H1 := hide H1
  have H2 := hide H2
  have H3 := hide H3
  have b0 : w0.cell? ⟨w.heap.size, 0, none⟩ = some (.slice sb.a sb.len sb.cap) := cell_of_row _ _ 0 _ _ _ r0
  clear hw0 hb hw hn hs hE hF hf hl
  go_enter Tryz.func116, Tryz.ntmps116
  go_wp2_with fail
  rw [← unhide HW0]
  refine (unhide H1 w0 hx0).mono ?_
  rintro e w1 ⟨tv, rfl, ht, x1, _⟩
  have hxT : Ext w1 (w1.alloc (.cells #[.string tv.name, .bool tv.enum, .slice tv.fields.a tv.fields.len tv.fields.cap, .slice tv.gone.a tv.gone.len tv.gone.cap, .slice tv.items.a tv.items.len tv.items.cap] 50)) := (Ext.refl w1).alloc _
  have hc2 := unhide H2 tv _ (ht.ext hxT)
  have Hc2 := hide hc2
  have b1 := x1.cell b0
  have z1 := World.block_lt_of_cell? _ _ b1
  simp only at z1
  clear hc2 ht b0
  go_wp2_with fail
  refine (unhide Hc2).mono ?_
  rintro e w2 ⟨rfl, x2⟩
  have f2 := (x1.trans hxT).trans x2
  have b2 := (hxT.trans x2).cell b1
  have z2 := World.block_lt_of_cell? _ _ b2
  simp only at z2
  have hc3 := unhide H3 (w2.alloc (.cells #[.int .i64 f.id, .string f.name, .string f.type, .int .i64 f.kind, .int .i64 f.rule] 70)) ((hx0.trans f2).alloc _)
  have Hc3 := hide hc3
  clear hc3 b1 Hc2 H1 H2 H3
  go_wp2_with fail
  refine (unhide Hc3).mono ?_
  rintro e w3 ⟨ids, l, rfl, hv, x3⟩
  have f3 := (f2.alloc (.cells #[.int .i64 f.id, .string f.name, .string f.type, .int .i64 f.kind, .int .i64 f.rule] 70)).trans x3
  have R3 := f3.heap r1
  obtain ⟨c0, c1, c2, c3, c4, cf⟩ := row5 R3
  have z3 := lt_of_heap R3
  have hsz := f2.size
  obtain ⟨W6, hW6, r6, hx6, hk6, _⟩ := setN5 R3 (.int .i64 x.kind) (.int .i64 x.n) (.string x.s) (.slice ids.a ids.len ids.cap) (.slice l.a l.len l.cap)
  have f6 := hx6 w (hx0.trans f3) (by omega)
  have hv6 : ValueAtP (Btw w W6) 5 W6 [.int .i64 x.kind, .int .i64 x.n, .string x.s, .slice ids.a ids.len ids.cap, .slice l.a l.len l.cap] x := by
    refine ((hv.keep fun b ob hb ho => ?_).sub fun b hb => ?_)
    · have h1 := hb.1
      simp at h1
      rw [hk6 b (by omega)]; exact ho
    · have h1 := hb.1
      have h2 := hb.2
      simp at h1
      have e6 : W6.heap.size = w3.heap.size := by assumption
      exact ⟨by omega, by omega⟩
  have HW6 := hide hW6
  have H6 := hide (And.intro f6 hv6)
  clear hW6 hx6 hk6 hv Hc3 b2 f6 hv6
  go_wp2
  rw [← unhide HW6]
  clear c0 c1 c2 c3 c4 cf
  obtain ⟨c0, c1, c2, c3, c4, _⟩ := row5 r6
  exact bodyPost_ret (v := .tuple #[.agg #[.int .i64 x.kind, .int .i64 x.n, .string x.s, .slice ids.a ids.len ids.cap, .slice l.a l.len l.cap], .int .i64 0]) (by simp [results, Tryz.results116, go_sem, c0, c1, c2, c3, c4]) rfl ⟨ids, l, rfl, (unhide H6).2, (unhide H6).1⟩
end Go.Proofs.YtnppgeiompimaaaGreatDoor

namespace Go.Proofs.YtnppgeiompimaaaGreatDoor
set_option linter.unusedSimpArgs false
set_option linter.unusedVariables false
open Go.RowKit

set_option maxHeartbeats 3200000 in
set_option maxRecDepth 10000 in
theorem leastC_any (sb : SV) (ts : BookM) (tv : TV) (id : Int) (f : FieldM) (w : World) (hb : BookAt w sb ts) (hw : WordsAt w) (hn : ts.Fits) (hs : ts.Small) (hE : msgE ts tv.name = 0) (hF : fieldM (msgT ts tv.name) id = some f) (hf : LeF ts (LeOk ts 4) f) (hl : (msgT ts tv.name).fields.length ≤ 9223372036854775807) :
    Calls Tryz.prog 67 #[.agg #[.slice sb.a sb.len sb.cap], .agg #[.string tv.name, .bool tv.enum, .slice tv.fields.a tv.fields.len tv.fields.cap, .slice tv.gone.a tv.gone.len tv.gone.cap, .slice tv.items.a tv.items.len tv.items.cap], .int .i64 id] w fun e w' => ∃ ids l : SV, e = .returned (.agg #[.int .i64 (leastF ts (leastV ts 4) f).kind, .int .i64 (leastF ts (leastV ts 4) f).n, .string (leastF ts (leastV ts 4) f).s, .slice ids.a ids.len ids.cap, .slice l.a l.len l.cap]) ∧ ValueAtP (Btw w w') 5 w' [.int .i64 (leastF ts (leastV ts 4) f).kind, .int .i64 (leastF ts (leastV ts 4) f).n, .string (leastF ts (leastV ts 4) f).s, .slice ids.a ids.len ids.cap, .slice l.a l.len l.cap] (leastF ts (leastV ts 4) f) ∧ Ext w w' := by
  obtain ⟨w0, hw0⟩ : ∃ w0, w0 = ((w.alloc (.cells #[.slice sb.a sb.len sb.cap] 24)).alloc (.cells #[.string tv.name, .bool tv.enum, .slice tv.fields.a tv.fields.len tv.fields.cap, .slice tv.gone.a tv.gone.len tv.gone.cap, .slice tv.items.a tv.items.len tv.items.cap] 50)).alloc (.cells #[.int .i64 0, .int .i64 0, .string ⟨#[]⟩, .slice none 0 0, .slice none 0 0] 37) := ⟨_, rfl⟩
  obtain ⟨hx0, hz, r0, r1, r2⟩ := heaps3c hw0
  have HW0 := hide hw0
  have H1 := fun w' (hx : Ext w w') => leastOf_any sb ts tv.name id f w' (hb.ext hx) (hw.ext hx) hn hs hE hF hf hl
  generalize leastF ts (leastV ts 4) f = x at *
  have H1 := hide H1
  have b0 : w0.cell? ⟨w.heap.size, 0, none⟩ = some (.slice sb.a sb.len sb.cap) := cell_of_row _ _ 0 _ _ _ r0
  obtain ⟨d0, d1, d2, d3, d4, _⟩ := rowN5 r1
  clear hw0 hb hw hn hs hE hF hf hl
  go_enter Tryz.func67, Tryz.ntmps67
  go_wp2_with fail
  rw [← unhide HW0]
  refine (unhide H1 w0 hx0).mono ?_
  rintro e w3 ⟨ids, l, rfl, hv, x3⟩
  have hxA : Ext w3 (w3.alloc (.cells #[.int .i64 x.kind, .int .i64 x.n, .string x.s, .slice ids.a ids.len ids.cap, .slice l.a l.len l.cap] 37)) := (Ext.refl w3).alloc _
  have R3 := x3.heap r2
  obtain ⟨c0, c1, c2, c3, c4, cf⟩ := row5 R3
  have z3 := lt_of_heap R3
  obtain ⟨W6, hW6, r6, hx6, hk6, _⟩ := setN5 R3 (.int .i64 x.kind) (.int .i64 x.n) (.string x.s) (.slice ids.a ids.len ids.cap) (.slice l.a l.len l.cap)
  have f6 := hx6 w (hx0.trans x3) (by omega)
  have hv6 : ValueAtP (Btw w W6) 5 W6 [.int .i64 x.kind, .int .i64 x.n, .string x.s, .slice ids.a ids.len ids.cap, .slice l.a l.len l.cap] x := by
    refine ((hv.keep fun b ob hb ho => ?_).sub fun b hb => ?_)
    · have h1 := hb.1
      rw [hk6 b (by omega)]; exact ho
    · have h1 := hb.1
      have h2 := hb.2
      have e6 : W6.heap.size = w3.heap.size := by assumption
      exact ⟨by omega, by omega⟩
  have HW6 := hide hW6
  have H6 := hide (And.intro f6 hv6)
  clear hW6 hx6 hk6 hv b0 d0 d1 d2 d3 d4 f6 hv6
  go_wp2
  rw [← unhide HW6]
  clear c0 c1 c2 c3 c4 cf
  have e7 := (Ext.refl W6).alloc (.cells #[.int .i64 x.kind, .int .i64 x.n, .string x.s, .slice ids.a ids.len ids.cap, .slice l.a l.len l.cap] 37)
  obtain ⟨c0, c1, c2, c3, c4, _⟩ := rowN5 (e7.heap r6)
  exact bodyPost_ret (v := .agg #[.int .i64 x.kind, .int .i64 x.n, .string x.s, .slice ids.a ids.len ids.cap, .slice l.a l.len l.cap]) (by simp [results, Tryz.results67, go_sem, c0, c1, c2, c3, c4]) rfl ⟨ids, l, rfl, ((unhide H6).2.ext e7).sub fun b hb => hb.le (Nat.le_refl _) e7.size, (unhide H6).1.trans e7⟩
end Go.Proofs.YtnppgeiompimaaaGreatDoor

