import Derived.Test.YtmdpdgldmedebaaGreatDoorM38
namespace Go.Proofs.YtmdpdgldmedebaaGreatDoor
set_option linter.unusedSimpArgs false
set_option linter.unusedVariables false
set_option linter.unusedSimpArgs false
set_option linter.unusedVariables false
open Go.RowKit

set_option maxHeartbeats 6400000 in
set_option maxRecDepth 10000 in
theorem leastBy_leaf (sb : SV) (ts : BookM) (hn : ts.Small) (k : Nat) (rec : TypeM → Prop) (f : FieldM) (w : World) (hb : BookAt w sb ts) (hf : LrF ts rec f) (h5 : ¬ f.kind = 5) :
    Calls Tryz.prog 26 #[.agg #[.slice sb.a sb.len sb.cap], .agg #[.int .i64 f.id, .string f.name, .string f.type, .int .i64 f.kind, .int .i64 f.rule]] w fun e w' => ∃ ids l : SV, e = .returned (.agg #[.int .i64 (leastF ts (leastV ts k) f).kind, .int .i64 (leastF ts (leastV ts k) f).n, .string (leastF ts (leastV ts k) f).s, .slice ids.a ids.len ids.cap, .slice l.a l.len l.cap]) ∧ ValueAtP (Btw w w') (k + 1) w' [.int .i64 (leastF ts (leastV ts k) f).kind, .int .i64 (leastF ts (leastV ts k) f).n, .string (leastF ts (leastV ts k) f).s, .slice ids.a ids.len ids.cap, .slice l.a l.len l.cap] (leastF ts (leastV ts k) f) ∧ Ext w w' := by
  obtain ⟨hk, hit, hnf, _⟩ := hf
  have hnf := hnf h5
  obtain ⟨w0, hw0⟩ : ∃ w0, w0 = ((w.alloc (.cells #[.slice sb.a sb.len sb.cap] 24)).alloc (.cells #[.int .i64 f.id, .string f.name, .string f.type, .int .i64 f.kind, .int .i64 f.rule] 56)).alloc (.cells #[.int .i64 0, .int .i64 0, .string ⟨#[]⟩, .slice none 0 0, .slice none 0 0] 28) := ⟨_, rfl⟩
  obtain ⟨hx0, hz, r0, r1, r2⟩ := heaps3 hw0
  have HW0 := hide hw0
  clear hw0
  have b0 : w0.cell? ⟨w.heap.size, 0, none⟩ = some (.slice sb.a sb.len sb.cap) := cell_of_row _ _ 0 _ _ _ r0
  obtain ⟨f0, f1, f2, f3, f4, _⟩ := row5 r1
  obtain ⟨x, hx⟩ : ∃ x, x = leastF ts (leastV ts k) f := ⟨_, rfl⟩
  rw [← hx]
  have E : Hid (x = if f.kind = 4 then ⟨0, (((findM ts f.type).getD TypeM.zero).items.getD 0 ⟨⟨#[]⟩, 0⟩).n, ⟨#[]⟩, [], []⟩ else ⟨kindN f.kind, 0, ⟨#[]⟩, [], []⟩) := by
    unfold Hid; rw [hx]; unfold leastF; by_cases h4 : f.kind = 4
    · rw [if_pos h4, if_pos h4]
    · rw [if_neg h4, if_neg h4, if_neg h5]
  have HT := hide (refTypeOf_any sb ts f.type w0 (hb.ext hx0) hn.1)
  have HK := hide (fun w2 => wireKind_any f.kind w2 (by omega) hk.2)
  have Hhit := hide hit
  have Hhk := hide hk
  unfold typeF at hnf
  obtain ⟨T, hT⟩ : ∃ T, T = (findM ts f.type).getD TypeM.zero := ⟨_, rfl⟩
  have Hit : Hid (f.kind = 4 → 0 < T.items.length) := fun h => by rw [hT]; exact hit h
  rw [← hT] at HT E hnf
  have Hnf := hide hnf
  clear hx hb hit hnf hT hk Hhit h5
  go_enter Tryz.func26, Tryz.ntmps26
  go_wp2_with fail
  rw [← unhide HW0]
  refine (unhide HT).mono ?_
  rintro e w1 ⟨tv, rfl, htv, hx1⟩
  have hfl : tv.fields.len = 0 := by rw [htv.fields.1, unhide Hnf]; rfl
  have hil := htv.items.1
  have hits := htv.items.2
  obtain ⟨nm, en, ⟨fa, fl, fc⟩, gs, ⟨ia, il, ic⟩⟩ := tv
  simp only at hfl hil hits
  subst hfl hil
  have c3 := hx1.cell f3
  have c0 := hx1.cell f0
  have cr := hx1.heap r2
  have z1 := World.block_lt_of_cell? w1 _ c0
  have z2 := lt_of_heap cr
  have r3 : (w1.alloc (.cells #[.string nm, .bool en, .slice fa 0 fc, .slice gs.a gs.len gs.cap, .slice ia T.items.length ic] 50)).heap[w1.heap.size]? = some (.cells #[.string nm, .bool en, .slice fa 0 fc, .slice gs.a gs.len gs.cap, .slice ia T.items.length ic] 50 (0, 0)) := heap_alloc_new _ _
  have hx2 : Ext w1 (w1.alloc (.cells #[.string nm, .bool en, .slice fa 0 fc, .slice gs.a gs.len gs.cap, .slice ia T.items.length ic] 50)) := (Ext.refl w1).alloc _
  have Hits := hide hits
  clear htv hits
  go_wp2_with fail
  refine (unhide HK _).mono ?_
  rintro e w2 ⟨rfl, hx3⟩
  have h03 := hx1.trans (hx2.trans hx3)
  have d3 := h03.cell f3
  have dr := h03.heap r2
  have dt := hx3.heap r3
  obtain ⟨t0, t1, t2, t3, t4, _⟩ := row5 dt
  have y1 := World.block_lt_of_cell? w2 _ d3
  have y2 := lt_of_heap dr
  have y3 := lt_of_heap dt
  have hE2 := hx0.trans h03
  clear c3 c0 cr z1 z2 r3
  by_cases h4 : f.kind = 4
  · have hpos := unhide Hit h4
    obtain ⟨b, o, cs, ha, hr, rfl⟩ := unhide Hits 0 T.items[0] (by simp [hpos])
    have Hx : Hid (x = ⟨0, T.items[0].n, ⟨#[]⟩, [], []⟩) := by
      unfold Hid; rw [E.out, if_pos h4, show T.items.getD 0 ⟨⟨#[]⟩, 0⟩ = T.items[0] by simp [List.getD, hpos]]
    obtain ⟨g0, g1⟩ := range2 (h03.range hr)
    have hk0 : kindN f.kind = 0 := by rw [h4]; decide
    have hkb : (f.kind == 4) = true := by simp [h4]
    subst ha
    have hpi : (0 : Int) < (T.items.length : Int) := by omega
    rw [Nat.zero_mul, Nat.add_zero] at g0 g1
    have zg := World.block_lt_of_cell? w2 _ g1
    rw [hk0]
    generalize T.items[0] = it at *
    clear h4 hr E hk0
    obtain ⟨W3, hW3⟩ : ∃ W3, W3 = w2.alloc (.cells #[.int .i64 0, .int .i64 it.n, .string ⟨#[]⟩, .slice none 0 0, .slice none 0 0] 28) := ⟨_, rfl⟩
    have hE3 : Ext w W3 := by rw [hW3]; exact hE2.alloc _
    have rA : W3.heap[w2.heap.size]? = some (.cells #[.int .i64 0, .int .i64 it.n, .string ⟨#[]⟩, .slice none 0 0, .slice none 0 0] 28 (0, 0)) := by rw [hW3]; exact heap_alloc_new _ _
    have rR : W3.heap[w.heap.size + 1 + 1]? = some (.cells #[.int .i64 0, .int .i64 0, .string ⟨#[]⟩, .slice none 0 0, .slice none 0 0] 28 (0, 0)) := by rw [hW3]; exact ((Ext.refl w2).alloc _).heap dr
    have HW3 := hide hW3
    clear hW3
    go_wp2
    rw [← unhide HW3]
    go_loopw [33] (fun i wr => i = .int .i64 0 ∧ wr = W3) (fun _ _ => 0)
    case atStart => exact ⟨rfl, rfl⟩
    case round =>
      obtain ⟨rfl, rfl⟩ := hrel
      obtain ⟨a0, a1, a2, a3, a4, _⟩ := row5 rA
      obtain ⟨q0, q1, q2, q3, q4, _⟩ := row5 rR
      have u1 := lt_of_heap rA
      have u2 := lt_of_heap rR
      clear t0 t1 t2 t3 t4 d3 g0 g1
      go_wp2
      refine bodyPost_ret (v := .agg #[.int .i64 0, .int .i64 it.n, .string ⟨#[]⟩, .slice none 0 0, .slice none 0 0]) ?_ rfl ?_
      · simp [results, Tryz.results26, go_sem, q0, q1, q2, q3, q4, u2]
      · rw [unhide Hx]
        exact ⟨⟨none, 0, 0⟩, ⟨none, 0, 0⟩, rfl, leafAt _ _ _ _ _, hE3.setCell5 (by omega) _ _ _ _ _⟩
  · have Hx : Hid (x = ⟨kindN f.kind, 0, ⟨#[]⟩, [], []⟩) := by unfold Hid; rw [E.out, if_neg h4]
    have hkb : (f.kind == 4) = false := by simpa using h4
    generalize kindN f.kind = kd at *
    clear h4 E
    obtain ⟨W3, hW3⟩ : ∃ W3, W3 = w2.alloc (.cells #[.int .i64 kd, .int .i64 0, .string ⟨#[]⟩, .slice none 0 0, .slice none 0 0] 28) := ⟨_, rfl⟩
    have hE3 : Ext w W3 := by rw [hW3]; exact hE2.alloc _
    have rA : W3.heap[w2.heap.size]? = some (.cells #[.int .i64 kd, .int .i64 0, .string ⟨#[]⟩, .slice none 0 0, .slice none 0 0] 28 (0, 0)) := by rw [hW3]; exact heap_alloc_new _ _
    have rR : W3.heap[w.heap.size + 1 + 1]? = some (.cells #[.int .i64 0, .int .i64 0, .string ⟨#[]⟩, .slice none 0 0, .slice none 0 0] 28 (0, 0)) := by rw [hW3]; exact ((Ext.refl w2).alloc _).heap dr
    have HW3 := hide hW3
    clear hW3
    go_wp2
    rw [← unhide HW3]
    go_loopw [33] (fun i wr => i = .int .i64 0 ∧ wr = W3) (fun _ _ => 0)
    case atStart => exact ⟨rfl, rfl⟩
    case round =>
      obtain ⟨rfl, rfl⟩ := hrel
      obtain ⟨a0, a1, a2, a3, a4, _⟩ := row5 rA
      obtain ⟨q0, q1, q2, q3, q4, _⟩ := row5 rR
      have u1 := lt_of_heap rA
      have u2 := lt_of_heap rR
      clear t0 t1 t2 t3 t4 d3
      go_wp2
      refine bodyPost_ret (v := .agg #[.int .i64 kd, .int .i64 0, .string ⟨#[]⟩, .slice none 0 0, .slice none 0 0]) ?_ rfl ?_
      · simp [results, Tryz.results26, go_sem, q0, q1, q2, q3, q4, u2]
      · rw [unhide Hx]
        exact ⟨⟨none, 0, 0⟩, ⟨none, 0, 0⟩, rfl, leafAt _ _ _ _ _, hE3.setCell5 (by omega) _ _ _ _ _⟩
end Go.Proofs.YtmdpdgldmedebaaGreatDoor

