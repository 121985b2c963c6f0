import Derived.Test.YtmdpdgldmedebaaGreatDoorM46
namespace Go.Proofs.YtmdpdgldmedebaaGreatDoor
set_option linter.unusedSimpArgs false
set_option linter.unusedVariables false
set_option linter.unusedSimpArgs false
set_option linter.unusedVariables false
open Go.RowKit

theorem valueOf_any (sb : SV) (ts : BookM) (hg : goodM ts = 0) : ∀ n : Nat, n ≤ 24 → VO sb ts n
  | 0, _ => valueOf_zero sb ts
  | k + 1, h => valueOf_of sb ts hg k (by omega) (valueOf_any sb ts hg k (by omega))

set_option maxHeartbeats 3200000 in
set_option maxRecDepth 10000 in
theorem decodeValueR_any (sb : SV) (ts : BookM) (name s : ByteArray) (w : World) (hb : BookAt w sb ts) (hmx : MaxAt w) (hn : ts.Small) (hs : s.size ≤ 9223372036854775807) :
    Calls Tryz.prog 22 #[.agg #[.slice sb.a sb.len sb.cap], .string name, .string s] w fun e w' => ∃ ids l : SV, e = .returned (.tuple #[.agg #[.int .i64 (decA ts name s).2.kind, .int .i64 (decA ts name s).2.n, .string (decA ts name s).2.s, .slice ids.a ids.len ids.cap, .slice l.a l.len l.cap], .int .i64 (decA ts name s).1]) ∧ ValueAtP (Btw w w') 29 w' [.int .i64 (decA ts name s).2.kind, .int .i64 (decA ts name s).2.n, .string (decA ts name s).2.s, .slice ids.a ids.len ids.cap, .slice l.a l.len l.cap] (decA ts name s).2 ∧ Ext w w' := by
  obtain ⟨w0, hw0⟩ : ∃ w0, w0 = (w.alloc (.cells #[.slice sb.a sb.len sb.cap] 24)).alloc (.cells #[.int .i64 0, .int .i64 0, .string ⟨#[]⟩, .slice none 0 0, .slice none 0 0] 28) := ⟨_, rfl⟩
  obtain ⟨hx0, hz, r0, r1⟩ := heaps2 hw0
  have HW0 := hide hw0
  clear hw0
  have Hb := hide (hb.ext hx0)
  have Hmx := hide (hmx.ext hx0)
  have b0 : w0.cell? ⟨w.heap.size, 0, none⟩ = some (.slice sb.a sb.len sb.cap) := cell_of_row _ _ 0 _ _ _ r0
  have HM := hide (@msg_msg ts name)
  have HG := hide (fun h => (@msg_good ts name h).1)
  obtain ⟨x, hx⟩ : ∃ x, x = decA ts name s := ⟨_, rfl⟩
  rw [← hx]
  unfold decA at hx
  obtain ⟨r, hr⟩ : ∃ r, r = readM ts 23 (msgT ts name) s := ⟨_, rfl⟩
  rw [← hr] at hx
  have HVO : Hid (msgE ts name = 0 → ∀ w2, Ext w0 w2 → Calls Tryz.prog 41 #[.agg #[.slice sb.a sb.len sb.cap], .string name, .string s, .int .i64 24] w2 fun e w' => ∃ ids l : SV, e = .returned (.tuple #[.agg #[.int .i64 r.2.kind, .int .i64 r.2.n, .string r.2.s, .slice ids.a ids.len ids.cap, .slice l.a l.len l.cap], .int .i64 r.1]) ∧
      ValueAtP (Btw w2 w') 29 w' [.int .i64 r.2.kind, .int .i64 r.2.n, .string r.2.s, .slice ids.a ids.len ids.cap, .slice l.a l.len l.cap] r.2 ∧ Ext w2 w') := fun h w2 hx2 => by
    have ht : msgT ts name = (findM ts name).getD TypeM.zero := if_pos h
    have h1 := valueOf_any sb ts (msg_good h).1 24 (Nat.le_refl _) name s w2 ((hb.ext hx0).ext hx2) (fun _ => by have := msg_msg h; rwa [ht] at this) hs
    have e : voM ts 24 name s = r := by rw [hr, ht, readM_eq]; exact vo_succ ts 23 name s
    rw [e] at h1
    exact h1
  generalize hme : msgE ts name = m at *
  generalize hmt : msgT ts name = T at *
  have E1 : Hid (m ≠ 0 → x = (m, ValueM.zero)) := fun h => by rw [hx, if_pos h]
  have E2 : Hid (m = 0 → r.1 ≠ 0 → x = (r.1, ValueM.zero)) := fun h h2 => by rw [hx, if_neg (by simp [h]), if_pos h2]
  have E3 : Hid (m = 0 → r.1 = 0 → largeB 29 r.2 = true → x = (7, ValueM.zero)) := fun h h2 h3 => by rw [hx, if_neg (by simp [h]), if_neg (by simp [h2]), if_pos h3]
  have E4 : Hid (m = 0 → r.1 = 0 → largeB 29 r.2 = false → x = (0, r.2)) := fun h h2 h3 => by rw [hx, if_neg (by simp [h]), if_neg (by simp [h2]), if_neg (by simp [h3])]
  have Hme := hide hme
  have Hmt := hide hmt
  have Hr := hide hr
  clear hb hmx hme hmt hr hx
  go_enter Tryz.func22, Tryz.ntmps22
  go_wp2_with fail
  rw [← unhide HW0]
  refine (messageOfR_any sb ts name w0 (unhide Hb) (unhide Hmx) hn).mono ?_
  rw [unhide Hme]
  rintro e w1 ⟨tv, rfl, hx1⟩
  have z0 := lt_of_heap (hx1.heap r0)
  have hE1 := hx0.trans hx1
  have R1 := hx1.heap r1
  obtain ⟨c0, c1, c2, c3, c4, _⟩ := row5 R1
  have z1 := lt_of_heap R1
  have d0 := hx1.cell b0
  by_cases hm : m = 0
  case neg =>
    have Hx := hide (unhide E1 hm)
    have hmb : (m != 0) = true := by simpa using hm
    clear E1 E2 E3 E4 HM HG HVO
    go_wp2
    refine bodyPost_ret (v := .tuple #[.agg #[.int .i64 0, .int .i64 0, .string ⟨#[]⟩, .slice none 0 0, .slice none 0 0], .int .i64 m]) ?_ rfl ?_
    · simp [results, Tryz.results22, go_sem, c0, c1, c2, c3, c4, z1]
    · rw [unhide Hx]
      exact ⟨⟨none, 0, 0⟩, ⟨none, 0, 0⟩, rfl, zeroAt _ _ _, (hE1.setCell5 (by omega) _ _ _ _ _).alloc _⟩
  have E2' := hide (unhide E2 hm)
  have E3' := hide (unhide E3 hm)
  have E4' := hide (unhide E4 hm)
  have hms := unhide HM hm
  have hg := unhide HG hm
  have hmb : (m != 0) = false := by simp [hm]
  have HV := hide (unhide HVO hm)
  have Hms := hide hms
  have Hg := hide hg
  clear E1 E2 E3 E4 HM HG HVO hm hms hg
  have hx2 : Ext w1 (w1.alloc (.cells #[.string tv.name, .bool tv.enum, .slice tv.fields.a tv.fields.len tv.fields.cap, .slice tv.gone.a tv.gone.len tv.gone.cap, .slice tv.items.a tv.items.len tv.items.cap] 50)) := (Ext.refl w1).alloc _
  go_wp2_with fail
  have e0 := (hx1.trans hx2).cell b0
  have y0 := World.block_lt_of_cell? _ _ e0
  refine (unhide HV _ (hx1.trans hx2)).mono ?_
  rintro e w3 ⟨ids, l, rfl, hv3, hx3⟩
  have h13 := hx2.trans hx3
  have hE3 := hE1.trans h13
  have R3 := h13.heap R1
  clear c0 c1 c2 c3 c4
  have z3 := lt_of_heap R3
  have Hv3 := hide hv3
  clear hv3
  have hsmall : Hid (r.1 = 0 → cntM 29 r.2 ≤ 1048576) := fun h => by
    have e : readM ts 23 T s = (0, r.2) := by rw [← unhide Hr, ← h]
    exact read_small (unhide Hg) (unhide Hms) e
  obtain ⟨R, v⟩ := r
  simp only at Hv3 hsmall E2' E3' E4' ⊢
  by_cases hR : R = 0
  case neg =>
    have Hx := hide (unhide E2' hR)
    have hRb : (R != 0) = true := by simpa using hR
    obtain ⟨c0, c1, c2, c3, c4, _⟩ := row5 R3
    clear E2' E3' E4'
    go_wp2
    refine bodyPost_ret (v := .tuple #[.agg #[.int .i64 0, .int .i64 0, .string ⟨#[]⟩, .slice none 0 0, .slice none 0 0], .int .i64 R]) ?_ rfl ?_
    · simp [results, Tryz.results22, go_sem, c0, c1, c2, c3, c4, z3]
    · rw [unhide Hx]
      exact ⟨⟨none, 0, 0⟩, ⟨none, 0, 0⟩, rfl, zeroAt _ _ _, (hE3.setCell5 (by omega) _ _ _ _ _).alloc _⟩
  have hRb : (R != 0) = false := by simp [hR]
  have Hx3 := hide (unhide E3' hR)
  have Hx4 := hide (unhide E4' hR)
  have hc := unhide hsmall hR
  have Hc := hide hc
  clear E2' E3' E4' hR hsmall hc
  obtain ⟨W4, hW4⟩ : ∃ W4, W4 = w3.alloc (.cells #[.int .i64 v.kind, .int .i64 v.n, .string v.s, .slice ids.a ids.len ids.cap, .slice l.a l.len l.cap] 28) := ⟨_, rfl⟩
  have hx4 : Ext w3 W4 := by rw [hW4]; exact (Ext.refl w3).alloc _
  have rV : W4.heap[w3.heap.size]? = some (.cells #[.int .i64 v.kind, .int .i64 v.n, .string v.s, .slice ids.a ids.len ids.cap, .slice l.a l.len l.cap] 28 (0, 0)) := by rw [hW4]; exact heap_alloc_new _ _
  go_wp2_with fail
  rw [← hW4]
  refine (isSmall_any 29 v ids l W4 ((unhide Hv3).at_.ext hx4) (unhide Hc)).mono ?_
  rintro e w5 ⟨rfl, hx5⟩
  clear hW4
  have h35 := hx4.trans hx5
  have hE5 := hE3.trans h35
  have R5 := h35.heap R3
  have z5 := lt_of_heap R5
  have rV5 := hx5.heap rV
  obtain ⟨c0, c1, c2, c3, c4, _⟩ := row5 R5
  obtain ⟨v0, v1, v2, v3, v4, _⟩ := row5 rV5
  have hlt : w.heap.size + 1 < w3.heap.size := lt_of_heap R3
  cases hB : largeB 29 v
  case true =>
    have Hx := hide (unhide Hx3 hB)
    clear Hx3 Hx4 hB v0 v1 v2 v3 v4
    go_wp2
    refine bodyPost_ret (v := .tuple #[.agg #[.int .i64 0, .int .i64 0, .string ⟨#[]⟩, .slice none 0 0, .slice none 0 0], .int .i64 7]) ?_ rfl ?_
    · simp [results, Tryz.results22, go_sem, c0, c1, c2, c3, c4, z5]
    · rw [unhide Hx]
      exact ⟨⟨none, 0, 0⟩, ⟨none, 0, 0⟩, rfl, zeroAt _ _ _, hE5.setCell5 (by omega) _ _ _ _ _⟩
  case false =>
    have Hx := hide (unhide Hx4 hB)
    clear Hx3 Hx4 hB
    go_wp2
    refine bodyPost_ret (v := .tuple #[.agg #[.int .i64 v.kind, .int .i64 v.n, .string v.s, .slice ids.a ids.len ids.cap, .slice l.a l.len l.cap], .int .i64 0]) ?_ rfl ?_
    · simp [results, Tryz.results22, go_sem, c0, c1, c2, c3, c4, z5]
    · rw [unhide Hx]
      refine ⟨ids, l, rfl, ?_, hE5.setCell5 (by omega) _ _ _ _ _⟩
      have hs1 : w.heap.size + 1 < w1.heap.size := z1
      have hsz : w3.heap.size ≤ w5.heap.size := h35.size
      refine (((unhide Hv3).ext h35).set5 (g := w.heap.size + 1) (fun b hb => by have := hb.1; simp at this; omega) _ _ _ _ _).sub fun b hb => ⟨by have := hb.1; simp at this; omega, by have := hb.2; simp; omega⟩


theorem decA_small {ts : BookM} {name s : ByteArray} (hf : Fits 29 (decA ts name s).2) : SmallV 29 (decA ts name s).2 := by
  by_cases h : (decA ts name s).1 = 0
  · exact (dec_typed h hf).2.1
  · rw [dec_bad h]
    exact ⟨by decide, by decide, by decide, fun x hx => absurd hx List.not_mem_nil⟩

set_option maxHeartbeats 6400000 in
set_option maxRecDepth 10000 in
theorem valueDecodes_calls (sb : SV) (ts : BookM) (hn : ts.Small) (name s : ByteArray) (w : World) (hb : BookAt w sb ts) (hw : WordsAt w) (hm : MaxAt w) (hs : s.size ≤ 9223372036854775807) :
    Calls Tryz.prog 5 #[.agg #[.slice sb.a sb.len sb.cap], .string name, .string s] w fun e w' => e = .returned (.bool true) ∧ Ext w w' := by
  obtain ⟨w0, hw0⟩ : ∃ w0, w0 = w.alloc (.cells #[.slice sb.a sb.len sb.cap] 24) := ⟨_, rfl⟩
  have hx0 : Ext w w0 := by rw [hw0]; exact (Ext.refl w).alloc _
  have r0 : w0.heap[w.heap.size]? = some (.cells #[.slice sb.a sb.len sb.cap] 24 (0, 0)) := by rw [hw0]; exact heap_alloc_new _ _
  have HW0 := hide hw0
  have hb0 := hb.ext hx0
  have HC := hide (fun w2 (hx : Ext w0 w2) => copyBook_any sb ts hn w2 (hb0.ext hx))
  have HE := hide (fun (sc : SV) (w2 : World) (hx : Ext w0 w2) (h1 : BookAt w2 sc ts) => decode_value sc ts name s w2 h1 ((hw.ext hx0).ext hx) hn.fits hs)
  have HR := hide (fun w2 (hx : Ext w0 w2) => decodeValueR_any sb ts name s w2 (hb0.ext hx) ((hm.ext hx0).ext hx) hn hs)
  have HVA := hide (fun w2 (hx : Ext w0 w2) => values_ok w2 ((hw.ext hx0).ext hx))
  have HSm := hide (@decA_small ts name s)
  have bB : w0.cell? ⟨w.heap.size, 0, none⟩ = some (.slice sb.a sb.len sb.cap) := cell_of_row _ _ 0 _ _ _ r0
  generalize decA ts name s = r at *
  obtain ⟨R, v⟩ := r
  clear hw0 hb hw hm hb0 hn hs
  go_enter Tryz.func5, Tryz.ntmps5
  go_wp2_with fail
  rw [← unhide HW0]
  refine (unhide HC _ (Ext.refl w0)).mono ?_
  rintro e w1 ⟨sc, rfl, hbc, y1⟩
  have HE1 := hide (unhide HE sc w1 y1 hbc)
  clear hbc
  go_wp2_with fail
  refine (unhide HE1).mono ?_
  rintro e w2 ⟨ids, l, rfl, hv, y2⟩
  have hS2 := y1.trans y2
  obtain ⟨W3, hW3⟩ : ∃ X, X = w2.alloc (.cells #[.int .i64 v.kind, .int .i64 v.n, .string v.s, .slice ids.a ids.len ids.cap, .slice l.a l.len l.cap] 28) := ⟨_, rfl⟩
  have x3 : Ext w2 W3 := by rw [hW3]; exact (Ext.refl w2).alloc _
  have rV : W3.heap[w2.heap.size]? = some (.cells #[.int .i64 v.kind, .int .i64 v.n, .string v.s, .slice ids.a ids.len ids.cap, .slice l.a l.len l.cap] 28 (0, 0)) := by rw [hW3]; exact heap_alloc_new _ _
  have hS3 := hS2.trans x3
  have HW3 := hide hW3
  have Hv := hide hv
  have b2 := hS2.cell bB
  have zb2 := World.block_lt_of_cell? _ _ b2
  clear hW3 hv
  go_wp2_with fail
  rw [← unhide HW3]
  refine (unhide HR _ hS3).mono ?_
  rintro e w4 ⟨ids', l', rfl, hv', y4⟩
  have hS4 := hS3.trans y4
  have rV4 := y4.heap rV
  obtain ⟨v0, v1, v2, v3, v4, _⟩ := row5 rV4
  have zV := lt_of_heap rV4
  obtain ⟨W5, hW5⟩ : ∃ X, X = w4.alloc (.cells #[.int .i64 v.kind, .int .i64 v.n, .string v.s, .slice ids'.a ids'.len ids'.cap, .slice l'.a l'.len l'.cap] 28) := ⟨_, rfl⟩
  have x5 : Ext w4 W5 := by rw [hW5]; exact (Ext.refl w4).alloc _
  have hS5 := hS4.trans x5
  have hvA := ((unhide Hv).at_).ext (x3.trans (y4.trans x5))
  have hvB := hv'.at_.ext x5
  have HSV := hide (sameValue_true 29 29 v ids l ids' l' W5 (unhide HSm hvA.fits) hvA hvB)
  have HW5 := hide hW5
  clear hW5 hv' hvA hvB
  go_wp2_with fail
  rw [← unhide HW5]
  refine (unhide HSV).mono ?_
  rintro e w6 ⟨rfl, y6⟩
  have hS6 := hS5.trans y6
  go_wp2_with fail
  refine (unhide HVA _ hS6).mono ?_
  rintro e w7 ⟨rfl, y7⟩
  go_wp2
  go_ret
  exact ⟨rfl, hx0.trans (hS6.trans y7)⟩
end Go.Proofs.YtmdpdgldmedebaaGreatDoor

