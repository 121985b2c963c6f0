import Derived.Test.YtmdpdgldmedebaaGreatDoorM40
namespace Go.Proofs.YtmdpdgldmedebaaGreatDoor
set_option linter.unusedSimpArgs false
set_option linter.unusedVariables false
set_option linter.unusedSimpArgs false
set_option linter.unusedVariables false
open Go.RowKit

theorem lof_bad {ts : BookM} {name : ByteArray} {id : Int} (h : goodM ts ≠ 0) : lofE ts name id = 1 ∧ lofV ts name id = ValueM.zero := by
  have h1 : lofE ts name id = 1 := by unfold lofE; rw [if_pos (by rw [(msgE_bad h).1]; decide), (msgE_bad h).1]
  exact ⟨h1, by unfold lofV; rw [h1]; rfl⟩
theorem lof_msg {ts : BookM} {name : ByteArray} {id : Int} (h : msgE ts name ≠ 0) : lofE ts name id = msgE ts name ∧ lofV ts name id = ValueM.zero := by
  have h1 : lofE ts name id = msgE ts name := by unfold lofE; rw [if_pos h]
  exact ⟨h1, by unfold lofV; rw [h1, if_neg h]⟩
theorem lof_none {ts : BookM} {name : ByteArray} {id : Int} (h : msgE ts name = 0) (hf : (fieldM (msgT ts name) id).isSome = false) : lofE ts name id = 3 ∧ lofV ts name id = ValueM.zero := by
  have h1 : lofE ts name id = 3 := by unfold lofE; rw [if_neg (by simp [h]), if_pos hf]
  exact ⟨h1, by unfold lofV; rw [h1]; rfl⟩
theorem lof_some {ts : BookM} {name : ByteArray} {id : Int} (h : msgE ts name = 0) (hf : (fieldM (msgT ts name) id).isSome = true) : lofE ts name id = 0 ∧ lofV ts name id = leastF ts (leastV ts 4) ((fieldM (msgT ts name) id).getD FieldM.zero) := by
  have h1 : lofE ts name id = 0 := by unfold lofE; rw [if_neg (by simp [h]), if_neg (by simp [hf])]
  exact ⟨h1, by unfold lofV; rw [if_pos h1]⟩
/-- By the book's type alone, as the document's own answer finds it. -/
theorem lof_none' {ts : BookM} {name : ByteArray} {id : Int} (hg : goodM ts = 0) (hf : (fieldM ((findM ts name).getD TypeM.zero) id).isSome = false) : lofE ts name id = 3 ∧ lofV ts name id = ValueM.zero := by
  by_cases hm : msgE ts name = 0
  · obtain ⟨_, h2, _⟩ := msg_good hm
    rw [h2] at hf
    exact lof_none hm hf
  · have h3 : msgE ts name = 3 := by
      unfold msgE at hm ⊢
      rw [if_neg (by simp [hg])] at hm ⊢
      split at hm
      · rename_i h; rw [if_pos h]
      · exact absurd rfl hm
    obtain ⟨a, b⟩ := lof_msg (id := id) hm
    exact ⟨a.trans h3, b⟩
theorem lof_some' {ts : BookM} {name : ByteArray} {id : Int} (hg : goodM ts = 0) (hf : (fieldM ((findM ts name).getD TypeM.zero) id).isSome = true) :
    lofE ts name id = 0 ∧ lofV ts name id = leastF ts (leastV ts 4) ((fieldM ((findM ts name).getD TypeM.zero) id).getD FieldM.zero) ∧ LrF ts (LeR ts 4) ((fieldM ((findM ts name).getD TypeM.zero) id).getD FieldM.zero) := by
  cases hfd : findM ts name with
  | none => rw [hfd] at hf; exact absurd hf (by simp [fieldM, TypeM.zero])
  | some t =>
    rw [hfd] at hf
    cases hff : fieldM t id with
    | none => rw [show ((some t).getD TypeM.zero) = t from rfl, hff] at hf; cases hf
    | some f =>
      have hm := field_mem hff
      have hen : t.enum = false := by
        cases he : t.enum
        · rfl
        · obtain ⟨_, hall⟩ := goodM_out hg
          rw [((hall t (findM_mem hfd)).enum he).1] at hm; cases hm
      obtain ⟨h1, h2⟩ := msgE_ok (name := name) hg (by rw [hfd]; rfl) (by rw [hfd]; exact hen)
      rw [hfd] at h2
      have h2' : msgT ts name = t := h2
      obtain ⟨h3, h4⟩ := lof_some (id := id) h1 (by rw [h2', hff]; rfl)
      refine ⟨h3, ?_, ?_⟩
      · rw [h4, h2']; rfl
      · rw [show ((some t).getD TypeM.zero) = t from rfl, hff]; exact lrF_good hg (findM_mem hfd) hm
theorem leF_good {ts : BookM} {name : ByteArray} {id : Int} {f : FieldM} (h : msgE ts name = 0) (hf : fieldM (msgT ts name) id = some f) : LeF ts (LeOk ts 4) f := by
  obtain ⟨hg, h2, h3⟩ := msg_good h
  obtain ⟨_, hall⟩ := goodM_out hg
  have hfg := ((hall _ (findM_mem h2)).msg h3).2.2.1 f (field_mem hf)
  refine ⟨fun h4 => ?_, fun h5 => ?_⟩
  · obtain ⟨u, hu, hue⟩ := good_type hfg (.inl h4)
    rw [hu]
    exact ((hall u (findM_mem hu)).enum (by rw [hue, h4]; rfl)).2.2.1
  · obtain ⟨u, hu, hue⟩ := good_type hfg (.inr h5)
    rw [hu]
    exact leOk_type hg hu (show u.enum = false by rw [hue, h5]; rfl)
theorem btw_ext {w w1 w2 w3 : World} {b : Nat} (h : Btw w1 w2 b) (h1 : w.heap.size ≤ w1.heap.size) (h2 : w2.heap.size ≤ w3.heap.size) : Btw w w3 b := ⟨Nat.le_trans h1 h.1, Nat.lt_of_lt_of_le h.2 h2⟩

set_option maxHeartbeats 3200000 in
theorem isTyped_any (sb : SV) (ts : BookM) (name : ByteArray) (K : Nat) (v : ValueM) (ids l : SV) (w : World) (hb : BookAt w sb ts) (hm : MaxAt w) (hn : ts.Small) (hsv : SmallV K v) (hc : cntM K v ≤ 1048576)
    (hv : ValueAt K w [.int .i64 v.kind, .int .i64 v.n, .string v.s, .slice ids.a ids.len ids.cap, .slice l.a l.len l.cap] v) :
    Calls Tryz.prog 16 #[.agg #[.slice sb.a sb.len sb.cap], .string name, .agg #[.int .i64 v.kind, .int .i64 v.n, .string v.s, .slice ids.a ids.len ids.cap, .slice l.a l.len l.cap]] w fun e w' => e = .returned (.int .i64 (typedM ts name K v)) ∧ Ext w w' := by
  obtain ⟨w0, hw0⟩ : ∃ w0, w0 = (w.alloc (.cells #[.slice sb.a sb.len sb.cap] 24)).alloc (.cells #[.int .i64 v.kind, .int .i64 v.n, .string v.s, .slice ids.a ids.len ids.cap, .slice l.a l.len l.cap] 28) := ⟨_, rfl⟩
  obtain ⟨hx0, hz, r0, r1⟩ := heaps2 hw0
  have HW0 := hide hw0
  have b0 : w0.cell? ⟨w.heap.size, 0, none⟩ = some (.slice sb.a sb.len sb.cap) := cell_of_row _ _ 0 _ _ _ r0
  obtain ⟨v0, v1, v2, v3, v4, _⟩ := row5 r1
  obtain ⟨R, hR⟩ : ∃ R, R = typedM ts name K v := ⟨_, rfl⟩
  rw [← hR]
  have E : Hid (R = if msgE ts name ≠ 0 then msgE ts name else if largeB K v = true then 7 else wrongM ts K (msgT ts name) v) := hR
  have Hb := hide (hb.ext hx0)
  have Hv := hide (hv.ext hx0)
  have HM := hide (messageOfR_any sb ts name w0 (hb.ext hx0) (hm.ext hx0) hn)
  have HG : Hid (msgE ts name = 0 → goodM ts = 0 ∧ (findM ts name).getD TypeM.zero = msgT ts name) := fun h => by
    obtain ⟨a, b, _⟩ := msg_good h
    exact ⟨a, by rw [b]; rfl⟩
  clear hw0 hb hm hv hR
  generalize msgE ts name = m at *
  generalize hL : largeB K v = L at *
  have HL := hide hL
  clear hL
  go_enter Tryz.func16, Tryz.ntmps16
  go_wp2_with fail
  rw [← unhide HW0]
  refine (unhide HM).mono ?_
  rintro e w1 ⟨tv, rfl, hx1⟩
  have c0 := hx1.cell b0
  obtain ⟨u0, u1, u2, u3, u4⟩ : w1.cell? ⟨w.heap.size + 1, 0, none⟩ = some (.int .i64 v.kind) ∧ w1.cell? ⟨w.heap.size + 1, 1, none⟩ = some (.int .i64 v.n) ∧ w1.cell? ⟨w.heap.size + 1, 2, none⟩ = some (.string v.s) ∧ w1.cell? ⟨w.heap.size + 1, 3, none⟩ = some (.slice ids.a ids.len ids.cap) ∧ w1.cell? ⟨w.heap.size + 1, 4, none⟩ = some (.slice l.a l.len l.cap) := ⟨hx1.cell v0, hx1.cell v1, hx1.cell v2, hx1.cell v3, hx1.cell v4⟩
  have z0 := World.block_lt_of_cell? w1 _ c0
  have z1 := World.block_lt_of_cell? w1 _ u0
  have hx2 : Ext w1 (w1.alloc (.cells #[.string tv.name, .bool tv.enum, .slice tv.fields.a tv.fields.len tv.fields.cap, .slice tv.gone.a tv.gone.len tv.gone.cap, .slice tv.items.a tv.items.len tv.items.cap] 50)) := (Ext.refl w1).alloc _
  have hE1 := hx0.trans (hx1.trans hx2)
  by_cases hm0 : m = 0
  case neg =>
    have E2 : Hid (R = m) := by unfold Hid; rw [unhide E, if_pos hm0]
    have hmb : (m != 0) = true := by simpa using hm0
    clear E hm0 HG
    go_wp2
    go_ret
    exact ⟨ret_int (unhide E2).symm, hE1⟩
  have hmb : (m != 0) = false := by simp [hm0]
  obtain ⟨hgood, hfd⟩ := unhide HG hm0
  have Hfd := hide hfd
  have Hgood := hide hgood
  have E3 : Hid (R = if L = true then 7 else wrongM ts K (msgT ts name) v) := by unfold Hid; rw [unhide E, if_neg (by simp [hm0])]
  have HS := hide (isSmall_any K v ids l (w1.alloc (.cells #[.string tv.name, .bool tv.enum, .slice tv.fields.a tv.fields.len tv.fields.cap, .slice tv.gone.a tv.gone.len tv.gone.cap, .slice tv.items.a tv.items.len tv.items.cap] 50)) ((unhide Hv).ext (hx1.trans hx2)) hc)
  rw [unhide HL] at HS
  clear E HG hm0 hgood hfd
  go_wp2_with fail
  refine (unhide HS).mono ?_
  rintro e w3 ⟨rfl, hx3⟩
  have h13 := hx2.trans hx3
  have h03 := hx1.trans h13
  have hE3 := hx0.trans h03
  cases L
  case true =>
    have E2 : Hid (R = 7) := by unfold Hid; rw [unhide E3, if_pos rfl]
    clear E3
    go_wp2
    go_ret
    exact ⟨ret_int (unhide E2).symm, hE3⟩
  have E2 : Hid (R = wrongM ts K (msgT ts name) v) := by unfold Hid; rw [unhide E3, if_neg (by decide)]
  have HI := hide (inside_any sb ts hn (unhide Hgood) K name v ids l w3 ((unhide Hb).ext h03) hsv ((unhide Hv).ext h03))
  rw [unhide Hfd, ← unhide E2] at HI
  have c0 := h13.cell c0
  obtain ⟨u0, u1, u2, u3, u4⟩ : w3.cell? ⟨w.heap.size + 1, 0, none⟩ = some (.int .i64 v.kind) ∧ w3.cell? ⟨w.heap.size + 1, 1, none⟩ = some (.int .i64 v.n) ∧ w3.cell? ⟨w.heap.size + 1, 2, none⟩ = some (.string v.s) ∧ w3.cell? ⟨w.heap.size + 1, 3, none⟩ = some (.slice ids.a ids.len ids.cap) ∧ w3.cell? ⟨w.heap.size + 1, 4, none⟩ = some (.slice l.a l.len l.cap) := ⟨h13.cell u0, h13.cell u1, h13.cell u2, h13.cell u3, h13.cell u4⟩
  clear E3 E2
  go_wp2_with fail
  refine (unhide HI).mono ?_
  rintro e w4 ⟨rfl, hx4⟩
  go_wp2
  go_ret
  exact ⟨rfl, hE3.trans hx4⟩

set_option maxHeartbeats 3200000 in
theorem leastValueR_any (sb : SV) (ts : BookM) (name : ByteArray) (w : World) (hb : BookAt w sb ts) (hm : MaxAt w) (hn : ts.Small) :
    Calls Tryz.prog 9 #[.agg #[.slice sb.a sb.len sb.cap], .string name] w fun e w' => ∃ ids l : SV, e = .returned (.tuple #[.agg #[.int .i64 (leastA ts name).kind, .int .i64 (leastA ts name).n, .string (leastA ts name).s, .slice ids.a ids.len ids.cap, .slice l.a l.len l.cap], .int .i64 (msgE ts name)]) ∧ ValueAtP (Btw w w') 5 w' [.int .i64 (leastA ts name).kind, .int .i64 (leastA ts name).n, .string (leastA ts name).s, .slice ids.a ids.len ids.cap, .slice l.a l.len l.cap] (leastA ts name) ∧ Ext w w' := by
  obtain ⟨w0, hw0⟩ : ∃ w0, w0 = (w.alloc (.cells #[.slice sb.a sb.len sb.cap] 24)).alloc (.cells #[.int .i64 0, .int .i64 0, .string ⟨#[]⟩, .slice none 0 0, .slice none 0 0] 28) := ⟨_, rfl⟩
  obtain ⟨hx0, hz, r0, r1⟩ := heaps2 hw0
  have HW0 := hide hw0
  have Hb := hide (hb.ext hx0)
  have b0 : w0.cell? ⟨w.heap.size, 0, none⟩ = some (.slice sb.a sb.len sb.cap) := cell_of_row _ _ 0 _ _ _ r0
  have E2 : Hid (¬ msgE ts name = 0 → leastA ts name = ValueM.zero) := fun h => if_neg h
  have HM := hide (messageOfR_any sb ts name w0 (hb.ext hx0) (hm.ext hx0) hn)
  have HL : Hid (msgE ts name = 0 → ∀ w2, Ext w0 w2 → Calls Tryz.prog 26 #[.agg #[.slice sb.a sb.len sb.cap], .agg #[.int .i64 0, .string ⟨#[]⟩, .string name, .int .i64 5, .int .i64 0]] w2 fun e w' => ∃ ids l : SV, e = .returned (.agg #[.int .i64 (leastA ts name).kind, .int .i64 (leastA ts name).n, .string (leastA ts name).s, .slice ids.a ids.len ids.cap, .slice l.a l.len l.cap]) ∧ ValueAtP (Btw w2 w') 5 w' [.int .i64 (leastA ts name).kind, .int .i64 (leastA ts name).n, .string (leastA ts name).s, .slice ids.a ids.len ids.cap, .slice l.a l.len l.cap] (leastA ts name) ∧ Ext w2 w') := fun h w2 hx => by
    have := leastBy_any sb ts hn 4 ⟨0, ⟨#[]⟩, name, 5, 0⟩ w2 ((unhide Hb).ext hx) (lrF_msg h)
    rwa [leastF_msg h] at this
  generalize leastA ts name = x at *
  generalize msgE ts name = m at *
  clear hw0 hb hm
  go_enter Tryz.func9, Tryz.ntmps9
  go_wp2_with fail
  rw [← unhide HW0]
  refine (unhide HM).mono ?_
  rintro e w1 ⟨tv, rfl, hx1⟩
  have z0 := lt_of_heap (hx1.heap r0)
  have hE1 := hx0.trans hx1
  have R1 := hx1.heap r1
  obtain ⟨c0, c1, c2, c3, c4, _⟩ := row5 R1
  have z1 := lt_of_heap R1
  have d0 := hx1.cell b0
  by_cases hm : m = 0
  case neg =>
    have Hx := hide (unhide E2 hm)
    have hmb : (m != 0) = true := by simpa using hm
    clear E2 HL hm
    go_wp2
    refine bodyPost_ret (v := .tuple #[.agg #[.int .i64 0, .int .i64 0, .string ⟨#[]⟩, .slice none 0 0, .slice none 0 0], .int .i64 m]) ?_ rfl ?_
    · simp [results, Tryz.results9, go_sem, c0, c1, c2, c3, c4, z1]
    · rw [unhide Hx]
      exact ⟨⟨none, 0, 0⟩, ⟨none, 0, 0⟩, rfl, zeroAt _ _ _, (hE1.setCell5 (by omega) _ _ _ _ _).alloc _⟩
  have hL := hide (unhide HL hm)
  have hmb : (m != 0) = false := by simp [hm]
  have Hm := hide hm
  clear E2 HL hm
  have hx2 : Ext w1 (w1.alloc (.cells #[.string tv.name, .bool tv.enum, .slice tv.fields.a tv.fields.len tv.fields.cap, .slice tv.gone.a tv.gone.len tv.gone.cap, .slice tv.items.a tv.items.len tv.items.cap] 50)) := (Ext.refl w1).alloc _
  go_wp2_with fail
  refine (unhide hL _ (hx1.trans hx2)).mono ?_
  rintro e w3 ⟨ids, l, rfl, hv3, hx3⟩
  have h13 := hx2.trans hx3
  have R3 := h13.heap R1
  clear c0 c1 c2 c3 c4
  obtain ⟨c0, c1, c2, c3, c4, _⟩ := row5 R3
  have z3 := lt_of_heap R3
  have Hv3 := hide hv3
  clear hv3
  go_wp2
  refine bodyPost_ret (v := .tuple #[.agg #[.int .i64 x.kind, .int .i64 x.n, .string x.s, .slice ids.a ids.len ids.cap, .slice l.a l.len l.cap], .int .i64 0]) ?_ rfl ⟨ids, l, by rw [unhide Hm], ?_, (hE1.trans h13).setCell5 (by omega) _ _ _ _ _⟩
  · simp [results, Tryz.results9, go_sem, c0, c1, c2, c3, c4, z3]
  · refine ((unhide Hv3).set5 (g := w.heap.size + 1) (fun b hb => ?_) _ _ _ _ _).sub fun b hb => ⟨?_, by simpa using hb.2⟩
    · have h1 := hb.1
      simp at h1
      omega
    · have h1 := hb.1
      simp at h1
      have := hE1.size
      omega
end Go.Proofs.YtmdpdgldmedebaaGreatDoor

namespace Go.Proofs.YtmdpdgldmedebaaGreatDoor
set_option linter.unusedSimpArgs false
set_option linter.unusedVariables false
open Go.RowKit

set_option maxHeartbeats 6400000 in
theorem leastFieldR_any (sb : SV) (ts : BookM) (name : ByteArray) (id : Int) (w : World) (hb : BookAt w sb ts) (hm : MaxAt w) (hn : ts.Small) :
    Calls Tryz.prog 11 #[.agg #[.slice sb.a sb.len sb.cap], .string name, .int .i64 id] w fun e w' => ∃ ids l : SV, e = .returned (.tuple #[.agg #[.int .i64 (lofV ts name id).kind, .int .i64 (lofV ts name id).n, .string (lofV ts name id).s, .slice ids.a ids.len ids.cap, .slice l.a l.len l.cap], .int .i64 (lofE ts name id)]) ∧ ValueAtP (Btw w w') 5 w' [.int .i64 (lofV ts name id).kind, .int .i64 (lofV ts name id).n, .string (lofV ts name id).s, .slice ids.a ids.len ids.cap, .slice l.a l.len l.cap] (lofV ts name id) ∧ Ext w w' := by
  obtain ⟨w0, hw0⟩ : ∃ w0, w0 = (w.alloc (.cells #[.slice sb.a sb.len sb.cap] 24)).alloc (.cells #[.int .i64 0, .int .i64 0, .string ⟨#[]⟩, .slice none 0 0, .slice none 0 0] 28) := ⟨_, rfl⟩
  obtain ⟨hx0, hz, r0, r1⟩ := heaps2 hw0
  have HW0 := hide hw0
  have Hb := hide (hb.ext hx0)
  have b0 : w0.cell? ⟨w.heap.size, 0, none⟩ = some (.slice sb.a sb.len sb.cap) := cell_of_row _ _ 0 _ _ _ r0
  obtain ⟨T, hT⟩ : ∃ T, T = (findM ts name).getD TypeM.zero := ⟨_, rfl⟩
  have hTs : T.Small := by rw [hT]; exact find_small hn name
  have N1 : Hid (goodM ts ≠ 0 → lofE ts name id = 1 ∧ lofV ts name id = ValueM.zero) := lof_bad
  have N2 : Hid (goodM ts = 0 → (fieldM T id).isSome = false → lofE ts name id = 3 ∧ lofV ts name id = ValueM.zero) := fun h1 h2 => lof_none' h1 (by rw [← hT]; exact h2)
  have N3 : Hid (goodM ts = 0 → (fieldM T id).isSome = true → lofE ts name id = 0 ∧ ∀ w2, Ext w0 w2 → Calls Tryz.prog 26 #[.agg #[.slice sb.a sb.len sb.cap], .agg ((fieldM T id).getD FieldM.zero).cells.toArray] w2 fun e w' => ∃ ids l : SV, e = .returned (.agg #[.int .i64 (lofV ts name id).kind, .int .i64 (lofV ts name id).n, .string (lofV ts name id).s, .slice ids.a ids.len ids.cap, .slice l.a l.len l.cap]) ∧ ValueAtP (Btw w2 w') 5 w' [.int .i64 (lofV ts name id).kind, .int .i64 (lofV ts name id).n, .string (lofV ts name id).s, .slice ids.a ids.len ids.cap, .slice l.a l.len l.cap] (lofV ts name id) ∧ Ext w2 w') := fun h1 h2 => by
    obtain ⟨a, b, c⟩ := lof_some' h1 (by rw [← hT]; exact h2)
    rw [← hT] at b c
    refine ⟨a, fun w2 hx => ?_⟩
    rw [b]
    exact leastBy_any sb ts hn 4 _ w2 ((unhide Hb).ext hx) c
  have HG := hide (goodBook_any sb ts hn w0 (hb.ext hx0) (hm.ext hx0))
  have HT := hide (fun w2 (hx : Ext w0 w2) => refTypeOf_any sb ts name w2 ((unhide Hb).ext hx) hn.1)
  rw [← hT] at HT
  generalize lofV ts name id = x at *
  generalize lofE ts name id = m at *
  generalize goodM ts = gm at *
  clear hw0 hb hm hT
  go_enter Tryz.func11, Tryz.ntmps11
  go_wp2_with fail
  rw [← unhide HW0]
  refine (unhide HG).mono ?_
  rintro e w1 ⟨rfl, hx1⟩
  have z0 := lt_of_heap (hx1.heap r0)
  have hE1 := hx0.trans hx1
  have R1 := hx1.heap r1
  obtain ⟨c0, c1, c2, c3, c4, _⟩ := row5 R1
  have z1 := lt_of_heap R1
  have d0 := hx1.cell b0
  by_cases hg : gm = 0
  case neg =>
    obtain ⟨he, hx⟩ := unhide N1 hg
    have He := hide he
    have Hx := hide hx
    have hgb : (gm != 0) = true := by simpa using hg
    clear N1 N2 N3 hg he hx
    go_wp2
    refine bodyPost_ret (v := .tuple #[.agg #[.int .i64 0, .int .i64 0, .string ⟨#[]⟩, .slice none 0 0, .slice none 0 0], .int .i64 1]) ?_ rfl ?_
    · simp [results, Tryz.results11, go_sem, c0, c1, c2, c3, c4, z1]
    · rw [unhide Hx, unhide He]
      exact ⟨⟨none, 0, 0⟩, ⟨none, 0, 0⟩, rfl, zeroAt _ _ _, hE1.setCell5 (by omega) _ _ _ _ _⟩
  have hgb : (gm != 0) = false := by simp [hg]
  have M2 := hide (unhide N2 hg)
  have M3 := hide (unhide N3 hg)
  clear N1 N2 N3 hg
  go_wp2_with fail
  refine (unhide HT w1 hx1).mono ?_
  rintro e w2 ⟨tv, rfl, htv, hx2⟩
  obtain ⟨W2, hW2⟩ : ∃ W2, W2 = w2.alloc (.cells #[.string tv.name, .bool tv.enum, .slice tv.fields.a tv.fields.len tv.fields.cap, .slice tv.gone.a tv.gone.len tv.gone.cap, .slice tv.items.a tv.items.len tv.items.cap] 50) := ⟨_, rfl⟩
  have hxW : Ext w2 W2 := by rw [hW2]; exact (Ext.refl w2).alloc _
  have rT : W2.heap[w2.heap.size]? = some (.cells #[.string tv.name, .bool tv.enum, .slice tv.fields.a tv.fields.len tv.fields.cap, .slice tv.gone.a tv.gone.len tv.gone.cap, .slice tv.items.a tv.items.len tv.items.cap] 50 (0, 0)) := by rw [hW2]; exact heap_alloc_new _ _
  have h12 := hx2.trans hxW
  have HF := hide (refFieldIn_any tv T id W2 (htv.ext h12) hTs.fields)
  have HW2 := hide hW2
  have e0 := hx2.cell d0
  have y0 := World.block_lt_of_cell? w2 _ e0
  have h02 := hx1.trans h12
  have R2 := h12.heap R1
  have z2 := lt_of_heap R2
  clear c0 c1 c2 c3 c4 hW2 htv
  obtain ⟨t0, t1, t2, t3, t4, _⟩ := row5 rT
  go_wp2_with fail
  try rw [← unhide HW2]
  refine (unhide HF).mono ?_
  rintro e w3 ⟨rfl, hx3⟩
  have h13 := h12.trans hx3
  have h03 := hx1.trans h13
  have hE3 := hx0.trans h03
  have R3 := h13.heap R1
  obtain ⟨c0, c1, c2, c3, c4, _⟩ := row5 R3
  have z3 := lt_of_heap R3
  have e3 := h13.cell d0
  have y3 := World.block_lt_of_cell? w3 _ e3
  obtain ⟨fo, hfo⟩ : ∃ fo, fo = fieldM T id := ⟨_, rfl⟩
  rw [← hfo] at M2 M3 ⊢
  clear hfo HF HT
  cases hs : fo.isSome
  · obtain ⟨he, hx⟩ := unhide M2 hs
    have He := hide he
    have Hx := hide hx
    clear M2 M3 hs he hx
    generalize fo.getD FieldM.zero = f at *
    rw [fieldCells]
    go_wp2
    refine bodyPost_ret (v := .tuple #[.agg #[.int .i64 0, .int .i64 0, .string ⟨#[]⟩, .slice none 0 0, .slice none 0 0], .int .i64 3]) ?_ rfl ?_
    · simp [results, Tryz.results11, go_sem, c0, c1, c2, c3, c4, z3]
    · rw [unhide Hx, unhide He]
      exact ⟨⟨none, 0, 0⟩, ⟨none, 0, 0⟩, rfl, zeroAt _ _ _, (hE3.setCell5 (by omega) _ _ _ _ _).alloc _⟩
  · obtain ⟨he, hL⟩ := unhide M3 hs
    have He := hide he
    have HL := hide hL
    clear M2 M3 hs he hL
    generalize fo.getD FieldM.zero = f at *
    rw [fieldCells] at HL ⊢
    have hx4 : Ext w3 (w3.alloc (.cells #[.int .i64 f.id, .string f.name, .string f.type, .int .i64 f.kind, .int .i64 f.rule] 56)) := (Ext.refl w3).alloc _
    go_wp2_with fail
    refine (unhide HL _ (h03.trans hx4)).mono ?_
    rintro e w5 ⟨ids, l, rfl, hv5, hx5⟩
    have h35 := hx4.trans hx5
    have R5 := h35.heap R3
    clear c0 c1 c2 c3 c4
    obtain ⟨c0, c1, c2, c3, c4, _⟩ := row5 R5
    have z5 := lt_of_heap R5
    have Hv5 := hide hv5
    clear hv5
    go_wp2
    refine bodyPost_ret (v := .tuple #[.agg #[.int .i64 x.kind, .int .i64 x.n, .string x.s, .slice ids.a ids.len ids.cap, .slice l.a l.len l.cap], .int .i64 0]) ?_ rfl ⟨ids, l, by rw [unhide He], ?_, (hE3.trans h35).setCell5 (by omega) _ _ _ _ _⟩
    · simp [results, Tryz.results11, go_sem, c0, c1, c2, c3, c4, z5]
    · refine ((unhide Hv5).set5 (g := w.heap.size + 1) (fun b hb => ?_) _ _ _ _ _).sub fun b hb => ⟨?_, by simpa using hb.2⟩
      · have h1 := hb.1
        simp at h1
        omega
      · have h1 := hb.1
        simp at h1
        have := hE3.size
        omega

set_option maxHeartbeats 6400000 in
theorem leastOf_any (sb : SV) (ts : BookM) (name : ByteArray) (id : Int) (w : World) (hb : BookAt w sb ts) (hw : WordsAt w) (hn : ts.Small) :
    Calls Tryz.prog 10 #[.agg #[.slice sb.a sb.len sb.cap], .string name, .int .i64 id] w fun e w' => ∃ ids l : SV, e = .returned (.tuple #[.agg #[.int .i64 (lofV ts name id).kind, .int .i64 (lofV ts name id).n, .string (lofV ts name id).s, .slice ids.a ids.len ids.cap, .slice l.a l.len l.cap], .int .i64 (lofE ts name id)]) ∧ ValueAtP (Btw w w') 5 w' [.int .i64 (lofV ts name id).kind, .int .i64 (lofV ts name id).n, .string (lofV ts name id).s, .slice ids.a ids.len ids.cap, .slice l.a l.len l.cap] (lofV ts name id) ∧ Ext w w' := by
  obtain ⟨w0, hw0⟩ : ∃ w0, w0 = (w.alloc (.cells #[.slice sb.a sb.len sb.cap] 24)).alloc (.cells #[.int .i64 0, .int .i64 0, .string ⟨#[]⟩, .slice none 0 0, .slice none 0 0] 28) := ⟨_, rfl⟩
  obtain ⟨hx0, hz, r0, r1⟩ := heaps2 hw0
  have HW0 := hide hw0
  have Hb := hide (hb.ext hx0)
  have b0 : w0.cell? ⟨w.heap.size, 0, none⟩ = some (.slice sb.a sb.len sb.cap) := cell_of_row _ _ 0 _ _ _ r0
  have hTs : Hid (msgE ts name = 0 → (msgT ts name).Small) := fun h => (msg_small h).2
  have N1 : Hid (msgE ts name ≠ 0 → lofE ts name id = msgE ts name ∧ lofV ts name id = ValueM.zero) := lof_msg
  have N2 : Hid (msgE ts name = 0 → (fieldM (msgT ts name) id).isSome = false → lofE ts name id = 3 ∧ lofV ts name id = ValueM.zero) := fun h1 h2 => lof_none h1 h2
  have N3 : Hid (msgE ts name = 0 → (fieldM (msgT ts name) id).isSome = true → lofE ts name id = 0 ∧ ∀ w2, Ext w0 w2 → Calls Tryz.prog 28 #[.agg #[.slice sb.a sb.len sb.cap], .agg ((fieldM (msgT ts name) id).getD FieldM.zero).cells.toArray] w2 fun e w' => ∃ ids l : SV, e = .returned (.agg #[.int .i64 (lofV ts name id).kind, .int .i64 (lofV ts name id).n, .string (lofV ts name id).s, .slice ids.a ids.len ids.cap, .slice l.a l.len l.cap]) ∧ ValueAtP (Btw w2 w') 5 w' [.int .i64 (lofV ts name id).kind, .int .i64 (lofV ts name id).n, .string (lofV ts name id).s, .slice ids.a ids.len ids.cap, .slice l.a l.len l.cap] (lofV ts name id) ∧ Ext w2 w') := fun h1 h2 => by
    obtain ⟨a, b⟩ := lof_some h1 h2
    refine ⟨a, fun w2 hx => ?_⟩
    rw [b]
    cases hf : fieldM (msgT ts name) id with
    | none => rw [hf] at h2; cases h2
    | some f => exact leastOne_of sb ts hn 4 (leastMessage_any sb ts hn 4) f w2 ((unhide Hb).ext hx) (leF_good h1 hf)
  have HM := hide (messageOf_any sb ts name w0 (hb.ext hx0) (hw.ext hx0) hn.fits)
  generalize lofV ts name id = x at *
  generalize lofE ts name id = m at *
  generalize msgE ts name = me at *
  generalize msgT ts name = T at *
  clear hw0 hb hw
  go_enter Tryz.func10, Tryz.ntmps10
  go_wp2_with fail
  rw [← unhide HW0]
  refine (unhide HM).mono ?_
  rintro e w1 ⟨tv, rfl, htv, hx1, _⟩
  have z0 := lt_of_heap (hx1.heap r0)
  have hE1 := hx0.trans hx1
  have R1 := hx1.heap r1
  obtain ⟨c0, c1, c2, c3, c4, _⟩ := row5 R1
  have z1 := lt_of_heap R1
  have d0 := hx1.cell b0
  have Htv := hide htv
  clear htv
  by_cases hg : me = 0
  case neg =>
    obtain ⟨he, hx⟩ := unhide N1 hg
    have He := hide he
    have Hx := hide hx
    have hgb : (me != 0) = true := by simpa using hg
    clear N1 N2 N3 hg he hx hTs
    go_wp2
    refine bodyPost_ret (v := .tuple #[.agg #[.int .i64 0, .int .i64 0, .string ⟨#[]⟩, .slice none 0 0, .slice none 0 0], .int .i64 me]) ?_ rfl ?_
    · simp [results, Tryz.results10, go_sem, c0, c1, c2, c3, c4, z1]
    · rw [unhide Hx, unhide He]
      exact ⟨⟨none, 0, 0⟩, ⟨none, 0, 0⟩, rfl, zeroAt _ _ _, (hE1.setCell5 (by omega) _ _ _ _ _).alloc _⟩
  have hgb : (me != 0) = false := by simp [hg]
  have M2 := hide (unhide N2 hg)
  have M3 := hide (unhide N3 hg)
  have hTl := (unhide hTs hg).fields
  clear N1 N2 N3 hg hTs
  obtain ⟨W2, hW2⟩ : ∃ W2, W2 = w1.alloc (.cells #[.string tv.name, .bool tv.enum, .slice tv.fields.a tv.fields.len tv.fields.cap, .slice tv.gone.a tv.gone.len tv.gone.cap, .slice tv.items.a tv.items.len tv.items.cap] 50) := ⟨_, rfl⟩
  have hxW : Ext w1 W2 := by rw [hW2]; exact (Ext.refl w1).alloc _
  have rT : W2.heap[w1.heap.size]? = some (.cells #[.string tv.name, .bool tv.enum, .slice tv.fields.a tv.fields.len tv.fields.cap, .slice tv.gone.a tv.gone.len tv.gone.cap, .slice tv.items.a tv.items.len tv.items.cap] 50 (0, 0)) := by rw [hW2]; exact heap_alloc_new _ _
  have HF := hide (fieldOf_any tv T id W2 ((unhide Htv).ext hxW) (Nat.le_trans hTl (by decide)))
  have HW2 := hide hW2
  have R2 := hxW.heap R1
  have z2 := lt_of_heap R2
  clear hW2
  obtain ⟨t0, t1, t2, t3, t4, _⟩ := row5 rT
  go_wp2_with fail
  try rw [← unhide HW2]
  refine (unhide HF).mono ?_
  rintro e w3 ⟨rfl, hx3⟩
  have h13 := hxW.trans hx3
  have h03 := hx1.trans h13
  have hE3 := hx0.trans h03
  have R3 := h13.heap R1
  clear c0 c1 c2 c3 c4
  obtain ⟨c0, c1, c2, c3, c4, _⟩ := row5 R3
  have z3 := lt_of_heap R3
  have e3 := h13.cell d0
  have y3 := World.block_lt_of_cell? w3 _ e3
  obtain ⟨fo, hfo⟩ : ∃ fo, fo = fieldM T id := ⟨_, rfl⟩
  rw [← hfo] at M2 M3 ⊢
  clear hfo HF
  cases hs : fo.isSome
  · obtain ⟨he, hx⟩ := unhide M2 hs
    have He := hide he
    have Hx := hide hx
    clear M2 M3 hs he hx
    generalize fo.getD FieldM.zero = f at *
    rw [fieldCells]
    go_wp2
    refine bodyPost_ret (v := .tuple #[.agg #[.int .i64 0, .int .i64 0, .string ⟨#[]⟩, .slice none 0 0, .slice none 0 0], .int .i64 3]) ?_ rfl ?_
    · simp [results, Tryz.results10, go_sem, c0, c1, c2, c3, c4, z3]
    · rw [unhide Hx, unhide He]
      exact ⟨⟨none, 0, 0⟩, ⟨none, 0, 0⟩, rfl, zeroAt _ _ _, (hE3.setCell5 (by omega) _ _ _ _ _).alloc _⟩
  · obtain ⟨he, hL⟩ := unhide M3 hs
    have He := hide he
    have HL := hide hL
    clear M2 M3 hs he hL
    generalize fo.getD FieldM.zero = f at *
    rw [fieldCells] at HL ⊢
    have hx4 : Ext w3 (w3.alloc (.cells #[.int .i64 f.id, .string f.name, .string f.type, .int .i64 f.kind, .int .i64 f.rule] 56)) := (Ext.refl w3).alloc _
    go_wp2_with fail
    refine (unhide HL _ (h03.trans hx4)).mono ?_
    rintro e w5 ⟨ids, l, rfl, hv5, hx5⟩
    have h35 := hx4.trans hx5
    have R5 := h35.heap R3
    clear c0 c1 c2 c3 c4
    obtain ⟨c0, c1, c2, c3, c4, _⟩ := row5 R5
    have z5 := lt_of_heap R5
    have Hv5 := hide hv5
    clear hv5
    go_wp2
    refine bodyPost_ret (v := .tuple #[.agg #[.int .i64 x.kind, .int .i64 x.n, .string x.s, .slice ids.a ids.len ids.cap, .slice l.a l.len l.cap], .int .i64 0]) ?_ rfl ⟨ids, l, by rw [unhide He], ?_, (hE3.trans h35).setCell5 (by omega) _ _ _ _ _⟩
    · simp [results, Tryz.results10, go_sem, c0, c1, c2, c3, c4, z5]
    · refine ((unhide Hv5).set5 (g := w.heap.size + 1) (fun b hb => ?_) _ _ _ _ _).sub fun b hb => ⟨?_, by simpa using hb.2⟩
      · have h1 := hb.1
        simp at h1
        omega
      · have h1 := hb.1
        simp at h1
        have := hE3.size
        omega
end Go.Proofs.YtmdpdgldmedebaaGreatDoor

