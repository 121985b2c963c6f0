import Derived.Test.YtmdpdgldmedebaaGreatDoorM24
namespace Go.Proofs.YtmdpdgldmedebaaGreatDoor
set_option linter.unusedSimpArgs false
set_option linter.unusedVariables false
set_option linter.unusedSimpArgs false
set_option linter.unusedVariables false
open Go.RowKit

theorem read_any (sb : SV) (ts : BookM) (hg : goodM ts = 0) : ∀ k, k < 24 → RD sb ts k
  | 0, h => read_of sb ts hg 0 h (readWithin_zero sb ts)
  | k + 1, h => read_of sb ts hg (k + 1) h (readWithin_succ sb ts (good_small hg) k (by omega) (read_any sb ts hg k (by omega)))
theorem read_top (sb : SV) (ts : BookM) (hg : goodM ts = 0) (tv : TV) (t : TypeM) (s : ByteArray) (w : World) (hb : BookAt w sb ts) (ht : TypeAt w tv t) (hm : Msg ts t) (hs : s.size ≤ 9223372036854775807) :
    Calls Tryz.prog 40 #[.agg #[.slice sb.a sb.len sb.cap], .agg #[.string tv.name, .bool tv.enum, .slice tv.fields.a tv.fields.len tv.fields.cap, .slice tv.gone.a tv.gone.len tv.gone.cap, .slice tv.items.a tv.items.len tv.items.cap], .string s, .int .i64 1] w fun e w' => ∃ ids l : SV, e = .returned (.tuple #[.agg #[.int .i64 (readM ts 23 t s).2.kind, .int .i64 (readM ts 23 t s).2.n, .string (readM ts 23 t s).2.s, .slice ids.a ids.len ids.cap, .slice l.a l.len l.cap], .int .i64 (readM ts 23 t s).1]) ∧
    ValueAtP (Btw w w') 29 w' [.int .i64 (readM ts 23 t s).2.kind, .int .i64 (readM ts 23 t s).2.n, .string (readM ts 23 t s).2.s, .slice ids.a ids.len ids.cap, .slice l.a l.len l.cap] (readM ts 23 t s).2 ∧ Ext w w' := by
  have h := read_any sb ts hg 23 (by omega) tv t s w hb ht hm hs
  rw [show (24 : Int) - ((23 : Nat) : Int) = 1 from by decide] at h
  exact h

/-- What Decode answers. -/
def decA (ts : BookM) (name s : ByteArray) : Int × ValueM :=
  if msgE ts name ≠ 0 then (msgE ts name, ValueM.zero)
  else if (readM ts 23 (msgT ts name) s).1 ≠ 0 then ((readM ts 23 (msgT ts name) s).1, ValueM.zero)
  else if largeB 29 (readM ts 23 (msgT ts name) s).2 = true then (7, ValueM.zero) else (0, (readM ts 23 (msgT ts name) s).2)
theorem msg_msg {ts : BookM} {name : ByteArray} (h : msgE ts name = 0) : Msg ts (msgT ts name) := ⟨name, (msg_good h).2.1, (msg_good h).2.2⟩

set_option maxHeartbeats 3200000 in
set_option maxRecDepth 10000 in
theorem decode_value (sb : SV) (ts : BookM) (name s : ByteArray) (w : World) (hb : BookAt w sb ts) (hw : WordsAt w) (hn : ts.Fits) (hs : s.size ≤ 9223372036854775807) :
    Calls Tryz.prog 21 #[.agg #[.slice sb.a sb.len sb.cap], .string name, .string s] w fun e w' => ∃ ids l : SV, e = .returned (.tuple #[.agg #[.int .i64 (decA ts name s).2.kind, .int .i64 (decA ts name s).2.n, .string (decA ts name s).2.s, .slice ids.a ids.len ids.cap, .slice l.a l.len l.cap], .int .i64 (decA ts name s).1]) ∧ ValueAtP (Btw w w') 29 w' [.int .i64 (decA ts name s).2.kind, .int .i64 (decA ts name s).2.n, .string (decA ts name s).2.s, .slice ids.a ids.len ids.cap, .slice l.a l.len l.cap] (decA ts name s).2 ∧ Ext w w' := by
  obtain ⟨w0, hw0⟩ : ∃ w0, w0 = (w.alloc (.cells #[.slice sb.a sb.len sb.cap] 24)).alloc (.cells #[.int .i64 0, .int .i64 0, .string ⟨#[]⟩, .slice none 0 0, .slice none 0 0] 28) := ⟨_, rfl⟩
  obtain ⟨hx0, hz, r0, r1⟩ := heaps2 hw0
  have HW0 := hide hw0
  clear hw0
  have Hb := hide (hb.ext hx0)
  have Hw := hide (hw.ext hx0)
  have b0 : w0.cell? ⟨w.heap.size, 0, none⟩ = some (.slice sb.a sb.len sb.cap) := cell_of_row _ _ 0 _ _ _ r0
  have HM := hide (@msg_msg ts name)
  have HG := hide (fun h => (@msg_good ts name h).1)
  obtain ⟨x, hx⟩ : ∃ x, x = decA ts name s := ⟨_, rfl⟩
  rw [← hx]
  unfold decA at hx
  obtain ⟨r, hr⟩ : ∃ r, r = readM ts 23 (msgT ts name) s := ⟨_, rfl⟩
  rw [← hr] at hx
  generalize hme : msgE ts name = m at *
  generalize hmt : msgT ts name = T at *
  have E1 : Hid (m ≠ 0 → x = (m, ValueM.zero)) := fun h => by rw [hx, if_pos h]
  have E2 : Hid (m = 0 → r.1 ≠ 0 → x = (r.1, ValueM.zero)) := fun h h2 => by rw [hx, if_neg (by simp [h]), if_pos h2]
  have E3 : Hid (m = 0 → r.1 = 0 → largeB 29 r.2 = true → x = (7, ValueM.zero)) := fun h h2 h3 => by rw [hx, if_neg (by simp [h]), if_neg (by simp [h2]), if_pos h3]
  have E4 : Hid (m = 0 → r.1 = 0 → largeB 29 r.2 = false → x = (0, r.2)) := fun h h2 h3 => by rw [hx, if_neg (by simp [h]), if_neg (by simp [h2]), if_neg (by simp [h3])]
  have Hme := hide hme
  have Hmt := hide hmt
  have Hr := hide hr
  clear hb hw hme hmt hr hx
  go_enter Tryz.func21, Tryz.ntmps21
  go_wp2_with fail
  rw [← unhide HW0]
  refine (messageOf_any sb ts name w0 (unhide Hb) (unhide Hw) hn).mono ?_
  rw [unhide Hme, unhide Hmt]
  rintro e w1 ⟨tv, rfl, htv, hx1, _⟩
  have z0 := lt_of_heap (hx1.heap r0)
  have hE1 := hx0.trans hx1
  have R1 := hx1.heap r1
  obtain ⟨c0, c1, c2, c3, c4, _⟩ := row5 R1
  have z1 := lt_of_heap R1
  have d0 := hx1.cell b0
  have Htv := hide htv
  clear htv
  by_cases hm : m = 0
  case neg =>
    have Hx := hide (unhide E1 hm)
    have hmb : (m != 0) = true := by simpa using hm
    clear E1 E2 E3 E4 HM HG
    go_wp2
    refine bodyPost_ret (v := .tuple #[.agg #[.int .i64 0, .int .i64 0, .string ⟨#[]⟩, .slice none 0 0, .slice none 0 0], .int .i64 m]) ?_ rfl ?_
    · simp [results, Tryz.results21, go_sem, c0, c1, c2, c3, c4, z1]
    · rw [unhide Hx]
      exact ⟨⟨none, 0, 0⟩, ⟨none, 0, 0⟩, rfl, zeroAt _ _ _, (hE1.setCell5 (by omega) _ _ _ _ _).alloc _⟩
  have E2' := hide (unhide E2 hm)
  have E3' := hide (unhide E3 hm)
  have E4' := hide (unhide E4 hm)
  have hms := unhide HM hm
  have hg := unhide HG hm
  have hmb : (m != 0) = false := by simp [hm]
  have Hms := hide hms
  have Hg := hide hg
  clear E1 E2 E3 E4 HM HG hm hms hg
  have hx2 : Ext w1 (w1.alloc (.cells #[.string tv.name, .bool tv.enum, .slice tv.fields.a tv.fields.len tv.fields.cap, .slice tv.gone.a tv.gone.len tv.gone.cap, .slice tv.items.a tv.items.len tv.items.cap] 50)) := (Ext.refl w1).alloc _
  go_wp2_with fail
  refine (read_top sb ts (unhide Hg) tv T s _ ((unhide Hb).ext (hx1.trans hx2)) ((unhide Htv).ext hx2) (unhide Hms) hs).mono ?_
  rw [← unhide Hr]
  rintro e w3 ⟨ids, l, rfl, hv3, hx3⟩
  have h13 := hx2.trans hx3
  have hE3 := hE1.trans h13
  have R3 := h13.heap R1
  clear c0 c1 c2 c3 c4
  have z3 := lt_of_heap R3
  have Hv3 := hide hv3
  clear hv3
  have hsmall : Hid (r.1 = 0 → cntM 29 r.2 ≤ 1048576) := fun h => by
    have e : readM ts 23 T s = (0, r.2) := by rw [← unhide Hr, ← h]
    exact read_small (unhide Hg) (unhide Hms) e
  obtain ⟨R, v⟩ := r
  simp only at Hv3 hsmall E2' E3' E4' ⊢
  by_cases hR : R = 0
  case neg =>
    have Hx := hide (unhide E2' hR)
    have hRb : (R != 0) = true := by simpa using hR
    obtain ⟨c0, c1, c2, c3, c4, _⟩ := row5 R3
    clear E2' E3' E4'
    go_wp2
    refine bodyPost_ret (v := .tuple #[.agg #[.int .i64 0, .int .i64 0, .string ⟨#[]⟩, .slice none 0 0, .slice none 0 0], .int .i64 R]) ?_ rfl ?_
    · simp [results, Tryz.results21, go_sem, c0, c1, c2, c3, c4, z3]
    · rw [unhide Hx]
      exact ⟨⟨none, 0, 0⟩, ⟨none, 0, 0⟩, rfl, zeroAt _ _ _, (hE3.setCell5 (by omega) _ _ _ _ _).alloc _⟩
  have hRb : (R != 0) = false := by simp [hR]
  have Hx3 := hide (unhide E3' hR)
  have Hx4 := hide (unhide E4' hR)
  have hc := unhide hsmall hR
  have Hc := hide hc
  clear E2' E3' E4' hR hsmall hc
  obtain ⟨W4, hW4⟩ : ∃ W4, W4 = w3.alloc (.cells #[.int .i64 v.kind, .int .i64 v.n, .string v.s, .slice ids.a ids.len ids.cap, .slice l.a l.len l.cap] 28) := ⟨_, rfl⟩
  have hx4 : Ext w3 W4 := by rw [hW4]; exact (Ext.refl w3).alloc _
  have rV : W4.heap[w3.heap.size]? = some (.cells #[.int .i64 v.kind, .int .i64 v.n, .string v.s, .slice ids.a ids.len ids.cap, .slice l.a l.len l.cap] 28 (0, 0)) := by rw [hW4]; exact heap_alloc_new _ _
  go_wp2_with fail
  rw [← hW4]
  refine (tooLarge_any 29 v ids l W4 ((unhide Hv3).at_.ext hx4) (unhide Hc)).mono ?_
  rintro e w5 ⟨rfl, hx5⟩
  clear hW4
  have h35 := hx4.trans hx5
  have hE5 := hE3.trans h35
  have R5 := h35.heap R3
  have z5 := lt_of_heap R5
  have rV5 := hx5.heap rV
  obtain ⟨c0, c1, c2, c3, c4, _⟩ := row5 R5
  obtain ⟨v0, v1, v2, v3, v4, _⟩ := row5 rV5
  have hlt : w.heap.size + 1 < w3.heap.size := lt_of_heap R3
  cases hB : largeB 29 v
  case true =>
    have Hx := hide (unhide Hx3 hB)
    clear Hx3 Hx4 hB v0 v1 v2 v3 v4
    go_wp2
    refine bodyPost_ret (v := .tuple #[.agg #[.int .i64 0, .int .i64 0, .string ⟨#[]⟩, .slice none 0 0, .slice none 0 0], .int .i64 7]) ?_ rfl ?_
    · simp [results, Tryz.results21, go_sem, c0, c1, c2, c3, c4, z5]
    · rw [unhide Hx]
      exact ⟨⟨none, 0, 0⟩, ⟨none, 0, 0⟩, rfl, zeroAt _ _ _, hE5.setCell5 (by omega) _ _ _ _ _⟩
  case false =>
    have Hx := hide (unhide Hx4 hB)
    clear Hx3 Hx4 hB
    go_wp2
    refine bodyPost_ret (v := .tuple #[.agg #[.int .i64 v.kind, .int .i64 v.n, .string v.s, .slice ids.a ids.len ids.cap, .slice l.a l.len l.cap], .int .i64 0]) ?_ rfl ?_
    · simp [results, Tryz.results21, go_sem, c0, c1, c2, c3, c4, z5]
    · rw [unhide Hx]
      refine ⟨ids, l, rfl, ?_, hE5.setCell5 (by omega) _ _ _ _ _⟩
      have hs1 : w.heap.size + 1 < w1.heap.size := z1
      have hsz : w3.heap.size ≤ w5.heap.size := h35.size
      refine (((unhide Hv3).ext h35).set5 (g := w.heap.size + 1) (fun b hb => by have := hb.1; simp at this; omega) _ _ _ _ _).sub fun b hb => ⟨by have := hb.1; simp at this; omega, by have := hb.2; simp; omega⟩

theorem typed_out {ts : BookM} {name : ByteArray} {K : Nat} {v : ValueM} (hf : Fits K v) (h : typedM ts name K v = 0) : msgE ts name = 0 ∧ depM K v ≤ 24 ∧ cntM K v ≤ 400 ∧ TypedP ts K (msgT ts name) v := by
  unfold typedM at h
  by_cases h1 : msgE ts name = 0
  · rw [if_neg (by simp [h1])] at h
    by_cases h2 : largeB K v = true
    · rw [if_pos h2] at h; cases h
    · rw [if_neg h2] at h
      unfold largeB at h2
      simp at h2
      exact ⟨h1, h2.1, h2.2, wrong_typed hf h⟩
  · rw [if_pos h1] at h; exact absurd h h1
theorem typed_enc {ts : BookM} {name : ByteArray} {K : Nat} {v : ValueM} (hf : Fits K v) (h : typedM ts name K v = 0) : EncOk K v := by
  obtain ⟨h1, h2, h3, h4⟩ := typed_out hf h
  exact (TypedP.enc (msg_good h1).1 (msg_msg h1) hf h4 h3).1

/-- What Encode answers. -/
def encA (ts : BookM) (name : ByteArray) (K : Nat) (v : ValueM) : ByteArray := if typedM ts name K v = 0 then ⟨(encV K v).toArray⟩ else ⟨#[]⟩

set_option maxHeartbeats 3200000 in
set_option maxRecDepth 10000 in
theorem encode_value (sb : SV) (ts : BookM) (name : ByteArray) (K : Nat) (v : ValueM) (ids l : SV) (w : World) (hb : BookAt w sb ts) (hw : WordsAt w) (hn : ts.Fits) (hsv : SmallV K v) (hc : cntM K v ≤ 1048576)
    (hv : ValueAt K w [.int .i64 v.kind, .int .i64 v.n, .string v.s, .slice ids.a ids.len ids.cap, .slice l.a l.len l.cap] v) :
    Calls Tryz.prog 19 #[.agg #[.slice sb.a sb.len sb.cap], .string name, .agg #[.int .i64 v.kind, .int .i64 v.n, .string v.s, .slice ids.a ids.len ids.cap, .slice l.a l.len l.cap]] w fun e w' => e = .returned (.tuple #[.string (encA ts name K v), .int .i64 (typedM ts name K v)]) ∧ Ext w w' := by
  obtain ⟨w0, hw0⟩ : ∃ w0, w0 = (w.alloc (.cells #[.slice sb.a sb.len sb.cap] 24)).alloc (.cells #[.int .i64 v.kind, .int .i64 v.n, .string v.s, .slice ids.a ids.len ids.cap, .slice l.a l.len l.cap] 28) := ⟨_, rfl⟩
  obtain ⟨hx0, hz, r0, r1⟩ := heaps2 hw0
  have b0 : w0.cell? ⟨w.heap.size, 0, none⟩ = some (.slice sb.a sb.len sb.cap) := cell_of_row _ _ 0 _ _ _ r0
  obtain ⟨v0, v1, v2, v3, v4, _⟩ := row5 r1
  have E0 : Hid (typedM ts name K v = 0 → EncOk K v) := fun h => typed_enc hv.fits h
  have E1 : Hid (typedM ts name K v = 0 → encA ts name K v = ⟨(encV K v).toArray⟩) := fun h => if_pos h
  have E2 : Hid (typedM ts name K v ≠ 0 → encA ts name K v = ⟨#[]⟩) := fun h => if_neg h
  have HT := hide (typed_any sb ts name K v ids l w0 (hb.ext hx0) (hw.ext hx0) hn hsv hc (hv.ext hx0))
  generalize encA ts name K v = x at *
  generalize typedM ts name K v = m at *
  have HW0 := hide hw0
  have Hv := hide (hv.ext hx0)
  clear hw0 hb hw hv hsv hc
  go_enter Tryz.func19, Tryz.ntmps19
  go_wp2_with fail
  rw [← unhide HW0]
  refine (unhide HT).mono ?_
  rintro e w1 ⟨rfl, hx1⟩
  by_cases hm : m = 0
  case neg =>
    have hmb : (m != 0) = true := by simpa using hm
    have hx := unhide E2 hm
    clear E0 E1 E2 HT
    have Hx := hide hx
    clear hx
    go_wp2
    refine bodyPost_ret (v := .tuple #[.string ⟨#[]⟩, .int .i64 m]) ?_ rfl ⟨by rw [unhide Hx], hx0.trans hx1⟩
    simp [results, Tryz.results19, go_sem]
  have hmb : (m != 0) = false := by simp [hm]
  obtain ⟨g0, g1, g2, g3, g4, _⟩ := row5 (hx1.heap r1)
  have hx := unhide E1 hm
  have hok := unhide E0 hm
  have Hm := hide hm
  have Hx := hide hx
  clear E0 E1 E2 HT hm hx v0 v1 v2 v3 v4
  go_wp2_with fail
  refine (write_any K v ids l w1 hok ((unhide Hv).ext hx1)).mono ?_
  rintro e w2 ⟨rfl, hx2⟩
  rw [← unhide Hx]
  go_wp2
  refine bodyPost_ret (v := .tuple #[.string x, .int .i64 0]) ?_ rfl ⟨by rw [unhide Hm], (hx0.trans hx1).trans hx2⟩
  simp [results, Tryz.results19, go_sem]
end Go.Proofs.YtmdpdgldmedebaaGreatDoor

namespace Go.Proofs.YtmdpdgldmedebaaGreatDoor
set_option linter.unusedSimpArgs false
set_option linter.unusedVariables false
open Go.RowKit

theorem range_row5 {w : World} {b : Nat} {t : TypeId} {c0 c1 c2 c3 c4 : Value} (h : w.heap[b]? = some (.cells #[c0, c1, c2, c3, c4] t (0, 0))) : w.rangeAt b 0 [c0, c1, c2, c3, c4] := by
  obtain ⟨h0, h1, h2, h3, h4, _⟩ := row5 h
  intro j u hu
  rcases j with _ | _ | _ | _ | _ | j
  · simp at hu; subst hu; simpa using h0
  · simp at hu; subst hu; simpa using h1
  · simp at hu; subst hu; simpa using h2
  · simp at hu; subst hu; simpa using h3
  · simp at hu; subst hu; simpa using h4
  · simp at hu

theorem dep_eq {a b : Nat} {v : ValueM} (ha : Fits a v) (hb : Fits b v) : depM a v = depM b v := by
  rcases Nat.le_total a b with h | h
  · exact (dep_le ha h).symm
  · exact dep_le hb h
theorem cnt_eq {a b : Nat} {v : ValueM} (ha : Fits a v) (hb : Fits b v) : cntM a v = cntM b v := by
  rcases Nat.le_total a b with h | h
  · exact (cnt_le ha h).symm
  · exact cnt_le hb h
theorem dec_bad {ts : BookM} {name s : ByteArray} (h : (decA ts name s).1 ≠ 0) : (decA ts name s).2 = ValueM.zero := by
  unfold decA at h ⊢
  split
  · rfl
  · split
    · rfl
    · split
      · rfl
      · rename_i h1 h2 h3
        rw [if_neg h1, if_neg h2, if_neg h3] at h
        exact absurd rfl h
theorem dec_out {ts : BookM} {name s : ByteArray} (h : (decA ts name s).1 = 0) : msgE ts name = 0 ∧ readM ts 23 (msgT ts name) s = (0, (decA ts name s).2) ∧ largeB 29 (decA ts name s).2 = false := by
  unfold decA at h ⊢
  split
  · rename_i h1; rw [if_pos h1] at h; exact absurd h h1
  · rename_i h1
    rw [if_neg h1] at h
    split
    · rename_i h2; rw [if_pos h2] at h; exact absurd h h2
    · rename_i h2
      rw [if_neg h2] at h
      split
      · rename_i h3; rw [if_pos h3] at h; cases h
      · rename_i h3
        refine ⟨by simpa using h1, ?_, by simpa using h3⟩
        have e : (readM ts 23 (msgT ts name) s).1 = 0 := by simpa using h2
        rw [← e]
theorem dec_typed {ts : BookM} {name s : ByteArray} (h : (decA ts name s).1 = 0) (hf : Fits 29 (decA ts name s).2) : typedM ts name 29 (decA ts name s).2 = 0 ∧ SmallV 29 (decA ts name s).2 ∧ cntM 29 (decA ts name s).2 ≤ 1048576 := by
  obtain ⟨h1, h2, h3⟩ := dec_out h
  have hg := (msg_good h1).1
  have hm := msg_msg h1
  have ht := read_typed hg hm h2
  have hc := read_small (m := 29) hg hm h2
  refine ⟨?_, TypedP.small hg hm ht hf hc, hc⟩
  unfold typedM
  rw [if_neg (by simp [h1]), if_neg (by simp [h3])]
  exact typed_wrong (ht.le (by omega))
theorem decA_enc {ts : BookM} {name : ByteArray} {K : Nat} {v : ValueM} (hf : Fits K v) (h : typedM ts name K v = 0) : decA ts name (encA ts name K v) = (0, v) ∧ (encA ts name K v).size ≤ 20000 := by
  obtain ⟨h1, h2, h3, h4⟩ := typed_out hf h
  have hg := (msg_good h1).1
  have hm := msg_msg h1
  have hr := read_enc hg (k := 23) hm hf h4 h3 (by omega)
  have hl := (TypedP.enc hg hm hf h4 h3).2
  have hf24 : Fits 24 v := fits_dep hf h2
  have hf29 : Fits 29 v := hf24.le (by omega)
  have hlg : largeB 29 v = false := by
    unfold largeB
    rw [dep_eq hf29 hf, cnt_eq hf29 hf]
    simp; omega
  have he : encA ts name K v = ⟨(encV K v).toArray⟩ := if_pos h
  rw [he]
  constructor
  · unfold decA
    rw [if_neg (by simp [h1]), hr, if_neg (by simp), if_neg (by simp [hlg])]
  · show (encV K v).toArray.size ≤ 20000
    simp; omega
theorem enc_none {ts : BookM} {name : ByteArray} {K : Nat} {v : ValueM} (h : typedM ts name K v ≠ 0) : encA ts name K v = ⟨#[]⟩ := if_neg h
/-- What is said of a type's least value. -/
theorem least_all {ts : BookM} {name : ByteArray} (h : msgE ts name = 0) : leastA ts name = leastV ts 4 (msgT ts name) ∧ typedM ts name 5 (leastA ts name) = 0 ∧ SmallV 5 (leastA ts name) ∧ cntM 5 (leastA ts name) ≤ 1048576 ∧ decA ts name ⟨#[]⟩ = (0, leastA ts name) ∧ (cntM 5 (leastA ts name) : Int) = leastM ts 4 name := by
  have hg := (msg_good h).1
  have hm := msg_msg h
  have e : leastA ts name = leastV ts 4 (msgT ts name) := if_pos h
  have ht := least_typed hg hm (msg_le h)
  have hf := ht.fits hg hm
  have hc5 := hm.cnt hg 5
  have hc29 := hm.cnt hg 29
  have hfd := (msg_good h).2.1
  rw [e]
  refine ⟨rfl, ?_, TypedP.small hg hm ht hf (by omega), by omega, ?_, ?_⟩
  · unfold typedM
    have hl : largeB 5 (leastV ts 4 (msgT ts name)) = false := by
      unfold largeB
      have := dep_cnt (k := 5) (v := leastV ts 4 (msgT ts name))
      simp; omega
    rw [if_neg (by simp [h]), if_neg (by simp [hl])]
    exact typed_wrong ht.succ
  · have hl : largeB 29 (leastV ts 4 (msgT ts name)) = false := by
      unfold largeB
      have := dep_cnt (k := 29) (v := leastV ts 4 (msgT ts name))
      simp; omega
    unfold decA
    rw [if_neg (by simp [h]), read_none hg hm, if_neg (by simp), if_neg (by simp [hl])]
  · refine cnt_least hg (by omega) hfd ?_
    have hmem := findM_mem hfd
    have := (goodM_least hg _ hmem (msg_good h).2.2).1
    rw [find_name hfd] at this
    omega

def ts0 : BookM := [⟨⟨#[97]⟩, false, [⟨3, ⟨#[120]⟩, ⟨#[]⟩, 2, 1⟩], [], []⟩]
def v0M : ValueM := ⟨2, 0, ⟨#[]⟩, [3], [⟨0, 0, ⟨#[]⟩, [], []⟩]⟩
theorem ts0_good : goodM ts0 = 0 := by kernel_rfl
theorem ts0_msg : msgE ts0 ⟨#[97]⟩ = 0 := by kernel_rfl
theorem ts0_T : msgT ts0 ⟨#[97]⟩ = ⟨⟨#[97]⟩, false, [⟨3, ⟨#[120]⟩, ⟨#[]⟩, 2, 1⟩], [], []⟩ := by kernel_rfl
theorem ts0_least : leastA ts0 ⟨#[97]⟩ = v0M := by rw [(least_all ts0_msg).1, ts0_T]; kernel_rfl
theorem ts0_dec : decA ts0 ⟨#[97]⟩ ⟨#[]⟩ = (0, v0M) := by rw [(least_all ts0_msg).2.2.2.2.1, ts0_least]
theorem ts0_typed : typedM ts0 ⟨#[97]⟩ 29 v0M = 0 := by kernel_rfl
theorem ts0_enc : encA ts0 ⟨#[97]⟩ 29 v0M = ⟨#[12, 0]⟩ := by
  have h : (encV 29 v0M).toArray = #[12, 0] := by kernel_rfl
  unfold encA
  rw [if_pos ts0_typed, h]
theorem ts0_fits : ts0.Fits := (good_small ts0_good).fits
theorem v0_small : SmallV 29 v0M := by
  refine ⟨by decide, by decide, by decide, fun x hx => ?_⟩
  rw [List.mem_singleton.1 (show x ∈ [ValueM.mk 0 0 ⟨#[]⟩ [] []] from hx)]
  exact ⟨by decide, by decide, by decide, fun y hy => absurd hy List.not_mem_nil⟩
theorem v0_cnt : cntM 29 v0M ≤ 1048576 := by decide

theorem ts0_at {w : World} {b g : Nat} (r0 : w.heap[b]? = some (.cells #[.int .i64 3, .string ⟨#[120]⟩, .string ⟨#[]⟩, .int .i64 2, .int .i64 1] 56 (0, 0)))
    (r1 : w.heap[g]? = some (.cells #[.string ⟨#[97]⟩, .bool false, .slice (some ⟨b, 0, none⟩) 1 1, .slice none 0 0, .slice none 0 0] 50 (0, 0))) : BookAt w ⟨some ⟨g, 0, none⟩, 1, 1⟩ ts0 := by
  refine ⟨rfl, fun i x hx => ?_⟩
  obtain rfl : i = 0 := by
    have := (List.getElem?_eq_some_iff.1 hx).1
    have h2 : ts0.length = 1 := rfl
    omega
  have hx' : x = ⟨⟨#[97]⟩, false, [⟨3, ⟨#[120]⟩, ⟨#[]⟩, 2, 1⟩], [], []⟩ := by simpa [ts0] using hx.symm
  subst hx'
  refine ⟨g, 0, _, rfl, by simpa using range_row5 r1, ⟨⟨#[97]⟩, false, ⟨some ⟨b, 0, none⟩, 1, 1⟩, ⟨none, 0, 0⟩, ⟨none, 0, 0⟩⟩, rfl, ?_⟩
  refine ⟨rfl, rfl, ⟨rfl, fun i x hx => ?_⟩, ⟨rfl, fun i x hx => by simp at hx⟩, ⟨rfl, fun i x hx => by simp at hx⟩, ⟨Nat.le_refl _, fun h => by cases h⟩, ⟨Nat.le_refl _, fun _ => rfl⟩, ⟨Nat.le_refl _, fun _ => rfl⟩⟩
  obtain rfl : i = 0 := by
    have := (List.getElem?_eq_some_iff.1 hx).1
    simp at this
    omega
  have hx' : x = ⟨3, ⟨#[120]⟩, ⟨#[]⟩, 2, 1⟩ := by simpa using hx.symm
  subst hx'
  exact ⟨b, 0, _, rfl, by simpa using range_row5 r0, rfl⟩

set_option maxHeartbeats 3200000 in
set_option maxRecDepth 10000 in
theorem values_ok (w : World) (hw : WordsAt w) : Calls Tryz.prog 18 #[] w fun e w' => e = .returned (.bool true) ∧ Ext w w' := by
  obtain ⟨w0, hw0⟩ : ∃ w0, w0 = ((w.alloc (.cells #[.int .i64 3, .string ⟨#[120]⟩, .string ⟨#[]⟩, .int .i64 2, .int .i64 1] 56)).alloc (.cells #[.string ⟨#[97]⟩, .bool false, .slice (some ⟨w.heap.size, 0, none⟩) 1 1, .slice none 0 0, .slice none 0 0] 50)).alloc (.cells #[.slice (some ⟨w.heap.size + 1, 0, none⟩) 1 1] 24) := ⟨_, rfl⟩
  obtain ⟨hx0, hz, r0, r1, r2⟩ := heaps3 hw0
  have HD := hide (decode_value ⟨some ⟨w.heap.size + 1, 0, none⟩, 1, 1⟩ ts0 ⟨#[97]⟩ ⟨#[]⟩ w0 (ts0_at r0 r1) (hw.ext hx0) ts0_fits (by decide))
  rw [ts0_dec] at HD
  have Hb := hide (ts0_at r0 r1)
  have Hw := hide (hw.ext hx0)
  have HW0 := hide hw0
  have b0 : w0.cell? ⟨w.heap.size + 1 + 1, 0, none⟩ = some (.slice (some ⟨w.heap.size + 1, 0, none⟩) 1 1) := cell_of_row _ _ 0 _ _ _ r2
  clear hw0 hw
  go_enter Tryz.func18, Tryz.ntmps18
  go_wp2_with fail
  rw [← unhide HW0]
  refine (unhide HD).mono ?_
  rintro e w1 ⟨ids, l, rfl, hv1, hx1⟩
  have hv1' := hv1.at_
  obtain ⟨ids', l', he, hi', hl', hio, hlo⟩ := hv1'.opens
  simp only [List.cons.injEq, Value.slice.injEq, and_true, true_and] at he
  obtain ⟨ei, el⟩ := he
  obtain rfl : ids = ids' := by cases ids; cases ids'; simp_all
  obtain rfl : l = l' := by cases l; cases l'; simp_all
  have hlen : l.len = 1 := hl'.1
  obtain ⟨la, ll, lc⟩ := l
  simp only at hlen
  subst hlen
  obtain ⟨W2, hW2⟩ : ∃ W2, W2 = w1.alloc (.cells #[.int .i64 2, .int .i64 0, .string ⟨#[]⟩, .slice ids.a ids.len ids.cap, .slice la 1 lc] 28) := ⟨_, rfl⟩
  have hx2 : Ext w1 W2 := by rw [hW2]; exact (Ext.refl w1).alloc _
  have rV : W2.heap[w1.heap.size]? = some (.cells #[.int .i64 2, .int .i64 0, .string ⟨#[]⟩, .slice ids.a ids.len ids.cap, .slice la 1 lc] 28 (0, 0)) := by rw [hW2]; exact heap_alloc_new _ _
  have h02 := hx1.trans hx2
  have HE := hide (encode_value ⟨some ⟨w.heap.size + 1, 0, none⟩, 1, 1⟩ ts0 ⟨#[97]⟩ 29 v0M ids ⟨la, 1, lc⟩ W2 ((unhide Hb).ext h02) ((unhide Hw).ext h02) ts0_fits v0_small v0_cnt (hv1'.ext hx2))
  rw [ts0_enc, ts0_typed] at HE
  obtain ⟨g0, g1, g2, g3, g4, _⟩ := row5 rV
  have b1 := hx1.cell b0
  have b2 := h02.cell b0
  have zV := World.block_lt_of_cell? w1 _ b1
  clear hi' hl' hio hlo hv1 hv1' HD ei el
  simp only [v0M] at HE ⊢
  go_wp2_with fail
  rw [← hW2]
  refine (unhide HE).mono ?_
  rintro e w3 ⟨rfl, hx3⟩
  obtain ⟨q0, q1, q2, q3, q4, _⟩ := row5 (hx3.heap rV)
  clear g0 g1 g2 g3 g4
  go_wp2
  go_ret
  exact ⟨rfl, (hx0.trans h02).trans hx3⟩
end Go.Proofs.YtmdpdgldmedebaaGreatDoor

