import Derived.Test.YtnppgeiompimaaaGreatDoorM44
namespace Go.Proofs.YtnppgeiompimaaaGreatDoor
set_option linter.unusedSimpArgs false
set_option linter.unusedVariables false
set_option linter.unusedSimpArgs false
set_option linter.unusedVariables false
open Go.RowKit

theorem PFr.cell {a w : World} {T : Nat} {r1 r2 : Option Nat} (h : PFr a w T r1 r2) {p : Addr} {v : Value} (hc : a.cell? p = some v) (h1 : p.block ≠ T) (h2 : some p.block ≠ r1) (h3 : some p.block ≠ r2) : w.cell? p = some v := by
  rw [World.cell?_of_block (h.block p.block (World.block_lt_of_cell? _ _ hc) h1 h2 h3)]; exact hc
theorem msg_name {ts : BookM} {t : TypeM} (hg : goodM ts = 0) (h : Msg ts t) : msgE ts t.name = 0 ∧ msgT ts t.name = t := by
  obtain ⟨name, hn, he⟩ := h
  have e := find_name hn
  subst e
  have e : msgE ts t.name = 0 := by unfold msgE; rw [if_neg (by simp [hg]), hn, if_neg (by simp [he])]
  exact ⟨e, by unfold msgT; rw [e, hn]; rfl⟩
theorem leF_of {ts : BookM} (hg : goodM ts = 0) {t : TypeM} (ht : Msg ts t) {f : FieldM} (hf : f ∈ t.fields) : LeF ts (LeOk ts 4) f :=
  ⟨fun h4 => by have := (ht.enum hg hf h4).1; omega, fun h5 => by obtain ⟨n, a, b⟩ := ht.sub hg hf h5; exact leOk_type hg a b⟩
/-- The least of a field of a good book's message. -/
theorem leastG_any (sb : SV) (ts : BookM) (tv : TV) (t : TypeM) (f : FieldM) (w : World) (hb : BookAt w sb ts) (hw : WordsAt w) (hn : ts.Fits) (hs : ts.Small) (hg : goodM ts = 0) (ht : Msg ts t) (htv : tv.name = t.name) (hF : fieldM t f.id = some f) :
    Calls Tryz.prog 67 #[.agg #[.slice sb.a sb.len sb.cap], .agg #[.string tv.name, .bool tv.enum, .slice tv.fields.a tv.fields.len tv.fields.cap, .slice tv.gone.a tv.gone.len tv.gone.cap, .slice tv.items.a tv.items.len tv.items.cap], .int .i64 f.id] w fun e w' => ∃ ids l : SV, e = .returned (.agg #[.int .i64 (leastF ts (leastV ts 4) f).kind, .int .i64 (leastF ts (leastV ts 4) f).n, .string (leastF ts (leastV ts 4) f).s, .slice ids.a ids.len ids.cap, .slice l.a l.len l.cap]) ∧ ValueAtP (Btw w w') 5 w' [.int .i64 (leastF ts (leastV ts 4) f).kind, .int .i64 (leastF ts (leastV ts 4) f).n, .string (leastF ts (leastV ts 4) f).s, .slice ids.a ids.len ids.cap, .slice l.a l.len l.cap] (leastF ts (leastV ts 4) f) ∧ Ext w w' := by
  obtain ⟨e1, e2⟩ := msg_name hg ht
  rw [← htv] at e1 e2
  exact leastC_any sb ts tv f.id f w hb hw hn hs e1 (by rw [e2]; exact hF) (leF_of hg ht (fieldM_mem hF)) (by rw [e2]; have := ht.len hg; omega)
/-- What is put for one of a reader's fields. -/
theorem piece_some {lf : FieldM → ValueM} {g : FieldM} {l : List ValueM} (h : ¬ (l.length = 0 ∧ g.rule = 1)) : (pieceM lf g l).map (·.1) = l.map (fun _ => g.id) ∧ (pieceM lf g l).map (·.2) = l := by
  have : (l.isEmpty && g.rule == 1) = false := by
    rw [Bool.and_eq_false_iff]
    by_cases e : l.length = 0
    · exact .inr (by simpa using fun e2 => h ⟨e, e2⟩)
    · exact .inl (by cases l with | nil => simp at e | cons => rfl)
  unfold pieceM
  rw [this]
  simp [Function.comp_def]
theorem piece_none {lf : FieldM → ValueM} {g : FieldM} {l : List ValueM} (h : l.length = 0) (h1 : g.rule = 1) : (pieceM lf g l).map (·.1) = [g.id] ∧ (pieceM lf g l).map (·.2) = [lf g] := by
  have := List.length_eq_zero_iff.1 h
  subst this
  unfold pieceM
  simp [h1]
theorem piece_len {lf : FieldM → ValueM} {g : FieldM} {l : List ValueM} : (pieceM lf g l).length ≤ l.length + 1 := by
  unfold pieceM
  rw [List.length_append, List.length_map]
  split <;> simp
set_option maxHeartbeats 25600000 in
set_option maxRecDepth 10000 in
theorem project_any (s1 s2 : SV) (ws rs : BookM) (S : TypeM → TypeM → Prop) (hgw : goodM ws = 0) (hgr : goodM rs = 0) (hS : NoFlaw ws rs S) (m1 : ws.Small) (m2 : rs.Small) (n2 : rs.Fits) : ∀ Kh, ProjOk s1 s2 ws rs S Kh := by
  intro Kh
  induction Kh with
  | zero => intro _ _ _ _ _ _ _ _ _ _ _ _ _ _ _ _ _ _ hty; exact hty.elim
  | succ Kh ih =>
    intro tv uv t u sr id v ids l w h1 h2 hw ht hu hmt hmu hst hty hc hv
    have HPF := fun g (hg : fieldM u g.id = some g) w' (hx : Ext w w') => projectField_of s1 s2 ws rs S Kh ih hgw hgr hS tv uv t u sr id g v ids l w' (h1.ext hx) (h2.ext hx) (hw.ext hx) m1 m2 (ht.ext hx) hmt hmu hst hg hty hc (hv.ext hx)
    have HLC := fun g (hg : fieldM u g.id = some g) w' (hx : Ext w w') => leastG_any s2 rs uv u g w' (h2.ext hx) (hw.ext hx) n2 m2 hgr hmu hu.name hg
    have Hfind := fun g (hg : g ∈ u.fields) => hmu.find hgr hg
    have hul := hmu.len hgr
    have hvl : v.ids.length ≤ 1000 := by
      obtain ⟨iv, lv, _, hints, hls, _, _⟩ := hv
      have h0 : 1 + sumL (cntM Kh) v.l ≤ 1000 := hc
      have := sum_inC (k := Kh) (l := v.l) fun x hx => by
        obtain ⟨i, hi, rfl⟩ := List.getElem_of_mem hx
        obtain ⟨_, _, _, _, _, h⟩ := hls.2 i _ (List.getElem?_eq_getElem hi)
        exact h.fits
      have := hty.2.2.2.1
      omega
    obtain ⟨PJ, hPJ⟩ : ∃ PJ : Nat → List (Int × ValueM), PJ = fun j => projL ws rs (projM ws rs Kh) t v (u.fields.take j) := ⟨_, rfl⟩
    have hP0 : PJ 0 = [] := by rw [hPJ]; rfl
    have hPs : ∀ (j : Nat) (g : FieldM), u.fields[j]? = some g → PJ (j + 1) = PJ j ++ pieceM (leastF rs (leastV rs 4)) g (projField ws rs (projM ws rs Kh) t g v) := fun j g hg => by
      rw [hPJ]
      simp only
      rw [List.take_add_one, hg]
      unfold projL
      rw [List.flatMap_append]
      simp
    have hPl : ∀ j, (PJ j).length ≤ 1001 * j := fun j => by
      induction j with
      | zero => rw [hP0]; simp
      | succ j ihj =>
        cases hg : u.fields[j]? with
        | none =>
          have : PJ (j + 1) = PJ j := by rw [hPJ]; simp only; rw [List.take_add_one, hg]; simp
          rw [this]; omega
        | some g =>
          rw [hPs j g hg, List.length_append]
          have a := piece_len (lf := leastF rs (leastV rs 4)) (g := g) (l := projField ws rs (projM ws rs Kh) t g v)
          have b := projField_len (ws := ws) (rs := rs) (rec := projM ws rs Kh) (g := g) (t := t) (v := v)
          omega
    have hPA : projM ws rs (Kh + 1) t u v = ⟨2, 0, ⟨#[]⟩, (PJ u.fields.length).map (·.1), (PJ u.fields.length).map (·.2)⟩ := by
      rw [hPJ]
      simp only
      rw [List.take_length]
      rfl
    have hKl := fun g => projField_len (ws := ws) (rs := rs) (rec := projM ws rs Kh) (g := g) (t := t) (v := v)
    generalize projM ws rs (Kh + 1) t u v = Y at *
    obtain ⟨KN, hKN⟩ : ∃ KN, KN = fun g => projField ws rs (projM ws rs Kh) t g v := ⟨_, rfl⟩
    obtain ⟨LF, hLF⟩ : ∃ LF, LF = leastF rs (leastV rs 4) := ⟨_, rfl⟩
    rw [← hLF] at hPs HLC
    have hPs : ∀ (j : Nat) (g : FieldM), u.fields[j]? = some g → PJ (j + 1) = PJ j ++ pieceM LF g (KN g) := fun j g hg => by rw [hKN]; exact hPs j g hg
    have HPF : ∀ g, fieldM u g.id = some g → ∀ w', Ext w w' → Calls Tryz.prog 66 #[.agg #[.slice s1.a s1.len s1.cap, .slice s2.a s2.len s2.cap], .agg #[.string tv.name, .bool tv.enum, .slice tv.fields.a tv.fields.len tv.fields.cap, .slice tv.gone.a tv.gone.len tv.gone.cap, .slice tv.items.a tv.items.len tv.items.cap, .string uv.name, .bool uv.enum, .slice uv.fields.a uv.fields.len uv.fields.cap, .slice uv.gone.a uv.gone.len uv.gone.cap, .slice uv.items.a uv.items.len uv.items.cap, .int .i64 sr, .int .i64 id], .agg #[.int .i64 g.id, .string g.name, .string g.type, .int .i64 g.kind, .int .i64 g.rule], .agg #[.int .i64 v.kind, .int .i64 v.n, .string v.s, .slice ids.a ids.len ids.cap, .slice l.a l.len l.cap]] w' fun e w'' => ∃ sv : SV, e = .returned (.slice sv.a sv.len sv.cap) ∧ VRow (Kh + 5) w'' w'.heap.size (fun b => w'.heap.size ≤ b) none (.slice sv.a sv.len sv.cap) (KN g) ∧ Ext w' w'' := fun g hg w' hx => by rw [hKN]; exact HPF g hg w' hx
    have hKl : ∀ g, (KN g).length ≤ v.ids.length := fun g => by rw [hKN]; exact hKl g
    obtain ⟨W0, hW0⟩ : ∃ W0, W0 = (((((w.alloc (.cells #[.slice s1.a s1.len s1.cap, .slice s2.a s2.len s2.cap] 52)).alloc (.cells #[.string tv.name, .bool tv.enum, .slice tv.fields.a tv.fields.len tv.fields.cap, .slice tv.gone.a tv.gone.len tv.gone.cap, .slice tv.items.a tv.items.len tv.items.cap, .string uv.name, .bool uv.enum, .slice uv.fields.a uv.fields.len uv.fields.cap, .slice uv.gone.a uv.gone.len uv.gone.cap, .slice uv.items.a uv.items.len uv.items.cap, .int .i64 sr, .int .i64 id] 54)).alloc (.cells #[.int .i64 v.kind, .int .i64 v.n, .string v.s, .slice ids.a ids.len ids.cap, .slice l.a l.len l.cap] 37)).alloc (.cells #[.int .i64 0, .int .i64 0, .string ⟨#[]⟩, .slice none 0 0, .slice none 0 0] 37)).alloc (.cells #[.int .i64 2, .int .i64 0, .string ⟨#[]⟩, .slice none 0 0, .slice none 0 0] 37)) := ⟨_, rfl⟩
    obtain ⟨hxW, hzW, r0, r1, r2, r3, r4⟩ := heaps5 hW0
    obtain ⟨W, hW⟩ : ∃ W, W = W0.alloc (.cells #[.pointer (some ⟨w.heap.size + 1 + 1 + 1 + 1, 0, none⟩)] 111) := ⟨_, rfl⟩
    have x0W : Ext W0 W := by rw [hW]; exact (Ext.refl W0).alloc _
    have r5 : W.heap[w.heap.size + 5]? = some (.cells #[.pointer (some ⟨w.heap.size + 1 + 1 + 1 + 1, 0, none⟩)] 111 (0, 0)) := by rw [hW, ← hzW]; exact heap_alloc_new W0 _
    have h6a : w.heap.size + 6 ≤ W.heap.size := by rw [hW]; simp [hzW]
    have h6b : W.heap.size ≤ w.heap.size + 6 := by rw [hW]; simp [hzW]
    have HzW := hide hzW
    clear hzW
    have hxw := hxW.trans x0W
    obtain ⟨hfl, hfs⟩ := hu.fields
    have Hfs := hide hfs
    have HPF := hide HPF
    have HLC := hide HLC
    have Hfind := hide Hfind
    have HPs := hide hPs
    have HPA := hide hPA
    have HP0 := hide hP0
    have HW0 := hide hW0
    have HW := hide hW
    have hPl := hide hPl
    have hKl := hide hKl
    clear hPJ hKN hLF hfs hPs hPA hP0 hW0 hW ih h1 h2 hw ht hmt hmu hst hty hc hv hgw hgr hS m1 m2 n2
    obtain ⟨un, ue, ⟨ufa, ufl, ufc⟩, ug, ui⟩ := uv
    simp only at hfl
    subst hfl
    go_enter Tryz.func33, Tryz.ntmps33
    go_wp2_with fail
    rw [← unhide HW0]
    refine (putter_any _ W0).mono ?_
    rintro e w' ⟨rfl, hw'⟩
    rw [hw', ← unhide HW, unhide HzW]
    clear hw' w'
    obtain ⟨d0, d1, d2, d3, d4, d5, d6, d7, d8, d9, d10, d11, _⟩ := rowN12 (x0W.heap r1)
    have z1 := lt_of_heap (x0W.heap r1)
    go_wp2
    go_loopw [18] (fun iu wr => ∃ (j : Nat) (vi vL : Value), iu = .int .i64 j ∧ j ≤ u.fields.length ∧ PutP (Kh + 5) wr W.heap.size (w.heap.size + 1 + 1 + 1 + 1) (fun b => W.heap.size ≤ b) vi vL ((PJ j).map (·.1)) ((PJ j).map (·.2)) ∧ PFr W wr (w.heap.size + 1 + 1 + 1 + 1) none none) (fun iu _ => u.fields.length - (intOf iu).toNat)
    case atStart => exact ⟨0, .slice none 0 0, .slice none 0 0, rfl, by omega, ⟨x0W.heap r4, by rw [unhide HP0]; exact World.ownsRow_nil _ _ _ _, by rw [unhide HP0]; exact VRow.nil _ _ _ _ _⟩, PFr.refl _ _ _ _⟩
    case round =>
      obtain ⟨j, vi, vL, rfl, hj, hPw, hF⟩ := hrel
      have hwr := hF.size
      have nn : ∀ b : Nat, some b ≠ (none : Option Nat) := fun b e => by cases e
      have q0 := hF.heap (x0W.heap r0) (by omega) (nn _) (nn _)
      have q1 := hF.heap (x0W.heap r1) (by omega) (nn _) (nn _)
      have q2 := hF.heap (x0W.heap r2) (by omega) (nn _) (nn _)
      have q3 := hF.heap (x0W.heap r3) (by omega) (nn _) (nn _)
      have q5 := hF.heap r5 (by omega) (nn _) (nn _)
      have hEw : Ext w wr := hF.toExt hxw (by omega) (fun _ e => by cases e) (fun _ e => by cases e)
      clear d0 d1 d2 d3 d4 d5 d6 d7 d8 d9 d10 d11 z1
      by_cases hlt : j < u.fields.length
      · obtain ⟨g, hg⟩ : ∃ g, u.fields[j]? = some g := ⟨u.fields[j], by simp [hlt]⟩
        obtain ⟨ib, io, cs, eia, hri, rfl⟩ := unhide Hfs j g hg
        subst eia
        obtain ⟨i0, i1, i2, i3, i4⟩ := range5 (hEw.range hri)
        have hgm := List.mem_of_getElem? hg
        have hfd := unhide Hfind g hgm
        have hps := unhide HPs j g hg
        have hPl := unhide hPl j
        have hkl := unhide hKl g
        obtain ⟨wA, hwA⟩ : ∃ wA, wA = wr.alloc (.cells #[.int .i64 g.id, .string g.name, .string g.type, .int .i64 g.kind, .int .i64 g.rule] 70) := ⟨_, rfl⟩
        have xA : Ext wr wA := by rw [hwA]; exact (Ext.refl wr).alloc _
        have rA : wA.heap[wr.heap.size]? = some (.cells #[.int .i64 g.id, .string g.name, .string g.type, .int .i64 g.kind, .int .i64 g.rule] 70 (0, 0)) := by rw [hwA]; exact heap_alloc_new wr _
        have hzA : wr.heap.size + 1 ≤ wA.heap.size ∧ wA.heap.size ≤ wr.heap.size + 1 := by rw [hwA]; simp
        have hcK := unhide HPF g hfd wA (hEw.trans xA)
        have HcK := hide hcK
        generalize KN g = kn at *
        obtain ⟨a0, a1, _⟩ := rowN2 q0
        obtain ⟨d0, d1, d2, d3, d4, d5, d6, d7, d8, d9, d10, d11, _⟩ := rowN12 q1
        obtain ⟨v0, v1, v2, v3, v4, _⟩ := rowN5 q2
        have z0 := lt_of_heap q0
        have z1 := lt_of_heap q1
        have z2 := lt_of_heap q2
        have hjb : ((PJ j).map (·.1)).length ≤ 1001 * j ∧ ((PJ j).map (·.2)).length ≤ 1001 * j := by rw [List.length_map, List.length_map]; exact ⟨hPl, hPl⟩
        have HwA := hide hwA
        have HPw := hide hPw
        have HF := hide hF
        have Hps := hide hps
        have Hjb := hide hjb
        have Hkl := hide hkl
        clear hcK hwA hPw hF hps hjb hkl hPl hri hg
        go_wp2_with fail
        rw [← unhide HwA]
        refine (unhide HcK).mono ?_
        rintro e w1 ⟨sk, rfl, hvk, x1⟩
        have hP1 := (unhide HPw).ext (xA.trans x1)
        have hlt1 := (unhide HPw).lt1
        have hlt2 := (unhide HPw).lt2
        obtain ⟨sk', esk, hsk, hskok, hskb⟩ := hvk.slice
        have hskl := hvk.slice_len
        obtain ⟨ska, skl, skc⟩ := sk
        obtain ⟨ska', skl', skc'⟩ := sk'
        simp only [Value.slice.injEq] at esk
        obtain ⟨rfl, rfl, rfl⟩ := esk
        simp only at hskl
        subst hskl
        have hjb := unhide Hjb
        have hkl := unhide Hkl
        have hsz1 := x1.size
        have hput := put_any (Kh + 4) g.id ⟨ska, kn.length, skc⟩ kn w1 W.heap.size (w.heap.size + 1 + 1 + 1 + 1) (w.heap.size + 5) (fun b => W.heap.size ≤ b) (fun b => wA.heap.size ≤ b ∧ b < w1.heap.size) vi vL ((PJ j).map (·.1)) ((PJ j).map (·.2)) hP1 ((xA.trans x1).heap q5) (by omega) (by omega) (by omega) (by omega) (fun b hb e => by omega)
          (fun b hb => ⟨by omega, fun e => by have := (hlt1 b e).2; omega, fun e => by have := (hlt2 b e).2; omega, hb.2⟩) hsk
          (fun ad ha => by
            have := hskb ad ha
            exact ⟨fun e => by have := (hlt1 _ e).2; omega, fun e => by have := (hlt2 _ e).2; omega, by omega⟩) (by omega) (by omega)
        have Hput := hide hput
        have rA1 := x1.heap rA
        obtain ⟨g0, g1, g2, g3, g4, _⟩ := rowN5 rA1
        have zA1 := lt_of_heap rA1
        have b5 := (row1 ((xA.trans x1).heap q5)).1
        clear hput hP1 hsk hskok hskb hvk HcK a0 a1 d0 d1 d2 d3 d4 d5 d6 d7 d8 d9 d10 d11 v0 v1 v2 v3 v4 z0 z1 z2 i0 i1 i2 i3 i4
        go_wp2_with fail
        refine (unhide Hput).mono ?_
        rintro e w2 ⟨rfl, vi2, vL2, hP2, hF12, hvi2, hvL2⟩
        have hF2 : PFr W w2 (w.heap.size + 1 + 1 + 1 + 1) none none := ((unhide HF).ext (xA.trans x1)).trans hF12 (.inr fun k hk => by have := (hlt1 k hk).1; omega) (.inr fun k hk => by have := (hlt2 k hk).1; omega)
        have ng : some wr.heap.size ≠ vi.ownBlock := fun e => by have := (hlt1 _ e.symm).2; omega
        have ng2 : some wr.heap.size ≠ vL.ownBlock := fun e => by have := (hlt2 _ e.symm).2; omega
        have rA2 := hF12.heap rA1 (by omega) ng ng2
        have e20 := hF2.heap (x0W.heap r0) (by omega) (nn _) (nn _)
        have e30 := hF2.heap (x0W.heap r1) (by omega) (nn _) (nn _)
        have e50 := hF2.heap r5 (by omega) (nn _) (nn _)
        obtain ⟨g0, g1, g2, g3, g4, _⟩ := rowN5 rA2
        have zA2 := lt_of_heap rA2
        have hvi2' : some wr.heap.size ≠ vi2.ownBlock ∧ some wr.heap.size ≠ vL2.ownBlock := ⟨fun e => by
            rcases hvi2 with h | h
            · exact ng (h ▸ e)
            · have := h _ e.symm; omega, fun e => by
            rcases hvL2 with h | h
            · exact ng2 (h ▸ e)
            · have := h _ e.symm; omega⟩
        have HP2 := hide hP2
        have HF2 := hide hF2
        clear Hput hP2 hF12 hF2 hvi2 hvL2
        by_cases hcase : kn.length = 0 ∧ g.rule = 1
        · obtain ⟨hk0, hr1⟩ := hcase
          obtain ⟨hp1, hp2⟩ := piece_none (lf := LF) hk0 hr1
          have hps' := unhide Hps
          have hI : (PJ (j + 1)).map (·.1) = (PJ j).map (·.1) ++ [g.id] := by rw [hps', List.map_append, hp1]
          have hV : (PJ (j + 1)).map (·.2) = (PJ j).map (·.2) ++ [LF g] := by rw [hps', List.map_append, hp2]
          have hkn : kn = [] := List.length_eq_zero_iff.1 hk0
          have HP2' : Hid (PutP (Kh + 5) w2 W.heap.size (w.heap.size + 1 + 1 + 1 + 1) (fun b => W.heap.size ≤ b) vi2 vL2 ((PJ j).map (·.1)) ((PJ j).map (·.2))) := by
            have h := unhide HP2
            rw [hkn] at h
            simp only [List.map_nil, List.append_nil] at h
            exact h
          have hkb : ((kn.length : Int) == 0) = true := by simp [hk0]
          have hrb : (g.rule == 1) = true := by simp [hr1]
          have HI := hide hI
          have HV := hide hV
          have hEw2 : Ext w w2 := (unhide HF2).toExt hxw (by omega) (fun _ e => by cases e) (fun _ e => by cases e)
          have hfd' := hide hfd
          clear hk0 hr1 hp1 hp2 hps' hI hV hkn HP2 hfd
          obtain ⟨a0, a1, _⟩ := rowN2 e20
          obtain ⟨d0, d1, d2, d3, d4, d5, d6, d7, d8, d9, d10, d11, _⟩ := rowN12 e30
          have z2 := lt_of_heap e20
          have z3 := lt_of_heap e30
          have b5 := (row1 e50).1
          go_wp2_with fail
          refine wp_region_X (fun w' => w'.cell? ⟨w.heap.size, 1, none⟩ = some (.slice s2.a s2.len s2.cap) ∧ w'.cell? ⟨w.heap.size + 1, 5, none⟩ = some (.string un) ∧ w'.cell? ⟨w.heap.size + 1, 6, none⟩ = some (.bool ue) ∧ w'.cell? ⟨w.heap.size + 1, 7, none⟩ = some (.slice (some ⟨ib, io, none⟩) u.fields.length ufc) ∧ w'.cell? ⟨w.heap.size + 1, 8, none⟩ = some (.slice ug.a ug.len ug.cap) ∧ w'.cell? ⟨w.heap.size + 1, 9, none⟩ = some (.slice ui.a ui.len ui.cap) ∧ w'.cell? ⟨wr.heap.size, 0, none⟩ = some (.int .i64 g.id)) (fun _ => false) (by kernel_rfl) ?_
          obtain ⟨Wd, hWd⟩ : ∃ Wd, Wd = w2.drew := ⟨_, rfl⟩
          have fd : Ext w2 Wd := by rw [hWd]; exact (Ext.refl w2).drew
          rw [← hWd]
          clear hWd
          have hSx : ∀ {w'}, Ext w2 w' → w'.cell? ⟨w.heap.size, 1, none⟩ = some (.slice s2.a s2.len s2.cap) ∧ w'.cell? ⟨w.heap.size + 1, 5, none⟩ = some (.string un) ∧ w'.cell? ⟨w.heap.size + 1, 6, none⟩ = some (.bool ue) ∧ w'.cell? ⟨w.heap.size + 1, 7, none⟩ = some (.slice (some ⟨ib, io, none⟩) u.fields.length ufc) ∧ w'.cell? ⟨w.heap.size + 1, 8, none⟩ = some (.slice ug.a ug.len ug.cap) ∧ w'.cell? ⟨w.heap.size + 1, 9, none⟩ = some (.slice ui.a ui.len ui.cap) ∧ w'.cell? ⟨wr.heap.size, 0, none⟩ = some (.int .i64 g.id) := fun h => ⟨h.cell a1, h.cell d5, h.cell d6, h.cell d7, h.cell d8, h.cell d9, h.cell g0⟩
          refine wpAnyX_take (i := 0) (v := .func (.func 114) #[] #[.pointer (some ⟨w.heap.size + 5, 0, none⟩)]) rfl (by kernel_rfl) (by kernel_rfl) (fun _ _ _ h => h) (.inl ⟨rfl, fun w' hS => by simp [execOp, go_sem]⟩) ((hSx fd)) ?_
          simp only [Act.put, List.getElem_toArray, List.getElem_cons_zero, List.getElem_cons_succ, List.setIfInBounds_toArray, List.set_cons_succ, List.set_cons_zero]
          refine wpAnyX_take (i := 1) (v := .pointer (some ⟨wr.heap.size, 0, none⟩)) rfl (by kernel_rfl) (by kernel_rfl) (fun _ _ _ h => h) (.inl ⟨rfl, fun w' hS => by simp [execOp, go_sem]⟩) ((hSx fd)) ?_
          simp only [Act.put, List.getElem_toArray, List.getElem_cons_zero, List.getElem_cons_succ, List.setIfInBounds_toArray, List.set_cons_succ, List.set_cons_zero]
          refine wpAnyX_take (i := 2) (v := .int .i64 g.id) rfl (by kernel_rfl) (by kernel_rfl) (fun _ _ _ h => h) (.inl ⟨rfl, fun w' hS => by simp [execOp, go_sem, hS.2.2.2.2.2.2]⟩) ((hSx fd)) ?_
          simp only [Act.put, List.getElem_toArray, List.getElem_cons_zero, List.getElem_cons_succ, List.setIfInBounds_toArray, List.set_cons_succ, List.set_cons_zero]
          refine wpAnyX_take (i := 3) (v := .pointer (some ⟨w.heap.size, 1, none⟩)) rfl (by kernel_rfl) (by kernel_rfl) (fun _ _ _ h => h) (.inl ⟨rfl, fun w' hS => by simp [execOp, go_sem]⟩) ((hSx fd)) ?_
          simp only [Act.put, List.getElem_toArray, List.getElem_cons_zero, List.getElem_cons_succ, List.setIfInBounds_toArray, List.set_cons_succ, List.set_cons_zero]
          refine wpAnyX_take (i := 4) (v := .agg #[.slice s2.a s2.len s2.cap]) rfl (by kernel_rfl) (by kernel_rfl) (fun _ _ _ h => h) (.inl ⟨rfl, fun w' hS => by simp [execOp, go_sem, hS.1]⟩) ((hSx fd)) ?_
          simp only [Act.put, List.getElem_toArray, List.getElem_cons_zero, List.getElem_cons_succ, List.setIfInBounds_toArray, List.set_cons_succ, List.set_cons_zero]
          refine wpAnyX_take (i := 5) (v := .pointer (some ⟨w.heap.size + 1, 5, none⟩)) rfl (by kernel_rfl) (by kernel_rfl) (fun _ _ _ h => h) (.inl ⟨rfl, fun w' hS => by simp [execOp, go_sem]⟩) ((hSx fd)) ?_
          simp only [Act.put, List.getElem_toArray, List.getElem_cons_zero, List.getElem_cons_succ, List.setIfInBounds_toArray, List.set_cons_succ, List.set_cons_zero]
          refine wpAnyX_take (i := 6) (v := .agg #[.string un, .bool ue, .slice (some ⟨ib, io, none⟩) u.fields.length ufc, .slice ug.a ug.len ug.cap, .slice ui.a ui.len ui.cap]) rfl (by kernel_rfl) (by kernel_rfl) (fun _ _ _ h => h) (.inl ⟨rfl, fun w' hS => by simp [execOp, go_sem, hS.2.1, hS.2.2.1, hS.2.2.2.1, hS.2.2.2.2.1, hS.2.2.2.2.2.1]⟩) ((hSx fd)) ?_
          simp only [Act.put, List.getElem_toArray, List.getElem_cons_zero, List.getElem_cons_succ, List.setIfInBounds_toArray, List.set_cons_succ, List.set_cons_zero]
          refine wpAnyX_take (i := 7) (v := .pointer (some ⟨wr.heap.size, 0, none⟩)) rfl (by kernel_rfl) (by kernel_rfl) (fun _ _ _ h => h) (.inl ⟨rfl, fun w' hS => by simp [execOp, go_sem]⟩) ((hSx fd)) ?_
          simp only [Act.put, List.getElem_toArray, List.getElem_cons_zero, List.getElem_cons_succ, List.setIfInBounds_toArray, List.set_cons_succ, List.set_cons_zero]
          refine wpAnyX_take (i := 8) (v := .int .i64 g.id) rfl (by kernel_rfl) (by kernel_rfl) (fun _ _ _ h => h) (.inl ⟨rfl, fun w' hS => by simp [execOp, go_sem, hS.2.2.2.2.2.2]⟩) ((hSx fd)) ?_
          simp only [Act.put, List.getElem_toArray, List.getElem_cons_zero, List.getElem_cons_succ, List.setIfInBounds_toArray, List.set_cons_succ, List.set_cons_zero]
          refine wpAnyX_one (j := 9) rfl (by kernel_rfl) rfl fun K hK => ?_
          go_wp2_with fail
          refine (unhide HLC g (unhide hfd') Wd (hEw2.trans fd)).mono ?_
          rintro e w3 ⟨oi, ol, rfl, hov, x3⟩
          have f3 := fd.trans x3
          generalize LF g = y at *
          have Hov := hide hov
          clear hov
          go_wp2
          refine hK.out _ _ ((hSx f3)) ?_
          clear hK K
          refine wpAnyX_one (j := 10) rfl (by kernel_rfl) rfl fun K hK => ?_
          go_wp2
          obtain ⟨W5, hW5⟩ : ∃ W5, W5 = w3.alloc (.cells #[.int .i64 y.kind, .int .i64 y.n, .string y.s, .slice oi.a oi.len oi.cap, .slice ol.a ol.len ol.cap] 37) := ⟨_, rfl⟩
          have x5 : Ext w3 W5 := by rw [hW5]; exact (Ext.refl w3).alloc _
          have r5' : W5.rangeAt w3.heap.size 0 [.int .i64 y.kind, .int .i64 y.n, .string y.s, .slice oi.a oi.len oi.cap, .slice ol.a ol.len ol.cap] := by rw [hW5]; exact range_of_new5 _ _ _ _ _ _ _ rfl
          have hz5 : w3.heap.size + 1 ≤ W5.heap.size := by rw [hW5]; simp
          rw [← hW5]
          clear hW5
          have f5 := f3.trans x5
          refine hK.out _ _ ((hSx f5)) ?_
          clear hK K
          have hP5 := (unhide HP2').ext f5
          have l1 := (unhide HP2').lt1
          have l2 := (unhide HP2').lt2
          have hF2s := (unhide HF2).size
          have hfds := fd.size
          have hx3s := x3.size
          have hjb := unhide Hjb
          have hsl : SliceAt 5 (ValueAtP (fun b => Wd.heap.size ≤ b ∧ b < W5.heap.size) (Kh + 5)) W5 ⟨some ⟨w3.heap.size, 0, none⟩, 1, 1⟩ [y] := ⟨rfl, fun i x hx => by
            have hi : i = 0 := by have := (List.getElem?_eq_some_iff.1 hx).1; simp at this; omega
            subst hi
            simp at hx
            subst hx
            exact ⟨w3.heap.size, 0, _, rfl, by simpa using r5', (((unhide Hov).ext x5).le (by omega)).sub fun b hb => ⟨hb.1, by have := hb.2; omega⟩⟩⟩
          have hput := put_any (Kh + 4) g.id ⟨some ⟨w3.heap.size, 0, none⟩, 1, 1⟩ [y] W5 W.heap.size (w.heap.size + 1 + 1 + 1 + 1) (w.heap.size + 5) (fun b => W.heap.size ≤ b) (fun b => Wd.heap.size ≤ b ∧ b < W5.heap.size) vi2 vL2 ((PJ j).map (·.1)) ((PJ j).map (·.2)) hP5 (f5.heap e50) (by omega) (by omega) (by omega) (by omega) (fun b hb e => by omega)
            (fun b hb => ⟨by omega, fun e => by have := (l1 b e).2; omega, fun e => by have := (l2 b e).2; omega, hb.2⟩) hsl
            (fun ad ha => by
              cases ha
              exact ⟨fun e => by have : w3.heap.size < w2.heap.size := (l1 _ e).2; omega, fun e => by have : w3.heap.size < w2.heap.size := (l2 _ e).2; omega, by show w3.heap.size ≠ _; omega⟩) (by simp only [List.length_cons, List.length_nil]; omega) (by simp only [List.length_cons, List.length_nil]; omega)
          have Hput := hide hput
          clear hput hsl hP5
          refine wpAnyX_one (j := 11) rfl (by kernel_rfl) rfl fun K hK => ?_
          go_wp2_with fail
          refine (unhide Hput).mono ?_
          rintro e w6 ⟨rfl, vi3, vL3, hP3, hF53, hvi3, hvL3⟩
          have hF6 : PFr W w6 (w.heap.size + 1 + 1 + 1 + 1) none none := ((unhide HF2).ext f5).trans hF53 (.inr fun k hk => by have := (l1 k hk).1; omega) (.inr fun k hk => by have := (l2 k hk).1; omega)
          have hk6 : ∀ {p : Addr} {c : Value}, w2.cell? p = some c → p.block ≠ w.heap.size + 1 + 1 + 1 + 1 → some p.block ≠ vi2.ownBlock → some p.block ≠ vL2.ownBlock → w6.cell? p = some c := fun h a b c => hF53.cell (f5.cell h) a b c
          have n1 : ∀ b, b < W.heap.size → some b ≠ vi2.ownBlock ∧ some b ≠ vL2.ownBlock := fun b hb => ⟨fun e => by have := (l1 b e.symm).1; omega, fun e => by have := (l2 b e.symm).1; omega⟩
          have ngi : some wr.heap.size ≠ vi2.ownBlock ∧ some wr.heap.size ≠ vL2.ownBlock := by
            have e1 := hvi2'
            exact e1
          have hS6 : w6.cell? ⟨w.heap.size, 1, none⟩ = some (.slice s2.a s2.len s2.cap) ∧ w6.cell? ⟨w.heap.size + 1, 5, none⟩ = some (.string un) ∧ w6.cell? ⟨w.heap.size + 1, 6, none⟩ = some (.bool ue) ∧ w6.cell? ⟨w.heap.size + 1, 7, none⟩ = some (.slice (some ⟨ib, io, none⟩) u.fields.length ufc) ∧ w6.cell? ⟨w.heap.size + 1, 8, none⟩ = some (.slice ug.a ug.len ug.cap) ∧ w6.cell? ⟨w.heap.size + 1, 9, none⟩ = some (.slice ui.a ui.len ui.cap) ∧ w6.cell? ⟨wr.heap.size, 0, none⟩ = some (.int .i64 g.id) := by
            have m0 := n1 w.heap.size (by omega)
            have m1 := n1 (w.heap.size + 1) (by omega)
            exact ⟨hk6 a1 (by show w.heap.size ≠ _; omega) m0.1 m0.2, hk6 d5 (by show w.heap.size + 1 ≠ _; omega) m1.1 m1.2, hk6 d6 (by show w.heap.size + 1 ≠ _; omega) m1.1 m1.2, hk6 d7 (by show w.heap.size + 1 ≠ _; omega) m1.1 m1.2, hk6 d8 (by show w.heap.size + 1 ≠ _; omega) m1.1 m1.2, hk6 d9 (by show w.heap.size + 1 ≠ _; omega) m1.1 m1.2, hk6 g0 (by show wr.heap.size ≠ _; omega) ngi.1 ngi.2⟩
          have HP3 := hide hP3
          have HF6 := hide hF6
          clear Hput hP3 hF53 hF6 hvi3 hvL3 hk6 n1 ngi l1 l2
          go_wp2
          refine hK.out _ _ (hS6) ?_
          clear hK K
          refine wpAnyX_end [] [] rfl (by intro j i hj; simp at hj) (by kernel_rfl) (by intro i hi; simp at hi) fun K hK => ?_
          go_wp2
          refine hK.out _ _ ?_
          clear hK K
          go_wp2
          exact ⟨⟨j + 1, vi3, vL3, by go_num, by omega, by rw [unhide HI, unhide HV]; exact unhide HP3, unhide HF6⟩, by simp [intOf]; omega⟩
        · obtain ⟨hp1, hp2⟩ := piece_some (lf := LF) hcase
          have hps' := unhide Hps
          have hI : (PJ (j + 1)).map (·.1) = (PJ j).map (·.1) ++ kn.map (fun _ => g.id) := by rw [hps', List.map_append, hp1]
          have hV : (PJ (j + 1)).map (·.2) = (PJ j).map (·.2) ++ kn := by rw [hps', List.map_append, hp2]
          have HI := hide hI
          have HV := hide hV
          by_cases hk0 : kn.length = 0
          · have hkb : ((kn.length : Int) == 0) = true := by simp [hk0]
            have hrb : (g.rule == 1) = false := by simpa using fun e => hcase ⟨hk0, e⟩
            clear hk0 hcase hp1 hp2 hps' hI hV
            go_wp2
            exact ⟨⟨j + 1, vi2, vL2, by go_num, by omega, by rw [unhide HI, unhide HV]; exact unhide HP2, unhide HF2⟩, by simp [intOf]; omega⟩
          · have hkb : ((kn.length : Int) == 0) = false := by rw [beq_eq_false_iff_ne]; omega
            clear hk0 hcase hp1 hp2 hps' hI hV
            go_wp2
            exact ⟨⟨j + 1, vi2, vL2, by go_num, by omega, by rw [unhide HI, unhide HV]; exact unhide HP2, unhide HF2⟩, by simp [intOf]; omega⟩
      · have hje : j = u.fields.length := by omega
        subst hje
        have hPA := unhide HPA
        obtain ⟨hT, hoi, hvr⟩ := hPw
        obtain ⟨si, hsi⟩ : ∃ s : SV, vi = .slice s.a s.len s.cap := by obtain ⟨a', c', e'⟩ := owns_slice hoi; exact ⟨⟨a', _, c'⟩, e'⟩
        subst hsi
        obtain ⟨sl, rfl, hsl, hslok, hslb⟩ := hvr.slice
        obtain ⟨si', hsi', hint⟩ := ints_of_owns hoi (by simp)
        have hiok := ok_of_owns hoi
        have hilt := hoi.lt
        simp only [Value.slice.injEq] at hsi'
        obtain rfl : si = si' := by cases si; cases si'; simp_all
        obtain ⟨W6, hW6, r6, hx6, hk6, hs6⟩ := setN5 q3 (.int .i64 2) (.int .i64 0) (.string ⟨#[]⟩) (.slice si.a si.len si.cap) (.slice sl.a sl.len sl.cap)
        have f6 := hx6 w hEw (by omega)
        have hv6 : ValueAtP (Btw w W6) (Kh + 5 + 1) W6 [.int .i64 2, .int .i64 0, .string ⟨#[]⟩, .slice si.a si.len si.cap, .slice sl.a sl.len sl.cap] ⟨2, 0, ⟨#[]⟩, (PJ u.fields.length).map (·.1), (PJ u.fields.length).map (·.2)⟩ := by
          have h0 : ValueAtP (fun b => W.heap.size ≤ b ∧ b < wr.heap.size) (Kh + 5 + 1) wr [.int .i64 2, .int .i64 0, .string ⟨#[]⟩, .slice si.a si.len si.cap, .slice sl.a sl.len sl.cap] ⟨2, 0, ⟨#[]⟩, (PJ u.fields.length).map (·.1), (PJ u.fields.length).map (·.2)⟩ :=
            ⟨si, sl, rfl, hint, hsl, hiok, hslok, fun ad ha => hilt ad.block (by simp [Value.ownBlock, ha]), hslb⟩
          refine (h0.keep fun b ob hb hob => ?_).sub fun b hb => ⟨by have := hb.1; omega, by have := hb.2; rw [hs6]; exact this⟩
          have hb1 := hb.1
          rw [hk6 b (by omega)]; exact hob
        obtain ⟨k0', k1', k2', k3', k4', _⟩ := rowN5 r6
        obtain ⟨t0, t1, t2, t3, t4, _⟩ := rowN5 hT
        obtain ⟨y0, y1, y2, y3, y4, _⟩ := rowN5 q3
        have zT := lt_of_heap hT
        have z3 := lt_of_heap q3
        have HW6 := hide hW6
        have H6 := hide (And.intro hv6 f6)
        clear hW6 hx6 hk6 hs6 f6 hv6 hiok hilt hint hsl hslok hslb hoi hvr hPA hsi'
        go_wp2
        rw [← unhide HW6]
        exact bodyPost_ret (v := .agg #[.int .i64 2, .int .i64 0, .string ⟨#[]⟩, .slice si.a si.len si.cap, .slice sl.a sl.len sl.cap]) (by simp [results, Tryz.results33, go_sem, k0', k1', k2', k3', k4']) rfl ⟨si, sl, rfl, by rw [unhide HPA]; exact (unhide H6).1, (unhide H6).2⟩
end Go.Proofs.YtnppgeiompimaaaGreatDoor

