import Derived.Test.YtmdpdgldmedebaaGreatDoorM45
namespace Go.Proofs.YtmdpdgldmedebaaGreatDoor
set_option linter.unusedSimpArgs false
set_option linter.unusedVariables false
set_option linter.unusedSimpArgs false
set_option linter.unusedVariables false
open Go.RowKit

def voM (ts : BookM) (n : Nat) (name s : ByteArray) : Int × ValueM := recM ts n ⟨0, ⟨#[]⟩, name, 5, 0⟩ s
theorem vo_rec (ts : BookM) (n : Nat) (f : FieldM) (s : ByteArray) : recM ts n f s = voM ts n f.type s := by cases n <;> rfl
theorem vo_succ (ts : BookM) (k : Nat) (name s : ByteArray) : voM ts (k + 1) name s = readF ts (recM ts k) ((findM ts name).getD TypeM.zero) s := by
  show readM ts k _ s = _
  rw [readM_eq]; rfl
def VO (sb : SV) (ts : BookM) (n : Nat) : Prop := ∀ (name s : ByteArray) (w : World), BookAt w sb ts → (n ≠ 0 → Msg ts ((findM ts name).getD TypeM.zero)) → s.size ≤ 9223372036854775807 →
  Calls Tryz.prog 41 #[.agg #[.slice sb.a sb.len sb.cap], .string name, .string s, .int .i64 n] w fun e w' => ∃ ids l : SV, e = .returned (.tuple #[.agg #[.int .i64 (voM ts n name s).2.kind, .int .i64 (voM ts n name s).2.n, .string (voM ts n name s).2.s, .slice ids.a ids.len ids.cap, .slice l.a l.len l.cap], .int .i64 (voM ts n name s).1]) ∧
    ValueAtP (Btw w w') (n + 5) w' [.int .i64 (voM ts n name s).2.kind, .int .i64 (voM ts n name s).2.n, .string (voM ts n name s).2.s, .slice ids.a ids.len ids.cap, .slice l.a l.len l.cap] (voM ts n name s).2 ∧ Ext w w'
def lastI (p : Option Int) : Int := p.getD 0
theorem fell_last {p : Option Int} {i : Int} (h : 1 ≤ i) : fellB p i = decide (i < lastI p) := by
  cases p with
  | none =>
    have h2 : ¬ i < lastI none := by show ¬ i < 0; omega
    show false = _
    rw [eq_comm, decide_eq_false_iff_not]; exact h2
  | some q => rfl
def gotL (z : List (Int × ValueM)) : List (List ValueM) := (List.range 31).map fun (i : Nat) => ofId z (i : Int)
theorem gotL_nil : gotL [] = List.replicate 31 [] := by
  unfold gotL
  simp only [ofId, List.filter_nil, List.map_nil]
  rfl
theorem gotL_get (z : List (Int × ValueM)) {i : Nat} (h : i < 31) : (gotL z)[i]? = some (ofId z i) := by
  unfold gotL; simp [h]
theorem gotL_set (z : List (Int × ValueM)) (a : Nat) (x : ValueM) : gotL (z ++ [((a : Int), x)]) = (gotL z).set a (ofId z a ++ [x]) := by
  apply List.ext_getElem?
  intro i
  by_cases hi : i < 31
  · rw [gotL_get _ hi, ofId_snoc]
    by_cases h : a = i
    · subst h
      rw [if_pos rfl, List.getElem?_set_self (by unfold gotL; simpa using hi)]
    · rw [if_neg (by omega), List.getElem?_set_ne h, gotL_get _ hi]
  · rw [List.getElem?_eq_none (by unfold gotL; simp; omega), List.getElem?_eq_none (by rw [List.length_set]; unfold gotL; simp; omega)]

theorem info26 : (Tryz.prog.info? 26).map (fun i => (i.zero, i.size, i.bytes)) = some (some (.slice none 0 0), 1, 24) := by kernel_rfl
theorem made31 : madeCells #[Value.slice none 0 0] 31 = Array.replicate 31 (.slice none 0 0) := by kernel_rfl
theorem mk_got (w : World) : (Instr.makeSlice 94 (.int .i64 31) (.int .i64 31)).run Tryz.prog w = .ok (.slice (some ⟨w.heap.size, 0, none⟩) 31 31) (w.alloc (.cells (Array.replicate 31 (.slice none 0 0)) 26)) := by
  obtain ⟨i, hi, hz0, hz1, hz2⟩ := info_parts info26
  have := run_makeSlice (P := Tryz.prog) 94 26 i (.slice none 0 0) Tryz.underlying94 hi hz0 .i64 .i64 31 31 (by decide) (by decide) (by rw [hz1]; decide) (by rw [hz2]; decide) (by decide) (w := w)
  rw [hz1] at this
  rw [← made31]
  exact this
set_option maxHeartbeats 3200000 in
set_option maxRecDepth 10000 in
theorem valueOf_zero (sb : SV) (ts : BookM) : VO sb ts 0 := by
  intro name s w hb _ hs
  obtain ⟨w0, hw0⟩ : ∃ w0, w0 = (w.alloc (.cells #[.slice sb.a sb.len sb.cap] 24)).alloc (.cells #[.int .i64 0, .int .i64 0, .string ⟨#[]⟩, .slice none 0 0, .slice none 0 0] 28) := ⟨_, rfl⟩
  obtain ⟨hx0, hz, r0, r1⟩ := heaps2 hw0
  have HW0 := hide hw0
  have HN := hide (no_any 7 w0)
  clear hw0 hb
  go_enter Tryz.func41, Tryz.ntmps41
  go_wp2_with fail
  rw [← unhide HW0]
  refine (unhide HN).mono ?_
  rintro e w1 ⟨rfl, hx1⟩
  have hE1 := hx0.trans hx1
  have R1 := hx1.heap r1
  obtain ⟨c0, c1, c2, c3, c4, _⟩ := row5 R1
  have z1 := lt_of_heap R1
  go_wp2
  refine bodyPost_ret (v := .tuple #[.agg #[.int .i64 0, .int .i64 0, .string ⟨#[]⟩, .slice none 0 0, .slice none 0 0], .int .i64 7]) ?_ rfl ?_
  · simp [results, Tryz.results41, go_sem, c0, c1, c2, c3, c4, z1]
  · exact ⟨⟨none, 0, 0⟩, ⟨none, 0, 0⟩, rfl, zeroAtP _ _ _, hE1.setCell5 (by omega) _ _ _ _ _⟩

set_option maxHeartbeats 400000000 in
set_option maxRecDepth 10000 in
theorem valueOf_of (sb : SV) (ts : BookM) (hg : goodM ts = 0) (k : Nat) (hk : k < 24) (hV : VO sb ts k) : VO sb ts (k + 1) := by
  intro name s w hb hm hs
  have hm := hm (by omega)
  have hn := good_small hg
  obtain ⟨t, hT⟩ : ∃ t, t = (findM ts name).getD TypeM.zero := ⟨_, rfl⟩
  rw [← hT] at hm
  have htl := hm.len hg
  obtain ⟨r, hr⟩ : ∃ r, r = voM ts (k + 1) name s := ⟨_, rfl⟩
  rw [← hr]
  rw [vo_succ, ← hT] at hr
  unfold readF at hr
  obtain ⟨E0, hE0⟩ : ∃ E0, E0 = decE s.data.toList := ⟨_, rfl⟩
  obtain ⟨ps, hps0⟩ : ∃ ps, ps = decL s.data.toList := ⟨_, rfl⟩
  have hsmall : E0 = 0 → (ps.length ≤ 20000 ∧ ∀ p ∈ ps, p.s.size ≤ 20000) ∧ ∀ p ∈ ps, p.good := fun h => by rw [hps0]; exact ⟨parts_small (by rw [← hE0]; exact h), (decL_good (by rw [← hE0]; exact h)).2.1⟩
  rw [← hE0, ← hps0] at hr
  obtain ⟨L, hL0⟩ : ∃ L, L = readL ts (recM ts k) t none ps ([], []) := ⟨_, rfl⟩
  rw [← hL0] at hr
  have Hr1 : Hid (E0 ≠ 0 → r = (E0, ValueM.zero)) := fun h => by rw [hr, if_pos h]
  have Hr2 : Hid (E0 = 0 → L.1 ≠ 0 → r = (L.1, ValueM.zero)) := fun h h2 => by rw [hr, if_neg (by simp [h]), if_pos h2]
  have Hr3 : Hid (E0 = 0 → L.1 = 0 → r = (0, fillV ts t L.2)) := fun h h2 => by rw [hr, if_neg (by simp [h]), if_neg (by simp [h2])]
  clear hr
  obtain ⟨w0, hw0⟩ : ∃ w0, w0 = (w.alloc (.cells #[.slice sb.a sb.len sb.cap] 24)).alloc (.cells #[.int .i64 0, .int .i64 0, .string ⟨#[]⟩, .slice none 0 0, .slice none 0 0] 28) := ⟨_, rfl⟩
  obtain ⟨hx0, hz, r0, r1⟩ := heaps2 hw0
  obtain ⟨D, hD⟩ : ∃ D : Int, D = ((k + 1 : Nat) : Int) := ⟨_, rfl⟩
  have hDlo : 0 < D := by omega
  have hDhi : D ≤ 24 := by omega
  have hDb : (D == 0) = false := by simp; omega
  rw [← hD]
  have b0 : w0.cell? ⟨w.heap.size, 0, none⟩ = some (.slice sb.a sb.len sb.cap) := cell_of_row _ _ 0 _ _ _ r0
  have HP := hide (decodeParts_any s w0 hs)
  rw [← hE0, ← hps0] at HP
  have HT := hide (fun w2 (hx : Ext w0 w2) => refTypeOf_any sb ts name w2 ((hb.ext hx0).ext hx) hn.1)
  rw [← hT] at HT
  have HS := hide (fun (f : FieldM) (kd nn : Int) (ss : ByteArray) (w2 : World) (hx : Ext w0 w2) (h1 : ss.size ≤ 1048576) (h2 : 1 ≤ f.kind ∧ f.kind ≤ 5) => single_any sb ts f kd nn ss ⟨none, 0, 0⟩ ⟨none, 0, 0⟩ w2 ((hb.ext hx0).ext hx) hn h1 h2)
  have HV := hide (fun (f : FieldM) (ss : ByteArray) (w2 : World) (hx : Ext w0 w2) (h1 : k ≠ 0 → Msg ts ((findM ts f.type).getD TypeM.zero)) (h2 : ss.size ≤ 9223372036854775807) => hV f.type ss w2 ((hb.ext hx0).ext hx) h1 h2)
  have HLb := hide (fun (f : FieldM) (w2 : World) (hx : Ext w0 w2) (h1 : LrF ts (LeR ts 4) f) => leastBy_any sb ts hn 4 f w2 ((hb.ext hx0).ext hx) h1)
  have HN := hide no_any
  have HW0 := hide hw0
  have Hm := hide hm
  have HD := hide hD
  have HL0 := hide hL0
  have Hg := hide hg
  have Hsmall := hide hsmall
  clear hw0 hb hm hD hE0 hps0 hL0 hV hsmall hT hn hg hs
  go_enter Tryz.func41, Tryz.ntmps41
  go_wp2_with fail
  rw [← unhide HW0]
  refine (unhide HP).mono ?_
  rintro e w1 ⟨sv, rfl, hps, hsok, hx1⟩
  have hE1 := hx0.trans hx1
  have R1 := hx1.heap r1
  have z1 := lt_of_heap R1
  have b1 := hx1.cell b0
  have zb1 := World.block_lt_of_cell? w1 _ b1
  by_cases he0 : E0 = 0
  case neg =>
    have Hx := hide (unhide Hr1 he0)
    have heb : (E0 != 0) = true := by simpa using he0
    clear Hr1 Hr2 Hr3 Hsmall he0
    go_wp2_with fail
    refine (unhide HN E0 w1).mono ?_
    rintro e w2 ⟨rfl, hx2⟩
    have R2 := hx2.heap R1
    obtain ⟨c0, c1, c2, c3, c4, _⟩ := row5 R2
    have z2 := lt_of_heap R2
    go_wp2
    refine bodyPost_ret (v := .tuple #[.agg #[.int .i64 0, .int .i64 0, .string ⟨#[]⟩, .slice none 0 0, .slice none 0 0], .int .i64 E0]) ?_ rfl ?_
    · simp [results, Tryz.results41, go_sem, c0, c1, c2, c3, c4, z2]
    · rw [unhide Hx]
      exact ⟨⟨none, 0, 0⟩, ⟨none, 0, 0⟩, rfl, zeroAtP _ _ _, (hE1.trans hx2).setCell5 (by omega) _ _ _ _ _⟩
  have heb : (E0 != 0) = false := by simp [he0]
  obtain ⟨⟨hpl, hpss⟩, hpg⟩ := unhide Hsmall he0
  have Hr2' : Hid (L.1 ≠ 0 → r = (L.1, ValueM.zero)) := unhide Hr2 he0
  have Hr3' : Hid (L.1 = 0 → r = (0, fillV ts t L.2)) := unhide Hr3 he0
  have Hpss := hide hpss
  have Hpg := hide hpg
  obtain ⟨pa, pl, pc⟩ := sv
  have epl := hps.1
  simp only at epl
  subst epl
  have Hps := hide hps
  have hpi : ps.length ≤ 9223372036854775807 := by omega
  clear Hr1 Hr2 Hr3 Hsmall hps hpss hpg he0
  go_wp2_with fail
  refine (unhide HT w1 hx1).mono ?_
  rintro e w2 ⟨tv, rfl, htv, hx2⟩
  have hfl := htv.fields.1
  have hfs := htv.fields
  have Htv := hide htv
  have htls : t.fields.length ≤ 1048576 := by omega
  obtain ⟨tnm, ten, ⟨fa, fl, fc⟩, tg, ti⟩ := tv
  simp only at hfl hfs Htv
  subst hfl
  have Hfs := hide hfs
  obtain ⟨W2, hW2⟩ : ∃ W2, W2 = (w2.alloc (.cells #[.string tnm, .bool ten, .slice fa t.fields.length fc, .slice tg.a tg.len tg.cap, .slice ti.a ti.len ti.cap] 50)).alloc (.cells (Array.replicate 31 (.slice none 0 0)) 26) := ⟨_, rfl⟩
  obtain ⟨hxW2, hzW2, rT, rG⟩ := heaps2 hW2
  have HW2 := hide hW2
  have hmk := fun w => mk_got w
  clear hW2 htv hfs
  go_wp2
  rw [← unhide HW2]
  have hE2 := hE1.trans (hx2.trans hxW2)
  have h0W : Ext w0 W2 := hx1.trans (hx2.trans hxW2)
  have h1W : Ext w1 W2 := hx2.trans hxW2
  have rR := h1W.heap R1
  have hTw : w.heap.size + 2 ≤ w2.heap.size := by have := hx1.size; have := hx2.size; omega
  have hT0 : w0.heap.size ≤ w2.heap.size := by have := hx1.size; have := hx2.size; omega
  have hT1 : w1.heap.size ≤ w2.heap.size := hx2.size
  have hG2 : w2.heap.size + 2 ≤ W2.heap.size := by omega
  have h2W : Ext w2 W2 := hxW2
  clear HW2 hzW2 hz hxW2 zb1 b1 z1 R1
  have HR := hide rR
  clear rR
  generalize hTT : w2.heap.size = TT at *
  clear hTT
  go_loopw [16, 56] (fun vl vi wr => ∃ (j : Nat) (st : List Int × List ValueM) (vals : List Value), j ≤ ps.length ∧ vi = .int .i64 j ∧ vl = .int .i64 (lastI (prevP ps j)) ∧ Hid (L = readL ts (recM ts k) t (prevP ps j) (ps.drop j) st) ∧ wr.heap[TT + 1]? = some (.cells vals.toArray 26 (0, 0)) ∧ GRows (k + 5) wr (TT + 2) vals (gotL (st.1.zip st.2)) ∧ st.2.length = st.1.length ∧ st.1.Pairwise (· ≤ ·) ∧ (∀ a ∈ st.1, a ≤ lastI (prevP ps j) ∧ a ∈ t.fields.map (·.id)) ∧ st.1.length ≤ j ∧ Below (TT + 1) W2 wr) (fun _ i _ => ps.length - (intOf i).toNat)
  case atStart => exact ⟨0, ([], []), List.replicate 31 (.slice none 0 0), by omega, rfl, rfl, unhide HL0, by rw [rG, ← List.toArray_replicate], by show GRows _ _ _ _ (gotL []); rw [gotL_nil]; exact GRows.start _ _ _ _, rfl, List.Pairwise.nil, fun a ha => (by cases ha), by simp, Below.refl _ _⟩
  case round =>
    clear rG
    obtain ⟨j, st, vals, hj, rfl, rfl, HL, hG, hgr, hlen, hso, hin, hlj, hbl⟩ := hrel
    have hEr : Ext w wr := Below.trans hE2 (hbl.mono (by omega))
    have h0r : Ext w0 wr := Below.trans h0W (hbl.mono (by omega))
    have h1r : Ext w1 wr := Below.trans h1W (hbl.mono (by omega))
    have h2r : Ext W2 wr ∨ True := .inr trivial
    have hrw : TT + 2 ≤ wr.heap.size := by have := hbl.size; omega
    have rTr : wr.heap[TT]? = some (.cells #[.string tnm, .bool ten, .slice fa t.fields.length fc, .slice tg.a tg.len tg.cap, .slice ti.a ti.len ti.cap] 50 (0, 0)) := by rw [hbl.block _ (by omega)]; exact rT
    have rRr : wr.heap[w.heap.size + 1]? = some (.cells #[.int .i64 0, .int .i64 0, .string ⟨#[]⟩, .slice none 0 0, .slice none 0 0] 28 (0, 0)) := by rw [hbl.block _ (by omega)]; exact unhide HR
    have rBr := h0r.cell b0
    by_cases hlt : j < ps.length
    · obtain ⟨pb, po, cs, hpa, hrp, rfl⟩ := (unhide Hps).2 j ps[j] (by simp [hlt])
      simp only at hpa
      subst hpa
      obtain ⟨p0, p1, p2, p3⟩ := range4 (h1r.range hrp)
      have hpsz := unhide Hpss ps[j] (List.getElem_mem hlt)
      have hpgd := unhide Hpg ps[j] (List.getElem_mem hlt)
      have HL2 : Hid (L = if stepE ts (recM ts k) t (prevP ps j) ps[j] st ≠ 0 then (stepE ts (recM ts k) t (prevP ps j) ps[j] st, ([], [])) else readL ts (recM ts k) t (prevP ps (j + 1)) (ps.drop (j + 1)) (stepV (recM ts k) t ps[j] st)) := by unfold Hid; rw [unhide HL, readL_step hlt]
      have hnp := prevP_succ hlt
      have hji : (j : Int) < (ps.length : Int) := by omega
      generalize ps[j] = p at *
      have hpA : 1 ≤ p.id := hpgd.1
      have hpB : p.id ≤ 30 := hpgd.2.1
      have hfell := fell_last (p := prevP ps j) hpgd.1
      have Hfell := hide hfell
      have Hnp := hide hnp
      have Hso := hide hso
      have Hin := hide hin
      have Hgr := hide hgr
      have Hbl := hide hbl
      have Hlen := hide hlen
      obtain ⟨q, hq⟩ : ∃ q, q = lastI (prevP ps j) := ⟨_, rfl⟩
      have Hq := hide hq
      rw [← hq]
      clear hrp HL hfell hnp hso hin hgr hbl hlen hq h2r
      obtain ⟨W4, hW4⟩ : ∃ X, X = wr.alloc (.cells #[.int .i64 p.id, .int .i64 p.kind, .int .i64 p.n, .string p.s] 85) := ⟨_, rfl⟩
      have x4 : Ext wr W4 := by rw [hW4]; exact (Ext.refl wr).alloc _
      have rP : W4.heap[wr.heap.size]? = some (.cells #[.int .i64 p.id, .int .i64 p.kind, .int .i64 p.n, .string p.s] 85 (0, 0)) := by rw [hW4]; exact heap_alloc_new _ _
      have hz4 : wr.heap.size + 1 ≤ W4.heap.size := by rw [hW4]; simp
      have HW4 := hide hW4
      clear hW4
      by_cases hfl : p.id < q
      · have Hx : Hid (r = (1, ValueM.zero)) := by
          have h1 : L = (1, ([], [])) := by
            rw [unhide HL2, step_fell (by rw [unhide Hfell, decide_eq_true_eq, ← unhide Hq]; exact hfl)]; rfl
          unfold Hid
          rw [unhide Hr2' (by rw [h1]; decide), h1]
        clear HL2 Hr2' Hr3' Hfell
        go_wp2_with fail
        rw [← unhide HW4]
        refine (unhide HN 1 _).mono ?_
        rintro e y1 ⟨rfl, hy1⟩
        have Ry := hy1.heap (x4.heap rRr)
        obtain ⟨c0, c1, c2, c3, c4, _⟩ := row5 Ry
        have zy := lt_of_heap Ry
        go_wp2
        refine bodyPost_ret (v := .tuple #[.agg #[.int .i64 0, .int .i64 0, .string ⟨#[]⟩, .slice none 0 0, .slice none 0 0], .int .i64 1]) ?_ rfl ?_
        · simp [results, Tryz.results41, go_sem, c0, c1, c2, c3, c4, zy]
        · rw [unhide Hx]
          exact ⟨⟨none, 0, 0⟩, ⟨none, 0, 0⟩, rfl, zeroAtP _ _ _, ((hEr.trans x4).trans hy1).setCell5 (by omega) _ _ _ _ _⟩
      have hfb : fellB (prevP ps j) p.id = false := by rw [unhide Hfell, decide_eq_false_iff_not, ← unhide Hq]; exact hfl
      have Hfb := hide hfb
      clear hfb Hfell
      obtain ⟨i0, i1, i2, i3, _⟩ := row4f rP
      have HF := hide (fun w5 (hx : Ext W4 w5) => refFieldIn_any ⟨tnm, ten, ⟨fa, t.fields.length, fc⟩, tg, ti⟩ t p.id w5 ((unhide Htv).ext ((h1r.trans x4).trans hx)) htls)
      obtain ⟨s0, s1, s2, s3, s4, _⟩ := row5 rTr
      have zTT : TT < wr.heap.size := by omega
      obtain ⟨fo, hfo⟩ : ∃ fo, fo = fieldM t p.id := ⟨_, rfl⟩
      have Hfo := hide hfo
      rw [← hfo] at HF
      obtain ⟨f, hf⟩ : ∃ f, f = fo.getD FieldM.zero := ⟨_, rfl⟩
      obtain ⟨fi, hfi⟩ : ∃ fi, fi = fo.isSome := ⟨_, rfl⟩
      rw [← hf, ← hfi] at HF
      have Hf := hide hf
      have Hfi := hide hfi
      have hPid : wr.heap.size < W4.heap.size := by omega
      clear hf hfi hfo
      go_wp2_with fail
      rw [← unhide HW4]
      refine (unhide HF W4 (Ext.refl W4)).mono ?_
      rintro e V2 ⟨rfl, hxv⟩
      obtain ⟨W5, hW5⟩ : ∃ X, X = V2.alloc (.cells #[.int .i64 f.id, .string f.name, .string f.type, .int .i64 f.kind, .int .i64 f.rule] 56) := ⟨_, rfl⟩
      have hv5 : Ext V2 W5 := by rw [hW5]; exact (Ext.refl V2).alloc _
      have hx5 : Ext W4 W5 := hxv.trans hv5
      have rF : W5.heap[V2.heap.size]? = some (.cells #[.int .i64 f.id, .string f.name, .string f.type, .int .i64 f.kind, .int .i64 f.rule] 56 (0, 0)) := by rw [hW5]; exact heap_alloc_new _ _
      have hgz : W4.heap.size ≤ V2.heap.size := hxv.size
      have hW5s : W5.heap.size = V2.heap.size + 1 := by rw [hW5]; simp
      have HW5s := hide hW5s
      have HW5 := hide hW5
      clear hW5 hW5s
      obtain ⟨i0, i1, i2, i3, _⟩ := row4f (hxv.heap rP)
      have zP := lt_of_heap (hxv.heap rP)
      have hbl5 : Below (TT + 1) W2 W5 := Below.trans (unhide Hbl) ((x4.trans hx5).mono (by omega))
      have hq1 : lastI (prevP ps (j + 1)) = p.id := by rw [unhide Hnp]; rfl
      have Hq1 := hide hq1
      have hin1 : ∀ a ∈ st.1, a ≤ lastI (prevP ps (j + 1)) ∧ a ∈ t.fields.map (·.id) := fun a ha => ⟨by rw [hq1]; have := (unhide Hin a ha).1; rw [← unhide Hq] at this; omega, (unhide Hin a ha).2⟩
      have Hin1 := hide hin1
      have Hbl5 := hide hbl5
      have h05 := (h0r.trans x4).trans hx5
      have hE5 := (hEr.trans x4).trans hx5
      have hz5 : W4.heap.size ≤ W5.heap.size := hx5.size
      clear hq1 hin1 hbl5 HF s0 s1 s2 s3 s4
      cases fi
      · have HL3 : Hid (L = readL ts (recM ts k) t (prevP ps (j + 1)) (ps.drop (j + 1)) st) := by
          obtain ⟨h1, h2⟩ := step_past (ts := ts) (rec := recM ts k) (st := st) (unhide Hfb) (by rw [← unhide Hfo, ← unhide Hfi])
          unfold Hid
          rw [unhide HL2, h1, h2]; rfl
        have hG5 := (x4.trans hx5).heap hG
        clear HL2
        go_wp2
        rw [← unhide HW5]
        exact ⟨⟨j + 1, st, vals, by omega, by go_num, by rw [unhide Hq1], HL3, hG5, (unhide Hgr).ext (x4.trans hx5), unhide Hlen, unhide Hso, unhide Hin1, by omega, unhide Hbl5⟩, by simp [intOf]; omega⟩
      have hfm : fieldM t p.id = some f := by
        have h1 := unhide Hfi
        rw [unhide Hf, unhide Hfo] at *
        cases hh : fieldM t p.id with
        | none => rw [unhide Hfo, hh] at h1; cases h1
        | some y => rfl
      have Hfm := hide hfm
      have hfin := field_mem hfm
      obtain ⟨hfg, hfk, hf1, hf30⟩ := (unhide Hm).field (unhide Hg) hfin
      have hfid : f.id = p.id := by
        have := List.find?_some hfm
        simpa using this
      have Hfid := hide hfid
      have Hfg := hide hfg
      have Hfin := hide hfin
      obtain ⟨f0, f1, f2, f3, f4, _⟩ := row5 rF
      have zF := lt_of_heap rF
      have rB5 := h05.cell b0
      have rR5 := (x4.trans hx5).heap rRr
      clear hfm hfin hfid hfg
      have bV := (((h0r.trans x4).trans hxv)).cell b0
      have zbV := World.block_lt_of_cell? V2 _ bV
      have hGV := (x4.trans hxv).heap hG
      have hpn : (p.id.toNat : Int) = p.id := by omega
      have ha31 : p.id.toNat < 31 := by omega
      have Hgr5 := hide ((unhide Hgr).ext (x4.trans hx5))
      have hz1 : (st.1.zip st.2).map (·.1) = st.1 := List.map_fst_zip (by have := unhide Hlen; omega)
      obtain ⟨gv, hgv⟩ : ∃ gv, vals[p.id.toNat]? = some gv := ⟨_, List.getElem?_eq_getElem (by rw [(unhide Hgr5).len]; unfold gotL; simpa using ha31)⟩
      have hvr := (unhide Hgr5).rows p.id.toNat gv _ hgv (gotL_get _ ha31)
      rw [hpn] at hvr
      obtain ⟨sg, rfl⟩ : ∃ sg : SV, gv = .slice sg.a sg.len sg.cap := by obtain ⟨css, h1, _⟩ := hvr; obtain ⟨a', c', e'⟩ := owns_slice h1; exact ⟨⟨a', _, c'⟩, e'⟩
      have hsgl : sg.len = (ofId (st.1.zip st.2) p.id).length := by
        obtain ⟨css, h1, _⟩ := hvr; obtain ⟨a', c', e'⟩ := owns_slice h1; simp only [Value.slice.injEq] at e'; exact e'.2.1
      have hgc : V2.cell? ⟨TT + 1, p.id.toNat, none⟩ = some (.slice sg.a sg.len sg.cap) := by
        rw [cell_of_row _ _ _ _ _ _ hGV, ← Array.getElem?_toList]; exact hgv
      have hcon : (ofId (st.1.zip st.2) p.id).length = 0 ↔ st.1.contains f.id = false := by
        rw [unhide Hfid, List.length_eq_zero_iff, ofId_none, hz1]
      obtain ⟨hst1, hst2, hst3, hst4⟩ := step_field (ts := ts) (rec := recM ts k) (st := st) (unhide Hfb) (unhide Hfm)
      rw [unhide Hfid] at hst2 hst3 hst4
      rw [unhide Hfid] at hcon
      obtain ⟨o, ho⟩ : ∃ o, o = wrongOneN ts f (bareM p).kind (bareM p).n (bareM p).s 0 0 := ⟨_, rfl⟩
      rw [← ho] at hst1 hst2 hst3 hst4
      have hbk : (bareM p).kind = p.kind := rfl
      have hbn : (bareM p).n = p.n := rfl
      have hbs : (bareM p).s.size ≤ 1048576 := by
        unfold bareM; simp only; split
        · omega
        · decide
      obtain ⟨W6, hW6⟩ : ∃ X, X = W5.alloc (.cells #[.int .i64 p.kind, .int .i64 p.n, .string (bareM p).s, .slice none 0 0, .slice none 0 0] 28) := ⟨_, rfl⟩
      have x56 : Ext W5 W6 := by rw [hW6]; exact (Ext.refl W5).alloc _
      have rV6 : W6.heap[(V2.heap.size + 1)]? = some (.cells #[.int .i64 p.kind, .int .i64 p.n, .string (bareM p).s, .slice none 0 0, .slice none 0 0] 28 (0, 0)) := by rw [hW6, ← unhide HW5s]; exact heap_alloc_new _ _
      have h06 : Ext w0 W6 := h05.trans x56
      have hE6 : Ext w W6 := hE5.trans x56
      have HSp : Calls Tryz.prog 54 #[.agg #[.slice sb.a sb.len sb.cap], .agg #[.int .i64 f.id, .string f.name, .string f.type, .int .i64 f.kind, .int .i64 f.rule], .agg #[.int .i64 p.kind, .int .i64 p.n, .string (bareM p).s, .slice none 0 0, .slice none 0 0]] W6 fun e w' => e = .returned (.int .i64 o) ∧ Ext W6 w' := by
        rw [ho]; exact unhide HS f p.kind p.n (bareM p).s W6 h06 hbs hfk
      have HSp := hide HSp
      have hkk : (bareM p).s = if p.kind = 1 then p.s else ⟨#[]⟩ := rfl
      have Hst1 := hide hst1
      have Hst2 := hide hst2
      have Hst3 := hide hst3
      have Hst4 := hide hst4
      have Hcon := hide hcon
      have Hsgl := hide hsgl
      have Hvr := hide hvr
      have Hgv := hide hgv
      have Hz1 := hide hz1
      have HW6 := hide hW6
      clear hst1 hst2 hst3 hst4 hcon hsgl hvr hgv hz1 hW6 hbk hbn ho hpn
      obtain ⟨kb, hkb⟩ : ∃ kb, (p.kind == 1) = kb := ⟨_, rfl⟩
      have hSx : (bareM p).s = if kb = true then p.s else ⟨#[]⟩ := by rw [hkk, ← hkb]; by_cases h : p.kind = 1 <;> simp [h]
      clear hkk
      go_upto_if 86 with fail
      go_cut [] (fun wx => wx = W6)
      case first =>
        rename_i J0 K0 hJ0 hK0
        cases kb
        all_goals
          simp only [Bool.false_eq_true, if_false, if_true] at hSx
          have hW6q := unhide HW6
          rw [hSx] at hW6q
          have HW6q := hide hW6q
          clear hSx hW6q
          go_wp2_with fail
          first | refine Met.intro (hJ0 _ _ ?_) | refine hK0 _ _ (Met.intro (hJ0 _ _ ?_))
          (repeat apply Exists.intro)
          refine ⟨?rel, rfl⟩
          case rel => rw [← unhide HW5, ← unhide HW6q]
      case rest =>
        rw [hcut]
        clear hcut hkb hSx
        have qb0 := h06.cell b0
        obtain ⟨qf0, qf1, qf2, qf3, qf4, _⟩ := row5 (x56.heap rF)
        obtain ⟨qv0, qv1, qv2, qv3, qv4, _⟩ := row5 rV6
        have zqf := lt_of_heap (x56.heap rF)
        have zqv := lt_of_heap rV6
        have zqb := World.block_lt_of_cell? W6 _ qb0
        go_wp2_with fail
        refine (unhide HSp).mono ?_
        clear qb0 qf0 qf1 qf2 qf3 qf4 qv0 qv1 qv2 qv3 qv4 zqf zqv zqb
        rintro e w7 ⟨rfl, hx7⟩
        have x57 := x56.trans hx7
        have hE7 := hE6.trans hx7
        have h07 := h06.trans hx7
        have xr7 : Ext wr w7 := (x4.trans hx5).trans x57
        have rR7 := xr7.heap rRr
        by_cases ho0 : o = 0
        case neg =>
          have Hx : Hid (r = (o, ValueM.zero)) := by
            have h1 : L = (o, ([], [])) := by rw [unhide HL2, unhide Hst1 ho0, if_pos ho0]
            unfold Hid
            rw [unhide Hr2' (by rw [h1]; exact ho0), h1]
          have hob : (o != 0) = true := by simpa using ho0
          clear HL2 Hr2' Hr3' ho0
          go_wp2_with fail
          refine (unhide HN o _).mono ?_
          rintro e y1 ⟨rfl, hy1⟩
          have Ry := hy1.heap (rR7)
          obtain ⟨c0, c1, c2, c3, c4, _⟩ := row5 Ry
          have zy := lt_of_heap Ry
          go_wp2
          refine bodyPost_ret (v := .tuple #[.agg #[.int .i64 0, .int .i64 0, .string ⟨#[]⟩, .slice none 0 0, .slice none 0 0], .int .i64 o]) ?_ rfl ?_
          · simp [results, Tryz.results41, go_sem, c0, c1, c2, c3, c4, zy]
          · rw [unhide Hx]
            exact ⟨⟨none, 0, 0⟩, ⟨none, 0, 0⟩, rfl, zeroAtP _ _ _, ((hE7).trans hy1).setCell5 (by omega) _ _ _ _ _⟩
        have hob : (o != 0) = false := by simp [ho0]
        have Hst2' := hide (unhide Hst2 ho0)
        have Hst3' := hide (unhide Hst3 ho0)
        have Hst4' := hide (unhide Hst4 ho0)
        clear ho0
        have xV7 : Ext V2 w7 := hv5.trans x57
        have gc7 := xV7.cell hgc
        obtain ⟨i0, i1, i2, i3, _⟩ := row4f (xV7.heap (hxv.heap rP))
        obtain ⟨f0, f1, f2, f3, f4, _⟩ := row5 (x57.heap rF)
        have zF7 := lt_of_heap (x57.heap rF)
        have zP7 := lt_of_heap (xV7.heap (hxv.heap rP))
        have hp31 : p.id < 31 := by omega
        have hp0 : 0 ≤ p.id := by omega
        clear bV zbV zP
        have Hx4 : Hid (0 < sg.len → f.rule < 3 → r = (4, ValueM.zero)) := fun h1 h2 => by
          have hc : st.1.contains p.id = true := by
            cases hcc : st.1.contains p.id
            · have := (unhide Hcon).2 hcc
              have h3 := unhide Hsgl
              omega
            · rfl
          have h1 : L = (4, ([], [])) := by rw [unhide HL2, unhide Hst2' (by omega) hc]; rfl
          rw [unhide Hr2' (by rw [h1]; decide), h1]
        have Hnt : Hid (¬ (0 < sg.len ∧ f.rule < 3) → f.rule = 3 ∨ st.1.contains p.id = false) := fun h => by
          by_cases h3 : f.rule = 3
          · exact .inl h3
          · refine .inr ((unhide Hcon).1 ?_)
            rw [← unhide Hsgl]
            have := (goodField_out (unhide Hfg)).1
            omega
        go_upto_region 24 with fail
        go_cut [112] (fun s112 wx => ∃ tw : Bool, s112 = .bool tw ∧ Hid (tw = (decide (0 < sg.len) && decide (f.rule < 3))) ∧ Ext w7 wx)
        case first =>
          rename_i J0 K0 hJ0 hK0
          by_cases hl0 : 0 < sg.len
          · have hl1 : (0 : Int) < (sg.len : Int) := by omega
            by_cases hr0 : f.rule < 3
            · go_wp2_with fail
              first | refine Met.intro (hJ0 _ _ ?_) | refine hK0 _ _ (Met.intro (hJ0 _ _ ?_))
              (repeat apply Exists.intro)
              refine ⟨?rel, rfl⟩
              case rel => exact ⟨_, rfl, by unfold Hid; simp [hl0, hr0], Ext.refl _⟩
            · go_wp2_with fail
              first | refine Met.intro (hJ0 _ _ ?_) | refine hK0 _ _ (Met.intro (hJ0 _ _ ?_))
              (repeat apply Exists.intro)
              refine ⟨?rel, rfl⟩
              case rel => exact ⟨_, rfl, by unfold Hid; simp [hl0, hr0], Ext.refl _⟩
          · have hl1 : ¬ (0 : Int) < (sg.len : Int) := by omega
            have hr0 : True := trivial
            go_wp2_with fail
            first | refine Met.intro (hJ0 _ _ ?_) | refine hK0 _ _ (Met.intro (hJ0 _ _ ?_))
            (repeat apply Exists.intro)
            refine ⟨?rel, rfl⟩
            case rel => exact ⟨_, rfl, by unfold Hid; simp [hl0, hr0], Ext.refl _⟩
        case rest =>
        obtain ⟨tw, rfl, Htw, hx8⟩ := hcut
        rename World => w8
        have x58 := x57.trans hx8
        have hE8 := hE7.trans hx8
        have h08 := h07.trans hx8
        have xr8 := xr7.trans hx8
        have rR8 := xr8.heap rRr
        cases tw
        case true =>
          have h4 := unhide Htw
          rw [eq_comm, Bool.and_eq_true, decide_eq_true_eq, decide_eq_true_eq] at h4
          have Hx : Hid (r = (4, ValueM.zero)) := unhide Hx4 h4.1 h4.2
          clear HL2 Hr2' Hr3' h4 Hx4 Hnt
          go_wp2_with fail
          refine (unhide HN 4 _).mono ?_
          rintro e y1 ⟨rfl, hy1⟩
          have Ry := hy1.heap (rR8)
          obtain ⟨c0, c1, c2, c3, c4, _⟩ := row5 Ry
          have zy := lt_of_heap Ry
          go_wp2
          refine bodyPost_ret (v := .tuple #[.agg #[.int .i64 0, .int .i64 0, .string ⟨#[]⟩, .slice none 0 0, .slice none 0 0], .int .i64 4]) ?_ rfl ?_
          · simp [results, Tryz.results41, go_sem, c0, c1, c2, c3, c4, zy]
          · rw [unhide Hx]
            exact ⟨⟨none, 0, 0⟩, ⟨none, 0, 0⟩, rfl, zeroAtP _ _ _, ((hE8).trans hy1).setCell5 (by omega) _ _ _ _ _⟩
        have hnt : f.rule = 3 ∨ st.1.contains p.id = false := unhide Hnt (fun h => by
          have := unhide Htw
          rw [eq_comm, Bool.and_eq_false_iff, decide_eq_false_iff_not, decide_eq_false_iff_not] at this
          rcases this with h1 | h1
          · exact h1 h.1
          · exact h1 h.2)
        have Hst3 := hide (unhide Hst3' hnt)
        have Hst4 := hide (unhide Hst4' hnt)
        clear hnt Hx4 Hnt Htw Hst3' Hst4' i0 i1 i2 i3 f0 f1 f2 f3 f4 zF7 zP7 gc7
        have xV8 : Ext V2 w8 := hv5.trans x58
        obtain ⟨i0, i1, i2, i3, _⟩ := row4f (xV8.heap (hxv.heap rP))
        obtain ⟨f0, f1, f2, f3, f4, _⟩ := row5 (x58.heap rF)
        have zF8 := lt_of_heap (x58.heap rF)
        have zP8 := lt_of_heap (xV8.heap (hxv.heap rP))
        have x68 : Ext W6 w8 := hx7.trans hx8
        have rV8 := x68.heap rV6
        have zV8 := lt_of_heap rV8
        by_cases hk5 : f.kind = 5
        · have hkb5 : (f.kind == 5) = true := by simp [hk5]
          have Hst := hide (unhide Hst3 hk5)
          have hmm : k ≠ 0 → Msg ts ((findM ts f.type).getD TypeM.zero) := fun _ => by
            obtain ⟨u, hu, hue⟩ := good_type (unhide Hfg) (.inr hk5)
            rw [hu]
            exact ⟨f.type, hu, by show u.enum = false; rw [hue, hk5]; rfl⟩
          have HVV := hide (unhide HV f p.s w8 h08 hmm (by omega))
          have hwD : IntKind.i64.wrap (D - 1) = (k : Int) := by rw [IntKind.wrap_i64, unhide HD]; omega
          obtain ⟨X, hX⟩ : ∃ X, X = voM ts k f.type p.s := ⟨_, rfl⟩
          have HX := hide hX
          rw [← hX] at HVV
          have bW8 := h08.cell b0
          clear hmm hk5 hX Hst3 Hst4
          obtain ⟨V0, V1, V2', V3, V4, VF⟩ := row5 rV8
          go_wp2_with fail
          refine (unhide HVV).mono ?_
          rintro e w9 ⟨xi, xl, rfl, hxv9, hx9⟩
          have h09 := h08.trans hx9
          have hE9 := hE8.trans hx9
          have xr9 := xr8.trans hx9
          obtain ⟨WA, hWA, rVA, hxA, hkA, hsA⟩ := setN5 (hx9.heap rV8) (.int .i64 X.2.kind) (.int .i64 X.2.n) (.string X.2.s) (.slice xi.a xi.len xi.cap) (.slice xl.a xl.len xl.cap)
          have hwr0 := hEr.size
          have hEA := hxA w hE9 (by omega)
          have xrA := hxA wr xr9 (by omega)
          have rPA : WA.heap[wr.heap.size]? = some (.cells #[.int .i64 p.id, .int .i64 p.kind, .int .i64 p.n, .string p.s] 85 (0, 0)) := (hkA _ (by omega)).trans (hx9.heap (xV8.heap (hxv.heap rP)))
          have rRA := xrA.heap rRr
          have HWA := hide hWA
          have Hxv9 := hide hxv9
          have HkA := hide hkA
          obtain ⟨u0, u1, u2, u3, u4, uf⟩ := rowN5 (hx9.heap rV8)
          have zVA := lt_of_heap (hx9.heap rV8)
          have hrx : recM ts k f p.s = X := by rw [vo_rec, unhide HX]
          have hst := unhide Hst
          rw [hrx] at hst
          have Hst' := hide hst
          clear hWA hxA hkA hxv9 hrx hst Hst V0 V1 V2' V3 V4 VF i0 i1 i2 i3 f0 f1 f2 f3 f4 zF8 zP8 zV8
          by_cases hX0 : X.1 = 0
          case neg =>
            have Hx : Hid (r = (X.1, ValueM.zero)) := by
              have h1 : L = (X.1, ([], [])) := by rw [unhide HL2, (unhide Hst').1, if_pos hX0]
              unfold Hid
              rw [unhide Hr2' (by rw [h1]; exact hX0), h1]
            have hXb : (X.1 != 0) = true := by simpa using hX0
            clear HL2 Hr2' Hr3' hX0 Hst'
            go_wp2_with fail
            rw [← unhide HWA]
            refine (unhide HN X.1 _).mono ?_
            rintro e y1 ⟨rfl, hy1⟩
            have Ry := hy1.heap (rRA)
            obtain ⟨c0, c1, c2, c3, c4, _⟩ := row5 Ry
            have zy := lt_of_heap Ry
            go_wp2
            refine bodyPost_ret (v := .tuple #[.agg #[.int .i64 0, .int .i64 0, .string ⟨#[]⟩, .slice none 0 0, .slice none 0 0], .int .i64 X.1]) ?_ rfl ?_
            · simp [results, Tryz.results41, go_sem, c0, c1, c2, c3, c4, zy]
            · rw [unhide Hx]
              exact ⟨⟨none, 0, 0⟩, ⟨none, 0, 0⟩, rfl, zeroAtP _ _ _, ((hEA).trans hy1).setCell5 (by omega) _ _ _ _ _⟩
          have hXb : (X.1 != 0) = false := by simp [hX0]
          obtain ⟨x, rVx0, hxv0, HL3⟩ : ∃ (x : ValueM), WA.heap[(V2.heap.size + 1)]? = some (.cells #[.int .i64 x.kind, .int .i64 x.n, .string x.s, .slice xi.a xi.len xi.cap, .slice xl.a xl.len xl.cap] 28 (0, 0)) ∧ ValueAtP (fun b => GX (TT + 2) vals b ∧ b < WA.heap.size) (k + 5) WA [.int .i64 x.kind, .int .i64 x.n, .string x.s, .slice xi.a xi.len xi.cap, .slice xl.a xl.len xl.cap] x ∧ Hid (L = readL ts (recM ts k) t (prevP ps (j + 1)) (ps.drop (j + 1)) (st.1 ++ [p.id], st.2 ++ [x])) := by
            refine ⟨X.2, rVA, ?_, ?_⟩
            · refine ((unhide Hxv9).keep fun b ob hb hob => ?_).sub fun b hb => ?_
              · rw [unhide HkA b (by have := hb.1; have := lt_of_heap rV8; omega)]; exact hob
              · have h1 := hb.1
                have h2 := hb.2
                have h3 := xr8.size
                refine ⟨⟨by omega, fun v hv e => ?_⟩, by omega⟩
                have := ((unhide Hgr).lt hv b e).2
                omega
            · have hst := unhide Hst'
              unfold Hid
              rw [unhide HL2, hst.1, hX0, hst.2]; rfl
          clear Hst' hX0 HL2 Hxv9 HkA rVA
          go_upto_region 30 with fail
          rw [← unhide HWA]
          obtain ⟨Wx, hWx⟩ : ∃ Wx, Wx = WA := ⟨_, rfl⟩
          rw [← hWx] at rVx0 hxv0 ⊢
          have hEx : Ext w Wx := by rw [hWx]; exact hEA
          have xrx : Ext wr Wx := by rw [hWx]; exact xrA
          have rPx : Wx.heap[wr.heap.size]? = some (.cells #[.int .i64 p.id, .int .i64 p.kind, .int .i64 p.n, .string p.s] 85 (0, 0)) := by rw [hWx]; exact rPA
          have rVx := rVx0
          have Hxv := hide hxv0
          clear hWx rVx0 hxv0 u0 u1 u2 u3 u4 uf zVA
          go_cut [139] (fun s139 wx => ∃ b : Bool, s139 = .bool b ∧ Ext Wx wx)
          case first =>
            rename_i J0 K0 hJ0 hK0
            refine wp_region_X (fun w' => Ext Wx w') (fun _ => false) (by kernel_rfl) ?_
            obtain ⟨Wq, hWq⟩ : ∃ Wq, Wq = Wx.drew := ⟨_, rfl⟩
            have hSq : Ext Wx Wq := by rw [hWq]; exact (Ext.refl Wx).drew
            rw [← hWq]
            clear hWq
            refine wpAnyX_one (j := 0) rfl (by kernel_rfl) rfl fun K hK => ?_
            go_wp2
            have fa : ∀ u : Value, Ext Wx (Wq.alloc (.cells #[u] 4)) := fun u => hSq.alloc _
            refine hK.out _ _ ((fa _)) ?_
            clear hK K
            refine wpAnyX_two (i := 1) (j := 2) rfl rfl (by kernel_rfl) rfl rfl (fun K hK => ?_) (fun K hK => ?_)
            · go_wp2
              refine hK.out _ _ ((fa _)) ?_
              clear hK K
              refine wpAnyX_one (j := 2) rfl (by kernel_rfl) rfl fun K hK => ?_
              go_wp2
              refine hK.out _ _ ((fa _)) ?_
              clear hK K
              refine wpAnyX_one (j := 3) rfl (by kernel_rfl) rfl fun K hK => ?_
              go_wp2
              refine hK.out _ _ ((fa _)) ?_
              clear hK K
              refine wpAnyX_end [] [] rfl (by intro j i hj; simp at hj) (by kernel_rfl) (by intro i hi; simp at hi) fun K hK => ?_
              go_wp2
              refine hK.out _ _ ?_
              clear hK K
              first | refine Met.intro (hJ0 _ _ ?_) | refine hK0 _ _ (Met.intro (hJ0 _ _ ?_))
              (repeat apply Exists.intro)
              refine ⟨?rel, rfl⟩
              case rel => exact ⟨_, rfl, fa _⟩
            · go_wp2
              refine hK.out _ _ ((fa _)) ?_
              clear hK K
              refine wpAnyX_one (j := 1) rfl (by kernel_rfl) rfl fun K hK => ?_
              go_wp2
              refine hK.out _ _ ((fa _)) ?_
              clear hK K
              refine wpAnyX_one (j := 3) rfl (by kernel_rfl) rfl fun K hK => ?_
              go_wp2
              refine hK.out _ _ ((fa _)) ?_
              clear hK K
              refine wpAnyX_end [] [] rfl (by intro j i hj; simp at hj) (by kernel_rfl) (by intro i hi; simp at hi) fun K hK => ?_
              go_wp2
              refine hK.out _ _ ?_
              clear hK K
              first | refine Met.intro (hJ0 _ _ ?_) | refine hK0 _ _ (Met.intro (hJ0 _ _ ?_))
              (repeat apply Exists.intro)
              refine ⟨?rel, rfl⟩
              case rel => exact ⟨_, rfl, fa _⟩
          case rest =>
          obtain ⟨b4, rfl, hE4⟩ := hcut
          rename World => wc
          have xrc : Ext wr wc := xrx.trans hE4
          have hEc : Ext w wc := hEx.trans hE4
          have hGc := xrc.heap hG
          have hgcell : wc.cell? ⟨TT + 1, p.id.toNat, none⟩ = some (.slice sg.a sg.len sg.cap) := by
            rw [cell_of_row _ _ _ _ _ _ hGc, ← Array.getElem?_toList]; exact unhide Hgv
          obtain ⟨n0, _⟩ := row4f (hE4.heap rPx)
          obtain ⟨m0, m1, m2, m3, m4, _⟩ := row5 (hE4.heap rVx)
          have hS0 : GvS (TT + 1) p.id.toNat wr.heap.size (V2.heap.size + 1) p.id (.slice sg.a sg.len sg.cap) (.int .i64 x.kind) (.int .i64 x.n) (.string x.s) (.slice xi.a xi.len xi.cap) (.slice xl.a xl.len xl.cap) wc := ⟨hgcell, n0, m0, m1, m2, m3, m4⟩
          have hpn : (p.id.toNat : Int) = p.id := by omega
          have hcz : (V2.heap.size + 1) < wc.heap.size := lt_of_heap (hE4.heap rVx)
          have hPz : wr.heap.size < (V2.heap.size + 1) := by omega
          have hsgin : (.slice sg.a sg.len sg.cap : Value) ∈ vals := List.mem_of_getElem? (unhide Hgv)
          have hsglt : ∀ b, Value.ownBlock (.slice sg.a sg.len sg.cap) = some b → TT + 2 ≤ b ∧ b < wr.heap.size := (unhide Hgr).lt hsgin
          have hst1l : st.1.length ≤ 1000000 := by omega
          have hofl : (ofId (st.1.zip st.2) p.id).length ≤ st.1.length := by
            unfold ofId
            rw [List.length_map]
            exact Nat.le_trans (List.length_filter_le _ _) (by rw [List.length_zip]; omega)
          have hgs := fun (v6 : Value) => gotL_set (st.1.zip st.2) p.id.toNat x
          have hzs : (st.1 ++ [p.id]).zip (st.2 ++ [x]) = st.1.zip st.2 ++ [(p.id, x)] := zip_snoc (unhide Hlen) _ _
          have hgs1 : gotL ((st.1 ++ [p.id]).zip (st.2 ++ [x])) = (gotL (st.1.zip st.2)).set p.id.toNat (ofId (st.1.zip st.2) p.id ++ [x]) := by
            have := gotL_set (st.1.zip st.2) p.id.toNat x
            rw [hpn] at this
            rw [hzs]; exact this
          have Hgs1 := hide hgs1
          have Hpn := hide hpn
          clear hgs hzs hgs1 hpn m0 m1 m2 m3 m4 n0 hgcell
          cases b4 with
          | false =>
            go_wp2_with fail
            refine wp_region_X (GvS (TT + 1) p.id.toNat wr.heap.size (V2.heap.size + 1) p.id (.slice sg.a sg.len sg.cap) (.int .i64 x.kind) (.int .i64 x.n) (.string x.s) (.slice xi.a xi.len xi.cap) (.slice xl.a xl.len xl.cap)) (fun j => decide (12 ≤ j)) (by kernel_rfl) ?_
            obtain ⟨We, hWe⟩ : ∃ We, We = wc.drew := ⟨_, rfl⟩
            have fe : Ext wc We := by rw [hWe]; exact (Ext.refl wc).drew
            rw [← hWe]
            have hS7 := hS0.ext fe
            clear hWe
            refine wpAnyX_take (i := 0) (v := .slice (some ⟨TT + 1, 0, none⟩) 31 31) rfl (by kernel_rfl) (by kernel_rfl) (fun _ _ _ h => h) (.inl ⟨rfl, fun w' hS => by simp [execOp, go_sem]⟩) (hS7) ?_
            simp only [Act.put, List.getElem_toArray, List.getElem_cons_zero, List.getElem_cons_succ, List.setIfInBounds_toArray, List.set_cons_succ, List.set_cons_zero]
            refine wpAnyX_take (i := 1) (v := .pointer (some ⟨wr.heap.size, 0, none⟩)) rfl (by kernel_rfl) (by kernel_rfl) (fun _ _ _ h => h) (.inl ⟨rfl, fun w' hS => by simp [execOp, go_sem]⟩) (hS7) ?_
            simp only [Act.put, List.getElem_toArray, List.getElem_cons_zero, List.getElem_cons_succ, List.setIfInBounds_toArray, List.set_cons_succ, List.set_cons_zero]
            refine wpAnyX_take (i := 2) (v := .int .i64 p.id) rfl (by kernel_rfl) (by kernel_rfl) (fun _ _ _ h => h) (.inl ⟨rfl, fun w' hS => by simp [execOp, go_sem, hS.2.1]⟩) (hS7) ?_
            simp only [Act.put, List.getElem_toArray, List.getElem_cons_zero, List.getElem_cons_succ, List.setIfInBounds_toArray, List.set_cons_succ, List.set_cons_zero]
            refine wpAnyX_take (i := 3) (v := .slice (some ⟨TT + 1, 0, none⟩) 31 31) rfl (by kernel_rfl) (by kernel_rfl) (fun _ _ _ h => h) (.inl ⟨rfl, fun w' hS => by simp [execOp, go_sem]⟩) (hS7) ?_
            simp only [Act.put, List.getElem_toArray, List.getElem_cons_zero, List.getElem_cons_succ, List.setIfInBounds_toArray, List.set_cons_succ, List.set_cons_zero]
            refine wpAnyX_take (i := 4) (v := .pointer (some ⟨wr.heap.size, 0, none⟩)) rfl (by kernel_rfl) (by kernel_rfl) (fun _ _ _ h => h) (.inl ⟨rfl, fun w' hS => by simp [execOp, go_sem]⟩) (hS7) ?_
            simp only [Act.put, List.getElem_toArray, List.getElem_cons_zero, List.getElem_cons_succ, List.setIfInBounds_toArray, List.set_cons_succ, List.set_cons_zero]
            refine wpAnyX_take (i := 5) (v := .int .i64 p.id) rfl (by kernel_rfl) (by kernel_rfl) (fun _ _ _ h => h) (.inl ⟨rfl, fun w' hS => by simp [execOp, go_sem, hS.2.1]⟩) (hS7) ?_
            simp only [Act.put, List.getElem_toArray, List.getElem_cons_zero, List.getElem_cons_succ, List.setIfInBounds_toArray, List.set_cons_succ, List.set_cons_zero]
            refine wpAnyX_take (i := 6) (v := .pointer (some ⟨TT + 1, p.id.toNat, none⟩)) rfl (by kernel_rfl) (by kernel_rfl) (fun _ _ _ h => h) (.inl ⟨rfl, fun w' hS => by simp [execOp, go_sem, hp0, hp31, ha31]⟩) (hS7) ?_
            simp only [Act.put, List.getElem_toArray, List.getElem_cons_zero, List.getElem_cons_succ, List.setIfInBounds_toArray, List.set_cons_succ, List.set_cons_zero]
            refine wpAnyX_take (i := 7) (v := .slice sg.a sg.len sg.cap) rfl (by kernel_rfl) (by kernel_rfl) (fun _ _ _ h => h) (.inl ⟨rfl, fun w' hS => by simp [execOp, go_sem, hS.1]⟩) (hS7) ?_
            simp only [Act.put, List.getElem_toArray, List.getElem_cons_zero, List.getElem_cons_succ, List.setIfInBounds_toArray, List.set_cons_succ, List.set_cons_zero]
            refine wpAnyX_take (i := 8) (v := .agg #[.int .i64 x.kind, .int .i64 x.n, .string x.s, .slice xi.a xi.len xi.cap, .slice xl.a xl.len xl.cap]) rfl (by kernel_rfl) (by kernel_rfl) (fun _ _ _ h => h) (.inl ⟨rfl, fun w' hS => by simp [execOp, go_sem, hS.2.2.1, hS.2.2.2.1, hS.2.2.2.2.1, hS.2.2.2.2.2.1, hS.2.2.2.2.2.2]⟩) (hS7) ?_
            simp only [Act.put, List.getElem_toArray, List.getElem_cons_zero, List.getElem_cons_succ, List.setIfInBounds_toArray, List.set_cons_succ, List.set_cons_zero]
            refine wpAnyX_one (j := 9) rfl (by kernel_rfl) rfl fun K hK => ?_
            go_wp2
            obtain ⟨Wf, hWf⟩ : ∃ Wf, Wf = We.alloc (.cells #[.int .i64 x.kind, .int .i64 x.n, .string x.s, .slice xi.a xi.len xi.cap, .slice xl.a xl.len xl.cap] 28) := ⟨_, rfl⟩
            have ff : Ext wc Wf := by rw [hWf]; exact fe.alloc _
            have rf : Wf.rangeAt We.heap.size 0 [.int .i64 x.kind, .int .i64 x.n, .string x.s, .slice xi.a xi.len xi.cap, .slice xl.a xl.len xl.cap] := by rw [hWf]; exact range_of_new5 _ _ _ _ _ _ _ rfl
            rw [← hWf]
            clear hWf
            have hSf := hS0.ext ff
            refine hK.out _ _ (hSf) ?_
            clear hK K
            have hgf := (unhide Hgr).ext (xrc.trans ff)
            have hrow := hgf.rows p.id.toNat (.slice sg.a sg.len sg.cap) _ (unhide Hgv) (gotL_get _ ha31)
            rw [unhide Hpn] at hrow
            obtain ⟨css, hc1, hc2, hc3⟩ := hrow
            have hxf : ValueAtP (fun b => GX (TT + 2) vals b ∧ Value.ownBlock (.slice sg.a sg.len sg.cap) ≠ some b ∧ none ≠ some b ∧ b < Wf.heap.size) (k + 5) Wf [.int .i64 x.kind, .int .i64 x.n, .string x.s, .slice xi.a xi.len xi.cap, .slice xl.a xl.len xl.cap] x :=
              ((unhide Hxv).ext (hE4.trans ff)).sub fun b hb => ⟨hb.1, hb.1.2 _ hsgin, (fun e => by cases e), Nat.lt_of_lt_of_le hb.2 (hE4.trans ff).size⟩
            have Hc1 := hide hc1
            have hbf : TT + 2 ≤ Wf.heap.size := by have := ff.size; omega
            refine wpAnyX_one (j := 10) rfl (by kernel_rfl) rfl fun K hK => ?_
            refine wpList_app1w _ _ 26 28 (.agg #[.int .i64 0, .int .i64 0, .string ⟨#[]⟩, .slice none 0 0, .slice none 0 0]) 5 80 Tryz.underlying26 info28 rfl (by decide) (by decide) rfl rfl (TT + 2) (.slice sg.a sg.len sg.cap) (ofId (st.1.zip st.2) p.id).length _ rfl (unhide Hc1) We.heap.size 1 [.int .i64 x.kind, .int .i64 x.n, .string x.s, .slice xi.a xi.len xi.cap, .slice xl.a xl.len xl.cap] rfl rfl rf ?d2 ?d3 hbf ?_
            case d2 => exact hxf.one
            case d3 => omega
            intro v6 w6 ho6 hg6 hw6
            obtain ⟨s6, hs6⟩ : ∃ s : SV, v6 = .slice s.a s.len s.cap := by obtain ⟨a', c', e'⟩ := owns_slice ho6; exact ⟨⟨a', _, c'⟩, e'⟩
            subst hs6
            have hv6 := VRow.push hc2 hc3 hxf ho6 hg6 hw6
            have hgr6 := GRows.turn hgf (unhide Hgv) hv6 hg6 hw6
            have hnG : some (TT + 1) ≠ Value.ownBlock (.slice sg.a sg.len sg.cap) := fun e => by have := (hsglt _ e.symm).1; omega
            have hnP : some wr.heap.size ≠ Value.ownBlock (.slice sg.a sg.len sg.cap) := fun e => by have := (hsglt _ e.symm).2; omega
            have hnV : some (V2.heap.size + 1) ≠ Value.ownBlock (.slice sg.a sg.len sg.cap) := fun e => by have := (hsglt _ e.symm).2; omega
            have hG6 : w6.heap[TT + 1]? = some (.cells vals.toArray 26 (0, 0)) := by
              have h0 := ff.heap hGc
              rw [hg6.block _ (lt_of_heap h0) hnG]; exact h0
            have hS6 := hSf.grown hg6 hnG hnP hnV
            have hbl6 : Below (TT + 1) W2 w6 := (Below.trans (unhide Hbl) ((xrc.trans ff).mono (by omega))).grown hg6 (by omega) (fun k hk => by have := (hsglt k hk).1; omega)
            have hzG := lt_of_heap hG6
            have hfG : w6.frozen? ⟨TT + 1, p.id.toNat, none⟩ = false := frozen_of_row _ _ _ _ _ hG6
            have hcG := hS6.1
            have Hgr6 := hide hgr6
            have Hbl6 := hide hbl6
            clear ho6 hg6 hw6 hc1 hc2 hc3 hv6 hgr6 hbl6 hxf hgf hnG hnP hnV Hc1
            refine hK.out _ _ (hS6) ?_
            clear hK K
            refine wpAnyX_take (i := 11) (v := .pointer (some ⟨TT + 1, p.id.toNat, none⟩)) rfl (by kernel_rfl) (by kernel_rfl) (fun _ _ _ h => h) (.inl ⟨rfl, fun w' hS => by simp [execOp, go_sem, hp0, hp31, ha31]⟩) (hS6) ?_
            simp only [Act.put, List.getElem_toArray, List.getElem_cons_zero, List.getElem_cons_succ, List.setIfInBounds_toArray, List.set_cons_succ, List.set_cons_zero]
            refine wpAnyX_end [12] [_] rfl (by intro j i hj; match j, hj with | 0, hj => cases hj; rfl) (by kernel_rfl) (by intro i hi; cases hi; rfl) fun K hK => ?_
            simp only [List.getElem_toArray, List.getElem_cons_succ, List.getElem_cons_zero]
            go_wp2
            refine hK.out _ _ ?_
            clear hK K
            go_wp2
            refine ⟨⟨j + 1, (st.1 ++ [p.id], st.2 ++ [x]), vals.set p.id.toNat (.slice s6.a s6.len s6.cap), by omega, by go_num, by rw [unhide Hq1], unhide HL3, ?_, ?_, by simp only [List.length_append, List.length_singleton]; rw [unhide Hlen], pw_snoc (unhide Hso) (fun a ha => by rw [← unhide Hq1]; exact (unhide Hin1 a ha).1), ?_, by simp only [List.length_append, List.length_singleton]; omega, ?_⟩, by simp [intOf]; omega⟩
            · have := heap_setCell_same w6 (TT + 1) p.id.toNat _ 26 (.slice s6.a s6.len s6.cap) hG6
              simpa using this
            · rw [unhide Hgs1]
              exact (unhide Hgr6).set (by show TT + 1 < TT + 2; omega) _
            · intro a ha
              rcases List.mem_append.1 ha with h | h
              · exact unhide Hin1 a h
              · rw [List.mem_singleton.1 h]
                exact ⟨by rw [unhide Hq1]; omega, List.mem_map.2 ⟨f, unhide Hfin, unhide Hfid⟩⟩
            · exact (unhide Hbl6).setCell (by show TT + 1 ≤ TT + 1; omega) _
          | true =>
            go_wp2_with fail
            refine wp_region_X (GvS (TT + 1) p.id.toNat wr.heap.size (V2.heap.size + 1) p.id (.slice sg.a sg.len sg.cap) (.int .i64 x.kind) (.int .i64 x.n) (.string x.s) (.slice xi.a xi.len xi.cap) (.slice xl.a xl.len xl.cap)) (fun j => decide (10 ≤ j)) (by kernel_rfl) ?_
            obtain ⟨We, hWe⟩ : ∃ We, We = wc.drew := ⟨_, rfl⟩
            have fe : Ext wc We := by rw [hWe]; exact (Ext.refl wc).drew
            rw [← hWe]
            have hS7 := hS0.ext fe
            clear hWe
            refine wpAnyX_take (i := 0) (v := .slice (some ⟨TT + 1, 0, none⟩) 31 31) rfl (by kernel_rfl) (by kernel_rfl) (fun _ _ _ h => h) (.inl ⟨rfl, fun w' hS => by simp [execOp, go_sem]⟩) (hS7) ?_
            simp only [Act.put, List.getElem_toArray, List.getElem_cons_zero, List.getElem_cons_succ, List.setIfInBounds_toArray, List.set_cons_succ, List.set_cons_zero]
            refine wpAnyX_take (i := 1) (v := .pointer (some ⟨wr.heap.size, 0, none⟩)) rfl (by kernel_rfl) (by kernel_rfl) (fun _ _ _ h => h) (.inl ⟨rfl, fun w' hS => by simp [execOp, go_sem]⟩) (hS7) ?_
            simp only [Act.put, List.getElem_toArray, List.getElem_cons_zero, List.getElem_cons_succ, List.setIfInBounds_toArray, List.set_cons_succ, List.set_cons_zero]
            refine wpAnyX_take (i := 2) (v := .int .i64 p.id) rfl (by kernel_rfl) (by kernel_rfl) (fun _ _ _ h => h) (.inl ⟨rfl, fun w' hS => by simp [execOp, go_sem, hS.2.1]⟩) (hS7) ?_
            simp only [Act.put, List.getElem_toArray, List.getElem_cons_zero, List.getElem_cons_succ, List.setIfInBounds_toArray, List.set_cons_succ, List.set_cons_zero]
            refine wpAnyX_take (i := 3) (v := .pointer (some ⟨TT + 1, p.id.toNat, none⟩)) rfl (by kernel_rfl) (by kernel_rfl) (fun _ _ _ h => h) (.inl ⟨rfl, fun w' hS => by simp [execOp, go_sem, hp0, hp31, ha31]⟩) (hS7) ?_
            simp only [Act.put, List.getElem_toArray, List.getElem_cons_zero, List.getElem_cons_succ, List.setIfInBounds_toArray, List.set_cons_succ, List.set_cons_zero]
            refine wpAnyX_take (i := 4) (v := .slice sg.a sg.len sg.cap) rfl (by kernel_rfl) (by kernel_rfl) (fun _ _ _ h => h) (.inl ⟨rfl, fun w' hS => by simp [execOp, go_sem, hS.1]⟩) (hS7) ?_
            simp only [Act.put, List.getElem_toArray, List.getElem_cons_zero, List.getElem_cons_succ, List.setIfInBounds_toArray, List.set_cons_succ, List.set_cons_zero]
            refine wpAnyX_take (i := 5) (v := .agg #[.int .i64 x.kind, .int .i64 x.n, .string x.s, .slice xi.a xi.len xi.cap, .slice xl.a xl.len xl.cap]) rfl (by kernel_rfl) (by kernel_rfl) (fun _ _ _ h => h) (.inl ⟨rfl, fun w' hS => by simp [execOp, go_sem, hS.2.2.1, hS.2.2.2.1, hS.2.2.2.2.1, hS.2.2.2.2.2.1, hS.2.2.2.2.2.2]⟩) (hS7) ?_
            simp only [Act.put, List.getElem_toArray, List.getElem_cons_zero, List.getElem_cons_succ, List.setIfInBounds_toArray, List.set_cons_succ, List.set_cons_zero]
            refine wpAnyX_take (i := 6) (v := .int .i64 sg.len) rfl (by kernel_rfl) (by kernel_rfl) (fun _ _ _ h => h) (.inl ⟨rfl, fun w' hS => by simp [execOp, go_sem]⟩) (hS7) ?_
            simp only [Act.put, List.getElem_toArray, List.getElem_cons_zero, List.getElem_cons_succ, List.setIfInBounds_toArray, List.set_cons_succ, List.set_cons_zero]
            refine wpAnyX_one (j := 7) rfl (by kernel_rfl) rfl fun K hK => ?_
            go_wp2
            obtain ⟨Wf, hWf⟩ : ∃ Wf, Wf = We.alloc (.cells #[.int .i64 0, .int .i64 0, .string ⟨#[]⟩, .slice none 0 0, .slice none 0 0] 28) := ⟨_, rfl⟩
            have ff : Ext wc Wf := by rw [hWf]; exact fe.alloc _
            have rf : Wf.rangeAt We.heap.size 0 [.int .i64 0, .int .i64 0, .string ⟨#[]⟩, .slice none 0 0, .slice none 0 0] := by rw [hWf]; exact range_of_new5 _ _ _ _ _ _ _ rfl
            rw [← hWf]
            clear hWf
            have hSf := hS0.ext ff
            refine hK.out _ _ (hSf) ?_
            clear hK K
            have hgf := (unhide Hgr).ext (xrc.trans ff)
            have hrow := hgf.rows p.id.toNat (.slice sg.a sg.len sg.cap) _ (unhide Hgv) (gotL_get _ ha31)
            rw [unhide Hpn] at hrow
            have hLn : sg.len = (ofId (st.1.zip st.2) p.id).length := VRow.slice_len hrow
            obtain ⟨css, hc1, hc2, hc3⟩ := hrow
            have hzf : ValueAtP (fun b => GX (TT + 2) vals b ∧ Value.ownBlock (.slice sg.a sg.len sg.cap) ≠ some b ∧ none ≠ some b ∧ b < Wf.heap.size) (k + 5) Wf [.int .i64 0, .int .i64 0, .string ⟨#[]⟩, .slice none 0 0, .slice none 0 0] ValueM.zero := zeroAtP _ _ _
            have hxf : ValueAtP (fun b => GX (TT + 2) vals b ∧ b < Wf.heap.size) (k + 5) Wf [.int .i64 x.kind, .int .i64 x.n, .string x.s, .slice xi.a xi.len xi.cap, .slice xl.a xl.len xl.cap] x :=
              ((unhide Hxv).ext (hE4.trans ff)).sub fun b hb => ⟨hb.1, Nat.lt_of_lt_of_le hb.2 (hE4.trans ff).size⟩
            have Hc1 := hide hc1
            have hbf : TT + 2 ≤ Wf.heap.size := by have := ff.size; omega
            refine wpAnyX_one (j := 8) rfl (by kernel_rfl) rfl fun K hK => ?_
            refine wpList_app1w _ _ 26 28 (.agg #[.int .i64 0, .int .i64 0, .string ⟨#[]⟩, .slice none 0 0, .slice none 0 0]) 5 80 Tryz.underlying26 info28 rfl (by decide) (by decide) rfl rfl (TT + 2) (.slice sg.a sg.len sg.cap) (ofId (st.1.zip st.2) p.id).length _ rfl (unhide Hc1) We.heap.size 1 [.int .i64 0, .int .i64 0, .string ⟨#[]⟩, .slice none 0 0, .slice none 0 0] rfl rfl rf ?d2 ?d3 hbf ?_
            case d2 => exact hzf.one
            case d3 => omega
            intro v6 w6 ho6 hg6 hw6
            obtain ⟨s6, hs6⟩ : ∃ s : SV, v6 = .slice s.a s.len s.cap := by obtain ⟨a', c', e'⟩ := owns_slice ho6; exact ⟨⟨a', _, c'⟩, e'⟩
            subst hs6
            have hw6' : Value.ownBlock (.slice s6.a s6.len s6.cap) = Value.ownBlock (.slice sg.a sg.len sg.cap) ∨ ∃ g', Value.ownBlock (.slice s6.a s6.len s6.cap) = some g' ∧ Wf.heap.size ≤ g' := hw6
            have hv6 := VRow.push hc2 hc3 hzf ho6 hg6 hw6
            have hgr6 := GRows.turn hgf (unhide Hgv) hv6 hg6 hw6
            have hnG : some (TT + 1) ≠ Value.ownBlock (.slice sg.a sg.len sg.cap) := fun e => by have := (hsglt _ e.symm).1; omega
            have hnP : some wr.heap.size ≠ Value.ownBlock (.slice sg.a sg.len sg.cap) := fun e => by have := (hsglt _ e.symm).2; omega
            have hnV : some (V2.heap.size + 1) ≠ Value.ownBlock (.slice sg.a sg.len sg.cap) := fun e => by have := (hsglt _ e.symm).2; omega
            have hG6 : w6.heap[TT + 1]? = some (.cells vals.toArray 26 (0, 0)) := by
              have h0 := ff.heap hGc
              rw [hg6.block _ (lt_of_heap h0) hnG]; exact h0
            have hS6 := hSf.grown hg6 hnG hnP hnV
            have hbl6 : Below (TT + 1) W2 w6 := (Below.trans (unhide Hbl) ((xrc.trans ff).mono (by omega))).grown hg6 (by omega) (fun k hk => by have := (hsglt k hk).1; omega)
            have hzG := lt_of_heap hG6
            have hfG : w6.frozen? ⟨TT + 1, p.id.toNat, none⟩ = false := frozen_of_row _ _ _ _ _ hG6
            have hcG := hS6.1
            have hx7 : ValueAtP (fun b => GX (TT + 2) (vals.set p.id.toNat (.slice s6.a s6.len s6.cap)) b ∧ Value.ownBlock (.slice s6.a s6.len s6.cap) ≠ some b ∧ none ≠ some b ∧ b < w6.heap.size) (k + 5) w6 [.int .i64 x.kind, .int .i64 x.n, .string x.s, .slice xi.a xi.len xi.cap, .slice xl.a xl.len xl.cap] x := by
              refine (hxf.keep fun b ob hb hob => ?_).sub fun b hb => ?_
              · rw [hg6.block b hb.2 (fun e => hb.1.2 _ hsgin e.symm)]; exact hob
              · have hns : Value.ownBlock (.slice s6.a s6.len s6.cap) ≠ some b := by
                  rcases hw6' with e | ⟨g', e, hge⟩
                  · rw [e]; exact hb.1.2 _ hsgin
                  · rw [e]; intro he; cases he; have := hb.2; omega
                refine ⟨⟨hb.1.1, fun v hv => ?_⟩, hns, (fun e => by cases e), by have := hg6.size; have := hb.2; omega⟩
                rcases List.mem_or_eq_of_mem_set hv with h | h
                · exact hb.1.2 v h
                · rw [h]; exact hns
            have hrow6 : ∃ g6 c6 cur, s6 = ⟨some ⟨g6, 0, none⟩, (ofId (st.1.zip st.2) p.id).length + 1, c6⟩ ∧ w6.heap[g6]? = some (.cells cur 28 (0, 0)) ∧ TT + 2 ≤ g6 ∧ ∀ j, j < 5 → (w6.cell? ⟨g6, (ofId (st.1.zip st.2) p.id).length * 5 + j, none⟩).isSome = true := by
              rcases ho6.2 with ⟨_, e⟩ | ⟨g, cap, cur, e, hbg, hg, hcc, hm, hs, ht⟩
              · omega
              · obtain ⟨a6, n6, c6⟩ := s6
                simp only [Value.slice.injEq] at e
                obtain ⟨rfl, rfl, rfl⟩ := e
                refine ⟨g, c6, cur, rfl, hg, hbg, fun j hj => ?_⟩
                rw [cell_of_row w6 g _ cur 28 _ hg]
                have : ((ofId (st.1.zip st.2) p.id).length + 1) * 5 ≤ c6 * 5 := Nat.mul_le_mul_right 5 hcc
                simp; omega
            have Hrow6 := hide hrow6
            have Hx7 := hide hx7
            have Hgr6 := hide hgr6
            have Hbl6 := hide hbl6
            clear ho6 hg6 hw6 hw6' hc1 hc2 hc3 hv6 hgr6 hbl6 hxf hzf hgf hnG hnP hnV Hc1 hrow6 hx7
            refine hK.out _ _ (hS6) ?_
            clear hK K
            refine wpAnyX_take (i := 9) (v := .pointer (some ⟨TT + 1, p.id.toNat, none⟩)) rfl (by kernel_rfl) (by kernel_rfl) (fun _ _ _ h => h) (.inl ⟨rfl, fun w' hS => by simp [execOp, go_sem, hp0, hp31, ha31]⟩) (hS6) ?_
            simp only [Act.put, List.getElem_toArray, List.getElem_cons_zero, List.getElem_cons_succ, List.setIfInBounds_toArray, List.set_cons_succ, List.set_cons_zero]
            refine wpAnyX_end [10] [_] rfl (by intro j i hj; match j, hj with | 0, hj => cases hj; rfl) (by kernel_rfl) (by intro i hi; cases hi; rfl) fun K hK => ?_
            simp only [List.getElem_toArray, List.getElem_cons_succ, List.getElem_cons_zero]
            go_wp2
            refine hK.out _ _ ?_
            clear hK K
            obtain ⟨g6, c6, cur, rfl, hg6, hbg6, hiso⟩ := unhide Hrow6
            obtain ⟨La, Ln, Lc⟩ := sg
            simp only at hLn
            subst hLn
            have hTg : g6 ≠ TT + 1 := by omega
            obtain ⟨W7, hW7⟩ : ∃ W7, W7 = w6.setCell ⟨TT + 1, p.id.toNat, none⟩ (.slice (some ⟨g6, 0, none⟩) ((ofId (st.1.zip st.2) p.id).length + 1) c6) := ⟨_, rfl⟩
            have h7G : W7.heap[TT + 1]? = some (.cells (vals.set p.id.toNat (.slice (some ⟨g6, 0, none⟩) ((ofId (st.1.zip st.2) p.id).length + 1) c6)).toArray 26 (0, 0)) := by
              rw [hW7]
              have := heap_setCell_same w6 (TT + 1) p.id.toNat _ 26 (.slice (some ⟨g6, 0, none⟩) ((ofId (st.1.zip st.2) p.id).length + 1) c6) hG6
              simpa using this
            have hgr7 : GRows (k + 5) W7 (TT + 2) (vals.set p.id.toNat (.slice (some ⟨g6, 0, none⟩) ((ofId (st.1.zip st.2) p.id).length + 1) c6)) ((gotL (st.1.zip st.2)).set p.id.toNat (ofId (st.1.zip st.2) p.id ++ [ValueM.zero])) := by rw [hW7]; exact (unhide Hgr6).set (by show TT + 1 < TT + 2; omega) _
            have hbl7 : Below (TT + 1) W2 W7 := by rw [hW7]; exact (unhide Hbl6).setCell (by show TT + 1 ≤ TT + 1; omega) _
            have h7x : ValueAtP (fun b => GX (TT + 2) (vals.set p.id.toNat (.slice (some ⟨g6, 0, none⟩) ((ofId (st.1.zip st.2) p.id).length + 1) c6)) b ∧ some g6 ≠ some b ∧ none ≠ some b ∧ b < W7.heap.size) (k + 5) W7 [.int .i64 x.kind, .int .i64 x.n, .string x.s, .slice xi.a xi.len xi.cap, .slice xl.a xl.len xl.cap] x := by
              rw [hW7]
              refine ((unhide Hx7).keep fun b ob hb hob => ?_).sub fun b hb => ⟨hb.1, hb.2.1, hb.2.2.1, by rw [size_setCell]; exact hb.2.2.2⟩
              rw [Below.heap_setCell _ _ _ _ (show b ≠ TT + 1 by have := hb.1.1; omega)]; exact hob
            have h7g : W7.heap[g6]? = some (.cells cur 28 (0, 0)) := by rw [hW7, heap_setCell_other _ _ _ _ hTg]; exact hg6
            have h7i : ∀ j, j < 5 → (W7.cell? ⟨g6, (ofId (st.1.zip st.2) p.id).length * 5 + j, none⟩).isSome = true := fun j hj => by
              have h := hiso j hj
              rw [cell_of_row w6 g6 _ cur 28 _ hg6] at h
              rw [cell_of_row W7 g6 _ cur 28 _ h7g]; exact h
            rw [← hW7]
            clear hW7
            have hvi : (vals.set p.id.toNat (.slice (some ⟨g6, 0, none⟩) ((ofId (st.1.zip st.2) p.id).length + 1) c6))[p.id.toNat]? = some (.slice (some ⟨g6, 0, none⟩) ((ofId (st.1.zip st.2) p.id).length + 1) c6) := List.getElem?_set_self (List.getElem?_eq_some_iff.1 (unhide Hgv)).1
            have hli : ((gotL (st.1.zip st.2)).set p.id.toNat (ofId (st.1.zip st.2) p.id ++ [ValueM.zero]))[p.id.toNat]? = some (ofId (st.1.zip st.2) p.id ++ [ValueM.zero]) := List.getElem?_set_self (by unfold gotL; simpa using ha31)
            have h7v := hgr7.rows p.id.toNat _ _ hvi hli
            obtain ⟨v8, g8⟩ := VRow.last h7v (.int .i64 x.kind) (.int .i64 x.n) (.string x.s) (.slice xi.a xi.len xi.cap) (.slice xl.a xl.len xl.cap) h7x
            obtain ⟨W8, hW8⟩ : ∃ W8, W8 = (((((W7.setCell ⟨g6, (ofId (st.1.zip st.2) p.id).length * 5, none⟩ (.int .i64 x.kind)).setCell ⟨g6, (ofId (st.1.zip st.2) p.id).length * 5 + 1, none⟩ (.int .i64 x.n)).setCell ⟨g6, (ofId (st.1.zip st.2) p.id).length * 5 + 2, none⟩ (.string x.s)).setCell ⟨g6, (ofId (st.1.zip st.2) p.id).length * 5 + 3, none⟩ (.slice xi.a xi.len xi.cap)).setCell ⟨g6, (ofId (st.1.zip st.2) p.id).length * 5 + 4, none⟩ (.slice xl.a xl.len xl.cap)) := ⟨_, rfl⟩
            rw [← hW8] at v8 g8
            have h8G : W8.heap[TT + 1]? = some (.cells (vals.set p.id.toNat (.slice (some ⟨g6, 0, none⟩) ((ofId (st.1.zip st.2) p.id).length + 1) c6)).toArray 26 (0, 0)) := by
              rw [g8.block (TT + 1) (lt_of_heap h7G) (fun e => hTg (by cases e; rfl))]; exact h7G
            have hgr8 := GRows.turn hgr7 hvi v8 g8 (.inl rfl)
            rw [List.set_set, List.set_set] at hgr8
            have hbl8 : Below (TT + 1) W2 W8 := hbl7.grown g8 (by have := lt_of_heap h7G; omega) (fun k hk => by cases hk; omega)
            rw [← unhide Hgs1] at hgr8
            have hW8' := hide hW8
            have H8G := hide h8G
            have Hgr8 := hide hgr8
            have Hbl8 := hide hbl8
            have hzg := lt_of_heap h7g
            have hzf : ∀ j, W7.frozen? ⟨g6, j, none⟩ = false := fun j => frozen_of_row W7 g6 j _ 28 h7g
            obtain ⟨o0, ho0⟩ := Option.isSome_iff_exists.1 (h7i 0 (by omega))
            obtain ⟨o1, ho1⟩ := Option.isSome_iff_exists.1 (h7i 1 (by omega))
            obtain ⟨o2, ho2⟩ := Option.isSome_iff_exists.1 (h7i 2 (by omega))
            obtain ⟨o3, ho3⟩ := Option.isSome_iff_exists.1 (h7i 3 (by omega))
            obtain ⟨o4, ho4⟩ := Option.isSome_iff_exists.1 (h7i 4 (by omega))
            simp only [Nat.add_zero] at ho0
            have hnl : ((ofId (st.1.zip st.2) p.id).length : Int) < (((ofId (st.1.zip st.2) p.id).length + 1 : Nat) : Int) := by omega
            clear h7G hgr7 hbl7 h7v h7x h7i v8 g8 h8G hgr8 hbl8 hW8 hiso hg6 Hgr6 hG6 hS6 hcG hvi hli Hx7 Hbl6 Hrow6
            go_wp2
            rw [← unhide hW8']
            refine ⟨⟨j + 1, (st.1 ++ [p.id], st.2 ++ [x]), vals.set p.id.toNat (.slice (some ⟨g6, 0, none⟩) ((ofId (st.1.zip st.2) p.id).length + 1) c6), by omega, by go_num, by rw [unhide Hq1], unhide HL3, unhide H8G, unhide Hgr8, by simp only [List.length_append, List.length_singleton]; rw [unhide Hlen], pw_snoc (unhide Hso) (fun a ha => by rw [← unhide Hq1]; exact (unhide Hin1 a ha).1), ?_, by simp only [List.length_append, List.length_singleton]; omega, unhide Hbl8⟩, by simp [intOf]; omega⟩
            intro a ha
            rcases List.mem_append.1 ha with h | h
            · exact unhide Hin1 a h
            · rw [List.mem_singleton.1 h]
              exact ⟨by rw [unhide Hq1]; omega, List.mem_map.2 ⟨f, unhide Hfin, unhide Hfid⟩⟩
        · have hkb5 : (f.kind == 5) = false := by simpa using hk5
          have hst := unhide Hst4 hk5
          obtain ⟨x, xi, xl, rVx0, hxv0, HL3⟩ : ∃ (x : ValueM) (xi xl : SV), w8.heap[(V2.heap.size + 1)]? = some (.cells #[.int .i64 x.kind, .int .i64 x.n, .string x.s, .slice xi.a xi.len xi.cap, .slice xl.a xl.len xl.cap] 28 (0, 0)) ∧ ValueAtP (fun b => GX (TT + 2) vals b ∧ b < w8.heap.size) (k + 5) w8 [.int .i64 x.kind, .int .i64 x.n, .string x.s, .slice xi.a xi.len xi.cap, .slice xl.a xl.len xl.cap] x ∧ Hid (L = readL ts (recM ts k) t (prevP ps (j + 1)) (ps.drop (j + 1)) (st.1 ++ [p.id], st.2 ++ [x])) := by
            refine ⟨bareM p, ⟨none, 0, 0⟩, ⟨none, 0, 0⟩, rV8, ⟨⟨none, 0, 0⟩, ⟨none, 0, 0⟩, rfl, ⟨rfl, fun i x hx => by simp [bareM] at hx⟩, ⟨rfl, fun i x hx => by simp [bareM] at hx⟩, nil_ok, nil_ok, fun ad ha => (by cases ha), fun ad ha => (by cases ha)⟩, ?_⟩
            unfold Hid
            rw [unhide HL2, hst.1, hst.2]; rfl
          clear hst Hst3 Hst4 hk5 HL2
          go_upto_region 30 with fail
          obtain ⟨Wx, hWx⟩ : ∃ Wx, Wx = w8 := ⟨_, rfl⟩
          rw [← hWx] at rVx0 hxv0 ⊢
          have hEx : Ext w Wx := by rw [hWx]; exact hE8
          have xrx : Ext wr Wx := by rw [hWx]; exact xr8
          have rPx : Wx.heap[wr.heap.size]? = some (.cells #[.int .i64 p.id, .int .i64 p.kind, .int .i64 p.n, .string p.s] 85 (0, 0)) := by rw [hWx]; exact xV8.heap (hxv.heap rP)
          have rVx := rVx0
          have Hxv := hide hxv0
          clear hWx rVx0 hxv0 i0 i1 i2 i3 f0 f1 f2 f3 f4 zF8 zP8 zV8
          go_cut [139] (fun s139 wx => ∃ b : Bool, s139 = .bool b ∧ Ext Wx wx)
          case first =>
            rename_i J0 K0 hJ0 hK0
            refine wp_region_X (fun w' => Ext Wx w') (fun _ => false) (by kernel_rfl) ?_
            obtain ⟨Wq, hWq⟩ : ∃ Wq, Wq = Wx.drew := ⟨_, rfl⟩
            have hSq : Ext Wx Wq := by rw [hWq]; exact (Ext.refl Wx).drew
            rw [← hWq]
            clear hWq
            refine wpAnyX_one (j := 0) rfl (by kernel_rfl) rfl fun K hK => ?_
            go_wp2
            have fa : ∀ u : Value, Ext Wx (Wq.alloc (.cells #[u] 4)) := fun u => hSq.alloc _
            refine hK.out _ _ ((fa _)) ?_
            clear hK K
            refine wpAnyX_two (i := 1) (j := 2) rfl rfl (by kernel_rfl) rfl rfl (fun K hK => ?_) (fun K hK => ?_)
            · go_wp2
              refine hK.out _ _ ((fa _)) ?_
              clear hK K
              refine wpAnyX_one (j := 2) rfl (by kernel_rfl) rfl fun K hK => ?_
              go_wp2
              refine hK.out _ _ ((fa _)) ?_
              clear hK K
              refine wpAnyX_one (j := 3) rfl (by kernel_rfl) rfl fun K hK => ?_
              go_wp2
              refine hK.out _ _ ((fa _)) ?_
              clear hK K
              refine wpAnyX_end [] [] rfl (by intro j i hj; simp at hj) (by kernel_rfl) (by intro i hi; simp at hi) fun K hK => ?_
              go_wp2
              refine hK.out _ _ ?_
              clear hK K
              first | refine Met.intro (hJ0 _ _ ?_) | refine hK0 _ _ (Met.intro (hJ0 _ _ ?_))
              (repeat apply Exists.intro)
              refine ⟨?rel, rfl⟩
              case rel => exact ⟨_, rfl, fa _⟩
            · go_wp2
              refine hK.out _ _ ((fa _)) ?_
              clear hK K
              refine wpAnyX_one (j := 1) rfl (by kernel_rfl) rfl fun K hK => ?_
              go_wp2
              refine hK.out _ _ ((fa _)) ?_
              clear hK K
              refine wpAnyX_one (j := 3) rfl (by kernel_rfl) rfl fun K hK => ?_
              go_wp2
              refine hK.out _ _ ((fa _)) ?_
              clear hK K
              refine wpAnyX_end [] [] rfl (by intro j i hj; simp at hj) (by kernel_rfl) (by intro i hi; simp at hi) fun K hK => ?_
              go_wp2
              refine hK.out _ _ ?_
              clear hK K
              first | refine Met.intro (hJ0 _ _ ?_) | refine hK0 _ _ (Met.intro (hJ0 _ _ ?_))
              (repeat apply Exists.intro)
              refine ⟨?rel, rfl⟩
              case rel => exact ⟨_, rfl, fa _⟩
          case rest =>
          obtain ⟨b4, rfl, hE4⟩ := hcut
          rename World => wc
          have xrc : Ext wr wc := xrx.trans hE4
          have hEc : Ext w wc := hEx.trans hE4
          have hGc := xrc.heap hG
          have hgcell : wc.cell? ⟨TT + 1, p.id.toNat, none⟩ = some (.slice sg.a sg.len sg.cap) := by
            rw [cell_of_row _ _ _ _ _ _ hGc, ← Array.getElem?_toList]; exact unhide Hgv
          obtain ⟨n0, _⟩ := row4f (hE4.heap rPx)
          obtain ⟨m0, m1, m2, m3, m4, _⟩ := row5 (hE4.heap rVx)
          have hS0 : GvS (TT + 1) p.id.toNat wr.heap.size (V2.heap.size + 1) p.id (.slice sg.a sg.len sg.cap) (.int .i64 x.kind) (.int .i64 x.n) (.string x.s) (.slice xi.a xi.len xi.cap) (.slice xl.a xl.len xl.cap) wc := ⟨hgcell, n0, m0, m1, m2, m3, m4⟩
          have hpn : (p.id.toNat : Int) = p.id := by omega
          have hcz : (V2.heap.size + 1) < wc.heap.size := lt_of_heap (hE4.heap rVx)
          have hPz : wr.heap.size < (V2.heap.size + 1) := by omega
          have hsgin : (.slice sg.a sg.len sg.cap : Value) ∈ vals := List.mem_of_getElem? (unhide Hgv)
          have hsglt : ∀ b, Value.ownBlock (.slice sg.a sg.len sg.cap) = some b → TT + 2 ≤ b ∧ b < wr.heap.size := (unhide Hgr).lt hsgin
          have hst1l : st.1.length ≤ 1000000 := by omega
          have hofl : (ofId (st.1.zip st.2) p.id).length ≤ st.1.length := by
            unfold ofId
            rw [List.length_map]
            exact Nat.le_trans (List.length_filter_le _ _) (by rw [List.length_zip]; omega)
          have hgs := fun (v6 : Value) => gotL_set (st.1.zip st.2) p.id.toNat x
          have hzs : (st.1 ++ [p.id]).zip (st.2 ++ [x]) = st.1.zip st.2 ++ [(p.id, x)] := zip_snoc (unhide Hlen) _ _
          have hgs1 : gotL ((st.1 ++ [p.id]).zip (st.2 ++ [x])) = (gotL (st.1.zip st.2)).set p.id.toNat (ofId (st.1.zip st.2) p.id ++ [x]) := by
            have := gotL_set (st.1.zip st.2) p.id.toNat x
            rw [hpn] at this
            rw [hzs]; exact this
          have Hgs1 := hide hgs1
          have Hpn := hide hpn
          clear hgs hzs hgs1 hpn m0 m1 m2 m3 m4 n0 hgcell
          cases b4 with
          | false =>
            go_wp2_with fail
            refine wp_region_X (GvS (TT + 1) p.id.toNat wr.heap.size (V2.heap.size + 1) p.id (.slice sg.a sg.len sg.cap) (.int .i64 x.kind) (.int .i64 x.n) (.string x.s) (.slice xi.a xi.len xi.cap) (.slice xl.a xl.len xl.cap)) (fun j => decide (12 ≤ j)) (by kernel_rfl) ?_
            obtain ⟨We, hWe⟩ : ∃ We, We = wc.drew := ⟨_, rfl⟩
            have fe : Ext wc We := by rw [hWe]; exact (Ext.refl wc).drew
            rw [← hWe]
            have hS7 := hS0.ext fe
            clear hWe
            refine wpAnyX_take (i := 0) (v := .slice (some ⟨TT + 1, 0, none⟩) 31 31) rfl (by kernel_rfl) (by kernel_rfl) (fun _ _ _ h => h) (.inl ⟨rfl, fun w' hS => by simp [execOp, go_sem]⟩) (hS7) ?_
            simp only [Act.put, List.getElem_toArray, List.getElem_cons_zero, List.getElem_cons_succ, List.setIfInBounds_toArray, List.set_cons_succ, List.set_cons_zero]
            refine wpAnyX_take (i := 1) (v := .pointer (some ⟨wr.heap.size, 0, none⟩)) rfl (by kernel_rfl) (by kernel_rfl) (fun _ _ _ h => h) (.inl ⟨rfl, fun w' hS => by simp [execOp, go_sem]⟩) (hS7) ?_
            simp only [Act.put, List.getElem_toArray, List.getElem_cons_zero, List.getElem_cons_succ, List.setIfInBounds_toArray, List.set_cons_succ, List.set_cons_zero]
            refine wpAnyX_take (i := 2) (v := .int .i64 p.id) rfl (by kernel_rfl) (by kernel_rfl) (fun _ _ _ h => h) (.inl ⟨rfl, fun w' hS => by simp [execOp, go_sem, hS.2.1]⟩) (hS7) ?_
            simp only [Act.put, List.getElem_toArray, List.getElem_cons_zero, List.getElem_cons_succ, List.setIfInBounds_toArray, List.set_cons_succ, List.set_cons_zero]
            refine wpAnyX_take (i := 3) (v := .slice (some ⟨TT + 1, 0, none⟩) 31 31) rfl (by kernel_rfl) (by kernel_rfl) (fun _ _ _ h => h) (.inl ⟨rfl, fun w' hS => by simp [execOp, go_sem]⟩) (hS7) ?_
            simp only [Act.put, List.getElem_toArray, List.getElem_cons_zero, List.getElem_cons_succ, List.setIfInBounds_toArray, List.set_cons_succ, List.set_cons_zero]
            refine wpAnyX_take (i := 4) (v := .pointer (some ⟨wr.heap.size, 0, none⟩)) rfl (by kernel_rfl) (by kernel_rfl) (fun _ _ _ h => h) (.inl ⟨rfl, fun w' hS => by simp [execOp, go_sem]⟩) (hS7) ?_
            simp only [Act.put, List.getElem_toArray, List.getElem_cons_zero, List.getElem_cons_succ, List.setIfInBounds_toArray, List.set_cons_succ, List.set_cons_zero]
            refine wpAnyX_take (i := 5) (v := .int .i64 p.id) rfl (by kernel_rfl) (by kernel_rfl) (fun _ _ _ h => h) (.inl ⟨rfl, fun w' hS => by simp [execOp, go_sem, hS.2.1]⟩) (hS7) ?_
            simp only [Act.put, List.getElem_toArray, List.getElem_cons_zero, List.getElem_cons_succ, List.setIfInBounds_toArray, List.set_cons_succ, List.set_cons_zero]
            refine wpAnyX_take (i := 6) (v := .pointer (some ⟨TT + 1, p.id.toNat, none⟩)) rfl (by kernel_rfl) (by kernel_rfl) (fun _ _ _ h => h) (.inl ⟨rfl, fun w' hS => by simp [execOp, go_sem, hp0, hp31, ha31]⟩) (hS7) ?_
            simp only [Act.put, List.getElem_toArray, List.getElem_cons_zero, List.getElem_cons_succ, List.setIfInBounds_toArray, List.set_cons_succ, List.set_cons_zero]
            refine wpAnyX_take (i := 7) (v := .slice sg.a sg.len sg.cap) rfl (by kernel_rfl) (by kernel_rfl) (fun _ _ _ h => h) (.inl ⟨rfl, fun w' hS => by simp [execOp, go_sem, hS.1]⟩) (hS7) ?_
            simp only [Act.put, List.getElem_toArray, List.getElem_cons_zero, List.getElem_cons_succ, List.setIfInBounds_toArray, List.set_cons_succ, List.set_cons_zero]
            refine wpAnyX_take (i := 8) (v := .agg #[.int .i64 x.kind, .int .i64 x.n, .string x.s, .slice xi.a xi.len xi.cap, .slice xl.a xl.len xl.cap]) rfl (by kernel_rfl) (by kernel_rfl) (fun _ _ _ h => h) (.inl ⟨rfl, fun w' hS => by simp [execOp, go_sem, hS.2.2.1, hS.2.2.2.1, hS.2.2.2.2.1, hS.2.2.2.2.2.1, hS.2.2.2.2.2.2]⟩) (hS7) ?_
            simp only [Act.put, List.getElem_toArray, List.getElem_cons_zero, List.getElem_cons_succ, List.setIfInBounds_toArray, List.set_cons_succ, List.set_cons_zero]
            refine wpAnyX_one (j := 9) rfl (by kernel_rfl) rfl fun K hK => ?_
            go_wp2
            obtain ⟨Wf, hWf⟩ : ∃ Wf, Wf = We.alloc (.cells #[.int .i64 x.kind, .int .i64 x.n, .string x.s, .slice xi.a xi.len xi.cap, .slice xl.a xl.len xl.cap] 28) := ⟨_, rfl⟩
            have ff : Ext wc Wf := by rw [hWf]; exact fe.alloc _
            have rf : Wf.rangeAt We.heap.size 0 [.int .i64 x.kind, .int .i64 x.n, .string x.s, .slice xi.a xi.len xi.cap, .slice xl.a xl.len xl.cap] := by rw [hWf]; exact range_of_new5 _ _ _ _ _ _ _ rfl
            rw [← hWf]
            clear hWf
            have hSf := hS0.ext ff
            refine hK.out _ _ (hSf) ?_
            clear hK K
            have hgf := (unhide Hgr).ext (xrc.trans ff)
            have hrow := hgf.rows p.id.toNat (.slice sg.a sg.len sg.cap) _ (unhide Hgv) (gotL_get _ ha31)
            rw [unhide Hpn] at hrow
            obtain ⟨css, hc1, hc2, hc3⟩ := hrow
            have hxf : ValueAtP (fun b => GX (TT + 2) vals b ∧ Value.ownBlock (.slice sg.a sg.len sg.cap) ≠ some b ∧ none ≠ some b ∧ b < Wf.heap.size) (k + 5) Wf [.int .i64 x.kind, .int .i64 x.n, .string x.s, .slice xi.a xi.len xi.cap, .slice xl.a xl.len xl.cap] x :=
              ((unhide Hxv).ext (hE4.trans ff)).sub fun b hb => ⟨hb.1, hb.1.2 _ hsgin, (fun e => by cases e), Nat.lt_of_lt_of_le hb.2 (hE4.trans ff).size⟩
            have Hc1 := hide hc1
            have hbf : TT + 2 ≤ Wf.heap.size := by have := ff.size; omega
            refine wpAnyX_one (j := 10) rfl (by kernel_rfl) rfl fun K hK => ?_
            refine wpList_app1w _ _ 26 28 (.agg #[.int .i64 0, .int .i64 0, .string ⟨#[]⟩, .slice none 0 0, .slice none 0 0]) 5 80 Tryz.underlying26 info28 rfl (by decide) (by decide) rfl rfl (TT + 2) (.slice sg.a sg.len sg.cap) (ofId (st.1.zip st.2) p.id).length _ rfl (unhide Hc1) We.heap.size 1 [.int .i64 x.kind, .int .i64 x.n, .string x.s, .slice xi.a xi.len xi.cap, .slice xl.a xl.len xl.cap] rfl rfl rf ?d2 ?d3 hbf ?_
            case d2 => exact hxf.one
            case d3 => omega
            intro v6 w6 ho6 hg6 hw6
            obtain ⟨s6, hs6⟩ : ∃ s : SV, v6 = .slice s.a s.len s.cap := by obtain ⟨a', c', e'⟩ := owns_slice ho6; exact ⟨⟨a', _, c'⟩, e'⟩
            subst hs6
            have hv6 := VRow.push hc2 hc3 hxf ho6 hg6 hw6
            have hgr6 := GRows.turn hgf (unhide Hgv) hv6 hg6 hw6
            have hnG : some (TT + 1) ≠ Value.ownBlock (.slice sg.a sg.len sg.cap) := fun e => by have := (hsglt _ e.symm).1; omega
            have hnP : some wr.heap.size ≠ Value.ownBlock (.slice sg.a sg.len sg.cap) := fun e => by have := (hsglt _ e.symm).2; omega
            have hnV : some (V2.heap.size + 1) ≠ Value.ownBlock (.slice sg.a sg.len sg.cap) := fun e => by have := (hsglt _ e.symm).2; omega
            have hG6 : w6.heap[TT + 1]? = some (.cells vals.toArray 26 (0, 0)) := by
              have h0 := ff.heap hGc
              rw [hg6.block _ (lt_of_heap h0) hnG]; exact h0
            have hS6 := hSf.grown hg6 hnG hnP hnV
            have hbl6 : Below (TT + 1) W2 w6 := (Below.trans (unhide Hbl) ((xrc.trans ff).mono (by omega))).grown hg6 (by omega) (fun k hk => by have := (hsglt k hk).1; omega)
            have hzG := lt_of_heap hG6
            have hfG : w6.frozen? ⟨TT + 1, p.id.toNat, none⟩ = false := frozen_of_row _ _ _ _ _ hG6
            have hcG := hS6.1
            have Hgr6 := hide hgr6
            have Hbl6 := hide hbl6
            clear ho6 hg6 hw6 hc1 hc2 hc3 hv6 hgr6 hbl6 hxf hgf hnG hnP hnV Hc1
            refine hK.out _ _ (hS6) ?_
            clear hK K
            refine wpAnyX_take (i := 11) (v := .pointer (some ⟨TT + 1, p.id.toNat, none⟩)) rfl (by kernel_rfl) (by kernel_rfl) (fun _ _ _ h => h) (.inl ⟨rfl, fun w' hS => by simp [execOp, go_sem, hp0, hp31, ha31]⟩) (hS6) ?_
            simp only [Act.put, List.getElem_toArray, List.getElem_cons_zero, List.getElem_cons_succ, List.setIfInBounds_toArray, List.set_cons_succ, List.set_cons_zero]
            refine wpAnyX_end [12] [_] rfl (by intro j i hj; match j, hj with | 0, hj => cases hj; rfl) (by kernel_rfl) (by intro i hi; cases hi; rfl) fun K hK => ?_
            simp only [List.getElem_toArray, List.getElem_cons_succ, List.getElem_cons_zero]
            go_wp2
            refine hK.out _ _ ?_
            clear hK K
            go_wp2
            refine ⟨⟨j + 1, (st.1 ++ [p.id], st.2 ++ [x]), vals.set p.id.toNat (.slice s6.a s6.len s6.cap), by omega, by go_num, by rw [unhide Hq1], unhide HL3, ?_, ?_, by simp only [List.length_append, List.length_singleton]; rw [unhide Hlen], pw_snoc (unhide Hso) (fun a ha => by rw [← unhide Hq1]; exact (unhide Hin1 a ha).1), ?_, by simp only [List.length_append, List.length_singleton]; omega, ?_⟩, by simp [intOf]; omega⟩
            · have := heap_setCell_same w6 (TT + 1) p.id.toNat _ 26 (.slice s6.a s6.len s6.cap) hG6
              simpa using this
            · rw [unhide Hgs1]
              exact (unhide Hgr6).set (by show TT + 1 < TT + 2; omega) _
            · intro a ha
              rcases List.mem_append.1 ha with h | h
              · exact unhide Hin1 a h
              · rw [List.mem_singleton.1 h]
                exact ⟨by rw [unhide Hq1]; omega, List.mem_map.2 ⟨f, unhide Hfin, unhide Hfid⟩⟩
            · exact (unhide Hbl6).setCell (by show TT + 1 ≤ TT + 1; omega) _
          | true =>
            go_wp2_with fail
            refine wp_region_X (GvS (TT + 1) p.id.toNat wr.heap.size (V2.heap.size + 1) p.id (.slice sg.a sg.len sg.cap) (.int .i64 x.kind) (.int .i64 x.n) (.string x.s) (.slice xi.a xi.len xi.cap) (.slice xl.a xl.len xl.cap)) (fun j => decide (10 ≤ j)) (by kernel_rfl) ?_
            obtain ⟨We, hWe⟩ : ∃ We, We = wc.drew := ⟨_, rfl⟩
            have fe : Ext wc We := by rw [hWe]; exact (Ext.refl wc).drew
            rw [← hWe]
            have hS7 := hS0.ext fe
            clear hWe
            refine wpAnyX_take (i := 0) (v := .slice (some ⟨TT + 1, 0, none⟩) 31 31) rfl (by kernel_rfl) (by kernel_rfl) (fun _ _ _ h => h) (.inl ⟨rfl, fun w' hS => by simp [execOp, go_sem]⟩) (hS7) ?_
            simp only [Act.put, List.getElem_toArray, List.getElem_cons_zero, List.getElem_cons_succ, List.setIfInBounds_toArray, List.set_cons_succ, List.set_cons_zero]
            refine wpAnyX_take (i := 1) (v := .pointer (some ⟨wr.heap.size, 0, none⟩)) rfl (by kernel_rfl) (by kernel_rfl) (fun _ _ _ h => h) (.inl ⟨rfl, fun w' hS => by simp [execOp, go_sem]⟩) (hS7) ?_
            simp only [Act.put, List.getElem_toArray, List.getElem_cons_zero, List.getElem_cons_succ, List.setIfInBounds_toArray, List.set_cons_succ, List.set_cons_zero]
            refine wpAnyX_take (i := 2) (v := .int .i64 p.id) rfl (by kernel_rfl) (by kernel_rfl) (fun _ _ _ h => h) (.inl ⟨rfl, fun w' hS => by simp [execOp, go_sem, hS.2.1]⟩) (hS7) ?_
            simp only [Act.put, List.getElem_toArray, List.getElem_cons_zero, List.getElem_cons_succ, List.setIfInBounds_toArray, List.set_cons_succ, List.set_cons_zero]
            refine wpAnyX_take (i := 3) (v := .pointer (some ⟨TT + 1, p.id.toNat, none⟩)) rfl (by kernel_rfl) (by kernel_rfl) (fun _ _ _ h => h) (.inl ⟨rfl, fun w' hS => by simp [execOp, go_sem, hp0, hp31, ha31]⟩) (hS7) ?_
            simp only [Act.put, List.getElem_toArray, List.getElem_cons_zero, List.getElem_cons_succ, List.setIfInBounds_toArray, List.set_cons_succ, List.set_cons_zero]
            refine wpAnyX_take (i := 4) (v := .slice sg.a sg.len sg.cap) rfl (by kernel_rfl) (by kernel_rfl) (fun _ _ _ h => h) (.inl ⟨rfl, fun w' hS => by simp [execOp, go_sem, hS.1]⟩) (hS7) ?_
            simp only [Act.put, List.getElem_toArray, List.getElem_cons_zero, List.getElem_cons_succ, List.setIfInBounds_toArray, List.set_cons_succ, List.set_cons_zero]
            refine wpAnyX_take (i := 5) (v := .agg #[.int .i64 x.kind, .int .i64 x.n, .string x.s, .slice xi.a xi.len xi.cap, .slice xl.a xl.len xl.cap]) rfl (by kernel_rfl) (by kernel_rfl) (fun _ _ _ h => h) (.inl ⟨rfl, fun w' hS => by simp [execOp, go_sem, hS.2.2.1, hS.2.2.2.1, hS.2.2.2.2.1, hS.2.2.2.2.2.1, hS.2.2.2.2.2.2]⟩) (hS7) ?_
            simp only [Act.put, List.getElem_toArray, List.getElem_cons_zero, List.getElem_cons_succ, List.setIfInBounds_toArray, List.set_cons_succ, List.set_cons_zero]
            refine wpAnyX_take (i := 6) (v := .int .i64 sg.len) rfl (by kernel_rfl) (by kernel_rfl) (fun _ _ _ h => h) (.inl ⟨rfl, fun w' hS => by simp [execOp, go_sem]⟩) (hS7) ?_
            simp only [Act.put, List.getElem_toArray, List.getElem_cons_zero, List.getElem_cons_succ, List.setIfInBounds_toArray, List.set_cons_succ, List.set_cons_zero]
            refine wpAnyX_one (j := 7) rfl (by kernel_rfl) rfl fun K hK => ?_
            go_wp2
            obtain ⟨Wf, hWf⟩ : ∃ Wf, Wf = We.alloc (.cells #[.int .i64 0, .int .i64 0, .string ⟨#[]⟩, .slice none 0 0, .slice none 0 0] 28) := ⟨_, rfl⟩
            have ff : Ext wc Wf := by rw [hWf]; exact fe.alloc _
            have rf : Wf.rangeAt We.heap.size 0 [.int .i64 0, .int .i64 0, .string ⟨#[]⟩, .slice none 0 0, .slice none 0 0] := by rw [hWf]; exact range_of_new5 _ _ _ _ _ _ _ rfl
            rw [← hWf]
            clear hWf
            have hSf := hS0.ext ff
            refine hK.out _ _ (hSf) ?_
            clear hK K
            have hgf := (unhide Hgr).ext (xrc.trans ff)
            have hrow := hgf.rows p.id.toNat (.slice sg.a sg.len sg.cap) _ (unhide Hgv) (gotL_get _ ha31)
            rw [unhide Hpn] at hrow
            have hLn : sg.len = (ofId (st.1.zip st.2) p.id).length := VRow.slice_len hrow
            obtain ⟨css, hc1, hc2, hc3⟩ := hrow
            have hzf : ValueAtP (fun b => GX (TT + 2) vals b ∧ Value.ownBlock (.slice sg.a sg.len sg.cap) ≠ some b ∧ none ≠ some b ∧ b < Wf.heap.size) (k + 5) Wf [.int .i64 0, .int .i64 0, .string ⟨#[]⟩, .slice none 0 0, .slice none 0 0] ValueM.zero := zeroAtP _ _ _
            have hxf : ValueAtP (fun b => GX (TT + 2) vals b ∧ b < Wf.heap.size) (k + 5) Wf [.int .i64 x.kind, .int .i64 x.n, .string x.s, .slice xi.a xi.len xi.cap, .slice xl.a xl.len xl.cap] x :=
              ((unhide Hxv).ext (hE4.trans ff)).sub fun b hb => ⟨hb.1, Nat.lt_of_lt_of_le hb.2 (hE4.trans ff).size⟩
            have Hc1 := hide hc1
            have hbf : TT + 2 ≤ Wf.heap.size := by have := ff.size; omega
            refine wpAnyX_one (j := 8) rfl (by kernel_rfl) rfl fun K hK => ?_
            refine wpList_app1w _ _ 26 28 (.agg #[.int .i64 0, .int .i64 0, .string ⟨#[]⟩, .slice none 0 0, .slice none 0 0]) 5 80 Tryz.underlying26 info28 rfl (by decide) (by decide) rfl rfl (TT + 2) (.slice sg.a sg.len sg.cap) (ofId (st.1.zip st.2) p.id).length _ rfl (unhide Hc1) We.heap.size 1 [.int .i64 0, .int .i64 0, .string ⟨#[]⟩, .slice none 0 0, .slice none 0 0] rfl rfl rf ?d2 ?d3 hbf ?_
            case d2 => exact hzf.one
            case d3 => omega
            intro v6 w6 ho6 hg6 hw6
            obtain ⟨s6, hs6⟩ : ∃ s : SV, v6 = .slice s.a s.len s.cap := by obtain ⟨a', c', e'⟩ := owns_slice ho6; exact ⟨⟨a', _, c'⟩, e'⟩
            subst hs6
            have hw6' : Value.ownBlock (.slice s6.a s6.len s6.cap) = Value.ownBlock (.slice sg.a sg.len sg.cap) ∨ ∃ g', Value.ownBlock (.slice s6.a s6.len s6.cap) = some g' ∧ Wf.heap.size ≤ g' := hw6
            have hv6 := VRow.push hc2 hc3 hzf ho6 hg6 hw6
            have hgr6 := GRows.turn hgf (unhide Hgv) hv6 hg6 hw6
            have hnG : some (TT + 1) ≠ Value.ownBlock (.slice sg.a sg.len sg.cap) := fun e => by have := (hsglt _ e.symm).1; omega
            have hnP : some wr.heap.size ≠ Value.ownBlock (.slice sg.a sg.len sg.cap) := fun e => by have := (hsglt _ e.symm).2; omega
            have hnV : some (V2.heap.size + 1) ≠ Value.ownBlock (.slice sg.a sg.len sg.cap) := fun e => by have := (hsglt _ e.symm).2; omega
            have hG6 : w6.heap[TT + 1]? = some (.cells vals.toArray 26 (0, 0)) := by
              have h0 := ff.heap hGc
              rw [hg6.block _ (lt_of_heap h0) hnG]; exact h0
            have hS6 := hSf.grown hg6 hnG hnP hnV
            have hbl6 : Below (TT + 1) W2 w6 := (Below.trans (unhide Hbl) ((xrc.trans ff).mono (by omega))).grown hg6 (by omega) (fun k hk => by have := (hsglt k hk).1; omega)
            have hzG := lt_of_heap hG6
            have hfG : w6.frozen? ⟨TT + 1, p.id.toNat, none⟩ = false := frozen_of_row _ _ _ _ _ hG6
            have hcG := hS6.1
            have hx7 : ValueAtP (fun b => GX (TT + 2) (vals.set p.id.toNat (.slice s6.a s6.len s6.cap)) b ∧ Value.ownBlock (.slice s6.a s6.len s6.cap) ≠ some b ∧ none ≠ some b ∧ b < w6.heap.size) (k + 5) w6 [.int .i64 x.kind, .int .i64 x.n, .string x.s, .slice xi.a xi.len xi.cap, .slice xl.a xl.len xl.cap] x := by
              refine (hxf.keep fun b ob hb hob => ?_).sub fun b hb => ?_
              · rw [hg6.block b hb.2 (fun e => hb.1.2 _ hsgin e.symm)]; exact hob
              · have hns : Value.ownBlock (.slice s6.a s6.len s6.cap) ≠ some b := by
                  rcases hw6' with e | ⟨g', e, hge⟩
                  · rw [e]; exact hb.1.2 _ hsgin
                  · rw [e]; intro he; cases he; have := hb.2; omega
                refine ⟨⟨hb.1.1, fun v hv => ?_⟩, hns, (fun e => by cases e), by have := hg6.size; have := hb.2; omega⟩
                rcases List.mem_or_eq_of_mem_set hv with h | h
                · exact hb.1.2 v h
                · rw [h]; exact hns
            have hrow6 : ∃ g6 c6 cur, s6 = ⟨some ⟨g6, 0, none⟩, (ofId (st.1.zip st.2) p.id).length + 1, c6⟩ ∧ w6.heap[g6]? = some (.cells cur 28 (0, 0)) ∧ TT + 2 ≤ g6 ∧ ∀ j, j < 5 → (w6.cell? ⟨g6, (ofId (st.1.zip st.2) p.id).length * 5 + j, none⟩).isSome = true := by
              rcases ho6.2 with ⟨_, e⟩ | ⟨g, cap, cur, e, hbg, hg, hcc, hm, hs, ht⟩
              · omega
              · obtain ⟨a6, n6, c6⟩ := s6
                simp only [Value.slice.injEq] at e
                obtain ⟨rfl, rfl, rfl⟩ := e
                refine ⟨g, c6, cur, rfl, hg, hbg, fun j hj => ?_⟩
                rw [cell_of_row w6 g _ cur 28 _ hg]
                have : ((ofId (st.1.zip st.2) p.id).length + 1) * 5 ≤ c6 * 5 := Nat.mul_le_mul_right 5 hcc
                simp; omega
            have Hrow6 := hide hrow6
            have Hx7 := hide hx7
            have Hgr6 := hide hgr6
            have Hbl6 := hide hbl6
            clear ho6 hg6 hw6 hw6' hc1 hc2 hc3 hv6 hgr6 hbl6 hxf hzf hgf hnG hnP hnV Hc1 hrow6 hx7
            refine hK.out _ _ (hS6) ?_
            clear hK K
            refine wpAnyX_take (i := 9) (v := .pointer (some ⟨TT + 1, p.id.toNat, none⟩)) rfl (by kernel_rfl) (by kernel_rfl) (fun _ _ _ h => h) (.inl ⟨rfl, fun w' hS => by simp [execOp, go_sem, hp0, hp31, ha31]⟩) (hS6) ?_
            simp only [Act.put, List.getElem_toArray, List.getElem_cons_zero, List.getElem_cons_succ, List.setIfInBounds_toArray, List.set_cons_succ, List.set_cons_zero]
            refine wpAnyX_end [10] [_] rfl (by intro j i hj; match j, hj with | 0, hj => cases hj; rfl) (by kernel_rfl) (by intro i hi; cases hi; rfl) fun K hK => ?_
            simp only [List.getElem_toArray, List.getElem_cons_succ, List.getElem_cons_zero]
            go_wp2
            refine hK.out _ _ ?_
            clear hK K
            obtain ⟨g6, c6, cur, rfl, hg6, hbg6, hiso⟩ := unhide Hrow6
            obtain ⟨La, Ln, Lc⟩ := sg
            simp only at hLn
            subst hLn
            have hTg : g6 ≠ TT + 1 := by omega
            obtain ⟨W7, hW7⟩ : ∃ W7, W7 = w6.setCell ⟨TT + 1, p.id.toNat, none⟩ (.slice (some ⟨g6, 0, none⟩) ((ofId (st.1.zip st.2) p.id).length + 1) c6) := ⟨_, rfl⟩
            have h7G : W7.heap[TT + 1]? = some (.cells (vals.set p.id.toNat (.slice (some ⟨g6, 0, none⟩) ((ofId (st.1.zip st.2) p.id).length + 1) c6)).toArray 26 (0, 0)) := by
              rw [hW7]
              have := heap_setCell_same w6 (TT + 1) p.id.toNat _ 26 (.slice (some ⟨g6, 0, none⟩) ((ofId (st.1.zip st.2) p.id).length + 1) c6) hG6
              simpa using this
            have hgr7 : GRows (k + 5) W7 (TT + 2) (vals.set p.id.toNat (.slice (some ⟨g6, 0, none⟩) ((ofId (st.1.zip st.2) p.id).length + 1) c6)) ((gotL (st.1.zip st.2)).set p.id.toNat (ofId (st.1.zip st.2) p.id ++ [ValueM.zero])) := by rw [hW7]; exact (unhide Hgr6).set (by show TT + 1 < TT + 2; omega) _
            have hbl7 : Below (TT + 1) W2 W7 := by rw [hW7]; exact (unhide Hbl6).setCell (by show TT + 1 ≤ TT + 1; omega) _
            have h7x : ValueAtP (fun b => GX (TT + 2) (vals.set p.id.toNat (.slice (some ⟨g6, 0, none⟩) ((ofId (st.1.zip st.2) p.id).length + 1) c6)) b ∧ some g6 ≠ some b ∧ none ≠ some b ∧ b < W7.heap.size) (k + 5) W7 [.int .i64 x.kind, .int .i64 x.n, .string x.s, .slice xi.a xi.len xi.cap, .slice xl.a xl.len xl.cap] x := by
              rw [hW7]
              refine ((unhide Hx7).keep fun b ob hb hob => ?_).sub fun b hb => ⟨hb.1, hb.2.1, hb.2.2.1, by rw [size_setCell]; exact hb.2.2.2⟩
              rw [Below.heap_setCell _ _ _ _ (show b ≠ TT + 1 by have := hb.1.1; omega)]; exact hob
            have h7g : W7.heap[g6]? = some (.cells cur 28 (0, 0)) := by rw [hW7, heap_setCell_other _ _ _ _ hTg]; exact hg6
            have h7i : ∀ j, j < 5 → (W7.cell? ⟨g6, (ofId (st.1.zip st.2) p.id).length * 5 + j, none⟩).isSome = true := fun j hj => by
              have h := hiso j hj
              rw [cell_of_row w6 g6 _ cur 28 _ hg6] at h
              rw [cell_of_row W7 g6 _ cur 28 _ h7g]; exact h
            rw [← hW7]
            clear hW7
            have hvi : (vals.set p.id.toNat (.slice (some ⟨g6, 0, none⟩) ((ofId (st.1.zip st.2) p.id).length + 1) c6))[p.id.toNat]? = some (.slice (some ⟨g6, 0, none⟩) ((ofId (st.1.zip st.2) p.id).length + 1) c6) := List.getElem?_set_self (List.getElem?_eq_some_iff.1 (unhide Hgv)).1
            have hli : ((gotL (st.1.zip st.2)).set p.id.toNat (ofId (st.1.zip st.2) p.id ++ [ValueM.zero]))[p.id.toNat]? = some (ofId (st.1.zip st.2) p.id ++ [ValueM.zero]) := List.getElem?_set_self (by unfold gotL; simpa using ha31)
            have h7v := hgr7.rows p.id.toNat _ _ hvi hli
            obtain ⟨v8, g8⟩ := VRow.last h7v (.int .i64 x.kind) (.int .i64 x.n) (.string x.s) (.slice xi.a xi.len xi.cap) (.slice xl.a xl.len xl.cap) h7x
            obtain ⟨W8, hW8⟩ : ∃ W8, W8 = (((((W7.setCell ⟨g6, (ofId (st.1.zip st.2) p.id).length * 5, none⟩ (.int .i64 x.kind)).setCell ⟨g6, (ofId (st.1.zip st.2) p.id).length * 5 + 1, none⟩ (.int .i64 x.n)).setCell ⟨g6, (ofId (st.1.zip st.2) p.id).length * 5 + 2, none⟩ (.string x.s)).setCell ⟨g6, (ofId (st.1.zip st.2) p.id).length * 5 + 3, none⟩ (.slice xi.a xi.len xi.cap)).setCell ⟨g6, (ofId (st.1.zip st.2) p.id).length * 5 + 4, none⟩ (.slice xl.a xl.len xl.cap)) := ⟨_, rfl⟩
            rw [← hW8] at v8 g8
            have h8G : W8.heap[TT + 1]? = some (.cells (vals.set p.id.toNat (.slice (some ⟨g6, 0, none⟩) ((ofId (st.1.zip st.2) p.id).length + 1) c6)).toArray 26 (0, 0)) := by
              rw [g8.block (TT + 1) (lt_of_heap h7G) (fun e => hTg (by cases e; rfl))]; exact h7G
            have hgr8 := GRows.turn hgr7 hvi v8 g8 (.inl rfl)
            rw [List.set_set, List.set_set] at hgr8
            have hbl8 : Below (TT + 1) W2 W8 := hbl7.grown g8 (by have := lt_of_heap h7G; omega) (fun k hk => by cases hk; omega)
            rw [← unhide Hgs1] at hgr8
            have hW8' := hide hW8
            have H8G := hide h8G
            have Hgr8 := hide hgr8
            have Hbl8 := hide hbl8
            have hzg := lt_of_heap h7g
            have hzf : ∀ j, W7.frozen? ⟨g6, j, none⟩ = false := fun j => frozen_of_row W7 g6 j _ 28 h7g
            obtain ⟨o0, ho0⟩ := Option.isSome_iff_exists.1 (h7i 0 (by omega))
            obtain ⟨o1, ho1⟩ := Option.isSome_iff_exists.1 (h7i 1 (by omega))
            obtain ⟨o2, ho2⟩ := Option.isSome_iff_exists.1 (h7i 2 (by omega))
            obtain ⟨o3, ho3⟩ := Option.isSome_iff_exists.1 (h7i 3 (by omega))
            obtain ⟨o4, ho4⟩ := Option.isSome_iff_exists.1 (h7i 4 (by omega))
            simp only [Nat.add_zero] at ho0
            have hnl : ((ofId (st.1.zip st.2) p.id).length : Int) < (((ofId (st.1.zip st.2) p.id).length + 1 : Nat) : Int) := by omega
            clear h7G hgr7 hbl7 h7v h7x h7i v8 g8 h8G hgr8 hbl8 hW8 hiso hg6 Hgr6 hG6 hS6 hcG hvi hli Hx7 Hbl6 Hrow6
            go_wp2
            rw [← unhide hW8']
            refine ⟨⟨j + 1, (st.1 ++ [p.id], st.2 ++ [x]), vals.set p.id.toNat (.slice (some ⟨g6, 0, none⟩) ((ofId (st.1.zip st.2) p.id).length + 1) c6), by omega, by go_num, by rw [unhide Hq1], unhide HL3, unhide H8G, unhide Hgr8, by simp only [List.length_append, List.length_singleton]; rw [unhide Hlen], pw_snoc (unhide Hso) (fun a ha => by rw [← unhide Hq1]; exact (unhide Hin1 a ha).1), ?_, by simp only [List.length_append, List.length_singleton]; omega, unhide Hbl8⟩, by simp [intOf]; omega⟩
            intro a ha
            rcases List.mem_append.1 ha with h | h
            · exact unhide Hin1 a h
            · rw [List.mem_singleton.1 h]
              exact ⟨by rw [unhide Hq1]; omega, List.mem_map.2 ⟨f, unhide Hfin, unhide Hfid⟩⟩
    · have hL1 : L = (0, st) := by rw [unhide HL, List.drop_of_length_le (by omega)]; rfl
      have hre : r = (0, fillV ts t st) := by
        have := unhide Hr3' (by rw [hL1])
        rw [hL1] at this; exact this
      obtain ⟨z, hz⟩ : ∃ z, z = st.1.zip st.2 := ⟨_, rfl⟩
      obtain ⟨lf, hlf⟩ : ∃ lf, lf = leastF ts (leastV ts 4) := ⟨_, rfl⟩
      obtain ⟨ea, eb⟩ := asm_fill (lf := lf) ((unhide Hm).rises (unhide Hg)) hso hlen (fun a ha => (hin a ha).2)
      rw [← hz] at ea eb hgr
      have Hre : Hid (r = (0, ⟨2, 0, ⟨#[]⟩, (asmL lf z t.fields).map (·.1), (asmL lf z t.fields).map (·.2)⟩)) := by
        unfold Hid; rw [hre]; unfold fillV; rw [← hlf, ea, eb]
      have Hal : Hid ((asmL lf z t.fields).length ≤ 21000) := by
        have h1 := fill_len (lf := lf) (l := t.fields) (st := st)
        rw [ea, List.length_map] at h1
        have := (unhide Hm).len (unhide Hg)
        unfold Hid; omega
      have HLr : Hid (∀ f ∈ t.fields, f.rule = 1 → LrF ts (LeR ts 4) f) := fun f hf _ => by
        obtain ⟨nm', hf', _⟩ := unhide Hm
        exact lrF_good (unhide Hg) (findM_mem hf') hf
      have Hfi : Hid (∀ f ∈ t.fields, 1 ≤ f.id ∧ f.id ≤ 30) := fun f hf => ((unhide Hm).field (unhide Hg) hf).2.2
      have Hgr := hide hgr
      obtain ⟨AA, hAA⟩ : ∃ AA, AA = wr.heap.size := ⟨_, rfl⟩
      obtain ⟨W3, hW3⟩ : ∃ X, X = wr.alloc (.cells #[.int .i64 2, .int .i64 0, .string ⟨#[]⟩, .slice none 0 0, .slice none 0 0] 28) := ⟨_, rfl⟩
      have x3 : Ext wr W3 := by rw [hW3]; exact (Ext.refl wr).alloc _
      have rA : W3.heap[AA]? = some (.cells #[.int .i64 2, .int .i64 0, .string ⟨#[]⟩, .slice none 0 0, .slice none 0 0] 28 (0, 0)) := by rw [hAA, hW3]; exact heap_alloc_new _ _
      have HW3 := hide hW3
      have HAA := hide hAA
      have Hlf := hide hlf
      have hrwA : TT + 2 ≤ AA := by omega
      clear hL1 hre ea eb hso hin hlen hz hgr hW3 hAA hlf HL h2r Hr2' Hr3' hlj
      obtain ⟨s0, s1, s2, s3, s4, _⟩ := row5 rTr
      have zTT := lt_of_heap rTr
      go_wp2
      rw [← unhide HW3, ← unhide HAA]
      clear s0 s1 s2 s3 s4 zTT
      go_loopw [168] (fun i wx => ∃ (m : Nat) (vi vL : Value), m ≤ t.fields.length ∧ i = .int .i64 m ∧ OutAt (k + 5) TT AA wx vi vL vi vL ((asmL lf z (t.fields.take m)).map (·.1)) ((asmL lf z (t.fields.take m)).map (·.2)) ∧ Below AA W3 wx) (fun i _ => t.fields.length - (intOf i).toNat)
      case atStart => exact ⟨0, _, _, by omega, rfl, ⟨rA, World.ownsRow_nil _ _ _ _, VRow.nil _ _ _ _ _⟩, Below.refl _ _⟩
      case round =>
        clear rA
        obtain ⟨m, vi, vL, hm, rfl, ho, hb3⟩ := hrel
        rename World => wx
        have xwx : Ext wr wx := Below.trans x3 (by rw [← unhide HAA]; exact hb3)
        have hEx : Ext w wx := hEr.trans xwx
        have h0x : Ext w0 wx := h0r.trans xwx
        have h1x : Ext w1 wx := h1r.trans xwx
        have hGx := xwx.heap hG
        have rTx := xwx.heap rTr
        have rRx := xwx.heap rRr
        have rBx := xwx.cell rBr
        have hAx := lt_of_heap ho.cells
        by_cases hlt2 : m < t.fields.length
        · obtain ⟨fb, fo, cs, hfa, hrf, rfl⟩ := (unhide Hfs).2 m t.fields[m] (by simp [hlt2])
          simp only at hfa
          subst hfa
          obtain ⟨g0, g1, g2, g3, g4⟩ := range5 (h1x.range hrf)
          have htake := asm_take (lf := lf) (z := z) hlt2
          have hasl := asm_len (lf := lf) (z := z) t.fields (m + 1)
          have hlr := unhide HLr _ (List.getElem_mem hlt2)
          have hfi := unhide Hfi _ (List.getElem_mem hlt2)
          have hmi : (m : Int) < (t.fields.length : Int) := by omega
          generalize t.fields[m] = f at *
          obtain ⟨ids0, hi0⟩ : ∃ X, X = (asmL lf z (t.fields.take m)).map (·.1) := ⟨_, rfl⟩
          obtain ⟨l0, hl0⟩ : ∃ X, X = (asmL lf z (t.fields.take m)).map (·.2) := ⟨_, rfl⟩
          rw [← hi0, ← hl0] at ho
          obtain ⟨LL, hLL⟩ : ∃ X, X = lastOf lf z f := ⟨_, rfl⟩
          rw [← hLL] at htake
          have Hia : Hid ((asmL lf z (t.fields.take (m + 1))).map (·.1) = ids0 ++ LL.map fun _ => f.id) := by unfold Hid; rw [htake, List.map_append, ← hi0, List.map_map]; rfl
          have Hib : Hid ((asmL lf z (t.fields.take (m + 1))).map (·.2) = l0 ++ LL) := by unfold Hid; rw [htake, List.map_append, ← hl0, List.map_map]; simp [Function.comp_def]
          have Hbd : Hid (ids0.length + LL.length ≤ 21000 ∧ l0.length = ids0.length) := by
            have h1 := unhide Hal
            rw [htake, List.length_append, List.length_map] at hasl
            unfold Hid
            rw [hl0, hi0, List.length_map, List.length_map]
            omega
          have HLL := hide hLL
          clear htake hasl hi0 hl0 hLL hrf
          have hp0 : 0 ≤ f.id := by omega
          have hp31 : f.id < 31 := by omega
          have ha31 : f.id.toNat < 31 := by omega
          have hpn : (f.id.toNat : Int) = f.id := by omega
          obtain ⟨gv, hgv⟩ : ∃ gv, vals[f.id.toNat]? = some gv := ⟨_, List.getElem?_eq_getElem (by rw [(unhide Hgr).len]; unfold gotL; simpa using ha31)⟩
          have hvr := (unhide Hgr).rows f.id.toNat gv _ hgv (gotL_get _ ha31)
          rw [hpn] at hvr
          obtain ⟨sg, rfl, hgs, hgok, hgb⟩ := hvr.slice
          have hsgl : sg.len = (ofId z f.id).length := hgs.1
          obtain ⟨W4, hW4⟩ : ∃ X, X = wx.alloc (.cells #[.int .i64 f.id, .string f.name, .string f.type, .int .i64 f.kind, .int .i64 f.rule] 56) := ⟨_, rfl⟩
          have x4 : Ext wx W4 := by rw [hW4]; exact (Ext.refl wx).alloc _
          have rF : W4.heap[wx.heap.size]? = some (.cells #[.int .i64 f.id, .string f.name, .string f.type, .int .i64 f.kind, .int .i64 f.rule] 56 (0, 0)) := by rw [hW4]; exact heap_alloc_new _ _
          have HW4 := hide hW4
          have ho4 := ho.ext x4
          have hb4 := Below.trans hb3 (x4.mono (by omega))
          have hgc : wx.cell? ⟨TT + 1, f.id.toNat, none⟩ = some (.slice sg.a sg.len sg.cap) := by
            rw [cell_of_row _ _ _ _ _ _ hGx, ← Array.getElem?_toList]; exact hgv
          have zGx := lt_of_heap hGx
          have hvi := ho.lt1
          have hvL := ho.lt2
          obtain ⟨f0, f1, f2, f3, f4, _⟩ := row5 rF
          have zF := lt_of_heap rF
          have Hgs := hide hgs
          have Hgb := hide hgb
          have Hsgl := hide hsgl
          have hwxA : Zk TT AA vi vL W4 wx.heap.size := ⟨by omega, by omega, (fun e => by have := (hvi _ e).2; omega), (fun e => by have := (hvL _ e).2; omega), zF⟩
          clear hW4 hgv hvr hgs hgb hsgl hpn hfi
          go_upto_region 40 with fail
          rw [← unhide HW4]
          clear g0 g1 g2 g3 g4
          go_cut [184] (fun s184 wq => ∃ tw : Bool, s184 = .bool tw ∧ Hid (tw = (decide (sg.len = 0) && decide (f.rule = 1))) ∧ W4 = wq)
          case first =>
            rename_i J0 K0 hJ0 hK0
            by_cases hl0 : sg.len = 0
            · have hl1 : ((sg.len : Int) == 0) = true := by simp [hl0]
              by_cases hr0 : f.rule = 1
              · go_wp2_with fail
                first | refine Met.intro (hJ0 _ _ ?_) | refine hK0 _ _ (Met.intro (hJ0 _ _ ?_))
                (repeat apply Exists.intro)
                refine ⟨?rel, rfl⟩
                case rel => exact ⟨_, rfl, by unfold Hid; simp [hl0, hr0], rfl⟩
              · go_wp2_with fail
                first | refine Met.intro (hJ0 _ _ ?_) | refine hK0 _ _ (Met.intro (hJ0 _ _ ?_))
                (repeat apply Exists.intro)
                refine ⟨?rel, rfl⟩
                case rel => exact ⟨_, rfl, by unfold Hid; simp [hl0, hr0], rfl⟩
            · have hl1 : ((sg.len : Int) == 0) = false := by simp; omega
              go_wp2_with fail
              first | refine Met.intro (hJ0 _ _ ?_) | refine hK0 _ _ (Met.intro (hJ0 _ _ ?_))
              (repeat apply Exists.intro)
              refine ⟨?rel, rfl⟩
              case rel => exact ⟨_, rfl, by unfold Hid; simp [hl0], rfl⟩
          case rest =>
          obtain ⟨tw, rfl, Htw, rfl⟩ := hcut
          cases tw
          case true =>
            have htw := unhide Htw
            rw [eq_comm, Bool.and_eq_true, decide_eq_true_eq, decide_eq_true_eq] at htw
            have Hlr := hide (hlr htw.2)
            have hLs : LL = [lf f] := by
              rw [unhide HLL]
              unfold lastOf
              rw [if_pos ⟨by rw [← unhide Hsgl]; exact htw.1, htw.2⟩]
            have HLc := hide (unhide HLb f W4 (h0x.trans x4) (unhide Hlr))
            obtain ⟨y, hy⟩ : ∃ y, y = lf f := ⟨_, rfl⟩
            rw [← unhide Hlf, ← hy] at HLc
            rw [← hy] at hLs
            have bB4 := x4.cell rBx
            have zB4 := World.block_lt_of_cell? W4 _ bB4
            clear htw hlr hy f0 f1 f2 f3 f4
            obtain ⟨f0, f1, f2, f3, f4, _⟩ := row5 rF
            go_wp2_with fail
            refine (unhide HLc).mono ?_
            rintro e w41 ⟨yi, yl, rfl, hyv, hx41⟩
            obtain ⟨W5, hW5⟩ : ∃ X, X = w41.alloc (.cells #[.int .i64 y.kind, .int .i64 y.n, .string y.s, .slice yi.a yi.len yi.cap, .slice yl.a yl.len yl.cap] 28) := ⟨_, rfl⟩
            have x415 : Ext w41 W5 := by rw [hW5]; exact (Ext.refl w41).alloc _
            have ry : W5.rangeAt w41.heap.size 0 [.int .i64 y.kind, .int .i64 y.n, .string y.s, .slice yi.a yi.len yi.cap, .slice yl.a yl.len yl.cap] := by rw [hW5]; exact range_of_new5 _ _ _ _ _ _ _ rfl
            have x45 : Ext W4 W5 := hx41.trans x415
            have hz5 : W5.heap.size = w41.heap.size + 1 := by rw [hW5]; simp
            have hz41 := hx41.size
            have hz4 := x4.size
            have hsl : SliceAt 5 (ValueAtP (Zk TT AA vi vL W5) (k + 5)) W5 ⟨some ⟨w41.heap.size, 0, none⟩, 1, 1⟩ LL := by
              rw [hLs]
              refine ⟨rfl, fun i u hu => ?_⟩
              have hi : i = 0 := by cases i with | zero => rfl | succ n => simp at hu
              subst hi
              simp at hu
              subst hu
              refine ⟨w41.heap.size, 0, _, rfl, ry, ?_⟩
              exact ((hyv.le (by omega)).ext x415).sub fun b hb => ⟨by have := hb.1; omega, by have := hb.1; omega, (fun e => by have := (hvi _ e).2; have := hb.1; omega), (fun e => by have := (hvL _ e).2; have := hb.1; omega), by have := hb.2; omega⟩
            have hslb : ∀ ad : Addr, (some ⟨w41.heap.size, 0, none⟩ : Option Addr) = some ad → Zk TT AA vi vL W5 ad.block := fun ad ha => by
              cases ha
              exact ⟨by show TT + 2 ≤ w41.heap.size; omega, by show w41.heap.size ≠ AA; omega, (fun e => by have := (hvi _ e).2; simp only at this; omega), (fun e => by have := (hvL _ e).2; simp only at this; omega), by show w41.heap.size < _; omega⟩
            have ho5 := ho4.ext x45
            have hb5 := Below.trans hb4 (x45.mono (by omega))
            have rF5 := x45.heap rF
            have hzF : Zk TT AA vi vL W5 wx.heap.size := ⟨hwxA.1, hwxA.2.1, hwxA.2.2.1, hwxA.2.2.2.1, by have := x45.size; omega⟩
            have hLl : LL.length = 1 := by rw [hLs]; rfl
            have HW5 := hide hW5
            clear hW5 hyv hLs hx41 x415 ry hz5 hgc f0 f1 f2 f3 f4 zB4 bB4
            obtain ⟨La, hLa⟩ : ∃ La : Option Addr, La = some ⟨w41.heap.size, 0, none⟩ := ⟨_, rfl⟩
            obtain ⟨Lc, hLc⟩ : ∃ Lc : Nat, Lc = 1 := ⟨_, rfl⟩
            rw [← hLa] at hsl hslb
            go_upto_region 42 with fail
            rw [← unhide HW5, ← hLa]
            have HLa := hide hLa
            have HLl : Hid (LL.length = 1) := hLl
            clear hLa hLc hLl
            have hTA : TT + 2 ≤ AA := hrwA
            have hLLb : LL.length ≤ 21000 := by have := unhide Hbd; omega
            have HzF : Hid (Zk TT AA vi vL W5 wx.heap.size) := hzF
            have Hsl := hide hsl
            have Hslb := hide hslb
            have Hho5 := hide ho5
            clear hzF hsl hslb
            go_wp2
            go_loopw [191] (fun i wy => ∃ (q : Nat) (ui uL : Value), q ≤ LL.length ∧ i = .int .i64 q ∧ OutAt (k + 5) TT AA wy ui uL ui uL (ids0 ++ (LL.take q).map (fun _ => f.id)) (l0 ++ LL.take q) ∧ Stays (Zk TT AA vi vL W5) W5 wy AA ui uL ∧ Below AA W3 wy) (fun i _ => LL.length - (intOf i).toNat)
            case atStart => exact ⟨0, vi, vL, by omega, rfl, by simpa using ho5, ⟨Nat.le_refl _, fun b hb => ⟨hb.2.2.2.2, hb.2.1, rfl, hb.2.2.1, hb.2.2.2.1⟩⟩, hb5⟩
            case round =>
              clear ho5 hb5
              rename World => wy
              obtain ⟨q, ui, uL, hq, rfl, ho, hst, hby⟩ := hrel
              by_cases hlq : q < LL.length
              · obtain ⟨xb, xo, cs2, hla, hr2, hxv⟩ := (unhide Hsl).2 q LL[q] (by simp [hlq])
                simp only at hla
                subst hla
                obtain ⟨xi, xl, rfl, _⟩ := hxv.at_.opens
                have hzb := unhide Hslb _ rfl
                obtain ⟨c0, c1, c2, c3, c4⟩ := range5 (rangeAt_keep (w' := wy) hr2 (fun ob h => by rw [(hst.2 _ hzb).2.2.1]; exact h))
                have Htk : Hid (LL.take (q + 1) = LL.take q ++ [LL[q]]) := List.take_succ_eq_append_getElem hlq
                have Htl : Hid ((LL.take q).length < LL.length) := by unfold Hid; rw [List.length_take]; omega
                have Hxv := hide hxv
                have hqi : (q : Int) < (1 : Int) := by have := unhide HLl; omega
                generalize LL[q] = x at *
                obtain ⟨W6, hW6⟩ : ∃ X, X = wy.alloc (.cells #[.int .i64 x.kind, .int .i64 x.n, .string x.s, .slice xi.a xi.len xi.cap, .slice xl.a xl.len xl.cap] 28) := ⟨_, rfl⟩
                have x6 : Ext wy W6 := by rw [hW6]; exact (Ext.refl wy).alloc _
                have rX : W6.heap[wy.heap.size]? = some (.cells #[.int .i64 x.kind, .int .i64 x.n, .string x.s, .slice xi.a xi.len xi.cap, .slice xl.a xl.len xl.cap] 28 (0, 0)) := by rw [hW6]; exact heap_alloc_new _ _
                have HW6 := hide hW6
                have hO6 := ho.ext x6
                have hT6 := hst.ext x6
                have hB6 := Below.trans hby (x6.mono (by have := lt_of_heap ho.cells; omega))
                have hS0 : OsS AA wx.heap.size wy.heap.size ui uL f.id (.int .i64 x.kind) (.int .i64 x.n) (.string x.s) (.slice xi.a xi.len xi.cap) (.slice xl.a xl.len xl.cap) W6 := by
                  obtain ⟨_, _, _, y3, y4, _⟩ := row5 hO6.cells
                  obtain ⟨y5, y6, y7, y8, y9, _⟩ := row5 rX
                  exact ⟨y3, y4, cell_of_row _ _ 0 _ _ _ (by rw [(hT6.2 _ (unhide HzF)).2.2.1]; exact rF5), y5, y6, y7, y8, y9⟩
                clear hr2 hxv hW6 rX hzb
                go_wp2_with fail
                rw [← unhide HW6]
                clear c0 c1 c2 c3 c4
                refine wp_region_X (OsS AA wx.heap.size wy.heap.size ui uL f.id (.int .i64 x.kind) (.int .i64 x.n) (.string x.s) (.slice xi.a xi.len xi.cap) (.slice xl.a xl.len xl.cap)) (fun j => decide (12 ≤ j)) (by kernel_rfl) ?_
                obtain ⟨We, hWe⟩ : ∃ We, We = W6.drew := ⟨_, rfl⟩
                have eWe : Ext W6 We := by rw [hWe]; exact (Ext.refl W6).drew
                rw [← hWe]
                clear hWe
                have SWe := hS0.ext eWe
                have OWe := hO6.ext eWe
                have TWe := hT6.ext eWe
                have BWe := Below.trans hB6 (eWe.mono (by have := lt_of_heap hO6.cells; omega))
                refine wpAnyX_take (i := 0) (v := .pointer (some ⟨AA, 3, none⟩)) rfl (by kernel_rfl) (by kernel_rfl) (fun _ _ _ h => h) (.inl ⟨rfl, fun w' hS => by simp [execOp, go_sem]⟩) (SWe) ?_
                simp only [Act.put, List.getElem_toArray, List.getElem_cons_zero, List.getElem_cons_succ, List.setIfInBounds_toArray, List.set_cons_succ, List.set_cons_zero]
                refine wpAnyX_take (i := 1) (v := ui) rfl (by kernel_rfl) (by kernel_rfl) (fun _ _ _ h => h) (.inl ⟨rfl, fun w' hS => by simp [execOp, go_sem, hS.1]⟩) (SWe) ?_
                simp only [Act.put, List.getElem_toArray, List.getElem_cons_zero, List.getElem_cons_succ, List.setIfInBounds_toArray, List.set_cons_succ, List.set_cons_zero]
                refine wpAnyX_take (i := 2) (v := .pointer (some ⟨wx.heap.size, 0, none⟩)) rfl (by kernel_rfl) (by kernel_rfl) (fun _ _ _ h => h) (.inl ⟨rfl, fun w' hS => by simp [execOp, go_sem]⟩) (SWe) ?_
                simp only [Act.put, List.getElem_toArray, List.getElem_cons_zero, List.getElem_cons_succ, List.setIfInBounds_toArray, List.set_cons_succ, List.set_cons_zero]
                refine wpAnyX_take (i := 3) (v := .int .i64 f.id) rfl (by kernel_rfl) (by kernel_rfl) (fun _ _ _ h => h) (.inl ⟨rfl, fun w' hS => by simp [execOp, go_sem, hS.2.2.1]⟩) (SWe) ?_
                simp only [Act.put, List.getElem_toArray, List.getElem_cons_zero, List.getElem_cons_succ, List.setIfInBounds_toArray, List.set_cons_succ, List.set_cons_zero]
                refine wpAnyX_take (i := 6) (v := .pointer (some ⟨AA, 4, none⟩)) rfl (by kernel_rfl) (by kernel_rfl) (fun _ _ _ h => h) (.inl ⟨rfl, fun w' hS => by simp [execOp, go_sem]⟩) (SWe) ?_
                simp only [Act.put, List.getElem_toArray, List.getElem_cons_zero, List.getElem_cons_succ, List.setIfInBounds_toArray, List.set_cons_succ, List.set_cons_zero]
                refine wpAnyX_take (i := 7) (v := uL) rfl (by kernel_rfl) (by kernel_rfl) (fun _ _ _ h => h) (.inl ⟨rfl, fun w' hS => by simp [execOp, go_sem, hS.2.1]⟩) (SWe) ?_
                simp only [Act.put, List.getElem_toArray, List.getElem_cons_zero, List.getElem_cons_succ, List.setIfInBounds_toArray, List.set_cons_succ, List.set_cons_zero]
                refine wpAnyX_takeD (i := 8) (v := .agg #[.int .i64 x.kind, .int .i64 x.n, .string x.s, .slice xi.a xi.len xi.cap, .slice xl.a xl.len xl.cap]) [8, 9, 10, 12, 13, 14] rfl (by kernel_rfl) (by kernel_rfl) (fun _ _ _ h => h) (.inl ⟨rfl, fun w' hS => by simp [execOp, go_sem, hS.2.2.2.1, hS.2.2.2.2.1, hS.2.2.2.2.2.1, hS.2.2.2.2.2.2.1, hS.2.2.2.2.2.2.2]⟩) (SWe) ?_
                simp only [Act.put, List.getElem_toArray, List.getElem_cons_zero, List.getElem_cons_succ, List.setIfInBounds_toArray, List.set_cons_succ, List.set_cons_zero]
                refine wpAnyX_two (i := 4) (j := 9) rfl rfl (by kernel_rfl) rfl rfl (fun K hK => ?_) (fun K hK => ?_)
                · skip
                  go_wp2
                  obtain ⟨Wa, hWa⟩ : ∃ X, X = We.alloc (.cells #[.int .i64 f.id] 3) := ⟨_, rfl⟩
                  have eWa : Ext We Wa := by rw [hWa]; exact (Ext.refl We).alloc _
                  have r4Wa : Wa.rangeAt We.heap.size 0 [.int .i64 f.id] := by rw [hWa]; exact range_of_new1 _ _ _ rfl
                  rw [← hWa]
                  clear hWa
                  have SWa := (SWe).ext eWa
                  refine hK.out _ _ (SWa) ?_
                  clear hK K
                  have OWa := (OWe).ext eWa
                  have TWa := (TWe).ext eWa
                  have BWa := Below.trans (BWe) (eWa.mono (by have := lt_of_heap (OWe).cells; omega))
                  refine wpAnyX_two (i := 5) (j := 9) rfl rfl (by kernel_rfl) rfl rfl (fun K hK => ?_) (fun K hK => ?_)
                  · skip
                    have Hoi := hide OWa.ints
                    refine wpList_app1w _ _ 25 3 (.int .i64 0) 1 8 Tryz.underlying25 info3 rfl (by decide) (by decide) rfl rfl (AA + 1) _ _ _ rfl (unhide Hoi) We.heap.size 1 [.int .i64 f.id] rfl rfl (r4Wa) ?c2 ?c3 ?c4 ?_
                    case c2 => intro u hu; simp at hu; subst hu; rfl
                    case c3 => have h1 := unhide Hbd; have h2 := unhide Htl; simp only [List.length_append, List.length_map]; omega
                    case c4 => have := lt_of_heap OWa.cells; omega
                    intro v5 w5 ho5 hg5 hw5
                    obtain ⟨s5, hs5⟩ : ∃ s : SV, v5 = .slice s.a s.len s.cap := by obtain ⟨a', c', e'⟩ := owns_slice ho5; exact ⟨⟨a', _, c'⟩, e'⟩
                    subst hs5
                    have hnA : some AA ≠ ui.ownBlock := fun e => by have := (OWa.lt1 _ e.symm).1; omega
                    have hnF : some wx.heap.size ≠ ui.ownBlock := fun e => (TWa.2 _ (unhide HzF)).2.2.2.1 e.symm
                    have hnX : some wy.heap.size ≠ ui.ownBlock := fun e => by have := (ho.lt1 _ e.symm).2; omega
                    have Ow5 := OutAt.push1 OWa ho5 hg5 hw5
                    have Tw5 := TWa.push1 hg5 hw5
                    have Bw5 := BWa.grown hg5 (by have := lt_of_heap OWa.cells; omega) (fun k hk => by have := (OWa.lt1 k hk).1; omega)
                    have Sw5 := (SWa).grown hg5 hnA hnF hnX
                    refine hK.out _ _ (Sw5) ?_
                    clear hK K
                    refine wpAnyX_take (i := 11) (v := .pointer (some ⟨AA, 3, none⟩)) rfl (by kernel_rfl) (by kernel_rfl) (fun _ _ _ h => h) (.inl ⟨rfl, fun w' hS => by simp [execOp, go_sem]⟩) (Sw5) ?_
                    simp only [Act.put, List.getElem_toArray, List.getElem_cons_zero, List.getElem_cons_succ, List.setIfInBounds_toArray, List.set_cons_succ, List.set_cons_zero]
                    refine wpAnyX_one (j := 9) rfl (by kernel_rfl) rfl fun K hK => ?_
                    go_wp2
                    obtain ⟨Wb, hWb⟩ : ∃ X, X = w5.alloc (.cells #[.int .i64 x.kind, .int .i64 x.n, .string x.s, .slice xi.a xi.len xi.cap, .slice xl.a xl.len xl.cap] 28) := ⟨_, rfl⟩
                    have eWb : Ext w5 Wb := by rw [hWb]; exact (Ext.refl w5).alloc _
                    have r9Wb : Wb.rangeAt w5.heap.size 0 [.int .i64 x.kind, .int .i64 x.n, .string x.s, .slice xi.a xi.len xi.cap, .slice xl.a xl.len xl.cap] := by rw [hWb]; exact range_of_new5 _ _ _ _ _ _ _ rfl
                    rw [← hWb]
                    clear hWb
                    have SWb := (Sw5).ext eWb
                    refine hK.out _ _ (SWb) ?_
                    clear hK K
                    have OWb := (Ow5).ext eWb
                    have TWb := (Tw5).ext eWb
                    have BWb := Below.trans (Bw5) (eWb.mono (by have := lt_of_heap (Ow5).cells; omega))
                    refine wpAnyX_one (j := 10) rfl (by kernel_rfl) rfl fun K hK => ?_
                    obtain ⟨css, hc1, hc2, hc3⟩ := OWb.vals
                    have hxf : ValueAtP (fun b => (TT + 2 ≤ b ∧ b ≠ AA) ∧ uL.ownBlock ≠ some b ∧ Value.ownBlock (.slice s5.a s5.len s5.cap) ≠ some b ∧ b < Wb.heap.size) (k + 5) Wb [.int .i64 x.kind, .int .i64 x.n, .string x.s, .slice xi.a xi.len xi.cap, .slice xl.a xl.len xl.cap] x := by
                      refine ((unhide Hxv).keep fun b ob hb h => by rw [(TWb.2 b hb).2.2.1]; exact h).sub fun b hb => ?_
                      have h1 := TWb.2 b hb
                      have h0 := TWb.1
                      exact ⟨⟨hb.1, h1.2.1⟩, h1.2.2.2.2, h1.2.2.2.1, by have := h1.1; omega⟩
                    have Hc1 := hide hc1
                    refine wpList_app1w _ _ 26 28 (.agg #[.int .i64 0, .int .i64 0, .string ⟨#[]⟩, .slice none 0 0, .slice none 0 0]) 5 80 Tryz.underlying26 info28 rfl (by decide) (by decide) rfl rfl (AA + 1) _ _ _ rfl (unhide Hc1) w5.heap.size 1 [.int .i64 x.kind, .int .i64 x.n, .string x.s, .slice xi.a xi.len xi.cap, .slice xl.a xl.len xl.cap] rfl rfl (r9Wb) ?d2 ?d3 ?d4 ?_
                    case d2 => exact hxf.one
                    case d3 => have h1 := unhide Hbd; have h2 := unhide Htl; simp only [List.length_append]; omega
                    case d4 => have := lt_of_heap OWb.cells; omega
                    intro v7 w7 ho7 hg7 hw7
                    obtain ⟨s7, hs7⟩ : ∃ s : SV, v7 = .slice s.a s.len s.cap := by obtain ⟨a', c', e'⟩ := owns_slice ho7; exact ⟨⟨a', _, c'⟩, e'⟩
                    subst hs7
                    have hnA7 : some AA ≠ uL.ownBlock := fun e => by have := (OWb.lt2 _ e.symm).1; omega
                    have hnF7 : some wx.heap.size ≠ uL.ownBlock := fun e => (TWb.2 _ (unhide HzF)).2.2.2.2 e.symm
                    have hnX7 : some wy.heap.size ≠ uL.ownBlock := fun e => by have := (ho.lt2 _ e.symm).2; omega
                    have hA7 : w7.heap[AA]? = some (.cells #[.int .i64 2, .int .i64 0, .string ⟨#[]⟩, ui, uL] 28 (0, 0)) := by rw [hg7.block AA (lt_of_heap OWb.cells) hnA7]; exact OWb.cells
                    have Sw7 := (SWb).grown hg7 hnA7 hnF7 hnX7
                    have HO7 := hide (OutAt.push2 OWb (by omega) hc1 hc2 hc3 hxf ho7 hg7 hw7)
                    have HT7 := hide (TWb.push2 hg7 hw7 (.slice s5.a s5.len s5.cap) (.slice s7.a s7.len s7.cap))
                    have HB7 := hide (((BWb.grown hg7 (by have := lt_of_heap OWb.cells; omega) (fun k hk => by have := (OWb.lt2 k hk).1; omega)).setCell (p := ⟨AA, 3, none⟩) (by show AA ≤ AA; omega) (.slice s5.a s5.len s5.cap)).setCell (p := ⟨AA, 4, none⟩) (by show AA ≤ AA; omega) (.slice s7.a s7.len s7.cap))
                    obtain ⟨W9, hW9⟩ : ∃ X, X = (w7.setCell ⟨AA, 3, none⟩ (.slice s5.a s5.len s5.cap)).setCell ⟨AA, 4, none⟩ (.slice s7.a s7.len s7.cap) := ⟨_, rfl⟩
                    rw [← hW9] at HO7 HT7 HB7
                    have HW9 := hide hW9
                    obtain ⟨a0, a1, a2, a3, a4, af⟩ := rowN5 hA7
                    have zA := lt_of_heap hA7
                    clear hW9 ho5 hg5 hw5 ho7 hg7 hw7 hc1 hc2 hc3 hxf Hc1 Hoi hA7 hnA hnF hnX hnA7 hnF7 hnX7
                    refine hK.out _ _ (Sw7) ?_
                    clear hK K
                    refine wpAnyX_end [12, 13, 14] [_, _, _] rfl (by intro j i hj; match j, hj with | 0, hj => cases hj; rfl | 1, hj => cases hj; rfl | 2, hj => cases hj; rfl) (by kernel_rfl) (by intro i hi; cases hi; rfl) fun K hK => ?_
                    simp only [List.getElem_toArray, List.getElem_cons_succ, List.getElem_cons_zero]
                    go_wp2
                    refine hK.out _ _ ?_
                    clear hK K
                    go_wp2
                    rw [← unhide HW9]
                    refine ⟨⟨q + 1, .slice s5.a s5.len s5.cap, .slice s7.a s7.len s7.cap, by omega, by go_num, ?_, unhide HT7, unhide HB7⟩, by simp [intOf]; omega⟩
                    rw [unhide Htk, List.map_append, List.map_singleton, ← List.append_assoc, ← List.append_assoc]
                    exact unhide HO7
                  · skip
                    go_wp2
                    obtain ⟨Wb, hWb⟩ : ∃ X, X = Wa.alloc (.cells #[.int .i64 x.kind, .int .i64 x.n, .string x.s, .slice xi.a xi.len xi.cap, .slice xl.a xl.len xl.cap] 28) := ⟨_, rfl⟩
                    have eWb : Ext Wa Wb := by rw [hWb]; exact (Ext.refl Wa).alloc _
                    have r9Wb : Wb.rangeAt Wa.heap.size 0 [.int .i64 x.kind, .int .i64 x.n, .string x.s, .slice xi.a xi.len xi.cap, .slice xl.a xl.len xl.cap] := by rw [hWb]; exact range_of_new5 _ _ _ _ _ _ _ rfl
                    rw [← hWb]
                    clear hWb
                    have SWb := (SWa).ext eWb
                    refine hK.out _ _ (SWb) ?_
                    clear hK K
                    have OWb := (OWa).ext eWb
                    have TWb := (TWa).ext eWb
                    have BWb := Below.trans (BWa) (eWb.mono (by have := lt_of_heap (OWa).cells; omega))
                    refine wpAnyX_one (j := 5) rfl (by kernel_rfl) rfl fun K hK => ?_
                    have Hoi := hide OWb.ints
                    refine wpList_app1w _ _ 25 3 (.int .i64 0) 1 8 Tryz.underlying25 info3 rfl (by decide) (by decide) rfl rfl (AA + 1) _ _ _ rfl (unhide Hoi) We.heap.size 1 [.int .i64 f.id] rfl rfl (eWb.range r4Wa) ?c2 ?c3 ?c4 ?_
                    case c2 => intro u hu; simp at hu; subst hu; rfl
                    case c3 => have h1 := unhide Hbd; have h2 := unhide Htl; simp only [List.length_append, List.length_map]; omega
                    case c4 => have := lt_of_heap OWb.cells; omega
                    intro v5 w5 ho5 hg5 hw5
                    obtain ⟨s5, hs5⟩ : ∃ s : SV, v5 = .slice s.a s.len s.cap := by obtain ⟨a', c', e'⟩ := owns_slice ho5; exact ⟨⟨a', _, c'⟩, e'⟩
                    subst hs5
                    have hnA : some AA ≠ ui.ownBlock := fun e => by have := (OWb.lt1 _ e.symm).1; omega
                    have hnF : some wx.heap.size ≠ ui.ownBlock := fun e => (TWb.2 _ (unhide HzF)).2.2.2.1 e.symm
                    have hnX : some wy.heap.size ≠ ui.ownBlock := fun e => by have := (ho.lt1 _ e.symm).2; omega
                    have Ow5 := OutAt.push1 OWb ho5 hg5 hw5
                    have Tw5 := TWb.push1 hg5 hw5
                    have Bw5 := BWb.grown hg5 (by have := lt_of_heap OWb.cells; omega) (fun k hk => by have := (OWb.lt1 k hk).1; omega)
                    have Sw5 := (SWb).grown hg5 hnA hnF hnX
                    have r9w5 : w5.rangeAt Wa.heap.size 0 [.int .i64 x.kind, .int .i64 x.n, .string x.s, .slice xi.a xi.len xi.cap, .slice xl.a xl.len xl.cap] := rangeAt_keep r9Wb (fun ob h => by rw [hg5.block _ (lt_of_heap h) (fun e => by have := (OWa.lt1 _ e.symm).2; omega)]; exact h)
                    refine hK.out _ _ (Sw5) ?_
                    clear hK K
                    refine wpAnyX_take (i := 11) (v := .pointer (some ⟨AA, 3, none⟩)) rfl (by kernel_rfl) (by kernel_rfl) (fun _ _ _ h => h) (.inl ⟨rfl, fun w' hS => by simp [execOp, go_sem]⟩) (Sw5) ?_
                    simp only [Act.put, List.getElem_toArray, List.getElem_cons_zero, List.getElem_cons_succ, List.setIfInBounds_toArray, List.set_cons_succ, List.set_cons_zero]
                    refine wpAnyX_one (j := 10) rfl (by kernel_rfl) rfl fun K hK => ?_
                    obtain ⟨css, hc1, hc2, hc3⟩ := Ow5.vals
                    have hxf : ValueAtP (fun b => (TT + 2 ≤ b ∧ b ≠ AA) ∧ uL.ownBlock ≠ some b ∧ Value.ownBlock (.slice s5.a s5.len s5.cap) ≠ some b ∧ b < w5.heap.size) (k + 5) w5 [.int .i64 x.kind, .int .i64 x.n, .string x.s, .slice xi.a xi.len xi.cap, .slice xl.a xl.len xl.cap] x := by
                      refine ((unhide Hxv).keep fun b ob hb h => by rw [(Tw5.2 b hb).2.2.1]; exact h).sub fun b hb => ?_
                      have h1 := Tw5.2 b hb
                      have h0 := Tw5.1
                      exact ⟨⟨hb.1, h1.2.1⟩, h1.2.2.2.2, h1.2.2.2.1, by have := h1.1; omega⟩
                    have Hc1 := hide hc1
                    refine wpList_app1w _ _ 26 28 (.agg #[.int .i64 0, .int .i64 0, .string ⟨#[]⟩, .slice none 0 0, .slice none 0 0]) 5 80 Tryz.underlying26 info28 rfl (by decide) (by decide) rfl rfl (AA + 1) _ _ _ rfl (unhide Hc1) Wa.heap.size 1 [.int .i64 x.kind, .int .i64 x.n, .string x.s, .slice xi.a xi.len xi.cap, .slice xl.a xl.len xl.cap] rfl rfl (r9w5) ?d2 ?d3 ?d4 ?_
                    case d2 => exact hxf.one
                    case d3 => have h1 := unhide Hbd; have h2 := unhide Htl; simp only [List.length_append]; omega
                    case d4 => have := lt_of_heap Ow5.cells; omega
                    intro v7 w7 ho7 hg7 hw7
                    obtain ⟨s7, hs7⟩ : ∃ s : SV, v7 = .slice s.a s.len s.cap := by obtain ⟨a', c', e'⟩ := owns_slice ho7; exact ⟨⟨a', _, c'⟩, e'⟩
                    subst hs7
                    have hnA7 : some AA ≠ uL.ownBlock := fun e => by have := (Ow5.lt2 _ e.symm).1; omega
                    have hnF7 : some wx.heap.size ≠ uL.ownBlock := fun e => (Tw5.2 _ (unhide HzF)).2.2.2.2 e.symm
                    have hnX7 : some wy.heap.size ≠ uL.ownBlock := fun e => by have := (ho.lt2 _ e.symm).2; omega
                    have hA7 : w7.heap[AA]? = some (.cells #[.int .i64 2, .int .i64 0, .string ⟨#[]⟩, ui, uL] 28 (0, 0)) := by rw [hg7.block AA (lt_of_heap Ow5.cells) hnA7]; exact Ow5.cells
                    have Sw7 := (Sw5).grown hg7 hnA7 hnF7 hnX7
                    have HO7 := hide (OutAt.push2 Ow5 (by omega) hc1 hc2 hc3 hxf ho7 hg7 hw7)
                    have HT7 := hide (Tw5.push2 hg7 hw7 (.slice s5.a s5.len s5.cap) (.slice s7.a s7.len s7.cap))
                    have HB7 := hide (((Bw5.grown hg7 (by have := lt_of_heap Ow5.cells; omega) (fun k hk => by have := (Ow5.lt2 k hk).1; omega)).setCell (p := ⟨AA, 3, none⟩) (by show AA ≤ AA; omega) (.slice s5.a s5.len s5.cap)).setCell (p := ⟨AA, 4, none⟩) (by show AA ≤ AA; omega) (.slice s7.a s7.len s7.cap))
                    obtain ⟨W9, hW9⟩ : ∃ X, X = (w7.setCell ⟨AA, 3, none⟩ (.slice s5.a s5.len s5.cap)).setCell ⟨AA, 4, none⟩ (.slice s7.a s7.len s7.cap) := ⟨_, rfl⟩
                    rw [← hW9] at HO7 HT7 HB7
                    have HW9 := hide hW9
                    obtain ⟨a0, a1, a2, a3, a4, af⟩ := rowN5 hA7
                    have zA := lt_of_heap hA7
                    clear hW9 ho5 hg5 hw5 ho7 hg7 hw7 hc1 hc2 hc3 hxf Hc1 Hoi hA7 hnA hnF hnX hnA7 hnF7 hnX7
                    refine hK.out _ _ (Sw7) ?_
                    clear hK K
                    refine wpAnyX_end [12, 13, 14] [_, _, _] rfl (by intro j i hj; match j, hj with | 0, hj => cases hj; rfl | 1, hj => cases hj; rfl | 2, hj => cases hj; rfl) (by kernel_rfl) (by intro i hi; cases hi; rfl) fun K hK => ?_
                    simp only [List.getElem_toArray, List.getElem_cons_succ, List.getElem_cons_zero]
                    go_wp2
                    refine hK.out _ _ ?_
                    clear hK K
                    go_wp2
                    rw [← unhide HW9]
                    refine ⟨⟨q + 1, .slice s5.a s5.len s5.cap, .slice s7.a s7.len s7.cap, by omega, by go_num, ?_, unhide HT7, unhide HB7⟩, by simp [intOf]; omega⟩
                    rw [unhide Htk, List.map_append, List.map_singleton, ← List.append_assoc, ← List.append_assoc]
                    exact unhide HO7
                · skip
                  go_wp2
                  obtain ⟨Wa, hWa⟩ : ∃ X, X = We.alloc (.cells #[.int .i64 x.kind, .int .i64 x.n, .string x.s, .slice xi.a xi.len xi.cap, .slice xl.a xl.len xl.cap] 28) := ⟨_, rfl⟩
                  have eWa : Ext We Wa := by rw [hWa]; exact (Ext.refl We).alloc _
                  have r9Wa : Wa.rangeAt We.heap.size 0 [.int .i64 x.kind, .int .i64 x.n, .string x.s, .slice xi.a xi.len xi.cap, .slice xl.a xl.len xl.cap] := by rw [hWa]; exact range_of_new5 _ _ _ _ _ _ _ rfl
                  rw [← hWa]
                  clear hWa
                  have SWa := (SWe).ext eWa
                  refine hK.out _ _ (SWa) ?_
                  clear hK K
                  have OWa := (OWe).ext eWa
                  have TWa := (TWe).ext eWa
                  have BWa := Below.trans (BWe) (eWa.mono (by have := lt_of_heap (OWe).cells; omega))
                  refine wpAnyX_one (j := 4) rfl (by kernel_rfl) rfl fun K hK => ?_
                  go_wp2
                  obtain ⟨Wb, hWb⟩ : ∃ X, X = Wa.alloc (.cells #[.int .i64 f.id] 3) := ⟨_, rfl⟩
                  have eWb : Ext Wa Wb := by rw [hWb]; exact (Ext.refl Wa).alloc _
                  have r4Wb : Wb.rangeAt Wa.heap.size 0 [.int .i64 f.id] := by rw [hWb]; exact range_of_new1 _ _ _ rfl
                  rw [← hWb]
                  clear hWb
                  have SWb := (SWa).ext eWb
                  refine hK.out _ _ (SWb) ?_
                  clear hK K
                  have OWb := (OWa).ext eWb
                  have TWb := (TWa).ext eWb
                  have BWb := Below.trans (BWa) (eWb.mono (by have := lt_of_heap (OWa).cells; omega))
                  refine wpAnyX_one (j := 5) rfl (by kernel_rfl) rfl fun K hK => ?_
                  have Hoi := hide OWb.ints
                  refine wpList_app1w _ _ 25 3 (.int .i64 0) 1 8 Tryz.underlying25 info3 rfl (by decide) (by decide) rfl rfl (AA + 1) _ _ _ rfl (unhide Hoi) Wa.heap.size 1 [.int .i64 f.id] rfl rfl (r4Wb) ?c2 ?c3 ?c4 ?_
                  case c2 => intro u hu; simp at hu; subst hu; rfl
                  case c3 => have h1 := unhide Hbd; have h2 := unhide Htl; simp only [List.length_append, List.length_map]; omega
                  case c4 => have := lt_of_heap OWb.cells; omega
                  intro v5 w5 ho5 hg5 hw5
                  obtain ⟨s5, hs5⟩ : ∃ s : SV, v5 = .slice s.a s.len s.cap := by obtain ⟨a', c', e'⟩ := owns_slice ho5; exact ⟨⟨a', _, c'⟩, e'⟩
                  subst hs5
                  have hnA : some AA ≠ ui.ownBlock := fun e => by have := (OWb.lt1 _ e.symm).1; omega
                  have hnF : some wx.heap.size ≠ ui.ownBlock := fun e => (TWb.2 _ (unhide HzF)).2.2.2.1 e.symm
                  have hnX : some wy.heap.size ≠ ui.ownBlock := fun e => by have := (ho.lt1 _ e.symm).2; omega
                  have Ow5 := OutAt.push1 OWb ho5 hg5 hw5
                  have Tw5 := TWb.push1 hg5 hw5
                  have Bw5 := BWb.grown hg5 (by have := lt_of_heap OWb.cells; omega) (fun k hk => by have := (OWb.lt1 k hk).1; omega)
                  have Sw5 := (SWb).grown hg5 hnA hnF hnX
                  have r9w5 : w5.rangeAt We.heap.size 0 [.int .i64 x.kind, .int .i64 x.n, .string x.s, .slice xi.a xi.len xi.cap, .slice xl.a xl.len xl.cap] := rangeAt_keep (eWb.range r9Wa) (fun ob h => by rw [hg5.block _ (lt_of_heap h) (fun e => by have := (OWe.lt1 _ e.symm).2; omega)]; exact h)
                  refine hK.out _ _ (Sw5) ?_
                  clear hK K
                  refine wpAnyX_take (i := 11) (v := .pointer (some ⟨AA, 3, none⟩)) rfl (by kernel_rfl) (by kernel_rfl) (fun _ _ _ h => h) (.inl ⟨rfl, fun w' hS => by simp [execOp, go_sem]⟩) (Sw5) ?_
                  simp only [Act.put, List.getElem_toArray, List.getElem_cons_zero, List.getElem_cons_succ, List.setIfInBounds_toArray, List.set_cons_succ, List.set_cons_zero]
                  refine wpAnyX_one (j := 10) rfl (by kernel_rfl) rfl fun K hK => ?_
                  obtain ⟨css, hc1, hc2, hc3⟩ := Ow5.vals
                  have hxf : ValueAtP (fun b => (TT + 2 ≤ b ∧ b ≠ AA) ∧ uL.ownBlock ≠ some b ∧ Value.ownBlock (.slice s5.a s5.len s5.cap) ≠ some b ∧ b < w5.heap.size) (k + 5) w5 [.int .i64 x.kind, .int .i64 x.n, .string x.s, .slice xi.a xi.len xi.cap, .slice xl.a xl.len xl.cap] x := by
                    refine ((unhide Hxv).keep fun b ob hb h => by rw [(Tw5.2 b hb).2.2.1]; exact h).sub fun b hb => ?_
                    have h1 := Tw5.2 b hb
                    have h0 := Tw5.1
                    exact ⟨⟨hb.1, h1.2.1⟩, h1.2.2.2.2, h1.2.2.2.1, by have := h1.1; omega⟩
                  have Hc1 := hide hc1
                  refine wpList_app1w _ _ 26 28 (.agg #[.int .i64 0, .int .i64 0, .string ⟨#[]⟩, .slice none 0 0, .slice none 0 0]) 5 80 Tryz.underlying26 info28 rfl (by decide) (by decide) rfl rfl (AA + 1) _ _ _ rfl (unhide Hc1) We.heap.size 1 [.int .i64 x.kind, .int .i64 x.n, .string x.s, .slice xi.a xi.len xi.cap, .slice xl.a xl.len xl.cap] rfl rfl (r9w5) ?d2 ?d3 ?d4 ?_
                  case d2 => exact hxf.one
                  case d3 => have h1 := unhide Hbd; have h2 := unhide Htl; simp only [List.length_append]; omega
                  case d4 => have := lt_of_heap Ow5.cells; omega
                  intro v7 w7 ho7 hg7 hw7
                  obtain ⟨s7, hs7⟩ : ∃ s : SV, v7 = .slice s.a s.len s.cap := by obtain ⟨a', c', e'⟩ := owns_slice ho7; exact ⟨⟨a', _, c'⟩, e'⟩
                  subst hs7
                  have hnA7 : some AA ≠ uL.ownBlock := fun e => by have := (Ow5.lt2 _ e.symm).1; omega
                  have hnF7 : some wx.heap.size ≠ uL.ownBlock := fun e => (Tw5.2 _ (unhide HzF)).2.2.2.2 e.symm
                  have hnX7 : some wy.heap.size ≠ uL.ownBlock := fun e => by have := (ho.lt2 _ e.symm).2; omega
                  have hA7 : w7.heap[AA]? = some (.cells #[.int .i64 2, .int .i64 0, .string ⟨#[]⟩, ui, uL] 28 (0, 0)) := by rw [hg7.block AA (lt_of_heap Ow5.cells) hnA7]; exact Ow5.cells
                  have Sw7 := (Sw5).grown hg7 hnA7 hnF7 hnX7
                  have HO7 := hide (OutAt.push2 Ow5 (by omega) hc1 hc2 hc3 hxf ho7 hg7 hw7)
                  have HT7 := hide (Tw5.push2 hg7 hw7 (.slice s5.a s5.len s5.cap) (.slice s7.a s7.len s7.cap))
                  have HB7 := hide (((Bw5.grown hg7 (by have := lt_of_heap Ow5.cells; omega) (fun k hk => by have := (Ow5.lt2 k hk).1; omega)).setCell (p := ⟨AA, 3, none⟩) (by show AA ≤ AA; omega) (.slice s5.a s5.len s5.cap)).setCell (p := ⟨AA, 4, none⟩) (by show AA ≤ AA; omega) (.slice s7.a s7.len s7.cap))
                  obtain ⟨W9, hW9⟩ : ∃ X, X = (w7.setCell ⟨AA, 3, none⟩ (.slice s5.a s5.len s5.cap)).setCell ⟨AA, 4, none⟩ (.slice s7.a s7.len s7.cap) := ⟨_, rfl⟩
                  rw [← hW9] at HO7 HT7 HB7
                  have HW9 := hide hW9
                  obtain ⟨a0, a1, a2, a3, a4, af⟩ := rowN5 hA7
                  have zA := lt_of_heap hA7
                  clear hW9 ho5 hg5 hw5 ho7 hg7 hw7 hc1 hc2 hc3 hxf Hc1 Hoi hA7 hnA hnF hnX hnA7 hnF7 hnX7
                  refine hK.out _ _ (Sw7) ?_
                  clear hK K
                  refine wpAnyX_end [12, 13, 14] [_, _, _] rfl (by intro j i hj; match j, hj with | 0, hj => cases hj; rfl | 1, hj => cases hj; rfl | 2, hj => cases hj; rfl) (by kernel_rfl) (by intro i hi; cases hi; rfl) fun K hK => ?_
                  simp only [List.getElem_toArray, List.getElem_cons_succ, List.getElem_cons_zero]
                  go_wp2
                  refine hK.out _ _ ?_
                  clear hK K
                  go_wp2
                  rw [← unhide HW9]
                  refine ⟨⟨q + 1, .slice s5.a s5.len s5.cap, .slice s7.a s7.len s7.cap, by omega, by go_num, ?_, unhide HT7, unhide HB7⟩, by simp [intOf]; omega⟩
                  rw [unhide Htk, List.map_append, List.map_singleton, ← List.append_assoc, ← List.append_assoc]
                  exact unhide HO7
              · have hqi : ¬ (q : Int) < (1 : Int) := by have := unhide HLl; omega
                have htq : LL.take q = LL := List.take_of_length_le (by omega)
                rw [htq] at ho
                have Hho := hide ho
                clear htq ho
                go_wp2
                refine ⟨⟨m + 1, ui, uL, by omega, by go_num, ?_, hby⟩, by simp [intOf]; omega⟩
                rw [unhide Hia, unhide Hib]
                exact unhide Hho
          case false =>
            have hLs : LL = ofId z f.id := by
              rw [unhide HLL]
              unfold lastOf
              rw [if_neg]
              rintro ⟨h1, h2⟩
              have htw := unhide Htw
              rw [← unhide Hsgl] at h1
              simp [h1, h2] at htw
            have hsl : SliceAt 5 (ValueAtP (Zk TT AA vi vL W4) (k + 5)) W4 sg LL := by
              rw [hLs]
              refine SliceAt.imp5 (unhide Hgs) (xwx.trans x4) fun cs u hu => ?_
              refine (hu.ext (xwx.trans x4)).sub fun b hb => ?_
              have h1 := hb.1.1
              have h2 := hb.2
              rw [← unhide HAA] at h2
              exact ⟨h1, by omega, (fun e => by have := (hvi _ e).1; omega), (fun e => by have := (hvL _ e).1; omega), by omega⟩
            have hslb : ∀ ad : Addr, sg.a = some ad → Zk TT AA vi vL W4 ad.block := fun ad ha => by
              have h := unhide Hgb ad ha
              rw [← unhide HAA] at h
              exact ⟨h.1, by omega, (fun e => by have := (hvi _ e).1; omega), (fun e => by have := (hvL _ e).1; omega), by omega⟩
            have ho5 := ho4
            have hb5 := hb4
            have rF5 := rF
            have hzF := hwxA
            obtain ⟨La, Ln, Lc⟩ := sg
            have hNl := hsl.1
            simp only at hNl
            subst hNl
            have HLl : Hid (LL.length = LL.length) := rfl
            clear hLs hgc f0 f1 f2 f3 f4
            have hTA : TT + 2 ≤ AA := hrwA
            have hLLb : LL.length ≤ 21000 := by have := unhide Hbd; omega
            have HzF : Hid (Zk TT AA vi vL W4 wx.heap.size) := hzF
            have Hsl := hide hsl
            have Hslb := hide hslb
            have Hho5 := hide ho5
            clear hzF hsl hslb
            go_wp2
            go_loopw [191] (fun i wy => ∃ (q : Nat) (ui uL : Value), q ≤ LL.length ∧ i = .int .i64 q ∧ OutAt (k + 5) TT AA wy ui uL ui uL (ids0 ++ (LL.take q).map (fun _ => f.id)) (l0 ++ LL.take q) ∧ Stays (Zk TT AA vi vL W4) W4 wy AA ui uL ∧ Below AA W3 wy) (fun i _ => LL.length - (intOf i).toNat)
            case atStart => exact ⟨0, vi, vL, by omega, rfl, by simpa using ho5, ⟨Nat.le_refl _, fun b hb => ⟨hb.2.2.2.2, hb.2.1, rfl, hb.2.2.1, hb.2.2.2.1⟩⟩, hb5⟩
            case round =>
              clear ho5 hb5
              rename World => wy
              obtain ⟨q, ui, uL, hq, rfl, ho, hst, hby⟩ := hrel
              by_cases hlq : q < LL.length
              · obtain ⟨xb, xo, cs2, hla, hr2, hxv⟩ := (unhide Hsl).2 q LL[q] (by simp [hlq])
                simp only at hla
                subst hla
                obtain ⟨xi, xl, rfl, _⟩ := hxv.at_.opens
                have hzb := unhide Hslb _ rfl
                obtain ⟨c0, c1, c2, c3, c4⟩ := range5 (rangeAt_keep (w' := wy) hr2 (fun ob h => by rw [(hst.2 _ hzb).2.2.1]; exact h))
                have Htk : Hid (LL.take (q + 1) = LL.take q ++ [LL[q]]) := List.take_succ_eq_append_getElem hlq
                have Htl : Hid ((LL.take q).length < LL.length) := by unfold Hid; rw [List.length_take]; omega
                have Hxv := hide hxv
                have hqi : (q : Int) < (LL.length : Int) := by have := unhide HLl; omega
                generalize LL[q] = x at *
                obtain ⟨W6, hW6⟩ : ∃ X, X = wy.alloc (.cells #[.int .i64 x.kind, .int .i64 x.n, .string x.s, .slice xi.a xi.len xi.cap, .slice xl.a xl.len xl.cap] 28) := ⟨_, rfl⟩
                have x6 : Ext wy W6 := by rw [hW6]; exact (Ext.refl wy).alloc _
                have rX : W6.heap[wy.heap.size]? = some (.cells #[.int .i64 x.kind, .int .i64 x.n, .string x.s, .slice xi.a xi.len xi.cap, .slice xl.a xl.len xl.cap] 28 (0, 0)) := by rw [hW6]; exact heap_alloc_new _ _
                have HW6 := hide hW6
                have hO6 := ho.ext x6
                have hT6 := hst.ext x6
                have hB6 := Below.trans hby (x6.mono (by have := lt_of_heap ho.cells; omega))
                have hS0 : OsS AA wx.heap.size wy.heap.size ui uL f.id (.int .i64 x.kind) (.int .i64 x.n) (.string x.s) (.slice xi.a xi.len xi.cap) (.slice xl.a xl.len xl.cap) W6 := by
                  obtain ⟨_, _, _, y3, y4, _⟩ := row5 hO6.cells
                  obtain ⟨y5, y6, y7, y8, y9, _⟩ := row5 rX
                  exact ⟨y3, y4, cell_of_row _ _ 0 _ _ _ (by rw [(hT6.2 _ (unhide HzF)).2.2.1]; exact rF5), y5, y6, y7, y8, y9⟩
                clear hr2 hxv hW6 rX hzb
                go_wp2_with fail
                rw [← unhide HW6]
                clear c0 c1 c2 c3 c4
                refine wp_region_X (OsS AA wx.heap.size wy.heap.size ui uL f.id (.int .i64 x.kind) (.int .i64 x.n) (.string x.s) (.slice xi.a xi.len xi.cap) (.slice xl.a xl.len xl.cap)) (fun j => decide (12 ≤ j)) (by kernel_rfl) ?_
                obtain ⟨We, hWe⟩ : ∃ We, We = W6.drew := ⟨_, rfl⟩
                have eWe : Ext W6 We := by rw [hWe]; exact (Ext.refl W6).drew
                rw [← hWe]
                clear hWe
                have SWe := hS0.ext eWe
                have OWe := hO6.ext eWe
                have TWe := hT6.ext eWe
                have BWe := Below.trans hB6 (eWe.mono (by have := lt_of_heap hO6.cells; omega))
                refine wpAnyX_take (i := 0) (v := .pointer (some ⟨AA, 3, none⟩)) rfl (by kernel_rfl) (by kernel_rfl) (fun _ _ _ h => h) (.inl ⟨rfl, fun w' hS => by simp [execOp, go_sem]⟩) (SWe) ?_
                simp only [Act.put, List.getElem_toArray, List.getElem_cons_zero, List.getElem_cons_succ, List.setIfInBounds_toArray, List.set_cons_succ, List.set_cons_zero]
                refine wpAnyX_take (i := 1) (v := ui) rfl (by kernel_rfl) (by kernel_rfl) (fun _ _ _ h => h) (.inl ⟨rfl, fun w' hS => by simp [execOp, go_sem, hS.1]⟩) (SWe) ?_
                simp only [Act.put, List.getElem_toArray, List.getElem_cons_zero, List.getElem_cons_succ, List.setIfInBounds_toArray, List.set_cons_succ, List.set_cons_zero]
                refine wpAnyX_take (i := 2) (v := .pointer (some ⟨wx.heap.size, 0, none⟩)) rfl (by kernel_rfl) (by kernel_rfl) (fun _ _ _ h => h) (.inl ⟨rfl, fun w' hS => by simp [execOp, go_sem]⟩) (SWe) ?_
                simp only [Act.put, List.getElem_toArray, List.getElem_cons_zero, List.getElem_cons_succ, List.setIfInBounds_toArray, List.set_cons_succ, List.set_cons_zero]
                refine wpAnyX_take (i := 3) (v := .int .i64 f.id) rfl (by kernel_rfl) (by kernel_rfl) (fun _ _ _ h => h) (.inl ⟨rfl, fun w' hS => by simp [execOp, go_sem, hS.2.2.1]⟩) (SWe) ?_
                simp only [Act.put, List.getElem_toArray, List.getElem_cons_zero, List.getElem_cons_succ, List.setIfInBounds_toArray, List.set_cons_succ, List.set_cons_zero]
                refine wpAnyX_take (i := 6) (v := .pointer (some ⟨AA, 4, none⟩)) rfl (by kernel_rfl) (by kernel_rfl) (fun _ _ _ h => h) (.inl ⟨rfl, fun w' hS => by simp [execOp, go_sem]⟩) (SWe) ?_
                simp only [Act.put, List.getElem_toArray, List.getElem_cons_zero, List.getElem_cons_succ, List.setIfInBounds_toArray, List.set_cons_succ, List.set_cons_zero]
                refine wpAnyX_take (i := 7) (v := uL) rfl (by kernel_rfl) (by kernel_rfl) (fun _ _ _ h => h) (.inl ⟨rfl, fun w' hS => by simp [execOp, go_sem, hS.2.1]⟩) (SWe) ?_
                simp only [Act.put, List.getElem_toArray, List.getElem_cons_zero, List.getElem_cons_succ, List.setIfInBounds_toArray, List.set_cons_succ, List.set_cons_zero]
                refine wpAnyX_takeD (i := 8) (v := .agg #[.int .i64 x.kind, .int .i64 x.n, .string x.s, .slice xi.a xi.len xi.cap, .slice xl.a xl.len xl.cap]) [8, 9, 10, 12, 13, 14] rfl (by kernel_rfl) (by kernel_rfl) (fun _ _ _ h => h) (.inl ⟨rfl, fun w' hS => by simp [execOp, go_sem, hS.2.2.2.1, hS.2.2.2.2.1, hS.2.2.2.2.2.1, hS.2.2.2.2.2.2.1, hS.2.2.2.2.2.2.2]⟩) (SWe) ?_
                simp only [Act.put, List.getElem_toArray, List.getElem_cons_zero, List.getElem_cons_succ, List.setIfInBounds_toArray, List.set_cons_succ, List.set_cons_zero]
                refine wpAnyX_two (i := 4) (j := 9) rfl rfl (by kernel_rfl) rfl rfl (fun K hK => ?_) (fun K hK => ?_)
                · skip
                  go_wp2
                  obtain ⟨Wa, hWa⟩ : ∃ X, X = We.alloc (.cells #[.int .i64 f.id] 3) := ⟨_, rfl⟩
                  have eWa : Ext We Wa := by rw [hWa]; exact (Ext.refl We).alloc _
                  have r4Wa : Wa.rangeAt We.heap.size 0 [.int .i64 f.id] := by rw [hWa]; exact range_of_new1 _ _ _ rfl
                  rw [← hWa]
                  clear hWa
                  have SWa := (SWe).ext eWa
                  refine hK.out _ _ (SWa) ?_
                  clear hK K
                  have OWa := (OWe).ext eWa
                  have TWa := (TWe).ext eWa
                  have BWa := Below.trans (BWe) (eWa.mono (by have := lt_of_heap (OWe).cells; omega))
                  refine wpAnyX_two (i := 5) (j := 9) rfl rfl (by kernel_rfl) rfl rfl (fun K hK => ?_) (fun K hK => ?_)
                  · skip
                    have Hoi := hide OWa.ints
                    refine wpList_app1w _ _ 25 3 (.int .i64 0) 1 8 Tryz.underlying25 info3 rfl (by decide) (by decide) rfl rfl (AA + 1) _ _ _ rfl (unhide Hoi) We.heap.size 1 [.int .i64 f.id] rfl rfl (r4Wa) ?c2 ?c3 ?c4 ?_
                    case c2 => intro u hu; simp at hu; subst hu; rfl
                    case c3 => have h1 := unhide Hbd; have h2 := unhide Htl; simp only [List.length_append, List.length_map]; omega
                    case c4 => have := lt_of_heap OWa.cells; omega
                    intro v5 w5 ho5 hg5 hw5
                    obtain ⟨s5, hs5⟩ : ∃ s : SV, v5 = .slice s.a s.len s.cap := by obtain ⟨a', c', e'⟩ := owns_slice ho5; exact ⟨⟨a', _, c'⟩, e'⟩
                    subst hs5
                    have hnA : some AA ≠ ui.ownBlock := fun e => by have := (OWa.lt1 _ e.symm).1; omega
                    have hnF : some wx.heap.size ≠ ui.ownBlock := fun e => (TWa.2 _ (unhide HzF)).2.2.2.1 e.symm
                    have hnX : some wy.heap.size ≠ ui.ownBlock := fun e => by have := (ho.lt1 _ e.symm).2; omega
                    have Ow5 := OutAt.push1 OWa ho5 hg5 hw5
                    have Tw5 := TWa.push1 hg5 hw5
                    have Bw5 := BWa.grown hg5 (by have := lt_of_heap OWa.cells; omega) (fun k hk => by have := (OWa.lt1 k hk).1; omega)
                    have Sw5 := (SWa).grown hg5 hnA hnF hnX
                    refine hK.out _ _ (Sw5) ?_
                    clear hK K
                    refine wpAnyX_take (i := 11) (v := .pointer (some ⟨AA, 3, none⟩)) rfl (by kernel_rfl) (by kernel_rfl) (fun _ _ _ h => h) (.inl ⟨rfl, fun w' hS => by simp [execOp, go_sem]⟩) (Sw5) ?_
                    simp only [Act.put, List.getElem_toArray, List.getElem_cons_zero, List.getElem_cons_succ, List.setIfInBounds_toArray, List.set_cons_succ, List.set_cons_zero]
                    refine wpAnyX_one (j := 9) rfl (by kernel_rfl) rfl fun K hK => ?_
                    go_wp2
                    obtain ⟨Wb, hWb⟩ : ∃ X, X = w5.alloc (.cells #[.int .i64 x.kind, .int .i64 x.n, .string x.s, .slice xi.a xi.len xi.cap, .slice xl.a xl.len xl.cap] 28) := ⟨_, rfl⟩
                    have eWb : Ext w5 Wb := by rw [hWb]; exact (Ext.refl w5).alloc _
                    have r9Wb : Wb.rangeAt w5.heap.size 0 [.int .i64 x.kind, .int .i64 x.n, .string x.s, .slice xi.a xi.len xi.cap, .slice xl.a xl.len xl.cap] := by rw [hWb]; exact range_of_new5 _ _ _ _ _ _ _ rfl
                    rw [← hWb]
                    clear hWb
                    have SWb := (Sw5).ext eWb
                    refine hK.out _ _ (SWb) ?_
                    clear hK K
                    have OWb := (Ow5).ext eWb
                    have TWb := (Tw5).ext eWb
                    have BWb := Below.trans (Bw5) (eWb.mono (by have := lt_of_heap (Ow5).cells; omega))
                    refine wpAnyX_one (j := 10) rfl (by kernel_rfl) rfl fun K hK => ?_
                    obtain ⟨css, hc1, hc2, hc3⟩ := OWb.vals
                    have hxf : ValueAtP (fun b => (TT + 2 ≤ b ∧ b ≠ AA) ∧ uL.ownBlock ≠ some b ∧ Value.ownBlock (.slice s5.a s5.len s5.cap) ≠ some b ∧ b < Wb.heap.size) (k + 5) Wb [.int .i64 x.kind, .int .i64 x.n, .string x.s, .slice xi.a xi.len xi.cap, .slice xl.a xl.len xl.cap] x := by
                      refine ((unhide Hxv).keep fun b ob hb h => by rw [(TWb.2 b hb).2.2.1]; exact h).sub fun b hb => ?_
                      have h1 := TWb.2 b hb
                      have h0 := TWb.1
                      exact ⟨⟨hb.1, h1.2.1⟩, h1.2.2.2.2, h1.2.2.2.1, by have := h1.1; omega⟩
                    have Hc1 := hide hc1
                    refine wpList_app1w _ _ 26 28 (.agg #[.int .i64 0, .int .i64 0, .string ⟨#[]⟩, .slice none 0 0, .slice none 0 0]) 5 80 Tryz.underlying26 info28 rfl (by decide) (by decide) rfl rfl (AA + 1) _ _ _ rfl (unhide Hc1) w5.heap.size 1 [.int .i64 x.kind, .int .i64 x.n, .string x.s, .slice xi.a xi.len xi.cap, .slice xl.a xl.len xl.cap] rfl rfl (r9Wb) ?d2 ?d3 ?d4 ?_
                    case d2 => exact hxf.one
                    case d3 => have h1 := unhide Hbd; have h2 := unhide Htl; simp only [List.length_append]; omega
                    case d4 => have := lt_of_heap OWb.cells; omega
                    intro v7 w7 ho7 hg7 hw7
                    obtain ⟨s7, hs7⟩ : ∃ s : SV, v7 = .slice s.a s.len s.cap := by obtain ⟨a', c', e'⟩ := owns_slice ho7; exact ⟨⟨a', _, c'⟩, e'⟩
                    subst hs7
                    have hnA7 : some AA ≠ uL.ownBlock := fun e => by have := (OWb.lt2 _ e.symm).1; omega
                    have hnF7 : some wx.heap.size ≠ uL.ownBlock := fun e => (TWb.2 _ (unhide HzF)).2.2.2.2 e.symm
                    have hnX7 : some wy.heap.size ≠ uL.ownBlock := fun e => by have := (ho.lt2 _ e.symm).2; omega
                    have hA7 : w7.heap[AA]? = some (.cells #[.int .i64 2, .int .i64 0, .string ⟨#[]⟩, ui, uL] 28 (0, 0)) := by rw [hg7.block AA (lt_of_heap OWb.cells) hnA7]; exact OWb.cells
                    have Sw7 := (SWb).grown hg7 hnA7 hnF7 hnX7
                    have HO7 := hide (OutAt.push2 OWb (by omega) hc1 hc2 hc3 hxf ho7 hg7 hw7)
                    have HT7 := hide (TWb.push2 hg7 hw7 (.slice s5.a s5.len s5.cap) (.slice s7.a s7.len s7.cap))
                    have HB7 := hide (((BWb.grown hg7 (by have := lt_of_heap OWb.cells; omega) (fun k hk => by have := (OWb.lt2 k hk).1; omega)).setCell (p := ⟨AA, 3, none⟩) (by show AA ≤ AA; omega) (.slice s5.a s5.len s5.cap)).setCell (p := ⟨AA, 4, none⟩) (by show AA ≤ AA; omega) (.slice s7.a s7.len s7.cap))
                    obtain ⟨W9, hW9⟩ : ∃ X, X = (w7.setCell ⟨AA, 3, none⟩ (.slice s5.a s5.len s5.cap)).setCell ⟨AA, 4, none⟩ (.slice s7.a s7.len s7.cap) := ⟨_, rfl⟩
                    rw [← hW9] at HO7 HT7 HB7
                    have HW9 := hide hW9
                    obtain ⟨a0, a1, a2, a3, a4, af⟩ := rowN5 hA7
                    have zA := lt_of_heap hA7
                    clear hW9 ho5 hg5 hw5 ho7 hg7 hw7 hc1 hc2 hc3 hxf Hc1 Hoi hA7 hnA hnF hnX hnA7 hnF7 hnX7
                    refine hK.out _ _ (Sw7) ?_
                    clear hK K
                    refine wpAnyX_end [12, 13, 14] [_, _, _] rfl (by intro j i hj; match j, hj with | 0, hj => cases hj; rfl | 1, hj => cases hj; rfl | 2, hj => cases hj; rfl) (by kernel_rfl) (by intro i hi; cases hi; rfl) fun K hK => ?_
                    simp only [List.getElem_toArray, List.getElem_cons_succ, List.getElem_cons_zero]
                    go_wp2
                    refine hK.out _ _ ?_
                    clear hK K
                    go_wp2
                    rw [← unhide HW9]
                    refine ⟨⟨q + 1, .slice s5.a s5.len s5.cap, .slice s7.a s7.len s7.cap, by omega, by go_num, ?_, unhide HT7, unhide HB7⟩, by simp [intOf]; omega⟩
                    rw [unhide Htk, List.map_append, List.map_singleton, ← List.append_assoc, ← List.append_assoc]
                    exact unhide HO7
                  · skip
                    go_wp2
                    obtain ⟨Wb, hWb⟩ : ∃ X, X = Wa.alloc (.cells #[.int .i64 x.kind, .int .i64 x.n, .string x.s, .slice xi.a xi.len xi.cap, .slice xl.a xl.len xl.cap] 28) := ⟨_, rfl⟩
                    have eWb : Ext Wa Wb := by rw [hWb]; exact (Ext.refl Wa).alloc _
                    have r9Wb : Wb.rangeAt Wa.heap.size 0 [.int .i64 x.kind, .int .i64 x.n, .string x.s, .slice xi.a xi.len xi.cap, .slice xl.a xl.len xl.cap] := by rw [hWb]; exact range_of_new5 _ _ _ _ _ _ _ rfl
                    rw [← hWb]
                    clear hWb
                    have SWb := (SWa).ext eWb
                    refine hK.out _ _ (SWb) ?_
                    clear hK K
                    have OWb := (OWa).ext eWb
                    have TWb := (TWa).ext eWb
                    have BWb := Below.trans (BWa) (eWb.mono (by have := lt_of_heap (OWa).cells; omega))
                    refine wpAnyX_one (j := 5) rfl (by kernel_rfl) rfl fun K hK => ?_
                    have Hoi := hide OWb.ints
                    refine wpList_app1w _ _ 25 3 (.int .i64 0) 1 8 Tryz.underlying25 info3 rfl (by decide) (by decide) rfl rfl (AA + 1) _ _ _ rfl (unhide Hoi) We.heap.size 1 [.int .i64 f.id] rfl rfl (eWb.range r4Wa) ?c2 ?c3 ?c4 ?_
                    case c2 => intro u hu; simp at hu; subst hu; rfl
                    case c3 => have h1 := unhide Hbd; have h2 := unhide Htl; simp only [List.length_append, List.length_map]; omega
                    case c4 => have := lt_of_heap OWb.cells; omega
                    intro v5 w5 ho5 hg5 hw5
                    obtain ⟨s5, hs5⟩ : ∃ s : SV, v5 = .slice s.a s.len s.cap := by obtain ⟨a', c', e'⟩ := owns_slice ho5; exact ⟨⟨a', _, c'⟩, e'⟩
                    subst hs5
                    have hnA : some AA ≠ ui.ownBlock := fun e => by have := (OWb.lt1 _ e.symm).1; omega
                    have hnF : some wx.heap.size ≠ ui.ownBlock := fun e => (TWb.2 _ (unhide HzF)).2.2.2.1 e.symm
                    have hnX : some wy.heap.size ≠ ui.ownBlock := fun e => by have := (ho.lt1 _ e.symm).2; omega
                    have Ow5 := OutAt.push1 OWb ho5 hg5 hw5
                    have Tw5 := TWb.push1 hg5 hw5
                    have Bw5 := BWb.grown hg5 (by have := lt_of_heap OWb.cells; omega) (fun k hk => by have := (OWb.lt1 k hk).1; omega)
                    have Sw5 := (SWb).grown hg5 hnA hnF hnX
                    have r9w5 : w5.rangeAt Wa.heap.size 0 [.int .i64 x.kind, .int .i64 x.n, .string x.s, .slice xi.a xi.len xi.cap, .slice xl.a xl.len xl.cap] := rangeAt_keep r9Wb (fun ob h => by rw [hg5.block _ (lt_of_heap h) (fun e => by have := (OWa.lt1 _ e.symm).2; omega)]; exact h)
                    refine hK.out _ _ (Sw5) ?_
                    clear hK K
                    refine wpAnyX_take (i := 11) (v := .pointer (some ⟨AA, 3, none⟩)) rfl (by kernel_rfl) (by kernel_rfl) (fun _ _ _ h => h) (.inl ⟨rfl, fun w' hS => by simp [execOp, go_sem]⟩) (Sw5) ?_
                    simp only [Act.put, List.getElem_toArray, List.getElem_cons_zero, List.getElem_cons_succ, List.setIfInBounds_toArray, List.set_cons_succ, List.set_cons_zero]
                    refine wpAnyX_one (j := 10) rfl (by kernel_rfl) rfl fun K hK => ?_
                    obtain ⟨css, hc1, hc2, hc3⟩ := Ow5.vals
                    have hxf : ValueAtP (fun b => (TT + 2 ≤ b ∧ b ≠ AA) ∧ uL.ownBlock ≠ some b ∧ Value.ownBlock (.slice s5.a s5.len s5.cap) ≠ some b ∧ b < w5.heap.size) (k + 5) w5 [.int .i64 x.kind, .int .i64 x.n, .string x.s, .slice xi.a xi.len xi.cap, .slice xl.a xl.len xl.cap] x := by
                      refine ((unhide Hxv).keep fun b ob hb h => by rw [(Tw5.2 b hb).2.2.1]; exact h).sub fun b hb => ?_
                      have h1 := Tw5.2 b hb
                      have h0 := Tw5.1
                      exact ⟨⟨hb.1, h1.2.1⟩, h1.2.2.2.2, h1.2.2.2.1, by have := h1.1; omega⟩
                    have Hc1 := hide hc1
                    refine wpList_app1w _ _ 26 28 (.agg #[.int .i64 0, .int .i64 0, .string ⟨#[]⟩, .slice none 0 0, .slice none 0 0]) 5 80 Tryz.underlying26 info28 rfl (by decide) (by decide) rfl rfl (AA + 1) _ _ _ rfl (unhide Hc1) Wa.heap.size 1 [.int .i64 x.kind, .int .i64 x.n, .string x.s, .slice xi.a xi.len xi.cap, .slice xl.a xl.len xl.cap] rfl rfl (r9w5) ?d2 ?d3 ?d4 ?_
                    case d2 => exact hxf.one
                    case d3 => have h1 := unhide Hbd; have h2 := unhide Htl; simp only [List.length_append]; omega
                    case d4 => have := lt_of_heap Ow5.cells; omega
                    intro v7 w7 ho7 hg7 hw7
                    obtain ⟨s7, hs7⟩ : ∃ s : SV, v7 = .slice s.a s.len s.cap := by obtain ⟨a', c', e'⟩ := owns_slice ho7; exact ⟨⟨a', _, c'⟩, e'⟩
                    subst hs7
                    have hnA7 : some AA ≠ uL.ownBlock := fun e => by have := (Ow5.lt2 _ e.symm).1; omega
                    have hnF7 : some wx.heap.size ≠ uL.ownBlock := fun e => (Tw5.2 _ (unhide HzF)).2.2.2.2 e.symm
                    have hnX7 : some wy.heap.size ≠ uL.ownBlock := fun e => by have := (ho.lt2 _ e.symm).2; omega
                    have hA7 : w7.heap[AA]? = some (.cells #[.int .i64 2, .int .i64 0, .string ⟨#[]⟩, ui, uL] 28 (0, 0)) := by rw [hg7.block AA (lt_of_heap Ow5.cells) hnA7]; exact Ow5.cells
                    have Sw7 := (Sw5).grown hg7 hnA7 hnF7 hnX7
                    have HO7 := hide (OutAt.push2 Ow5 (by omega) hc1 hc2 hc3 hxf ho7 hg7 hw7)
                    have HT7 := hide (Tw5.push2 hg7 hw7 (.slice s5.a s5.len s5.cap) (.slice s7.a s7.len s7.cap))
                    have HB7 := hide (((Bw5.grown hg7 (by have := lt_of_heap Ow5.cells; omega) (fun k hk => by have := (Ow5.lt2 k hk).1; omega)).setCell (p := ⟨AA, 3, none⟩) (by show AA ≤ AA; omega) (.slice s5.a s5.len s5.cap)).setCell (p := ⟨AA, 4, none⟩) (by show AA ≤ AA; omega) (.slice s7.a s7.len s7.cap))
                    obtain ⟨W9, hW9⟩ : ∃ X, X = (w7.setCell ⟨AA, 3, none⟩ (.slice s5.a s5.len s5.cap)).setCell ⟨AA, 4, none⟩ (.slice s7.a s7.len s7.cap) := ⟨_, rfl⟩
                    rw [← hW9] at HO7 HT7 HB7
                    have HW9 := hide hW9
                    obtain ⟨a0, a1, a2, a3, a4, af⟩ := rowN5 hA7
                    have zA := lt_of_heap hA7
                    clear hW9 ho5 hg5 hw5 ho7 hg7 hw7 hc1 hc2 hc3 hxf Hc1 Hoi hA7 hnA hnF hnX hnA7 hnF7 hnX7
                    refine hK.out _ _ (Sw7) ?_
                    clear hK K
                    refine wpAnyX_end [12, 13, 14] [_, _, _] rfl (by intro j i hj; match j, hj with | 0, hj => cases hj; rfl | 1, hj => cases hj; rfl | 2, hj => cases hj; rfl) (by kernel_rfl) (by intro i hi; cases hi; rfl) fun K hK => ?_
                    simp only [List.getElem_toArray, List.getElem_cons_succ, List.getElem_cons_zero]
                    go_wp2
                    refine hK.out _ _ ?_
                    clear hK K
                    go_wp2
                    rw [← unhide HW9]
                    refine ⟨⟨q + 1, .slice s5.a s5.len s5.cap, .slice s7.a s7.len s7.cap, by omega, by go_num, ?_, unhide HT7, unhide HB7⟩, by simp [intOf]; omega⟩
                    rw [unhide Htk, List.map_append, List.map_singleton, ← List.append_assoc, ← List.append_assoc]
                    exact unhide HO7
                · skip
                  go_wp2
                  obtain ⟨Wa, hWa⟩ : ∃ X, X = We.alloc (.cells #[.int .i64 x.kind, .int .i64 x.n, .string x.s, .slice xi.a xi.len xi.cap, .slice xl.a xl.len xl.cap] 28) := ⟨_, rfl⟩
                  have eWa : Ext We Wa := by rw [hWa]; exact (Ext.refl We).alloc _
                  have r9Wa : Wa.rangeAt We.heap.size 0 [.int .i64 x.kind, .int .i64 x.n, .string x.s, .slice xi.a xi.len xi.cap, .slice xl.a xl.len xl.cap] := by rw [hWa]; exact range_of_new5 _ _ _ _ _ _ _ rfl
                  rw [← hWa]
                  clear hWa
                  have SWa := (SWe).ext eWa
                  refine hK.out _ _ (SWa) ?_
                  clear hK K
                  have OWa := (OWe).ext eWa
                  have TWa := (TWe).ext eWa
                  have BWa := Below.trans (BWe) (eWa.mono (by have := lt_of_heap (OWe).cells; omega))
                  refine wpAnyX_one (j := 4) rfl (by kernel_rfl) rfl fun K hK => ?_
                  go_wp2
                  obtain ⟨Wb, hWb⟩ : ∃ X, X = Wa.alloc (.cells #[.int .i64 f.id] 3) := ⟨_, rfl⟩
                  have eWb : Ext Wa Wb := by rw [hWb]; exact (Ext.refl Wa).alloc _
                  have r4Wb : Wb.rangeAt Wa.heap.size 0 [.int .i64 f.id] := by rw [hWb]; exact range_of_new1 _ _ _ rfl
                  rw [← hWb]
                  clear hWb
                  have SWb := (SWa).ext eWb
                  refine hK.out _ _ (SWb) ?_
                  clear hK K
                  have OWb := (OWa).ext eWb
                  have TWb := (TWa).ext eWb
                  have BWb := Below.trans (BWa) (eWb.mono (by have := lt_of_heap (OWa).cells; omega))
                  refine wpAnyX_one (j := 5) rfl (by kernel_rfl) rfl fun K hK => ?_
                  have Hoi := hide OWb.ints
                  refine wpList_app1w _ _ 25 3 (.int .i64 0) 1 8 Tryz.underlying25 info3 rfl (by decide) (by decide) rfl rfl (AA + 1) _ _ _ rfl (unhide Hoi) Wa.heap.size 1 [.int .i64 f.id] rfl rfl (r4Wb) ?c2 ?c3 ?c4 ?_
                  case c2 => intro u hu; simp at hu; subst hu; rfl
                  case c3 => have h1 := unhide Hbd; have h2 := unhide Htl; simp only [List.length_append, List.length_map]; omega
                  case c4 => have := lt_of_heap OWb.cells; omega
                  intro v5 w5 ho5 hg5 hw5
                  obtain ⟨s5, hs5⟩ : ∃ s : SV, v5 = .slice s.a s.len s.cap := by obtain ⟨a', c', e'⟩ := owns_slice ho5; exact ⟨⟨a', _, c'⟩, e'⟩
                  subst hs5
                  have hnA : some AA ≠ ui.ownBlock := fun e => by have := (OWb.lt1 _ e.symm).1; omega
                  have hnF : some wx.heap.size ≠ ui.ownBlock := fun e => (TWb.2 _ (unhide HzF)).2.2.2.1 e.symm
                  have hnX : some wy.heap.size ≠ ui.ownBlock := fun e => by have := (ho.lt1 _ e.symm).2; omega
                  have Ow5 := OutAt.push1 OWb ho5 hg5 hw5
                  have Tw5 := TWb.push1 hg5 hw5
                  have Bw5 := BWb.grown hg5 (by have := lt_of_heap OWb.cells; omega) (fun k hk => by have := (OWb.lt1 k hk).1; omega)
                  have Sw5 := (SWb).grown hg5 hnA hnF hnX
                  have r9w5 : w5.rangeAt We.heap.size 0 [.int .i64 x.kind, .int .i64 x.n, .string x.s, .slice xi.a xi.len xi.cap, .slice xl.a xl.len xl.cap] := rangeAt_keep (eWb.range r9Wa) (fun ob h => by rw [hg5.block _ (lt_of_heap h) (fun e => by have := (OWe.lt1 _ e.symm).2; omega)]; exact h)
                  refine hK.out _ _ (Sw5) ?_
                  clear hK K
                  refine wpAnyX_take (i := 11) (v := .pointer (some ⟨AA, 3, none⟩)) rfl (by kernel_rfl) (by kernel_rfl) (fun _ _ _ h => h) (.inl ⟨rfl, fun w' hS => by simp [execOp, go_sem]⟩) (Sw5) ?_
                  simp only [Act.put, List.getElem_toArray, List.getElem_cons_zero, List.getElem_cons_succ, List.setIfInBounds_toArray, List.set_cons_succ, List.set_cons_zero]
                  refine wpAnyX_one (j := 10) rfl (by kernel_rfl) rfl fun K hK => ?_
                  obtain ⟨css, hc1, hc2, hc3⟩ := Ow5.vals
                  have hxf : ValueAtP (fun b => (TT + 2 ≤ b ∧ b ≠ AA) ∧ uL.ownBlock ≠ some b ∧ Value.ownBlock (.slice s5.a s5.len s5.cap) ≠ some b ∧ b < w5.heap.size) (k + 5) w5 [.int .i64 x.kind, .int .i64 x.n, .string x.s, .slice xi.a xi.len xi.cap, .slice xl.a xl.len xl.cap] x := by
                    refine ((unhide Hxv).keep fun b ob hb h => by rw [(Tw5.2 b hb).2.2.1]; exact h).sub fun b hb => ?_
                    have h1 := Tw5.2 b hb
                    have h0 := Tw5.1
                    exact ⟨⟨hb.1, h1.2.1⟩, h1.2.2.2.2, h1.2.2.2.1, by have := h1.1; omega⟩
                  have Hc1 := hide hc1
                  refine wpList_app1w _ _ 26 28 (.agg #[.int .i64 0, .int .i64 0, .string ⟨#[]⟩, .slice none 0 0, .slice none 0 0]) 5 80 Tryz.underlying26 info28 rfl (by decide) (by decide) rfl rfl (AA + 1) _ _ _ rfl (unhide Hc1) We.heap.size 1 [.int .i64 x.kind, .int .i64 x.n, .string x.s, .slice xi.a xi.len xi.cap, .slice xl.a xl.len xl.cap] rfl rfl (r9w5) ?d2 ?d3 ?d4 ?_
                  case d2 => exact hxf.one
                  case d3 => have h1 := unhide Hbd; have h2 := unhide Htl; simp only [List.length_append]; omega
                  case d4 => have := lt_of_heap Ow5.cells; omega
                  intro v7 w7 ho7 hg7 hw7
                  obtain ⟨s7, hs7⟩ : ∃ s : SV, v7 = .slice s.a s.len s.cap := by obtain ⟨a', c', e'⟩ := owns_slice ho7; exact ⟨⟨a', _, c'⟩, e'⟩
                  subst hs7
                  have hnA7 : some AA ≠ uL.ownBlock := fun e => by have := (Ow5.lt2 _ e.symm).1; omega
                  have hnF7 : some wx.heap.size ≠ uL.ownBlock := fun e => (Tw5.2 _ (unhide HzF)).2.2.2.2 e.symm
                  have hnX7 : some wy.heap.size ≠ uL.ownBlock := fun e => by have := (ho.lt2 _ e.symm).2; omega
                  have hA7 : w7.heap[AA]? = some (.cells #[.int .i64 2, .int .i64 0, .string ⟨#[]⟩, ui, uL] 28 (0, 0)) := by rw [hg7.block AA (lt_of_heap Ow5.cells) hnA7]; exact Ow5.cells
                  have Sw7 := (Sw5).grown hg7 hnA7 hnF7 hnX7
                  have HO7 := hide (OutAt.push2 Ow5 (by omega) hc1 hc2 hc3 hxf ho7 hg7 hw7)
                  have HT7 := hide (Tw5.push2 hg7 hw7 (.slice s5.a s5.len s5.cap) (.slice s7.a s7.len s7.cap))
                  have HB7 := hide (((Bw5.grown hg7 (by have := lt_of_heap Ow5.cells; omega) (fun k hk => by have := (Ow5.lt2 k hk).1; omega)).setCell (p := ⟨AA, 3, none⟩) (by show AA ≤ AA; omega) (.slice s5.a s5.len s5.cap)).setCell (p := ⟨AA, 4, none⟩) (by show AA ≤ AA; omega) (.slice s7.a s7.len s7.cap))
                  obtain ⟨W9, hW9⟩ : ∃ X, X = (w7.setCell ⟨AA, 3, none⟩ (.slice s5.a s5.len s5.cap)).setCell ⟨AA, 4, none⟩ (.slice s7.a s7.len s7.cap) := ⟨_, rfl⟩
                  rw [← hW9] at HO7 HT7 HB7
                  have HW9 := hide hW9
                  obtain ⟨a0, a1, a2, a3, a4, af⟩ := rowN5 hA7
                  have zA := lt_of_heap hA7
                  clear hW9 ho5 hg5 hw5 ho7 hg7 hw7 hc1 hc2 hc3 hxf Hc1 Hoi hA7 hnA hnF hnX hnA7 hnF7 hnX7
                  refine hK.out _ _ (Sw7) ?_
                  clear hK K
                  refine wpAnyX_end [12, 13, 14] [_, _, _] rfl (by intro j i hj; match j, hj with | 0, hj => cases hj; rfl | 1, hj => cases hj; rfl | 2, hj => cases hj; rfl) (by kernel_rfl) (by intro i hi; cases hi; rfl) fun K hK => ?_
                  simp only [List.getElem_toArray, List.getElem_cons_succ, List.getElem_cons_zero]
                  go_wp2
                  refine hK.out _ _ ?_
                  clear hK K
                  go_wp2
                  rw [← unhide HW9]
                  refine ⟨⟨q + 1, .slice s5.a s5.len s5.cap, .slice s7.a s7.len s7.cap, by omega, by go_num, ?_, unhide HT7, unhide HB7⟩, by simp [intOf]; omega⟩
                  rw [unhide Htk, List.map_append, List.map_singleton, ← List.append_assoc, ← List.append_assoc]
                  exact unhide HO7
              · have hqi : ¬ (q : Int) < (LL.length : Int) := by have := unhide HLl; omega
                have htq : LL.take q = LL := List.take_of_length_le (by omega)
                rw [htq] at ho
                have Hho := hide ho
                clear htq ho
                go_wp2
                refine ⟨⟨m + 1, ui, uL, by omega, by go_num, ?_, hby⟩, by simp [intOf]; omega⟩
                rw [unhide Hia, unhide Hib]
                exact unhide Hho
        · have htk : t.fields.take m = t.fields := List.take_of_length_le (by omega)
          rw [htk] at ho
          obtain ⟨hcA, hoi, hvr⟩ := ho
          obtain ⟨si, hsi⟩ : ∃ s : SV, vi = .slice s.a s.len s.cap := by obtain ⟨a', c', e'⟩ := owns_slice hoi; exact ⟨⟨a', _, c'⟩, e'⟩
          subst hsi
          obtain ⟨sl, rfl, hsl, hslok, hslb⟩ := hvr.slice
          obtain ⟨si', hsi', hint⟩ := ints_of_owns hoi rfl
          have hiok := ok_of_owns hoi
          have hilt := hoi.lt
          simp only [Value.slice.injEq] at hsi'
          obtain rfl : si = si' := by cases si; cases si'; simp_all
          have Hint := hide hint
          have Hsl := hide hsl
          obtain ⟨a0, a1, a2, a3, a4, af⟩ := row5 hcA
          obtain ⟨q0, q1, q2, q3, q4, qf⟩ := row5 rRx
          have zR := lt_of_heap rRx
          have zA := lt_of_heap hcA
          clear hint hsl hoi hvr htk
          go_wp2
          refine bodyPost_ret (v := .tuple #[.agg #[.int .i64 2, .int .i64 0, .string ⟨#[]⟩, .slice si.a si.len si.cap, .slice sl.a sl.len sl.cap], .int .i64 0]) ?_ rfl ?_
          · simp [results, Tryz.results41, go_sem, q0, q1, q2, q3, q4, zR]
          · rw [unhide Hre]
            refine ⟨si, sl, rfl, ?_, hEx.setCell5 (by omega) _ _ _ _ _⟩
            have h0 : ValueAtP (fun b => (TT + 2 ≤ b ∧ b ≠ AA) ∧ b < wx.heap.size) (k + 5 + 1) wx [.int .i64 2, .int .i64 0, .string ⟨#[]⟩, .slice si.a si.len si.cap, .slice sl.a sl.len sl.cap] ⟨2, 0, ⟨#[]⟩, (asmL lf z t.fields).map (·.1), (asmL lf z t.fields).map (·.2)⟩ :=
              ⟨si, sl, rfl, unhide Hint, unhide Hsl, hiok, hslok, fun ad ha => by have := hilt ad.block (by simp [Value.ownBlock, ha]); exact ⟨⟨by omega, by omega⟩, this.2⟩, fun ad ha => by have := hslb ad ha; exact ⟨⟨by omega, by omega⟩, this.2⟩⟩
            show ValueAtP _ (k + 1 + 5) _ _ _
            rw [show k + 1 + 5 = k + 5 + 1 by omega]
            exact (h0.set5 (g := w.heap.size + 1) (fun b hb => by have := hb.1.1; omega) _ _ _ _ _).sub fun b hb => ⟨by have := hb.1.1; omega, by simpa using hb.2⟩
end Go.Proofs.YtmdpdgldmedebaaGreatDoor

