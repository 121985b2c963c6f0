import Derived.Test.YtmdpdgldmedebaaGreatDoorM23
import Derived.Deep.DeepCutAuto
namespace Go.Proofs.YtmdpdgldmedebaaGreatDoor
set_option linter.unusedSimpArgs false
set_option linter.unusedVariables false
set_option linter.unusedSimpArgs false
set_option linter.unusedVariables false
open Go.RowKit

set_option maxHeartbeats 12800000 in
set_option maxRecDepth 10000 in
theorem read_of (sb : SV) (ts : BookM) (hg : goodM ts = 0) (k : Nat) (hk : k < 24) (hW : RW sb ts k) : RD sb ts k := by
  intro tv t s w hb ht hm hs
  have hn := good_small hg
  have htl := hm.len hg
  have hfl : t.fields.length ≤ 9223372036854775807 := by omega
  have Hfill := hide (filled_of insPI insPV sb ts hn tv t w hb ht htl (hm.fill hg) (k + 5) (by omega))
  obtain ⟨r, hr⟩ : ∃ r, r = readM ts k t s := ⟨_, rfl⟩
  rw [← hr]
  rw [readM_eq] at hr
  unfold readF at hr
  obtain ⟨E0, hE0⟩ : ∃ E0, E0 = decE s.data.toList := ⟨_, rfl⟩
  obtain ⟨ps, hps0⟩ : ∃ ps, ps = decL s.data.toList := ⟨_, rfl⟩
  have hsmall : E0 = 0 → ps.length ≤ 20000 ∧ ∀ p ∈ ps, p.s.size ≤ 20000 := fun h => by rw [hps0]; exact parts_small (by rw [← hE0]; exact h)
  rw [← hE0, ← hps0] at hr
  obtain ⟨L, hL0⟩ : ∃ L, L = readL ts (recM ts k) t none ps ([], []) := ⟨_, rfl⟩
  rw [← hL0] at hr
  have Hr1 : Hid (E0 ≠ 0 → r = (E0, ValueM.zero)) := fun h => by rw [hr, if_pos h]
  have Hr2 : Hid (E0 = 0 → L.1 ≠ 0 → r = (L.1, ValueM.zero)) := fun h h2 => by rw [hr, if_neg (by simp [h]), if_pos h2]
  have Hr3 : Hid (E0 = 0 → L.1 = 0 → r = (0, fillV ts t L.2)) := fun h h2 => by rw [hr, if_neg (by simp [h]), if_neg (by simp [h2])]
  clear hr
  obtain ⟨w0, hw0⟩ : ∃ w0, w0 = ((w.alloc (.cells #[.slice sb.a sb.len sb.cap] 24)).alloc (.cells #[.string tv.name, .bool tv.enum, .slice tv.fields.a tv.fields.len tv.fields.cap, .slice tv.gone.a tv.gone.len tv.gone.cap, .slice tv.items.a tv.items.len tv.items.cap] 50)).alloc (.cells #[.int .i64 0, .int .i64 0, .string ⟨#[]⟩, .slice none 0 0, .slice none 0 0] 28) := ⟨_, rfl⟩
  obtain ⟨hx0, hz, r0, r1, r2⟩ := heaps3 hw0
  obtain ⟨D, hD⟩ : ∃ D : Int, D = 24 - (k : Int) := ⟨_, rfl⟩
  have hDlo : 0 < D := by omega
  have hDhi : D ≤ 24 := by omega
  rw [← hD]
  have HW0 := hide hw0
  have Hb := hide hb
  have Ht := hide ht
  have Hm := hide hm
  have HD := hide hD
  have HE0 := hide hE0
  have Hps0 := hide hps0
  have HL0 := hide hL0
  have HW := hide hW
  have Hsmall := hide hsmall
  clear hw0 hb ht hm hD hE0 hps0 hL0 hW hsmall
  go_enter Tryz.func40, Tryz.ntmps40
  go_wp2_with fail
  rw [← unhide HW0]
  refine (decode_any s w0 hs).mono ?_
  rw [← unhide HE0, ← unhide Hps0]
  rintro e w1 ⟨sv, rfl, hps, hsok, hx1⟩
  have hE1 := hx0.trans hx1
  have R2 := hx1.heap r2
  have z1 := lt_of_heap R2
  by_cases he0 : E0 = 0
  case neg =>
    have Hx := hide (unhide Hr1 he0)
    have heb : (E0 != 0) = true := by simpa using he0
    obtain ⟨c0, c1, c2, c3, c4, _⟩ := row5 R2
    clear Hr1 Hr2 Hr3 Hsmall he0 Hfill
    go_wp2
    refine bodyPost_ret (v := .tuple #[.agg #[.int .i64 0, .int .i64 0, .string ⟨#[]⟩, .slice none 0 0, .slice none 0 0], .int .i64 E0]) ?_ rfl ?_
    · simp [results, Tryz.results40, go_sem, c0, c1, c2, c3, c4, z1]
    · rw [unhide Hx]
      exact ⟨⟨none, 0, 0⟩, ⟨none, 0, 0⟩, rfl, zeroAtP _ _ _, hE1.setCell5 (by omega) _ _ _ _ _⟩
  have heb : (E0 != 0) = false := by simp [he0]
  obtain ⟨hpl, hpss⟩ := unhide Hsmall he0
  have Hr2' : Hid (L.1 ≠ 0 → r = (L.1, ValueM.zero)) := unhide Hr2 he0
  have Hr3' : Hid (L.1 = 0 → r = (0, fillV ts t L.2)) := unhide Hr3 he0
  have Hpss := hide hpss
  obtain ⟨pa, pl, pc⟩ := sv
  have epl := hps.1
  simp only at epl
  subst epl
  have Hps := hide hps
  have hpi : ps.length ≤ 9223372036854775807 := by omega
  clear Hr1 Hr2 Hr3 Hsmall hps hpss he0
  go_wp2
  obtain ⟨W1, hW1⟩ : ∃ W1, W1 = w1.alloc (.cells #[.int .i64 2, .int .i64 0, .string ⟨#[]⟩, .slice none 0 0, .slice none 0 0] 28) := ⟨_, rfl⟩
  have hxW1 : Ext w1 W1 := by rw [hW1]; exact (Ext.refl w1).alloc _
  have rA : W1.heap[w1.heap.size]? = some (.cells #[.int .i64 2, .int .i64 0, .string ⟨#[]⟩, .slice none 0 0, .slice none 0 0] 28 (0, 0)) := by rw [hW1]; exact heap_alloc_new _ _
  have hzW1 : W1.heap.size = w1.heap.size + 1 := by rw [hW1]; simp
  rw [← hW1]
  clear hW1
  go_loopw [31] (fun i wr => ∃ (j : Nat) (st : List Int × List ValueM) (vi vL : Value), j ≤ ps.length ∧ i = .int .i64 j ∧ Hid (L = readL ts (recM ts k) t (prevP ps j) (ps.drop j) st) ∧ wr.heap[w1.heap.size]? = some (.cells #[.int .i64 2, .int .i64 0, .string ⟨#[]⟩, vi, vL] 28 (0, 0)) ∧ wr.ownsRow (w1.heap.size + 1) 3 1 vi st.1.length (st.1.flatMap encI) ∧ VRow (k + 5) wr (w1.heap.size + 1) (fun b => w1.heap.size + 1 ≤ b) vi.ownBlock vL st.2 ∧ st.1.length = st.2.length ∧ st.1.length ≤ j ∧ st.1.Pairwise (· ≤ ·) ∧ (∀ a ∈ st.1, ∃ q, prevP ps j = some q ∧ a ≤ q) ∧ Below w1.heap.size W1 wr) (fun i _ => ps.length - (intOf i).toNat)
  case atStart => exact ⟨0, ([], []), _, _, by omega, rfl, unhide HL0, rA, World.ownsRow_nil _ _ _ _, VRow.nil _ _ _ _ _, rfl, Nat.le_refl _, List.Pairwise.nil, fun a ha => (by cases ha), Below.refl _ _⟩
  case round =>
    obtain ⟨j, st, vi, vL, hj, rfl, HL, hA, hoi, hvr, hlen, hlj, hso, hpr, hbl⟩ := hrel
    have hEr1 : Ext w1 wr := Below.trans hxW1 hbl
    have hEr0 : Ext w0 wr := hx1.trans hEr1
    have hEr : Ext w wr := hx0.trans hEr0
    have hwz : w1.heap.size + 1 ≤ wr.heap.size := by have := hbl.size; omega
    have z2 : w.heap.size + 1 + 1 < wr.heap.size := by have := hEr1.size; omega
    by_cases hlt : j < ps.length
    · obtain ⟨pb, po, cs, hpa, hrp, rfl⟩ := (unhide Hps).2 j ps[j] (by simp [hlt])
      simp only at hpa
      subst hpa
      obtain ⟨p0, p1, p2, p3⟩ := range4 (hEr1.range hrp)
      have HL2 : Hid (L = if stepE ts (recM ts k) t (prevP ps j) ps[j] st ≠ 0 then (stepE ts (recM ts k) t (prevP ps j) ps[j] st, ([], [])) else readL ts (recM ts k) t (prevP ps (j + 1)) (ps.drop (j + 1)) (stepV (recM ts k) t ps[j] st)) := by unfold Hid; rw [unhide HL, readL_step hlt]
      have hpsz := unhide Hpss ps[j] (List.getElem_mem hlt)
      have hnp := prevP_succ hlt
      have hji : (j : Int) < (ps.length : Int) := by omega
      have Hnp := hide hnp
      -- whether the ids fall
      have hcase : Hid ((decide (0 < j) = false ∧ fellB (prevP ps j) ps[j].id = false) ∨ ∃ h1 : 0 < j, fellB (prevP ps j) ps[j].id = decide (ps[j].id < (ps[j - 1]'(by omega)).id)) := by
        by_cases hj0 : j = 0
        · subst hj0; exact .inl ⟨rfl, rfl⟩
        · refine .inr ⟨by omega, ?_⟩
          unfold prevP
          rw [if_neg hj0, List.getElem?_eq_getElem (by omega)]
          rfl
      generalize hpj : ps[j] = p at *
      have Hpj := hide hpj
      have Hso := hide hso
      have Hpr := hide hpr
      have Hoi := hide hoi
      have Hvr := hide hvr
      have Hbl := hide hbl
      have Hlen := hide hlen
      have Hrp := hide hrp
      have hoilt := hoi.lt
      have hvllt : ∀ b, vL.ownBlock = some b → w1.heap.size + 1 ≤ b ∧ b < wr.heap.size := by obtain ⟨css, hc1, _, _⟩ := hvr; exact fun b hb => hc1.lt b hb
      clear hpj hnp hso hpr hoi hvr hbl hlen hrp HL
      have hcase2 : (decide (0 < j) = false ∧ fellB (prevP ps j) p.id = false) ∨ ∃ q : PartM, 0 < j ∧ wr.cell? ⟨pb, po + (j - 1) * 4, none⟩ = some (.int .i64 q.id) ∧ fellB (prevP ps j) p.id = decide (p.id < q.id) := by
        rcases unhide hcase with h | ⟨h1, h2⟩
        · exact .inl h
        · refine .inr ⟨ps[j - 1], h1, ?_, h2⟩
          obtain ⟨pb2, po2, cs2, hpa2, hrp2, rfl⟩ := (unhide Hps).2 (j - 1) ps[j - 1] (by simp [show j - 1 < ps.length by omega])
          simp only [Option.some.injEq, Addr.mk.injEq, and_true] at hpa2
          obtain ⟨rfl, rfl⟩ := hpa2
          exact (range4 (hEr1.range hrp2)).1
      clear hcase
      have hwrap : 0 < j → IntKind.i64.wrap ((j : Int) - 1) = ((j - 1 : Nat) : Int) := fun h => by rw [IntKind.wrap_i64]; omega
      go_upto_region 8 with fail
      go_cut [48] (fun s48 wx => s48 = .bool (fellB (prevP ps j) p.id) ∧ ∃ nq, wx = (wr.alloc (.cells #[.int .i64 p.id, .int .i64 p.kind, .int .i64 p.n, .string p.s] 85)).drewN nq)
      case first =>
        rename_i J0 K0 hJ0 hK0
        clear HL2 Hr2' Hr3' Hfill
        rcases hcase2 with ⟨hd, h2⟩ | ⟨q, h1, pq, hfq⟩
        · clear hwrap
          go_wp2_with fail
          go_quiet (fail)
          first | refine Met.intro (hJ0 _ _ ?_) | refine hK0 _ _ (Met.intro (hJ0 _ _ ?_))
          (repeat apply Exists.intro)
          refine ⟨?rel, rfl⟩
          case rel => exact ⟨by rw [h2], _, rfl⟩
        · have hw1 := hwrap h1
          have hj1 : (0 : Int) < (j : Int) := by omega
          have hj2 : j - 1 < ps.length := by omega
          have hjl2 : ((j - 1 : Nat) : Int) < (ps.length : Int) := by omega
          have hpb : pb < wr.heap.size := World.block_lt_of_cell? wr _ pq
          have Hfq := hide hfq
          clear hwrap hfq
          by_cases hqp : p.id < q.id
          · go_wp2_with fail
            go_quiet (fail)
            first | refine Met.intro (hJ0 _ _ ?_) | refine hK0 _ _ (Met.intro (hJ0 _ _ ?_))
            (repeat apply Exists.intro)
            refine ⟨?rel, rfl⟩
            case rel => exact ⟨by rw [unhide Hfq] <;> simp [hqp], _, rfl⟩
          · go_wp2_with fail
            go_quiet (fail)
            first | refine Met.intro (hJ0 _ _ ?_) | refine hK0 _ _ (Met.intro (hJ0 _ _ ?_))
            (repeat apply Exists.intro)
            refine ⟨?rel, rfl⟩
            case rel => exact ⟨by rw [unhide Hfq] <;> simp [hqp], _, rfl⟩
      case rest =>
      obtain ⟨hs48, nq, hwc⟩ := hcut
      rename World => W2
      have hx2 : Ext wr W2 := by rw [hwc]; exact ((Ext.refl wr).alloc _).drewN _
      have rP : W2.heap[wr.heap.size]? = some (.cells #[.int .i64 p.id, .int .i64 p.kind, .int .i64 p.n, .string p.s] 85 (0, 0)) := by rw [hwc]; exact heap_alloc_new wr _
      clear hwc hcase2 hwrap
      subst hs48
      have hE2 : Ext w W2 := hEr.trans hx2
      have hE02 : Ext w0 W2 := hEr0.trans hx2
      cases hfb : fellB (prevP ps j) p.id
      case true =>
          have hLe : L = (1, ([], [])) := by rw [unhide HL2, step_fell hfb, if_pos (by simp)]
          have Hre := hide (unhide Hr2' (by rw [hLe]; simp))
          rw [hLe] at Hre
          have R2' := hE02.heap r2
          have z2' := lt_of_heap R2'
          obtain ⟨c0, c1, c2, c3, c4, _⟩ := row5 R2'
          clear hLe Hr2' Hr3' HL2 hfb Hfill
          go_wp2
          refine bodyPost_ret (v := .tuple #[.agg #[.int .i64 0, .int .i64 0, .string ⟨#[]⟩, .slice none 0 0, .slice none 0 0], .int .i64 1]) ?_ rfl ?_
          · simp [results, Tryz.results40, go_sem, c0, c1, c2, c3, c4, z2']
          · rw [unhide Hre]
            exact ⟨⟨none, 0, 0⟩, ⟨none, 0, 0⟩, rfl, zeroAtP _ _ _, hE2.setCell5 (by omega) _ _ _ _ _⟩
      case false =>
        have hfb0 := hfb
        have Hlow : Hid (∀ a ∈ st.1, a ≤ p.id) := fun a ha => by
          obtain ⟨q, e1, e2⟩ := unhide Hpr a ha
          rw [e1] at hfb0
          have : decide (p.id < q) = false := hfb0
          simp at this
          omega
        have Hpast := hide (fun (h : (fieldM t p.id).isSome = false) => step_past (ts := ts) (rec := recM ts k) (st := st) hfb0 h)
        have Hfield := hide (fun (f : FieldM) (h : fieldM t p.id = some f) => step_field (ts := ts) (rec := recM ts k) (st := st) hfb0 h)
        clear hfb hfb0 Hpr
        obtain ⟨t0, t1, t2, t3, t4, _⟩ := row5 (hE02.heap r1)
        obtain ⟨d0, d1, d2, d3, _⟩ := row4f rP
        go_wp2_with fail
        refine (fieldOf_any tv t p.id W2 ((unhide Ht).ext hE2) hfl).mono ?_
        rintro e w3 ⟨rfl, hx3⟩
        rw [fieldCells]
        have hr3 : Ext wr w3 := hx2.trans hx3
        have rP3 := hx3.heap rP
        have hlast : Hid (∀ (wn : World), Ext wr wn → (fieldM t p.id).isSome = false → ∃ (j' : Nat) (st : List Int × List ValueM) (vi vL : Value), j' ≤ ps.length ∧ Value.int .i64 ((j : Int) + 1) = .int .i64 j' ∧ Hid (L = readL ts (recM ts k) t (prevP ps j') (ps.drop j') st) ∧ wn.heap[w1.heap.size]? = some (.cells #[.int .i64 2, .int .i64 0, .string ⟨#[]⟩, vi, vL] 28 (0, 0)) ∧ wn.ownsRow (w1.heap.size + 1) 3 1 vi st.1.length (st.1.flatMap encI) ∧ VRow (k + 5) wn (w1.heap.size + 1) (fun b => w1.heap.size + 1 ≤ b) vi.ownBlock vL st.2 ∧ st.1.length = st.2.length ∧ st.1.length ≤ j' ∧ st.1.Pairwise (· ≤ ·) ∧ (∀ a ∈ st.1, ∃ q, prevP ps j' = some q ∧ a ≤ q) ∧ Below w1.heap.size W1 wn) := fun wn hxn hno => by
          obtain ⟨s1, s2⟩ := unhide Hpast hno
          refine ⟨j + 1, st, vi, vL, by omega, by rw [Int.natCast_add]; rfl, ?_, hxn.heap hA, owns_ext (unhide Hoi) hxn, (unhide Hvr).ext hxn, unhide Hlen, by omega, unhide Hso, fun a ha => ⟨p.id, unhide Hnp, unhide Hlow a ha⟩, Below.trans (unhide Hbl) (hxn.mono (by omega))⟩
          show Hid _
          unfold Hid
          rw [unhide HL2, s1, s2, if_neg (by simp)]
        have Hsm := hide (fun (f : FieldM) (h : fieldM t p.id = some f) => fieldM_id h)
        have Hmem := hide (fun (f : FieldM) (h : fieldM t p.id = some f) => fieldM_mem h)
        clear Hpast
        obtain ⟨ok, hok⟩ : ∃ ok, ok = (fieldM t p.id).isSome := ⟨_, rfl⟩
        obtain ⟨f, hf⟩ : ∃ f, f = (fieldM t p.id).getD FieldM.zero := ⟨_, rfl⟩
        have hsome : Hid (ok = true → fieldM t p.id = some f) := fun h => by
          rw [hok] at h
          cases e : fieldM t p.id with
          | none => rw [e] at h; cases h
          | some g => rw [e] at hf; rw [hf]; rfl
        rw [← hok, ← hf]
        clear hf
        have Hok := hide hok
        clear hok t0 t1 t2 t3 t4 d0 d1 d2 d3
        cases ok
        · clear Hr2' Hr3' HL2 Hfield Hfill
          go_wp2
          exact ⟨unhide hlast _ (hr3.alloc _) (unhide Hok).symm, by simp [intOf]; omega⟩
        have hfd := unhide hsome rfl
        obtain ⟨T1, T2, T3, T4⟩ := unhide Hfield f hfd
        have hfid := unhide Hsm f hfd
        have hfmem := unhide Hmem f hfd
        obtain ⟨bm, hbm⟩ : ∃ bm, bm = bareM p := ⟨_, rfl⟩
        have hbs : bm.s.size ≤ 20000 := by
          rw [hbm]; unfold bareM
          show (if p.kind = 1 then p.s else ⟨#[]⟩ : ByteArray).size ≤ 20000
          split
          · exact hpsz
          · decide
        have hbi : bm.ids = [] ∧ bm.l = [] := by rw [hbm]; exact ⟨rfl, rfl⟩
        rw [← hbm] at T1 T2 T3 T4
        have HT1 := hide T1
        have HT2 := hide T2
        have HT3 := hide T3
        have HT4 := hide T4
        have Hbm := hide hbm
        have Hbi := hide hbi
        have Hfid := hide hfid
        have Hfmem := hide hfmem
        clear T1 T2 T3 T4 hbm hfd hfid hfmem hbi hlast Hsm Hmem Hfield hsome Hok
        obtain ⟨W3, hW3⟩ : ∃ W3, W3 = w3.alloc (.cells #[.int .i64 f.id, .string f.name, .string f.type, .int .i64 f.kind, .int .i64 f.rule] 56) := ⟨_, rfl⟩
        have hx3b : Ext w3 W3 := by rw [hW3]; exact (Ext.refl w3).alloc _
        have rF : W3.heap[w3.heap.size]? = some (.cells #[.int .i64 f.id, .string f.name, .string f.type, .int .i64 f.kind, .int .i64 f.rule] 56 (0, 0)) := by rw [hW3]; exact heap_alloc_new _ _
        obtain ⟨d0, d1, d2, d3, _⟩ := row4f (hx3b.heap rP3)
        obtain ⟨m0, m1, m2, m3, _⟩ := row4f rP3
        have zP3 := lt_of_heap rP3
        go_wp2_with fail
        rw [← hW3]
        refine (bare_any p W3).mono ?_
        rw [← unhide Hbm]
        rintro e w4 ⟨rfl, hx4⟩
        obtain ⟨W4, hW4⟩ : ∃ W4, W4 = w4.alloc (.cells #[.int .i64 bm.kind, .int .i64 bm.n, .string bm.s, .slice none 0 0, .slice none 0 0] 28) := ⟨_, rfl⟩
        have hx4b : Ext w4 W4 := by rw [hW4]; exact (Ext.refl w4).alloc _
        have rX : W4.heap[w4.heap.size]? = some (.cells #[.int .i64 bm.kind, .int .i64 bm.n, .string bm.s, .slice none 0 0, .slice none 0 0] 28 (0, 0)) := by rw [hW4]; exact heap_alloc_new _ _
        have hE04 : Ext w0 w4 := hE02.trans (hx3.trans (hx3b.trans hx4))
        have b4 : w4.cell? ⟨w.heap.size, 0, none⟩ = some (.slice sb.a sb.len sb.cap) := hE04.cell (cell_of_row _ _ 0 _ _ _ r0)
        have rF4 := hx4.heap rF
        obtain ⟨f0, f1, f2, f3, f4, _⟩ := row5 rF4
        have zF4 := lt_of_heap rF4
        have hzw4 : w.heap.size < w4.heap.size := World.block_lt_of_cell? w4 _ b4
        clear d0 d1 d2 d3 m0 m1 m2 m3 hW3
        go_wp2_with fail
        rw [← hW4]
        have hr4 : Ext wr W4 := hr3.trans (hx3b.trans (hx4.trans hx4b))
        have hE4 : Ext w W4 := hEr.trans hr4
        refine (wrongOne_any sb ts f bm.kind bm.n bm.s ⟨none, 0, 0⟩ ⟨none, 0, 0⟩ W4 ((unhide Hb).ext hE4) hn (by omega) (by simp) (by simp)).mono ?_
        rintro e w5 ⟨rfl, hx5⟩
        have hr5 : Ext wr w5 := hr4.trans hx5
        have hE5 : Ext w w5 := hE4.trans hx5
        have hE05 : Ext w0 w5 := hE04.trans (hx4b.trans hx5)
        have R5 := hE05.heap r2
        have z5 := lt_of_heap R5
        obtain ⟨e1, he1⟩ : ∃ e1, e1 = wrongOneN ts f bm.kind bm.n bm.s 0 0 := ⟨_, rfl⟩
        rw [show wrongOneN ts f bm.kind bm.n bm.s (SV.mk none 0 0).len (SV.mk none 0 0).len = e1 from he1.symm]
        rw [← he1] at HT1 HT2 HT3 HT4
        clear he1 b4 f0 f1 f2 f3 f4 hW4
        by_cases hz1 : e1 = 0
        case neg =>
          have hst := unhide HT1 hz1
          have hLe : L = (e1, ([], [])) := by rw [unhide HL2, hst, if_pos hz1]
          have Hre := hide (unhide Hr2' (by rw [hLe]; exact hz1))
          rw [hLe] at Hre
          have hzb : (e1 != 0) = true := by simpa using hz1
          obtain ⟨c0, c1, c2, c3, c4, _⟩ := row5 R5
          clear hLe Hr2' Hr3' HL2 Hfill HT1 HT2 HT3 HT4 hst hz1
          go_wp2
          refine bodyPost_ret (v := .tuple #[.agg #[.int .i64 0, .int .i64 0, .string ⟨#[]⟩, .slice none 0 0, .slice none 0 0], .int .i64 e1]) ?_ rfl ?_
          · simp [results, Tryz.results40, go_sem, c0, c1, c2, c3, c4, z5]
          · rw [unhide Hre]
            exact ⟨⟨none, 0, 0⟩, ⟨none, 0, 0⟩, rfl, zeroAtP _ _ _, hE5.setCell5 (by omega) _ _ _ _ _⟩
        have hzb : (e1 != 0) = false := by simp [hz1]
        have HT2' := hide (unhide HT2 hz1)
        have HT3' := hide (unhide HT3 hz1)
        have HT4' := hide (unhide HT4 hz1)
        clear HT1 HT2 HT3 HT4 hz1
        have rF5 := (hx4b.trans hx5).heap rF4
        have rX5 := hx5.heap rX
        obtain ⟨f0, f1, f2, f3, f4, _⟩ := row5 rF5
        have hA5 := hr5.heap hA
        obtain ⟨a0, a1, a2, a3, a4, _⟩ := row5 hA5
        obtain ⟨si, hsi⟩ : ∃ s : SV, vi = .slice s.a s.len s.cap := by obtain ⟨a', c', e'⟩ := owns_slice (unhide Hoi); exact ⟨⟨a', _, c'⟩, e'⟩
        subst hsi
        have hint5 : IntsAt w5 si st.1 := by
          obtain ⟨s', e', h'⟩ := ints_of_owns (unhide Hoi) rfl
          simp only [Value.slice.injEq] at e'
          obtain rfl : si = s' := by cases si; cases s'; simp_all
          exact h'.ext hr5
        have Hint5 := hide hint5
        clear hint5
        go_upto_region 16 with fail
        go_cut [78] (fun s78 wx => s78 = .bool (decide (f.rule ≠ 3) && st.1.contains f.id) ∧ w5 = wx)
        case first =>
          rename_i J0 K0 hJ0 hK0
          clear HL2 Hr2' Hr3' Hfill HT2' HT3' HT4'
          by_cases hru : f.rule = 3
          · have hrb : (f.rule != 3) = false := by simp [hru]
            have Hru := hide hru
            clear hru
            go_wp2_with fail
            first | refine Met.intro (hJ0 _ _ ?_) | refine hK0 _ _ (Met.intro (hJ0 _ _ ?_))
            (repeat apply Exists.intro)
            refine ⟨?rel, rfl⟩
            case rel => exact ⟨by rw [unhide Hru]; rfl, rfl⟩
          · have hrb : (f.rule != 3) = true := by simpa using hru
            have Hru := hide hru
            clear hru
            go_wp2_with fail
            refine (containsInt_any si st.1 f.id w5 (unhide Hint5) (by omega)).mono ?_
            rintro e w6 ⟨rfl, hw6⟩
            subst w6
            go_wp2_with fail
            first | refine Met.intro (hJ0 _ _ ?_) | refine hK0 _ _ (Met.intro (hJ0 _ _ ?_))
            (repeat apply Exists.intro)
            refine ⟨?rel, rfl⟩
            case rel => exact ⟨by simp [unhide Hru], rfl⟩
        case rest =>
        obtain ⟨hs78, hwc⟩ := hcut
        subst hwc
        obtain ⟨cb, hcb⟩ : ∃ cb, cb = (decide (f.rule ≠ 3) && st.1.contains f.id) := ⟨_, rfl⟩
        rw [← hcb] at hs78
        subst hs78
        cases cb
        case true =>
          obtain ⟨hru, hco⟩ : f.rule ≠ 3 ∧ st.1.contains f.id = true := by simpa using hcb.symm
          have hst := unhide HT2' hru hco
          have hLe : L = (4, ([], [])) := by rw [unhide HL2, hst, if_pos (by simp)]
          have Hre := hide (unhide Hr2' (by rw [hLe]; simp))
          rw [hLe] at Hre
          obtain ⟨c0, c1, c2, c3, c4, _⟩ := row5 R5
          clear hLe Hr2' Hr3' HL2 Hfill HT2' HT3' HT4' hst hru hco hcb
          go_wp2
          refine bodyPost_ret (v := .tuple #[.agg #[.int .i64 0, .int .i64 0, .string ⟨#[]⟩, .slice none 0 0, .slice none 0 0], .int .i64 4]) ?_ rfl ?_
          · simp [results, Tryz.results40, go_sem, c0, c1, c2, c3, c4, z5]
          · rw [unhide Hre]
            exact ⟨⟨none, 0, 0⟩, ⟨none, 0, 0⟩, rfl, zeroAtP _ _ _, hE5.setCell5 (by omega) _ _ _ _ _⟩
        case false =>
          have hor : f.rule = 3 ∨ st.1.contains f.id = false := by
            by_cases h : f.rule = 3
            · exact .inl h
            · exact .inr (by have := hcb.symm; simpa [h] using this)
          have hzX : wr.heap.size ≤ w4.heap.size := by have := (hr3.trans (hx3b.trans hx4)).size; omega
          clear hcb HT2' Hfill
          go_upto_if 82 with fail
          go_cut [] (fun wx => ∃ (x : ValueM) (xi xl : SV), Hid (L = readL ts (recM ts k) t (prevP ps (j + 1)) (ps.drop (j + 1)) (st.1 ++ [f.id], st.2 ++ [x])) ∧ Ext wr wx ∧ wx.heap[w4.heap.size]? = some (.cells #[.int .i64 x.kind, .int .i64 x.n, .string x.s, .slice xi.a xi.len xi.cap, .slice xl.a xl.len xl.cap] 28 (0, 0)) ∧ wx.heap[w3.heap.size]? = some (.cells #[.int .i64 f.id, .string f.name, .string f.type, .int .i64 f.kind, .int .i64 f.rule] 56 (0, 0)) ∧ Hid (ValueAtP (fun b => wr.heap.size ≤ b ∧ b ≠ w4.heap.size ∧ b < wx.heap.size) (k + 5) wx [.int .i64 x.kind, .int .i64 x.n, .string x.s, .slice xi.a xi.len xi.cap, .slice xl.a xl.len xl.cap] x))
          case first =>
            rename_i J0 K0 hJ0 hK0
            by_cases h5 : f.kind = 5
            · have hk5 : (f.kind == 5) = true := by simp [h5]
              have hms : Msg ts (typeM ts f) := Msg.sub hg (unhide Hm) (unhide Hfmem) h5
              obtain ⟨q1, q2⟩ := unhide HT3' hor h5
              obtain ⟨rc, hrc⟩ : ∃ rc, rc = recM ts k f p.s := ⟨_, rfl⟩
              rw [← hrc] at q1 q2
              have Hq1 := hide q1
              have Hq2 := hide q2
              have Hrc := hide hrc
              have hD1 : D + 1 = 24 - (k : Int) + 1 := by rw [unhide HD]
              have HD1 := hide hD1
              have b5 : w5.cell? ⟨w.heap.size, 0, none⟩ = some (.slice sb.a sb.len sb.cap) := hE05.cell (cell_of_row _ _ 0 _ _ _ r0)
              obtain ⟨g0, g1, g2, g3, _⟩ := row4f ((hx3b.trans (hx4.trans (hx4b.trans hx5))).heap rP3)
              clear q1 q2 hrc hD1 h5 HT3' HT4'
              go_wp2_with fail
              rw [unhide HD1]
              refine (unhide HW f p.s w5 ((unhide Hb).ext hE5) hms (by omega)).mono ?_
              rw [← unhide Hrc]
              rintro e w6 ⟨xi, xl, rfl, hv6, hx6⟩
              obtain ⟨R, x⟩ := rc
              simp only at hv6 Hq1 Hq2 ⊢
              have rX6 := hx6.heap rX5
              obtain ⟨y0, y1, y2, y3, y4, _⟩ := row5 rX6
              have zX6 := lt_of_heap rX6
              have R6 := hx6.heap R5
              have z6 := lt_of_heap R6
              have hE6 := hE5.trans hx6
              have hneX : w.heap.size + 1 + 1 ≠ w4.heap.size := by have := lt_of_heap (hE04.heap r2); omega
              have Hv6 := hide hv6
              clear hv6 b5 g0 g1 g2 g3 Hrc HD1
              by_cases hR : R = 0
              case neg =>
                have hLe : L = (R, ([], [])) := by rw [unhide HL2, unhide Hq1, if_pos hR]
                have Hre := hide (unhide Hr2' (by rw [hLe]; exact hR))
                rw [hLe] at Hre
                have hRb : (R != 0) = true := by simpa using hR
                obtain ⟨c0, c1, c2, c3, c4, _⟩ := row5 R6
                clear hLe Hr2' Hr3' HL2 Hq1 Hq2 hR
                go_wp2
                refine bodyPost_ret (v := .tuple #[.agg #[.int .i64 0, .int .i64 0, .string ⟨#[]⟩, .slice none 0 0, .slice none 0 0], .int .i64 R]) ?_ rfl ?_
                · simp [results, Tryz.results40, go_sem, c0, c1, c2, c3, c4, z6, hneX]
                · rw [unhide Hre]
                  exact ⟨⟨none, 0, 0⟩, ⟨none, 0, 0⟩, rfl, zeroAtP _ _ _, (hE6.setCell5 (by have := hEr.size; omega) _ _ _ _ _).setCell5 (by omega) _ _ _ _ _⟩
              have HS : Hid (L = readL ts (recM ts k) t (prevP ps (j + 1)) (ps.drop (j + 1)) (st.1 ++ [f.id], st.2 ++ [x])) := by
                unfold Hid; rw [unhide HL2, unhide Hq1, unhide Hq2, if_neg (by simp [hR])]
              have hRb : (R != 0) = false := by simp [hR]
              obtain ⟨W7, hW7⟩ : ∃ W7, W7 = ((((w6.setCell ⟨w4.heap.size, 0, none⟩ (.int .i64 x.kind)).setCell ⟨w4.heap.size, 1, none⟩ (.int .i64 x.n)).setCell ⟨w4.heap.size, 2, none⟩ (.string x.s)).setCell ⟨w4.heap.size, 3, none⟩ (.slice xi.a xi.len xi.cap)).setCell ⟨w4.heap.size, 4, none⟩ (.slice xl.a xl.len xl.cap) := ⟨_, rfl⟩
              have hr7 : Ext wr W7 := by rw [hW7]; exact (hr5.trans hx6).setCell5 hzX _ _ _ _ _
              have rX7 : W7.heap[w4.heap.size]? = some (.cells #[.int .i64 x.kind, .int .i64 x.n, .string x.s, .slice xi.a xi.len xi.cap, .slice xl.a xl.len xl.cap] 28 (0, 0)) := by
                rw [hW7]
                have h := heap_setCell_same _ w4.heap.size 4 _ 28 (.slice xl.a xl.len xl.cap) (heap_setCell_same _ w4.heap.size 3 _ 28 (.slice xi.a xi.len xi.cap) (heap_setCell_same _ w4.heap.size 2 _ 28 (.string x.s) (heap_setCell_same _ w4.heap.size 1 _ 28 (.int .i64 x.n) (heap_setCell_same w6 w4.heap.size 0 _ 28 (.int .i64 x.kind) rX6))))
                simpa using h
              have rF7 : W7.heap[w3.heap.size]? = some (.cells #[.int .i64 f.id, .string f.name, .string f.type, .int .i64 f.kind, .int .i64 f.rule] 56 (0, 0)) := by
                have hne : w3.heap.size ≠ w4.heap.size := by omega
                rw [hW7, heap_setCell_other _ _ _ _ hne, heap_setCell_other _ _ _ _ hne, heap_setCell_other _ _ _ _ hne, heap_setCell_other _ _ _ _ hne, heap_setCell_other _ _ _ _ hne]
                exact hx6.heap rF5
              have hv7 : ValueAtP (fun b => wr.heap.size ≤ b ∧ b ≠ w4.heap.size ∧ b < W7.heap.size) (k + 5) W7 [.int .i64 x.kind, .int .i64 x.n, .string x.s, .slice xi.a xi.len xi.cap, .slice xl.a xl.len xl.cap] x := by
                rw [hW7]
                have hz45 : w4.heap.size < w5.heap.size := lt_of_heap rX5
                refine ((unhide Hv6).set5 (g := w4.heap.size) (fun b hb => by have := hb.1; omega) _ _ _ _ _).sub fun b hb => ⟨by have := hb.1; omega, by have := hb.1; omega, by simpa using hb.2⟩
              have Hv7 := hide hv7
              clear Hv6 hR Hq1 Hq2 HL2 Hr2' Hr3' f0 f1 f2 f3 f4 a0 a1 a2 a3 a4 hv7
              go_wp2_with fail
              rw [← hW7]
              clear hW7
              first | refine Met.intro (hJ0 _ _ ?_) | refine hK0 _ _ (Met.intro (hJ0 _ _ ?_))
              (repeat apply Exists.intro)
              refine ⟨?rel, rfl⟩
              case rel => exact ⟨x, xi, xl, HS, hr7, rX7, rF7, Hv7⟩
            · have hk5 : (f.kind == 5) = false := by simpa using h5
              obtain ⟨q1, q2⟩ := unhide HT4' hor h5
              have HS : Hid (L = readL ts (recM ts k) t (prevP ps (j + 1)) (ps.drop (j + 1)) (st.1 ++ [f.id], st.2 ++ [bm])) := by
                unfold Hid; rw [unhide HL2, q1, q2, if_neg (by simp)]
              have hv7 : ValueAtP (fun b => wr.heap.size ≤ b ∧ b ≠ w4.heap.size ∧ b < w5.heap.size) (k + 5) w5 [.int .i64 bm.kind, .int .i64 bm.n, .string bm.s, .slice none 0 0, .slice none 0 0] bm :=
                ⟨⟨none, 0, 0⟩, ⟨none, 0, 0⟩, rfl, by rw [(unhide Hbi).1]; exact ⟨rfl, fun i x hx => by simp at hx⟩, by rw [(unhide Hbi).2]; exact ⟨rfl, fun i x hx => by simp at hx⟩, nil_ok, nil_ok, fun ad ha => (by cases ha), fun ad ha => (by cases ha)⟩
              have Hv7 := hide hv7
              clear hv7 q1 q2 h5 HT3' HT4' HL2 Hr2' Hr3' a0 a1 a2 a3 a4
              go_wp2_with fail
              first | refine Met.intro (hJ0 _ _ ?_) | refine hK0 _ _ (Met.intro (hJ0 _ _ ?_))
              (repeat apply Exists.intro)
              refine ⟨?rel, rfl⟩
              case rel => exact ⟨bm, ⟨none, 0, 0⟩, ⟨none, 0, 0⟩, HS, hr5, rX5, rF5, Hv7⟩
          case rest =>
            obtain ⟨x, xi, xl, HS, hr7, rX7, rF7, Hv7⟩ := hcut
            rename World => W7
            clear HT3' HT4' HL2 Hr2' Hr3' Hbi Hbm HW rX rX5 f0 f1 f2 f3 f4 a0 a1 a2 a3 a4 hr5 rF5 hor
            obtain ⟨a0, a1, a2, a3, a4, _⟩ := row5 (hr7.heap hA)
            obtain ⟨f0, f1, f2, f3, f4, _⟩ := row5 rF7
            have hA7 := hr7.heap hA
            have zA7 := lt_of_heap hA7
            have zX7 := lt_of_heap rX7
            have hz7 : wr.heap.size ≤ W7.heap.size := hr7.size
            go_wp2_with (at_builtin; refine wpList_app1w _ _ 25 3 (.int .i64 0) 1 8 Tryz.underlying25 info3 rfl (by decide) (by decide) rfl rfl (w1.heap.size + 1) _ st.1.length _ rfl ((owns_ext (unhide Hoi) hr7).alloc _) W7.heap.size 1 [.int .i64 f.id] rfl rfl ?c1 ?c2 ?c3 ?c4 ?_)
            case c1 => exact range_of_new1 _ _ _ (by simp)
            case c2 => intro u hu; simp at hu; subst hu; rfl
            case c3 => omega
            case c4 => simp; omega
            intro v8 w8 ho8 hg8 hw8
            obtain ⟨s8, hs8⟩ : ∃ s : SV, v8 = .slice s.a s.len s.cap := by obtain ⟨a', c', e'⟩ := owns_slice ho8; exact ⟨⟨a', _, c'⟩, e'⟩
            subst hs8
            have hWa : Ext W7 (W7.alloc (.cells #[.int .i64 f.id] 3)) := (Ext.refl W7).alloc _
            have hzWa : (W7.alloc (.cells #[.int .i64 f.id] 3)).heap.size = W7.heap.size + 1 := by simp
            have hr7a : Ext wr (W7.alloc (.cells #[.int .i64 f.id] 3)) := hr7.trans hWa
            have notI : ∀ b, w1.heap.size + 1 > b ∨ wr.heap.size ≤ b → Value.ownBlock (.slice si.a si.len si.cap) ≠ some b := fun b h e => by have := hoilt b e; omega
            have keep8 : ∀ {b : Nat} {ob : Obj}, W7.heap[b]? = some ob → Value.ownBlock (.slice si.a si.len si.cap) ≠ some b → w8.heap[b]? = some ob := fun {b ob} h0 hne => by
              have h1 := hWa.heap h0
              rw [hg8.block _ (lt_of_heap h1) (fun e => hne e.symm)]; exact h1
            have hA8 := keep8 hA7 (notI _ (.inl (by omega)))
            have rX8 := keep8 rX7 (notI _ (.inr (by omega)))
            have hz8 : W7.heap.size + 1 ≤ w8.heap.size := by have := hg8.size; simpa using this
            have hbl8 : Below w1.heap.size W1 w8 := (Below.trans (unhide Hbl) (hr7a.mono (by omega))).grown hg8 (by omega) (fun b hb => by have := (hoilt b hb).1; omega)
            have hap : vL.ownBlock = none ∨ vL.ownBlock ≠ Value.ownBlock (.slice si.a si.len si.cap) := by
              obtain ⟨css, hc1, _, _⟩ := unhide Hvr
              exact owns_apart hc1 (unhide Hoi) (by decide)
            have hvr8 := ((unhide Hvr).ext hr7a).other (ex' := Value.ownBlock (.slice s8.a s8.len s8.cap)) hg8 hap (by simpa using hw8)
            have hv8 : ValueAtP (fun b => wr.heap.size ≤ b ∧ b ≠ w4.heap.size ∧ b < W7.heap.size) (k + 5) w8 [.int .i64 x.kind, .int .i64 x.n, .string x.s, .slice xi.a xi.len xi.cap, .slice xl.a xl.len xl.cap] x := (unhide Hv7).keep fun b ob hb hob => keep8 hob (notI _ (.inr hb.1))
            have hs8b : ∀ b, Value.ownBlock (.slice s8.a s8.len s8.cap) = some b → w1.heap.size + 1 ≤ b ∧ (b < wr.heap.size ∨ W7.heap.size + 1 ≤ b) := fun b hb => by
              rcases hw8 with e | ⟨g', e, hge⟩
              · rw [e] at hb; have := hoilt b hb; exact ⟨this.1, .inl this.2⟩
              · rw [e] at hb; cases hb; (try rw [hzWa] at hge); exact ⟨by omega, .inr hge⟩
            obtain ⟨a0', a1', a2', a3', a4', _⟩ := row5 hA8
            have zA8 := lt_of_heap hA8
            have Ho8 := hide ho8
            have Hvr8 := hide hvr8
            have Hbl8 := hide hbl8
            have Hv8 := hide hv8
            clear ho8 hg8 hw8 hap hvr8 hbl8 hv8 keep8 a0 a1 a2 a3 a4 f0 f1 f2 f3 f4
            obtain ⟨W8, hW8⟩ : ∃ W8, W8 = w8.setCell ⟨w1.heap.size, 3, none⟩ (.slice s8.a s8.len s8.cap) := ⟨_, rfl⟩
            have hAW8 : W8.heap[w1.heap.size]? = some (.cells #[.int .i64 2, .int .i64 0, .string ⟨#[]⟩, .slice s8.a s8.len s8.cap, vL] 28 (0, 0)) := by
              rw [hW8]
              have := heap_setCell_same w8 w1.heap.size 3 _ 28 (.slice s8.a s8.len s8.cap) hA8
              simpa using this
            have rXW8 : W8.heap[w4.heap.size]? = some (.cells #[.int .i64 x.kind, .int .i64 x.n, .string x.s, .slice xi.a xi.len xi.cap, .slice xl.a xl.len xl.cap] 28 (0, 0)) := by rw [hW8, heap_setCell_other _ _ _ _ (show w4.heap.size ≠ w1.heap.size by omega)]; exact rX8
            have hblW8 : Below w1.heap.size W1 W8 := by rw [hW8]; exact (unhide Hbl8).setCell (Nat.le_refl _) _
            have hoW8 : W8.ownsRow (w1.heap.size + 1) 3 1 (.slice s8.a s8.len s8.cap) (st.1.length + 1) (st.1.flatMap encI ++ [.int .i64 f.id]) := by rw [hW8]; exact ownsRow_setCell_below (unhide Ho8) (by show w1.heap.size < w1.heap.size + 1; omega) _
            have hvW8 : VRow (k + 5) W8 (w1.heap.size + 1) (fun b => w1.heap.size + 1 ≤ b) (Value.ownBlock (.slice s8.a s8.len s8.cap)) vL st.2 := by rw [hW8]; exact (unhide Hvr8).set (fun e => by have h := hvllt _ e; simp only at h; omega) (fun b hb => by simp only; omega) _
            have hxW8 : ValueAtP (fun b => wr.heap.size ≤ b ∧ b ≠ w4.heap.size ∧ b < W7.heap.size) (k + 5) W8 [.int .i64 x.kind, .int .i64 x.n, .string x.s, .slice xi.a xi.len xi.cap, .slice xl.a xl.len xl.cap] x := by
              rw [hW8]
              exact (unhide Hv8).keep fun b ob hb hob => by rw [heap_setCell_other _ _ _ _ (show b ≠ w1.heap.size by have := hb.1; omega)]; exact hob
            have hzW8 : W8.heap.size = w8.heap.size := by rw [hW8]; simp
            obtain ⟨x0, x1, x2, x3, x4, _⟩ := row5 rXW8
            obtain ⟨b0, b1, b2, b3, b4, _⟩ := row5 hAW8
            clear Ho8 Hvr8 Hbl8 Hv8
            obtain ⟨W9, hW9⟩ : ∃ W9, W9 = W8.alloc (.cells #[.int .i64 x.kind, .int .i64 x.n, .string x.s, .slice xi.a xi.len xi.cap, .slice xl.a xl.len xl.cap] 28) := ⟨_, rfl⟩
            have hx9 : Ext W8 W9 := by rw [hW9]; exact (Ext.refl W8).alloc _
            have hzW9 : W9.heap.size = W8.heap.size + 1 := by rw [hW9]; simp
            obtain ⟨css, hc1, hc2, hc3⟩ := hvW8.ext hx9
            have hxv9 : ValueAtP (fun b => w1.heap.size + 1 ≤ b ∧ vL.ownBlock ≠ some b ∧ Value.ownBlock (.slice s8.a s8.len s8.cap) ≠ some b ∧ b < W9.heap.size) (k + 5) W9 [.int .i64 x.kind, .int .i64 x.n, .string x.s, .slice xi.a xi.len xi.cap, .slice xl.a xl.len xl.cap] x :=
              (hxW8.ext hx9).sub fun b hb => by
                obtain ⟨h1, h2, h3⟩ := hb
                refine ⟨by omega, fun e => ?_, fun e => ?_, by omega⟩
                · have := (hvllt b e).2; omega
                · have := (hs8b b e).2; omega
            have hr9 : W9.rangeAt W8.heap.size 0 [.int .i64 x.kind, .int .i64 x.n, .string x.s, .slice xi.a xi.len xi.cap, .slice xl.a xl.len xl.cap] := by rw [hW9]; exact range_of_new5 _ _ _ _ _ _ _ rfl
            have Hc1 := hide hc1
            have hst2 : st.2.length < 1048576 := by have := unhide Hlen; omega
            obtain ⟨y0, y1, y2, y3, y4, _⟩ := row5 rX8
            have zX8 := lt_of_heap rX8
            have hneA : w4.heap.size ≠ w1.heap.size := by omega
            have hneB : ¬ w1.heap.size = w4.heap.size := by omega
            clear hc1 zX7 zA7 hA7 rX7 rX8
            go_wp2_with (at_builtin; (try rw [← hW8]); (try rw [← hW9]); refine wpList_app1w _ _ 26 28 (.agg #[.int .i64 0, .int .i64 0, .string ⟨#[]⟩, .slice none 0 0, .slice none 0 0]) 5 80 Tryz.underlying26 info28 rfl (by decide) (by decide) rfl rfl (w1.heap.size + 1) _ _ _ rfl (unhide Hc1) w8.heap.size 1 [.int .i64 x.kind, .int .i64 x.n, .string x.s, .slice xi.a xi.len xi.cap, .slice xl.a xl.len xl.cap] rfl rfl ?d1 ?d2 ?d3 ?d4 ?_)
            case d1 => rw [hzW8, hW9, hW8] at hr9; exact hr9
            case d2 => exact ⟨rfl, rfl, rfl, rfl, rfl⟩
            case d4 => omega
            intro v10 w10 ho10 hg10 hw10
            try rw [← hW8] at hg10
            try rw [← hW9] at hg10
            try rw [← hW8] at hw10
            try rw [← hW9] at hw10
            obtain ⟨s10, hs10⟩ : ∃ s : SV, v10 = .slice s.a s.len s.cap := by obtain ⟨a', c', e'⟩ := owns_slice ho10; exact ⟨⟨a', _, c'⟩, e'⟩
            subst hs10
            have hs10lt : ∀ b, Value.ownBlock (.slice s10.a s10.len s10.cap) = some b → w1.heap.size + 1 ≤ b := fun b hb => (ho10.lt b hb).1
            have efl : css.flatMap (fun c => c) = css.flatten := by simp
            have ho10b := ho10
            rw [← efl] at ho10b
            have hv10 := VRow.push hc2 hc3 hxv9 ho10b hg10 (by rw [hzW9, hzW8]; exact hw10)
            clear efl ho10b
            have hA10 : w10.heap[w1.heap.size]? = some (.cells #[.int .i64 2, .int .i64 0, .string ⟨#[]⟩, .slice s8.a s8.len s8.cap, vL] 28 (0, 0)) := by
              have h0 := hx9.heap hAW8
              rw [hg10.block _ (lt_of_heap h0) (fun e => by have := (hvllt _ e.symm).1; omega)]; exact h0
            obtain ⟨css0, hd1, _, _⟩ := hvW8
            have ho810 := (owns_ext hoW8 hx9).kept hg10 (owns_apart hoW8 hd1 (by decide))
            have hbl10 : Below w1.heap.size W1 w10 := (Below.trans hblW8 (hx9.mono (by omega))).grown hg10 (by omega) (fun b hb => by have := (hvllt b hb).1; omega)
            have hz10 := lt_of_heap hA10
            obtain ⟨e0', e1', e2', e3', e4', _⟩ := row5 hA10
            have Hv10 := hide hv10
            have Ho810 := hide ho810
            have Hbl10 := hide hbl10
            clear ho10 hg10 hw10 hc2 hc3 hd1 hv10 ho810 hbl10 hxv9 hoW8 hblW8 hW9 hW8 b0 b1 b2 b3 b4 x0 x1 x2 x3 x4 a0' a1' a2' a3' a4'
            go_wp2
            refine ⟨⟨j + 1, (st.1 ++ [f.id], st.2 ++ [x]), .slice s8.a s8.len s8.cap, .slice s10.a s10.len s10.cap, by omega, by go_num, HS, ?_, ?_, ?_, by have := unhide Hlen; simp; exact this, by simp; omega, pw_snoc (unhide Hso) (fun a ha => by rw [unhide Hfid]; exact unhide Hlow a ha), fun a ha => ⟨p.id, unhide Hnp, ?_⟩, (unhide Hbl10).setCell (Nat.le_refl _) _⟩, by simp [intOf]; omega⟩
            · have := heap_setCell_same w10 w1.heap.size 4 _ 28 (.slice s10.a s10.len s10.cap) hA10
              simpa using this
            · simp only
              rw [List.flatMap_append, List.length_append]
              exact ownsRow_setCell_below (unhide Ho810) (by show w1.heap.size < w1.heap.size + 1; omega) _
            · exact (unhide Hv10).set (p := ⟨w1.heap.size, 4, none⟩) (fun e => by have h := hs10lt _ e; simp only at h; omega) (fun b hb => by simp only; omega) (.slice s10.a s10.len s10.cap)
            · simp only at ha
              rcases List.mem_append.1 ha with ha | ha
              · exact unhide Hlow a ha
              · rw [List.mem_singleton] at ha; rw [ha, unhide Hfid]; exact Int.le_refl _
    · have hjl : ps.drop j = [] := List.drop_of_length_le (by omega)
      have hLe : L = (0, st) := by rw [unhide HL, hjl]; rfl
      have hre := unhide Hr3' (by rw [hLe])
      rw [hLe] at hre
      have Hre := hide hre
      obtain ⟨si, hsi⟩ : ∃ s : SV, vi = .slice s.a s.len s.cap := by obtain ⟨a', c', e'⟩ := owns_slice hoi; exact ⟨⟨a', _, c'⟩, e'⟩
      subst hsi
      obtain ⟨sl, hsl⟩ : ∃ s : SV, vL = .slice s.a s.len s.cap := by obtain ⟨css, hc1, _, _⟩ := hvr; obtain ⟨a', c', e'⟩ := owns_slice hc1; exact ⟨⟨a', _, c'⟩, e'⟩
      subst hsl
      obtain ⟨a0, a1, a2, a3, a4, _⟩ := row5 hA
      have bB : wr.cell? ⟨w.heap.size, 0, none⟩ = some (.slice sb.a sb.len sb.cap) := hEr0.cell (cell_of_row _ _ 0 _ _ _ r0)
      obtain ⟨t0, t1, t2, t3, t4, _⟩ := row5 (hEr0.heap r1)
      have Hoi := hide hoi
      have Hvr := hide hvr
      have Hso := hide hso
      have Hlen := hide hlen
      have hz1w : w.heap.size ≤ w1.heap.size := hE1.size
      clear hoi hvr hso hpr HL Hr2' Hr3' hre hLe hjl hlen
      go_wp2_with fail
      refine (unhide Hfill (w1.heap.size + 1) (fun b => w1.heap.size + 1 ≤ b) (fun _ h => h) (fun _ h => h) (by omega) 2 0 ⟨#[]⟩ si sl st.1 st.2 wr hEr hwz (unhide Hlen) (by omega) (unhide Hso) (unhide Hoi) (unhide Hvr)).mono ?_
      rintro e w2 ⟨si', sl', rfl, ho2, hv2, hb2⟩
      have R3 : w2.heap[w.heap.size + 1 + 1]? = some (.cells #[.int .i64 0, .int .i64 0, .string ⟨#[]⟩, .slice none 0 0, .slice none 0 0] 28 (0, 0)) := by rw [hb2.block _ (by omega)]; exact hEr0.heap r2
      have hE2 : Ext w w2 := Below.trans hEr (hb2.mono (by omega))
      obtain ⟨s2, hs2, hsl, hslok, hslb⟩ := hv2.slice
      simp only [Value.slice.injEq] at hs2
      obtain rfl : sl' = s2 := by cases sl'; cases s2; simp_all
      obtain ⟨s3, hs3, hint⟩ := ints_of_owns ho2 rfl
      simp only [Value.slice.injEq] at hs3
      obtain rfl : si' = s3 := by cases si'; cases s3; simp_all
      have hiok := ok_of_owns ho2
      have hilt := ho2.lt
      obtain ⟨q0, q1, q2, q3, q4, _⟩ := row5 R3
      have hz2 := lt_of_heap R3
      have Hint := hide hint
      have Hsl := hide hsl
      clear hint hsl ho2 hv2 hs2 hs3 a0 a1 a2 a3 a4 t0 t1 t2 t3 t4 bB
      go_wp2
      refine bodyPost_ret (v := .tuple #[.agg #[.int .i64 2, .int .i64 0, .string ⟨#[]⟩, .slice si'.a si'.len si'.cap, .slice sl'.a sl'.len sl'.cap], .int .i64 0]) ?_ rfl ?_
      · simp [results, Tryz.results40, go_sem, q0, q1, q2, q3, q4, hz2]
      · rw [unhide Hre]
        refine ⟨si', sl', rfl, ?_, hE2.setCell5 (by omega) _ _ _ _ _⟩
        have h0 : ValueAtP (fun b => w1.heap.size + 1 ≤ b ∧ b < w2.heap.size) (k + 6) w2 [.int .i64 2, .int .i64 0, .string ⟨#[]⟩, .slice si'.a si'.len si'.cap, .slice sl'.a sl'.len sl'.cap] (fillV ts t st) :=
          ⟨si', sl', rfl, unhide Hint, unhide Hsl, hiok, hslok, fun ad ha => hilt ad.block (by simp [Value.ownBlock, ha]), hslb⟩
        refine (h0.set5 (g := w.heap.size + 1 + 1) (fun b hb => by have := hb.1; omega) _ _ _ _ _).sub fun b hb => ⟨by have := hb.1; omega, by simpa using hb.2⟩
end Go.Proofs.YtmdpdgldmedebaaGreatDoor

