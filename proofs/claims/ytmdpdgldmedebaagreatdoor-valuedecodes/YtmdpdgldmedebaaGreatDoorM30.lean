import Derived.Test.YtmdpdgldmedebaaGreatDoorM29
namespace Go.Proofs.YtmdpdgldmedebaaGreatDoor
set_option linter.unusedSimpArgs false
set_option linter.unusedVariables false
set_option linter.unusedSimpArgs false
set_option linter.unusedVariables false
open Go.RowKit

theorem msg_no {ts : BookM} {t : TypeM} {k : Nat} (hk : k < t.fields.length) (h : fieldOkAt ts t.fields k = false ∨ nameOkAt (t.fields.map (·.name)) k = false ∨ risesAt 1 30 (t.fields.map (·.id)) k = false ∨ idsApartAt (t.fields.map (·.id)) t.gone k = false) : goodMessageM ts t = false := by
  unfold goodMessageM
  split
  · rfl
  · rcases h with h | h | h | h
    · rw [not_all_range hk h]; rfl
    · unfold goodNamesL
      rw [not_all_range (n := (t.fields.map (·.name)).length) (by simpa using hk) h]; simp
    · unfold goodIdsL risingL
      rw [not_all_range (n := (t.fields.map (·.id)).length) (by simpa using hk) h]; simp
    · unfold goodIdsL
      rw [not_all_range (n := (t.fields.map (·.id)).length) (by simpa using hk) h]; simp
theorem msg_gone {ts : BookM} {t : TypeM} (h : risingL t.gone 1 30 = false) : goodMessageM ts t = false := by
  unfold goodMessageM
  split
  · rfl
  · unfold goodIdsL; rw [h]; simp
theorem msg_first {ts : BookM} {t : TypeM} (h : ¬ t.items.length = 0 ∨ 5 < t.fields.length ∨ 30 < t.gone.length) : goodMessageM ts t = false := by
  by_cases h1 : 0 < t.items.length ∨ 5 < t.fields.length
  · unfold goodMessageM; rw [if_pos h1]
  · have h3 : 30 < t.gone.length := by omega
    cases hr : risingL t.gone 1 30
    · exact msg_gone hr
    · obtain ⟨a, b⟩ := risingL_out hr
      have := rise_len t.gone 1 30 a b
      omega
theorem msg_end {ts : BookM} {t : TypeM} {used : ByteArray} {b1 b2 : Int} (h0 : ¬ (0 < t.items.length ∨ 5 < t.fields.length)) (hg : RiseTo t.gone 1 30 t.gone.length b1) (h1 : AllTo (fieldOkAt ts t.fields) t.fields.length) (h2 : NamesTo (t.fields.map (·.name)) t.fields.length used)
    (h3 : RiseTo (t.fields.map (·.id)) 1 30 t.fields.length b2) (h4 : AllTo (idsApartAt (t.fields.map (·.id)) t.gone) t.fields.length) : goodMessageM ts t = true := by
  have e1 : goodNamesL (t.fields.map (·.name)) = true := h2.ok.all (by simp)
  have e2 : risingL (t.fields.map (·.id)) 1 30 = true := h3.1.all (by simp)
  have e3 : risingL t.gone 1 30 = true := hg.1.all (Nat.le_refl _)
  have e4 : (List.range (t.fields.map (·.id)).length).all (idsApartAt (t.fields.map (·.id)) t.gone) = true := h4.all (by simp)
  unfold goodMessageM goodIdsL
  rw [if_neg h0, h1.all (Nat.le_refl _), e1, e2, e3, e4]; rfl
/-- None of the first j ids is it. -/
def NotTo (l : List Int) (x : Int) (j : Nat) : Prop := ∀ i, i < j → l.getD i 0 ≠ x
theorem NotTo.all {l : List Int} {x : Int} {j : Nat} (h : NotTo l x j) (hj : l.length ≤ j) : l.contains x = false := by
  cases hc : l.contains x
  · rfl
  · rw [List.contains_iff_mem] at hc
    obtain ⟨i, hi, e⟩ := List.getElem_of_mem hc
    exact absurd (by simp [List.getD, hi, e]) (h i (by omega))

theorem field_plain {ts : BookM} {f : FieldM} (r1 : 1 ≤ f.rule) (r2 : f.rule ≤ 3) (h : f.kind = 1 ∨ f.kind = 2 ∨ f.kind = 3) : goodFieldM ts f = f.type.toList.isEmpty := by
  unfold goodFieldM; rw [if_neg (by omega), if_pos h]
theorem field_typed {ts : BookM} {f : FieldM} (r1 : 1 ≤ f.rule) (r2 : f.rule ≤ 3) (h : f.kind = 4 ∨ f.kind = 5) : goodFieldM ts f = (match findM ts f.type with | some t => t.enum == (f.kind == 4) | none => false) := by
  unfold goodFieldM; rw [if_neg (by omega), if_neg (by omega), if_pos h]
  cases findM ts f.type <;> rfl
theorem field_other {ts : BookM} {f : FieldM} (r1 : 1 ≤ f.rule) (r2 : f.rule ≤ 3) (h : ¬ (f.kind = 1 ∨ f.kind = 2 ∨ f.kind = 3)) (h2 : ¬ (f.kind = 4 ∨ f.kind = 5)) : goodFieldM ts f = false := by
  unfold goodFieldM; rw [if_neg (by omega), if_neg h, if_neg h2]

set_option maxHeartbeats 12800000 in
set_option maxRecDepth 4000 in
theorem goodTypeR_msg (s : SV) (ts : BookM) (tv : TV) (t : TypeM) (w : World) (hs : BookAt w s ts) (ht : TypeAt w tv t) (he : t.enum = false) (hn : t.Small) (hnb : ts.length ≤ 1048576) (hm : MaxAt w) :
    Calls Tryz.prog 48 #[.agg #[.slice s.a s.len s.cap], .agg #[.string tv.name, .bool tv.enum, .slice tv.fields.a tv.fields.len tv.fields.cap, .slice tv.gone.a tv.gone.len tv.gone.cap, .slice tv.items.a tv.items.len tv.items.cap]] w fun e w' => e = .returned (.bool (goodMessageM ts t)) ∧ Ext w w' := by
  obtain ⟨name, enum, ⟨fa, fn, fc⟩, ⟨ga, gn, gc⟩, ⟨ia, il, ic⟩⟩ := tv
  have hen := ht.enum
  obtain ⟨hf, hfs⟩ := ht.fields
  obtain ⟨hg, hgs⟩ := ht.gone
  have hi := ht.items.1
  simp only at hen hf hg hi hfs hgs
  subst hf hg
  rw [he] at hen
  subst hen
  have hn1 := hn.fields
  have hn2 := hn.gone
  have hn3 := hn.items
  rw [← hi] at hn3
  have Hi := hide hi
  have Hnm := hide hn.fname
  have Hs := hide hs
  clear ht he hn hs hi
  show Calls Tryz.prog 48 #[.agg #[.slice s.a s.len s.cap], .agg #[.string name, .bool false, .slice fa t.fields.length fc, .slice ga t.gone.length gc, .slice ia il ic]] w _
  have Hfs := hide hfs
  have Hgs := hide hgs
  clear hfs hgs
  by_cases c1 : il = 0
  case neg =>
    have E := hide (msg_first (ts := ts) (t := t) (.inl (by rw [← unhide Hi]; exact c1)))
    have c5 : ((il : Int) != 0) = true := by rw [bne_iff_ne]; omega
    go_enter Tryz.func48, Tryz.ntmps48
    go_wp2
    go_ret
    exact ⟨by rw [unhide E]; rfl, ((Ext.refl w).alloc _).alloc _⟩
  subst c1
  by_cases c2 : 5 < t.fields.length
  · have E := hide (msg_first (ts := ts) (t := t) (.inr (.inl c2)))
    go_enter Tryz.func48, Tryz.ntmps48
    go_wp2
    go_ret
    exact ⟨by rw [unhide E]; rfl, ((Ext.refl w).alloc _).alloc _⟩
  by_cases c3 : 30 < t.gone.length
  · have E := hide (msg_first (ts := ts) (t := t) (.inr (.inr c3)))
    go_enter Tryz.func48, Tryz.ntmps48
    go_wp2
    go_ret
    exact ⟨by rw [unhide E]; rfl, ((Ext.refl w).alloc _).alloc _⟩
  have H0 : Hid (¬ (0 < t.items.length ∨ 5 < t.fields.length)) := by unfold Hid; rw [← unhide Hi]; omega
  obtain ⟨W0, hW0⟩ : ∃ W0, (w.alloc (.cells #[.slice s.a s.len s.cap] 24)).alloc (.cells #[.string name, .bool false, .slice fa t.fields.length fc, .slice ga t.gone.length gc, .slice ia 0 ic] 50) = W0 := ⟨_, rfl⟩
  have hx0 : Ext w W0 := by rw [← hW0]; exact ((Ext.refl w).alloc _).alloc _
  have hA : W0.heap[w.heap.size + 1]? = some (.cells #[.string name, .bool false, .slice fa t.fields.length fc, .slice ga t.gone.length gc, .slice ia 0 ic] 50) := by rw [← hW0]; exact heap_alloc2_new _ _ _
  have hK : W0.heap[w.heap.size]? = some (.cells #[.slice s.a s.len s.cap] 24) := by rw [← hW0]; exact heap_alloc2_old _ _ _
  have HW0 := hide hW0
  clear hW0
  go_enter Tryz.func48, Tryz.ntmps48
  go_wp2
  rw [unhide HW0]
  go_loopw [6, 98] (fun b i wr => ∃ (k : Nat) (before : Int), k ≤ t.gone.length ∧ i = .int .i64 k ∧ b = .int .i64 before ∧ RiseTo t.gone 1 30 k before ∧ Ext W0 wr) (fun _ i _ => t.gone.length - (intOf i).toNat)
  case atStart => exact ⟨0, 0, by omega, rfl, rfl, RiseTo.start _ _ _, Ext.refl _⟩
  case round =>
    obtain ⟨k, before, hk, rfl, rfl, hR, hx⟩ := hrel
    obtain ⟨q0, q1, q2, q3, q4, _⟩ := row5 (hx.heap hA)
    by_cases hlt : k < t.gone.length
    · obtain ⟨b, o, cs, rfl, hr, rfl⟩ := unhide Hgs k t.gone[k] (by simp [hlt])
      have h0 := (hx0.trans hx).cell (hr 0 _ rfl)
      simp only [Nat.mul_one, Nat.add_zero] at h0
      have Hiff := hide (hR.iff hlt)
      have HrH : Hid (before < t.gone[k] → t.gone[k] ≤ 30 → RiseTo t.gone 1 30 (k + 1) t.gone[k]) := fun h1 h2 => hR.next hlt h1 h2
      generalize t.gone[k] = n at *
      clear hr
      have no : ¬ (before < n ∧ n ≤ 30) → goodMessageM ts t = false := fun h => msg_gone (by
        unfold risingL
        refine not_all_range hlt ?_
        cases hh : risesAt 1 30 t.gone k
        · rfl
        · exact absurd ((unhide Hiff).1 hh) h)
      by_cases hb1 : before < n
      · by_cases hb2 : n ≤ 30
        · have hR2 := hide (unhide HrH hb1 hb2)
          clear no
          go_wp2
          go_roundw
          case rel => exact ⟨k + 1, n, by omega, by go_num, rfl, unhide hR2, hx⟩
          case measure => simp [intOf]; omega
        · have E := hide (no (by omega))
          clear no
          go_wp2
          go_ret
          exact ⟨by rw [unhide E]; rfl, hx0.trans hx⟩
      · have E := hide (no (by omega))
        clear no
        go_wp2
        go_ret
        exact ⟨by rw [unhide E]; rfl, hx0.trans hx⟩
    · have ek : k = t.gone.length := by omega
      subst ek
      have HG := hide hR
      clear hR
      have hxo := hx
      clear hx
      rename World => wo
      go_wp2
      clear q0 q1 q2 q3 q4
      go_loopw [5, 6, 114] (fun u b i wr => ∃ (k : Nat) (used : ByteArray) (before : Int), k ≤ t.fields.length ∧ i = .int .i64 k ∧ u = .string used ∧ b = .int .i64 before ∧ NamesTo (t.fields.map (·.name)) k used ∧ RiseTo (t.fields.map (·.id)) 1 30 k before ∧ AllTo (fieldOkAt ts t.fields) k ∧ AllTo (idsApartAt (t.fields.map (·.id)) t.gone) k ∧ Ext W0 wr) (fun _ _ i _ => t.fields.length - (intOf i).toNat)
      case atStart => exact ⟨0, ⟨#[32]⟩, 0, by omega, rfl, rfl, rfl, NamesTo.start _, RiseTo.start _ _ _, AllTo.zero _, AllTo.zero _, hxo⟩
      case round =>
        obtain ⟨k, used, bef, hk2, rfl, rfl, rfl, hN, hR, hF, hI, hx⟩ := hrel
        obtain ⟨q0, q1, q2, q3, q4, _⟩ := row5 (hx.heap hA)
        have p0 : wr.cell? ⟨w.heap.size, 0, none⟩ = some (.slice s.a s.len s.cap) := cell_of_row _ _ 0 _ _ _ (hx.heap hK)
        have hus := hN.size
        by_cases hlt : k < t.fields.length
        · obtain ⟨b, o, cs, rfl, hr, hcs⟩ := unhide Hfs k t.fields[k] (by simp [hlt])
          have hns := unhide Hnm t.fields[k] (List.getElem_mem hlt)
          have hkl1 : k < (t.fields.map (·.name)).length := by simpa using hlt
          have hkl2 : k < (t.fields.map (·.id)).length := by simpa using hlt
          have en : (t.fields.map (·.name))[k] = t.fields[k].name := by simp
          have em : (t.fields.map (·.id))[k] = t.fields[k].id := by simp
          have Hok := hide (nameOk_of hkl1)
          have Hiff := hide (hR.iff hkl2)
          have Hnext := fun h1 h2 => hide (hN.next hkl1 h1 h2)
          have Hrn := fun h1 h2 => hide (hR.next hkl2 h1 h2)
          have Hchk := fun (hc : namedL t.fields[k].name.toList = true) => hide (hN.check hc)
          have Hfo : Hid (fieldOkAt ts t.fields k = goodFieldM ts t.fields[k]) := by unfold Hid fieldOkAt; simp [List.getD, hlt]
          have Hia : Hid (idsApartAt (t.fields.map (·.id)) t.gone k = !t.gone.contains t.fields[k].id) := by
            unfold Hid idsApartAt
            rw [show (t.fields.map (·.id)).getD k 0 = t.fields[k].id by simp [List.getD, hlt]]
          rw [en] at Hok Hnext
          rw [em] at Hiff Hrn
          clear en em
          obtain ⟨f, hf⟩ : ∃ f, t.fields[k] = f := ⟨_, rfl⟩
          rw [hf] at hcs hns Hok Hiff Hnext Hrn Hchk Hfo Hia
          subst hcs
          clear hf
          obtain ⟨g0, g1, g2, g3, g4⟩ := range5 ((hx0.trans hx).range hr)
          have HNo := hide (fun h => msg_no (ts := ts) hlt h)
          have HF := hide hF
          have HI := hide hI
          clear hF hI hr hN hR
          by_cases b1 : bef < f.id
          case neg =>
            have E : Hid (goodMessageM ts t = false) := unhide HNo (.inr (.inr (.inl (by
              cases hh : risesAt 1 30 (t.fields.map (·.id)) k
              · rfl
              · exact absurd ((unhide Hiff).1 hh).1 b1))))
            clear Hnext Hrn Hchk
            go_wp2
            go_ret
            exact ⟨by rw [unhide E]; rfl, (hx0.trans hx).alloc _⟩
          by_cases b2 : f.id ≤ 30
          case neg =>
            have E : Hid (goodMessageM ts t = false) := unhide HNo (.inr (.inr (.inl (by
              cases hh : risesAt 1 30 (t.fields.map (·.id)) k
              · rfl
              · exact absurd ((unhide Hiff).1 hh).2 b2))))
            clear Hnext Hrn Hchk
            go_wp2
            go_ret
            exact ⟨by rw [unhide E]; rfl, (hx0.trans hx).alloc _⟩
          have hR2 := Hrn b1 b2
          clear Hrn
          have hxB : Ext wr (wr.alloc (.cells #[.int .i64 f.id, .string f.name, .string f.type, .int .i64 f.kind, .int .i64 f.rule] 56)) := (Ext.refl wr).alloc _
          have hB0 := heap_alloc_new wr (.cells #[.int .i64 f.id, .string f.name, .string f.type, .int .i64 f.kind, .int .i64 f.rule] 56)
          have hns1 := hns.1
          have hns2 := hns.2
          have Hin := fun w hm => hide (isName_any f.name w (by omega) hm)
          obtain ⟨nm, hnm⟩ : ∃ nm, namedL f.name.toList = nm := ⟨_, rfl⟩
          rw [hnm] at Hin Hok Hnext
          go_wp2_with fail
          refine (unhide (Hin _ ((hm.ext (hx0.trans hx)).ext hxB))).mono ?_
          rintro e w1 ⟨rfl, hx1⟩
          have hx01 := (hx.trans hxB).trans hx1
          have hB1 := hx1.heap hB0
          cases nm
          case false =>
            have E : Hid (goodMessageM ts t = false) := unhide HNo (.inr (.inl (by rw [unhide Hok]; rfl)))
            clear Hnext Hchk Hin
            go_wp2
            go_ret
            exact ⟨by rw [unhide E]; rfl, hx0.trans hx01⟩
          have Hc := Hchk hnm
          obtain ⟨m, hm1⟩ := hm.ext (hx0.trans hx01)
          obtain ⟨d0, d1, d2, d3, d4, _⟩ := row5 hB1
          have h32 : (ByteArray.mk #[32]).size = 1 := rfl
          have hz12 := named_size hnm
          have hsa : (ByteArray.mk #[32] ++ f.name).size ≤ 13 := by rw [ByteArray.size_append]; omega
          clear hnm Hin Hchk
          obtain ⟨ct, hct⟩ : ∃ ct, Lib.containsS ((t.fields.map (·.name)).take k) f.name = ct := ⟨_, rfl⟩
          rw [hct] at Hc Hok Hnext
          have HnH : Hid (ct = false → NamesTo (t.fields.map (·.name)) (k + 1) (used ++ (f.name ++ ⟨#[32]⟩))) := fun h => unhide (Hnext rfl h)
          clear hct Hnext
          go_wp2_with fail
          refine (Tryz.strings_Contains _ _ m w1 (by omega) hm1).mono ?_
          rintro e w2 ⟨rfl, rfl⟩
          rw [sp_data, unhide Hc]
          cases ct
          case true =>
            have E : Hid (goodMessageM ts t = false) := unhide HNo (.inr (.inl (by rw [unhide Hok]; rfl)))
            go_wp2
            go_ret
            exact ⟨by rw [unhide E]; rfl, hx0.trans hx01⟩
          have HG0 : Hid (¬ (1 ≤ f.rule ∧ f.rule ≤ 3) → goodMessageM ts t = false) := fun h => unhide HNo (.inl (by
            rw [unhide Hfo]; unfold goodFieldM; rw [if_pos (by omega)]))
          by_cases r1 : 1 ≤ f.rule
          case neg =>
            have E := hide (unhide HG0 (by omega))
            go_wp2
            go_ret
            exact ⟨by rw [unhide E]; rfl, hx0.trans hx01⟩
          by_cases r2 : f.rule ≤ 3
          case neg =>
            have E := hide (unhide HG0 (by omega))
            go_wp2
            go_ret
            exact ⟨by rw [unhide E]; rfl, hx0.trans hx01⟩
          have hN2 := hide (unhide HnH rfl)
          have hus2 : (f.name ++ ByteArray.mk #[32]).size ≤ 13 := by rw [ByteArray.size_append]; omega
          clear HnH HG0 Hc Hok q0 q1 q2 q3 q4
          obtain ⟨q0, q1, q2, q3, q4, _⟩ := row5 (hx01.heap hA)
          go_wp2
          go_loopw [161] (fun i wr => ∃ j : Nat, j ≤ t.gone.length ∧ i = .int .i64 j ∧ NotTo t.gone f.id j ∧ Ext w2 wr) (fun i _ => t.gone.length - (intOf i).toNat)
          case atStart => exact ⟨0, by omega, rfl, fun i h => by omega, Ext.refl _⟩
          case round =>
            obtain ⟨j, hj, rfl, hNT, hxq⟩ := hrel
            have e0 := hxq.cell d0
            have e1 := hxq.cell d1
            have e2 := hxq.cell d2
            have e3 := hxq.cell d3
            have e4 := hxq.cell d4
            have hxW := (hx0.trans hx01).trans hxq
            by_cases hjl : j < t.gone.length
            · obtain ⟨b', o', cs', hga, hrg, rfl⟩ := unhide Hgs j t.gone[j] (by simp [hjl])
              subst hga
              have h0 := hxW.cell (hrg 0 _ rfl)
              simp only [Nat.mul_one, Nat.add_zero] at h0
              have Hgj : Hid (t.gone.getD j 0 = t.gone[j]) := by unfold Hid; simp [List.getD, hjl]
              have Hmem := hide (List.getElem_mem hjl)
              obtain ⟨n, hn⟩ : ∃ n, t.gone[j] = n := ⟨_, rfl⟩
              rw [hn] at h0 Hgj Hmem
              clear hn hrg
              by_cases hq : n = f.id
              · subst hq
                have E : Hid (goodMessageM ts t = false) := unhide HNo (.inr (.inr (.inr (by
                  rw [unhide Hia, List.contains_iff_mem.2 (unhide Hmem)]; rfl))))
                go_wp2
                go_ret
                exact ⟨by rw [unhide E]; rfl, hxW⟩
              · have hbq : (n == f.id) = false := by rw [beq_eq_false_iff_ne]; exact hq
                have hNT2 : Hid (NotTo t.gone f.id (j + 1)) := fun i hi => by
                  by_cases e : i = j
                  · subst e; rw [unhide Hgj]; exact hq
                  · exact hNT i (by omega)
                clear hq
                go_wp2
                go_roundw
                case rel => exact ⟨j + 1, by omega, by go_num, unhide hNT2, hxq⟩
                case measure => simp [intOf]; omega
            · have HI2 : Hid (AllTo (idsApartAt (t.fields.map (·.id)) t.gone) (k + 1)) := AllTo.succ (unhide HI) (by rw [unhide Hia, hNT.all (by omega)]; rfl)
              have p1 := (hx01.trans hxq).cell (show W0.cell? ⟨w.heap.size, 0, none⟩ = some (.slice s.a s.len s.cap) from cell_of_row _ _ 0 _ _ _ hK)
              clear hNT
              go_wp2_with fail
              refine (refTypeOf_any s ts f.type _ ((unhide Hs).ext hxW) hnb).mono ?_
              rintro e w5 ⟨tv2, rfl, htv2, hx5⟩
              have Hen2 := hide htv2.enum
              have j0 := hx5.cell e0
              have j1 := hx5.cell e1
              have j2 := hx5.cell e2
              have j3 := hx5.cell e3
              have j4 := hx5.cell e4
              have hzl := World.block_lt_of_cell? _ _ j3
              simp only at hzl
              clear htv2
              have hxE : Ext W0 w5 := (hx01.trans hxq).trans hx5
              have HBad : Hid (goodFieldM ts f = false → goodMessageM ts t = false) := fun h => unhide HNo (.inl (by rw [unhide Hfo]; exact h))
              clear e0 e1 e2 e3 e4 p1
              have hkk : f.kind = 1 ∨ f.kind = 2 ∨ f.kind = 3 ∨ f.kind = 4 ∨ f.kind = 5 ∨ ¬ (f.kind = 1 ∨ f.kind = 2 ∨ f.kind = 3) ∧ ¬ (f.kind = 4 ∨ f.kind = 5) := by omega
              rcases hkk with k1 | k1 | k1 | k1 | k1 | ⟨k1, k2⟩
              · have HGp := hide (field_plain (ts := ts) r1 r2 (by omega))
                cases hte : f.type.toList.isEmpty
                · have E : Hid (goodMessageM ts t = false) := unhide HBad (by rw [unhide HGp]; exact hte)
                  go_wp2
                  go_ret
                  exact ⟨by rw [unhide E]; rfl, (hx0.trans hxE).alloc _⟩
                · have HG1 : Hid (goodFieldM ts f = true) := by unfold Hid; rw [unhide HGp]; exact hte
                  go_wp2
                  go_roundw
                  case rel => exact ⟨k + 1, _, f.id, by omega, by go_num, rfl, rfl, unhide hN2, unhide hR2, AllTo.succ (unhide HF) (by rw [unhide Hfo]; exact unhide HG1), unhide HI2, hxE.alloc _⟩
                  case measure => simp [intOf]; omega
              · have HGp := hide (field_plain (ts := ts) r1 r2 (by omega))
                cases hte : f.type.toList.isEmpty
                · have E : Hid (goodMessageM ts t = false) := unhide HBad (by rw [unhide HGp]; exact hte)
                  go_wp2
                  go_ret
                  exact ⟨by rw [unhide E]; rfl, (hx0.trans hxE).alloc _⟩
                · have HG1 : Hid (goodFieldM ts f = true) := by unfold Hid; rw [unhide HGp]; exact hte
                  go_wp2
                  go_roundw
                  case rel => exact ⟨k + 1, _, f.id, by omega, by go_num, rfl, rfl, unhide hN2, unhide hR2, AllTo.succ (unhide HF) (by rw [unhide Hfo]; exact unhide HG1), unhide HI2, hxE.alloc _⟩
                  case measure => simp [intOf]; omega
              · have HGp := hide (field_plain (ts := ts) r1 r2 (by omega))
                cases hte : f.type.toList.isEmpty
                · have E : Hid (goodMessageM ts t = false) := unhide HBad (by rw [unhide HGp]; exact hte)
                  go_wp2
                  go_ret
                  exact ⟨by rw [unhide E]; rfl, (hx0.trans hxE).alloc _⟩
                · have HG1 : Hid (goodFieldM ts f = true) := by unfold Hid; rw [unhide HGp]; exact hte
                  go_wp2
                  go_roundw
                  case rel => exact ⟨k + 1, _, f.id, by omega, by go_num, rfl, rfl, unhide hN2, unhide hR2, AllTo.succ (unhide HF) (by rw [unhide Hfo]; exact unhide HG1), unhide HI2, hxE.alloc _⟩
                  case measure => simp [intOf]; omega
              · have HGp := hide (field_typed (ts := ts) r1 r2 (by omega))
                cases hfo : findM ts f.type with
                | none =>
                  have E : Hid (goodMessageM ts t = false) := unhide HBad (by rw [unhide HGp, hfo])
                  go_wp2
                  go_ret
                  exact ⟨by rw [unhide E]; rfl, (hx0.trans hxE).alloc _⟩
                | some u =>
                  have hen2 := unhide Hen2
                  rw [hfo] at hen2
                  simp only [Option.getD_some] at hen2
                  cases hue : u.enum
                  · rw [hue] at hen2
                    have E : Hid (goodMessageM ts t = false) := unhide HBad (by rw [unhide HGp, hfo, k1]; simp [hue])
                    go_wp2
                    go_ret
                    exact ⟨by rw [unhide E]; rfl, (hx0.trans hxE).alloc _⟩
                  · rw [hue] at hen2
                    have HG1 : Hid (goodFieldM ts f = true) := by unfold Hid; rw [unhide HGp, hfo, k1]; simp [hue]
                    go_wp2
                    go_roundw
                    case rel => exact ⟨k + 1, _, f.id, by omega, by go_num, rfl, rfl, unhide hN2, unhide hR2, AllTo.succ (unhide HF) (by rw [unhide Hfo]; exact unhide HG1), unhide HI2, hxE.alloc _⟩
                    case measure => simp [intOf]; omega
              · have HGp := hide (field_typed (ts := ts) r1 r2 (by omega))
                cases hfo : findM ts f.type with
                | none =>
                  have E : Hid (goodMessageM ts t = false) := unhide HBad (by rw [unhide HGp, hfo])
                  go_wp2
                  go_ret
                  exact ⟨by rw [unhide E]; rfl, (hx0.trans hxE).alloc _⟩
                | some u =>
                  have hen2 := unhide Hen2
                  rw [hfo] at hen2
                  simp only [Option.getD_some] at hen2
                  cases hue : u.enum
                  · rw [hue] at hen2
                    have HG1 : Hid (goodFieldM ts f = true) := by unfold Hid; rw [unhide HGp, hfo, k1]; simp [hue]
                    go_wp2
                    go_roundw
                    case rel => exact ⟨k + 1, _, f.id, by omega, by go_num, rfl, rfl, unhide hN2, unhide hR2, AllTo.succ (unhide HF) (by rw [unhide Hfo]; exact unhide HG1), unhide HI2, hxE.alloc _⟩
                    case measure => simp [intOf]; omega
                  · rw [hue] at hen2
                    have E : Hid (goodMessageM ts t = false) := unhide HBad (by rw [unhide HGp, hfo, k1]; simp [hue])
                    go_wp2
                    go_ret
                    exact ⟨by rw [unhide E]; rfl, (hx0.trans hxE).alloc _⟩
              · have E : Hid (goodMessageM ts t = false) := unhide HBad (field_other r1 r2 k1 k2)
                have n1 : (f.kind == 1) = false := by rw [beq_eq_false_iff_ne]; omega
                have n2 : (f.kind == 2) = false := by rw [beq_eq_false_iff_ne]; omega
                have n3 : (f.kind == 3) = false := by rw [beq_eq_false_iff_ne]; omega
                have n4 : (f.kind == 4) = false := by rw [beq_eq_false_iff_ne]; omega
                have n5 : (f.kind == 5) = false := by rw [beq_eq_false_iff_ne]; omega
                go_wp2
                go_ret
                exact ⟨by rw [unhide E]; rfl, (hx0.trans hxE).alloc _⟩
        · have ek : k = t.fields.length := by omega
          subst ek
          have E := hide (msg_end (unhide H0) (unhide HG) hF hN hR hI)
          go_wp2
          go_ret
          exact ⟨by rw [unhide E]; rfl, hx0.trans hx⟩
end Go.Proofs.YtmdpdgldmedebaaGreatDoor

