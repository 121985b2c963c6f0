import Derived.Test.YtmghhakebhgckaaGreatDoorC7g
namespace Go.Proofs.YtmghhakebhgckaaGreatDoor
set_option linter.unusedSimpArgs false
set_option linter.unusedVariables false
open Go.RowKit

theorem enum_no {t : TypeM} {k : Nat} (hk : k < t.items.length) (h : nameOkAt (t.items.map (·.name)) k = false ∨ risesAt (-1099511627776) 1099511627776 (t.items.map (·.n)) k = false) : goodEnumM t = false := by
  unfold goodEnumM
  split
  · rfl
  · split
    · rfl
    · rcases h with h | h
      · unfold goodNamesL
        rw [not_all_range (by simpa using hk) h]; rfl
      · unfold risingL
        rw [not_all_range (n := (t.items.map (·.n)).length) (by simpa using hk) h]
        simp
theorem enum_end {t : TypeM} {used : ByteArray} {before : Int} (h1 : NamesTo (t.items.map (·.name)) t.items.length used) (h2 : RiseTo (t.items.map (·.n)) (-1099511627776) 1099511627776 t.items.length before) :
    goodEnumM t = (decide (0 < t.items.length) && decide (t.items.length < 7) && decide (t.fields.length = 0) && decide (t.gone.length = 0)) := by
  have e1 : goodNamesL (t.items.map (·.name)) = true := h1.ok.all (by simp)
  have e2 : risingL (t.items.map (·.n)) (-1099511627776) 1099511627776 = true := h2.1.all (by simp)
  unfold goodEnumM
  rw [e1, e2]
  by_cases h3 : 0 < t.fields.length ∨ 0 < t.gone.length
  · rw [if_pos h3]
    symm
    rcases h3 with h3 | h3
    · rw [show decide (t.fields.length = 0) = false by rw [decide_eq_false_iff_not]; omega]; simp
    · rw [show decide (t.gone.length = 0) = false by rw [decide_eq_false_iff_not]; omega]; simp
  · rw [if_neg h3, show decide (t.fields.length = 0) = true by rw [decide_eq_true_eq]; omega, show decide (t.gone.length = 0) = true by rw [decide_eq_true_eq]; omega]
    by_cases h4 : t.items.length < 1 ∨ 6 < t.items.length
    · rw [if_pos h4]
      symm
      rcases h4 with h4 | h4
      · rw [show decide (0 < t.items.length) = false by rw [decide_eq_false_iff_not]; omega]; rfl
      · rw [show decide (t.items.length < 7) = false by rw [decide_eq_false_iff_not]; omega]; simp
    · rw [if_neg h4, show decide (0 < t.items.length) = true by rw [decide_eq_true_eq]; omega, show decide (t.items.length < 7) = true by rw [decide_eq_true_eq]; omega]
      rfl

set_option maxHeartbeats 6400000 in
set_option maxRecDepth 4000 in
theorem goodTypeR_enum (s : SV) (tv : TV) (t : TypeM) (w : World) (ht : TypeAt w tv t) (he : t.enum = true) (hn : t.Small) (hm : MaxAt w) :
    Calls Tryz.prog 36 #[.agg #[.slice s.a s.len s.cap], .agg #[.string tv.name, .bool tv.enum, .slice tv.fields.a tv.fields.len tv.fields.cap, .slice tv.gone.a tv.gone.len tv.gone.cap, .slice tv.items.a tv.items.len tv.items.cap]] w fun e w' => e = .returned (.bool (goodEnumM t)) ∧ Ext w w' := by
  obtain ⟨name, enum, ⟨fa, fn, fc⟩, ⟨ga, gn, gc⟩, ⟨ia, il, ic⟩⟩ := tv
  have hen := ht.enum
  have hf := ht.fields.1
  have hg := ht.gone.1
  obtain ⟨hi, hts⟩ := ht.items
  simp only at hen hf hg hi hts
  subst hf hg hi
  rw [he] at hen
  subst hen
  have hn1 := hn.fields
  have hn2 := hn.gone
  have hn3 := hn.items
  have Hnm := hide hn.iname
  clear ht he hn
  show Calls Tryz.prog 36 #[.agg #[.slice s.a s.len s.cap], .agg #[.string name, .bool true, .slice fa t.fields.length fc, .slice ga t.gone.length gc, .slice ia t.items.length ic]] w _
  have hx0 : Ext w ((w.alloc (.cells #[.slice s.a s.len s.cap] 24)).alloc (.cells #[.string name, .bool true, .slice fa t.fields.length fc, .slice ga t.gone.length gc, .slice ia t.items.length ic] 30)) := ((Ext.refl w).alloc _).alloc _
  have hA := heap_alloc2_new w (.cells #[.slice s.a s.len s.cap] 24) (.cells #[.string name, .bool true, .slice fa t.fields.length fc, .slice ga t.gone.length gc, .slice ia t.items.length ic] 30)
  have Hts := hide hts
  clear hts
  go_enter Tryz.func36, Tryz.ntmps36
  go_wp2
  go_loopw [5, 6, 22] (fun u b i wr => ∃ (k : Nat) (used : ByteArray) (before : Int), k ≤ t.items.length ∧ i = .int .i64 k ∧ u = .string used ∧ b = .int .i64 before ∧ NamesTo (t.items.map (·.name)) k used ∧ RiseTo (t.items.map (·.n)) (-1099511627776) 1099511627776 k before ∧ Ext w wr ∧ wr.heap[w.heap.size + 1]? = some (.cells #[.string name, .bool true, .slice fa t.fields.length fc, .slice ga t.gone.length gc, .slice ia t.items.length ic] 30 (0, 0))) (fun _ _ i _ => t.items.length - (intOf i).toNat)
  case atStart => exact ⟨0, ⟨#[32]⟩, -1099511627777, by omega, rfl, rfl, rfl, NamesTo.start _, RiseTo.start _ _ _, hx0, hA⟩
  case round =>
    obtain ⟨k, used, before, hk, rfl, rfl, rfl, hN, hR, hx, hB⟩ := hrel
    obtain ⟨q0, q1, q2, q3, q4, _⟩ := row5 hB
    have hus := hN.size
    by_cases hlt : k < t.items.length
    · obtain ⟨b, o, cs, rfl, hr, hcs⟩ := unhide Hts k t.items[k] (by simp [hlt])
      have hns := unhide Hnm t.items[k] (List.getElem_mem hlt)
      have hklen : k < (t.items.map (·.name)).length := by simpa using hlt
      have hkl2 : k < (t.items.map (·.n)).length := by simpa using hlt
      have en : (t.items.map (·.name))[k] = t.items[k].name := by simp
      have em : (t.items.map (·.n))[k] = t.items[k].n := by simp
      have Hok := hide (nameOk_of hklen)
      have Hiff := hide (hR.iff hkl2)
      have Hnext := fun h1 h2 => hide (hN.next hklen h1 h2)
      have Hrn := fun h1 h2 => hide (hR.next hkl2 h1 h2)
      have Hchk := fun (hc : namedL t.items[k].name.toList = true) => hide (hN.check hc)
      rw [en] at Hok Hnext
      rw [em] at Hiff Hrn
      clear en em
      obtain ⟨f, hf⟩ : ∃ f, t.items[k] = f := ⟨_, rfl⟩
      rw [hf] at hcs hns Hok Hiff Hnext Hrn Hchk
      subst hcs
      clear hf
      obtain ⟨h0, h1⟩ := range2 (hx.range hr)
      have hxB : Ext wr (wr.alloc (.cells [.string f.name, .int .i64 f.n].toArray 55)) := (Ext.refl wr).alloc _
      have hB0 := heap_alloc_new wr (.cells #[.string f.name, .int .i64 f.n] 55)
      have Hin := fun w hm => hide (isName_any f.name w (by omega) hm)
      obtain ⟨nm, hnm⟩ : ∃ nm, namedL f.name.toList = nm := ⟨_, rfl⟩
      rw [hnm] at Hin Hok Hnext
      go_wp2_with fail
      refine (unhide (Hin _ (hm.ext (hx.trans hxB)))).mono ?_
      rintro e w1 ⟨rfl, hx1⟩
      have hx01 := (hx.trans hxB).trans hx1
      have hB1 := hx1.heap hB0
      cases nm
      · have e : Hid (goodEnumM t = false) := enum_no hlt (.inl (by rw [unhide Hok]; rfl))
        go_wp2
        go_ret
        exact ⟨by rw [unhide e]; rfl, hx01⟩
      · have Hc := Hchk hnm
        obtain ⟨m, hm1⟩ := hm.ext hx01
        obtain ⟨d0, d1, _⟩ := (show w1.cell? ⟨wr.heap.size, 0, none⟩ = some (.string f.name) ∧ w1.cell? ⟨wr.heap.size, 1, none⟩ = some (.int .i64 f.n) ∧ True from ⟨cell_of_row _ _ 0 _ _ _ hB1, cell_of_row _ _ 1 _ _ _ hB1, trivial⟩)
        have h32 : (ByteArray.mk #[32]).size = 1 := rfl
        have hz12 := named_size hnm
        have hsa : (ByteArray.mk #[32] ++ f.name).size ≤ 13 := by rw [ByteArray.size_append]; omega
        clear hnm Hin Hchk
        obtain ⟨ct, hct⟩ : ∃ ct, Lib.containsS ((t.items.map (·.name)).take k) f.name = ct := ⟨_, rfl⟩
        rw [hct] at Hc Hok Hnext
        have HnH : Hid (ct = false → NamesTo (t.items.map (·.name)) (k + 1) (used ++ (f.name ++ ⟨#[32]⟩))) := fun h => unhide (Hnext rfl h)
        have HrH : Hid (before < f.n → f.n ≤ 1099511627776 → RiseTo (t.items.map (·.n)) (-1099511627776) 1099511627776 (k + 1) f.n) := fun h1 h2 => unhide (Hrn h1 h2)
        clear hct Hnext Hrn
        go_wp2_with fail
        refine (Tryz.strings_Contains _ _ m w1 (by omega) hm1).mono ?_
        rintro e w2 ⟨rfl, rfl⟩
        rw [sp_data, unhide Hc]
        cases ct
        · by_cases hb1 : before < f.n
          · by_cases hb2 : f.n ≤ 1099511627776
            · have hus2 : (f.name ++ ByteArray.mk #[32]).size ≤ 13 := by rw [ByteArray.size_append]; omega
              have hN2 := hide (unhide HnH rfl)
              have hR2 := hide (unhide HrH hb1 hb2)
              have hB2 := hx1.heap (hxB.heap hB)
              go_wp2
              go_roundw
              case rel => exact ⟨k + 1, _, f.n, by omega, by go_num, rfl, rfl, unhide hN2, unhide hR2, hx01, hB2⟩
              case measure => simp [intOf]; omega
            · have e : Hid (goodEnumM t = false) := enum_no hlt (.inr (by
                cases hh : risesAt (-1099511627776) 1099511627776 (t.items.map (·.n)) k
                · rfl
                · exact absurd ((unhide Hiff).1 hh).2 hb2))
              go_wp2
              go_ret
              exact ⟨by rw [unhide e]; rfl, hx01⟩
          · have e : Hid (goodEnumM t = false) := enum_no hlt (.inr (by
              cases hh : risesAt (-1099511627776) 1099511627776 (t.items.map (·.n)) k
              · rfl
              · exact absurd ((unhide Hiff).1 hh).1 hb1))
            go_wp2
            go_ret
            exact ⟨by rw [unhide e]; rfl, hx01⟩
        · have e : Hid (goodEnumM t = false) := enum_no hlt (.inl (by rw [unhide Hok]; rfl))
          go_wp2
          go_ret
          exact ⟨by rw [unhide e]; rfl, hx01⟩
    · have ek : k = t.items.length := by omega
      subst ek
      have E := hide (enum_end hN hR)
      by_cases c1 : 0 < t.items.length
      · by_cases c2 : t.items.length < 7
        · by_cases c3 : t.fields.length = 0
          · have E2 : Hid (goodEnumM t = decide (t.gone.length = 0)) := by unfold Hid; rw [unhide E]; simp [c1, c2, c3]
            clear E
            by_cases c4 : t.gone.length = 0
            · have E3 : Hid (goodEnumM t = true) := by unfold Hid; rw [unhide E2]; simp [c4]
              clear E2
              go_wp2
              go_ret
              exact ⟨by rw [unhide E3]; rfl, hx⟩
            · have E3 : Hid (goodEnumM t = false) := by unfold Hid; rw [unhide E2]; simp [c4]
              have c5 : ((t.gone.length : Int) == 0) = false := by rw [beq_eq_false_iff_ne]; omega
              clear E2
              go_wp2
              go_ret
              exact ⟨by rw [unhide E3]; rfl, hx⟩
          · have E3 : Hid (goodEnumM t = false) := by unfold Hid; rw [unhide E]; simp [c3]
            have c5 : ((t.fields.length : Int) == 0) = false := by rw [beq_eq_false_iff_ne]; omega
            clear E
            go_wp2
            go_ret
            exact ⟨by rw [unhide E3]; rfl, hx⟩
        · have E3 : Hid (goodEnumM t = false) := by unfold Hid; rw [unhide E]; simp [c2]
          clear E
          go_wp2
          go_ret
          exact ⟨by rw [unhide E3]; rfl, hx⟩
      · have E3 : Hid (goodEnumM t = false) := by unfold Hid; rw [unhide E]; simp [c1]
        clear E
        go_wp2
        go_ret
        exact ⟨by rw [unhide E3]; rfl, hx⟩
end Go.Proofs.YtmghhakebhgckaaGreatDoor
