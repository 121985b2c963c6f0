import Derived.Test.YtnppgeiompimaaaGreatDoorM29
namespace Go.Proofs.YtnppgeiompimaaaGreatDoor
set_option linter.unusedSimpArgs false
set_option linter.unusedVariables false
set_option linter.unusedSimpArgs false
set_option linter.unusedVariables false
open Go.RowKit

theorem range_new1 (w : World) (u : Value) (t : TypeId) {g : Nat} (hg : g = w.heap.size) : (w.alloc (.cells #[u] t)).rangeAt g 0 [u] := by
  subst hg
  exact World.rangeAt_of_block (heap_alloc_new w _) 0 1
theorem owns_nilC (w : World) (base : Nat) (e : TypeId) (k : Nat) : w.ownsRow base e k (.slice none 0 0) 0 [] := ⟨by simp, .inl ⟨rfl, rfl⟩⟩
theorem slice_of_ownsC {α : Type} {k : Nat} {w : World} {base : Nat} {e : TypeId} {n : Nat} {l : List α} (enc : α → List Value) (hk : ∀ x, (enc x).length = k) {s : SV} (h : w.ownsRow base e k (.slice s.a s.len s.cap) n (l.flatMap enc)) (hn : n = l.length) : SliceAt k (fun _ cs x => cs = enc x) w s l := by
  obtain ⟨s', e, h'⟩ := sliceAt_of_owns enc hk h hn
  obtain ⟨a, b, c⟩ := s
  obtain ⟨a', b', c'⟩ := s'
  simp only [Value.slice.injEq] at e
  obtain ⟨rfl, rfl, rfl⟩ := e
  exact h'
theorem hold1_any (n : Int) (w : World) : Calls Tryz.prog 160 #[.int .i64 n] w fun e w' => e = .returned (.bool (decide (n = 0) || decide (n = 1))) ∧ w' = w := by
  go_enter Tryz.func160, Tryz.ntmps160
  go_wp2
  all_goals
    go_ret
    refine ⟨ret_bool ?_, rfl⟩
    by_cases h0 : n = 0 <;> by_cases h1 : n = 1 <;> simp_all
theorem hold3_any (n : Int) (w : World) : Calls Tryz.prog 162 #[.int .i64 n] w fun e w' => e = .returned (.bool true) ∧ w' = w := by
  go_enter Tryz.func162, Tryz.ntmps162
  go_wp2
  go_ret
  exact ⟨rfl, rfl⟩
theorem hold2_any (n : Int) (T : Nat) (tv : TV) (t : TypeM) (w : World) (hT : w.heap[T]? = some (.cells #[.string tv.name, .bool tv.enum, .slice tv.fields.a tv.fields.len tv.fields.cap, .slice tv.gone.a tv.gone.len tv.gone.cap, .slice tv.items.a tv.items.len tv.items.cap] 50 (0, 0))) (ht : TypeAt w tv t) (hn : t.items.length ≤ 9223372036854775807) :
    Calls Tryz.prog 161 #[.int .i64 n, .pointer (some ⟨T, 0, none⟩)] w fun e w' => e = .returned (.bool (t.items.any fun i => i.n == n)) ∧ Ext w w' := by
  obtain ⟨a0, a1, a2, a3, a4, _⟩ := rowN5 hT
  have hM := means_any tv t n w ht hn
  have hz := lt_of_heap hT
  generalize (t.items.any fun i => i.n == n) = r at *
  have HM := hide hM
  clear hM ht
  go_enter Tryz.func161, Tryz.ntmps161
  go_wp2_with fail
  refine (unhide HM).mono ?_
  rintro e w1 ⟨rfl, x1⟩
  go_wp2
  go_ret
  exact ⟨rfl, x1⟩
set_option maxHeartbeats 1600000 in
theorem holder1_any (s : SV) (f : FieldM) (w : World) (hk : f.kind = 1) :
    Calls Tryz.prog 128 #[.agg #[.slice s.a s.len s.cap], .agg #[.int .i64 f.id, .string f.name, .string f.type, .int .i64 f.kind, .int .i64 f.rule]] w fun e w' => e = .returned (.func (.func 160) #[] #[]) ∧ Ext w w' := by
  obtain ⟨i, nm, ty, kd, ru⟩ := f
  simp only at hk
  subst hk
  go_enter Tryz.func128, Tryz.ntmps128
  go_wp2
  go_ret
  exact ⟨rfl, ((Ext.refl w).alloc _).alloc _⟩
set_option maxHeartbeats 1600000 in
theorem holder3_any (s : SV) (f : FieldM) (w : World) (hk : f.kind ≠ 1) (hk4 : f.kind ≠ 4) :
    Calls Tryz.prog 128 #[.agg #[.slice s.a s.len s.cap], .agg #[.int .i64 f.id, .string f.name, .string f.type, .int .i64 f.kind, .int .i64 f.rule]] w fun e w' => e = .returned (.func (.func 162) #[] #[]) ∧ Ext w w' := by
  obtain ⟨i, nm, ty, kd, ru⟩ := f
  simp only at hk hk4
  go_enter Tryz.func128, Tryz.ntmps128
  go_wp2
  go_ret
  exact ⟨rfl, ((Ext.refl w).alloc _).alloc _⟩
set_option maxHeartbeats 1600000 in
theorem holder2_any (s : SV) (ts : BookM) (f : FieldM) (w : World) (hs : BookAt w s ts) (hn : ts.Small) (hk : f.kind = 4) :
    Calls Tryz.prog 128 #[.agg #[.slice s.a s.len s.cap], .agg #[.int .i64 f.id, .string f.name, .string f.type, .int .i64 f.kind, .int .i64 f.rule]] w fun e w' => ∃ (T : Nat) (tv : TV), e = .returned (.func (.func 161) #[] #[.pointer (some ⟨T, 0, none⟩)]) ∧ w'.heap[T]? = some (.cells #[.string tv.name, .bool tv.enum, .slice tv.fields.a tv.fields.len tv.fields.cap, .slice tv.gone.a tv.gone.len tv.gone.cap, .slice tv.items.a tv.items.len tv.items.cap] 50 (0, 0)) ∧ TypeAt w' tv (typeM ts f) ∧ Ext w w' := by
  have hT := fun w' (hx : Ext w w') => typeOfC_any s ts f w' (hs.ext hx) hn
  generalize typeM ts f = t at *
  obtain ⟨i, nm, ty, kd, ru⟩ := f
  simp only at hk hT
  subst hk
  have HT := hide hT
  have hx0 : Ext w ((w.alloc (.cells #[.slice s.a s.len s.cap] 24)).alloc (.cells #[.int .i64 i, .string nm, .string ty, .int .i64 4, .int .i64 ru] 70)) := ((Ext.refl w).alloc _).alloc _
  clear hT hs hn
  go_enter Tryz.func128, Tryz.ntmps128
  go_wp2_with fail
  refine (unhide HT _ hx0).mono ?_
  rintro e w1 ⟨tv, rfl, ht, x1, _⟩
  have Ht := hide ht
  clear ht
  go_wp2
  go_ret
  exact ⟨w1.heap.size, tv, rfl, heap_alloc_new w1 _, (unhide Ht).ext ((Ext.refl w1).alloc _), (hx0.trans x1).alloc _⟩
theorem two_cells (a b : Value) (z : Array Value) : (#[a, b] ++ z)[0]? = some a ∧ (#[a, b] ++ z)[1]? = some b := by
  constructor <;> simp [Array.getElem?_append]
def cntI (k : Nat) : List Int := (List.range k).map fun i : Nat => (i : Int)
theorem cntI_succ (k : Nat) : cntI (k + 1) = cntI k ++ [(k : Int)] := by unfold cntI; rw [List.range_succ, List.map_append]; rfl
theorem cntI_len (k : Nat) : (cntI k).length = k := by unfold cntI; simp
def itN (l : List ItemM) (j : Nat) : List Int := (l.take j).map (·.n)
theorem itN_succ {l : List ItemM} {j : Nat} (h : j < l.length) : itN l (j + 1) = itN l j ++ [l[j].n] := by unfold itN; rw [List.take_succ_eq_append_getElem h, List.map_append]; rfl
theorem itN_all (l : List ItemM) : itN l l.length = l.map (·.n) := by unfold itN; rw [List.take_length]
theorem itN_len (l : List ItemM) (j : Nat) : (itN l j).length ≤ l.length := by unfold itN; simp; omega
set_option maxHeartbeats 6400000 in
set_option maxRecDepth 10000 in
theorem samples_any (s : SV) (ts : BookM) (f : FieldM) (w : World) (hs : BookAt w s ts) (hn : ts.Small) (hi : (typeM ts f).items.length ≤ 1000) :
    Calls Tryz.prog 129 #[.agg #[.slice s.a s.len s.cap], .agg #[.int .i64 f.id, .string f.name, .string f.type, .int .i64 f.kind, .int .i64 f.rule]] w fun e w' => ∃ sv : SV, e = .returned (.slice sv.a sv.len sv.cap) ∧ IntsAt w' sv (samplesL ts f) ∧ Ext w w' := by
  have hT := fun w' (hx : Ext w w') => typeOfC_any s ts f w' (hs.ext hx) hn
  have E1 : Hid (f.kind = 1 → samplesL ts f = [0, 1]) := fun h => by unfold samplesL; rw [if_pos h]
  have E2 : Hid (f.kind = 4 → samplesL ts f = (typeM ts f).items.map (·.n)) := fun h => by unfold samplesL; rw [if_neg (by omega), if_pos h]
  have E3 : Hid (f.kind ≠ 1 → f.kind ≠ 4 → samplesL ts f = cntI 7) := fun h h4 => by unfold samplesL; rw [if_neg h, if_neg h4]; rfl
  generalize typeM ts f = t at *
  generalize samplesL ts f = L at *
  have HT := hide hT
  clear hT hs hn
  obtain ⟨i, nm, ty, kd, ru⟩ := f
  simp only at E1 E2 E3 HT
  have hx0 : Ext w ((w.alloc (.cells #[.slice s.a s.len s.cap] 24)).alloc (.cells #[.int .i64 i, .string nm, .string ty, .int .i64 kd, .int .i64 ru] 70)) := ((Ext.refl w).alloc _).alloc _
  by_cases k1 : kd = 1
  · subst k1
    have hL := unhide E1 rfl
    subst hL
    clear E1 E2 E3 HT
    go_enter Tryz.func129, Tryz.ntmps129
    go_wp2
    generalize (Question.appendCap 2 0 3).cut (w.tape w.drawn (Question.appendCap 2 0 3)) = cp
    have hx3 := hx0.alloc (.cells #[.int .i64 0, .int .i64 1] 3)
    have hb := heap_alloc_new (((w.alloc (.cells #[.slice s.a s.len s.cap] 24)).alloc (.cells #[.int .i64 i, .string nm, .string ty, .int .i64 1, .int .i64 ru] 70)).alloc (.cells #[.int .i64 0, .int .i64 1] 3)) (.cells (#[.int .i64 0, .int .i64 1] ++ Builtin.zeroCells #[.int .i64 0] (cp - 2)) 3)
    have hx4 := (hx3.alloc (.cells (#[.int .i64 0, .int .i64 1] ++ Builtin.zeroCells #[.int .i64 0] (cp - 2)) 3)).drew
    refine bodyPost_ret (v := .slice (some ⟨w.heap.size + 1 + 1 + 1, 0, none⟩) 2 cp) (by simp [results, Tryz.results129, go_sem]) rfl ⟨⟨some ⟨w.heap.size + 1 + 1 + 1, 0, none⟩, 2, cp⟩, rfl, ?_, hx4⟩
    refine ⟨rfl, fun j x hx => ?_⟩
    have hb' := (((Ext.refl _).drew).heap hb)
    have c0 := (cell_of_row _ _ 0 _ _ _ hb').trans (two_cells _ _ _).1
    have c1 := (cell_of_row _ _ 1 _ _ _ hb').trans (two_cells _ _ _).2
    have hj : j = 0 ∨ j = 1 := by
      have := (List.getElem?_eq_some_iff.1 hx).1
      simp at this; omega
    rcases hj with rfl | rfl
    · cases hx
      refine ⟨_, 0, _, rfl, fun q v hv => ?_, rfl⟩
      have : q = 0 := by have := (List.getElem?_eq_some_iff.1 hv).1; simp at this; omega
      subst this; cases hv; simpa using c0
    · cases hx
      refine ⟨_, 0, _, rfl, fun q v hv => ?_, rfl⟩
      have : q = 0 := by have := (List.getElem?_eq_some_iff.1 hv).1; simp at this; omega
      subst this; cases hv; simpa using c1
  · by_cases k4 : kd = 4
    · subst k4
      have hL := unhide E2 rfl
      subst hL
      clear E1 E2 E3
      go_enter Tryz.func129, Tryz.ntmps129
      go_wp2_with fail
      refine (unhide HT _ hx0).mono ?_
      rintro e w1 ⟨tv, rfl, ht, x1, _⟩
      have HI := hide ht.items
      have hl := ht.items.1
      obtain ⟨tn, te, tf, tg, ⟨ia, il, ic⟩⟩ := tv
      simp only at hl
      subst hl
      have f1 := hx0.trans x1
      have hb1 := f1.size
      clear ht HT
      go_wp2
      simp [Oper.upon, execOp, go_sem, Instr.field, part, asAgg]
      go_wp2
      go_loopw [5, 31] (fun l i wr => ∃ (j : Nat) (sv : SV), j ≤ t.items.length ∧ i = .int .i64 j ∧ l = .slice sv.a sv.len sv.cap ∧ wr.ownsRow w1.heap.size 3 1 (.slice sv.a sv.len sv.cap) (itN t.items j).length ((itN t.items j).flatMap encI) ∧ Ext w1 wr) (fun _ i _ => t.items.length - (intOf i).toNat)
      case atStart => exact ⟨0, ⟨none, 0, 0⟩, by omega, rfl, rfl, owns_nilC _ _ _ _, Ext.refl w1⟩
      case round =>
        obtain ⟨j, sv, hj, rfl, rfl, ho, hE⟩ := hrel
        by_cases hlt : j < t.items.length
        · obtain ⟨ib, io, cs, eia, hri, rfl⟩ := (unhide HI).2 j t.items[j] (by simp [hlt])
          simp only at eia
          subst eia
          obtain ⟨i0, i1⟩ := range2 (hE.range hri)
          have hnx : Hid (itN t.items (j + 1) = itN t.items j ++ [t.items[j].n]) := itN_succ hlt
          have hpl := itN_len t.items j
          generalize t.items[j] = it at *
          have hx1 : Ext wr (wr.alloc (.cells #[.string it.name, .int .i64 it.n] 107)) := (Ext.refl wr).alloc _
          have ho1 := owns_ext ho hx1
          have hsz := hE.size
          clear hri
          go_wp2_with (at_builtin; refine wpList_app1 _ _ 34 3 (.int .i64 0) 1 8 Tryz.underlying34 info3 rfl (by decide) (by decide) rfl rfl w1.heap.size _ (itN t.items j).length _ rfl (ho1.alloc _) (wr.heap.size + 1) 1 [.int .i64 it.n] rfl rfl ?c1 ?c2 ?c3 ?c4 ?_)
          case c1 => exact range_new1 _ _ _ (by simp)
          case c2 => first | exact one_int it.n | rfl
          case c3 => omega
          case c4 => first | omega | (simp; omega)
          intro v8 W8 ho8 hg8
          have ho8' : W8.ownsRow w1.heap.size 3 1 v8 (itN t.items j ++ [it.n]).length ((itN t.items j ++ [it.n]).flatMap encI) := by
            rw [List.length_append, List.length_singleton, List.flatMap_append]
            simpa [encI] using ho8
          obtain ⟨sv', hsv', _⟩ := sliceAt_of_owns encI (fun _ => rfl) ho8' rfl
          rw [hsv'] at ho8' ⊢
          have hE8 : Ext w1 W8 := ((hE.trans hx1).alloc _).owned hg8 (ho1.alloc _) (Nat.le_refl _)
          clear hsv' ho8 hg8 ho1 hx1
          go_wp2
          exact ⟨⟨j + 1, sv', by omega, by go_num, rfl, by rw [unhide hnx]; exact ho8', hE8⟩, by simp [intOf]; omega⟩
        · have hje : j = t.items.length := by omega
          subst hje
          have hat := slice_of_ownsC encI (fun _ => rfl) ho rfl
          rw [itN_all] at hat
          have Hat := hide hat
          clear hat ho
          go_wp2
          go_ret
          exact ⟨sv, rfl, unhide Hat, f1.trans hE⟩
    · have hL := unhide E3 k1 k4
      subst hL
      clear E1 E2 E3 HT
      go_enter Tryz.func129, Tryz.ntmps129
      obtain ⟨W, hW⟩ : ∃ W, W = (w.alloc (.cells #[.slice s.a s.len s.cap] 24)).alloc (.cells #[.int .i64 i, .string nm, .string ty, .int .i64 kd, .int .i64 ru] 70) := ⟨_, rfl⟩
      rw [← hW] at hx0
      have HW := hide hW
      clear hW
      go_wp2
      rw [← unhide HW]
      go_loopw [5, 11] (fun l i wr => ∃ (j : Nat) (sv : SV), j ≤ 7 ∧ i = .int .i64 j ∧ l = .slice sv.a sv.len sv.cap ∧ wr.ownsRow W.heap.size 3 1 (.slice sv.a sv.len sv.cap) (cntI j).length ((cntI j).flatMap encI) ∧ Ext W wr) (fun _ i _ => 7 - (intOf i).toNat)
      case atStart => exact ⟨0, ⟨none, 0, 0⟩, by omega, rfl, rfl, owns_nilC _ _ _ _, Ext.refl W⟩
      case round =>
        obtain ⟨j, sv, hj, rfl, rfl, ho, hE⟩ := hrel
        have hpl := cntI_len j
        have Hpl := hide hpl
        clear hpl
        have hsz := hE.size
        by_cases hlt : j < 7
        · have hji : (j : Int) < 7 := by omega
          go_wp2_with (at_builtin; refine wpList_app1 _ _ 34 3 (.int .i64 0) 1 8 Tryz.underlying34 info3 rfl (by decide) (by decide) rfl rfl W.heap.size _ (cntI j).length _ rfl (ho.alloc _) wr.heap.size 1 [.int .i64 j] rfl rfl ?c1 ?c2 ?c3 ?c4 ?_)
          case c1 => exact range_new1 _ _ _ rfl
          case c2 => exact one_int j
          case c3 => rw [unhide Hpl]; omega
          case c4 => simp; omega
          intro v8 W8 ho8 hg8
          have ho8' : W8.ownsRow W.heap.size 3 1 v8 (cntI (j + 1)).length ((cntI (j + 1)).flatMap encI) := by
            rw [cntI_succ, List.length_append, List.length_singleton, List.flatMap_append]
            simpa [encI] using ho8
          obtain ⟨sv', hsv', _⟩ := sliceAt_of_owns encI (fun _ => rfl) ho8' rfl
          rw [hsv'] at ho8' ⊢
          have hE8 : Ext W W8 := (hE.alloc _).owned hg8 (ho.alloc _) (Nat.le_refl _)
          clear hsv' ho8 hg8 ho
          go_wp2
          exact ⟨⟨_, _, _, ⟨j + 1, by omega, by simp, sv', rfl, ho8'⟩, rfl, rfl, rfl⟩, by simp [intOf]; omega⟩
        · have hje : j = 7 := by omega
          subst hje
          have hat := slice_of_ownsC encI (fun _ => rfl) ho rfl
          have Hat := hide hat
          clear hat ho
          go_wp2
          go_ret
          exact ⟨sv, rfl, unhide Hat, hx0.trans hE⟩
end Go.Proofs.YtnppgeiompimaaaGreatDoor

