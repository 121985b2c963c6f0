import Derived.Test.YtmghhakebhgckaaGreatDoorG5
import Derived.Shelf.Strings.BuilderK
namespace Go.Proofs.YtmghhakebhgckaaGreatDoor
set_option linter.unusedSimpArgs false
set_option linter.unusedVariables false
set_option linter.unusedSimpArgs false
set_option linter.unusedVariables false
open Go.RowKit

set_option maxHeartbeats 3200000 in
theorem sameType_true (tv tv' : TV) (t : TypeM) (w : World) (h : TypeAt w tv t) (h' : TypeAt w tv' t) (hn : t.Small) :
    Calls Tryz.prog 51 #[.agg #[.string tv.name, .bool tv.enum, .slice tv.fields.a tv.fields.len tv.fields.cap, .slice tv.gone.a tv.gone.len tv.gone.cap, .slice tv.items.a tv.items.len tv.items.cap], .agg #[.string tv'.name, .bool tv'.enum, .slice tv'.fields.a tv'.fields.len tv'.fields.cap, .slice tv'.gone.a tv'.gone.len tv'.gone.cap, .slice tv'.items.a tv'.items.len tv'.items.cap]] w fun e w' => e = .returned (.bool true) ∧ Ext w w' := by
  obtain ⟨nm, en, ⟨fa, fl, fc⟩, ⟨ga, gl, gc⟩, ⟨ia, il, ic⟩⟩ := tv
  obtain ⟨nm', en', ⟨fa', fl', fc'⟩, ⟨ga', gl', gc'⟩, ⟨ia', il', ic'⟩⟩ := tv'
  have e1 := h.name
  have e2 := h.enum
  have e1' := h'.name
  have e2' := h'.enum
  have n1 := hn.fields
  have n2 := hn.gone
  have n3 := hn.items
  obtain ⟨l1, f1⟩ := h.fields
  obtain ⟨l2, f2⟩ := h.gone
  obtain ⟨l3, f3⟩ := h.items
  obtain ⟨l1', f1'⟩ := h'.fields
  obtain ⟨l2', f2'⟩ := h'.gone
  obtain ⟨l3', f3'⟩ := h'.items
  simp only at e1 e2 e1' e2' l1 l2 l3 l1' l2' l3'
  subst e1 e2 e1' e2' l1 l2 l3 l1' l2' l3'
  obtain ⟨nm, en, fs, gs, is⟩ := t
  simp only at f1 f2 f3 f1' f2' f3' n1 n2 n3 ⊢
  clear h h' hn
  have hx0 : Ext w ((w.alloc (.cells #[.string nm, .bool en, .slice fa fs.length fc, .slice ga gs.length gc, .slice ia is.length ic] 30)).alloc (.cells #[.string nm, .bool en, .slice fa' fs.length fc', .slice ga' gs.length gc', .slice ia' is.length ic'] 30)) := ((Ext.refl w).alloc _).alloc _
  have F1 := hide f1
  have F2 := hide f2
  have F3 := hide f3
  have F1' := hide f1'
  have F2' := hide f2'
  have F3' := hide f3'
  clear f1 f2 f3 f1' f2' f3'
  go_enter Tryz.func51, Tryz.ntmps51
  go_wp2
  go_loopw [50] (fun i wr => ∃ k : Nat, k ≤ fs.length ∧ i = .int .i64 k ∧ Ext w wr ∧ wr.heap[w.heap.size]? = some (.cells #[.string nm, .bool en, .slice fa fs.length fc, .slice ga gs.length gc, .slice ia is.length ic] 30 (0, 0)) ∧ wr.heap[w.heap.size + 1]? = some (.cells #[.string nm, .bool en, .slice fa' fs.length fc', .slice ga' gs.length gc', .slice ia' is.length ic'] 30 (0, 0))) (fun i wr => fs.length - (intOf i).toNat)
  case atStart => exact ⟨0, by omega, rfl, hx0, heap_alloc2_old _ _ _, heap_alloc2_new _ _ _⟩
  case round =>
    obtain ⟨k, hk, rfl, hx, hA, hB⟩ := hrel
    obtain ⟨a0, a1, a2, a3, a4, af⟩ := row5 hA
    obtain ⟨b0, b1, b2, b3, b4, bf⟩ := row5 hB
    have zB := lt_of_heap hB
    by_cases hlt : k < fs.length
    · obtain ⟨b, o, cs, ha, hr, rfl⟩ := (unhide F1) k fs[k] (by simp [hlt])
      obtain ⟨b', o', cs', ha', hr', rfl⟩ := (unhide F1') k fs[k] (by simp [hlt])
      subst ha ha'
      obtain ⟨f0, f1, f2, f3, f4⟩ := range5 (hx.range hr)
      obtain ⟨g0, g1, g2, g3, g4⟩ := range5 (hx.range hr')
      generalize fs[k] = f at *
      clear F1 F1' hr hr'
      go_wp2_with fail
      go_quiet (fail)
      go_wp2
      exact ⟨⟨k + 1, by omega, by go_num, hx.drewN _, hA, hB⟩, by simp [intOf]; omega⟩
    · go_wp2
      go_loopw [68] (fun i wr => ∃ k : Nat, k ≤ gs.length ∧ i = .int .i64 k ∧ Ext w wr ∧ wr.heap[w.heap.size]? = some (.cells #[.string nm, .bool en, .slice fa fs.length fc, .slice ga gs.length gc, .slice ia is.length ic] 30 (0, 0)) ∧ wr.heap[w.heap.size + 1]? = some (.cells #[.string nm, .bool en, .slice fa' fs.length fc', .slice ga' gs.length gc', .slice ia' is.length ic'] 30 (0, 0))) (fun i wr => gs.length - (intOf i).toNat)
      case atStart => exact ⟨0, by omega, rfl, hx, hA, hB⟩
      case round =>
        clear hx hA hB a0 a1 a2 a3 a4 af b0 b1 b2 b3 b4 bf zB
        obtain ⟨k, hk, rfl, hx, hA, hB⟩ := hrel
        obtain ⟨a0, a1, a2, a3, a4, af⟩ := row5 hA
        obtain ⟨b0, b1, b2, b3, b4, bf⟩ := row5 hB
        have zB := lt_of_heap hB
        by_cases hlt : k < gs.length
        · obtain ⟨b, o, cs, ha, hr, rfl⟩ := (unhide F2) k gs[k] (by simp [hlt])
          obtain ⟨b', o', cs', ha', hr', rfl⟩ := (unhide F2') k gs[k] (by simp [hlt])
          subst ha ha'
          have f0 := hx.cell (hr 0 _ rfl)
          have g0 := hx.cell (hr' 0 _ rfl)
          simp only [Nat.mul_one, Nat.add_zero] at f0 g0
          generalize gs[k] = f at *
          clear F2 F2' hr hr'
          go_wp2_with fail
          go_quiet (fail)
          go_wp2
          exact ⟨⟨k + 1, by omega, by go_num, hx.drewN _, hA, hB⟩, by simp [intOf]; omega⟩
        · go_wp2
          go_loopw [86] (fun i wr => ∃ k : Nat, k ≤ is.length ∧ i = .int .i64 k ∧ Ext w wr ∧ wr.heap[w.heap.size]? = some (.cells #[.string nm, .bool en, .slice fa fs.length fc, .slice ga gs.length gc, .slice ia is.length ic] 30 (0, 0)) ∧ wr.heap[w.heap.size + 1]? = some (.cells #[.string nm, .bool en, .slice fa' fs.length fc', .slice ga' gs.length gc', .slice ia' is.length ic'] 30 (0, 0))) (fun i wr => is.length - (intOf i).toNat)
          case atStart => exact ⟨0, by omega, rfl, hx, hA, hB⟩
          case round =>
            clear hx hA hB a0 a1 a2 a3 a4 af b0 b1 b2 b3 b4 bf zB
            obtain ⟨k, hk, rfl, hx, hA, hB⟩ := hrel
            obtain ⟨a0, a1, a2, a3, a4, af⟩ := row5 hA
            obtain ⟨b0, b1, b2, b3, b4, bf⟩ := row5 hB
            have zB := lt_of_heap hB
            by_cases hlt : k < is.length
            · obtain ⟨b, o, cs, ha, hr, rfl⟩ := (unhide F3) k is[k] (by simp [hlt])
              obtain ⟨b', o', cs', ha', hr', rfl⟩ := (unhide F3') k is[k] (by simp [hlt])
              subst ha ha'
              have f0 := hx.cell (hr 0 _ rfl)
              have f1 := hx.cell (hr 1 _ rfl)
              have g0 := hx.cell (hr' 0 _ rfl)
              have g1 := hx.cell (hr' 1 _ rfl)
              simp only [Nat.add_zero] at f0 g0
              generalize is[k] = f at *
              clear F3 F3' hr hr'
              go_wp2_with fail
              go_quiet (fail)
              go_wp2
              exact ⟨⟨k + 1, by omega, by go_num, hx.drewN _, hA, hB⟩, by simp [intOf]; omega⟩
            · go_wp2
              go_ret
              exact ⟨rfl, hx⟩
end Go.Proofs.YtmghhakebhgckaaGreatDoor

namespace Go.Proofs.YtmghhakebhgckaaGreatDoor
set_option linter.unusedSimpArgs false
set_option linter.unusedVariables false
open Go.RowKit

def Cells5 (w : World) (b o : Nat) (tv : TV) : Prop := w.cell? ⟨b, o, none⟩ = some (.string tv.name) ∧ w.cell? ⟨b, o + 1, none⟩ = some (.bool tv.enum) ∧ w.cell? ⟨b, o + 2, none⟩ = some (.slice tv.fields.a tv.fields.len tv.fields.cap) ∧ w.cell? ⟨b, o + 3, none⟩ = some (.slice tv.gone.a tv.gone.len tv.gone.cap) ∧ w.cell? ⟨b, o + 4, none⟩ = some (.slice tv.items.a tv.items.len tv.items.cap)
set_option maxHeartbeats 3200000 in
theorem sameBook_true (s s' : SV) (ts : BookM) (w : World) (h : BookAt w s ts) (h' : BookAt w s' ts) (hn : ts.Small) :
    Calls Tryz.prog 29 #[.agg #[.slice s.a s.len s.cap], .agg #[.slice s'.a s'.len s'.cap]] w fun e w' => e = .returned (.bool true) ∧ Ext w w' := by
  obtain ⟨a, n, cap⟩ := s
  obtain ⟨a', n', cap'⟩ := s'
  obtain ⟨l1, f1⟩ := h
  obtain ⟨l1', f1'⟩ := h'
  simp only at l1 l1'
  subst l1 l1'
  have hlen := hn.1
  have F1 := hide f1
  have F1' := hide f1'
  have Hn := hide hn
  clear f1 f1' hn
  have hx0 : Ext w ((w.alloc (.cells #[.slice a ts.length cap] 24)).alloc (.cells #[.slice a' ts.length cap'] 24)) := ((Ext.refl w).alloc _).alloc _
  go_enter Tryz.func29, Tryz.ntmps29
  go_wp2
  go_loopw [16] (fun i wr => ∃ k : Nat, k ≤ ts.length ∧ i = .int .i64 k ∧ Ext w wr ∧ wr.heap[w.heap.size]? = some (.cells #[.slice a ts.length cap] 24 (0, 0)) ∧ wr.heap[w.heap.size + 1]? = some (.cells #[.slice a' ts.length cap'] 24 (0, 0))) (fun i wr => ts.length - (intOf i).toNat)
  case atStart => exact ⟨0, by omega, rfl, hx0, heap_alloc2_old _ _ _, heap_alloc2_new _ _ _⟩
  case round =>
    obtain ⟨k, hk, rfl, hx, hA, hB⟩ := hrel
    have cA : wr.cell? ⟨w.heap.size, 0, none⟩ = some (.slice a ts.length cap) := cell_of_row _ _ 0 _ _ _ hA
    have cB : wr.cell? ⟨w.heap.size + 1, 0, none⟩ = some (.slice a' ts.length cap') := cell_of_row _ _ 0 _ _ _ hB
    have zB := lt_of_heap hB
    by_cases hlt : k < ts.length
    · obtain ⟨b, o, cs, ha, hr, tv, rfl, htv⟩ := (unhide F1) k ts[k] (by simp [hlt])
      obtain ⟨b', o', cs', ha', hr', tv', rfl, htv'⟩ := (unhide F1') k ts[k] (by simp [hlt])
      subst ha ha'
      have r1 : Cells5 wr b (o + k * 5) tv := range5 (hx.range hr)
      have r2 : Cells5 wr b' (o' + k * 5) tv' := range5 (hx.range hr')
      have hki : (k : Int) < (ts.length : Int) := by omega
      have htvx := htv.ext hx
      have htvx' := htv'.ext hx
      have hsm := (unhide Hn).2 ts[k] (List.getElem_mem hlt)
      have HT := hide (And.intro htvx (And.intro htvx' hsm))
      clear htv htv' htvx htvx' hsm hr hr' F1 F1'
      have hS0 : wr.cell? ⟨w.heap.size, 0, none⟩ = some (.slice (some ⟨b, o, none⟩) ts.length cap) ∧ wr.cell? ⟨w.heap.size + 1, 0, none⟩ = some (.slice (some ⟨b', o', none⟩) ts.length cap') ∧ Cells5 wr b (o + k * 5) tv ∧ Cells5 wr b' (o' + k * 5) tv' := ⟨cA, cB, r1, r2⟩
      go_wp2_with fail
      refine wp_region_X (fun w' => w'.cell? ⟨w.heap.size, 0, none⟩ = some (.slice (some ⟨b, o, none⟩) ts.length cap) ∧ w'.cell? ⟨w.heap.size + 1, 0, none⟩ = some (.slice (some ⟨b', o', none⟩) ts.length cap') ∧ Cells5 w' b (o + k * 5) tv ∧ Cells5 w' b' (o' + k * 5) tv') (fun _ => false) (by kernel_rfl) ?_
      refine wpAnyX_take (i := 0) (v := .pointer (some ⟨w.heap.size, 0, none⟩)) rfl (by kernel_rfl) (by kernel_rfl) (fun _ _ _ h => h) (.inl ⟨rfl, fun w' hS => by simp [execOp, go_sem]⟩) hS0 ?_
      simp only [Act.put, List.setIfInBounds_toArray, List.set_cons_succ, List.set_cons_zero]
      refine wpAnyX_take (i := 1) (v := .slice (some ⟨b, o, none⟩) ts.length cap) rfl (by kernel_rfl) (by kernel_rfl) (fun _ _ _ h => h) (.inl ⟨rfl, fun w' hS => by simp [execOp, go_sem, hS.1]⟩) hS0 ?_
      simp only [Act.put, List.setIfInBounds_toArray, List.set_cons_succ, List.set_cons_zero]
      refine wpAnyX_take (i := 2) (v := .int .i64 k) rfl (by kernel_rfl) (by kernel_rfl) (fun _ _ _ h => h) (.inl ⟨rfl, fun w' hS => by simp [execOp, go_sem]⟩) hS0 ?_
      simp only [Act.put, List.setIfInBounds_toArray, List.set_cons_succ, List.set_cons_zero]
      refine wpAnyX_take (i := 3) (v := .pointer (some ⟨b, o + k * 5, none⟩)) rfl (by kernel_rfl) (by kernel_rfl) (fun _ _ _ h => h) (.inl ⟨rfl, fun w' hS => by simp [execOp, go_sem, hki, hlt]⟩) hS0 ?_
      simp only [Act.put, List.setIfInBounds_toArray, List.set_cons_succ, List.set_cons_zero]
      refine wpAnyX_take (i := 4) (v := .agg #[.string tv.name, .bool tv.enum, .slice tv.fields.a tv.fields.len tv.fields.cap, .slice tv.gone.a tv.gone.len tv.gone.cap, .slice tv.items.a tv.items.len tv.items.cap]) rfl (by kernel_rfl) (by kernel_rfl) (fun _ _ _ h => h) (.inl ⟨rfl, fun w' hS => by simp [execOp, go_sem, hS.2.2.1.1, hS.2.2.1.2.1, hS.2.2.1.2.2.1, hS.2.2.1.2.2.2.1, hS.2.2.1.2.2.2.2]⟩) hS0 ?_
      simp only [Act.put, List.setIfInBounds_toArray, List.set_cons_succ, List.set_cons_zero]
      refine wpAnyX_take (i := 5) (v := .pointer (some ⟨w.heap.size + 1, 0, none⟩)) rfl (by kernel_rfl) (by kernel_rfl) (fun _ _ _ h => h) (.inl ⟨rfl, fun w' hS => by simp [execOp, go_sem]⟩) hS0 ?_
      simp only [Act.put, List.setIfInBounds_toArray, List.set_cons_succ, List.set_cons_zero]
      refine wpAnyX_take (i := 6) (v := .slice (some ⟨b', o', none⟩) ts.length cap') rfl (by kernel_rfl) (by kernel_rfl) (fun _ _ _ h => h) (.inl ⟨rfl, fun w' hS => by simp [execOp, go_sem, hS.2.1]⟩) hS0 ?_
      simp only [Act.put, List.setIfInBounds_toArray, List.set_cons_succ, List.set_cons_zero]
      refine wpAnyX_take (i := 7) (v := .int .i64 k) rfl (by kernel_rfl) (by kernel_rfl) (fun _ _ _ h => h) (.inl ⟨rfl, fun w' hS => by simp [execOp, go_sem]⟩) hS0 ?_
      simp only [Act.put, List.setIfInBounds_toArray, List.set_cons_succ, List.set_cons_zero]
      refine wpAnyX_take (i := 8) (v := .pointer (some ⟨b', o' + k * 5, none⟩)) rfl (by kernel_rfl) (by kernel_rfl) (fun _ _ _ h => h) (.inl ⟨rfl, fun w' hS => by simp [execOp, go_sem, hki, hlt]⟩) hS0 ?_
      simp only [Act.put, List.setIfInBounds_toArray, List.set_cons_succ, List.set_cons_zero]
      refine wpAnyX_take (i := 9) (v := .agg #[.string tv'.name, .bool tv'.enum, .slice tv'.fields.a tv'.fields.len tv'.fields.cap, .slice tv'.gone.a tv'.gone.len tv'.gone.cap, .slice tv'.items.a tv'.items.len tv'.items.cap]) rfl (by kernel_rfl) (by kernel_rfl) (fun _ _ _ h => h) (.inl ⟨rfl, fun w' hS => by simp [execOp, go_sem, hS.2.2.2.1, hS.2.2.2.2.1, hS.2.2.2.2.2.1, hS.2.2.2.2.2.2.1, hS.2.2.2.2.2.2.2]⟩) hS0 ?_
      simp only [Act.put, List.setIfInBounds_toArray, List.set_cons_succ, List.set_cons_zero]
      refine wpAnyX_one (j := 10) rfl (by kernel_rfl) rfl fun K hK => ?_
      go_wp2_with fail
      refine (sameType_true tv tv' _ wr.drew ((unhide HT).1.ext ((Ext.refl wr).drew)) ((unhide HT).2.1.ext ((Ext.refl wr).drew)) (unhide HT).2.2).mono ?_
      rintro e w2 ⟨rfl, hx2⟩
      have hx02 : Ext wr w2 := ((Ext.refl wr).drew).trans hx2
      have hS2 : w2.cell? ⟨w.heap.size, 0, none⟩ = some (.slice (some ⟨b, o, none⟩) ts.length cap) ∧ w2.cell? ⟨w.heap.size + 1, 0, none⟩ = some (.slice (some ⟨b', o', none⟩) ts.length cap') ∧ Cells5 w2 b (o + k * 5) tv ∧ Cells5 w2 b' (o' + k * 5) tv' :=
        ⟨hx02.cell cA, hx02.cell cB, ⟨hx02.cell r1.1, hx02.cell r1.2.1, hx02.cell r1.2.2.1, hx02.cell r1.2.2.2.1, hx02.cell r1.2.2.2.2⟩, ⟨hx02.cell r2.1, hx02.cell r2.2.1, hx02.cell r2.2.2.1, hx02.cell r2.2.2.2.1, hx02.cell r2.2.2.2.2⟩⟩
      go_wp2
      refine hK.out _ _ hS2 ?_
      clear hK K
      refine wpAnyX_one (j := 11) rfl (by kernel_rfl) rfl fun K hK => ?_
      go_wp2
      refine hK.out _ _ hS2 ?_
      clear hK K
      refine wpAnyX_end [] [] rfl (by intro j i hj; simp at hj) (by kernel_rfl) (by intro i hi; simp at hi) fun K hK => ?_
      go_wp2
      refine hK.out _ _ ?_
      clear hK K
      go_wp2
      exact ⟨⟨k + 1, by omega, by go_num, hx.trans hx02, hx02.heap hA, hx02.heap hB⟩, by simp [intOf]; omega⟩
    · go_wp2
      go_ret
      exact ⟨rfl, hx⟩
end Go.Proofs.YtmghhakebhgckaaGreatDoor

namespace Go.Proofs.YtmghhakebhgckaaGreatDoor
set_option linter.unusedSimpArgs false
set_option linter.unusedVariables false
open Go.RowKit Go.Shelf

set_option maxHeartbeats 2000000 in
set_option maxRecDepth 100000 in
theorem copyCheck_fresh (b : Nat) (w : World) (h0 : w.cell? ⟨b, 0, none⟩ = some (.pointer none)) (hsh : w.shape? b = some (68, 2)) (hfz : w.frozen? ⟨b, 0, none⟩ = false) :
    Calls Tryz.prog 93 #[.pointer (some ⟨b, 0, none⟩)] w fun e w' => e = .returned (.tuple #[]) ∧ w' = w.setCell ⟨b, 0, none⟩ (.pointer (some ⟨b, 0, none⟩)) := by
  obtain ⟨j, hj, hjs⟩ := Option.map_eq_some_iff.1 Tryz.Builder_Extra_169.sizeBuilder
  go_enter Tryz.func93, Tryz.ntmps93
  go_wp2
  rw [Lib.run_to_unsafe w ⟨b, 0, none⟩ Tryz.underlying65 Tryz.underlying132 hj (by rw [hjs]; decide) hsh (Nat.zero_lt_succ 1)]
  simp only [Result.andThen]
  rw [Oper.upon_value]
  go_wp2
  rw [run_callFunc_extern Tryz.func118 (by kernel_rfl) (by kernel_rfl) (by kernel_rfl) (e := Extern.AbiNoEscape.same) (by kernel_rfl)]
  rw [Lib.run_noEscape]
  simp only [Result.andThen]
  rw [Oper.upon_value]
  go_wp2
  rw [Lib.run_from_unsafe w ⟨b, 0, none⟩ Tryz.underlying132 Tryz.underlying65 hj hsh Tryz.Builder_Extra_169.liesBuilder]
  simp only [Result.andThen]
  rw [Oper.upon_value]
  go_wp2
  refine bodyPost_end (v := .tuple #[]) (results_none Tryz.results93 _ _ _) ?_ ?_
  · rfl
  · exact ⟨rfl, rfl⟩
set_option maxHeartbeats 2000000 in
set_option maxRecDepth 100000 in
theorem copyCheck_used (b : Nat) (w : World) (h0 : w.cell? ⟨b, 0, none⟩ = some (.pointer (some ⟨b, 0, none⟩))) :
    Calls Tryz.prog 93 #[.pointer (some ⟨b, 0, none⟩)] w fun e w' => e = .returned (.tuple #[]) ∧ w' = w := by
  obtain ⟨j, hj, _⟩ := Option.map_eq_some_iff.1 Tryz.Builder_Extra_169.sizeBuilder
  go_enter Tryz.func93, Tryz.ntmps93
  go_wp2
  rw [Lib.run_neq_ptr_same w _ Tryz.underlying65 hj]
  go_wp2
  refine bodyPost_end (v := .tuple #[]) (results_none Tryz.results93 _ _ _) ?_ ?_
  · rfl
  · exact ⟨rfl, rfl⟩
theorem copyCheck_any (B b : Nat) (bs : List Value) (w : World) (h : Lib.IsBuilderF 68 5 B b bs w) :
    Calls Tryz.prog 93 #[.pointer (some ⟨b, 0, none⟩)] w fun e w' => e = .returned (.tuple #[]) ∧ (Lib.BuilderAtF 68 5 B b (.pointer (some ⟨b, 0, none⟩)) bs w' ∧ Below B w w' ∧ Lib.OthersKept 5 (some b) w w') := by
  rcases h with h | h
  · refine (copyCheck_fresh b w h.cell0 h.shape h.frozen0).mono ?_
    rintro e w' ⟨rfl, rfl⟩
    exact ⟨rfl, h.used _, (Below.refl B w).setCell (p := ⟨b, 0, none⟩) h.1 _, (Lib.OthersKept.refl _ _ w).setCell ⟨b, 0, none⟩ rfl _⟩
  · refine (copyCheck_used b w h.cell0).mono ?_
    rintro e w' ⟨rfl, rfl⟩
    exact ⟨rfl, h, Below.refl B _, Lib.OthersKept.refl _ _ _⟩

set_option maxHeartbeats 2000000 in
set_option maxRecDepth 100000 in
theorem writeString_any (B b : Nat) (bs : List Value) (s : ByteArray) (w : World) (h : Lib.IsBuilderF 68 5 B b bs w) (hlen : bs.length + s.size ≤ 140737488355328) (hBw : B ≤ w.heap.size) :
    Calls Tryz.prog 62 #[.pointer (some ⟨b, 0, none⟩), .string s] w fun e w' => e = .returned (.tuple #[.int .i64 s.size, .nilIface]) ∧ (Lib.BuilderAtF 68 5 B b (.pointer (some ⟨b, 0, none⟩)) (bs ++ Lib.strCells s) w' ∧ Below B w w' ∧ Lib.OthersKept 5 (some b) w w') := by
  obtain ⟨i0, hi, hz0, hz1, hz2⟩ := info_parts Tryz.Builder_Extra_169.infoByte
  go_enter Tryz.func62, Tryz.ntmps62
  go_wp2_with fail
  refine (copyCheck_any B b bs w h).mono ?_
  rintro e w1 ⟨rfl, ⟨hB, v, hbk, hown, hne⟩, hb1, hk1⟩
  have c0 : w1.cell? ⟨b, 0, none⟩ = some (.pointer (some ⟨b, 0, none⟩)) := cell_of_row _ _ 0 _ _ _ hbk
  have c1 : w1.cell? ⟨b, 1, none⟩ = some v := cell_of_row _ _ 1 _ _ _ hbk
  have hsz := hb1.size
  go_wp2_with (at_builtin; refine Lib.wpList_append_own_stringF _ rfl _ _ 66 9 rfl B 5 i0 Tryz.underlying66 Tryz.underlying9 hi hz0 hz1 hz2 _ _ _ rfl hown s rfl (by unfold maxLen; omega) (by omega) (by omega) ?_)
  intro v' w2 hown' hgrow _
  have hb2 : w2.heap[b]? = some (.cells #[.pointer (some ⟨b, 0, none⟩), v] 68 (0, 0)) := by
    rw [hgrow.block b (lt_of_heap hbk) (fun e => hne e.symm)]; exact hbk
  have d0 : w2.cell? ⟨b, 0, none⟩ = some (.pointer (some ⟨b, 0, none⟩)) := cell_of_row _ _ 0 _ _ _ hb2
  have d1 : w2.cell? ⟨b, 1, none⟩ = some v := cell_of_row _ _ 1 _ _ _ hb2
  have f1 : w2.frozen? ⟨b, 1, none⟩ = false := frozen_of_row _ _ 1 _ _ hb2
  obtain ⟨ao, n', cap, rfl⟩ : ∃ ao n' cap, v' = .slice ao n' cap := by
    rcases hown'.2 with ⟨hv, _⟩ | ⟨g, cap, cur, fz, hv, _⟩
    · exact ⟨_, _, _, hv⟩
    · exact ⟨_, _, _, hv⟩
  have hP : Lib.BuilderAtF 68 5 B b (.pointer (some ⟨b, 0, none⟩)) (bs ++ Lib.strCells s) (w2.setCell ⟨b, 1, none⟩ (.slice ao n' cap)) :=
    Lib.BuilderAtF.put hB hb2 (bs' := bs ++ Lib.strCells s) (by simpa [Lib.strCells_length] using hown') (by decide)
  have hBe : Below B w (w2.setCell ⟨b, 1, none⟩ (.slice ao n' cap)) := (hb1.grown hgrow (by omega) (fun k hk => (hown.lt k hk).1)).setCell (p := ⟨b, 1, none⟩) hB _
  have hOk : Lib.OthersKept 5 (some b) w (w2.setCell ⟨b, 1, none⟩ (.slice ao n' cap)) := (hk1.grown hgrow (Lib.ownsRowF_kind hown)).setCell ⟨b, 1, none⟩ rfl _
  have HP := hide (And.intro hP (And.intro hBe hOk))
  clear hP hBe hOk hown hown' hgrow hk1 hb1
  go_wp2
  refine bodyPost_ret (v := .tuple #[.int .i64 s.size, .nilIface]) (by simp [results, Tryz.results62, go_sem]) rfl ⟨rfl, unhide HP⟩
end Go.Proofs.YtmghhakebhgckaaGreatDoor

namespace Go.Proofs.YtmghhakebhgckaaGreatDoor
set_option linter.unusedSimpArgs false
set_option linter.unusedVariables false
open Go.RowKit

/-- A builder that holds these bytes. -/
def Bld (w : World) (B b : Nat) (acc : List UInt8) : Prop := Lib.IsBuilderF 68 5 B b (Lib.byteCells acc) w
/-- What a builder's writing leaves as it was. -/
structure WFr (B b : Nat) (w w' : World) : Prop where
  below : Below B w w'
  others : Lib.OthersKept 5 (some b) w w'
theorem WFr.trans {B b : Nat} {a c d : World} (h : WFr B b a c) (k : WFr B b c d) : WFr B b a d := ⟨h.below.trans k.below, h.others.trans k.others⟩
theorem WFr.of_ext {B b : Nat} {w w' : World} (h : Ext w w') (hB : B ≤ w.heap.size) : WFr B b w w' := ⟨Below.mono h hB, fun _ _ hk _ _ => h.heap hk⟩
theorem WFr.refl (B b : Nat) (w : World) : WFr B b w w := ⟨Below.refl _ _, Lib.OthersKept.refl _ _ _⟩
theorem WFr.heap {B b : Nat} {w w' : World} (h : WFr B b w w') {k : Nat} {c : Array Value} {e : TypeId} {f : Nat × Nat} (hk : w.heap[k]? = some (.cells c e f)) (hb : k ≠ b) (he : e ≠ 5) : w'.heap[k]? = some (.cells c e f) :=
  h.others k _ hk (fun x => hb (Option.some.inj x)) (fun c' fz x => he (by cases x; rfl))
theorem bld_head {w : World} {B b : Nat} {acc : List UInt8} (h : Bld w B b acc) : B ≤ b ∧ ∃ c f, w.heap[b]? = some (.cells c 68 f) := by
  rcases h with ⟨h1, v, h2, _⟩ | ⟨h1, v, h2, _⟩
  · exact ⟨h1, _, _, h2⟩
  · exact ⟨h1, _, _, h2⟩
theorem ownsF_ext {w w' : World} {base : Nat} {e : TypeId} {size : Nat} {v : Value} {n : Nat} {xs : List Value} (h : w.ownsRowF base e size v n xs) (he : Ext w w') : w'.ownsRowF base e size v n xs := by
  refine ⟨h.1, ?_⟩
  rcases h.2 with h0 | ⟨g, cap, cur, fz, hv, hb, hg, r⟩
  · exact .inl h0
  · exact .inr ⟨g, cap, cur, fz, hv, hb, he.heap hg, r⟩
theorem Bld.ext {w w' : World} {B b : Nat} {acc : List UInt8} (h : Bld w B b acc) (he : Ext w w') : Bld w' B b acc := by
  rcases h with ⟨h1, v, h2, h3, h4⟩ | ⟨h1, v, h2, h3, h4⟩
  · exact .inl ⟨h1, v, he.heap h2, ownsF_ext h3 he, h4⟩
  · exact .inr ⟨h1, v, he.heap h2, ownsF_ext h3 he, h4⟩
theorem bld_new (w : World) : Bld (w.alloc (.cells #[.pointer none, .slice none 0 0] 68)) w.heap.size w.heap.size [] :=
  .inl ⟨Nat.le_refl _, .slice none 0 0, heap_alloc_new _ _, World.ownsRowF_nil _ _ _ _, by simp [Value.ownBlock]⟩
theorem bytes_app (acc : List UInt8) (s : ByteArray) : Lib.byteCells acc ++ Lib.strCells s = Lib.byteCells (acc ++ s.toList) := by
  rw [Lib.strCells_eq, Lib.toList_data, Lib.byteCells, Lib.byteCells, Lib.byteCells, List.map_append]
theorem write_any (B b : Nat) (acc : List UInt8) (s : ByteArray) (w : World) (h : Bld w B b acc) (hlen : acc.length + s.size ≤ 140737488355328) (hB : B ≤ w.heap.size) :
    Calls Tryz.prog 62 #[.pointer (some ⟨b, 0, none⟩), .string s] w fun e w' => e = .returned (.tuple #[.int .i64 s.size, .nilIface]) ∧ Bld w' B b (acc ++ s.toList) ∧ WFr B b w w' := by
  refine (writeString_any B b _ s w h (by rw [Lib.byteCells_length]; omega) hB).mono ?_
  rintro e w' ⟨rfl, h1, h2, h3⟩
  rw [bytes_app] at h1
  exact ⟨rfl, .inr h1, h2, h3⟩

def lineB (first : ByteArray) (rest : List ByteArray) : List UInt8 := [32, 32] ++ first.toList ++ rest.flatMap (fun x => 32 :: x.toList) ++ [59, 10]
theorem take_flat_le {α : Type} (l : List α) (f : α → List UInt8) (k : Nat) : ((l.take k).flatMap f).length ≤ (l.flatMap f).length := by
  conv => rhs; rw [← List.take_append_drop k l, List.flatMap_append, List.length_append]
  omega
set_option maxHeartbeats 1600000 in
theorem printLine_any (B b g cap : Nat) (c : Array Value) (f : Nat × Nat) (acc : List UInt8) (first : ByteArray) (rest : List ByteArray) (w : World) (h : Bld w B b acc) (hB : B ≤ w.heap.size) (hrow : w.heap[g]? = some (.cells c 9 f)) (hc : ∀ (i : Nat) (x : ByteArray), rest[i]? = some x → c[i]? = some (.string x))
    (hl : rest.length ≤ 1048576) (hsz : acc.length + (lineB first rest).length ≤ 1099511627776) :
    Calls Tryz.prog 63 #[.pointer (some ⟨b, 0, none⟩), .string first, .slice (some ⟨g, 0, none⟩) rest.length cap] w fun e w' => e = .returned (.tuple #[]) ∧ Bld w' B b (acc ++ lineB first rest) ∧ WFr B b w w' := by
  have hz : acc.length + (4 + first.toList.length + (rest.flatMap fun x => 32 :: x.toList).length) ≤ 1099511627776 := by
    unfold lineB at hsz
    simp only [List.length_append, List.length_cons, List.length_nil] at hsz ⊢
    omega
  have hfs : first.toList.length = first.size := size_toList first
  have Hc := hide hc
  have hgb : g ≠ b := by
    obtain ⟨_, c', f', hb⟩ := bld_head h
    exact heap_ne hrow hb (by decide)
  clear hsz hc
  go_enter Tryz.func63, Tryz.ntmps63
  go_wp2_with fail
  refine (write_any B b acc _ w h (by simp [ByteArray.size]; omega) hB).mono ?_
  rintro e w1 ⟨rfl, h1, f1⟩
  have hB1 := Nat.le_trans hB f1.below.size
  go_wp2_with fail
  refine (write_any B b _ first w1 h1 (by simp only [List.length_append, size_toList]; rw [show (ByteArray.mk #[32, 32]).size = 2 from rfl]; omega) hB1).mono ?_
  rintro e w2 ⟨rfl, h2, f2⟩
  have f02 := f1.trans f2
  have hB2 := Nat.le_trans hB1 f2.below.size
  have e2 : acc ++ (ByteArray.mk #[32, 32]).toList ++ first.toList = acc ++ [32, 32] ++ first.toList := by rw [Lib.toList_data ⟨#[32, 32]⟩]
  rw [e2] at h2
  go_wp2
  go_loopw [15] (fun i wr => ∃ k : Nat, k ≤ rest.length ∧ i = .int .i64 k ∧ Bld wr B b (acc ++ [32, 32] ++ first.toList ++ (rest.take k).flatMap (fun x => 32 :: x.toList)) ∧ WFr B b w wr) (fun i wr => rest.length - (intOf i).toNat)
  case atStart => exact ⟨0, by omega, rfl, by simpa using h2, f02⟩
  case round =>
    obtain ⟨k, hk, rfl, hb, hf⟩ := hrel
    clear h1 h2 f1 f2 f02 e2 hB1 hB2
    have hrow' := hf.heap hrow hgb (by decide)
    have hBr := Nat.le_trans hB hf.below.size
    have hle := take_flat_le rest (fun x => 32 :: x.toList) k
    by_cases hlt : k < rest.length
    · have hle1 := take_flat_le rest (fun x => 32 :: x.toList) (k + 1)
      rw [flat_take hlt] at hle1
      simp only [List.length_append, List.length_cons, size_toList] at hle1
      have hcell : wr.cell? ⟨g, k, none⟩ = some (.string rest[k]) := by
        have := (unhide Hc) k rest[k] (by simp [hlt])
        obtain ⟨hi, hv⟩ := Array.getElem?_eq_some_iff.1 this
        rw [cell_of_row wr g k c 9 f hrow', this]
      have Hb := hide hb
      have Eacc : Hid (∀ x : List UInt8, acc ++ [32, 32] ++ first.toList ++ (rest.take k).flatMap (fun x => 32 :: x.toList) ++ (ByteArray.mk #[32]).toList ++ rest[k].toList = acc ++ [32, 32] ++ first.toList ++ (rest.take (k + 1)).flatMap (fun x => 32 :: x.toList)) := by
        intro _
        rw [flat_take hlt, Lib.toList_data ⟨#[32]⟩]
        simp
      generalize rest[k] = x at *
      clear hb
      go_wp2_with fail
      refine (write_any B b _ _ wr (unhide Hb) (by simp only [List.length_append, List.length_cons, List.length_nil]; rw [show (ByteArray.mk #[32]).size = 1 from rfl]; omega) hBr).mono ?_
      rintro e w3 ⟨rfl, h3, f3⟩
      have hB3 := Nat.le_trans hBr f3.below.size
      go_wp2_with fail
      refine (write_any B b _ x w3 h3 (by simp only [List.length_append, List.length_cons, List.length_nil, size_toList]; rw [show (ByteArray.mk #[32]).size = 1 from rfl]; omega) hB3).mono ?_
      rintro e w4 ⟨rfl, h4, f4⟩
      rw [unhide Eacc []] at h4
      have f04 := (hf.trans f3).trans f4
      clear h3 f3 f4 hf hrow' Eacc Hb
      go_wp2
      exact ⟨⟨k + 1, by omega, by go_num, h4, f04⟩, by simp [intOf]; omega⟩
    · have e : k = rest.length := by omega
      subst e
      rw [List.take_length] at hb
      go_wp2_with fail
      refine (write_any B b _ _ wr hb (by simp only [List.length_append, List.length_cons, List.length_nil]; rw [show (ByteArray.mk #[59, 10]).size = 2 from rfl]; omega) hBr).mono ?_
      rintro e w3 ⟨rfl, h3, f3⟩
      have e3 : acc ++ [32, 32] ++ first.toList ++ rest.flatMap (fun x => 32 :: x.toList) ++ (ByteArray.mk #[59, 10]).toList = acc ++ lineB first rest := by
        rw [Lib.toList_data ⟨#[59, 10]⟩]
        simp [lineB]
      rw [e3] at h3
      have f03 := hf.trans f3
      clear hb hf f3 hrow' e3
      go_wp2
      go_end0
      exact ⟨rfl, h3, f03⟩
end Go.Proofs.YtmghhakebhgckaaGreatDoor

namespace Go.Proofs.YtmghhakebhgckaaGreatDoor
set_option linter.unusedSimpArgs false
set_option linter.unusedVariables false
open Go.RowKit

def typeWordM (f : FieldM) : ByteArray := if f.kind = 4 ∨ f.kind = 5 then f.type else ⟨(kindsL.getD f.kind.toNat []).toArray⟩
def ruleWordM (f : FieldM) : ByteArray := ⟨(rulesL.getD f.rule.toNat []).toArray⟩
set_option maxHeartbeats 1600000 in
theorem typeWord_any (f : FieldM) (w : World) (hn2 : NamesAt w 2 kindsL) (h1 : 1 ≤ f.kind) (h5 : f.kind ≤ 5) :
    Calls Tryz.prog 65 #[.agg #[.int .i64 f.id, .string f.name, .string f.type, .int .i64 f.kind, .int .i64 f.rule]] w fun e w' => e = .returned (.string (typeWordM f)) ∧ Ext w w' := by
  obtain ⟨id, nm, ty, kd, rl⟩ := f
  simp only at h1 h5
  have hx : Ext w (w.alloc (.cells #[.int .i64 id, .string nm, .string ty, .int .i64 kd, .int .i64 rl] 34)) := (Ext.refl w).alloc _
  obtain ⟨⟨a, n, cap⟩, hc, hl, hs⟩ := hn2.ext hx
  have hl' : n = 4 := hl
  subst hl'
  simp only at hc
  have hcases : kd = 4 ∨ kd = 5 ∨ kd = 1 ∨ kd = 2 ∨ kd = 3 := by omega
  rcases hcases with rfl | rfl | rfl | rfl | rfl
  · clear hs
    go_enter Tryz.func65, Tryz.ntmps65
    go_wp2
    go_ret
    exact ⟨rfl, hx⟩
  · clear hs
    go_enter Tryz.func65, Tryz.ntmps65
    go_wp2
    go_ret
    exact ⟨rfl, hx⟩
  · obtain ⟨b, o, cs, ha, hr, rfl⟩ := hs 1 _ rfl
    simp only at ha
    subst ha
    have c1 := hr 0 _ rfl
    simp only [Nat.mul_one, Nat.add_zero] at c1
    clear hs hr
    go_enter Tryz.func65, Tryz.ntmps65
    go_wp2
    go_ret
    exact ⟨rfl, hx⟩
  · obtain ⟨b, o, cs, ha, hr, rfl⟩ := hs 2 _ rfl
    simp only at ha
    subst ha
    have c1 := hr 0 _ rfl
    simp only [Nat.mul_one, Nat.add_zero] at c1
    clear hs hr
    go_enter Tryz.func65, Tryz.ntmps65
    go_wp2
    go_ret
    exact ⟨rfl, hx⟩
  · obtain ⟨b, o, cs, ha, hr, rfl⟩ := hs 3 _ rfl
    simp only at ha
    subst ha
    have c1 := hr 0 _ rfl
    simp only [Nat.mul_one, Nat.add_zero] at c1
    clear hs hr
    go_enter Tryz.func65, Tryz.ntmps65
    go_wp2
    go_ret
    exact ⟨rfl, hx⟩
end Go.Proofs.YtmghhakebhgckaaGreatDoor

namespace Go.Proofs.YtmghhakebhgckaaGreatDoor
set_option linter.unusedSimpArgs false
set_option linter.unusedVariables false
open Go.RowKit

def itoaB (n : Int) : ByteArray := ⟨(Lib.itoa n).toArray⟩
theorem itoa_small (n : Int) (h0 : 0 ≤ n) (h1 : n < 100) (w : World) : Calls Tryz.prog 64 #[.int .i64 n] w fun e w' => e = .returned (.string (itoaB n)) ∧ w' = w := by
  obtain ⟨i, rfl⟩ := Int.eq_ofNat_of_zero_le h0
  refine (Tryz.strconv_Itoa_small i (by omega) w).mono ?_
  rintro e w' ⟨rfl, rfl⟩
  refine ⟨?_, rfl⟩
  unfold itoaB Lib.itoa
  rw [if_neg (by omega)]
  rfl
theorem one_str (x : ByteArray) : ∀ u ∈ [Value.string x], u.oneCell' = true := by intro u hu; simp at hu; subst hu; rfl
set_option maxHeartbeats 1600000 in
theorem digits_any (s : SV) (l : List Int) (w : World) (hs : IntsAt w s l) (hr : ∀ n ∈ l, 0 ≤ n ∧ n < 100) (hl : l.length ≤ 1048576) :
    Calls Tryz.prog 66 #[.slice s.a s.len s.cap] w fun e w' => ∃ v, e = .returned v ∧ w'.ownsRow w.heap.size 9 1 v l.length ((l.map itoaB).flatMap encS) ∧ Ext w w' := by
  obtain ⟨a, n, cap⟩ := s
  obtain ⟨hn, hs⟩ := hs
  simp only at hn
  subst hn
  have Hs := hide hs
  have Hr := hide hr
  clear hs hr
  go_enter Tryz.func66, Tryz.ntmps66
  go_wp2
  go_loopw [3, 8] (fun v i wr => ∃ k : Nat, k ≤ l.length ∧ i = .int .i64 k ∧ wr.ownsRow w.heap.size 9 1 v k (((l.map itoaB).take k).flatMap encS) ∧ Ext w wr) (fun v i wr => l.length - (intOf i).toNat)
  case atStart => exact ⟨0, by omega, rfl, World.ownsRow_nil _ _ _ _, Ext.refl _⟩
  case round =>
    obtain ⟨k, hk, rfl, ho, hx⟩ := hrel
    by_cases hlt : k < l.length
    · obtain ⟨b, o, cs, ha, hr, rfl⟩ := (unhide Hs) k l[k] (by simp [hlt])
      subst ha
      have c0 := hx.cell (hr 0 _ rfl)
      simp only [Nat.mul_one, Nat.add_zero] at c0
      have hkr := (unhide Hr) l[k] (List.getElem_mem hlt)
      have hfl : ((l.map itoaB).take (k + 1)).flatMap encS = ((l.map itoaB).take k).flatMap encS ++ encS (itoaB l[k]) := by
        rw [flat_take (by simpa using hlt)]; simp
      have Hfl := hide hfl
      clear hr hfl Hs Hr
      generalize l[k] = m at *
      have hz : w.heap.size ≤ wr.heap.size := hx.size
      go_wp2_with fail
      refine (itoa_small m hkr.1 hkr.2 wr).mono ?_
      rintro e w1 ⟨rfl, hw1⟩
      rw [hw1]
      clear hw1
      go_wp2_with (at_builtin; refine wpList_app1 _ _ 72 9 (.string ⟨#[]⟩) 1 16 Tryz.underlying72 info9 rfl (by decide) (by decide) rfl rfl w.heap.size _ k _ rfl (ho.alloc _) wr.heap.size 1 [.string (itoaB m)] rfl rfl ?c1 ?c2 ?c3 ?c4 ?_)
      case c1 => exact range_of_new1 _ _ _ (by simp)
      case c2 => exact one_str _
      case c3 => omega
      case c4 => simp; omega
      intro v' w2 ho2 hg2
      have hx2 : Ext w w2 := (hx.alloc _).owned hg2 (ho.alloc _) (by simp)
      have Ho2 : Hid (w2.ownsRow w.heap.size 9 1 v' (k + 1) (((l.map itoaB).take (k + 1)).flatMap encS)) := by
        unfold Hid; rw [unhide Hfl]; exact ho2
      clear ho2 hg2 ho
      go_wp2
      exact ⟨⟨k + 1, by omega, by go_num, unhide Ho2, hx2⟩, by simp [intOf]; omega⟩
    · have e : k = l.length := by omega
      subst e
      rw [List.take_of_length_le (by simp)] at ho
      have Ho := hide ho
      clear ho
      go_wp2
      go_ret
      exact ⟨_, rfl, unhide Ho, hx⟩
end Go.Proofs.YtmghhakebhgckaaGreatDoor

namespace Go.Proofs.YtmghhakebhgckaaGreatDoor
set_option linter.unusedSimpArgs false
set_option linter.unusedVariables false
open Go.RowKit
section
variable {P : Program} {ops : Array Oper} {Q : Exit → Act → World → Prop} {S : World → Prop} {B : Nat → Bool}
theorem wpOp_X {j : Nat} {oj : Oper} {fuel : Nat} {listed : Array Bool} {a : Act} {w : World} (hj : ops[j]? = some oj) (hB : B j = false)
    (h : ∀ K : Act → World → Prop, Hid (∀ a' w', S w' → wpAnyX P ops Q S B fuel (listed.setIfInBounds j true) a' w' → K a' w') → wpList P ops (Exit.then K Q) [oj] a w) :
    wpOp P ops Q j (fun a' w' => (B j = true → wpAny P .any ops Q fuel (listed.setIfInBounds j true) a' w') ∧ (B j = false → S w' ∧ wpAnyX P ops Q S B fuel (listed.setIfInBounds j true) a' w')) a w := by
  have h1 := h (fun a' w' => S w' ∧ wpAnyX P ops Q S B fuel (listed.setIfInBounds j true) a' w') (fun _ _ hS hX => ⟨hS, hX⟩)
  unfold wpOp
  simp only [hj]
  unfold wpList at h1
  split
  · rename_i hw
    rw [if_pos hw] at h1
    rcases h1 with h1 | h1
    · refine .inl (wp_then (N := wpList P ops (Exit.then (fun a' w' => S w' ∧ wpAnyX P ops Q S B fuel (listed.setIfInBounds j true) a' w') Q) []) (fun a' w' hh => ⟨fun h => (by rw [hB] at h; cases h), fun _ => hh⟩) h1)
    · exact .inr h1
  · rename_i hw
    rw [if_neg hw] at h1
    exact ⟨fun h => (by rw [hB] at h; cases h), fun _ => h1⟩
/-- One of two comes up. -/
theorem wpAnyX_two {i j : Nat} {oi oj : Oper} {fuel : Nat} {listed : Array Bool} {a : Act} {w : World} (hi : ops[i]? = some oi) (hj : ops[j]? = some oj) (hr : Region.ready .any ops listed = [i, j]) (hBi : B i = false) (hBj : B j = false)
    (h1 : ∀ K : Act → World → Prop, Hid (∀ a' w', S w' → wpAnyX P ops Q S B fuel (listed.setIfInBounds i true) a' w' → K a' w') → wpList P ops (Exit.then K Q) [oi] a w)
    (h2 : ∀ K : Act → World → Prop, Hid (∀ a' w', S w' → wpAnyX P ops Q S B fuel (listed.setIfInBounds j true) a' w' → K a' w') → wpList P ops (Exit.then K Q) [oj] a w) : wpAnyX P ops Q S B (fuel + 1) listed a w := by
  refine And.intro (fun e => by rw [hr] at e; cases e) (fun k hk => ?_)
  rw [hr] at hk
  simp only [List.mem_cons, List.not_mem_nil, or_false] at hk
  rcases hk with rfl | rfl
  · exact wpOp_X hi hBi h1
  · exact wpOp_X hj hBj h2
end
/-- The table of powers of ten that Itoa reads. -/
def TabAt (w : World) : Prop := Lib.TabIs Tryz.prog w "internal/strconv.uint64pow10" .u64 Lib.pow10Tab
theorem TabAt.ext {w w' : World} (h : TabAt w) (hx : Ext w w') : TabAt w' := by
  unfold TabAt Lib.TabIs World.var? at *
  cases hg : Tryz.prog.globalNamed "internal/strconv.uint64pow10" with
  | none => rw [hg] at h; cases h
  | some g =>
    rw [hg] at h
    simp only [Option.bind_some] at h ⊢
    cases hc : w.heap[g]? with
    | none => rw [hc] at h; cases h
    | some o => rw [hc] at h; rw [hx.heap hc]; exact h
theorem Ext.grow {w : World} (k : Nat) (os : Array Obj) : Ext w (Go.Sort.grow (w.drewN k) os) := by
  refine ⟨rfl, rfl, rfl, by simp [Go.Sort.grow, World.drewN], fun i hi => ?_⟩
  simp only [Go.Sort.grow, World.drewN]
  rw [Array.getElem?_append_left hi]
theorem itoa_any (n : Int) (h0 : -9223372036854775808 ≤ n) (h1 : n ≤ 9223372036854775807) (w : World) (ht : TabAt w) : Calls Tryz.prog 64 #[.int .i64 n] w fun e w' => e = .returned (.string (itoaB n)) ∧ Ext w w' := by
  refine (Tryz.strconv_Itoa n h0 h1 w ht).mono ?_
  rintro e w' ⟨rfl, k, os, rfl⟩
  exact ⟨rfl, Ext.grow k os⟩
end Go.Proofs.YtmghhakebhgckaaGreatDoor

namespace Go.Proofs.YtmghhakebhgckaaGreatDoor
set_option linter.unusedSimpArgs false
set_option linter.unusedVariables false
open Go.RowKit
section
variable {P : Program} {ops : Array Oper} {Q : Exit → Act → World → Prop} {S S' : World → Prop} {B : Nat → Bool}
theorem wpAnyX_mono (h : ∀ w, S' w → S w) : ∀ (fuel : Nat) (listed : Array Bool) (a : Act) (w : World), wpAnyX P ops Q S' B fuel listed a w → wpAnyX P ops Q S B fuel listed a w
  | 0, _, _, _, h1 => h1
  | fuel + 1, _, _, _, h1 => ⟨h1.1, fun j hj => wpOp_mono (fun a' w' h' => ⟨h'.1, fun hB => ⟨h _ (h'.2 hB).1, wpAnyX_mono h fuel _ a' w' (h'.2 hB).2⟩⟩) (h1.2 j hj)⟩
theorem wpAnyX_three {i j k : Nat} {oi oj ok : Oper} {fuel : Nat} {listed : Array Bool} {a : Act} {w : World} (hi : ops[i]? = some oi) (hj : ops[j]? = some oj) (hk : ops[k]? = some ok) (hr : Region.ready .any ops listed = [i, j, k]) (hBi : B i = false) (hBj : B j = false) (hBk : B k = false)
    (h1 : ∀ K : Act → World → Prop, Hid (∀ a' w', S w' → wpAnyX P ops Q S B fuel (listed.setIfInBounds i true) a' w' → K a' w') → wpList P ops (Exit.then K Q) [oi] a w)
    (h2 : ∀ K : Act → World → Prop, Hid (∀ a' w', S w' → wpAnyX P ops Q S B fuel (listed.setIfInBounds j true) a' w' → K a' w') → wpList P ops (Exit.then K Q) [oj] a w)
    (h3 : ∀ K : Act → World → Prop, Hid (∀ a' w', S w' → wpAnyX P ops Q S B fuel (listed.setIfInBounds k true) a' w' → K a' w') → wpList P ops (Exit.then K Q) [ok] a w) : wpAnyX P ops Q S B (fuel + 1) listed a w := by
  refine And.intro (fun e => by rw [hr] at e; cases e) (fun m hm => ?_)
  rw [hr] at hm
  simp only [List.mem_cons, List.not_mem_nil, or_false] at hm
  rcases hm with rfl | rfl | rfl
  · exact wpOp_X hi hBi h1
  · exact wpOp_X hj hBj h2
  · exact wpOp_X hk hBk h3
end
end Go.Proofs.YtmghhakebhgckaaGreatDoor

namespace Go.Proofs.YtmghhakebhgckaaGreatDoor
set_option linter.unusedSimpArgs false
set_option linter.unusedVariables false
open Go.RowKit

def headB (t : TypeM) : List UInt8 := (if t.enum then [101, 110, 117, 109, 32] else [109, 101, 115, 115, 97, 103, 101, 32]) ++ t.name.toList ++ [32, 123, 10]
def itemB (i : ItemM) : List UInt8 := lineB (itoaB i.n) [i.name]
def fieldB (f : FieldM) : List UInt8 := lineB (itoaB f.id) [ruleWordM f, typeWordM f, f.name]
def goneB (l : List Int) : List UInt8 := if 0 < l.length then lineB ⟨#[103, 111, 110, 101]⟩ (l.map itoaB) else []
def typeB (t : TypeM) : List UInt8 := headB t ++ t.items.flatMap itemB ++ t.fields.flatMap fieldB ++ goneB t.gone ++ [125, 10]
/-- What printing asks of a type. -/
structure PrOk (t : TypeM) : Prop where
  f : ∀ x ∈ t.fields, (0 ≤ x.id ∧ x.id < 100) ∧ (1 ≤ x.rule ∧ x.rule ≤ 3) ∧ 1 ≤ x.kind ∧ x.kind ≤ 5
  g : ∀ n ∈ t.gone, 0 ≤ n ∧ n < 100
  i : ∀ x ∈ t.items, -9223372036854775808 ≤ x.n ∧ x.n ≤ 9223372036854775807
theorem Ext.wfr {w0 w w' : World} {b : Nat} (h : Ext w0 w) (k : WFr w0.heap.size b w w') : Ext w0 w' := Below.trans (B := w0.heap.size) h k.below

theorem len1 {acc : List UInt8} {a : ByteArray} (h1 : acc.length ≤ 1099511627776) (h2 : a.size ≤ 1099511627776) : acc.length + a.size ≤ 140737488355328 := by omega
theorem len2 {acc : List UInt8} {a b : ByteArray} (h1 : acc.length ≤ 1099511627776) (h2 : a.size ≤ 1099511627776) (h3 : b.size ≤ 1099511627776) : (acc ++ a.toList).length + b.size ≤ 140737488355328 := by
  rw [List.length_append, size_toList]; omega
theorem len3 {acc : List UInt8} {a b c : ByteArray} (h1 : acc.length ≤ 1099511627776) (h2 : a.size ≤ 1099511627776) (h3 : b.size ≤ 1099511627776) (h4 : c.size ≤ 1099511627776) : (acc ++ a.toList ++ b.toList).length + c.size ≤ 140737488355328 := by
  rw [List.length_append, List.length_append, size_toList, size_toList]; omega
theorem strs_row {w : World} {base : Nat} {v : Value} {l : List ByteArray} (h : w.ownsRow base 9 1 v l.length (l.flatMap encS)) (hne : 0 < l.length) :
    ∃ (g cap : Nat) (cur : Array Value), v = .slice (some ⟨g, 0, none⟩) l.length cap ∧ w.heap[g]? = some (.cells cur 9 (0, 0)) ∧ ∀ (i : Nat) (x : ByteArray), l[i]? = some x → cur[i]? = some (.string x) := by
  rcases h.2 with ⟨_, h0⟩ | ⟨g, cap, cur, rfl, hb, hg, hc, hm, hs, ht⟩
  · omega
  · refine ⟨g, cap, cur, rfl, hg, fun i x hx => ?_⟩
    have hi := (List.getElem?_eq_some_iff.1 hx).1
    have key := flat_get encS (fun _ => rfl) l i 0 x hx (by decide)
    rw [Nat.mul_one, Nat.add_zero, ← ht, List.getElem?_take, if_pos (by omega)] at key
    simpa [encS] using key
set_option maxHeartbeats 6400000 in
theorem printType_any (w0 : World) (b : Nat) (acc : List UInt8) (tv : TV) (t : TypeM) (w : World) (hx : Ext w0 w) (ht : TypeAt w0 tv t) (hn : t.Small) (hok : PrOk t) (hn1 : NamesAt w0 1 rulesL) (hn2 : NamesAt w0 2 kindsL) (htab : TabAt w0)
    (hbl : Bld w w0.heap.size b acc) (hsz : acc.length + (typeB t).length ≤ 1099511627776) :
    Calls Tryz.prog 41 #[.pointer (some ⟨b, 0, none⟩), .agg #[.string tv.name, .bool tv.enum, .slice tv.fields.a tv.fields.len tv.fields.cap, .slice tv.gone.a tv.gone.len tv.gone.cap, .slice tv.items.a tv.items.len tv.items.cap]] w fun e w' => e = .returned (.tuple #[]) ∧ Bld w' w0.heap.size b (acc ++ typeB t) ∧ WFr w0.heap.size b w w' := by
  obtain ⟨nm, en, ⟨fa, fl, fc⟩, ⟨ga, gl, gc⟩, ⟨ia, il, ic⟩⟩ := tv
  have e1 := ht.name
  have e2 := ht.enum
  have n1 := hn.fields
  have n2 := hn.gone
  have n3 := hn.items
  obtain ⟨l1, f1⟩ := ht.fields
  have f2 := ht.gone
  have l2 := ht.gone.1
  obtain ⟨l3, f3⟩ := ht.items
  simp only at e1 e2 l1 l2 l3
  subst e1 e2 l1 l2 l3
  obtain ⟨nm, en, fs, gs, is⟩ := t
  simp only at f1 f2 f3 n1 n2 n3 ⊢
  have F1 := hide f1
  have F2 := hide f2
  have F3 := hide f3
  have Hok := hide hok
  have Hsz : Hid (acc.length + (headB ⟨nm, en, fs, gs, is⟩).length + (is.flatMap itemB).length + (fs.flatMap fieldB).length + (goneB gs).length + 2 ≤ 1099511627776) := by
    unfold Hid
    have := hsz
    unfold typeB at this
    simp only [List.length_append, List.length_cons, List.length_nil] at this
    omega
  have hnm : nm.size + acc.length ≤ 1099511627776 := by
    have := unhide Hsz
    unfold headB at this
    simp only [List.length_append, List.length_cons, List.length_nil, size_toList] at this
    omega
  have hal : acc.length ≤ 1099511627776 := by omega
  have hns : nm.size ≤ 1099511627776 := by omega
  clear ht hn hok f1 f2 f3 hsz hnm
  have hB : w0.heap.size ≤ w.heap.size := hx.size
  have hx1 : Ext w (w.alloc (.cells #[.string nm, .bool en, .slice fa fs.length fc, .slice ga gs.length gc, .slice ia is.length ic] 30)) := (Ext.refl w).alloc _
  have hT1 := heap_alloc_new w (.cells #[.string nm, .bool en, .slice fa fs.length fc, .slice ga gs.length gc, .slice ia is.length ic] 30)
  have hb1 := hbl.ext hx1
  have hwf1 : WFr w0.heap.size b w (w.alloc (.cells #[.string nm, .bool en, .slice fa fs.length fc, .slice ga gs.length gc, .slice ia is.length ic] 30)) := WFr.of_ext hx1 hB
  have hTb : w.heap.size ≠ b := by
    obtain ⟨_, c, f, hb⟩ := bld_head hb1
    exact heap_ne hT1 hb (by decide)
  have hacc : Hid (∀ k : List UInt8, k = (if en then [101, 110, 117, 109, 32] else [109, 101, 115, 115, 97, 103, 101, 32]) → acc ++ k ++ nm.toList ++ (ByteArray.mk #[32, 123, 10]).toList = acc ++ headB ⟨nm, en, fs, gs, is⟩) := by
    rintro k rfl
    rw [Lib.toList_data ⟨#[32, 123, 10]⟩]
    simp [headB]
  cases en
  · go_enter Tryz.func41, Tryz.ntmps41
    go_wp2_with fail
    refine (write_any w0.heap.size b acc _ _ hb1 (len1 hal (by decide)) (Nat.le_trans hB hx1.size)).mono ?_
    rintro e w2 ⟨rfl, h2, f2⟩
    have hT2 := f2.heap hT1 hTb (by decide)
    have hwf2 := hwf1.trans f2
    have hB2 := Nat.le_trans hB hwf2.below.size
    obtain ⟨a0, a1, a2, a3, a4, af⟩ := row5 hT2
    go_wp2_with fail
    refine (write_any w0.heap.size b _ nm w2 h2 (len2 hal (by decide) hns) hB2).mono ?_
    rintro e w3 ⟨rfl, h3, f3⟩
    have hT3 := f3.heap hT2 hTb (by decide)
    have hwf3 := hwf2.trans f3
    have hB3 := Nat.le_trans hB hwf3.below.size
    clear h2 f2 hT1 hT2 a0 a1 a2 a3 a4 af
    obtain ⟨a0, a1, a2, a3, a4, af⟩ := row5 hT3
    go_wp2_with fail
    refine (write_any w0.heap.size b _ _ w3 h3 (len3 hal (by decide) hns (by decide)) hB3).mono ?_
    rintro e w4 ⟨rfl, h4, f4⟩
    have hT4 := f4.heap hT3 hTb (by decide)
    have hwf4 := hwf3.trans f4
    rw [unhide hacc _ (by rw [Lib.toList_data]; rfl)] at h4
    clear h3 f3 f4 hT3 a0 a1 a2 a3 a4 af hwf1 hwf2 hwf3 hb1
    obtain ⟨a0, a1, a2, a3, a4, af⟩ := row5 hT4
    go_wp2
    go_loopw [23] (fun i wr => ∃ k : Nat, k ≤ is.length ∧ i = .int .i64 k ∧ Bld wr w0.heap.size b (acc ++ headB ⟨nm, false, fs, gs, is⟩ ++ (is.take k).flatMap itemB) ∧ WFr w0.heap.size b w wr ∧ wr.heap[w.heap.size]? = some (.cells #[.string nm, .bool false, .slice fa fs.length fc, .slice ga gs.length gc, .slice ia is.length ic] 30 (0, 0))) (fun i wr => is.length - (intOf i).toNat)
    case atStart => exact ⟨0, by omega, rfl, by simpa using h4, hwf4, hT4⟩
    case round =>
      clear h4 hwf4 hT4 a0 a1 a2 a3 a4 af
      obtain ⟨k, hk, rfl, hbl, hwf, hT⟩ := hrel
      obtain ⟨a0, a1, a2, a3, a4, af⟩ := row5 hT
      have hxr := hx.wfr hwf
      have zT := lt_of_heap hT
      by_cases hlt : k < is.length
      · obtain ⟨bb, o, cs, ha, hr, rfl⟩ := (unhide F3) k is[k] (by simp [hlt])
        subst ha
        obtain ⟨c0, c1⟩ := range2 (hxr.range hr)
        have hnn := (unhide Hok).i is[k] (List.getElem_mem hlt)
        have EA : Hid (acc ++ headB ⟨nm, false, fs, gs, is⟩ ++ (is.take k).flatMap itemB ++ lineB (itoaB is[k].n) [is[k].name] = acc ++ headB ⟨nm, false, fs, gs, is⟩ ++ (is.take (k + 1)).flatMap itemB) := by
          unfold Hid; rw [flat_take hlt, List.append_assoc _ ((is.take k).flatMap itemB)]; rfl
        have EL : Hid ((acc ++ headB ⟨nm, false, fs, gs, is⟩ ++ (is.take k).flatMap itemB).length + (lineB (itoaB is[k].n) [is[k].name]).length ≤ 1099511627776) := by
          unfold Hid
          have e := congrArg List.length (unhide EA)
          rw [List.length_append] at e
          rw [e, List.length_append, List.length_append]
          have := take_flat_le is itemB (k + 1)
          have := unhide Hsz
          omega
        generalize is[k] = it at *
        obtain ⟨x, n⟩ := it
        simp only at hnn EA EL c0 c1
        clear hr F3 F1 F2
        have hxI : Ext wr (wr.alloc (.cells #[.string x, .int .i64 n] 55)) := (Ext.refl wr).alloc _
        have hI := heap_alloc_new wr (.cells #[.string x, .int .i64 n] 55)
        have hBr : w0.heap.size ≤ wr.heap.size := hxr.size
        have hblI := hbl.ext hxI
        have hIb : wr.heap.size ≠ b := by
          obtain ⟨_, c, f, hb⟩ := bld_head hblI
          exact heap_ne hI hb (by decide)
        have hTI := hxI.heap hT
        have hS0 : (wr.alloc (.cells #[.string x, .int .i64 n] 55)).cell? ⟨wr.heap.size, 0, none⟩ = some (.string x) ∧ (wr.alloc (.cells #[.string x, .int .i64 n] 55)).cell? ⟨wr.heap.size, 1, none⟩ = some (.int .i64 n) := ⟨cell_of_row _ _ 0 _ _ _ hI, cell_of_row _ _ 1 _ _ _ hI⟩
        have hwfI := hwf.trans (WFr.of_ext (b := b) hxI hBr)
        go_wp2_with fail
        refine wp_region_X (fun w' => w'.cell? ⟨wr.heap.size, 0, none⟩ = some (.string x) ∧ w'.cell? ⟨wr.heap.size, 1, none⟩ = some (.int .i64 n)) (fun _ => false) (by kernel_rfl) ?_
        refine wpAnyX_take (i := 0) (v := .pointer (some ⟨b, 0, none⟩)) rfl (by kernel_rfl) (by kernel_rfl) (fun _ _ _ h => h) (.inl ⟨rfl, fun w' hS => by simp [execOp, go_sem]⟩) hS0 ?_
        simp only [Act.put, List.setIfInBounds_toArray, List.set_cons_succ, List.set_cons_zero]
        refine wpAnyX_take (i := 1) (v := .pointer (some ⟨wr.heap.size, 1, none⟩)) rfl (by kernel_rfl) (by kernel_rfl) (fun _ _ _ h => h) (.inl ⟨rfl, fun w' hS => by simp [execOp, go_sem]⟩) hS0 ?_
        simp only [Act.put, List.setIfInBounds_toArray, List.set_cons_succ, List.set_cons_zero]
        refine wpAnyX_take (i := 2) (v := .int .i64 n) rfl (by kernel_rfl) (by kernel_rfl) (fun _ _ _ h => h) (.inl ⟨rfl, fun w' hS => by simp [execOp, go_sem, hS.2]⟩) hS0 ?_
        simp only [Act.put, List.setIfInBounds_toArray, List.set_cons_succ, List.set_cons_zero]
        refine wpAnyX_take (i := 4) (v := .pointer (some ⟨wr.heap.size, 0, none⟩)) rfl (by kernel_rfl) (by kernel_rfl) (fun _ _ _ h => h) (.inl ⟨rfl, fun w' hS => by simp [execOp, go_sem]⟩) hS0 ?_
        simp only [Act.put, List.setIfInBounds_toArray, List.set_cons_succ, List.set_cons_zero]
        refine wpAnyX_take (i := 5) (v := .string x) rfl (by kernel_rfl) (by kernel_rfl) (fun _ _ _ h => h) (.inl ⟨rfl, fun w' hS => by simp [execOp, go_sem, hS.1]⟩) hS0 ?_
        simp only [Act.put, List.setIfInBounds_toArray, List.set_cons_succ, List.set_cons_zero]
        refine wpAnyX_two (i := 3) (j := 6) rfl rfl (by kernel_rfl) rfl rfl (fun K hK => ?_) (fun K hK => ?_)
        · go_wp2_with fail
          refine (itoa_any n hnn.1 hnn.2 _ (htab.ext ((hxr.trans hxI).drew))).mono ?_
          rintro e w5 ⟨rfl, hx5⟩
          have hx5' : Ext (wr.alloc (.cells #[.string x, .int .i64 n] 55)) w5 := ((Ext.refl _).drew).trans hx5
          have hS5 : w5.cell? ⟨wr.heap.size, 0, none⟩ = some (.string x) ∧ w5.cell? ⟨wr.heap.size, 1, none⟩ = some (.int .i64 n) := ⟨hx5'.cell hS0.1, hx5'.cell hS0.2⟩
          go_wp2
          refine hK.out _ _ hS5 ?_
          clear hK K
          refine wpAnyX_one (j := 6) rfl (by kernel_rfl) rfl fun K hK => ?_
          have hx6 : Ext w5 (w5.alloc (.cells #[.string x] 9)) := (Ext.refl w5).alloc _
          have hrowW := heap_alloc_new w5 (.cells #[.string x] 9)
          have hx56 := hx5'.trans hx6
          have hbW := hblI.ext hx56
          have hBW := (Nat.le_trans hBr (Nat.le_trans hxI.size hx56.size))
          have hTW := hx56.heap hTI
          have hIW := hx56.heap hI
          have hwfW := hwfI.trans (WFr.of_ext (b := b) hx56 (Nat.le_trans hBr hxI.size))
          have hSW := And.intro (hx6.cell hS5.1) (hx6.cell hS5.2)
          go_wp2
          refine hK.out _ _ hSW ?_
          clear hK K hbl hwf hT hblI hTI hwfI hS0 hS5 hSW a0 a1 a2 a3 a4 af c0 c1
          refine wpAnyX_one (j := 7) rfl (by kernel_rfl) rfl fun K hK => ?_
          go_wp2_with fail
          refine (printLine_any w0.heap.size b w5.heap.size 1 #[.string x] (0, 0) _ (itoaB n) [x] _ hbW hBW hrowW (by intro i y hy; match i, hy with | 0, hy => cases hy; rfl) (by simp) (unhide EL)).mono ?_
          rintro e w6 ⟨rfl, h6, f6⟩
          have hT6 := f6.heap hTW hTb (by decide)
          have hwf6 := hwfW.trans f6
          have hS6 : w6.cell? ⟨wr.heap.size, 0, none⟩ = some (.string x) ∧ w6.cell? ⟨wr.heap.size, 1, none⟩ = some (.int .i64 n) :=
            have hI6 := f6.heap hIW hIb (by decide)
            ⟨cell_of_row _ _ 0 _ _ _ hI6, cell_of_row _ _ 1 _ _ _ hI6⟩
          rw [unhide EA] at h6
          have H6 := hide h6
          clear hbW hBW hrowW hTW hwfW hIW h6 f6
          go_wp2
          refine hK.out _ _ hS6 ?_
          clear hK K
          refine wpAnyX_end [] [] rfl (by intro j i hj; simp at hj) (by kernel_rfl) (by intro i hi; simp at hi) fun K hK => ?_
          go_wp2
          refine hK.out _ _ ?_
          clear hK K
          go_wp2
          exact ⟨⟨k + 1, by omega, by go_num, unhide H6, hwf6, hT6⟩, by simp [intOf]; omega⟩
        · have hx6 : Ext (wr.alloc (.cells #[.string x, .int .i64 n] 55)) ((wr.alloc (.cells #[.string x, .int .i64 n] 55)).alloc (.cells #[.string x] 9)).drew := ((Ext.refl _).alloc _).drew
          have hS5 := And.intro (hx6.cell hS0.1) (hx6.cell hS0.2)
          go_wp2
          refine hK.out _ _ hS5 ?_
          clear hK K
          refine wpAnyX_one (j := 3) rfl (by kernel_rfl) rfl fun K hK => ?_
          go_wp2_with fail
          refine (itoa_any n hnn.1 hnn.2 _ (htab.ext ((hxr.trans hxI).trans hx6))).mono ?_
          rintro e w7 ⟨rfl, hx7⟩
          have hrowW := hx7.heap (show ((wr.alloc (.cells #[.string x, .int .i64 n] 55)).alloc (.cells #[.string x] 9)).drew.heap[wr.heap.size + 1]? = some (.cells #[.string x] 9 (0, 0)) from heap_alloc2_new _ _ _)
          have hx67 := hx6.trans hx7
          have hbW := hblI.ext hx67
          have hBW := (Nat.le_trans hBr (Nat.le_trans hxI.size hx67.size))
          have hTW := hx67.heap hTI
          have hIW := hx67.heap hI
          have hwfW := hwfI.trans (WFr.of_ext (b := b) hx67 (Nat.le_trans hBr hxI.size))
          have hSW := And.intro (hx67.cell hS0.1) (hx67.cell hS0.2)
          go_wp2
          refine hK.out _ _ hSW ?_
          clear hK K hbl hwf hT hblI hTI hwfI hS0 hS5 hSW a0 a1 a2 a3 a4 af c0 c1
          refine wpAnyX_one (j := 7) rfl (by kernel_rfl) rfl fun K hK => ?_
          go_wp2_with fail
          refine (printLine_any w0.heap.size b (wr.heap.size + 1) 1 #[.string x] (0, 0) _ (itoaB n) [x] _ hbW hBW hrowW (by intro i y hy; match i, hy with | 0, hy => cases hy; rfl) (by simp) (unhide EL)).mono ?_
          rintro e w6 ⟨rfl, h6, f6⟩
          have hT6 := f6.heap hTW hTb (by decide)
          have hwf6 := hwfW.trans f6
          have hS6 : w6.cell? ⟨wr.heap.size, 0, none⟩ = some (.string x) ∧ w6.cell? ⟨wr.heap.size, 1, none⟩ = some (.int .i64 n) :=
            have hI6 := f6.heap hIW hIb (by decide)
            ⟨cell_of_row _ _ 0 _ _ _ hI6, cell_of_row _ _ 1 _ _ _ hI6⟩
          rw [unhide EA] at h6
          have H6 := hide h6
          clear hbW hBW hrowW hTW hwfW hIW h6 f6
          go_wp2
          refine hK.out _ _ hS6 ?_
          clear hK K
          refine wpAnyX_end [] [] rfl (by intro j i hj; simp at hj) (by kernel_rfl) (by intro i hi; simp at hi) fun K hK => ?_
          go_wp2
          refine hK.out _ _ ?_
          clear hK K
          go_wp2
          exact ⟨⟨k + 1, by omega, by go_num, unhide H6, hwf6, hT6⟩, by simp [intOf]; omega⟩
      · have e : k = is.length := by omega
        subst e
        rw [List.take_length] at hbl
        have Hbl := hide hbl
        clear hbl hk hlt
        go_wp2
        go_loopw [39] (fun i wr => ∃ k : Nat, k ≤ fs.length ∧ i = .int .i64 k ∧ Bld wr w0.heap.size b (acc ++ headB ⟨nm, false, fs, gs, is⟩ ++ is.flatMap itemB ++ (fs.take k).flatMap fieldB) ∧ WFr w0.heap.size b w wr ∧ wr.heap[w.heap.size]? = some (.cells #[.string nm, .bool false, .slice fa fs.length fc, .slice ga gs.length gc, .slice ia is.length ic] 30 (0, 0))) (fun i wr => fs.length - (intOf i).toNat)
        case atStart => exact ⟨0, by omega, rfl, by simpa using unhide Hbl, hwf, hT⟩
        case round =>
          clear Hbl hwf hT a0 a1 a2 a3 a4 af hxr zT
          obtain ⟨k, hk, rfl, hbl, hwf, hT⟩ := hrel
          obtain ⟨a0, a1, a2, a3, a4, af⟩ := row5 hT
          have hxr := hx.wfr hwf
          have zT := lt_of_heap hT
          by_cases hlt : k < fs.length
          · obtain ⟨bb, o, cs, ha, hr, rfl⟩ := (unhide F1) k fs[k] (by simp [hlt])
            subst ha
            obtain ⟨c0, c1, c2, c3, c4⟩ := range5 (hxr.range hr)
            obtain ⟨hnn, hrl, hkd⟩ := (unhide Hok).f fs[k] (List.getElem_mem hlt)
            have EA : Hid (acc ++ headB ⟨nm, false, fs, gs, is⟩ ++ is.flatMap itemB ++ (fs.take k).flatMap fieldB ++ lineB (itoaB fs[k].id) [ruleWordM fs[k], typeWordM fs[k], fs[k].name] = acc ++ headB ⟨nm, false, fs, gs, is⟩ ++ is.flatMap itemB ++ (fs.take (k + 1)).flatMap fieldB) := by
              unfold Hid; rw [flat_take hlt, List.append_assoc _ ((fs.take k).flatMap fieldB)]; rfl
            have EL : Hid ((acc ++ headB ⟨nm, false, fs, gs, is⟩ ++ is.flatMap itemB ++ (fs.take k).flatMap fieldB).length + (lineB (itoaB fs[k].id) [ruleWordM fs[k], typeWordM fs[k], fs[k].name]).length ≤ 1099511627776) := by
              unfold Hid
              have e := congrArg List.length (unhide EA)
              rw [List.length_append] at e
              rw [e, List.length_append, List.length_append, List.length_append]
              have := take_flat_le fs fieldB (k + 1)
              have := unhide Hsz
              omega
            generalize fs[k] = f at *
            obtain ⟨id, fn, ty, kd, rl⟩ := f
            simp only at hnn hrl hkd EA EL c0 c1 c2 c3 c4
            obtain ⟨r, rfl⟩ : ∃ r : Nat, rl = r := ⟨rl.toNat, by omega⟩
            have hr4 : r < 4 := by omega
            have hr4i : (r : Int) < 4 := by omega
            obtain ⟨tw, Htw⟩ : ∃ tw, Hid (typeWordM ⟨id, fn, ty, kd, r⟩ = tw) := ⟨_, rfl⟩
            obtain ⟨rw, hrw⟩ : ∃ rw, ruleWordM ⟨id, fn, ty, kd, r⟩ = rw := ⟨_, rfl⟩
            obtain ⟨⟨ra, rn, rc⟩, hrc, hrl1, hrs⟩ := hn1
            have hrn : rn = 4 := hrl1
            subst hrn
            obtain ⟨rb, ro, rcs, hra, hrr, rfl⟩ := hrs r rw (by
              rw [← hrw]; unfold ruleWordM
              have : r = 1 ∨ r = 2 ∨ r = 3 := by omega
              rcases this with rfl | rfl | rfl <;> rfl)
            simp only at hra hrc
            subst hra
            have hrr0 := hrr 0 _ rfl
            simp only [Nat.mul_one, Nat.add_zero] at hrr0
            have Hrw := hide hrw
            clear hr hrs hrr hrw hrl1
            have hxI : Ext wr (wr.alloc (.cells #[.int .i64 id, .string fn, .string ty, .int .i64 kd, .int .i64 r] 34)) := (Ext.refl wr).alloc _
            have hI := heap_alloc_new wr (.cells #[.int .i64 id, .string fn, .string ty, .int .i64 kd, .int .i64 r] 34)
            have hBr : w0.heap.size ≤ wr.heap.size := hxr.size
            have hblI := hbl.ext hxI
            have hIb : wr.heap.size ≠ b := by
              obtain ⟨_, c, f, hb⟩ := bld_head hblI
              exact heap_ne hI hb (by decide)
            have hTI := hxI.heap hT
            have hSof : ∀ W : World, Ext w0 W → W.heap[wr.heap.size]? = some (.cells #[.int .i64 id, .string fn, .string ty, .int .i64 kd, .int .i64 r] 34 (0, 0)) → W.cell? ⟨wr.heap.size, 0, none⟩ = some (.int .i64 id) ∧ W.cell? ⟨wr.heap.size, 1, none⟩ = some (.string fn) ∧ W.cell? ⟨wr.heap.size, 2, none⟩ = some (.string ty) ∧ W.cell? ⟨wr.heap.size, 3, none⟩ = some (.int .i64 kd) ∧ W.cell? ⟨wr.heap.size, 4, none⟩ = some (.int .i64 r) ∧ W.cell? ⟨1, 0, none⟩ = some (.slice (some ⟨rb, ro, none⟩) 4 rc) ∧ W.cell? ⟨rb, ro + r, none⟩ = some (.string rw) := fun W h1 h2 => by
              obtain ⟨d0, d1, d2, d3, d4, _⟩ := row5 h2
              exact ⟨d0, d1, d2, d3, d4, h1.cell hrc, h1.cell hrr0⟩
            have hS0 := hSof _ (hxr.trans hxI) hI
            have HSof := hide hSof
            clear hSof
            have hwfI := hwf.trans (WFr.of_ext (b := b) hxI hBr)
            go_wp2_with fail
            refine wp_region_X (fun w' => w'.cell? ⟨wr.heap.size, 0, none⟩ = some (.int .i64 id) ∧ w'.cell? ⟨wr.heap.size, 1, none⟩ = some (.string fn) ∧ w'.cell? ⟨wr.heap.size, 2, none⟩ = some (.string ty) ∧ w'.cell? ⟨wr.heap.size, 3, none⟩ = some (.int .i64 kd) ∧ w'.cell? ⟨wr.heap.size, 4, none⟩ = some (.int .i64 r) ∧ w'.cell? ⟨1, 0, none⟩ = some (.slice (some ⟨rb, ro, none⟩) 4 rc) ∧ w'.cell? ⟨rb, ro + r, none⟩ = some (.string rw)) (fun _ => false) (by kernel_rfl) ?_
            refine wpAnyX_take (i := 0) (v := .pointer (some ⟨b, 0, none⟩)) rfl (by kernel_rfl) (by kernel_rfl) (fun _ _ _ h => h) (.inl ⟨rfl, fun w' hS => by simp [execOp, go_sem]⟩) hS0 ?_
            simp only [Act.put, List.setIfInBounds_toArray, List.set_cons_succ, List.set_cons_zero]
            refine wpAnyX_take (i := 1) (v := .pointer (some ⟨wr.heap.size, 0, none⟩)) rfl (by kernel_rfl) (by kernel_rfl) (fun _ _ _ h => h) (.inl ⟨rfl, fun w' hS => by simp [execOp, go_sem]⟩) hS0 ?_
            simp only [Act.put, List.setIfInBounds_toArray, List.set_cons_succ, List.set_cons_zero]
            refine wpAnyX_take (i := 2) (v := .int .i64 id) rfl (by kernel_rfl) (by kernel_rfl) (fun _ _ _ h => h) (.inl ⟨rfl, fun w' hS => by simp [execOp, go_sem, hS.1]⟩) hS0 ?_
            simp only [Act.put, List.setIfInBounds_toArray, List.set_cons_succ, List.set_cons_zero]
            refine wpAnyX_take (i := 4) (v := .slice (some ⟨rb, ro, none⟩) 4 rc) rfl (by kernel_rfl) (by kernel_rfl) (fun _ _ _ h => h) (.inl ⟨rfl, fun w' hS => by simp [execOp, go_sem, hS.2.2.2.2.2.1]⟩) hS0 ?_
            simp only [Act.put, List.setIfInBounds_toArray, List.set_cons_succ, List.set_cons_zero]
            refine wpAnyX_take (i := 5) (v := .pointer (some ⟨wr.heap.size, 4, none⟩)) rfl (by kernel_rfl) (by kernel_rfl) (fun _ _ _ h => h) (.inl ⟨rfl, fun w' hS => by simp [execOp, go_sem]⟩) hS0 ?_
            simp only [Act.put, List.setIfInBounds_toArray, List.set_cons_succ, List.set_cons_zero]
            refine wpAnyX_take (i := 6) (v := .int .i64 r) rfl (by kernel_rfl) (by kernel_rfl) (fun _ _ _ h => h) (.inl ⟨rfl, fun w' hS => by simp [execOp, go_sem, hS.2.2.2.2.1]⟩) hS0 ?_
            simp only [Act.put, List.setIfInBounds_toArray, List.set_cons_succ, List.set_cons_zero]
            refine wpAnyX_take (i := 7) (v := .pointer (some ⟨rb, ro + r, none⟩)) rfl (by kernel_rfl) (by kernel_rfl) (fun _ _ _ h => h) (.inl ⟨rfl, fun w' hS => by simp [execOp, go_sem, hr4, hr4i]⟩) hS0 ?_
            simp only [Act.put, List.setIfInBounds_toArray, List.set_cons_succ, List.set_cons_zero]
            refine wpAnyX_take (i := 8) (v := .string rw) rfl (by kernel_rfl) (by kernel_rfl) (fun _ _ _ h => h) (.inl ⟨rfl, fun w' hS => by simp [execOp, go_sem, hS.2.2.2.2.2.2]⟩) hS0 ?_
            simp only [Act.put, List.setIfInBounds_toArray, List.set_cons_succ, List.set_cons_zero]
            refine wpAnyX_take (i := 9) (v := .agg #[.int .i64 id, .string fn, .string ty, .int .i64 kd, .int .i64 r]) rfl (by kernel_rfl) (by kernel_rfl) (fun _ _ _ h => h) (.inl ⟨rfl, fun w' hS => by simp [execOp, go_sem, hS.1, hS.2.1, hS.2.2.1, hS.2.2.2.1, hS.2.2.2.2.1]⟩) hS0 ?_
            simp only [Act.put, List.setIfInBounds_toArray, List.set_cons_succ, List.set_cons_zero]
            refine wpAnyX_take (i := 11) (v := .pointer (some ⟨wr.heap.size, 1, none⟩)) rfl (by kernel_rfl) (by kernel_rfl) (fun _ _ _ h => h) (.inl ⟨rfl, fun w' hS => by simp [execOp, go_sem]⟩) hS0 ?_
            simp only [Act.put, List.setIfInBounds_toArray, List.set_cons_succ, List.set_cons_zero]
            refine wpAnyX_take (i := 12) (v := .string fn) rfl (by kernel_rfl) (by kernel_rfl) (fun _ _ _ h => h) (.inl ⟨rfl, fun w' hS => by simp [execOp, go_sem, hS.2.1]⟩) hS0 ?_
            simp only [Act.put, List.setIfInBounds_toArray, List.set_cons_succ, List.set_cons_zero]
            refine wpAnyX_one (j := 3) rfl (by kernel_rfl) rfl fun K hK => ?_
            go_wp2_with fail
            refine (itoa_small id hnn.1 hnn.2 _).mono ?_
            rintro e w5 ⟨rfl, hw5⟩
            have hx5' : Ext (wr.alloc (.cells #[.int .i64 id, .string fn, .string ty, .int .i64 kd, .int .i64 r] 34)) w5 := by rw [hw5]; exact (Ext.refl _).drew
            have hS5 := unhide HSof w5 ((hxr.trans hxI).trans hx5') (hx5'.heap hI)
            clear hw5
            go_wp2
            refine hK.out _ _ hS5 ?_
            clear hK K
            refine wpAnyX_one (j := 10) rfl (by kernel_rfl) rfl fun K hK => ?_
            go_wp2_with fail
            refine (typeWord_any ⟨id, fn, ty, kd, r⟩ w5 (hn2.ext ((hxr.trans hxI).trans hx5')) hkd.1 hkd.2).mono ?_
            rintro e w6 ⟨rfl, hx6⟩
            rw [unhide Htw]
            have hx56 := hx5'.trans hx6
            have hS6 := unhide HSof w6 ((hxr.trans hxI).trans hx56) (hx56.heap hI)
            go_wp2
            refine hK.out _ _ hS6 ?_
            clear hK K
            refine wpAnyX_one (j := 13) rfl (by kernel_rfl) rfl fun K hK => ?_
            have hx7 : Ext w6 (w6.alloc (.cells #[.string rw, .string tw, .string fn] 9)) := (Ext.refl w6).alloc _
            have hrowW := heap_alloc_new w6 (.cells #[.string rw, .string tw, .string fn] 9)
            have hx57 := hx56.trans hx7
            have hbW := hblI.ext hx57
            have hBW := (Nat.le_trans hBr (Nat.le_trans hxI.size hx57.size))
            have hTW := hx57.heap hTI
            have hIW := hx57.heap hI
            have hwfW := hwfI.trans (WFr.of_ext (b := b) hx57 (Nat.le_trans hBr hxI.size))
            have hSW := unhide HSof _ ((hxr.trans hxI).trans hx57) hIW
            go_wp2
            refine hK.out _ _ hSW ?_
            clear hK K hbl hwf hT hblI hTI hwfI hS0 hS5 hS6 hSW a0 a1 a2 a3 a4 af c0 c1 c2 c3 c4
            refine wpAnyX_one (j := 14) rfl (by kernel_rfl) rfl fun K hK => ?_
            go_wp2_with fail
            refine (printLine_any w0.heap.size b w6.heap.size 3 #[.string rw, .string tw, .string fn] (0, 0) _ (itoaB id) [rw, tw, fn] _ hbW hBW hrowW (by intro i y hy; match i, hy with | 0, hy => cases hy; rfl | 1, hy => cases hy; rfl | 2, hy => cases hy; rfl) (by simp) (by have := unhide EL; rw [unhide Hrw, unhide Htw] at this; exact this)).mono ?_
            rintro e w8 ⟨rfl, h8, f8⟩
            have hT8 := f8.heap hTW hTb (by decide)
            have hwf8 := hwfW.trans f8
            have hS8 := unhide HSof w8 (hx.wfr hwf8) (f8.heap hIW hIb (by decide))
            rw [← unhide Hrw, ← unhide Htw, unhide EA] at h8
            have H8 := hide h8
            clear hbW hBW hrowW hTW hwfW hIW h8 f8
            go_wp2
            refine hK.out _ _ hS8 ?_
            clear hK K
            refine wpAnyX_end [] [] rfl (by intro j i hj; simp at hj) (by kernel_rfl) (by intro i hi; simp at hi) fun K hK => ?_
            go_wp2
            refine hK.out _ _ ?_
            clear hK K
            go_wp2
            exact ⟨⟨k + 1, by omega, by go_num, unhide H8, hwf8, hT8⟩, by simp [intOf]; omega⟩
          · have e : k = fs.length := by omega
            subst e
            rw [List.take_length] at hbl
            have hgs := (unhide F2).ext hxr
            have hBr : w0.heap.size ≤ wr.heap.size := hxr.size
            cases hg0 : decide (0 < gs.length)
            · have EA : Hid (acc ++ headB ⟨nm, false, fs, gs, is⟩ ++ is.flatMap itemB ++ fs.flatMap fieldB ++ (ByteArray.mk #[125, 10]).toList = acc ++ typeB ⟨nm, false, fs, gs, is⟩) := by
                unfold Hid typeB goneB
                rw [if_neg (by simpa using hg0), Lib.toList_data ⟨#[125, 10]⟩]
                simp
              have hg1 : ¬ ((0 : Int) < (gs.length : Int)) := by have : ¬ 0 < gs.length := by simpa using hg0
                                                                 omega
              have EL : (acc ++ headB ⟨nm, false, fs, gs, is⟩ ++ is.flatMap itemB ++ fs.flatMap fieldB).length ≤ 1099511627776 := by
                rw [List.length_append, List.length_append, List.length_append]
                have := unhide Hsz
                omega
              have Hbl := hide hbl
              clear hbl hg0
              go_wp2_with fail
              refine (write_any w0.heap.size b _ _ wr (unhide Hbl) (len1 EL (by decide)) hBr).mono ?_
              rintro e w5 ⟨rfl, h5, f5⟩
              rw [unhide EA] at h5
              have hwf5 := hwf.trans f5
              have H5 := hide h5
              clear h5
              go_wp2
              go_end0
              exact ⟨rfl, unhide H5, hwf5⟩
            · have hg1 : 0 < gs.length := by simpa using hg0
              have hg2 : (0 : Int) < (gs.length : Int) := by omega
              have EA : Hid (acc ++ headB ⟨nm, false, fs, gs, is⟩ ++ is.flatMap itemB ++ fs.flatMap fieldB ++ lineB ⟨#[103, 111, 110, 101]⟩ (gs.map itoaB) ++ (ByteArray.mk #[125, 10]).toList = acc ++ typeB ⟨nm, false, fs, gs, is⟩) := by
                unfold Hid typeB goneB
                rw [if_pos hg1, Lib.toList_data ⟨#[125, 10]⟩]
                simp
              have EL : (acc ++ headB ⟨nm, false, fs, gs, is⟩ ++ is.flatMap itemB ++ fs.flatMap fieldB).length + (lineB ⟨#[103, 111, 110, 101]⟩ (gs.map itoaB)).length ≤ 1099511627776 := by
                rw [List.length_append, List.length_append, List.length_append]
                have := unhide Hsz
                unfold goneB at this
                rw [if_pos hg1] at this
                omega
              have EL2 : (acc ++ headB ⟨nm, false, fs, gs, is⟩ ++ is.flatMap itemB ++ fs.flatMap fieldB ++ lineB ⟨#[103, 111, 110, 101]⟩ (gs.map itoaB)).length ≤ 1099511627776 := by
                rw [List.length_append]; exact EL
              have Hbl := hide hbl
              have HE := hide (And.intro EL EL2)
              clear hbl hg0 EL EL2
              go_wp2_with fail
              refine (digits_any ⟨ga, gs.length, gc⟩ gs wr hgs ((unhide Hok).g) n2).mono ?_
              rintro e w5 ⟨v, rfl, ho5, hx5⟩
              have hlm : gs.length = (gs.map itoaB).length := by simp
              obtain ⟨g5, cap5, cur5, rfl, hrow5, hc5⟩ := strs_row (l := gs.map itoaB) (by rw [← hlm]; exact ho5) (by rw [← hlm]; exact hg1)
              rw [← hlm]
              have Hlm := hide hlm
              clear hlm
              have hbW := (unhide Hbl).ext hx5
              have hBW := Nat.le_trans hBr hx5.size
              have hwf5 := hwf.trans (WFr.of_ext (b := b) hx5 hBr)
              have Hc5 := hide hc5
              clear ho5 hc5
              go_wp2_with fail
              have hpl := printLine_any w0.heap.size b g5 cap5 cur5 (0, 0) _ ⟨#[103, 111, 110, 101]⟩ (gs.map itoaB) w5 hbW hBW hrow5 (unhide Hc5) (by rw [← unhide Hlm]; exact n2) (unhide HE).1
              rw [← unhide Hlm] at hpl
              refine hpl.mono ?_
              rintro e w6 ⟨rfl, h6, f6⟩
              have hB6 := Nat.le_trans hBW f6.below.size
              have hwf6 := hwf5.trans f6
              clear hpl hbW hrow5
              go_wp2_with fail
              refine (write_any w0.heap.size b _ _ w6 h6 (len1 (unhide HE).2 (by decide)) hB6).mono ?_
              rintro e w7 ⟨rfl, h7, f7⟩
              rw [unhide EA] at h7
              have hwf7 := hwf6.trans f7
              have H7 := hide h7
              clear h7 h6
              go_wp2
              go_end0
              exact ⟨rfl, unhide H7, hwf7⟩
  · go_enter Tryz.func41, Tryz.ntmps41
    go_wp2_with fail
    refine (write_any w0.heap.size b acc _ _ hb1 (len1 hal (by decide)) (Nat.le_trans hB hx1.size)).mono ?_
    rintro e w2 ⟨rfl, h2, f2⟩
    have hT2 := f2.heap hT1 hTb (by decide)
    have hwf2 := hwf1.trans f2
    have hB2 := Nat.le_trans hB hwf2.below.size
    obtain ⟨a0, a1, a2, a3, a4, af⟩ := row5 hT2
    go_wp2_with fail
    refine (write_any w0.heap.size b _ nm w2 h2 (len2 hal (by decide) hns) hB2).mono ?_
    rintro e w3 ⟨rfl, h3, f3⟩
    have hT3 := f3.heap hT2 hTb (by decide)
    have hwf3 := hwf2.trans f3
    have hB3 := Nat.le_trans hB hwf3.below.size
    clear h2 f2 hT1 hT2 a0 a1 a2 a3 a4 af
    obtain ⟨a0, a1, a2, a3, a4, af⟩ := row5 hT3
    go_wp2_with fail
    refine (write_any w0.heap.size b _ _ w3 h3 (len3 hal (by decide) hns (by decide)) hB3).mono ?_
    rintro e w4 ⟨rfl, h4, f4⟩
    have hT4 := f4.heap hT3 hTb (by decide)
    have hwf4 := hwf3.trans f4
    rw [unhide hacc _ (by rw [Lib.toList_data]; rfl)] at h4
    clear h3 f3 f4 hT3 a0 a1 a2 a3 a4 af hwf1 hwf2 hwf3 hb1
    obtain ⟨a0, a1, a2, a3, a4, af⟩ := row5 hT4
    go_wp2
    go_loopw [23] (fun i wr => ∃ k : Nat, k ≤ is.length ∧ i = .int .i64 k ∧ Bld wr w0.heap.size b (acc ++ headB ⟨nm, true, fs, gs, is⟩ ++ (is.take k).flatMap itemB) ∧ WFr w0.heap.size b w wr ∧ wr.heap[w.heap.size]? = some (.cells #[.string nm, .bool true, .slice fa fs.length fc, .slice ga gs.length gc, .slice ia is.length ic] 30 (0, 0))) (fun i wr => is.length - (intOf i).toNat)
    case atStart => exact ⟨0, by omega, rfl, by simpa using h4, hwf4, hT4⟩
    case round =>
      clear h4 hwf4 hT4 a0 a1 a2 a3 a4 af
      obtain ⟨k, hk, rfl, hbl, hwf, hT⟩ := hrel
      obtain ⟨a0, a1, a2, a3, a4, af⟩ := row5 hT
      have hxr := hx.wfr hwf
      have zT := lt_of_heap hT
      by_cases hlt : k < is.length
      · obtain ⟨bb, o, cs, ha, hr, rfl⟩ := (unhide F3) k is[k] (by simp [hlt])
        subst ha
        obtain ⟨c0, c1⟩ := range2 (hxr.range hr)
        have hnn := (unhide Hok).i is[k] (List.getElem_mem hlt)
        have EA : Hid (acc ++ headB ⟨nm, true, fs, gs, is⟩ ++ (is.take k).flatMap itemB ++ lineB (itoaB is[k].n) [is[k].name] = acc ++ headB ⟨nm, true, fs, gs, is⟩ ++ (is.take (k + 1)).flatMap itemB) := by
          unfold Hid; rw [flat_take hlt, List.append_assoc _ ((is.take k).flatMap itemB)]; rfl
        have EL : Hid ((acc ++ headB ⟨nm, true, fs, gs, is⟩ ++ (is.take k).flatMap itemB).length + (lineB (itoaB is[k].n) [is[k].name]).length ≤ 1099511627776) := by
          unfold Hid
          have e := congrArg List.length (unhide EA)
          rw [List.length_append] at e
          rw [e, List.length_append, List.length_append]
          have := take_flat_le is itemB (k + 1)
          have := unhide Hsz
          omega
        generalize is[k] = it at *
        obtain ⟨x, n⟩ := it
        simp only at hnn EA EL c0 c1
        clear hr F3 F1 F2
        have hxI : Ext wr (wr.alloc (.cells #[.string x, .int .i64 n] 55)) := (Ext.refl wr).alloc _
        have hI := heap_alloc_new wr (.cells #[.string x, .int .i64 n] 55)
        have hBr : w0.heap.size ≤ wr.heap.size := hxr.size
        have hblI := hbl.ext hxI
        have hIb : wr.heap.size ≠ b := by
          obtain ⟨_, c, f, hb⟩ := bld_head hblI
          exact heap_ne hI hb (by decide)
        have hTI := hxI.heap hT
        have hS0 : (wr.alloc (.cells #[.string x, .int .i64 n] 55)).cell? ⟨wr.heap.size, 0, none⟩ = some (.string x) ∧ (wr.alloc (.cells #[.string x, .int .i64 n] 55)).cell? ⟨wr.heap.size, 1, none⟩ = some (.int .i64 n) := ⟨cell_of_row _ _ 0 _ _ _ hI, cell_of_row _ _ 1 _ _ _ hI⟩
        have hwfI := hwf.trans (WFr.of_ext (b := b) hxI hBr)
        go_wp2_with fail
        refine wp_region_X (fun w' => w'.cell? ⟨wr.heap.size, 0, none⟩ = some (.string x) ∧ w'.cell? ⟨wr.heap.size, 1, none⟩ = some (.int .i64 n)) (fun _ => false) (by kernel_rfl) ?_
        refine wpAnyX_take (i := 0) (v := .pointer (some ⟨b, 0, none⟩)) rfl (by kernel_rfl) (by kernel_rfl) (fun _ _ _ h => h) (.inl ⟨rfl, fun w' hS => by simp [execOp, go_sem]⟩) hS0 ?_
        simp only [Act.put, List.setIfInBounds_toArray, List.set_cons_succ, List.set_cons_zero]
        refine wpAnyX_take (i := 1) (v := .pointer (some ⟨wr.heap.size, 1, none⟩)) rfl (by kernel_rfl) (by kernel_rfl) (fun _ _ _ h => h) (.inl ⟨rfl, fun w' hS => by simp [execOp, go_sem]⟩) hS0 ?_
        simp only [Act.put, List.setIfInBounds_toArray, List.set_cons_succ, List.set_cons_zero]
        refine wpAnyX_take (i := 2) (v := .int .i64 n) rfl (by kernel_rfl) (by kernel_rfl) (fun _ _ _ h => h) (.inl ⟨rfl, fun w' hS => by simp [execOp, go_sem, hS.2]⟩) hS0 ?_
        simp only [Act.put, List.setIfInBounds_toArray, List.set_cons_succ, List.set_cons_zero]
        refine wpAnyX_take (i := 4) (v := .pointer (some ⟨wr.heap.size, 0, none⟩)) rfl (by kernel_rfl) (by kernel_rfl) (fun _ _ _ h => h) (.inl ⟨rfl, fun w' hS => by simp [execOp, go_sem]⟩) hS0 ?_
        simp only [Act.put, List.setIfInBounds_toArray, List.set_cons_succ, List.set_cons_zero]
        refine wpAnyX_take (i := 5) (v := .string x) rfl (by kernel_rfl) (by kernel_rfl) (fun _ _ _ h => h) (.inl ⟨rfl, fun w' hS => by simp [execOp, go_sem, hS.1]⟩) hS0 ?_
        simp only [Act.put, List.setIfInBounds_toArray, List.set_cons_succ, List.set_cons_zero]
        refine wpAnyX_two (i := 3) (j := 6) rfl rfl (by kernel_rfl) rfl rfl (fun K hK => ?_) (fun K hK => ?_)
        · go_wp2_with fail
          refine (itoa_any n hnn.1 hnn.2 _ (htab.ext ((hxr.trans hxI).drew))).mono ?_
          rintro e w5 ⟨rfl, hx5⟩
          have hx5' : Ext (wr.alloc (.cells #[.string x, .int .i64 n] 55)) w5 := ((Ext.refl _).drew).trans hx5
          have hS5 : w5.cell? ⟨wr.heap.size, 0, none⟩ = some (.string x) ∧ w5.cell? ⟨wr.heap.size, 1, none⟩ = some (.int .i64 n) := ⟨hx5'.cell hS0.1, hx5'.cell hS0.2⟩
          go_wp2
          refine hK.out _ _ hS5 ?_
          clear hK K
          refine wpAnyX_one (j := 6) rfl (by kernel_rfl) rfl fun K hK => ?_
          have hx6 : Ext w5 (w5.alloc (.cells #[.string x] 9)) := (Ext.refl w5).alloc _
          have hrowW := heap_alloc_new w5 (.cells #[.string x] 9)
          have hx56 := hx5'.trans hx6
          have hbW := hblI.ext hx56
          have hBW := (Nat.le_trans hBr (Nat.le_trans hxI.size hx56.size))
          have hTW := hx56.heap hTI
          have hIW := hx56.heap hI
          have hwfW := hwfI.trans (WFr.of_ext (b := b) hx56 (Nat.le_trans hBr hxI.size))
          have hSW := And.intro (hx6.cell hS5.1) (hx6.cell hS5.2)
          go_wp2
          refine hK.out _ _ hSW ?_
          clear hK K hbl hwf hT hblI hTI hwfI hS0 hS5 hSW a0 a1 a2 a3 a4 af c0 c1
          refine wpAnyX_one (j := 7) rfl (by kernel_rfl) rfl fun K hK => ?_
          go_wp2_with fail
          refine (printLine_any w0.heap.size b w5.heap.size 1 #[.string x] (0, 0) _ (itoaB n) [x] _ hbW hBW hrowW (by intro i y hy; match i, hy with | 0, hy => cases hy; rfl) (by simp) (unhide EL)).mono ?_
          rintro e w6 ⟨rfl, h6, f6⟩
          have hT6 := f6.heap hTW hTb (by decide)
          have hwf6 := hwfW.trans f6
          have hS6 : w6.cell? ⟨wr.heap.size, 0, none⟩ = some (.string x) ∧ w6.cell? ⟨wr.heap.size, 1, none⟩ = some (.int .i64 n) :=
            have hI6 := f6.heap hIW hIb (by decide)
            ⟨cell_of_row _ _ 0 _ _ _ hI6, cell_of_row _ _ 1 _ _ _ hI6⟩
          rw [unhide EA] at h6
          have H6 := hide h6
          clear hbW hBW hrowW hTW hwfW hIW h6 f6
          go_wp2
          refine hK.out _ _ hS6 ?_
          clear hK K
          refine wpAnyX_end [] [] rfl (by intro j i hj; simp at hj) (by kernel_rfl) (by intro i hi; simp at hi) fun K hK => ?_
          go_wp2
          refine hK.out _ _ ?_
          clear hK K
          go_wp2
          exact ⟨⟨k + 1, by omega, by go_num, unhide H6, hwf6, hT6⟩, by simp [intOf]; omega⟩
        · have hx6 : Ext (wr.alloc (.cells #[.string x, .int .i64 n] 55)) ((wr.alloc (.cells #[.string x, .int .i64 n] 55)).alloc (.cells #[.string x] 9)).drew := ((Ext.refl _).alloc _).drew
          have hS5 := And.intro (hx6.cell hS0.1) (hx6.cell hS0.2)
          go_wp2
          refine hK.out _ _ hS5 ?_
          clear hK K
          refine wpAnyX_one (j := 3) rfl (by kernel_rfl) rfl fun K hK => ?_
          go_wp2_with fail
          refine (itoa_any n hnn.1 hnn.2 _ (htab.ext ((hxr.trans hxI).trans hx6))).mono ?_
          rintro e w7 ⟨rfl, hx7⟩
          have hrowW := hx7.heap (show ((wr.alloc (.cells #[.string x, .int .i64 n] 55)).alloc (.cells #[.string x] 9)).drew.heap[wr.heap.size + 1]? = some (.cells #[.string x] 9 (0, 0)) from heap_alloc2_new _ _ _)
          have hx67 := hx6.trans hx7
          have hbW := hblI.ext hx67
          have hBW := (Nat.le_trans hBr (Nat.le_trans hxI.size hx67.size))
          have hTW := hx67.heap hTI
          have hIW := hx67.heap hI
          have hwfW := hwfI.trans (WFr.of_ext (b := b) hx67 (Nat.le_trans hBr hxI.size))
          have hSW := And.intro (hx67.cell hS0.1) (hx67.cell hS0.2)
          go_wp2
          refine hK.out _ _ hSW ?_
          clear hK K hbl hwf hT hblI hTI hwfI hS0 hS5 hSW a0 a1 a2 a3 a4 af c0 c1
          refine wpAnyX_one (j := 7) rfl (by kernel_rfl) rfl fun K hK => ?_
          go_wp2_with fail
          refine (printLine_any w0.heap.size b (wr.heap.size + 1) 1 #[.string x] (0, 0) _ (itoaB n) [x] _ hbW hBW hrowW (by intro i y hy; match i, hy with | 0, hy => cases hy; rfl) (by simp) (unhide EL)).mono ?_
          rintro e w6 ⟨rfl, h6, f6⟩
          have hT6 := f6.heap hTW hTb (by decide)
          have hwf6 := hwfW.trans f6
          have hS6 : w6.cell? ⟨wr.heap.size, 0, none⟩ = some (.string x) ∧ w6.cell? ⟨wr.heap.size, 1, none⟩ = some (.int .i64 n) :=
            have hI6 := f6.heap hIW hIb (by decide)
            ⟨cell_of_row _ _ 0 _ _ _ hI6, cell_of_row _ _ 1 _ _ _ hI6⟩
          rw [unhide EA] at h6
          have H6 := hide h6
          clear hbW hBW hrowW hTW hwfW hIW h6 f6
          go_wp2
          refine hK.out _ _ hS6 ?_
          clear hK K
          refine wpAnyX_end [] [] rfl (by intro j i hj; simp at hj) (by kernel_rfl) (by intro i hi; simp at hi) fun K hK => ?_
          go_wp2
          refine hK.out _ _ ?_
          clear hK K
          go_wp2
          exact ⟨⟨k + 1, by omega, by go_num, unhide H6, hwf6, hT6⟩, by simp [intOf]; omega⟩
      · have e : k = is.length := by omega
        subst e
        rw [List.take_length] at hbl
        have Hbl := hide hbl
        clear hbl hk hlt
        go_wp2
        go_loopw [39] (fun i wr => ∃ k : Nat, k ≤ fs.length ∧ i = .int .i64 k ∧ Bld wr w0.heap.size b (acc ++ headB ⟨nm, true, fs, gs, is⟩ ++ is.flatMap itemB ++ (fs.take k).flatMap fieldB) ∧ WFr w0.heap.size b w wr ∧ wr.heap[w.heap.size]? = some (.cells #[.string nm, .bool true, .slice fa fs.length fc, .slice ga gs.length gc, .slice ia is.length ic] 30 (0, 0))) (fun i wr => fs.length - (intOf i).toNat)
        case atStart => exact ⟨0, by omega, rfl, by simpa using unhide Hbl, hwf, hT⟩
        case round =>
          clear Hbl hwf hT a0 a1 a2 a3 a4 af hxr zT
          obtain ⟨k, hk, rfl, hbl, hwf, hT⟩ := hrel
          obtain ⟨a0, a1, a2, a3, a4, af⟩ := row5 hT
          have hxr := hx.wfr hwf
          have zT := lt_of_heap hT
          by_cases hlt : k < fs.length
          · obtain ⟨bb, o, cs, ha, hr, rfl⟩ := (unhide F1) k fs[k] (by simp [hlt])
            subst ha
            obtain ⟨c0, c1, c2, c3, c4⟩ := range5 (hxr.range hr)
            obtain ⟨hnn, hrl, hkd⟩ := (unhide Hok).f fs[k] (List.getElem_mem hlt)
            have EA : Hid (acc ++ headB ⟨nm, true, fs, gs, is⟩ ++ is.flatMap itemB ++ (fs.take k).flatMap fieldB ++ lineB (itoaB fs[k].id) [ruleWordM fs[k], typeWordM fs[k], fs[k].name] = acc ++ headB ⟨nm, true, fs, gs, is⟩ ++ is.flatMap itemB ++ (fs.take (k + 1)).flatMap fieldB) := by
              unfold Hid; rw [flat_take hlt, List.append_assoc _ ((fs.take k).flatMap fieldB)]; rfl
            have EL : Hid ((acc ++ headB ⟨nm, true, fs, gs, is⟩ ++ is.flatMap itemB ++ (fs.take k).flatMap fieldB).length + (lineB (itoaB fs[k].id) [ruleWordM fs[k], typeWordM fs[k], fs[k].name]).length ≤ 1099511627776) := by
              unfold Hid
              have e := congrArg List.length (unhide EA)
              rw [List.length_append] at e
              rw [e, List.length_append, List.length_append, List.length_append]
              have := take_flat_le fs fieldB (k + 1)
              have := unhide Hsz
              omega
            generalize fs[k] = f at *
            obtain ⟨id, fn, ty, kd, rl⟩ := f
            simp only at hnn hrl hkd EA EL c0 c1 c2 c3 c4
            obtain ⟨r, rfl⟩ : ∃ r : Nat, rl = r := ⟨rl.toNat, by omega⟩
            have hr4 : r < 4 := by omega
            have hr4i : (r : Int) < 4 := by omega
            obtain ⟨tw, Htw⟩ : ∃ tw, Hid (typeWordM ⟨id, fn, ty, kd, r⟩ = tw) := ⟨_, rfl⟩
            obtain ⟨rw, hrw⟩ : ∃ rw, ruleWordM ⟨id, fn, ty, kd, r⟩ = rw := ⟨_, rfl⟩
            obtain ⟨⟨ra, rn, rc⟩, hrc, hrl1, hrs⟩ := hn1
            have hrn : rn = 4 := hrl1
            subst hrn
            obtain ⟨rb, ro, rcs, hra, hrr, rfl⟩ := hrs r rw (by
              rw [← hrw]; unfold ruleWordM
              have : r = 1 ∨ r = 2 ∨ r = 3 := by omega
              rcases this with rfl | rfl | rfl <;> rfl)
            simp only at hra hrc
            subst hra
            have hrr0 := hrr 0 _ rfl
            simp only [Nat.mul_one, Nat.add_zero] at hrr0
            have Hrw := hide hrw
            clear hr hrs hrr hrw hrl1
            have hxI : Ext wr (wr.alloc (.cells #[.int .i64 id, .string fn, .string ty, .int .i64 kd, .int .i64 r] 34)) := (Ext.refl wr).alloc _
            have hI := heap_alloc_new wr (.cells #[.int .i64 id, .string fn, .string ty, .int .i64 kd, .int .i64 r] 34)
            have hBr : w0.heap.size ≤ wr.heap.size := hxr.size
            have hblI := hbl.ext hxI
            have hIb : wr.heap.size ≠ b := by
              obtain ⟨_, c, f, hb⟩ := bld_head hblI
              exact heap_ne hI hb (by decide)
            have hTI := hxI.heap hT
            have hSof : ∀ W : World, Ext w0 W → W.heap[wr.heap.size]? = some (.cells #[.int .i64 id, .string fn, .string ty, .int .i64 kd, .int .i64 r] 34 (0, 0)) → W.cell? ⟨wr.heap.size, 0, none⟩ = some (.int .i64 id) ∧ W.cell? ⟨wr.heap.size, 1, none⟩ = some (.string fn) ∧ W.cell? ⟨wr.heap.size, 2, none⟩ = some (.string ty) ∧ W.cell? ⟨wr.heap.size, 3, none⟩ = some (.int .i64 kd) ∧ W.cell? ⟨wr.heap.size, 4, none⟩ = some (.int .i64 r) ∧ W.cell? ⟨1, 0, none⟩ = some (.slice (some ⟨rb, ro, none⟩) 4 rc) ∧ W.cell? ⟨rb, ro + r, none⟩ = some (.string rw) := fun W h1 h2 => by
              obtain ⟨d0, d1, d2, d3, d4, _⟩ := row5 h2
              exact ⟨d0, d1, d2, d3, d4, h1.cell hrc, h1.cell hrr0⟩
            have hS0 := hSof _ (hxr.trans hxI) hI
            have HSof := hide hSof
            clear hSof
            have hwfI := hwf.trans (WFr.of_ext (b := b) hxI hBr)
            go_wp2_with fail
            refine wp_region_X (fun w' => w'.cell? ⟨wr.heap.size, 0, none⟩ = some (.int .i64 id) ∧ w'.cell? ⟨wr.heap.size, 1, none⟩ = some (.string fn) ∧ w'.cell? ⟨wr.heap.size, 2, none⟩ = some (.string ty) ∧ w'.cell? ⟨wr.heap.size, 3, none⟩ = some (.int .i64 kd) ∧ w'.cell? ⟨wr.heap.size, 4, none⟩ = some (.int .i64 r) ∧ w'.cell? ⟨1, 0, none⟩ = some (.slice (some ⟨rb, ro, none⟩) 4 rc) ∧ w'.cell? ⟨rb, ro + r, none⟩ = some (.string rw)) (fun _ => false) (by kernel_rfl) ?_
            refine wpAnyX_take (i := 0) (v := .pointer (some ⟨b, 0, none⟩)) rfl (by kernel_rfl) (by kernel_rfl) (fun _ _ _ h => h) (.inl ⟨rfl, fun w' hS => by simp [execOp, go_sem]⟩) hS0 ?_
            simp only [Act.put, List.setIfInBounds_toArray, List.set_cons_succ, List.set_cons_zero]
            refine wpAnyX_take (i := 1) (v := .pointer (some ⟨wr.heap.size, 0, none⟩)) rfl (by kernel_rfl) (by kernel_rfl) (fun _ _ _ h => h) (.inl ⟨rfl, fun w' hS => by simp [execOp, go_sem]⟩) hS0 ?_
            simp only [Act.put, List.setIfInBounds_toArray, List.set_cons_succ, List.set_cons_zero]
            refine wpAnyX_take (i := 2) (v := .int .i64 id) rfl (by kernel_rfl) (by kernel_rfl) (fun _ _ _ h => h) (.inl ⟨rfl, fun w' hS => by simp [execOp, go_sem, hS.1]⟩) hS0 ?_
            simp only [Act.put, List.setIfInBounds_toArray, List.set_cons_succ, List.set_cons_zero]
            refine wpAnyX_take (i := 4) (v := .slice (some ⟨rb, ro, none⟩) 4 rc) rfl (by kernel_rfl) (by kernel_rfl) (fun _ _ _ h => h) (.inl ⟨rfl, fun w' hS => by simp [execOp, go_sem, hS.2.2.2.2.2.1]⟩) hS0 ?_
            simp only [Act.put, List.setIfInBounds_toArray, List.set_cons_succ, List.set_cons_zero]
            refine wpAnyX_take (i := 5) (v := .pointer (some ⟨wr.heap.size, 4, none⟩)) rfl (by kernel_rfl) (by kernel_rfl) (fun _ _ _ h => h) (.inl ⟨rfl, fun w' hS => by simp [execOp, go_sem]⟩) hS0 ?_
            simp only [Act.put, List.setIfInBounds_toArray, List.set_cons_succ, List.set_cons_zero]
            refine wpAnyX_take (i := 6) (v := .int .i64 r) rfl (by kernel_rfl) (by kernel_rfl) (fun _ _ _ h => h) (.inl ⟨rfl, fun w' hS => by simp [execOp, go_sem, hS.2.2.2.2.1]⟩) hS0 ?_
            simp only [Act.put, List.setIfInBounds_toArray, List.set_cons_succ, List.set_cons_zero]
            refine wpAnyX_take (i := 7) (v := .pointer (some ⟨rb, ro + r, none⟩)) rfl (by kernel_rfl) (by kernel_rfl) (fun _ _ _ h => h) (.inl ⟨rfl, fun w' hS => by simp [execOp, go_sem, hr4, hr4i]⟩) hS0 ?_
            simp only [Act.put, List.setIfInBounds_toArray, List.set_cons_succ, List.set_cons_zero]
            refine wpAnyX_take (i := 8) (v := .string rw) rfl (by kernel_rfl) (by kernel_rfl) (fun _ _ _ h => h) (.inl ⟨rfl, fun w' hS => by simp [execOp, go_sem, hS.2.2.2.2.2.2]⟩) hS0 ?_
            simp only [Act.put, List.setIfInBounds_toArray, List.set_cons_succ, List.set_cons_zero]
            refine wpAnyX_take (i := 9) (v := .agg #[.int .i64 id, .string fn, .string ty, .int .i64 kd, .int .i64 r]) rfl (by kernel_rfl) (by kernel_rfl) (fun _ _ _ h => h) (.inl ⟨rfl, fun w' hS => by simp [execOp, go_sem, hS.1, hS.2.1, hS.2.2.1, hS.2.2.2.1, hS.2.2.2.2.1]⟩) hS0 ?_
            simp only [Act.put, List.setIfInBounds_toArray, List.set_cons_succ, List.set_cons_zero]
            refine wpAnyX_take (i := 11) (v := .pointer (some ⟨wr.heap.size, 1, none⟩)) rfl (by kernel_rfl) (by kernel_rfl) (fun _ _ _ h => h) (.inl ⟨rfl, fun w' hS => by simp [execOp, go_sem]⟩) hS0 ?_
            simp only [Act.put, List.setIfInBounds_toArray, List.set_cons_succ, List.set_cons_zero]
            refine wpAnyX_take (i := 12) (v := .string fn) rfl (by kernel_rfl) (by kernel_rfl) (fun _ _ _ h => h) (.inl ⟨rfl, fun w' hS => by simp [execOp, go_sem, hS.2.1]⟩) hS0 ?_
            simp only [Act.put, List.setIfInBounds_toArray, List.set_cons_succ, List.set_cons_zero]
            refine wpAnyX_one (j := 3) rfl (by kernel_rfl) rfl fun K hK => ?_
            go_wp2_with fail
            refine (itoa_small id hnn.1 hnn.2 _).mono ?_
            rintro e w5 ⟨rfl, hw5⟩
            have hx5' : Ext (wr.alloc (.cells #[.int .i64 id, .string fn, .string ty, .int .i64 kd, .int .i64 r] 34)) w5 := by rw [hw5]; exact (Ext.refl _).drew
            have hS5 := unhide HSof w5 ((hxr.trans hxI).trans hx5') (hx5'.heap hI)
            clear hw5
            go_wp2
            refine hK.out _ _ hS5 ?_
            clear hK K
            refine wpAnyX_one (j := 10) rfl (by kernel_rfl) rfl fun K hK => ?_
            go_wp2_with fail
            refine (typeWord_any ⟨id, fn, ty, kd, r⟩ w5 (hn2.ext ((hxr.trans hxI).trans hx5')) hkd.1 hkd.2).mono ?_
            rintro e w6 ⟨rfl, hx6⟩
            rw [unhide Htw]
            have hx56 := hx5'.trans hx6
            have hS6 := unhide HSof w6 ((hxr.trans hxI).trans hx56) (hx56.heap hI)
            go_wp2
            refine hK.out _ _ hS6 ?_
            clear hK K
            refine wpAnyX_one (j := 13) rfl (by kernel_rfl) rfl fun K hK => ?_
            have hx7 : Ext w6 (w6.alloc (.cells #[.string rw, .string tw, .string fn] 9)) := (Ext.refl w6).alloc _
            have hrowW := heap_alloc_new w6 (.cells #[.string rw, .string tw, .string fn] 9)
            have hx57 := hx56.trans hx7
            have hbW := hblI.ext hx57
            have hBW := (Nat.le_trans hBr (Nat.le_trans hxI.size hx57.size))
            have hTW := hx57.heap hTI
            have hIW := hx57.heap hI
            have hwfW := hwfI.trans (WFr.of_ext (b := b) hx57 (Nat.le_trans hBr hxI.size))
            have hSW := unhide HSof _ ((hxr.trans hxI).trans hx57) hIW
            go_wp2
            refine hK.out _ _ hSW ?_
            clear hK K hbl hwf hT hblI hTI hwfI hS0 hS5 hS6 hSW a0 a1 a2 a3 a4 af c0 c1 c2 c3 c4
            refine wpAnyX_one (j := 14) rfl (by kernel_rfl) rfl fun K hK => ?_
            go_wp2_with fail
            refine (printLine_any w0.heap.size b w6.heap.size 3 #[.string rw, .string tw, .string fn] (0, 0) _ (itoaB id) [rw, tw, fn] _ hbW hBW hrowW (by intro i y hy; match i, hy with | 0, hy => cases hy; rfl | 1, hy => cases hy; rfl | 2, hy => cases hy; rfl) (by simp) (by have := unhide EL; rw [unhide Hrw, unhide Htw] at this; exact this)).mono ?_
            rintro e w8 ⟨rfl, h8, f8⟩
            have hT8 := f8.heap hTW hTb (by decide)
            have hwf8 := hwfW.trans f8
            have hS8 := unhide HSof w8 (hx.wfr hwf8) (f8.heap hIW hIb (by decide))
            rw [← unhide Hrw, ← unhide Htw, unhide EA] at h8
            have H8 := hide h8
            clear hbW hBW hrowW hTW hwfW hIW h8 f8
            go_wp2
            refine hK.out _ _ hS8 ?_
            clear hK K
            refine wpAnyX_end [] [] rfl (by intro j i hj; simp at hj) (by kernel_rfl) (by intro i hi; simp at hi) fun K hK => ?_
            go_wp2
            refine hK.out _ _ ?_
            clear hK K
            go_wp2
            exact ⟨⟨k + 1, by omega, by go_num, unhide H8, hwf8, hT8⟩, by simp [intOf]; omega⟩
          · have e : k = fs.length := by omega
            subst e
            rw [List.take_length] at hbl
            have hgs := (unhide F2).ext hxr
            have hBr : w0.heap.size ≤ wr.heap.size := hxr.size
            cases hg0 : decide (0 < gs.length)
            · have EA : Hid (acc ++ headB ⟨nm, true, fs, gs, is⟩ ++ is.flatMap itemB ++ fs.flatMap fieldB ++ (ByteArray.mk #[125, 10]).toList = acc ++ typeB ⟨nm, true, fs, gs, is⟩) := by
                unfold Hid typeB goneB
                rw [if_neg (by simpa using hg0), Lib.toList_data ⟨#[125, 10]⟩]
                simp
              have hg1 : ¬ ((0 : Int) < (gs.length : Int)) := by have : ¬ 0 < gs.length := by simpa using hg0
                                                                 omega
              have EL : (acc ++ headB ⟨nm, true, fs, gs, is⟩ ++ is.flatMap itemB ++ fs.flatMap fieldB).length ≤ 1099511627776 := by
                rw [List.length_append, List.length_append, List.length_append]
                have := unhide Hsz
                omega
              have Hbl := hide hbl
              clear hbl hg0
              go_wp2_with fail
              refine (write_any w0.heap.size b _ _ wr (unhide Hbl) (len1 EL (by decide)) hBr).mono ?_
              rintro e w5 ⟨rfl, h5, f5⟩
              rw [unhide EA] at h5
              have hwf5 := hwf.trans f5
              have H5 := hide h5
              clear h5
              go_wp2
              go_end0
              exact ⟨rfl, unhide H5, hwf5⟩
            · have hg1 : 0 < gs.length := by simpa using hg0
              have hg2 : (0 : Int) < (gs.length : Int) := by omega
              have EA : Hid (acc ++ headB ⟨nm, true, fs, gs, is⟩ ++ is.flatMap itemB ++ fs.flatMap fieldB ++ lineB ⟨#[103, 111, 110, 101]⟩ (gs.map itoaB) ++ (ByteArray.mk #[125, 10]).toList = acc ++ typeB ⟨nm, true, fs, gs, is⟩) := by
                unfold Hid typeB goneB
                rw [if_pos hg1, Lib.toList_data ⟨#[125, 10]⟩]
                simp
              have EL : (acc ++ headB ⟨nm, true, fs, gs, is⟩ ++ is.flatMap itemB ++ fs.flatMap fieldB).length + (lineB ⟨#[103, 111, 110, 101]⟩ (gs.map itoaB)).length ≤ 1099511627776 := by
                rw [List.length_append, List.length_append, List.length_append]
                have := unhide Hsz
                unfold goneB at this
                rw [if_pos hg1] at this
                omega
              have EL2 : (acc ++ headB ⟨nm, true, fs, gs, is⟩ ++ is.flatMap itemB ++ fs.flatMap fieldB ++ lineB ⟨#[103, 111, 110, 101]⟩ (gs.map itoaB)).length ≤ 1099511627776 := by
                rw [List.length_append]; exact EL
              have Hbl := hide hbl
              have HE := hide (And.intro EL EL2)
              clear hbl hg0 EL EL2
              go_wp2_with fail
              refine (digits_any ⟨ga, gs.length, gc⟩ gs wr hgs ((unhide Hok).g) n2).mono ?_
              rintro e w5 ⟨v, rfl, ho5, hx5⟩
              have hlm : gs.length = (gs.map itoaB).length := by simp
              obtain ⟨g5, cap5, cur5, rfl, hrow5, hc5⟩ := strs_row (l := gs.map itoaB) (by rw [← hlm]; exact ho5) (by rw [← hlm]; exact hg1)
              rw [← hlm]
              have Hlm := hide hlm
              clear hlm
              have hbW := (unhide Hbl).ext hx5
              have hBW := Nat.le_trans hBr hx5.size
              have hwf5 := hwf.trans (WFr.of_ext (b := b) hx5 hBr)
              have Hc5 := hide hc5
              clear ho5 hc5
              go_wp2_with fail
              have hpl := printLine_any w0.heap.size b g5 cap5 cur5 (0, 0) _ ⟨#[103, 111, 110, 101]⟩ (gs.map itoaB) w5 hbW hBW hrow5 (unhide Hc5) (by rw [← unhide Hlm]; exact n2) (unhide HE).1
              rw [← unhide Hlm] at hpl
              refine hpl.mono ?_
              rintro e w6 ⟨rfl, h6, f6⟩
              have hB6 := Nat.le_trans hBW f6.below.size
              have hwf6 := hwf5.trans f6
              clear hpl hbW hrow5
              go_wp2_with fail
              refine (write_any w0.heap.size b _ _ w6 h6 (len1 (unhide HE).2 (by decide)) hB6).mono ?_
              rintro e w7 ⟨rfl, h7, f7⟩
              rw [unhide EA] at h7
              have hwf7 := hwf6.trans f7
              have H7 := hide h7
              clear h7 h6
              go_wp2
              go_end0
              exact ⟨rfl, unhide H7, hwf7⟩
end Go.Proofs.YtmghhakebhgckaaGreatDoor

namespace Go.Proofs.YtmghhakebhgckaaGreatDoor
set_option linter.unusedSimpArgs false
set_option linter.unusedVariables false
open Go.RowKit

def bookB (ts : BookM) : List UInt8 := ts.flatMap typeB
set_option maxHeartbeats 3200000 in
theorem print_bad (s : SV) (ts : BookM) (w : World) (hs : BookAt w s ts) (hn : ts.Fits) (hw : WordsAt w) (er : Int) (her : goodM ts = er) (hne : (er == 0) = false) :
    Calls Tryz.prog 24 #[.agg #[.slice s.a s.len s.cap]] w fun e w' => e = .returned (.tuple #[.string ⟨#[]⟩, .int .i64 er]) ∧ Ext w w' := by
  have hx0 : Ext w (w.alloc (.cells #[.slice s.a s.len s.cap] 24)) := (Ext.refl w).alloc _
  go_enter Tryz.func24, Tryz.ntmps24
  go_wp2_with fail
  refine (good_any s ts hn _ (hs.ext hx0) (hw.ext hx0)).mono ?_
  rintro e w1 ⟨rfl, hx1⟩
  rw [her]
  have hx01 := hx0.trans hx1
  go_wp2
  refine bodyPost_ret (v := .tuple #[.string ⟨#[]⟩, .int .i64 er]) (by simp [results, Tryz.results24, go_sem]) rfl ⟨rfl, hx01⟩
set_option maxHeartbeats 3200000 in
theorem print_good (s : SV) (ts : BookM) (w : World) (hs : BookAt w s ts) (hn : ts.Small) (hw : WordsAt w) (hn1 : NamesAt w 1 rulesL) (hn2 : NamesAt w 2 kindsL) (htab : TabAt w) (her : goodM ts = 0) (hpr : ∀ t ∈ ts, PrOk t) (hlen : (bookB ts).length ≤ 1048576) :
    Calls Tryz.prog 24 #[.agg #[.slice s.a s.len s.cap]] w fun e w' => e = .returned (.tuple #[.string ⟨(bookB ts).toArray⟩, .int .i64 0]) ∧ Ext w w' := by
  obtain ⟨a, n, cap⟩ := s
  have hl : n = ts.length := hs.1
  subst hl
  have hx0 : Ext w (w.alloc (.cells #[.slice a ts.length cap] 24)) := (Ext.refl w).alloc _
  have Hs := hide hs
  have Hn := hide hn
  have Hpr := hide hpr
  have hn0 := hn.1
  clear hs hn hpr
  go_enter Tryz.func24, Tryz.ntmps24
  go_wp2_with fail
  refine (good_any ⟨a, ts.length, cap⟩ ts (unhide Hn).fits _ ((unhide Hs).ext hx0) (hw.ext hx0)).mono ?_
  rintro e w1 ⟨rfl, hx1⟩
  rw [her]
  have hx01 := hx0.trans hx1
  have hA1 := hx1.heap (heap_alloc_new w (.cells #[.slice a ts.length cap] 24))
  have hx2 : Ext w1 (w1.alloc (.cells #[.pointer none, .slice none 0 0] 68)) := (Ext.refl w1).alloc _
  have hbl2 := bld_new w1
  have cA : w1.cell? ⟨w.heap.size, 0, none⟩ = some (.slice a ts.length cap) := cell_of_row _ _ 0 _ _ _ hA1
  have cA2 := hx2.cell cA
  have zA := lt_of_heap hA1
  have Hs1 := hide ((unhide Hs).ext hx01)
  have hn1' := hn1.ext hx01
  have hn2' := hn2.ext hx01
  have htab' := htab.ext hx01
  clear Hs
  go_wp2
  go_loopw [16] (fun i wr => ∃ k : Nat, k ≤ ts.length ∧ i = .int .i64 k ∧ Bld wr w1.heap.size w1.heap.size (bookB (ts.take k)) ∧ Ext w1 wr) (fun i wr => ts.length - (intOf i).toNat)
  case atStart => exact ⟨0, by omega, rfl, hbl2, hx2⟩
  case round =>
    obtain ⟨k, hk, rfl, hbl, hxr⟩ := hrel
    clear hbl2 hx2 cA2 cA
    by_cases hlt : k < ts.length
    · obtain ⟨b, o, cs, ha, hr, tv, rfl, htv⟩ := (unhide Hs1).2 k ts[k] (by simp [hlt])
      simp only at ha
      subst ha
      obtain ⟨h0, h1, h2, h3, h4⟩ := range5 (hxr.range hr)
      have hT := (unhide Hn).2 ts[k] (List.getElem_mem hlt)
      have hP := (unhide Hpr) ts[k] (List.getElem_mem hlt)
      have EA : bookB (ts.take k) ++ typeB ts[k] = bookB (ts.take (k + 1)) := by unfold bookB; rw [flat_take hlt]
      have EL : (bookB (ts.take k)).length + (typeB ts[k]).length ≤ 1099511627776 := by
        have e := congrArg List.length EA
        rw [List.length_append] at e
        rw [e]
        have := take_flat_le ts typeB (k + 1)
        unfold bookB at hlen ⊢
        omega
      have HH := hide (And.intro htv (And.intro hT (And.intro hP (And.intro EA EL))))
      clear htv hT hP EA EL hr
      generalize ts[k] = t at *
      have hxT : Ext wr (wr.alloc (.cells #[.string tv.name, .bool tv.enum, .slice tv.fields.a tv.fields.len tv.fields.cap, .slice tv.gone.a tv.gone.len tv.gone.cap, .slice tv.items.a tv.items.len tv.items.cap] 30)) := (Ext.refl wr).alloc _
      have Hbl := hide hbl
      clear hbl
      go_wp2_with fail
      refine (printType_any w1 w1.heap.size _ tv t _ (hxr.trans hxT) (unhide HH).1 (unhide HH).2.1 (unhide HH).2.2.1 hn1' hn2' htab' ((unhide Hbl).ext hxT) (unhide HH).2.2.2.2).mono ?_
      rintro e w3 ⟨rfl, h3, f3⟩
      rw [(unhide HH).2.2.2.1] at h3
      have hx3 := (hxr.trans hxT).wfr f3
      have H3 := hide h3
      clear h3 f3
      go_wp2
      exact ⟨⟨k + 1, by omega, by go_num, unhide H3, hx3⟩, by simp [intOf]; omega⟩
    · have e : k = ts.length := by omega
      subst e
      rw [List.take_length] at hbl
      go_wp2_with fail
      refine (Tryz.Builder_String_any_k w1.heap.size w1.heap.size (bookB ts) wr hbl hxr.size).mono ?_
      rintro e w3 ⟨rfl, _, hbe, _⟩
      have hx3 : Ext w w3 := hx01.trans (Below.trans (B := w1.heap.size) hxr hbe)
      go_wp2
      refine bodyPost_ret (v := .tuple #[.string ⟨(bookB ts).toArray⟩, .int .i64 0]) (by simp [results, Tryz.results24, go_sem]) rfl ⟨rfl, hx3⟩
end Go.Proofs.YtmghhakebhgckaaGreatDoor

