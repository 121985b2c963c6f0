import Derived.Test.YtblkgaoafejefaaDoorW12
import Derived.Test.YtblkgaoafejefaaDoorReg2
namespace Go.Proofs.YtblkgaoafejefaaDoor
set_option linter.unusedSimpArgs false
set_option linter.unusedVariables false
open Go.RowKit

set_option maxHeartbeats 3200000 in
theorem sameType_true (tv tv' : TV) (t : TypeM) (w : World) (h : TypeAt w tv t) (h' : TypeAt w tv' t) (hn : t.Small) :
    Calls Tryd.prog 14 #[.agg #[.string tv.name, .bool tv.enum, .slice tv.fields.a tv.fields.len tv.fields.cap, .slice tv.gone.a tv.gone.len tv.gone.cap, .slice tv.items.a tv.items.len tv.items.cap], .agg #[.string tv'.name, .bool tv'.enum, .slice tv'.fields.a tv'.fields.len tv'.fields.cap, .slice tv'.gone.a tv'.gone.len tv'.gone.cap, .slice tv'.items.a tv'.items.len tv'.items.cap]] w fun e w' => e = .returned (.bool true) ∧ Ext w w' := by
  obtain ⟨nm, en, ⟨fa, fl, fc⟩, ⟨ga, gl, gc⟩, ⟨ia, il, ic⟩⟩ := tv
  obtain ⟨nm', en', ⟨fa', fl', fc'⟩, ⟨ga', gl', gc'⟩, ⟨ia', il', ic'⟩⟩ := tv'
  have e1 := h.name
  have e2 := h.enum
  have e1' := h'.name
  have e2' := h'.enum
  have n1 := hn.fields
  have n2 := hn.gone
  have n3 := hn.items
  obtain ⟨l1, f1⟩ := h.fields
  obtain ⟨l2, f2⟩ := h.gone
  obtain ⟨l3, f3⟩ := h.items
  obtain ⟨l1', f1'⟩ := h'.fields
  obtain ⟨l2', f2'⟩ := h'.gone
  obtain ⟨l3', f3'⟩ := h'.items
  simp only at e1 e2 e1' e2' l1 l2 l3 l1' l2' l3'
  subst e1 e2 e1' e2' l1 l2 l3 l1' l2' l3'
  obtain ⟨nm, en, fs, gs, is⟩ := t
  simp only at f1 f2 f3 f1' f2' f3' n1 n2 n3 ⊢
  clear h h' hn
  have hx0 : Ext w ((w.alloc (.cells #[.string nm, .bool en, .slice fa fs.length fc, .slice ga gs.length gc, .slice ia is.length ic] 46)).alloc (.cells #[.string nm, .bool en, .slice fa' fs.length fc', .slice ga' gs.length gc', .slice ia' is.length ic'] 46)) := ((Ext.refl w).alloc _).alloc _
  have F1 := hide f1
  have F2 := hide f2
  have F3 := hide f3
  have F1' := hide f1'
  have F2' := hide f2'
  have F3' := hide f3'
  clear f1 f2 f3 f1' f2' f3'
  go_enter Tryd.func14, Tryd.ntmps14
  go_wp2
  go_loopw [50] (fun i wr => ∃ k : Nat, k ≤ fs.length ∧ i = .int .i64 k ∧ Ext w wr ∧ wr.heap[w.heap.size]? = some (.cells #[.string nm, .bool en, .slice fa fs.length fc, .slice ga gs.length gc, .slice ia is.length ic] 46 (0, 0)) ∧ wr.heap[w.heap.size + 1]? = some (.cells #[.string nm, .bool en, .slice fa' fs.length fc', .slice ga' gs.length gc', .slice ia' is.length ic'] 46 (0, 0))) (fun i wr => fs.length - (intOf i).toNat)
  case atStart => exact ⟨0, by omega, rfl, hx0, heap_alloc2_old _ _ _, heap_alloc2_new _ _ _⟩
  case round =>
    obtain ⟨k, hk, rfl, hx, hA, hB⟩ := hrel
    obtain ⟨a0, a1, a2, a3, a4, af⟩ := row5 hA
    obtain ⟨b0, b1, b2, b3, b4, bf⟩ := row5 hB
    have zB := lt_of_heap hB
    by_cases hlt : k < fs.length
    · obtain ⟨b, o, cs, ha, hr, rfl⟩ := (unhide F1) k fs[k] (by simp [hlt])
      obtain ⟨b', o', cs', ha', hr', rfl⟩ := (unhide F1') k fs[k] (by simp [hlt])
      subst ha ha'
      obtain ⟨f0, f1, f2, f3, f4⟩ := range5 (hx.range hr)
      obtain ⟨g0, g1, g2, g3, g4⟩ := range5 (hx.range hr')
      generalize fs[k] = f at *
      clear F1 F1' hr hr'
      go_wp2_with fail
      go_quiet (fail)
      go_wp2
      exact ⟨⟨k + 1, by omega, by go_num, hx.drewN _, hA, hB⟩, by simp [intOf]; omega⟩
    · go_wp2
      go_loopw [68] (fun i wr => ∃ k : Nat, k ≤ gs.length ∧ i = .int .i64 k ∧ Ext w wr ∧ wr.heap[w.heap.size]? = some (.cells #[.string nm, .bool en, .slice fa fs.length fc, .slice ga gs.length gc, .slice ia is.length ic] 46 (0, 0)) ∧ wr.heap[w.heap.size + 1]? = some (.cells #[.string nm, .bool en, .slice fa' fs.length fc', .slice ga' gs.length gc', .slice ia' is.length ic'] 46 (0, 0))) (fun i wr => gs.length - (intOf i).toNat)
      case atStart => exact ⟨0, by omega, rfl, hx, hA, hB⟩
      case round =>
        clear hx hA hB a0 a1 a2 a3 a4 af b0 b1 b2 b3 b4 bf zB
        obtain ⟨k, hk, rfl, hx, hA, hB⟩ := hrel
        obtain ⟨a0, a1, a2, a3, a4, af⟩ := row5 hA
        obtain ⟨b0, b1, b2, b3, b4, bf⟩ := row5 hB
        have zB := lt_of_heap hB
        by_cases hlt : k < gs.length
        · obtain ⟨b, o, cs, ha, hr, rfl⟩ := (unhide F2) k gs[k] (by simp [hlt])
          obtain ⟨b', o', cs', ha', hr', rfl⟩ := (unhide F2') k gs[k] (by simp [hlt])
          subst ha ha'
          have f0 := hx.cell (hr 0 _ rfl)
          have g0 := hx.cell (hr' 0 _ rfl)
          simp only [Nat.mul_one, Nat.add_zero] at f0 g0
          generalize gs[k] = f at *
          clear F2 F2' hr hr'
          go_wp2_with fail
          go_quiet (fail)
          go_wp2
          exact ⟨⟨k + 1, by omega, by go_num, hx.drewN _, hA, hB⟩, by simp [intOf]; omega⟩
        · go_wp2
          go_loopw [86] (fun i wr => ∃ k : Nat, k ≤ is.length ∧ i = .int .i64 k ∧ Ext w wr ∧ wr.heap[w.heap.size]? = some (.cells #[.string nm, .bool en, .slice fa fs.length fc, .slice ga gs.length gc, .slice ia is.length ic] 46 (0, 0)) ∧ wr.heap[w.heap.size + 1]? = some (.cells #[.string nm, .bool en, .slice fa' fs.length fc', .slice ga' gs.length gc', .slice ia' is.length ic'] 46 (0, 0))) (fun i wr => is.length - (intOf i).toNat)
          case atStart => exact ⟨0, by omega, rfl, hx, hA, hB⟩
          case round =>
            clear hx hA hB a0 a1 a2 a3 a4 af b0 b1 b2 b3 b4 bf zB
            obtain ⟨k, hk, rfl, hx, hA, hB⟩ := hrel
            obtain ⟨a0, a1, a2, a3, a4, af⟩ := row5 hA
            obtain ⟨b0, b1, b2, b3, b4, bf⟩ := row5 hB
            have zB := lt_of_heap hB
            by_cases hlt : k < is.length
            · obtain ⟨b, o, cs, ha, hr, rfl⟩ := (unhide F3) k is[k] (by simp [hlt])
              obtain ⟨b', o', cs', ha', hr', rfl⟩ := (unhide F3') k is[k] (by simp [hlt])
              subst ha ha'
              have f0 := hx.cell (hr 0 _ rfl)
              have f1 := hx.cell (hr 1 _ rfl)
              have g0 := hx.cell (hr' 0 _ rfl)
              have g1 := hx.cell (hr' 1 _ rfl)
              simp only [Nat.add_zero] at f0 g0
              generalize is[k] = f at *
              clear F3 F3' hr hr'
              go_wp2_with fail
              go_quiet (fail)
              go_wp2
              exact ⟨⟨k + 1, by omega, by go_num, hx.drewN _, hA, hB⟩, by simp [intOf]; omega⟩
            · go_wp2
              go_ret
              exact ⟨rfl, hx⟩
end Go.Proofs.YtblkgaoafejefaaDoor
