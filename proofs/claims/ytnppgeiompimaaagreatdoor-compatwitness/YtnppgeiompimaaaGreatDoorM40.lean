import Derived.Test.YtnppgeiompimaaaGreatDoorM39
namespace Go.Proofs.YtnppgeiompimaaaGreatDoor
set_option linter.unusedSimpArgs false
set_option linter.unusedVariables false
set_option linter.unusedSimpArgs false
set_option linter.unusedVariables false
open Go.RowKit

set_option maxHeartbeats 6400000 in
set_option maxRecDepth 10000 in
theorem compact_any (base : Nat) (s : SV) (l : List FlawM) (w : World) (ho : w.ownsRow base 62 3 (.slice s.a s.len s.cap) l.length (l.flatMap encW)) (hl : l.length ≤ 100000) :
    Calls Tryz.prog 27 #[.slice s.a s.len s.cap] w fun e w' => ∃ s' : SV, e = .returned (.slice s'.a s'.len s'.cap) ∧ w'.ownsRow base 62 3 (.slice s'.a s'.len s'.cap) (compM l).length ((compM l).flatMap encW) ∧ w.grownBy w' s.blk := by
  have hn : s.len = l.length := by
    rcases ho.2 with ⟨e, h0⟩ | ⟨g, cap, cur, e, _⟩
    · simp only [Value.slice.injEq] at e; omega
    · simp only [Value.slice.injEq] at e; exact e.2.1
  obtain ⟨a, n, cap⟩ := s
  simp only at hn
  subst hn
  by_cases h2 : l.length < 2
  · have hc : compM l = l := by
      match l, h2 with
      | [], _ => rfl
      | [x], _ => rfl
    rw [hc]
    have Ho := hide ho
    clear ho hc
    go_enter Tryz.func27, Tryz.ntmps27
    go_wp2
    go_ret
    exact ⟨⟨a, l.length, cap⟩, rfl, unhide Ho, World.grownBy.refl _ _⟩
  · obtain ⟨g, c, rfl, hb, hg, hnc, hcm, hcl, hct⟩ := own3_parts (n := l.length) ho (by omega)
    have q := eqlW
    have q2 := neqW
    have Ho := hide ho
    have Hcl := hide hcl
    have Hct := hide hct
    have Hb := hide hb
    clear ho hcl hct hb
    simp only [maxLen] at hcm
    have hz := lt_of_heap hg
    go_enter Tryz.func27, Tryz.ntmps27
    go_wp2
    go_loopw [3] (fun u wr => ∃ k : Nat, u = .int .i64 k ∧ 1 ≤ k ∧ k ≤ l.length ∧ compK l k = l.take k ∧ Ext w wr) (fun u _ => l.length - (intOf u).toNat)
    case atStart => exact ⟨1, rfl, Nat.le_refl _, by omega, compK_one (by omega), Ext.refl w⟩
    case round =>
      obtain ⟨k, rfl, hk1, hk, hq, hE⟩ := hrel
      have hgr := hE.heap hg
      have Hq := hide hq
      clear hq
      by_cases hlt : k < l.length
      · obtain ⟨x, hx⟩ : ∃ x, l[k]? = some x := ⟨l[k], by simp [hlt]⟩
        obtain ⟨y, hy⟩ : ∃ y, l[k - 1]? = some y := ⟨l[k - 1]'(by omega), List.getElem?_eq_getElem (by omega)⟩
        have hcc : ∀ i, i < l.length → ∀ t, t < 3 → c[i * 3 + t]? = (l.flatMap encW)[i * 3 + t]? := fun i hi t ht => by
          rw [← unhide Hct, List.getElem?_take, if_pos (by omega)]
        obtain ⟨x0, x1, x2⟩ := cells3 hg hx (hcc k hlt) rfl
        obtain ⟨y0, y1, y2⟩ := cells3 hg hy (hcc (k - 1) (by omega)) rfl
        go_wp2_with fail
        refine wp_region_X (fun w' => Ext w w') (fun _ => false) (by kernel_rfl) ?_
        have hS0 : Ext w wr.drew := hE.drew
        generalize wr.drew = Wd at *
        have hki : (k : Int) < (l.length : Int) := by omega
        have hk0 : ¬ ((k : Int) < 0) := by omega
        have hk2 : ¬ ((k : Int) - 1 < 0) := by omega
        have hk3 : (k : Int) - 1 < (l.length : Int) := by omega
        have hk4 : ((k : Int) - 1).toNat = k - 1 := by omega
        have hkw : IntKind.i64.wrap ((k : Int) - 1) = (k : Int) - 1 := Go.IntWalk.i64_in _ ⟨by omega, by omega⟩
        have hk5 : ¬ ((k : Int) < 1) := by omega
        refine wpAnyX_take (i := 0) (v := .slice (some ⟨g, 0, none⟩) l.length cap) rfl (by kernel_rfl) (by kernel_rfl) (fun _ _ _ h => h) (.inl ⟨rfl, fun w' hS => by simp [execOp, go_sem]⟩) (hS0) ?_
        simp only [Act.put, List.getElem_toArray, List.getElem_cons_zero, List.getElem_cons_succ, List.setIfInBounds_toArray, List.set_cons_succ, List.set_cons_zero]
        refine wpAnyX_take (i := 1) (v := .int .i64 k) rfl (by kernel_rfl) (by kernel_rfl) (fun _ _ _ h => h) (.inl ⟨rfl, fun w' hS => by simp [execOp, go_sem]⟩) (hS0) ?_
        simp only [Act.put, List.getElem_toArray, List.getElem_cons_zero, List.getElem_cons_succ, List.setIfInBounds_toArray, List.set_cons_succ, List.set_cons_zero]
        refine wpAnyX_take (i := 2) (v := .pointer (some ⟨g, k * 3, none⟩)) rfl (by kernel_rfl) (by kernel_rfl) (fun _ _ _ h => h) (.inl ⟨rfl, fun w' hS => by simp [execOp, go_sem, hki, hk0]⟩) (hS0) ?_
        simp only [Act.put, List.getElem_toArray, List.getElem_cons_zero, List.getElem_cons_succ, List.setIfInBounds_toArray, List.set_cons_succ, List.set_cons_zero]
        refine wpAnyX_take (i := 3) (v := .agg #[.string x.type, .int .i64 x.id, .int .i64 x.why]) rfl (by kernel_rfl) (by kernel_rfl) (fun _ _ _ h => h) (.inl ⟨rfl, fun w' hS => by simp [execOp, go_sem, hS.cell x0, hS.cell x1, hS.cell x2]⟩) (hS0) ?_
        simp only [Act.put, List.getElem_toArray, List.getElem_cons_zero, List.getElem_cons_succ, List.setIfInBounds_toArray, List.set_cons_succ, List.set_cons_zero]
        refine wpAnyX_take (i := 4) (v := .slice (some ⟨g, 0, none⟩) l.length cap) rfl (by kernel_rfl) (by kernel_rfl) (fun _ _ _ h => h) (.inl ⟨rfl, fun w' hS => by simp [execOp, go_sem]⟩) (hS0) ?_
        simp only [Act.put, List.getElem_toArray, List.getElem_cons_zero, List.getElem_cons_succ, List.setIfInBounds_toArray, List.set_cons_succ, List.set_cons_zero]
        refine wpAnyX_take (i := 5) (v := .int .i64 k) rfl (by kernel_rfl) (by kernel_rfl) (fun _ _ _ h => h) (.inl ⟨rfl, fun w' hS => by simp [execOp, go_sem]⟩) (hS0) ?_
        simp only [Act.put, List.getElem_toArray, List.getElem_cons_zero, List.getElem_cons_succ, List.setIfInBounds_toArray, List.set_cons_succ, List.set_cons_zero]
        refine wpAnyX_take (i := 6) (v := .int .i64 ((k : Int) - 1)) rfl (by kernel_rfl) (by kernel_rfl) (fun _ _ _ h => h) (.inl ⟨rfl, fun w' hS => by simp [execOp, go_sem, hkw]⟩) (hS0) ?_
        simp only [Act.put, List.getElem_toArray, List.getElem_cons_zero, List.getElem_cons_succ, List.setIfInBounds_toArray, List.set_cons_succ, List.set_cons_zero]
        refine wpAnyX_take (i := 7) (v := .pointer (some ⟨g, (k - 1) * 3, none⟩)) rfl (by kernel_rfl) (by kernel_rfl) (fun _ _ _ h => h) (.inl ⟨rfl, fun w' hS => by simp [execOp, go_sem, hk3, hk2, hk4, hk5]⟩) (hS0) ?_
        simp only [Act.put, List.getElem_toArray, List.getElem_cons_zero, List.getElem_cons_succ, List.setIfInBounds_toArray, List.set_cons_succ, List.set_cons_zero]
        refine wpAnyX_take (i := 8) (v := .agg #[.string y.type, .int .i64 y.id, .int .i64 y.why]) rfl (by kernel_rfl) (by kernel_rfl) (fun _ _ _ h => h) (.inl ⟨rfl, fun w' hS => by simp [execOp, go_sem, hS.cell y0, hS.cell y1, hS.cell y2]⟩) (hS0) ?_
        simp only [Act.put, List.getElem_toArray, List.getElem_cons_zero, List.getElem_cons_succ, List.setIfInBounds_toArray, List.set_cons_succ, List.set_cons_zero]
        refine wpAnyX_take (i := 9) (v := .bool (sameF x y)) rfl (by kernel_rfl) (by kernel_rfl) (fun _ _ _ h => h) (.inl ⟨rfl, fun w' hS => by simp [execOp, go_sem, q]⟩) (hS0) ?_
        simp only [Act.put, List.getElem_toArray, List.getElem_cons_zero, List.getElem_cons_succ, List.setIfInBounds_toArray, List.set_cons_succ, List.set_cons_zero]
        refine wpAnyX_end [] [] rfl (by intro j i hj; simp at hj) (by kernel_rfl) (by intro i hi; simp at hi) fun K hK => ?_
        go_wp2
        refine hK.out _ _ ?_
        clear hK K
        cases hsm : sameF x y with
        | false =>
          have hq' : compK l (k + 1) = l.take (k + 1) := by
            have e := (List.getElem?_eq_some_iff.1 hx).2
            have e2 := (List.getElem?_eq_some_iff.1 hy).2
            rw [compK_succ_diff hlt (.inr (by rw [e, e2]; exact hsm)), unhide Hq, List.take_succ_eq_append_getElem hlt]
          have Hq' := hide hq'
          clear hq'
          go_wp2
          exact ⟨⟨k + 1, by go_num, by omega, by omega, unhide Hq', hS0⟩, by simp [intOf]; omega⟩
        | true =>
          have hst : CompAt w Wd g cap l k (k + 1) := CompAt.start (hS0.heap hg) (unhide Hcl) (unhide Hct) (ext_grown hS0 _) (by omega) hlt (unhide Hq) hx hy hsm
          have Hst := hide hst
          clear hst x0 x1 x2 y0 y1 y2 hx hy hkw
          go_wp2_with fail
          go_loopw [3, 5] (fun u3 u5 wq => ∃ kk k2 : Nat, u3 = .int .i64 kk ∧ u5 = .int .i64 k2 ∧ 1 ≤ k2 ∧ k + k2 ≤ l.length ∧ kk + 1 ≤ k + k2 ∧ CompAt w wq g cap l kk (k + k2)) (fun _ u5 _ => l.length - (intOf u5).toNat)
          case atStart => exact ⟨k, 1, rfl, rfl, Nat.le_refl _, by omega, Nat.le_refl _, unhide Hst⟩
          case round =>
            obtain ⟨kk, k2, rfl, rfl, hk21, hk22, hkk, hC⟩ := hrel
            obtain ⟨cc, hcg⟩ : ∃ cc : List Value, wr.heap[g]? = some (.cells cc.toArray 62 (0, 0)) := let ⟨c, h, _⟩ := hC; ⟨c, h⟩
            by_cases hlt2 : k + k2 < l.length
            · obtain ⟨x', hx'⟩ : ∃ x, l[k + k2]? = some x := ⟨l[k + k2], by simp [hlt2]⟩
              obtain ⟨y', hy'⟩ : ∃ y, l[k + k2 - 1]? = some y := ⟨l[k + k2 - 1]'(by omega), List.getElem?_eq_getElem (by omega)⟩
              have hcx : ∀ w' : World, w'.heap[g]? = wr.heap[g]? → w'.cell? ⟨g, k * 3 + k2 * 3, none⟩ = some (.string x'.type) ∧ w'.cell? ⟨g, k * 3 + k2 * 3 + 1, none⟩ = some (.int .i64 x'.id) ∧ w'.cell? ⟨g, k * 3 + k2 * 3 + 2, none⟩ = some (.int .i64 x'.why) ∧
                  w'.cell? ⟨g, k * 3 + (k2 - 1) * 3, none⟩ = some (.string y'.type) ∧ w'.cell? ⟨g, k * 3 + (k2 - 1) * 3 + 1, none⟩ = some (.int .i64 y'.id) ∧ w'.cell? ⟨g, k * 3 + (k2 - 1) * 3 + 2, none⟩ = some (.int .i64 y'.why) := fun w' hw' => by
                obtain ⟨c', h1, h2, h3, h4, h5, h6⟩ := hC
                obtain ⟨a0, a1, a2⟩ := cells3 (w := w') (hw'.trans h1) hx' (h5 _ (by omega) hlt2) (show k * 3 + k2 * 3 = (k + k2) * 3 by omega)
                obtain ⟨b0, b1, b2⟩ := cells3 (w := w') (hw'.trans h1) hy' (h5 _ (by omega) (by omega)) (show k * 3 + (k2 - 1) * 3 = (k + k2 - 1) * 3 by omega)
                exact ⟨a0, a1, a2, b0, b1, b2⟩
              have HC := hide hC
              clear hC
              go_wp2_with fail
              refine wp_region_X (fun w' => w'.heap[g]? = wr.heap[g]?) (fun _ => false) (by kernel_rfl) ?_
              have hS1 : wr.drew.heap[g]? = wr.heap[g]? := rfl
              have HC2 := hide ((unhide HC).ext (Ext.refl wr).drew)
              generalize hWe : wr.drew = We at *
              have hki : (k2 : Int) < ((l.length - k : Nat) : Int) := by omega
              have hk0' : ¬ ((k2 : Int) < 0) := by omega
              have hk2' : ¬ ((k2 : Int) - 1 < 0) := by omega
              have hk3' : (k2 : Int) - 1 < ((l.length - k : Nat) : Int) := by omega
              have hk4' : ((k2 : Int) - 1).toNat = k2 - 1 := by omega
              have hk5' : ¬ ((k2 : Int) < 1) := by omega
              have hkw : IntKind.i64.wrap ((k2 : Int) - 1) = (k2 : Int) - 1 := Go.IntWalk.i64_in _ ⟨by omega, by omega⟩
              refine wpAnyX_take (i := 0) (v := .slice (some ⟨g, k * 3, none⟩) (l.length - k) (cap - k)) rfl (by kernel_rfl) (by kernel_rfl) (fun _ _ _ h => h) (.inl ⟨rfl, fun w' hS => by simp [execOp, go_sem]⟩) (hS1) ?_
              simp only [Act.put, List.getElem_toArray, List.getElem_cons_zero, List.getElem_cons_succ, List.setIfInBounds_toArray, List.set_cons_succ, List.set_cons_zero]
              refine wpAnyX_take (i := 1) (v := .int .i64 k2) rfl (by kernel_rfl) (by kernel_rfl) (fun _ _ _ h => h) (.inl ⟨rfl, fun w' hS => by simp [execOp, go_sem]⟩) (hS1) ?_
              simp only [Act.put, List.getElem_toArray, List.getElem_cons_zero, List.getElem_cons_succ, List.setIfInBounds_toArray, List.set_cons_succ, List.set_cons_zero]
              refine wpAnyX_take (i := 2) (v := .pointer (some ⟨g, k * 3 + k2 * 3, none⟩)) rfl (by kernel_rfl) (by kernel_rfl) (fun _ _ _ h => h) (.inl ⟨rfl, fun w' hS => by simp [execOp, go_sem, hki, hk0']⟩) (hS1) ?_
              simp only [Act.put, List.getElem_toArray, List.getElem_cons_zero, List.getElem_cons_succ, List.setIfInBounds_toArray, List.set_cons_succ, List.set_cons_zero]
              refine wpAnyX_take (i := 3) (v := .agg #[.string x'.type, .int .i64 x'.id, .int .i64 x'.why]) rfl (by kernel_rfl) (by kernel_rfl) (fun _ _ _ h => h) (.inl ⟨rfl, fun w' hS => by simp [execOp, go_sem, (hcx _ hS).1, (hcx _ hS).2.1, (hcx _ hS).2.2.1]⟩) (hS1) ?_
              simp only [Act.put, List.getElem_toArray, List.getElem_cons_zero, List.getElem_cons_succ, List.setIfInBounds_toArray, List.set_cons_succ, List.set_cons_zero]
              refine wpAnyX_take (i := 4) (v := .slice (some ⟨g, k * 3, none⟩) (l.length - k) (cap - k)) rfl (by kernel_rfl) (by kernel_rfl) (fun _ _ _ h => h) (.inl ⟨rfl, fun w' hS => by simp [execOp, go_sem]⟩) (hS1) ?_
              simp only [Act.put, List.getElem_toArray, List.getElem_cons_zero, List.getElem_cons_succ, List.setIfInBounds_toArray, List.set_cons_succ, List.set_cons_zero]
              refine wpAnyX_take (i := 5) (v := .int .i64 k2) rfl (by kernel_rfl) (by kernel_rfl) (fun _ _ _ h => h) (.inl ⟨rfl, fun w' hS => by simp [execOp, go_sem]⟩) (hS1) ?_
              simp only [Act.put, List.getElem_toArray, List.getElem_cons_zero, List.getElem_cons_succ, List.setIfInBounds_toArray, List.set_cons_succ, List.set_cons_zero]
              refine wpAnyX_take (i := 6) (v := .int .i64 ((k2 : Int) - 1)) rfl (by kernel_rfl) (by kernel_rfl) (fun _ _ _ h => h) (.inl ⟨rfl, fun w' hS => by simp [execOp, go_sem, hkw]⟩) (hS1) ?_
              simp only [Act.put, List.getElem_toArray, List.getElem_cons_zero, List.getElem_cons_succ, List.setIfInBounds_toArray, List.set_cons_succ, List.set_cons_zero]
              refine wpAnyX_take (i := 7) (v := .pointer (some ⟨g, k * 3 + (k2 - 1) * 3, none⟩)) rfl (by kernel_rfl) (by kernel_rfl) (fun _ _ _ h => h) (.inl ⟨rfl, fun w' hS => by simp [execOp, go_sem, hk3', hk2', hk4', hk5']⟩) (hS1) ?_
              simp only [Act.put, List.getElem_toArray, List.getElem_cons_zero, List.getElem_cons_succ, List.setIfInBounds_toArray, List.set_cons_succ, List.set_cons_zero]
              refine wpAnyX_take (i := 8) (v := .agg #[.string y'.type, .int .i64 y'.id, .int .i64 y'.why]) rfl (by kernel_rfl) (by kernel_rfl) (fun _ _ _ h => h) (.inl ⟨rfl, fun w' hS => by simp [execOp, go_sem, (hcx _ hS).2.2.2.1, (hcx _ hS).2.2.2.2.1, (hcx _ hS).2.2.2.2.2]⟩) (hS1) ?_
              simp only [Act.put, List.getElem_toArray, List.getElem_cons_zero, List.getElem_cons_succ, List.setIfInBounds_toArray, List.set_cons_succ, List.set_cons_zero]
              refine wpAnyX_take (i := 9) (v := .bool (!sameF x' y')) rfl (by kernel_rfl) (by kernel_rfl) (fun _ _ _ h => h) (.inl ⟨rfl, fun w' hS => by simp [execOp, go_sem, q2]⟩) (hS1) ?_
              simp only [Act.put, List.getElem_toArray, List.getElem_cons_zero, List.getElem_cons_succ, List.setIfInBounds_toArray, List.set_cons_succ, List.set_cons_zero]
              refine wpAnyX_end [] [] rfl (by intro j i hj; simp at hj) (by kernel_rfl) (by intro i hi; simp at hi) fun K hK => ?_
              go_wp2
              refine hK.out _ _ ?_
              clear hK K
              cases hsm' : sameF x' y' with
              | true =>
                have hD := hide ((unhide HC2).same (by omega) hlt2 hx' hy' hsm')
                clear hcx hkw
                go_wp2
                exact ⟨⟨kk, k2 + 1, rfl, by go_num, by omega, by omega, by omega, unhide hD⟩, by simp [intOf]; omega⟩
              | false =>
                have hD := (unhide HC2).diff (by omega) hlt2 hnc hx' hy' hsm'
                have hgE : We.heap[g]? = some (.cells cc.toArray 62 (0, 0)) := hS1.trans hcg
                have hzE := lt_of_heap hgE
                obtain ⟨a0, a1, a2, _⟩ := hcx _ hS1
                obtain ⟨W9, hW9⟩ : ∃ W9, W9 = ((We.setCell ⟨g, kk * 3, none⟩ (.string x'.type)).setCell ⟨g, kk * 3 + 1, none⟩ (.int .i64 x'.id)).setCell ⟨g, kk * 3 + 2, none⟩ (.int .i64 x'.why) := ⟨_, rfl⟩
                rw [← hW9] at hD
                have HD := hide hD
                have HW9 := hide hW9
                have hkl : (kk : Int) < (l.length : Int) := by omega
                have hfz : ∀ j, We.frozen? ⟨g, j, none⟩ = false := fun j => frozen_of_row We g j _ 62 hgE
                have hcs : ∀ j, j < 3 → (We.cell? ⟨g, kk * 3 + j, none⟩).isSome = true := fun j hj => by
                  obtain ⟨c', h1, h2, _⟩ := unhide HC2
                  rw [cell_of_row We g _ _ 62 _ h1]
                  have : l.length * 3 ≤ cap * 3 := Nat.mul_le_mul_right 3 hnc
                  simp; omega
                obtain ⟨o0, ho0⟩ := Option.isSome_iff_exists.1 (hcs 0 (by omega))
                obtain ⟨o1, ho1⟩ := Option.isSome_iff_exists.1 (hcs 1 (by omega))
                obtain ⟨o2, ho2⟩ := Option.isSome_iff_exists.1 (hcs 2 (by omega))
                simp only [Nat.add_zero] at ho0
                clear hD hW9 hcx hkw hcs
                go_wp2
                rw [← unhide HW9]
                exact ⟨⟨kk + 1, k2 + 1, by go_num, by go_num, by omega, by omega, by omega, unhide HD⟩, by simp [intOf]; omega⟩
            · have hke : k + k2 = l.length := by omega
              rw [hke] at hC
              obtain ⟨W9, hcl9, ho9, hg9⟩ := hC.done (unhide Hb) hnc (by simp only [maxLen]; omega) (by omega)
              have Ho9 := hide (And.intro ho9 hg9)
              have hkl : (kk : Int) < (l.length : Int) := by omega
              have hkl2 : (kk : Int) ≤ (l.length : Int) := by omega
              have hkl3 : (kk : Int) ≤ (cap : Int) := by omega
              have hkl4 : kk ≤ l.length := by omega
              have hkl5 : kk ≤ cap := by omega
              have hkl6 : ¬ (kk = cap) := by omega
              clear ho9 hg9 hC
              go_wp2
              go_ret
              exact ⟨⟨some ⟨g, 0, none⟩, kk, cap⟩, rfl, (unhide Ho9).1, (unhide Ho9).2⟩
      · have hke : k = l.length := by omega
        subst hke
        have hcm' : compM l = l := (unhide Hq).trans List.take_length
        go_wp2
        go_ret
        exact ⟨⟨some ⟨g, 0, none⟩, l.length, cap⟩, rfl, by rw [hcm']; exact owns_ext (unhide Ho) hE, ext_grown hE _⟩
end Go.Proofs.YtnppgeiompimaaaGreatDoor

