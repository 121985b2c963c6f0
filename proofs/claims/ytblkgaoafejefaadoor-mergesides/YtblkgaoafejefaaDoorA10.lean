import Derived.Test.YtblkgaoafejefaaDoorA7
import Derived.Test.YtblkgaoafejefaaDoorA8
namespace Go.Proofs.YtblkgaoafejefaaDoor
set_option linter.unusedSimpArgs false
set_option linter.unusedVariables false
open Go.RowKit

theorem set2 {w : World} {g : Nat} {t : TypeId} {c0 c1 : Value} (hb : w.heap[g]? = some (.cells #[c0, c1] t (0, 0))) (d0 d1 : Value) :
    ∃ W, W = (w.setCell ⟨g, 0, none⟩ d0).setCell ⟨g, 1, none⟩ d1 ∧ W.heap[g]? = some (.cells #[d0, d1] t (0, 0)) ∧ (∀ w0, Ext w0 w → w0.heap.size ≤ g → Ext w0 W) := by
  have h0 := heap_setCell_same w g 0 _ t d0 hb
  have h1 := heap_setCell_same _ g 1 _ t d1 h0
  exact ⟨_, rfl, h1, fun w0 hx hg => (hx.setCell hg _).setCell hg _⟩
theorem row2 {w : World} {g : Nat} {t : TypeId} {c0 c1 : Value} (hb : w.heap[g]? = some (.cells #[c0, c1] t (0, 0))) : w.cell? ⟨g, 0, none⟩ = some c0 ∧ w.cell? ⟨g, 1, none⟩ = some c1 ∧ ∀ j, w.frozen? ⟨g, j, none⟩ = false :=
  ⟨cell_of_row w g 0 _ t _ hb, cell_of_row w g 1 _ t _ hb, fun j => frozen_of_row w g j _ t hb⟩
theorem set5_off {w W : World} {g : Nat} {d0 d1 d2 d3 d4 : Value} (h : W = ((((w.setCell ⟨g, 0, none⟩ d0).setCell ⟨g, 1, none⟩ d1).setCell ⟨g, 2, none⟩ d2).setCell ⟨g, 3, none⟩ d3).setCell ⟨g, 4, none⟩ d4) {b : Nat} (hb : b ≠ g) : W.heap[b]? = w.heap[b]? := by
  subst h
  rw [Below.heap_setCell _ _ _ _ hb, Below.heap_setCell _ _ _ _ hb, Below.heap_setCell _ _ _ _ hb, Below.heap_setCell _ _ _ _ hb, Below.heap_setCell _ _ _ _ hb]
set_option maxHeartbeats 12800000 in
set_option maxRecDepth 20000 in
theorem merged_any (nm wn : ByteArray) (we : Bool) (wf wg wi : SV) (an : ByteArray) (ae : Bool) (af ag ai : SV) (bn : ByteArray) (be : Bool) (bf bg bi : SV) (s : TS) (w : World)
    (hw : TypeAt w ⟨wn, we, wf, wg, wi⟩ s.was) (ha : TypeAt w ⟨an, ae, af, ag, ai⟩ s.a) (hb : TypeAt w ⟨bn, be, bf, bg, bi⟩ s.b) (sw : s.was.Small) (sa : s.a.Small) (sb : s.b.Small) (n0 : s.was.items.length ≤ 1000) (n1 : s.a.items.length ≤ 1000) (n2 : s.b.items.length ≤ 1000) :
    Calls Tryd.prog 13 #[.agg #[.string nm, .string wn, .bool we, .slice wf.a wf.len wf.cap, .slice wg.a wg.len wg.cap, .slice wi.a wi.len wi.cap, .string an, .bool ae, .slice af.a af.len af.cap, .slice ag.a ag.len ag.cap, .slice ai.a ai.len ai.cap, .string bn, .bool be, .slice bf.a bf.len bf.cap, .slice bg.a bg.len bg.cap, .slice bi.a bi.len bi.cap]] w fun e w' => ∃ (tv : TV) (fl : SV), e = .returned (.tuple #[.agg #[.string tv.name, .bool tv.enum, .slice tv.fields.a tv.fields.len tv.fields.cap, .slice tv.gone.a tv.gone.len tv.gone.cap, .slice tv.items.a tv.items.len tv.items.cap], .bool (mergedM nm s).2.1, .slice fl.a fl.len fl.cap]) ∧ TyRows w' w.heap.size tv (mergedM nm s).1 ∧ w'.ownsRow w.heap.size 32 3 (.slice fl.a fl.len fl.cap) (mergedM nm s).2.2.length ((mergedM nm s).2.2.flatMap (flawC nm)) ∧ Ext w w' := by
  obtain ⟨W, hW⟩ : ∃ W, W = (w.alloc (.cells #[.string nm, .string wn, .bool we, .slice wf.a wf.len wf.cap, .slice wg.a wg.len wg.cap, .slice wi.a wi.len wi.cap, .string an, .bool ae, .slice af.a af.len af.cap, .slice ag.a ag.len ag.cap, .slice ai.a ai.len ai.cap, .string bn, .bool be, .slice bf.a bf.len bf.cap, .slice bg.a bg.len bg.cap, .slice bi.a bi.len bi.cap] 49)).alloc (.cells #[.string ⟨#[]⟩, .bool false, .slice none 0 0, .slice none 0 0, .slice none 0 0] 46) := ⟨_, rfl⟩
  have hxW : Ext w W := by rw [hW]; exact ((Ext.refl w).alloc _).alloc _
  have rW : W.heap[w.heap.size]? = some (.cells #[.string nm, .string wn, .bool we, .slice wf.a wf.len wf.cap, .slice wg.a wg.len wg.cap, .slice wi.a wi.len wi.cap, .string an, .bool ae, .slice af.a af.len af.cap, .slice ag.a ag.len ag.cap, .slice ai.a ai.len ai.cap, .string bn, .bool be, .slice bf.a bf.len bf.cap, .slice bg.a bg.len bg.cap, .slice bi.a bi.len bi.cap] 49 (0, 0)) := by rw [hW]; exact heap_alloc2_old _ _ _
  have rR : W.heap[w.heap.size + 1]? = some (.cells #[.string ⟨#[]⟩, .bool false, .slice none 0 0, .slice none 0 0, .slice none 0 0] 46 (0, 0)) := by rw [hW]; exact heap_alloc2_new _ _ _
  have HW := hide hW
  have hF0 : ∀ (w' : World), Ext w w' → Calls Tryd.prog 25 #[.agg #[.string wn, .bool we, .slice wf.a wf.len wf.cap, .slice wg.a wg.len wg.cap, .slice wi.a wi.len wi.cap]] w' fun e w'' => e = .returned (.agg #[.bool (typeIn s.was).1, .bool (typeIn s.was).2]) ∧ Ext w' w'' := fun w' hx => typeIn_any ⟨wn, we, wf, wg, wi⟩ s.was w' (hw.ext hx)
  have hF1 : ∀ (w' : World), Ext w w' → Calls Tryd.prog 25 #[.agg #[.string an, .bool ae, .slice af.a af.len af.cap, .slice ag.a ag.len ag.cap, .slice ai.a ai.len ai.cap]] w' fun e w'' => e = .returned (.agg #[.bool (typeIn s.a).1, .bool (typeIn s.a).2]) ∧ Ext w' w'' := fun w' hx => typeIn_any ⟨an, ae, af, ag, ai⟩ s.a w' (ha.ext hx)
  have hF2 : ∀ (w' : World), Ext w w' → Calls Tryd.prog 25 #[.agg #[.string bn, .bool be, .slice bf.a bf.len bf.cap, .slice bg.a bg.len bg.cap, .slice bi.a bi.len bi.cap]] w' fun e w'' => e = .returned (.agg #[.bool (typeIn s.b).1, .bool (typeIn s.b).2]) ∧ Ext w' w'' := fun w' hx => typeIn_any ⟨bn, be, bf, bg, bi⟩ s.b w' (hb.ext hx)
  have hMF := fun (h : Nat) (tn : ByteArray) (en : Bool) (w1 : World) (hx0 : Ext w w1) (hh : h < w1.heap.size) (hh0 : w.heap.size ≤ h) hrow => mergeFields_any nm wn we wf wg wi an ae af ag ai bn be bf bg bi s h tn en w w1 hx0 hh hh0 hw ha hb sw sa sb hrow
  have hMI := fun (h : Nat) (tn : ByteArray) (en : Bool) (sf sg : SV) (w1 : World) (hx0 : Ext w w1) (hh : h < w1.heap.size) (hh0 : w.heap.size ≤ h) hrow => mergeItems_any nm wn we wf wg wi an ae af ag ai bn be bf bg bi s h tn en sf sg w w1 hx0 hh hh0 hw ha hb n0 n1 n2 hrow
  have HMF := hide hMF
  have HMI := hide hMI
  obtain ⟨M, hM⟩ : ∃ M, M = mergedM nm s := ⟨_, rfl⟩
  rw [← hM]
  have HM := hide hM
  clear hM
  obtain ⟨R, hR⟩ : ∃ R, R = typeKept s := ⟨_, rfl⟩
  have hSet := fun w' => settleT_any (typeIn s.was) (typeIn s.a) (typeIn s.b) w'
  rw [show settleB eqBB (typeIn s.was) (typeIn s.a) (typeIn s.b) = typeKept s from rfl, ← hR] at hSet
  have HR := hide hR
  have HNL : Hid ((itemFlawsOf s (numbersM s)).length ≤ 3000) := Nat.le_trans (itFlaws_len s _) (numbers_len s n0 n1 n2)
  have HIL : Hid ((itemsOf s (numbersM s)).length ≤ 3000) := Nat.le_trans (itItems_len s _) (numbers_len s n0 n1 n2)
  clear hR hW hw ha hb sw sa sb n0 n1 n2 hMF hMI
  generalize typeIn s.was = p0 at *
  generalize typeIn s.a = p1 at *
  generalize typeIn s.b = p2 at *
  obtain ⟨q0, q1, q2, q3, q4, q5, q6, q7, q8, q9, q10, q11, q12, q13, q14, q15⟩ := row16 rW
  go_enter Tryd.func13, Tryd.ntmps13
  go_upto_region 1 with fail
  rw [← unhide HW]
  go_cut [5, 6] (fun s5 s6 wx => ∃ g, s5 = .pointer (some ⟨g, 0, none⟩) ∧ s6 = .bool R.isSome ∧ W.heap.size ≤ g ∧ Ext W wx ∧ wx.heap[g]? = some (.cells #[.bool (R.getD (false, false)).1, .bool (R.getD (false, false)).2] 64 (0, 0)))
  case first =>
    as_aux_lemma =>
      rename_i J0 K0 hJ0 hK0
      refine wp_region_X (fun w' => Ext W w') (fun _ => false) (by kernel_rfl) ?_
      obtain ⟨Wd, hWd⟩ : ∃ Wd, Wd = W.drew := ⟨_, rfl⟩
      have hS0 : Ext W Wd := by rw [hWd]; exact (Ext.refl W).drew
      rw [← hWd]
      clear hWd
      refine wpAnyX_take (i := 0) (v := .pointer (some ⟨w.heap.size, 1, none⟩)) rfl (by kernel_rfl) (by kernel_rfl) (fun _ _ _ h => h) (.inl ⟨rfl, fun w' hS => by simp [execOp, go_sem]⟩) (hS0) ?_
      simp only [Act.put, List.getElem_toArray, List.getElem_cons_zero, List.getElem_cons_succ, List.setIfInBounds_toArray, List.set_cons_succ, List.set_cons_zero]
      refine wpAnyX_take (i := 1) (v := .agg #[.string wn, .bool we, .slice wf.a wf.len wf.cap, .slice wg.a wg.len wg.cap, .slice wi.a wi.len wi.cap]) rfl (by kernel_rfl) (by kernel_rfl) (fun _ _ _ h => h) (.inl ⟨rfl, fun w' hS => by simp [execOp, go_sem, hS.cell q1, hS.cell q2, hS.cell q3, hS.cell q4, hS.cell q5]⟩) (hS0) ?_
      simp only [Act.put, List.getElem_toArray, List.getElem_cons_zero, List.getElem_cons_succ, List.setIfInBounds_toArray, List.set_cons_succ, List.set_cons_zero]
      refine wpAnyX_take (i := 3) (v := .pointer (some ⟨w.heap.size, 6, none⟩)) rfl (by kernel_rfl) (by kernel_rfl) (fun _ _ _ h => h) (.inl ⟨rfl, fun w' hS => by simp [execOp, go_sem]⟩) (hS0) ?_
      simp only [Act.put, List.getElem_toArray, List.getElem_cons_zero, List.getElem_cons_succ, List.setIfInBounds_toArray, List.set_cons_succ, List.set_cons_zero]
      refine wpAnyX_take (i := 4) (v := .agg #[.string an, .bool ae, .slice af.a af.len af.cap, .slice ag.a ag.len ag.cap, .slice ai.a ai.len ai.cap]) rfl (by kernel_rfl) (by kernel_rfl) (fun _ _ _ h => h) (.inl ⟨rfl, fun w' hS => by simp [execOp, go_sem, hS.cell q6, hS.cell q7, hS.cell q8, hS.cell q9, hS.cell q10]⟩) (hS0) ?_
      simp only [Act.put, List.getElem_toArray, List.getElem_cons_zero, List.getElem_cons_succ, List.setIfInBounds_toArray, List.set_cons_succ, List.set_cons_zero]
      refine wpAnyX_take (i := 6) (v := .pointer (some ⟨w.heap.size, 11, none⟩)) rfl (by kernel_rfl) (by kernel_rfl) (fun _ _ _ h => h) (.inl ⟨rfl, fun w' hS => by simp [execOp, go_sem]⟩) (hS0) ?_
      simp only [Act.put, List.getElem_toArray, List.getElem_cons_zero, List.getElem_cons_succ, List.setIfInBounds_toArray, List.set_cons_succ, List.set_cons_zero]
      refine wpAnyX_take (i := 7) (v := .agg #[.string bn, .bool be, .slice bf.a bf.len bf.cap, .slice bg.a bg.len bg.cap, .slice bi.a bi.len bi.cap]) rfl (by kernel_rfl) (by kernel_rfl) (fun _ _ _ h => h) (.inl ⟨rfl, fun w' hS => by simp [execOp, go_sem, hS.cell q11, hS.cell q12, hS.cell q13, hS.cell q14, hS.cell q15]⟩) (hS0) ?_
      simp only [Act.put, List.getElem_toArray, List.getElem_cons_zero, List.getElem_cons_succ, List.setIfInBounds_toArray, List.set_cons_succ, List.set_cons_zero]
      refine wpAnyX_two (i := 2) (j := 13) rfl rfl (by kernel_rfl) rfl rfl (fun K hK => ?_) (fun K hK => ?_)
      · go_wp2_with fail
        refine (hF0 _ (hxW.trans (hS0))).mono ?_
        rintro e Wc1 ⟨rfl, xWc1⟩
        go_wp2
        have fWc1 : Ext W Wc1 := (hS0).trans xWc1
        refine hK.out _ _ (fWc1) ?_
        clear hK K
        refine wpAnyX_two (i := 5) (j := 13) rfl rfl (by kernel_rfl) rfl rfl (fun K hK => ?_) (fun K hK => ?_)
        · go_wp2_with fail
          refine (hF1 _ (hxW.trans (fWc1))).mono ?_
          rintro e Wc2 ⟨rfl, xWc2⟩
          go_wp2
          have fWc2 : Ext W Wc2 := (fWc1).trans xWc2
          refine hK.out _ _ (fWc2) ?_
          clear hK K
          refine wpAnyX_two (i := 8) (j := 13) rfl rfl (by kernel_rfl) rfl rfl (fun K hK => ?_) (fun K hK => ?_)
          · go_wp2_with fail
            refine (hF2 _ (hxW.trans (fWc2))).mono ?_
            rintro e Wc3 ⟨rfl, xWc3⟩
            go_wp2
            have fWc3 : Ext W Wc3 := (fWc2).trans xWc3
            refine hK.out _ _ (fWc3) ?_
            clear hK K
            refine wpAnyX_two (i := 9) (j := 13) rfl rfl (by kernel_rfl) rfl rfl (fun K hK => ?_) (fun K hK => ?_)
            · go_wp2_with fail
              refine (hSet _).mono ?_
              rintro e Wc4 ⟨rfl, xWc4⟩
              go_wp2
              have fWc4 : Ext W Wc4 := (fWc3).trans xWc4
              refine hK.out _ _ (fWc4) ?_
              clear hK K
              refine wpAnyX_take (i := 10) (v := .tuple #[.agg #[.bool (R.getD (false, false)).1, .bool (R.getD (false, false)).2], .bool R.isSome]) rfl (by kernel_rfl) (by kernel_rfl) (fun _ _ _ h => h) (.inl ⟨rfl, fun w' hS => by simp [execOp, go_sem]⟩) (fWc4) ?_
              simp only [Act.put, List.getElem_toArray, List.getElem_cons_zero, List.getElem_cons_succ, List.setIfInBounds_toArray, List.set_cons_succ, List.set_cons_zero]
              refine wpAnyX_take (i := 11) (v := .agg #[.bool (R.getD (false, false)).1, .bool (R.getD (false, false)).2]) rfl (by kernel_rfl) (by kernel_rfl) (fun _ _ _ h => h) (.inl ⟨rfl, fun w' hS => by simp [execOp, go_sem]⟩) (fWc4) ?_
              simp only [Act.put, List.getElem_toArray, List.getElem_cons_zero, List.getElem_cons_succ, List.setIfInBounds_toArray, List.set_cons_succ, List.set_cons_zero]
              refine wpAnyX_take (i := 12) (v := .bool R.isSome) rfl (by kernel_rfl) (by kernel_rfl) (fun _ _ _ h => h) (.inl ⟨rfl, fun w' hS => by simp [execOp, go_sem]⟩) (fWc4) ?_
              simp only [Act.put, List.getElem_toArray, List.getElem_cons_zero, List.getElem_cons_succ, List.setIfInBounds_toArray, List.set_cons_succ, List.set_cons_zero]
              refine wpAnyX_one (j := 13) rfl (by kernel_rfl) rfl fun K hK => ?_
              go_wp2
              refine hK.out _ _ ((fWc4).alloc _) ?_
              clear hK K
              obtain ⟨Wc5, hWc5⟩ : ∃ X, X = Wc4.alloc (.cells #[.bool false, .bool false] 64) := ⟨_, rfl⟩
              have fWc5 : Ext W Wc5 := by rw [hWc5]; exact (fWc4).alloc _
              have rWc5 : Wc5.heap[Wc4.heap.size]? = some (.cells #[.bool false, .bool false] 64 (0, 0)) := by rw [hWc5]; exact heap_alloc_new _ _
              have bWc5 : W.heap.size ≤ Wc4.heap.size := (fWc4).size
              rw [← hWc5]
              clear hWc5
              generalize Wc4.heap.size = g at rWc5 bWc5 ⊢
              obtain ⟨W6, hW6, r6, hx6⟩ := set2 rWc5 (.bool (R.getD (false, false)).1) (.bool (R.getD (false, false)).2)
              have hgz : W.heap.size ≤ g := by assumption
              have f6 := hx6 W (fWc5) hgz
              have HW6 := hide hW6
              obtain ⟨u0, u1, uf⟩ := row2 rWc5
              clear hW6 hx6
              refine wpAnyX_one (j := 14) rfl (by kernel_rfl) rfl fun K hK => ?_
              go_wp2
              rw [← unhide HW6]
              refine hK.out _ _ (f6) ?_
              clear hK K
              refine wpAnyX_take (i := 15) (v := .bool R.isSome) rfl (by kernel_rfl) (by kernel_rfl) (fun _ _ _ h => h) (.inl ⟨rfl, fun w' hS => by simp [execOp, go_sem]⟩) (f6) ?_
              simp only [Act.put, List.getElem_toArray, List.getElem_cons_zero, List.getElem_cons_succ, List.setIfInBounds_toArray, List.set_cons_succ, List.set_cons_zero]
              refine wpAnyX_end [] [] rfl (by intro j i hj; simp at hj) (by kernel_rfl) (by intro i hi; simp at hi) fun K hK => ?_
              go_wp2
              refine hK.out _ _ ?_
              clear hK K
              first | refine Met.intro (hJ0 _ _ ?_) | refine hK0 _ _ (Met.intro (hJ0 _ _ ?_))
              (repeat apply Exists.intro)
              refine ⟨?rel, rfl⟩
              case rel => exact ⟨g, rfl, rfl, hgz, f6, r6⟩
            · go_wp2
              refine hK.out _ _ ((fWc3).alloc _) ?_
              clear hK K
              obtain ⟨Wc6, hWc6⟩ : ∃ X, X = Wc3.alloc (.cells #[.bool false, .bool false] 64) := ⟨_, rfl⟩
              have fWc6 : Ext W Wc6 := by rw [hWc6]; exact (fWc3).alloc _
              have rWc6 : Wc6.heap[Wc3.heap.size]? = some (.cells #[.bool false, .bool false] 64 (0, 0)) := by rw [hWc6]; exact heap_alloc_new _ _
              have bWc6 : W.heap.size ≤ Wc3.heap.size := (fWc3).size
              rw [← hWc6]
              clear hWc6
              generalize Wc3.heap.size = g at rWc6 bWc6 ⊢
              refine wpAnyX_one (j := 9) rfl (by kernel_rfl) rfl fun K hK => ?_
              go_wp2_with fail
              refine (hSet _).mono ?_
              rintro e Wc7 ⟨rfl, xWc7⟩
              go_wp2
              have fWc7 : Ext W Wc7 := (fWc6).trans xWc7
              refine hK.out _ _ (fWc7) ?_
              clear hK K
              have rWc7 := xWc7.heap rWc6
              refine wpAnyX_take (i := 10) (v := .tuple #[.agg #[.bool (R.getD (false, false)).1, .bool (R.getD (false, false)).2], .bool R.isSome]) rfl (by kernel_rfl) (by kernel_rfl) (fun _ _ _ h => h) (.inl ⟨rfl, fun w' hS => by simp [execOp, go_sem]⟩) (fWc7) ?_
              simp only [Act.put, List.getElem_toArray, List.getElem_cons_zero, List.getElem_cons_succ, List.setIfInBounds_toArray, List.set_cons_succ, List.set_cons_zero]
              refine wpAnyX_take (i := 11) (v := .agg #[.bool (R.getD (false, false)).1, .bool (R.getD (false, false)).2]) rfl (by kernel_rfl) (by kernel_rfl) (fun _ _ _ h => h) (.inl ⟨rfl, fun w' hS => by simp [execOp, go_sem]⟩) (fWc7) ?_
              simp only [Act.put, List.getElem_toArray, List.getElem_cons_zero, List.getElem_cons_succ, List.setIfInBounds_toArray, List.set_cons_succ, List.set_cons_zero]
              refine wpAnyX_take (i := 12) (v := .bool R.isSome) rfl (by kernel_rfl) (by kernel_rfl) (fun _ _ _ h => h) (.inl ⟨rfl, fun w' hS => by simp [execOp, go_sem]⟩) (fWc7) ?_
              simp only [Act.put, List.getElem_toArray, List.getElem_cons_zero, List.getElem_cons_succ, List.setIfInBounds_toArray, List.set_cons_succ, List.set_cons_zero]
              obtain ⟨W6, hW6, r6, hx6⟩ := set2 rWc7 (.bool (R.getD (false, false)).1) (.bool (R.getD (false, false)).2)
              have hgz : W.heap.size ≤ g := by assumption
              have f6 := hx6 W (fWc7) hgz
              have HW6 := hide hW6
              obtain ⟨u0, u1, uf⟩ := row2 rWc7
              clear hW6 hx6
              refine wpAnyX_one (j := 14) rfl (by kernel_rfl) rfl fun K hK => ?_
              go_wp2
              rw [← unhide HW6]
              refine hK.out _ _ (f6) ?_
              clear hK K
              refine wpAnyX_take (i := 15) (v := .bool R.isSome) rfl (by kernel_rfl) (by kernel_rfl) (fun _ _ _ h => h) (.inl ⟨rfl, fun w' hS => by simp [execOp, go_sem]⟩) (f6) ?_
              simp only [Act.put, List.getElem_toArray, List.getElem_cons_zero, List.getElem_cons_succ, List.setIfInBounds_toArray, List.set_cons_succ, List.set_cons_zero]
              refine wpAnyX_end [] [] rfl (by intro j i hj; simp at hj) (by kernel_rfl) (by intro i hi; simp at hi) fun K hK => ?_
              go_wp2
              refine hK.out _ _ ?_
              clear hK K
              first | refine Met.intro (hJ0 _ _ ?_) | refine hK0 _ _ (Met.intro (hJ0 _ _ ?_))
              (repeat apply Exists.intro)
              refine ⟨?rel, rfl⟩
              case rel => exact ⟨g, rfl, rfl, hgz, f6, r6⟩
          · go_wp2
            refine hK.out _ _ ((fWc2).alloc _) ?_
            clear hK K
            obtain ⟨Wc8, hWc8⟩ : ∃ X, X = Wc2.alloc (.cells #[.bool false, .bool false] 64) := ⟨_, rfl⟩
            have fWc8 : Ext W Wc8 := by rw [hWc8]; exact (fWc2).alloc _
            have rWc8 : Wc8.heap[Wc2.heap.size]? = some (.cells #[.bool false, .bool false] 64 (0, 0)) := by rw [hWc8]; exact heap_alloc_new _ _
            have bWc8 : W.heap.size ≤ Wc2.heap.size := (fWc2).size
            rw [← hWc8]
            clear hWc8
            generalize Wc2.heap.size = g at rWc8 bWc8 ⊢
            refine wpAnyX_one (j := 8) rfl (by kernel_rfl) rfl fun K hK => ?_
            go_wp2_with fail
            refine (hF2 _ (hxW.trans (fWc8))).mono ?_
            rintro e Wc9 ⟨rfl, xWc9⟩
            go_wp2
            have fWc9 : Ext W Wc9 := (fWc8).trans xWc9
            refine hK.out _ _ (fWc9) ?_
            clear hK K
            have rWc9 := xWc9.heap rWc8
            refine wpAnyX_one (j := 9) rfl (by kernel_rfl) rfl fun K hK => ?_
            go_wp2_with fail
            refine (hSet _).mono ?_
            rintro e Wc10 ⟨rfl, xWc10⟩
            go_wp2
            have fWc10 : Ext W Wc10 := (fWc9).trans xWc10
            refine hK.out _ _ (fWc10) ?_
            clear hK K
            have rWc10 := xWc10.heap rWc9
            refine wpAnyX_take (i := 10) (v := .tuple #[.agg #[.bool (R.getD (false, false)).1, .bool (R.getD (false, false)).2], .bool R.isSome]) rfl (by kernel_rfl) (by kernel_rfl) (fun _ _ _ h => h) (.inl ⟨rfl, fun w' hS => by simp [execOp, go_sem]⟩) (fWc10) ?_
            simp only [Act.put, List.getElem_toArray, List.getElem_cons_zero, List.getElem_cons_succ, List.setIfInBounds_toArray, List.set_cons_succ, List.set_cons_zero]
            refine wpAnyX_take (i := 11) (v := .agg #[.bool (R.getD (false, false)).1, .bool (R.getD (false, false)).2]) rfl (by kernel_rfl) (by kernel_rfl) (fun _ _ _ h => h) (.inl ⟨rfl, fun w' hS => by simp [execOp, go_sem]⟩) (fWc10) ?_
            simp only [Act.put, List.getElem_toArray, List.getElem_cons_zero, List.getElem_cons_succ, List.setIfInBounds_toArray, List.set_cons_succ, List.set_cons_zero]
            refine wpAnyX_take (i := 12) (v := .bool R.isSome) rfl (by kernel_rfl) (by kernel_rfl) (fun _ _ _ h => h) (.inl ⟨rfl, fun w' hS => by simp [execOp, go_sem]⟩) (fWc10) ?_
            simp only [Act.put, List.getElem_toArray, List.getElem_cons_zero, List.getElem_cons_succ, List.setIfInBounds_toArray, List.set_cons_succ, List.set_cons_zero]
            obtain ⟨W6, hW6, r6, hx6⟩ := set2 rWc10 (.bool (R.getD (false, false)).1) (.bool (R.getD (false, false)).2)
            have hgz : W.heap.size ≤ g := by assumption
            have f6 := hx6 W (fWc10) hgz
            have HW6 := hide hW6
            obtain ⟨u0, u1, uf⟩ := row2 rWc10
            clear hW6 hx6
            refine wpAnyX_one (j := 14) rfl (by kernel_rfl) rfl fun K hK => ?_
            go_wp2
            rw [← unhide HW6]
            refine hK.out _ _ (f6) ?_
            clear hK K
            refine wpAnyX_take (i := 15) (v := .bool R.isSome) rfl (by kernel_rfl) (by kernel_rfl) (fun _ _ _ h => h) (.inl ⟨rfl, fun w' hS => by simp [execOp, go_sem]⟩) (f6) ?_
            simp only [Act.put, List.getElem_toArray, List.getElem_cons_zero, List.getElem_cons_succ, List.setIfInBounds_toArray, List.set_cons_succ, List.set_cons_zero]
            refine wpAnyX_end [] [] rfl (by intro j i hj; simp at hj) (by kernel_rfl) (by intro i hi; simp at hi) fun K hK => ?_
            go_wp2
            refine hK.out _ _ ?_
            clear hK K
            first | refine Met.intro (hJ0 _ _ ?_) | refine hK0 _ _ (Met.intro (hJ0 _ _ ?_))
            (repeat apply Exists.intro)
            refine ⟨?rel, rfl⟩
            case rel => exact ⟨g, rfl, rfl, hgz, f6, r6⟩
        · go_wp2
          refine hK.out _ _ ((fWc1).alloc _) ?_
          clear hK K
          obtain ⟨Wc11, hWc11⟩ : ∃ X, X = Wc1.alloc (.cells #[.bool false, .bool false] 64) := ⟨_, rfl⟩
          have fWc11 : Ext W Wc11 := by rw [hWc11]; exact (fWc1).alloc _
          have rWc11 : Wc11.heap[Wc1.heap.size]? = some (.cells #[.bool false, .bool false] 64 (0, 0)) := by rw [hWc11]; exact heap_alloc_new _ _
          have bWc11 : W.heap.size ≤ Wc1.heap.size := (fWc1).size
          rw [← hWc11]
          clear hWc11
          generalize Wc1.heap.size = g at rWc11 bWc11 ⊢
          refine wpAnyX_one (j := 5) rfl (by kernel_rfl) rfl fun K hK => ?_
          go_wp2_with fail
          refine (hF1 _ (hxW.trans (fWc11))).mono ?_
          rintro e Wc12 ⟨rfl, xWc12⟩
          go_wp2
          have fWc12 : Ext W Wc12 := (fWc11).trans xWc12
          refine hK.out _ _ (fWc12) ?_
          clear hK K
          have rWc12 := xWc12.heap rWc11
          refine wpAnyX_one (j := 8) rfl (by kernel_rfl) rfl fun K hK => ?_
          go_wp2_with fail
          refine (hF2 _ (hxW.trans (fWc12))).mono ?_
          rintro e Wc13 ⟨rfl, xWc13⟩
          go_wp2
          have fWc13 : Ext W Wc13 := (fWc12).trans xWc13
          refine hK.out _ _ (fWc13) ?_
          clear hK K
          have rWc13 := xWc13.heap rWc12
          refine wpAnyX_one (j := 9) rfl (by kernel_rfl) rfl fun K hK => ?_
          go_wp2_with fail
          refine (hSet _).mono ?_
          rintro e Wc14 ⟨rfl, xWc14⟩
          go_wp2
          have fWc14 : Ext W Wc14 := (fWc13).trans xWc14
          refine hK.out _ _ (fWc14) ?_
          clear hK K
          have rWc14 := xWc14.heap rWc13
          refine wpAnyX_take (i := 10) (v := .tuple #[.agg #[.bool (R.getD (false, false)).1, .bool (R.getD (false, false)).2], .bool R.isSome]) rfl (by kernel_rfl) (by kernel_rfl) (fun _ _ _ h => h) (.inl ⟨rfl, fun w' hS => by simp [execOp, go_sem]⟩) (fWc14) ?_
          simp only [Act.put, List.getElem_toArray, List.getElem_cons_zero, List.getElem_cons_succ, List.setIfInBounds_toArray, List.set_cons_succ, List.set_cons_zero]
          refine wpAnyX_take (i := 11) (v := .agg #[.bool (R.getD (false, false)).1, .bool (R.getD (false, false)).2]) rfl (by kernel_rfl) (by kernel_rfl) (fun _ _ _ h => h) (.inl ⟨rfl, fun w' hS => by simp [execOp, go_sem]⟩) (fWc14) ?_
          simp only [Act.put, List.getElem_toArray, List.getElem_cons_zero, List.getElem_cons_succ, List.setIfInBounds_toArray, List.set_cons_succ, List.set_cons_zero]
          refine wpAnyX_take (i := 12) (v := .bool R.isSome) rfl (by kernel_rfl) (by kernel_rfl) (fun _ _ _ h => h) (.inl ⟨rfl, fun w' hS => by simp [execOp, go_sem]⟩) (fWc14) ?_
          simp only [Act.put, List.getElem_toArray, List.getElem_cons_zero, List.getElem_cons_succ, List.setIfInBounds_toArray, List.set_cons_succ, List.set_cons_zero]
          obtain ⟨W6, hW6, r6, hx6⟩ := set2 rWc14 (.bool (R.getD (false, false)).1) (.bool (R.getD (false, false)).2)
          have hgz : W.heap.size ≤ g := by assumption
          have f6 := hx6 W (fWc14) hgz
          have HW6 := hide hW6
          obtain ⟨u0, u1, uf⟩ := row2 rWc14
          clear hW6 hx6
          refine wpAnyX_one (j := 14) rfl (by kernel_rfl) rfl fun K hK => ?_
          go_wp2
          rw [← unhide HW6]
          refine hK.out _ _ (f6) ?_
          clear hK K
          refine wpAnyX_take (i := 15) (v := .bool R.isSome) rfl (by kernel_rfl) (by kernel_rfl) (fun _ _ _ h => h) (.inl ⟨rfl, fun w' hS => by simp [execOp, go_sem]⟩) (f6) ?_
          simp only [Act.put, List.getElem_toArray, List.getElem_cons_zero, List.getElem_cons_succ, List.setIfInBounds_toArray, List.set_cons_succ, List.set_cons_zero]
          refine wpAnyX_end [] [] rfl (by intro j i hj; simp at hj) (by kernel_rfl) (by intro i hi; simp at hi) fun K hK => ?_
          go_wp2
          refine hK.out _ _ ?_
          clear hK K
          first | refine Met.intro (hJ0 _ _ ?_) | refine hK0 _ _ (Met.intro (hJ0 _ _ ?_))
          (repeat apply Exists.intro)
          refine ⟨?rel, rfl⟩
          case rel => exact ⟨g, rfl, rfl, hgz, f6, r6⟩
      · go_wp2
        refine hK.out _ _ ((hS0).alloc _) ?_
        clear hK K
        obtain ⟨Wc15, hWc15⟩ : ∃ X, X = Wd.alloc (.cells #[.bool false, .bool false] 64) := ⟨_, rfl⟩
        have fWc15 : Ext W Wc15 := by rw [hWc15]; exact (hS0).alloc _
        have rWc15 : Wc15.heap[Wd.heap.size]? = some (.cells #[.bool false, .bool false] 64 (0, 0)) := by rw [hWc15]; exact heap_alloc_new _ _
        have bWc15 : W.heap.size ≤ Wd.heap.size := (hS0).size
        rw [← hWc15]
        clear hWc15
        generalize Wd.heap.size = g at rWc15 bWc15 ⊢
        refine wpAnyX_one (j := 2) rfl (by kernel_rfl) rfl fun K hK => ?_
        go_wp2_with fail
        refine (hF0 _ (hxW.trans (fWc15))).mono ?_
        rintro e Wc16 ⟨rfl, xWc16⟩
        go_wp2
        have fWc16 : Ext W Wc16 := (fWc15).trans xWc16
        refine hK.out _ _ (fWc16) ?_
        clear hK K
        have rWc16 := xWc16.heap rWc15
        refine wpAnyX_one (j := 5) rfl (by kernel_rfl) rfl fun K hK => ?_
        go_wp2_with fail
        refine (hF1 _ (hxW.trans (fWc16))).mono ?_
        rintro e Wc17 ⟨rfl, xWc17⟩
        go_wp2
        have fWc17 : Ext W Wc17 := (fWc16).trans xWc17
        refine hK.out _ _ (fWc17) ?_
        clear hK K
        have rWc17 := xWc17.heap rWc16
        refine wpAnyX_one (j := 8) rfl (by kernel_rfl) rfl fun K hK => ?_
        go_wp2_with fail
        refine (hF2 _ (hxW.trans (fWc17))).mono ?_
        rintro e Wc18 ⟨rfl, xWc18⟩
        go_wp2
        have fWc18 : Ext W Wc18 := (fWc17).trans xWc18
        refine hK.out _ _ (fWc18) ?_
        clear hK K
        have rWc18 := xWc18.heap rWc17
        refine wpAnyX_one (j := 9) rfl (by kernel_rfl) rfl fun K hK => ?_
        go_wp2_with fail
        refine (hSet _).mono ?_
        rintro e Wc19 ⟨rfl, xWc19⟩
        go_wp2
        have fWc19 : Ext W Wc19 := (fWc18).trans xWc19
        refine hK.out _ _ (fWc19) ?_
        clear hK K
        have rWc19 := xWc19.heap rWc18
        refine wpAnyX_take (i := 10) (v := .tuple #[.agg #[.bool (R.getD (false, false)).1, .bool (R.getD (false, false)).2], .bool R.isSome]) rfl (by kernel_rfl) (by kernel_rfl) (fun _ _ _ h => h) (.inl ⟨rfl, fun w' hS => by simp [execOp, go_sem]⟩) (fWc19) ?_
        simp only [Act.put, List.getElem_toArray, List.getElem_cons_zero, List.getElem_cons_succ, List.setIfInBounds_toArray, List.set_cons_succ, List.set_cons_zero]
        refine wpAnyX_take (i := 11) (v := .agg #[.bool (R.getD (false, false)).1, .bool (R.getD (false, false)).2]) rfl (by kernel_rfl) (by kernel_rfl) (fun _ _ _ h => h) (.inl ⟨rfl, fun w' hS => by simp [execOp, go_sem]⟩) (fWc19) ?_
        simp only [Act.put, List.getElem_toArray, List.getElem_cons_zero, List.getElem_cons_succ, List.setIfInBounds_toArray, List.set_cons_succ, List.set_cons_zero]
        refine wpAnyX_take (i := 12) (v := .bool R.isSome) rfl (by kernel_rfl) (by kernel_rfl) (fun _ _ _ h => h) (.inl ⟨rfl, fun w' hS => by simp [execOp, go_sem]⟩) (fWc19) ?_
        simp only [Act.put, List.getElem_toArray, List.getElem_cons_zero, List.getElem_cons_succ, List.setIfInBounds_toArray, List.set_cons_succ, List.set_cons_zero]
        obtain ⟨W6, hW6, r6, hx6⟩ := set2 rWc19 (.bool (R.getD (false, false)).1) (.bool (R.getD (false, false)).2)
        have hgz : W.heap.size ≤ g := by assumption
        have f6 := hx6 W (fWc19) hgz
        have HW6 := hide hW6
        obtain ⟨u0, u1, uf⟩ := row2 rWc19
        clear hW6 hx6
        refine wpAnyX_one (j := 14) rfl (by kernel_rfl) rfl fun K hK => ?_
        go_wp2
        rw [← unhide HW6]
        refine hK.out _ _ (f6) ?_
        clear hK K
        refine wpAnyX_take (i := 15) (v := .bool R.isSome) rfl (by kernel_rfl) (by kernel_rfl) (fun _ _ _ h => h) (.inl ⟨rfl, fun w' hS => by simp [execOp, go_sem]⟩) (f6) ?_
        simp only [Act.put, List.getElem_toArray, List.getElem_cons_zero, List.getElem_cons_succ, List.setIfInBounds_toArray, List.set_cons_succ, List.set_cons_zero]
        refine wpAnyX_end [] [] rfl (by intro j i hj; simp at hj) (by kernel_rfl) (by intro i hi; simp at hi) fun K hK => ?_
        go_wp2
        refine hK.out _ _ ?_
        clear hK K
        first | refine Met.intro (hJ0 _ _ ?_) | refine hK0 _ _ (Met.intro (hJ0 _ _ ?_))
        (repeat apply Exists.intro)
        refine ⟨?rel, rfl⟩
        case rel => exact ⟨g, rfl, rfl, hgz, f6, r6⟩
  case rest =>
  obtain ⟨g, rfl, rfl, hg, hx1, r1⟩ := hcut
  rename World => W1
  have hx01 := hxW.trans hx1
  have q0 := hx1.cell q0
  have q1 := hx1.cell q1
  have q2 := hx1.cell q2
  have q3 := hx1.cell q3
  have q4 := hx1.cell q4
  have q5 := hx1.cell q5
  have q6 := hx1.cell q6
  have q7 := hx1.cell q7
  have q8 := hx1.cell q8
  have q9 := hx1.cell q9
  have q10 := hx1.cell q10
  have q11 := hx1.cell q11
  have q12 := hx1.cell q12
  have q13 := hx1.cell q13
  have q14 := hx1.cell q14
  have q15 := hx1.cell q15
  have rR1 := hx1.heap rR
  obtain ⟨a0, a1, a2, a3, a4, a5⟩ := row5 rR1
  have hzR := lt_of_heap rR1
  obtain ⟨z0, z1, zf⟩ := row2 r1
  have zz := lt_of_heap r1
  clear hF0 hF1 hF2 hSet HW
  cases R with
  | none =>
    have hm : M = (TypeM.zero, false, [0]) := by rw [unhide HM]; unfold mergedM; rw [← unhide HR]
    subst hm
    clear HM HR HMF HMI z0 z1 zf
    go_wp2_with fail
    refine (flaw_any nm _ _ _ _ _ _ _ _ _ _ _ _ _ _ _ 0 W1 rfl).mono ?_
    rintro e W2 ⟨rfl, hx2⟩
    have r2 := hx2.heap rR1
    have hx02 := hx01.trans hx2
    obtain ⟨W6, hW6, r6, hx6⟩ := set5 r2 (.string ⟨#[]⟩) (.bool false) (.slice none 0 0) (.slice none 0 0) (.slice none 0 0)
    have f6 := hx6 w hx02 (Nat.le_succ _)
    have HW6 := hide hW6
    clear a0 a1 a2 a3 a4 a5
    obtain ⟨a0, a1, a2, a3, a4, a5⟩ := row5 r2
    have hz2 := lt_of_heap r2
    have hsz : W6.heap.size = W2.heap.size := by rw [hW6]; simp [World.setCell]
    clear hW6 hx6
    go_wp2
    rw [← unhide HW6]
    have e7 := (Ext.refl W6).alloc (.cells #[.string nm, .int .i64 0, .int .i64 0] 32)
    have hn7 := heap_alloc_new W6 (.cells #[.string nm, .int .i64 0, .int .i64 0] 32)
    obtain ⟨k0, k1, k2, k3, k4, _⟩ := row5 (e7.heap r6)
    have f7 := f6.trans e7
    have hb7 : w.heap.size ≤ W6.heap.size := f6.size
    rw [hsz] at hn7 hb7
    generalize W6.alloc (.cells #[.string nm, .int .i64 0, .int .i64 0] 32) = W7 at *
    clear e7 HW6 a0 a1 a2 a3 a4 a5
    refine bodyPost_ret (v := .tuple #[.agg #[.string ⟨#[]⟩, .bool false, .slice none 0 0, .slice none 0 0, .slice none 0 0], .bool false, .slice (some ⟨W2.heap.size, 0, none⟩) 1 1]) (by simp [results, Tryd.results13, go_sem, k0, k1, k2, k3, k4]) rfl ⟨⟨⟨#[]⟩, false, ⟨none, 0, 0⟩, ⟨none, 0, 0⟩, ⟨none, 0, 0⟩⟩, ⟨some ⟨W2.heap.size, 0, none⟩, 1, 1⟩, rfl, ⟨rfl, rfl, owns_nil _ _ _ _, owns_nil _ _ _ _, owns_nil _ _ _ _⟩, ?_, f7⟩
    exact ⟨by simp [flawC], .inr ⟨W2.heap.size, 1, _, rfl, hb7, hn7, Nat.le_refl _, by first | decide | simp, by first | rfl | simp, by first | rfl | simp [flawC]⟩⟩
  | some te =>
    as_aux_lemma =>
      have hm : M = (typeOut nm s te.2, te.1, if (flawIds s).isEmpty && misplacedB te.1 te.2 (fieldsTo s 30).length (goneTo s 30).length (itemsOf s (numbersM s)).length then [0] else flawIds s) := by rw [unhide HM]; unfold mergedM; rw [← unhide HR]
      have HM := hide hm
      clear hm HR
      have z0 : W1.cell? ⟨g, 0, none⟩ = some (.bool te.1) := z0
      have z1 : W1.cell? ⟨g, 1, none⟩ = some (.bool te.2) := z1
      have r1 : W1.heap[g]? = some (.cells #[.bool te.1, .bool te.2] 64 (0, 0)) := r1
      obtain ⟨there, enum⟩ := te
      simp only at z0 z1 r1 HM
      obtain ⟨T, hT⟩ : ∃ T, T = W1.heap.size := ⟨_, rfl⟩
      obtain ⟨Wt, hWt⟩ : ∃ X, X = W1.alloc (.cells #[.string nm, .bool enum, .slice none 0 0, .slice none 0 0, .slice none 0 0] 46) := ⟨_, rfl⟩
      have rt : Wt.heap[T]? = some (.cells #[.string nm, .bool enum, .slice none 0 0, .slice none 0 0, .slice none 0 0] 46 (0, 0)) := by rw [hWt, hT]; exact heap_alloc_new _ _
      have ft : Ext W1 Wt := by rw [hWt]; exact (Ext.refl W1).alloc _
      have hzT : T < Wt.heap.size := lt_of_heap rt
      have HWt := hide hWt
      have hTz : W1.heap.size ≤ T := by omega
      have hT1 : T ≤ W1.heap.size := by omega
      have HTe := hide hT
      clear hWt hT
      have hw1z := hx01.size
      go_upto_region 5 with fail
      rw [← unhide HWt, ← unhide HTe]
      refine wp_region_X (fun w' => Ext W1 w') (fun _ => false) (by kernel_rfl) ?_
      obtain ⟨Wd, hWd⟩ : ∃ Wd, Wd = Wt.drew := ⟨_, rfl⟩
      have hS0 : Ext W1 Wd := by rw [hWd]; exact ft.drew
      have rd : Wd.heap[T]? = some (.cells #[.string nm, .bool enum, .slice none 0 0, .slice none 0 0, .slice none 0 0] 46 (0, 0)) := by rw [hWd]; exact rt
      rw [← hWd]
      clear hWd HWt
      refine wpAnyX_take (i := 0) (v := .agg #[.string nm, .string wn, .bool we, .slice wf.a wf.len wf.cap, .slice wg.a wg.len wg.cap, .slice wi.a wi.len wi.cap, .string an, .bool ae, .slice af.a af.len af.cap, .slice ag.a ag.len ag.cap, .slice ai.a ai.len ai.cap, .string bn, .bool be, .slice bf.a bf.len bf.cap, .slice bg.a bg.len bg.cap, .slice bi.a bi.len bi.cap]) rfl (by kernel_rfl) (by kernel_rfl) (fun _ _ _ h => h) (.inl ⟨rfl, fun w' hS => by simp [execOp, go_sem, hS.cell q0, hS.cell q1, hS.cell q2, hS.cell q3, hS.cell q4, hS.cell q5, hS.cell q6, hS.cell q7, hS.cell q8, hS.cell q9, hS.cell q10, hS.cell q11, hS.cell q12, hS.cell q13, hS.cell q14, hS.cell q15]⟩) (hS0) ?_
      simp only [Act.put, List.getElem_toArray, List.getElem_cons_zero, List.getElem_cons_succ, List.setIfInBounds_toArray, List.set_cons_succ, List.set_cons_zero]
      refine wpAnyX_take (i := 2) (v := .agg #[.string nm, .string wn, .bool we, .slice wf.a wf.len wf.cap, .slice wg.a wg.len wg.cap, .slice wi.a wi.len wi.cap, .string an, .bool ae, .slice af.a af.len af.cap, .slice ag.a ag.len ag.cap, .slice ai.a ai.len ai.cap, .string bn, .bool be, .slice bf.a bf.len bf.cap, .slice bg.a bg.len bg.cap, .slice bi.a bi.len bi.cap]) rfl (by kernel_rfl) (by kernel_rfl) (fun _ _ _ h => h) (.inl ⟨rfl, fun w' hS => by simp [execOp, go_sem, hS.cell q0, hS.cell q1, hS.cell q2, hS.cell q3, hS.cell q4, hS.cell q5, hS.cell q6, hS.cell q7, hS.cell q8, hS.cell q9, hS.cell q10, hS.cell q11, hS.cell q12, hS.cell q13, hS.cell q14, hS.cell q15]⟩) (hS0) ?_
      simp only [Act.put, List.getElem_toArray, List.getElem_cons_zero, List.getElem_cons_succ, List.setIfInBounds_toArray, List.set_cons_succ, List.set_cons_zero]
      have hzd := lt_of_heap rd
      have hszd := hS0.size
      refine wpAnyX_one (j := 1) rfl (by kernel_rfl) rfl fun K hK => ?_
      go_wp2_with fail
      refine (unhide HMF T nm enum Wd (hx01.trans hS0) hzd (by omega) rd).mono ?_
      rintro e W2 ⟨fl, ⟨tn, en, sf, sg, si⟩, rfl, ho, hty, h1, h2, h3, hfr⟩
      simp only at h1 h2 h3
      have h1 := h1.symm
      have h2 := h2.symm
      subst h1 h2 h3
      have f2 : Ext W1 W2 := hS0.fr hfr hTz hTz hszd
      have r2 := hty.row
      have hsz2 := hfr.size
      go_wp2
      refine hK.out _ _ (f2) ?_
      clear hK K
      refine wpAnyX_one (j := 3) rfl (by kernel_rfl) rfl fun K hK => ?_
      go_wp2_with fail
      refine (unhide HMI T nm enum sf sg W2 (hx01.trans f2) (by omega) (by omega) r2).mono ?_
      rintro e W3 ⟨fl2, si, rfl, ho2, hrow3, hoi, hfr2⟩
      have f3 : Ext W1 W3 := f2.fr hfr2 hTz hTz (by omega)
      have hgr : W2.grownBy W3 (some T) := ⟨hfr2.os, hfr2.tape, hfr2.output, hfr2.size, fun i hi hn => hfr2.block i hi (fun e => hn (by rw [e])) (fun e => hn (by rw [e]))⟩
      have ho3 := kept_some ho hgr hzd
      have hof3 := kept_some hty.fields hgr hzd
      have hog3 := kept_some hty.gone hgr hzd
      have hsz3 := hfr2.size
      go_wp2
      refine hK.out _ _ (f3) ?_
      clear hK K
      obtain ⟨fl3, hfl3, hat2⟩ := sliceAt_of_owns (flawC nm) (fun _ => rfl) ho2 rfl
      have hok2 := ok_of_owns ho2
      simp only [Value.slice.injEq] at hfl3
      obtain ⟨ea, el, ec⟩ := hfl3
      obtain ⟨fa3, fl3l, fc3⟩ := fl3
      simp only at ea el ec
      obtain ⟨fa2, fl2l, fc2⟩ := fl2
      simp only at ea el ec
      subst ea el ec
      have hl1 : (fieldFlawsTo s 30).length ≤ 30 := flawsTo_len s 30
      have hl2 := unhide HNL
      refine wpAnyX_one (j := 4) rfl (by kernel_rfl) rfl fun K hK => ?_
      refine wpList_appAll _ _ 25 32 (.agg #[.string ⟨#[]⟩, .int .i64 0, .int .i64 0]) 3 32 rfl rfl Tryd.underlying25 info32 rfl (by decide) (by decide) (flawC nm) (fun _ => rfl) (one_flaw nm) Wd.heap.size _ (fieldFlawsTo s 30) ho3 (by omega) rfl ⟨fa2, fl2l, fc2⟩ (itemFlawsOf s (numbersM s)) hat2 hok2 rfl (by omega) ?_
      intro fv W4 ho4 hg4
      have f4 : Ext W1 W4 := f3.owned hg4 ho3 (by omega)
      have r4 : W4.heap[T]? = some (.cells #[.string nm, .bool enum, .slice sf.a sf.len sf.cap, .slice sg.a sg.len sg.cap, .slice si.a si.len si.cap] 46 (0, 0)) := by rw [hg4.block T (lt_of_heap hrow3) (fun e => by have := (ho3.lt T e.symm).1; omega)]; exact hrow3
      have hof4 := hof3.kept hg4 (owns_apart hof3 ho3 (by decide))
      have hog4 := hog3.kept hg4 (owns_apart hog3 ho3 (by decide))
      have hoi4 := (owns_base hoi (show Wd.heap.size ≤ W2.heap.size by omega)).kept hg4 (owns_apart hoi ho3 (by decide))
      have hlf : fieldFlawsTo s 30 ++ itemFlawsOf s (numbersM s) = flawIds s := rfl
      rw [hlf] at ho4
      have hFL : (flawIds s).length ≤ 3030 := by unfold flawIds; rw [List.length_append]; omega
      have nf : sf.len = (fieldsTo s 30).length := by obtain ⟨x, hx, hy⟩ := sliceAt_of_owns FieldM.cells (fun _ => rfl) hof4 rfl; simp only [Value.slice.injEq] at hx; rw [hx.2.1]; exact hy.1
      have ng : sg.len = (goneTo s 30).length := by obtain ⟨x, hx, hy⟩ := sliceAt_of_owns encI (fun _ => rfl) hog4 rfl; simp only [Value.slice.injEq] at hx; rw [hx.2.1]; exact hy.1
      have ni : si.len = (itemsOf s (numbersM s)).length := by obtain ⟨x, hx, hy⟩ := sliceAt_of_owns ItemM.cells (fun _ => rfl) hoi4 rfl; simp only [Value.slice.injEq] at hx; rw [hx.2.1]; exact hy.1
      have nv : fv.len = (flawIds s).length := by obtain ⟨x, hx, hy⟩ := sliceAt_of_owns (flawC nm) (fun _ => rfl) ho4 rfl; simp only [Value.slice.injEq] at hx; rw [hx.2.1]; exact hy.1
      have bf := fieldsTo_len s 30
      have bg := goneTo_len s 30
      have bi := unhide HIL
      rw [← nf, ← ng, ← ni] at HM
      have lf : sf.len ≤ 9223372036854775807 := by omega
      have lg : sg.len ≤ 9223372036854775807 := by omega
      have li : si.len ≤ 9223372036854775807 := by omega
      clear nf ng ni
      have HM := hide (unhide HM)
      have hbase : w.heap.size + 1 < Wd.heap.size := by omega
      have hsz4 : Wd.heap.size ≤ W4.heap.size := by have := hg4.size; omega
      obtain ⟨fva, fvl, fvc⟩ := fv
      simp only at nv
      have NV := hide nv
      clear nv
      go_wp2
      refine hK.out _ _ (f4) ?_
      clear hK K
      refine wpAnyX_take (i := 5) (v := .slice fva fvl fvc) rfl (by kernel_rfl) (by kernel_rfl) (fun _ _ _ h => h) (.inl ⟨rfl, fun w' hS => by simp [execOp, go_sem]⟩) (f4) ?_
      simp only [Act.put, List.getElem_toArray, List.getElem_cons_zero, List.getElem_cons_succ, List.setIfInBounds_toArray, List.set_cons_succ, List.set_cons_zero]
      refine wpAnyX_end [] [] rfl (by intro j i hj; simp at hj) (by kernel_rfl) (by intro i hi; simp at hi) fun K hK => ?_
      go_wp2
      refine hK.out _ _ ?_
      clear hK K
      have hmp := misplaced_any there enum ⟨nm, enum, sf, sg, si⟩
      simp only at hmp
      have rR4 := f4.heap rR1
      have rg4 := f4.heap r1
      clear a0 a1 a2 a3 a4 a5 z0 z1 zf hty ho ho2 ho3 hof3 hog3 hoi hrow3 r2 rd rt hat2 hg4 hfr hfr2 hgr HMF HMI hS0 f2 f3 ft
      have q0 := f4.cell q0
      have q1 := f4.cell q1
      have q2 := f4.cell q2
      have q3 := f4.cell q3
      have q4 := f4.cell q4
      have q5 := f4.cell q5
      have q6 := f4.cell q6
      have q7 := f4.cell q7
      have q8 := f4.cell q8
      have q9 := f4.cell q9
      have q10 := f4.cell q10
      have q11 := f4.cell q11
      have q12 := f4.cell q12
      have q13 := f4.cell q13
      have q14 := f4.cell q14
      have q15 := f4.cell q15
      obtain ⟨z0, z1, zf⟩ := row2 rg4
      obtain ⟨t0, t1, t2, t3, t4, t5⟩ := row5 r4
      have hzg := lt_of_heap rg4
      have hzT4 := lt_of_heap r4
      have hx04 := hx01.trans f4
      clear hlf
      generalize flawIds s = F at *
      have HO4 := hide ho4
      clear ho4
      have hTR : T ≠ w.heap.size + 1 := by omega
      have hgR : g ≠ w.heap.size + 1 := by have := lt_of_heap rR; omega
      by_cases h0 : F = []
      · subst h0
        have hv0 : fvl = 0 := unhide NV
        subst hv0
        go_wp2_with fail
        refine (hmp W4 lf lg li).mono ?_
        rintro e W5 ⟨rfl, hx5⟩
        have q0 := hx5.cell q0
        have q1 := hx5.cell q1
        have q2 := hx5.cell q2
        have q3 := hx5.cell q3
        have q4 := hx5.cell q4
        have q5 := hx5.cell q5
        have q6 := hx5.cell q6
        have q7 := hx5.cell q7
        have q8 := hx5.cell q8
        have q9 := hx5.cell q9
        have q10 := hx5.cell q10
        have q11 := hx5.cell q11
        have q12 := hx5.cell q12
        have q13 := hx5.cell q13
        have q14 := hx5.cell q14
        have q15 := hx5.cell q15
        have t0 := hx5.cell t0
        have t1 := hx5.cell t1
        have t2 := hx5.cell t2
        have t3 := hx5.cell t3
        have t4 := hx5.cell t4
        have z0 := hx5.cell z0
        have rR5 := hx5.heap rR4
        have hx05 := hx04.trans hx5
        have hsz5 := hx5.size
        have HO5 := hide (owns_ext (unhide HO4) hx5)
        have hof5 := owns_ext hof4 hx5
        have hog5 := owns_ext hog4 hx5
        have hoi5 := owns_ext hoi4 hx5
        have hzg5 : g < W5.heap.size := by omega
        have hzT5 : T < W5.heap.size := by omega
        have hzq := World.block_lt_of_cell? _ _ q0
        clear zf t5 rR4 z1
        cases hmb : misplacedB there enum sf.len sg.len si.len with
        | true =>
          have hMe : M = (typeOut nm s enum, there, [0]) := by rw [unhide HM, hmb]; rfl
          go_wp2_with fail
          refine (flaw_any nm _ _ _ _ _ _ _ _ _ _ _ _ _ _ _ 0 _ rfl).mono ?_
          rintro e W7 ⟨rfl, hx7⟩
          have x57 : Ext W5 W7 := by first | exact hx7 | exact ((Ext.refl W5).drewN _).trans hx7
          have HO7 := hide (owns_ext (unhide HO5) x57)
          have ho7 := unhide HO7
          have hsz7 := x57.size
          go_wp2_with (at_builtin; refine wpList_app1 _ _ 25 32 (.agg #[.string ⟨#[]⟩, .int .i64 0, .int .i64 0]) 3 32 Tryd.underlying25 info32 rfl (by decide) (by decide) rfl rfl Wd.heap.size _ ([] : List Int).length _ rfl (ho7.alloc _) W7.heap.size 1 [.string nm, .int .i64 0, .int .i64 0] rfl rfl ?c1 ?c2 ?c3 ?c4 ?_)
          case c1 => exact range_of_new3 _ _ _ _ _ (by simp)
          case c2 => exact one_flaw nm 0
          case c3 => simp
          case c4 => simp; omega
          intro v8 W8 ho8 hg8
          have ho8' : W8.ownsRow Wd.heap.size 32 3 v8 ([0] : List Int).length (([0] : List Int).flatMap (flawC nm)) := by simpa [flawC] using ho8
          obtain ⟨⟨f8a, f8l, f8c⟩, hfl', _⟩ := sliceAt_of_owns (flawC nm) (fun _ => rfl) ho8' rfl
          rw [hfl'] at ho8' ⊢
          have x7a : Ext W5 (W7.alloc (.cells #[.string nm, .int .i64 0, .int .i64 0] 32)) := x57.alloc _
          have kk : ∀ {e : TypeId} {k : Nat} {v : Value} {n : Nat} {xs : List Value}, e ≠ 32 → W5.ownsRow Wd.heap.size e k v n xs → W8.ownsRow Wd.heap.size e k v n xs := fun he h => (owns_ext h x7a).kept hg8 (owns_apart (owns_ext h x7a) (ho7.alloc _) he)
          have hof8 := kk (by decide) hof5
          have hog8 := kk (by decide) hog5
          have hoi8 := kk (by decide) hoi5
          have kc : ∀ (b j : Nat) (v : Value), b < Wd.heap.size → W5.cell? ⟨b, j, none⟩ = some v → W8.cell? ⟨b, j, none⟩ = some v := fun b j v hb h => by
            have h1 := x7a.cell h
            rw [World.cell?_of_block (w := W7.alloc (.cells #[.string nm, .int .i64 0, .int .i64 0] 32)) (hg8.block b (World.block_lt_of_cell? _ _ h1) (fun e => by have := ((ho7.alloc (.cells #[.string nm, .int .i64 0, .int .i64 0] 32)).lt b e.symm).1; omega))]; exact h1
          have rR8 : W8.heap[w.heap.size + 1]? = _ := (hg8.block _ (lt_of_heap (x7a.heap rR5)) (fun e => by have := ((ho7.alloc (.cells #[.string nm, .int .i64 0, .int .i64 0] 32)).lt _ e.symm).1; omega)).trans (x7a.heap rR5)
          have hx08 : Ext w W8 := (hx05.trans x7a).grown hg8 (fun k hk => by have := ((ho7.alloc (.cells #[.string nm, .int .i64 0, .int .i64 0] 32)).lt k hk).1; omega)
          have hgd : g < Wd.heap.size := by omega
          have t0 := kc T 0 _ hzd t0
          have t1 := kc T 1 _ hzd t1
          have t2 := kc T 2 _ hzd t2
          have t3 := kc T 3 _ hzd t3
          have t4 := kc T 4 _ hzd t4
          have z0 := kc g 0 _ hgd z0
          have hsz8 : W5.heap.size ≤ W8.heap.size := Nat.le_trans x7a.size hg8.size
          clear hfl' hg8 ho8 ho7 kk kc q0 q1 q2 q3 q4 q5 q6 q7 q8 q9 q10 q11 q12 q13 q14 q15
          go_wp2_with fail
          refine wp_region_X (fun w' => w'.cell? ⟨T, 0, none⟩ = some (.string nm) ∧ w'.cell? ⟨T, 1, none⟩ = some (.bool enum) ∧ w'.cell? ⟨T, 2, none⟩ = some (.slice sf.a sf.len sf.cap) ∧ w'.cell? ⟨T, 3, none⟩ = some (.slice sg.a sg.len sg.cap) ∧ w'.cell? ⟨T, 4, none⟩ = some (.slice si.a si.len si.cap) ∧ w'.cell? ⟨g, 0, none⟩ = some (.bool there)) (fun _ => false) (by kernel_rfl) ?_
          obtain ⟨We, hWe⟩ : ∃ We, We = W8.drew := ⟨_, rfl⟩
          have xe : Ext W8 We := by rw [hWe]; exact (Ext.refl W8).drew
          rw [← hWe]
          clear hWe
          have hS0 : We.cell? ⟨T, 0, none⟩ = some (.string nm) ∧ We.cell? ⟨T, 1, none⟩ = some (.bool enum) ∧ We.cell? ⟨T, 2, none⟩ = some (.slice sf.a sf.len sf.cap) ∧ We.cell? ⟨T, 3, none⟩ = some (.slice sg.a sg.len sg.cap) ∧ We.cell? ⟨T, 4, none⟩ = some (.slice si.a si.len si.cap) ∧ We.cell? ⟨g, 0, none⟩ = some (.bool there) := ⟨xe.cell t0, xe.cell t1, xe.cell t2, xe.cell t3, xe.cell t4, xe.cell z0⟩
          refine wpAnyX_take (i := 0) (v := .agg #[.string nm, .bool enum, .slice sf.a sf.len sf.cap, .slice sg.a sg.len sg.cap, .slice si.a si.len si.cap]) rfl (by kernel_rfl) (by kernel_rfl) (fun _ _ _ h => h) (.inl ⟨rfl, fun w' hS => by simp [execOp, go_sem, hS.1, hS.2.1, hS.2.2.1, hS.2.2.2.1, hS.2.2.2.2.1]⟩) (hS0) ?_
          simp only [Act.put, List.getElem_toArray, List.getElem_cons_zero, List.getElem_cons_succ, List.setIfInBounds_toArray, List.set_cons_succ, List.set_cons_zero]
          refine wpAnyX_take (i := 1) (v := .pointer (some ⟨g, 0, none⟩)) rfl (by kernel_rfl) (by kernel_rfl) (fun _ _ _ h => h) (.inl ⟨rfl, fun w' hS => by simp [execOp, go_sem]⟩) (hS0) ?_
          simp only [Act.put, List.getElem_toArray, List.getElem_cons_zero, List.getElem_cons_succ, List.setIfInBounds_toArray, List.set_cons_succ, List.set_cons_zero]
          refine wpAnyX_take (i := 2) (v := .bool there) rfl (by kernel_rfl) (by kernel_rfl) (fun _ _ _ h => h) (.inl ⟨rfl, fun w' hS => by simp [execOp, go_sem, hS.2.2.2.2.2]⟩) (hS0) ?_
          simp only [Act.put, List.getElem_toArray, List.getElem_cons_zero, List.getElem_cons_succ, List.setIfInBounds_toArray, List.set_cons_succ, List.set_cons_zero]
          refine wpAnyX_take (i := 3) (v := .slice f8a f8l f8c) rfl (by kernel_rfl) (by kernel_rfl) (fun _ _ _ h => h) (.inl ⟨rfl, fun w' hS => by simp [execOp, go_sem]⟩) (hS0) ?_
          simp only [Act.put, List.getElem_toArray, List.getElem_cons_zero, List.getElem_cons_succ, List.setIfInBounds_toArray, List.set_cons_succ, List.set_cons_zero]
          have rRe := xe.heap rR8
          obtain ⟨y0, y1, y2, y3, y4, y5⟩ := row5 rRe
          have hzRe := lt_of_heap rRe
          obtain ⟨W6, hW6, r6, hx6⟩ := set5 rRe (.string nm) (.bool enum) (.slice sf.a sf.len sf.cap) (.slice sg.a sg.len sg.cap) (.slice si.a si.len si.cap)
          have f6 := hx6 w ((hx08).trans xe) (Nat.le_succ _)
          have hof6 := ownsRow_setCell_below (a := ⟨w.heap.size + 1, 4, none⟩) (ownsRow_setCell_below (a := ⟨w.heap.size + 1, 3, none⟩) (ownsRow_setCell_below (a := ⟨w.heap.size + 1, 2, none⟩) (ownsRow_setCell_below (a := ⟨w.heap.size + 1, 1, none⟩) (ownsRow_setCell_below (a := ⟨w.heap.size + 1, 0, none⟩) (owns_ext (hof8) xe) hbase (.string nm)) hbase (.bool enum)) hbase (.slice sf.a sf.len sf.cap)) hbase (.slice sg.a sg.len sg.cap)) hbase (.slice si.a si.len si.cap)
          rw [← hW6] at hof6
          have hog6 := ownsRow_setCell_below (a := ⟨w.heap.size + 1, 4, none⟩) (ownsRow_setCell_below (a := ⟨w.heap.size + 1, 3, none⟩) (ownsRow_setCell_below (a := ⟨w.heap.size + 1, 2, none⟩) (ownsRow_setCell_below (a := ⟨w.heap.size + 1, 1, none⟩) (ownsRow_setCell_below (a := ⟨w.heap.size + 1, 0, none⟩) (owns_ext (hog8) xe) hbase (.string nm)) hbase (.bool enum)) hbase (.slice sf.a sf.len sf.cap)) hbase (.slice sg.a sg.len sg.cap)) hbase (.slice si.a si.len si.cap)
          rw [← hW6] at hog6
          have hoi6 := ownsRow_setCell_below (a := ⟨w.heap.size + 1, 4, none⟩) (ownsRow_setCell_below (a := ⟨w.heap.size + 1, 3, none⟩) (ownsRow_setCell_below (a := ⟨w.heap.size + 1, 2, none⟩) (ownsRow_setCell_below (a := ⟨w.heap.size + 1, 1, none⟩) (ownsRow_setCell_below (a := ⟨w.heap.size + 1, 0, none⟩) (owns_ext (hoi8) xe) hbase (.string nm)) hbase (.bool enum)) hbase (.slice sf.a sf.len sf.cap)) hbase (.slice sg.a sg.len sg.cap)) hbase (.slice si.a si.len si.cap)
          rw [← hW6] at hoi6
          have ho6 := ownsRow_setCell_below (a := ⟨w.heap.size + 1, 4, none⟩) (ownsRow_setCell_below (a := ⟨w.heap.size + 1, 3, none⟩) (ownsRow_setCell_below (a := ⟨w.heap.size + 1, 2, none⟩) (ownsRow_setCell_below (a := ⟨w.heap.size + 1, 1, none⟩) (ownsRow_setCell_below (a := ⟨w.heap.size + 1, 0, none⟩) (owns_ext (ho8') xe) hbase (.string nm)) hbase (.bool enum)) hbase (.slice sf.a sf.len sf.cap)) hbase (.slice sg.a sg.len sg.cap)) hbase (.slice si.a si.len si.cap)
          rw [← hW6] at ho6
          have hoff : ∀ b : Nat, b ≠ w.heap.size + 1 → ∀ j, W6.cell? ⟨b, j, none⟩ = We.cell? ⟨b, j, none⟩ := fun b hb j => World.cell?_of_block (w := We) (set5_off hW6 hb)
          have HW6 := hide hW6
          clear hW6 hx6
          obtain ⟨k0, k1, k2, k3, k4, _⟩ := row5 r6
          have hS6 : W6.cell? ⟨T, 0, none⟩ = some (.string nm) ∧ W6.cell? ⟨T, 1, none⟩ = some (.bool enum) ∧ W6.cell? ⟨T, 2, none⟩ = some (.slice sf.a sf.len sf.cap) ∧ W6.cell? ⟨T, 3, none⟩ = some (.slice sg.a sg.len sg.cap) ∧ W6.cell? ⟨T, 4, none⟩ = some (.slice si.a si.len si.cap) ∧ W6.cell? ⟨g, 0, none⟩ = some (.bool there) := by rw [hoff T hTR, hoff T hTR, hoff T hTR, hoff T hTR, hoff T hTR, hoff g hgR]; exact hS0
          clear hoff
          refine wpAnyX_one (j := 4) rfl (by kernel_rfl) rfl fun K hK => ?_
          go_wp2
          rw [← unhide HW6]
          refine hK.out _ _ (hS6) ?_
          clear hK K
          refine wpAnyX_take (i := 5) (v := .bool there) rfl (by kernel_rfl) (by kernel_rfl) (fun _ _ _ h => h) (.inl ⟨rfl, fun w' hS => by simp [execOp, go_sem]⟩) (hS6) ?_
          simp only [Act.put, List.getElem_toArray, List.getElem_cons_zero, List.getElem_cons_succ, List.setIfInBounds_toArray, List.set_cons_succ, List.set_cons_zero]
          refine wpAnyX_take (i := 6) (v := .slice f8a f8l f8c) rfl (by kernel_rfl) (by kernel_rfl) (fun _ _ _ h => h) (.inl ⟨rfl, fun w' hS => by simp [execOp, go_sem]⟩) (hS6) ?_
          simp only [Act.put, List.getElem_toArray, List.getElem_cons_zero, List.getElem_cons_succ, List.setIfInBounds_toArray, List.set_cons_succ, List.set_cons_zero]
          refine wpAnyX_end [] [] rfl (by intro j i hj; simp at hj) (by kernel_rfl) (by intro i hi; simp at hi) fun K hK => ?_
          go_wp2
          refine hK.out _ _ ?_
          clear hK K
          clear HW6 hS6 y0 y1 y2 y3 y4 y5 hS0 xe t0 t1 t2 t3 t4 z0
          go_wp2
          refine bodyPost_ret (v := .tuple #[.agg #[.string nm, .bool enum, .slice sf.a sf.len sf.cap, .slice sg.a sg.len sg.cap, .slice si.a si.len si.cap], .bool there, .slice f8a f8l f8c]) (by simp [results, Tryd.results13, go_sem, k0, k1, k2, k3, k4]) rfl ⟨⟨nm, enum, sf, sg, si⟩, ⟨f8a, f8l, f8c⟩, ?_, ?_, ?_, f6⟩
          · rw [hMe]
          · rw [hMe]; exact ⟨rfl, rfl, owns_base hof6 (by omega), owns_base hog6 (by omega), owns_base hoi6 (by omega)⟩
          · rw [hMe]; exact owns_base ho6 (by omega)
        | false =>
          have hMe : M = (typeOut nm s enum, there, []) := by rw [unhide HM, hmb]; rfl
          have ho5 := unhide HO5
          clear q0 q1 q2 q3 q4 q5 q6 q7 q8 q9 q10 q11 q12 q13 q14 q15
          go_wp2_with fail
          refine wp_region_X (fun w' => w'.cell? ⟨T, 0, none⟩ = some (.string nm) ∧ w'.cell? ⟨T, 1, none⟩ = some (.bool enum) ∧ w'.cell? ⟨T, 2, none⟩ = some (.slice sf.a sf.len sf.cap) ∧ w'.cell? ⟨T, 3, none⟩ = some (.slice sg.a sg.len sg.cap) ∧ w'.cell? ⟨T, 4, none⟩ = some (.slice si.a si.len si.cap) ∧ w'.cell? ⟨g, 0, none⟩ = some (.bool there)) (fun _ => false) (by kernel_rfl) ?_
          obtain ⟨We, hWe⟩ : ∃ We, We = W5.drew := ⟨_, rfl⟩
          have xe : Ext W5 We := by rw [hWe]; exact (Ext.refl W5).drew
          rw [← hWe]
          clear hWe
          have hS0 : We.cell? ⟨T, 0, none⟩ = some (.string nm) ∧ We.cell? ⟨T, 1, none⟩ = some (.bool enum) ∧ We.cell? ⟨T, 2, none⟩ = some (.slice sf.a sf.len sf.cap) ∧ We.cell? ⟨T, 3, none⟩ = some (.slice sg.a sg.len sg.cap) ∧ We.cell? ⟨T, 4, none⟩ = some (.slice si.a si.len si.cap) ∧ We.cell? ⟨g, 0, none⟩ = some (.bool there) := ⟨xe.cell t0, xe.cell t1, xe.cell t2, xe.cell t3, xe.cell t4, xe.cell z0⟩
          refine wpAnyX_take (i := 0) (v := .agg #[.string nm, .bool enum, .slice sf.a sf.len sf.cap, .slice sg.a sg.len sg.cap, .slice si.a si.len si.cap]) rfl (by kernel_rfl) (by kernel_rfl) (fun _ _ _ h => h) (.inl ⟨rfl, fun w' hS => by simp [execOp, go_sem, hS.1, hS.2.1, hS.2.2.1, hS.2.2.2.1, hS.2.2.2.2.1]⟩) (hS0) ?_
          simp only [Act.put, List.getElem_toArray, List.getElem_cons_zero, List.getElem_cons_succ, List.setIfInBounds_toArray, List.set_cons_succ, List.set_cons_zero]
          refine wpAnyX_take (i := 1) (v := .pointer (some ⟨g, 0, none⟩)) rfl (by kernel_rfl) (by kernel_rfl) (fun _ _ _ h => h) (.inl ⟨rfl, fun w' hS => by simp [execOp, go_sem]⟩) (hS0) ?_
          simp only [Act.put, List.getElem_toArray, List.getElem_cons_zero, List.getElem_cons_succ, List.setIfInBounds_toArray, List.set_cons_succ, List.set_cons_zero]
          refine wpAnyX_take (i := 2) (v := .bool there) rfl (by kernel_rfl) (by kernel_rfl) (fun _ _ _ h => h) (.inl ⟨rfl, fun w' hS => by simp [execOp, go_sem, hS.2.2.2.2.2]⟩) (hS0) ?_
          simp only [Act.put, List.getElem_toArray, List.getElem_cons_zero, List.getElem_cons_succ, List.setIfInBounds_toArray, List.set_cons_succ, List.set_cons_zero]
          refine wpAnyX_take (i := 3) (v := .slice fva 0 fvc) rfl (by kernel_rfl) (by kernel_rfl) (fun _ _ _ h => h) (.inl ⟨rfl, fun w' hS => by simp [execOp, go_sem]⟩) (hS0) ?_
          simp only [Act.put, List.getElem_toArray, List.getElem_cons_zero, List.getElem_cons_succ, List.setIfInBounds_toArray, List.set_cons_succ, List.set_cons_zero]
          have rRe := xe.heap rR5
          obtain ⟨y0, y1, y2, y3, y4, y5⟩ := row5 rRe
          have hzRe := lt_of_heap rRe
          obtain ⟨W6, hW6, r6, hx6⟩ := set5 rRe (.string nm) (.bool enum) (.slice sf.a sf.len sf.cap) (.slice sg.a sg.len sg.cap) (.slice si.a si.len si.cap)
          have f6 := hx6 w ((hx05).trans xe) (Nat.le_succ _)
          have hof6 := ownsRow_setCell_below (a := ⟨w.heap.size + 1, 4, none⟩) (ownsRow_setCell_below (a := ⟨w.heap.size + 1, 3, none⟩) (ownsRow_setCell_below (a := ⟨w.heap.size + 1, 2, none⟩) (ownsRow_setCell_below (a := ⟨w.heap.size + 1, 1, none⟩) (ownsRow_setCell_below (a := ⟨w.heap.size + 1, 0, none⟩) (owns_ext (hof5) xe) hbase (.string nm)) hbase (.bool enum)) hbase (.slice sf.a sf.len sf.cap)) hbase (.slice sg.a sg.len sg.cap)) hbase (.slice si.a si.len si.cap)
          rw [← hW6] at hof6
          have hog6 := ownsRow_setCell_below (a := ⟨w.heap.size + 1, 4, none⟩) (ownsRow_setCell_below (a := ⟨w.heap.size + 1, 3, none⟩) (ownsRow_setCell_below (a := ⟨w.heap.size + 1, 2, none⟩) (ownsRow_setCell_below (a := ⟨w.heap.size + 1, 1, none⟩) (ownsRow_setCell_below (a := ⟨w.heap.size + 1, 0, none⟩) (owns_ext (hog5) xe) hbase (.string nm)) hbase (.bool enum)) hbase (.slice sf.a sf.len sf.cap)) hbase (.slice sg.a sg.len sg.cap)) hbase (.slice si.a si.len si.cap)
          rw [← hW6] at hog6
          have hoi6 := ownsRow_setCell_below (a := ⟨w.heap.size + 1, 4, none⟩) (ownsRow_setCell_below (a := ⟨w.heap.size + 1, 3, none⟩) (ownsRow_setCell_below (a := ⟨w.heap.size + 1, 2, none⟩) (ownsRow_setCell_below (a := ⟨w.heap.size + 1, 1, none⟩) (ownsRow_setCell_below (a := ⟨w.heap.size + 1, 0, none⟩) (owns_ext (hoi5) xe) hbase (.string nm)) hbase (.bool enum)) hbase (.slice sf.a sf.len sf.cap)) hbase (.slice sg.a sg.len sg.cap)) hbase (.slice si.a si.len si.cap)
          rw [← hW6] at hoi6
          have ho6 := ownsRow_setCell_below (a := ⟨w.heap.size + 1, 4, none⟩) (ownsRow_setCell_below (a := ⟨w.heap.size + 1, 3, none⟩) (ownsRow_setCell_below (a := ⟨w.heap.size + 1, 2, none⟩) (ownsRow_setCell_below (a := ⟨w.heap.size + 1, 1, none⟩) (ownsRow_setCell_below (a := ⟨w.heap.size + 1, 0, none⟩) (owns_ext (ho5) xe) hbase (.string nm)) hbase (.bool enum)) hbase (.slice sf.a sf.len sf.cap)) hbase (.slice sg.a sg.len sg.cap)) hbase (.slice si.a si.len si.cap)
          rw [← hW6] at ho6
          have hoff : ∀ b : Nat, b ≠ w.heap.size + 1 → ∀ j, W6.cell? ⟨b, j, none⟩ = We.cell? ⟨b, j, none⟩ := fun b hb j => World.cell?_of_block (w := We) (set5_off hW6 hb)
          have HW6 := hide hW6
          clear hW6 hx6
          obtain ⟨k0, k1, k2, k3, k4, _⟩ := row5 r6
          have hS6 : W6.cell? ⟨T, 0, none⟩ = some (.string nm) ∧ W6.cell? ⟨T, 1, none⟩ = some (.bool enum) ∧ W6.cell? ⟨T, 2, none⟩ = some (.slice sf.a sf.len sf.cap) ∧ W6.cell? ⟨T, 3, none⟩ = some (.slice sg.a sg.len sg.cap) ∧ W6.cell? ⟨T, 4, none⟩ = some (.slice si.a si.len si.cap) ∧ W6.cell? ⟨g, 0, none⟩ = some (.bool there) := by rw [hoff T hTR, hoff T hTR, hoff T hTR, hoff T hTR, hoff T hTR, hoff g hgR]; exact hS0
          clear hoff
          refine wpAnyX_one (j := 4) rfl (by kernel_rfl) rfl fun K hK => ?_
          go_wp2
          rw [← unhide HW6]
          refine hK.out _ _ (hS6) ?_
          clear hK K
          refine wpAnyX_take (i := 5) (v := .bool there) rfl (by kernel_rfl) (by kernel_rfl) (fun _ _ _ h => h) (.inl ⟨rfl, fun w' hS => by simp [execOp, go_sem]⟩) (hS6) ?_
          simp only [Act.put, List.getElem_toArray, List.getElem_cons_zero, List.getElem_cons_succ, List.setIfInBounds_toArray, List.set_cons_succ, List.set_cons_zero]
          refine wpAnyX_take (i := 6) (v := .slice fva 0 fvc) rfl (by kernel_rfl) (by kernel_rfl) (fun _ _ _ h => h) (.inl ⟨rfl, fun w' hS => by simp [execOp, go_sem]⟩) (hS6) ?_
          simp only [Act.put, List.getElem_toArray, List.getElem_cons_zero, List.getElem_cons_succ, List.setIfInBounds_toArray, List.set_cons_succ, List.set_cons_zero]
          refine wpAnyX_end [] [] rfl (by intro j i hj; simp at hj) (by kernel_rfl) (by intro i hi; simp at hi) fun K hK => ?_
          go_wp2
          refine hK.out _ _ ?_
          clear hK K
          clear HW6 hS6 y0 y1 y2 y3 y4 y5 hS0 xe t0 t1 t2 t3 t4 z0
          go_wp2
          refine bodyPost_ret (v := .tuple #[.agg #[.string nm, .bool enum, .slice sf.a sf.len sf.cap, .slice sg.a sg.len sg.cap, .slice si.a si.len si.cap], .bool there, .slice fva 0 fvc]) (by simp [results, Tryd.results13, go_sem, k0, k1, k2, k3, k4]) rfl ⟨⟨nm, enum, sf, sg, si⟩, ⟨fva, 0, fvc⟩, ?_, ?_, ?_, f6⟩
          · rw [hMe]
          · rw [hMe]; exact ⟨rfl, rfl, owns_base hof6 (by omega), owns_base hog6 (by omega), owns_base hoi6 (by omega)⟩
          · rw [hMe]; exact owns_base ho6 (by omega)
      · have hMe : M = (typeOut nm s enum, there, F) := by
          rw [unhide HM]
          have : F.isEmpty = false := by cases F with | nil => exact absurd rfl h0 | cons a b => rfl
          rw [this]; rfl
        have hvn : ¬ (fvl : Int) = 0 := by rw [unhide NV]; intro e; exact h0 (List.length_eq_zero_iff.1 (by omega))
        have hvl : fvl ≤ 3030 := by rw [unhide NV]; exact hFL
        have ho4 := unhide HO4
        clear q0 q1 q2 q3 q4 q5 q6 q7 q8 q9 q10 q11 q12 q13 q14 q15
        go_wp2_with fail
        refine wp_region_X (fun w' => w'.cell? ⟨T, 0, none⟩ = some (.string nm) ∧ w'.cell? ⟨T, 1, none⟩ = some (.bool enum) ∧ w'.cell? ⟨T, 2, none⟩ = some (.slice sf.a sf.len sf.cap) ∧ w'.cell? ⟨T, 3, none⟩ = some (.slice sg.a sg.len sg.cap) ∧ w'.cell? ⟨T, 4, none⟩ = some (.slice si.a si.len si.cap) ∧ w'.cell? ⟨g, 0, none⟩ = some (.bool there)) (fun _ => false) (by kernel_rfl) ?_
        obtain ⟨We, hWe⟩ : ∃ We, We = W4.drew := ⟨_, rfl⟩
        have xe : Ext W4 We := by rw [hWe]; exact (Ext.refl W4).drew
        rw [← hWe]
        clear hWe
        have hS0 : We.cell? ⟨T, 0, none⟩ = some (.string nm) ∧ We.cell? ⟨T, 1, none⟩ = some (.bool enum) ∧ We.cell? ⟨T, 2, none⟩ = some (.slice sf.a sf.len sf.cap) ∧ We.cell? ⟨T, 3, none⟩ = some (.slice sg.a sg.len sg.cap) ∧ We.cell? ⟨T, 4, none⟩ = some (.slice si.a si.len si.cap) ∧ We.cell? ⟨g, 0, none⟩ = some (.bool there) := ⟨xe.cell t0, xe.cell t1, xe.cell t2, xe.cell t3, xe.cell t4, xe.cell z0⟩
        refine wpAnyX_take (i := 0) (v := .agg #[.string nm, .bool enum, .slice sf.a sf.len sf.cap, .slice sg.a sg.len sg.cap, .slice si.a si.len si.cap]) rfl (by kernel_rfl) (by kernel_rfl) (fun _ _ _ h => h) (.inl ⟨rfl, fun w' hS => by simp [execOp, go_sem, hS.1, hS.2.1, hS.2.2.1, hS.2.2.2.1, hS.2.2.2.2.1]⟩) (hS0) ?_
        simp only [Act.put, List.getElem_toArray, List.getElem_cons_zero, List.getElem_cons_succ, List.setIfInBounds_toArray, List.set_cons_succ, List.set_cons_zero]
        refine wpAnyX_take (i := 1) (v := .pointer (some ⟨g, 0, none⟩)) rfl (by kernel_rfl) (by kernel_rfl) (fun _ _ _ h => h) (.inl ⟨rfl, fun w' hS => by simp [execOp, go_sem]⟩) (hS0) ?_
        simp only [Act.put, List.getElem_toArray, List.getElem_cons_zero, List.getElem_cons_succ, List.setIfInBounds_toArray, List.set_cons_succ, List.set_cons_zero]
        refine wpAnyX_take (i := 2) (v := .bool there) rfl (by kernel_rfl) (by kernel_rfl) (fun _ _ _ h => h) (.inl ⟨rfl, fun w' hS => by simp [execOp, go_sem, hS.2.2.2.2.2]⟩) (hS0) ?_
        simp only [Act.put, List.getElem_toArray, List.getElem_cons_zero, List.getElem_cons_succ, List.setIfInBounds_toArray, List.set_cons_succ, List.set_cons_zero]
        refine wpAnyX_take (i := 3) (v := .slice fva fvl fvc) rfl (by kernel_rfl) (by kernel_rfl) (fun _ _ _ h => h) (.inl ⟨rfl, fun w' hS => by simp [execOp, go_sem]⟩) (hS0) ?_
        simp only [Act.put, List.getElem_toArray, List.getElem_cons_zero, List.getElem_cons_succ, List.setIfInBounds_toArray, List.set_cons_succ, List.set_cons_zero]
        have rRe := xe.heap rR4
        obtain ⟨y0, y1, y2, y3, y4, y5⟩ := row5 rRe
        have hzRe := lt_of_heap rRe
        obtain ⟨W6, hW6, r6, hx6⟩ := set5 rRe (.string nm) (.bool enum) (.slice sf.a sf.len sf.cap) (.slice sg.a sg.len sg.cap) (.slice si.a si.len si.cap)
        have f6 := hx6 w ((hx04).trans xe) (Nat.le_succ _)
        have hof6 := ownsRow_setCell_below (a := ⟨w.heap.size + 1, 4, none⟩) (ownsRow_setCell_below (a := ⟨w.heap.size + 1, 3, none⟩) (ownsRow_setCell_below (a := ⟨w.heap.size + 1, 2, none⟩) (ownsRow_setCell_below (a := ⟨w.heap.size + 1, 1, none⟩) (ownsRow_setCell_below (a := ⟨w.heap.size + 1, 0, none⟩) (owns_ext (hof4) xe) hbase (.string nm)) hbase (.bool enum)) hbase (.slice sf.a sf.len sf.cap)) hbase (.slice sg.a sg.len sg.cap)) hbase (.slice si.a si.len si.cap)
        rw [← hW6] at hof6
        have hog6 := ownsRow_setCell_below (a := ⟨w.heap.size + 1, 4, none⟩) (ownsRow_setCell_below (a := ⟨w.heap.size + 1, 3, none⟩) (ownsRow_setCell_below (a := ⟨w.heap.size + 1, 2, none⟩) (ownsRow_setCell_below (a := ⟨w.heap.size + 1, 1, none⟩) (ownsRow_setCell_below (a := ⟨w.heap.size + 1, 0, none⟩) (owns_ext (hog4) xe) hbase (.string nm)) hbase (.bool enum)) hbase (.slice sf.a sf.len sf.cap)) hbase (.slice sg.a sg.len sg.cap)) hbase (.slice si.a si.len si.cap)
        rw [← hW6] at hog6
        have hoi6 := ownsRow_setCell_below (a := ⟨w.heap.size + 1, 4, none⟩) (ownsRow_setCell_below (a := ⟨w.heap.size + 1, 3, none⟩) (ownsRow_setCell_below (a := ⟨w.heap.size + 1, 2, none⟩) (ownsRow_setCell_below (a := ⟨w.heap.size + 1, 1, none⟩) (ownsRow_setCell_below (a := ⟨w.heap.size + 1, 0, none⟩) (owns_ext (hoi4) xe) hbase (.string nm)) hbase (.bool enum)) hbase (.slice sf.a sf.len sf.cap)) hbase (.slice sg.a sg.len sg.cap)) hbase (.slice si.a si.len si.cap)
        rw [← hW6] at hoi6
        have ho6 := ownsRow_setCell_below (a := ⟨w.heap.size + 1, 4, none⟩) (ownsRow_setCell_below (a := ⟨w.heap.size + 1, 3, none⟩) (ownsRow_setCell_below (a := ⟨w.heap.size + 1, 2, none⟩) (ownsRow_setCell_below (a := ⟨w.heap.size + 1, 1, none⟩) (ownsRow_setCell_below (a := ⟨w.heap.size + 1, 0, none⟩) (owns_ext (ho4) xe) hbase (.string nm)) hbase (.bool enum)) hbase (.slice sf.a sf.len sf.cap)) hbase (.slice sg.a sg.len sg.cap)) hbase (.slice si.a si.len si.cap)
        rw [← hW6] at ho6
        have hoff : ∀ b : Nat, b ≠ w.heap.size + 1 → ∀ j, W6.cell? ⟨b, j, none⟩ = We.cell? ⟨b, j, none⟩ := fun b hb j => World.cell?_of_block (w := We) (set5_off hW6 hb)
        have HW6 := hide hW6
        clear hW6 hx6
        obtain ⟨k0, k1, k2, k3, k4, _⟩ := row5 r6
        have hS6 : W6.cell? ⟨T, 0, none⟩ = some (.string nm) ∧ W6.cell? ⟨T, 1, none⟩ = some (.bool enum) ∧ W6.cell? ⟨T, 2, none⟩ = some (.slice sf.a sf.len sf.cap) ∧ W6.cell? ⟨T, 3, none⟩ = some (.slice sg.a sg.len sg.cap) ∧ W6.cell? ⟨T, 4, none⟩ = some (.slice si.a si.len si.cap) ∧ W6.cell? ⟨g, 0, none⟩ = some (.bool there) := by rw [hoff T hTR, hoff T hTR, hoff T hTR, hoff T hTR, hoff T hTR, hoff g hgR]; exact hS0
        clear hoff
        refine wpAnyX_one (j := 4) rfl (by kernel_rfl) rfl fun K hK => ?_
        go_wp2
        rw [← unhide HW6]
        refine hK.out _ _ (hS6) ?_
        clear hK K
        refine wpAnyX_take (i := 5) (v := .bool there) rfl (by kernel_rfl) (by kernel_rfl) (fun _ _ _ h => h) (.inl ⟨rfl, fun w' hS => by simp [execOp, go_sem]⟩) (hS6) ?_
        simp only [Act.put, List.getElem_toArray, List.getElem_cons_zero, List.getElem_cons_succ, List.setIfInBounds_toArray, List.set_cons_succ, List.set_cons_zero]
        refine wpAnyX_take (i := 6) (v := .slice fva fvl fvc) rfl (by kernel_rfl) (by kernel_rfl) (fun _ _ _ h => h) (.inl ⟨rfl, fun w' hS => by simp [execOp, go_sem]⟩) (hS6) ?_
        simp only [Act.put, List.getElem_toArray, List.getElem_cons_zero, List.getElem_cons_succ, List.setIfInBounds_toArray, List.set_cons_succ, List.set_cons_zero]
        refine wpAnyX_end [] [] rfl (by intro j i hj; simp at hj) (by kernel_rfl) (by intro i hi; simp at hi) fun K hK => ?_
        go_wp2
        refine hK.out _ _ ?_
        clear hK K
        clear HW6 hS6 y0 y1 y2 y3 y4 y5 hS0 xe t0 t1 t2 t3 t4 z0
        go_wp2
        refine bodyPost_ret (v := .tuple #[.agg #[.string nm, .bool enum, .slice sf.a sf.len sf.cap, .slice sg.a sg.len sg.cap, .slice si.a si.len si.cap], .bool there, .slice fva fvl fvc]) (by simp [results, Tryd.results13, go_sem, k0, k1, k2, k3, k4]) rfl ⟨⟨nm, enum, sf, sg, si⟩, ⟨fva, fvl, fvc⟩, ?_, ?_, ?_, f6⟩
        · rw [hMe]
        · rw [hMe]; exact ⟨rfl, rfl, owns_base hof6 (by omega), owns_base hog6 (by omega), owns_base hoi6 (by omega)⟩
        · rw [hMe]; exact owns_base ho6 (by omega)
end Go.Proofs.YtblkgaoafejefaaDoor
