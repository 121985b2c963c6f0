import Derived.Test.YtblkgaoafejefaaDoorA6
namespace Go.Proofs.YtblkgaoafejefaaDoor
set_option linter.unusedSimpArgs false
set_option linter.unusedVariables false
open Go.RowKit

theorem insU_len {α : Type} (lt : α → α → Bool) (x : α) : ∀ l, (insU lt x l).length ≤ l.length + 1
  | [] => by simp [insU]
  | y :: l => by
    have := insU_len lt x l
    unfold insU
    split
    · simp
    · split <;> simp <;> omega
theorem unions_len {α : Type} (lt : α → α → Bool) : ∀ l, (unions lt l).length ≤ l.length
  | [] => by simp [unions]
  | x :: l => by
    have h1 := insU_len lt x (unions lt l)
    have h2 := unions_len lt l
    show (insU lt x (unions lt l)).length ≤ _
    rw [List.length_cons]; omega
theorem set3 {w : World} {g : Nat} {t : TypeId} {c0 c1 c2 : Value} (hb : w.heap[g]? = some (.cells #[c0, c1, c2] t (0, 0))) (d0 d1 d2 : Value) :
    ∃ W, W = ((w.setCell ⟨g, 0, none⟩ d0).setCell ⟨g, 1, none⟩ d1).setCell ⟨g, 2, none⟩ d2 ∧ W.heap[g]? = some (.cells #[d0, d1, d2] t (0, 0)) ∧ (∀ w0, Ext w0 w → w0.heap.size ≤ g → Ext w0 W) := by
  have h0 := heap_setCell_same w g 0 _ t d0 hb
  have h1 := heap_setCell_same _ g 1 _ t d1 h0
  have h2 := heap_setCell_same _ g 2 _ t d2 h1
  exact ⟨_, rfl, h2, fun w0 hx hg => ((hx.setCell hg _).setCell hg _).setCell hg _⟩
theorem itFlaws_succ (s : TS) {l : List Int} {j : Nat} (h : j < l.length) : itemFlawsOf s (l.take (j + 1)) = itemFlawsOf s (l.take j) ++ (if (itKept s l[j]).isNone then [l[j]] else []) := by
  unfold itemFlawsOf; rw [List.take_succ_eq_append_getElem h, List.filter_append]; simp [List.filter_cons]
theorem itItems_succ (s : TS) {l : List Int} {j : Nat} (h : j < l.length) : itemsOf s (l.take (j + 1)) = itemsOf s (l.take j) ++ ((itKept s l[j]).getD none).toList := by
  unfold itemsOf; rw [List.take_succ_eq_append_getElem h, List.filterMap_append]
  cases h2 : (itKept s l[j]).getD none <;> simp [h2]
theorem itFlaws_len (s : TS) (l : List Int) : (itemFlawsOf s l).length ≤ l.length := List.length_filter_le _ _
theorem itItems_len (s : TS) (l : List Int) : (itemsOf s l).length ≤ l.length := List.length_filterMap_le _ _
theorem numbers_len (s : TS) (n0 : s.was.items.length ≤ 1000) (n1 : s.a.items.length ≤ 1000) (n2 : s.b.items.length ≤ 1000) : (numbersM s).length ≤ 3000 := by
  unfold numbersM
  refine Nat.le_trans (unions_len _ _) ?_
  simp; omega
set_option maxHeartbeats 12800000 in
set_option maxRecDepth 20000 in
theorem mergeItems_any (nm wn : ByteArray) (we : Bool) (wf wg wi : SV) (an : ByteArray) (ae : Bool) (af ag ai : SV) (bn : ByteArray) (be : Bool) (bf bg bi : SV) (s : TS) (h : Nat) (tn : ByteArray) (en : Bool) (sf sg : SV) (w0 w : World) (hx0 : Ext w0 w) (hh : h < w.heap.size) (hh0 : w0.heap.size ≤ h)
    (hw : TypeAt w0 ⟨wn, we, wf, wg, wi⟩ s.was) (ha : TypeAt w0 ⟨an, ae, af, ag, ai⟩ s.a) (hb : TypeAt w0 ⟨bn, be, bf, bg, bi⟩ s.b) (n0 : s.was.items.length ≤ 1000) (n1 : s.a.items.length ≤ 1000) (n2 : s.b.items.length ≤ 1000)
    (hrow : w.heap[h]? = some (.cells #[.string tn, .bool en, .slice sf.a sf.len sf.cap, .slice sg.a sg.len sg.cap, .slice none 0 0] 46 (0, 0))) :
    Calls Tryd.prog 28 #[.agg #[.string nm, .string wn, .bool we, .slice wf.a wf.len wf.cap, .slice wg.a wg.len wg.cap, .slice wi.a wi.len wi.cap, .string an, .bool ae, .slice af.a af.len af.cap, .slice ag.a ag.len ag.cap, .slice ai.a ai.len ai.cap, .string bn, .bool be, .slice bf.a bf.len bf.cap, .slice bg.a bg.len bg.cap, .slice bi.a bi.len bi.cap], .pointer (some ⟨h, 0, none⟩)] w fun e w' => ∃ (fl si : SV), e = .returned (.slice fl.a fl.len fl.cap) ∧ w'.ownsRow w.heap.size 32 3 (.slice fl.a fl.len fl.cap) (itemFlawsOf s (numbersM s)).length ((itemFlawsOf s (numbersM s)).flatMap (flawC nm)) ∧ w'.heap[h]? = some (.cells #[.string tn, .bool en, .slice sf.a sf.len sf.cap, .slice sg.a sg.len sg.cap, .slice si.a si.len si.cap] 46 (0, 0)) ∧ w'.ownsRow w.heap.size 73 2 (.slice si.a si.len si.cap) (itemsOf s (numbersM s)).length ((itemsOf s (numbersM s)).flatMap ItemM.cells) ∧ Fr w.heap.size h h w w' := by
  obtain ⟨W, hW⟩ : ∃ W, W = w.alloc (.cells #[.string nm, .string wn, .bool we, .slice wf.a wf.len wf.cap, .slice wg.a wg.len wg.cap, .slice wi.a wi.len wi.cap, .string an, .bool ae, .slice af.a af.len af.cap, .slice ag.a ag.len ag.cap, .slice ai.a ai.len ai.cap, .string bn, .bool be, .slice bf.a bf.len bf.cap, .slice bg.a bg.len bg.cap, .slice bi.a bi.len bi.cap] 49) := ⟨_, rfl⟩
  have hxW : Ext w W := by rw [hW]; exact (Ext.refl w).alloc _
  have rW : W.heap[w.heap.size]? = some (.cells #[.string nm, .string wn, .bool we, .slice wf.a wf.len wf.cap, .slice wg.a wg.len wg.cap, .slice wi.a wi.len wi.cap, .string an, .bool ae, .slice af.a af.len af.cap, .slice ag.a ag.len ag.cap, .slice ai.a ai.len ai.cap, .string bn, .bool be, .slice bf.a bf.len bf.cap, .slice bg.a bg.len bg.cap, .slice bi.a bi.len bi.cap] 49 (0, 0)) := by rw [hW]; exact heap_alloc_new _ _
  have HW := hide hW
  have hx0W := hx0.trans hxW
  have hF0 : ∀ (id : Int) (w' : World), Ext w0 w' → Calls Tryd.prog 48 #[.agg #[.string wn, .bool we, .slice wf.a wf.len wf.cap, .slice wg.a wg.len wg.cap, .slice wi.a wi.len wi.cap], .int .i64 id] w' fun e w'' => e = .returned (.agg #[.bool (thI (itemM s.was id)).1, .string (thI (itemM s.was id)).2.name, .int .i64 (thI (itemM s.was id)).2.n]) ∧ Ext w' w'' := fun id w' hx => itemIn_any ⟨wn, we, wf, wg, wi⟩ s.was id w' (hw.ext hx) (by omega)
  have hF1 : ∀ (id : Int) (w' : World), Ext w0 w' → Calls Tryd.prog 48 #[.agg #[.string an, .bool ae, .slice af.a af.len af.cap, .slice ag.a ag.len ag.cap, .slice ai.a ai.len ai.cap], .int .i64 id] w' fun e w'' => e = .returned (.agg #[.bool (thI (itemM s.a id)).1, .string (thI (itemM s.a id)).2.name, .int .i64 (thI (itemM s.a id)).2.n]) ∧ Ext w' w'' := fun id w' hx => itemIn_any ⟨an, ae, af, ag, ai⟩ s.a id w' (ha.ext hx) (by omega)
  have hF2 : ∀ (id : Int) (w' : World), Ext w0 w' → Calls Tryd.prog 48 #[.agg #[.string bn, .bool be, .slice bf.a bf.len bf.cap, .slice bg.a bg.len bg.cap, .slice bi.a bi.len bi.cap], .int .i64 id] w' fun e w'' => e = .returned (.agg #[.bool (thI (itemM s.b id)).1, .string (thI (itemM s.b id)).2.name, .int .i64 (thI (itemM s.b id)).2.n]) ∧ Ext w' w'' := fun id w' hx => itemIn_any ⟨bn, be, bf, bg, bi⟩ s.b id w' (hb.ext hx) (by omega)
  have hN := numbers_any nm wn we wf wg wi an ae af ag ai bn be bf bg bi s W (hw.ext hx0W) (ha.ext hx0W) (hb.ext hx0W) n0 n1 n2
  have hnl := numbers_len s n0 n1 n2
  clear hW hw ha hb n0 n1 n2
  generalize numbersM s = nums at *
  have HN := hide hN
  clear hN
  obtain ⟨q0, q1, q2, q3, q4, q5, q6, q7, q8, q9, q10, q11, q12, q13, q14, q15⟩ := row16 rW
  go_enter Tryd.func28, Tryd.ntmps28
  go_wp2_with fail
  rw [← unhide HW]
  refine (unhide HN).mono ?_
  rintro e W2 ⟨⟨na, nn, nc⟩, rfl, hnat, hnok, hnf, hxN⟩
  have hnl2 := hnat.1
  simp only at hnl2
  subst hnl2
  have HA := hide hnat
  have rW2 := hxN.heap rW
  have hrW2 := (hxW.trans hxN).heap hrow
  have hx0W2 := hx0W.trans hxN
  have hz2 := lt_of_heap rW2
  obtain ⟨base, hbase⟩ : ∃ b, b = W2.heap.size := ⟨_, rfl⟩
  have hb1 : w.heap.size + 1 ≤ base := by omega
  have hb3 : base ≤ W2.heap.size := by omega
  have hb4 : W2.heap.size ≤ base := by omega
  clear hbase hnat rW HN HW hrow q0 q1 q2 q3 q4 q5 q6 q7 q8 q9 q10 q11 q12 q13 q14 q15
  go_wp2
  go_loopw [5, 13] (fun fl i wr => ∃ (j : Nat) (flv si : SV), j ≤ nums.length ∧ i = .int .i64 j ∧ fl = .slice flv.a flv.len flv.cap ∧ wr.ownsRow base 32 3 (.slice flv.a flv.len flv.cap) (itemFlawsOf s (nums.take j)).length ((itemFlawsOf s (nums.take j)).flatMap (flawC nm)) ∧ wr.heap[h]? = some (.cells #[.string tn, .bool en, .slice sf.a sf.len sf.cap, .slice sg.a sg.len sg.cap, .slice si.a si.len si.cap] 46 (0, 0)) ∧ wr.ownsRow base 73 2 (.slice si.a si.len si.cap) (itemsOf s (nums.take j)).length ((itemsOf s (nums.take j)).flatMap ItemM.cells) ∧ Fr base h h W2 wr) (fun _ i _ => nums.length - (intOf i).toNat)
  case atStart => exact ⟨0, ⟨none, 0, 0⟩, ⟨none, 0, 0⟩, by omega, rfl, rfl, owns_nil _ _ _ _, hrW2, owns_nil _ _ _ _, Fr.refl _ _ _ _⟩
  case round =>
    obtain ⟨k, flv, si, hk, rfl, rfl, hfl, hrow, hit, hfr⟩ := hrel
    have hE : Ext w0 wr := hx0W2.fr hfr hh0 hh0 (by have := hx0W2.size; omega)
    have rB : wr.heap[w.heap.size]? = some (.cells #[.string nm, .string wn, .bool we, .slice wf.a wf.len wf.cap, .slice wg.a wg.len wg.cap, .slice wi.a wi.len wi.cap, .string an, .bool ae, .slice af.a af.len af.cap, .slice ag.a ag.len ag.cap, .slice ai.a ai.len ai.cap, .string bn, .bool be, .slice bf.a bf.len bf.cap, .slice bg.a bg.len bg.cap, .slice bi.a bi.len bi.cap] 49 (0, 0)) := by rw [hfr.block w.heap.size (by omega) (by omega) (by omega)]; exact rW2
    obtain ⟨q0, q1, q2, q3, q4, q5, q6, q7, q8, q9, q10, q11, q12, q13, q14, q15⟩ := row16 rB
    have hzB := lt_of_heap rB
    have hbw : base ≤ wr.heap.size := by have := hfr.size; omega
    by_cases hlt : k < nums.length
    · obtain ⟨ib, io, cs, eia, hri, rfl⟩ := (unhide HA).2 k nums[k] (by simp [hlt])
      simp only at eia
      subst eia
      have hib : ib < W2.heap.size := World.block_lt_of_cell? _ _ (hri 0 _ rfl)
      have hibh : W.heap.size ≤ ib := hnf _ rfl
      have hWz := hxW.size
      have hic : wr.cell? ⟨ib, io + k, none⟩ = some (.int .i64 nums[k]) := by
        have h0 := hri 0 _ rfl
        rw [World.cell?_of_block (w := W2) (hfr.block ib (by omega) (by omega) (by omega))]
        simpa using h0
      have e1 : Hid (itemFlawsOf s (nums.take (k + 1)) = itemFlawsOf s (nums.take k) ++ (if (itKept s nums[k]).isNone then [nums[k]] else [])) := itFlaws_succ s hlt
      have e2 : Hid (itemsOf s (nums.take (k + 1)) = itemsOf s (nums.take k) ++ ((itKept s nums[k]).getD none).toList) := itItems_succ s hlt
      have hl1 : (itemFlawsOf s (nums.take k)).length ≤ 3000 := Nat.le_trans (itFlaws_len _ _) (by simp; omega)
      have hl2 : (itemsOf s (nums.take k)).length ≤ 3000 := Nat.le_trans (itItems_len _ _) (by simp; omega)
      generalize nums[k] = id at *
      generalize itemFlawsOf s (nums.take k) = fls at *
      generalize itemsOf s (nums.take k) = its at *
      clear hri
      have hF0 := hF0 id
      have hF1 := hF1 id
      have hF2 := hF2 id
      obtain ⟨R, hR⟩ : ∃ R, R = (itKept s id).map thI := ⟨_, rfl⟩
      have hSet := fun w' => settleI_any (thI (itemM s.was id)) (thI (itemM s.a id)) (thI (itemM s.b id)) w'
      rw [settle_thI, show settleB (eqO eqI) (itemM s.was id) (itemM s.a id) (itemM s.b id) = itKept s id from rfl, ← hR] at hSet
      have HR := hide hR
      clear hR
      generalize thI (itemM s.was id) = p0 at *
      generalize thI (itemM s.a id) = p1 at *
      generalize thI (itemM s.b id) = p2 at *
      go_upto_region 5 with fail
      go_cut [8, 9] (fun s8 s9 wx => ∃ g, s8 = .pointer (some ⟨g, 0, none⟩) ∧ s9 = .bool R.isSome ∧ wr.heap.size ≤ g ∧ Ext wr wx ∧ wx.heap[g]? = some (.cells #[.bool (R.getD (false, ItemM.zero)).1, .string (R.getD (false, ItemM.zero)).2.name, .int .i64 (R.getD (false, ItemM.zero)).2.n] 94 (0, 0)))
      case first =>
        rename_i J0 K0 hJ0 hK0
        refine wp_region_X (fun w' => Ext wr w') (fun _ => false) (by kernel_rfl) ?_
        obtain ⟨Wd, hWd⟩ : ∃ Wd, Wd = wr.drew := ⟨_, rfl⟩
        have hS0 : Ext wr Wd := by rw [hWd]; exact (Ext.refl wr).drew
        rw [← hWd]
        clear hWd
        refine wpAnyX_take (i := 0) (v := .pointer (some ⟨w.heap.size, 1, none⟩)) rfl (by kernel_rfl) (by kernel_rfl) (fun _ _ _ h => h) (.inl ⟨rfl, fun w' hS => by simp [execOp, go_sem]⟩) (hS0) ?_
        simp only [Act.put, List.getElem_toArray, List.getElem_cons_zero, List.getElem_cons_succ, List.setIfInBounds_toArray, List.set_cons_succ, List.set_cons_zero]
        refine wpAnyX_take (i := 1) (v := .agg #[.string wn, .bool we, .slice wf.a wf.len wf.cap, .slice wg.a wg.len wg.cap, .slice wi.a wi.len wi.cap]) rfl (by kernel_rfl) (by kernel_rfl) (fun _ _ _ h => h) (.inl ⟨rfl, fun w' hS => by simp [execOp, go_sem, hS.cell q1, hS.cell q2, hS.cell q3, hS.cell q4, hS.cell q5]⟩) (hS0) ?_
        simp only [Act.put, List.getElem_toArray, List.getElem_cons_zero, List.getElem_cons_succ, List.setIfInBounds_toArray, List.set_cons_succ, List.set_cons_zero]
        refine wpAnyX_take (i := 2) (v := .int .i64 id) rfl (by kernel_rfl) (by kernel_rfl) (fun _ _ _ h => h) (.inl ⟨rfl, fun w' hS => by simp [execOp, go_sem]⟩) (hS0) ?_
        simp only [Act.put, List.getElem_toArray, List.getElem_cons_zero, List.getElem_cons_succ, List.setIfInBounds_toArray, List.set_cons_succ, List.set_cons_zero]
        refine wpAnyX_take (i := 4) (v := .pointer (some ⟨w.heap.size, 6, none⟩)) rfl (by kernel_rfl) (by kernel_rfl) (fun _ _ _ h => h) (.inl ⟨rfl, fun w' hS => by simp [execOp, go_sem]⟩) (hS0) ?_
        simp only [Act.put, List.getElem_toArray, List.getElem_cons_zero, List.getElem_cons_succ, List.setIfInBounds_toArray, List.set_cons_succ, List.set_cons_zero]
        refine wpAnyX_take (i := 5) (v := .agg #[.string an, .bool ae, .slice af.a af.len af.cap, .slice ag.a ag.len ag.cap, .slice ai.a ai.len ai.cap]) rfl (by kernel_rfl) (by kernel_rfl) (fun _ _ _ h => h) (.inl ⟨rfl, fun w' hS => by simp [execOp, go_sem, hS.cell q6, hS.cell q7, hS.cell q8, hS.cell q9, hS.cell q10]⟩) (hS0) ?_
        simp only [Act.put, List.getElem_toArray, List.getElem_cons_zero, List.getElem_cons_succ, List.setIfInBounds_toArray, List.set_cons_succ, List.set_cons_zero]
        refine wpAnyX_take (i := 6) (v := .int .i64 id) rfl (by kernel_rfl) (by kernel_rfl) (fun _ _ _ h => h) (.inl ⟨rfl, fun w' hS => by simp [execOp, go_sem]⟩) (hS0) ?_
        simp only [Act.put, List.getElem_toArray, List.getElem_cons_zero, List.getElem_cons_succ, List.setIfInBounds_toArray, List.set_cons_succ, List.set_cons_zero]
        refine wpAnyX_take (i := 8) (v := .pointer (some ⟨w.heap.size, 11, none⟩)) rfl (by kernel_rfl) (by kernel_rfl) (fun _ _ _ h => h) (.inl ⟨rfl, fun w' hS => by simp [execOp, go_sem]⟩) (hS0) ?_
        simp only [Act.put, List.getElem_toArray, List.getElem_cons_zero, List.getElem_cons_succ, List.setIfInBounds_toArray, List.set_cons_succ, List.set_cons_zero]
        refine wpAnyX_take (i := 9) (v := .agg #[.string bn, .bool be, .slice bf.a bf.len bf.cap, .slice bg.a bg.len bg.cap, .slice bi.a bi.len bi.cap]) rfl (by kernel_rfl) (by kernel_rfl) (fun _ _ _ h => h) (.inl ⟨rfl, fun w' hS => by simp [execOp, go_sem, hS.cell q11, hS.cell q12, hS.cell q13, hS.cell q14, hS.cell q15]⟩) (hS0) ?_
        simp only [Act.put, List.getElem_toArray, List.getElem_cons_zero, List.getElem_cons_succ, List.setIfInBounds_toArray, List.set_cons_succ, List.set_cons_zero]
        refine wpAnyX_take (i := 10) (v := .int .i64 id) rfl (by kernel_rfl) (by kernel_rfl) (fun _ _ _ h => h) (.inl ⟨rfl, fun w' hS => by simp [execOp, go_sem]⟩) (hS0) ?_
        simp only [Act.put, List.getElem_toArray, List.getElem_cons_zero, List.getElem_cons_succ, List.setIfInBounds_toArray, List.set_cons_succ, List.set_cons_zero]
        refine wpAnyX_two (i := 3) (j := 16) rfl rfl (by kernel_rfl) rfl rfl (fun K hK => ?_) (fun K hK => ?_)
        · go_wp2_with fail
          refine (hF0 _ (hE.trans (hS0))).mono ?_
          rintro e Wc1 ⟨rfl, xWc1⟩
          go_wp2
          have fWc1 : Ext wr Wc1 := (hS0).trans xWc1
          refine hK.out _ _ (fWc1) ?_
          clear hK K
          refine wpAnyX_two (i := 7) (j := 16) rfl rfl (by kernel_rfl) rfl rfl (fun K hK => ?_) (fun K hK => ?_)
          · go_wp2_with fail
            refine (hF1 _ (hE.trans (fWc1))).mono ?_
            rintro e Wc2 ⟨rfl, xWc2⟩
            go_wp2
            have fWc2 : Ext wr Wc2 := (fWc1).trans xWc2
            refine hK.out _ _ (fWc2) ?_
            clear hK K
            refine wpAnyX_two (i := 11) (j := 16) rfl rfl (by kernel_rfl) rfl rfl (fun K hK => ?_) (fun K hK => ?_)
            · go_wp2_with fail
              refine (hF2 _ (hE.trans (fWc2))).mono ?_
              rintro e Wc3 ⟨rfl, xWc3⟩
              go_wp2
              have fWc3 : Ext wr Wc3 := (fWc2).trans xWc3
              refine hK.out _ _ (fWc3) ?_
              clear hK K
              refine wpAnyX_two (i := 12) (j := 16) rfl rfl (by kernel_rfl) rfl rfl (fun K hK => ?_) (fun K hK => ?_)
              · go_wp2_with fail
                refine (hSet _).mono ?_
                rintro e Wc4 ⟨rfl, xWc4⟩
                go_wp2
                have fWc4 : Ext wr Wc4 := (fWc3).trans xWc4
                refine hK.out _ _ (fWc4) ?_
                clear hK K
                refine wpAnyX_take (i := 13) (v := .tuple #[.agg #[.bool (R.getD (false, ItemM.zero)).1, .string (R.getD (false, ItemM.zero)).2.name, .int .i64 (R.getD (false, ItemM.zero)).2.n], .bool R.isSome]) rfl (by kernel_rfl) (by kernel_rfl) (fun _ _ _ h => h) (.inl ⟨rfl, fun w' hS => by simp [execOp, go_sem]⟩) (fWc4) ?_
                simp only [Act.put, List.getElem_toArray, List.getElem_cons_zero, List.getElem_cons_succ, List.setIfInBounds_toArray, List.set_cons_succ, List.set_cons_zero]
                refine wpAnyX_take (i := 14) (v := .agg #[.bool (R.getD (false, ItemM.zero)).1, .string (R.getD (false, ItemM.zero)).2.name, .int .i64 (R.getD (false, ItemM.zero)).2.n]) rfl (by kernel_rfl) (by kernel_rfl) (fun _ _ _ h => h) (.inl ⟨rfl, fun w' hS => by simp [execOp, go_sem]⟩) (fWc4) ?_
                simp only [Act.put, List.getElem_toArray, List.getElem_cons_zero, List.getElem_cons_succ, List.setIfInBounds_toArray, List.set_cons_succ, List.set_cons_zero]
                refine wpAnyX_take (i := 15) (v := .bool R.isSome) rfl (by kernel_rfl) (by kernel_rfl) (fun _ _ _ h => h) (.inl ⟨rfl, fun w' hS => by simp [execOp, go_sem]⟩) (fWc4) ?_
                simp only [Act.put, List.getElem_toArray, List.getElem_cons_zero, List.getElem_cons_succ, List.setIfInBounds_toArray, List.set_cons_succ, List.set_cons_zero]
                refine wpAnyX_one (j := 16) rfl (by kernel_rfl) rfl fun K hK => ?_
                go_wp2
                refine hK.out _ _ ((fWc4).alloc _) ?_
                clear hK K
                obtain ⟨Wc5, hWc5⟩ : ∃ X, X = Wc4.alloc (.cells #[.bool false, .string ⟨#[]⟩, .int .i64 0] 94) := ⟨_, rfl⟩
                have fWc5 : Ext wr Wc5 := by rw [hWc5]; exact (fWc4).alloc _
                have rWc5 : Wc5.heap[Wc4.heap.size]? = some (.cells #[.bool false, .string ⟨#[]⟩, .int .i64 0] 94 (0, 0)) := by rw [hWc5]; exact heap_alloc_new _ _
                have bWc5 : wr.heap.size ≤ Wc4.heap.size := (fWc4).size
                rw [← hWc5]
                clear hWc5
                generalize Wc4.heap.size = g at rWc5 bWc5 ⊢
                obtain ⟨W6, hW6, r6, hx6⟩ := set3 rWc5 (.bool (R.getD (false, ItemM.zero)).1) (.string (R.getD (false, ItemM.zero)).2.name) (.int .i64 (R.getD (false, ItemM.zero)).2.n)
                have hgz : wr.heap.size ≤ g := by assumption
                have f6 := hx6 wr (fWc5) hgz
                have HW6 := hide hW6
                obtain ⟨u0, u1, u2, uf⟩ := row3 rWc5
                clear hW6 hx6
                refine wpAnyX_one (j := 17) rfl (by kernel_rfl) rfl fun K hK => ?_
                go_wp2
                rw [← unhide HW6]
                refine hK.out _ _ (f6) ?_
                clear hK K
                refine wpAnyX_take (i := 18) (v := .bool R.isSome) rfl (by kernel_rfl) (by kernel_rfl) (fun _ _ _ h => h) (.inl ⟨rfl, fun w' hS => by simp [execOp, go_sem]⟩) (f6) ?_
                simp only [Act.put, List.getElem_toArray, List.getElem_cons_zero, List.getElem_cons_succ, List.setIfInBounds_toArray, List.set_cons_succ, List.set_cons_zero]
                refine wpAnyX_end [] [] rfl (by intro j i hj; simp at hj) (by kernel_rfl) (by intro i hi; simp at hi) fun K hK => ?_
                go_wp2
                refine hK.out _ _ ?_
                clear hK K
                first | refine Met.intro (hJ0 _ _ ?_) | refine hK0 _ _ (Met.intro (hJ0 _ _ ?_))
                (repeat apply Exists.intro)
                refine ⟨?rel, rfl⟩
                case rel => exact ⟨g, rfl, rfl, hgz, f6, r6⟩
              · go_wp2
                refine hK.out _ _ ((fWc3).alloc _) ?_
                clear hK K
                obtain ⟨Wc6, hWc6⟩ : ∃ X, X = Wc3.alloc (.cells #[.bool false, .string ⟨#[]⟩, .int .i64 0] 94) := ⟨_, rfl⟩
                have fWc6 : Ext wr Wc6 := by rw [hWc6]; exact (fWc3).alloc _
                have rWc6 : Wc6.heap[Wc3.heap.size]? = some (.cells #[.bool false, .string ⟨#[]⟩, .int .i64 0] 94 (0, 0)) := by rw [hWc6]; exact heap_alloc_new _ _
                have bWc6 : wr.heap.size ≤ Wc3.heap.size := (fWc3).size
                rw [← hWc6]
                clear hWc6
                generalize Wc3.heap.size = g at rWc6 bWc6 ⊢
                refine wpAnyX_one (j := 12) rfl (by kernel_rfl) rfl fun K hK => ?_
                go_wp2_with fail
                refine (hSet _).mono ?_
                rintro e Wc7 ⟨rfl, xWc7⟩
                go_wp2
                have fWc7 : Ext wr Wc7 := (fWc6).trans xWc7
                refine hK.out _ _ (fWc7) ?_
                clear hK K
                have rWc7 := xWc7.heap rWc6
                refine wpAnyX_take (i := 13) (v := .tuple #[.agg #[.bool (R.getD (false, ItemM.zero)).1, .string (R.getD (false, ItemM.zero)).2.name, .int .i64 (R.getD (false, ItemM.zero)).2.n], .bool R.isSome]) rfl (by kernel_rfl) (by kernel_rfl) (fun _ _ _ h => h) (.inl ⟨rfl, fun w' hS => by simp [execOp, go_sem]⟩) (fWc7) ?_
                simp only [Act.put, List.getElem_toArray, List.getElem_cons_zero, List.getElem_cons_succ, List.setIfInBounds_toArray, List.set_cons_succ, List.set_cons_zero]
                refine wpAnyX_take (i := 14) (v := .agg #[.bool (R.getD (false, ItemM.zero)).1, .string (R.getD (false, ItemM.zero)).2.name, .int .i64 (R.getD (false, ItemM.zero)).2.n]) rfl (by kernel_rfl) (by kernel_rfl) (fun _ _ _ h => h) (.inl ⟨rfl, fun w' hS => by simp [execOp, go_sem]⟩) (fWc7) ?_
                simp only [Act.put, List.getElem_toArray, List.getElem_cons_zero, List.getElem_cons_succ, List.setIfInBounds_toArray, List.set_cons_succ, List.set_cons_zero]
                refine wpAnyX_take (i := 15) (v := .bool R.isSome) rfl (by kernel_rfl) (by kernel_rfl) (fun _ _ _ h => h) (.inl ⟨rfl, fun w' hS => by simp [execOp, go_sem]⟩) (fWc7) ?_
                simp only [Act.put, List.getElem_toArray, List.getElem_cons_zero, List.getElem_cons_succ, List.setIfInBounds_toArray, List.set_cons_succ, List.set_cons_zero]
                obtain ⟨W6, hW6, r6, hx6⟩ := set3 rWc7 (.bool (R.getD (false, ItemM.zero)).1) (.string (R.getD (false, ItemM.zero)).2.name) (.int .i64 (R.getD (false, ItemM.zero)).2.n)
                have hgz : wr.heap.size ≤ g := by assumption
                have f6 := hx6 wr (fWc7) hgz
                have HW6 := hide hW6
                obtain ⟨u0, u1, u2, uf⟩ := row3 rWc7
                clear hW6 hx6
                refine wpAnyX_one (j := 17) rfl (by kernel_rfl) rfl fun K hK => ?_
                go_wp2
                rw [← unhide HW6]
                refine hK.out _ _ (f6) ?_
                clear hK K
                refine wpAnyX_take (i := 18) (v := .bool R.isSome) rfl (by kernel_rfl) (by kernel_rfl) (fun _ _ _ h => h) (.inl ⟨rfl, fun w' hS => by simp [execOp, go_sem]⟩) (f6) ?_
                simp only [Act.put, List.getElem_toArray, List.getElem_cons_zero, List.getElem_cons_succ, List.setIfInBounds_toArray, List.set_cons_succ, List.set_cons_zero]
                refine wpAnyX_end [] [] rfl (by intro j i hj; simp at hj) (by kernel_rfl) (by intro i hi; simp at hi) fun K hK => ?_
                go_wp2
                refine hK.out _ _ ?_
                clear hK K
                first | refine Met.intro (hJ0 _ _ ?_) | refine hK0 _ _ (Met.intro (hJ0 _ _ ?_))
                (repeat apply Exists.intro)
                refine ⟨?rel, rfl⟩
                case rel => exact ⟨g, rfl, rfl, hgz, f6, r6⟩
            · go_wp2
              refine hK.out _ _ ((fWc2).alloc _) ?_
              clear hK K
              obtain ⟨Wc8, hWc8⟩ : ∃ X, X = Wc2.alloc (.cells #[.bool false, .string ⟨#[]⟩, .int .i64 0] 94) := ⟨_, rfl⟩
              have fWc8 : Ext wr Wc8 := by rw [hWc8]; exact (fWc2).alloc _
              have rWc8 : Wc8.heap[Wc2.heap.size]? = some (.cells #[.bool false, .string ⟨#[]⟩, .int .i64 0] 94 (0, 0)) := by rw [hWc8]; exact heap_alloc_new _ _
              have bWc8 : wr.heap.size ≤ Wc2.heap.size := (fWc2).size
              rw [← hWc8]
              clear hWc8
              generalize Wc2.heap.size = g at rWc8 bWc8 ⊢
              refine wpAnyX_one (j := 11) rfl (by kernel_rfl) rfl fun K hK => ?_
              go_wp2_with fail
              refine (hF2 _ (hE.trans (fWc8))).mono ?_
              rintro e Wc9 ⟨rfl, xWc9⟩
              go_wp2
              have fWc9 : Ext wr Wc9 := (fWc8).trans xWc9
              refine hK.out _ _ (fWc9) ?_
              clear hK K
              have rWc9 := xWc9.heap rWc8
              refine wpAnyX_one (j := 12) rfl (by kernel_rfl) rfl fun K hK => ?_
              go_wp2_with fail
              refine (hSet _).mono ?_
              rintro e Wc10 ⟨rfl, xWc10⟩
              go_wp2
              have fWc10 : Ext wr Wc10 := (fWc9).trans xWc10
              refine hK.out _ _ (fWc10) ?_
              clear hK K
              have rWc10 := xWc10.heap rWc9
              refine wpAnyX_take (i := 13) (v := .tuple #[.agg #[.bool (R.getD (false, ItemM.zero)).1, .string (R.getD (false, ItemM.zero)).2.name, .int .i64 (R.getD (false, ItemM.zero)).2.n], .bool R.isSome]) rfl (by kernel_rfl) (by kernel_rfl) (fun _ _ _ h => h) (.inl ⟨rfl, fun w' hS => by simp [execOp, go_sem]⟩) (fWc10) ?_
              simp only [Act.put, List.getElem_toArray, List.getElem_cons_zero, List.getElem_cons_succ, List.setIfInBounds_toArray, List.set_cons_succ, List.set_cons_zero]
              refine wpAnyX_take (i := 14) (v := .agg #[.bool (R.getD (false, ItemM.zero)).1, .string (R.getD (false, ItemM.zero)).2.name, .int .i64 (R.getD (false, ItemM.zero)).2.n]) rfl (by kernel_rfl) (by kernel_rfl) (fun _ _ _ h => h) (.inl ⟨rfl, fun w' hS => by simp [execOp, go_sem]⟩) (fWc10) ?_
              simp only [Act.put, List.getElem_toArray, List.getElem_cons_zero, List.getElem_cons_succ, List.setIfInBounds_toArray, List.set_cons_succ, List.set_cons_zero]
              refine wpAnyX_take (i := 15) (v := .bool R.isSome) rfl (by kernel_rfl) (by kernel_rfl) (fun _ _ _ h => h) (.inl ⟨rfl, fun w' hS => by simp [execOp, go_sem]⟩) (fWc10) ?_
              simp only [Act.put, List.getElem_toArray, List.getElem_cons_zero, List.getElem_cons_succ, List.setIfInBounds_toArray, List.set_cons_succ, List.set_cons_zero]
              obtain ⟨W6, hW6, r6, hx6⟩ := set3 rWc10 (.bool (R.getD (false, ItemM.zero)).1) (.string (R.getD (false, ItemM.zero)).2.name) (.int .i64 (R.getD (false, ItemM.zero)).2.n)
              have hgz : wr.heap.size ≤ g := by assumption
              have f6 := hx6 wr (fWc10) hgz
              have HW6 := hide hW6
              obtain ⟨u0, u1, u2, uf⟩ := row3 rWc10
              clear hW6 hx6
              refine wpAnyX_one (j := 17) rfl (by kernel_rfl) rfl fun K hK => ?_
              go_wp2
              rw [← unhide HW6]
              refine hK.out _ _ (f6) ?_
              clear hK K
              refine wpAnyX_take (i := 18) (v := .bool R.isSome) rfl (by kernel_rfl) (by kernel_rfl) (fun _ _ _ h => h) (.inl ⟨rfl, fun w' hS => by simp [execOp, go_sem]⟩) (f6) ?_
              simp only [Act.put, List.getElem_toArray, List.getElem_cons_zero, List.getElem_cons_succ, List.setIfInBounds_toArray, List.set_cons_succ, List.set_cons_zero]
              refine wpAnyX_end [] [] rfl (by intro j i hj; simp at hj) (by kernel_rfl) (by intro i hi; simp at hi) fun K hK => ?_
              go_wp2
              refine hK.out _ _ ?_
              clear hK K
              first | refine Met.intro (hJ0 _ _ ?_) | refine hK0 _ _ (Met.intro (hJ0 _ _ ?_))
              (repeat apply Exists.intro)
              refine ⟨?rel, rfl⟩
              case rel => exact ⟨g, rfl, rfl, hgz, f6, r6⟩
          · go_wp2
            refine hK.out _ _ ((fWc1).alloc _) ?_
            clear hK K
            obtain ⟨Wc11, hWc11⟩ : ∃ X, X = Wc1.alloc (.cells #[.bool false, .string ⟨#[]⟩, .int .i64 0] 94) := ⟨_, rfl⟩
            have fWc11 : Ext wr Wc11 := by rw [hWc11]; exact (fWc1).alloc _
            have rWc11 : Wc11.heap[Wc1.heap.size]? = some (.cells #[.bool false, .string ⟨#[]⟩, .int .i64 0] 94 (0, 0)) := by rw [hWc11]; exact heap_alloc_new _ _
            have bWc11 : wr.heap.size ≤ Wc1.heap.size := (fWc1).size
            rw [← hWc11]
            clear hWc11
            generalize Wc1.heap.size = g at rWc11 bWc11 ⊢
            refine wpAnyX_one (j := 7) rfl (by kernel_rfl) rfl fun K hK => ?_
            go_wp2_with fail
            refine (hF1 _ (hE.trans (fWc11))).mono ?_
            rintro e Wc12 ⟨rfl, xWc12⟩
            go_wp2
            have fWc12 : Ext wr Wc12 := (fWc11).trans xWc12
            refine hK.out _ _ (fWc12) ?_
            clear hK K
            have rWc12 := xWc12.heap rWc11
            refine wpAnyX_one (j := 11) rfl (by kernel_rfl) rfl fun K hK => ?_
            go_wp2_with fail
            refine (hF2 _ (hE.trans (fWc12))).mono ?_
            rintro e Wc13 ⟨rfl, xWc13⟩
            go_wp2
            have fWc13 : Ext wr Wc13 := (fWc12).trans xWc13
            refine hK.out _ _ (fWc13) ?_
            clear hK K
            have rWc13 := xWc13.heap rWc12
            refine wpAnyX_one (j := 12) rfl (by kernel_rfl) rfl fun K hK => ?_
            go_wp2_with fail
            refine (hSet _).mono ?_
            rintro e Wc14 ⟨rfl, xWc14⟩
            go_wp2
            have fWc14 : Ext wr Wc14 := (fWc13).trans xWc14
            refine hK.out _ _ (fWc14) ?_
            clear hK K
            have rWc14 := xWc14.heap rWc13
            refine wpAnyX_take (i := 13) (v := .tuple #[.agg #[.bool (R.getD (false, ItemM.zero)).1, .string (R.getD (false, ItemM.zero)).2.name, .int .i64 (R.getD (false, ItemM.zero)).2.n], .bool R.isSome]) rfl (by kernel_rfl) (by kernel_rfl) (fun _ _ _ h => h) (.inl ⟨rfl, fun w' hS => by simp [execOp, go_sem]⟩) (fWc14) ?_
            simp only [Act.put, List.getElem_toArray, List.getElem_cons_zero, List.getElem_cons_succ, List.setIfInBounds_toArray, List.set_cons_succ, List.set_cons_zero]
            refine wpAnyX_take (i := 14) (v := .agg #[.bool (R.getD (false, ItemM.zero)).1, .string (R.getD (false, ItemM.zero)).2.name, .int .i64 (R.getD (false, ItemM.zero)).2.n]) rfl (by kernel_rfl) (by kernel_rfl) (fun _ _ _ h => h) (.inl ⟨rfl, fun w' hS => by simp [execOp, go_sem]⟩) (fWc14) ?_
            simp only [Act.put, List.getElem_toArray, List.getElem_cons_zero, List.getElem_cons_succ, List.setIfInBounds_toArray, List.set_cons_succ, List.set_cons_zero]
            refine wpAnyX_take (i := 15) (v := .bool R.isSome) rfl (by kernel_rfl) (by kernel_rfl) (fun _ _ _ h => h) (.inl ⟨rfl, fun w' hS => by simp [execOp, go_sem]⟩) (fWc14) ?_
            simp only [Act.put, List.getElem_toArray, List.getElem_cons_zero, List.getElem_cons_succ, List.setIfInBounds_toArray, List.set_cons_succ, List.set_cons_zero]
            obtain ⟨W6, hW6, r6, hx6⟩ := set3 rWc14 (.bool (R.getD (false, ItemM.zero)).1) (.string (R.getD (false, ItemM.zero)).2.name) (.int .i64 (R.getD (false, ItemM.zero)).2.n)
            have hgz : wr.heap.size ≤ g := by assumption
            have f6 := hx6 wr (fWc14) hgz
            have HW6 := hide hW6
            obtain ⟨u0, u1, u2, uf⟩ := row3 rWc14
            clear hW6 hx6
            refine wpAnyX_one (j := 17) rfl (by kernel_rfl) rfl fun K hK => ?_
            go_wp2
            rw [← unhide HW6]
            refine hK.out _ _ (f6) ?_
            clear hK K
            refine wpAnyX_take (i := 18) (v := .bool R.isSome) rfl (by kernel_rfl) (by kernel_rfl) (fun _ _ _ h => h) (.inl ⟨rfl, fun w' hS => by simp [execOp, go_sem]⟩) (f6) ?_
            simp only [Act.put, List.getElem_toArray, List.getElem_cons_zero, List.getElem_cons_succ, List.setIfInBounds_toArray, List.set_cons_succ, List.set_cons_zero]
            refine wpAnyX_end [] [] rfl (by intro j i hj; simp at hj) (by kernel_rfl) (by intro i hi; simp at hi) fun K hK => ?_
            go_wp2
            refine hK.out _ _ ?_
            clear hK K
            first | refine Met.intro (hJ0 _ _ ?_) | refine hK0 _ _ (Met.intro (hJ0 _ _ ?_))
            (repeat apply Exists.intro)
            refine ⟨?rel, rfl⟩
            case rel => exact ⟨g, rfl, rfl, hgz, f6, r6⟩
        · go_wp2
          refine hK.out _ _ ((hS0).alloc _) ?_
          clear hK K
          obtain ⟨Wc15, hWc15⟩ : ∃ X, X = Wd.alloc (.cells #[.bool false, .string ⟨#[]⟩, .int .i64 0] 94) := ⟨_, rfl⟩
          have fWc15 : Ext wr Wc15 := by rw [hWc15]; exact (hS0).alloc _
          have rWc15 : Wc15.heap[Wd.heap.size]? = some (.cells #[.bool false, .string ⟨#[]⟩, .int .i64 0] 94 (0, 0)) := by rw [hWc15]; exact heap_alloc_new _ _
          have bWc15 : wr.heap.size ≤ Wd.heap.size := (hS0).size
          rw [← hWc15]
          clear hWc15
          generalize Wd.heap.size = g at rWc15 bWc15 ⊢
          refine wpAnyX_one (j := 3) rfl (by kernel_rfl) rfl fun K hK => ?_
          go_wp2_with fail
          refine (hF0 _ (hE.trans (fWc15))).mono ?_
          rintro e Wc16 ⟨rfl, xWc16⟩
          go_wp2
          have fWc16 : Ext wr Wc16 := (fWc15).trans xWc16
          refine hK.out _ _ (fWc16) ?_
          clear hK K
          have rWc16 := xWc16.heap rWc15
          refine wpAnyX_one (j := 7) rfl (by kernel_rfl) rfl fun K hK => ?_
          go_wp2_with fail
          refine (hF1 _ (hE.trans (fWc16))).mono ?_
          rintro e Wc17 ⟨rfl, xWc17⟩
          go_wp2
          have fWc17 : Ext wr Wc17 := (fWc16).trans xWc17
          refine hK.out _ _ (fWc17) ?_
          clear hK K
          have rWc17 := xWc17.heap rWc16
          refine wpAnyX_one (j := 11) rfl (by kernel_rfl) rfl fun K hK => ?_
          go_wp2_with fail
          refine (hF2 _ (hE.trans (fWc17))).mono ?_
          rintro e Wc18 ⟨rfl, xWc18⟩
          go_wp2
          have fWc18 : Ext wr Wc18 := (fWc17).trans xWc18
          refine hK.out _ _ (fWc18) ?_
          clear hK K
          have rWc18 := xWc18.heap rWc17
          refine wpAnyX_one (j := 12) rfl (by kernel_rfl) rfl fun K hK => ?_
          go_wp2_with fail
          refine (hSet _).mono ?_
          rintro e Wc19 ⟨rfl, xWc19⟩
          go_wp2
          have fWc19 : Ext wr Wc19 := (fWc18).trans xWc19
          refine hK.out _ _ (fWc19) ?_
          clear hK K
          have rWc19 := xWc19.heap rWc18
          refine wpAnyX_take (i := 13) (v := .tuple #[.agg #[.bool (R.getD (false, ItemM.zero)).1, .string (R.getD (false, ItemM.zero)).2.name, .int .i64 (R.getD (false, ItemM.zero)).2.n], .bool R.isSome]) rfl (by kernel_rfl) (by kernel_rfl) (fun _ _ _ h => h) (.inl ⟨rfl, fun w' hS => by simp [execOp, go_sem]⟩) (fWc19) ?_
          simp only [Act.put, List.getElem_toArray, List.getElem_cons_zero, List.getElem_cons_succ, List.setIfInBounds_toArray, List.set_cons_succ, List.set_cons_zero]
          refine wpAnyX_take (i := 14) (v := .agg #[.bool (R.getD (false, ItemM.zero)).1, .string (R.getD (false, ItemM.zero)).2.name, .int .i64 (R.getD (false, ItemM.zero)).2.n]) rfl (by kernel_rfl) (by kernel_rfl) (fun _ _ _ h => h) (.inl ⟨rfl, fun w' hS => by simp [execOp, go_sem]⟩) (fWc19) ?_
          simp only [Act.put, List.getElem_toArray, List.getElem_cons_zero, List.getElem_cons_succ, List.setIfInBounds_toArray, List.set_cons_succ, List.set_cons_zero]
          refine wpAnyX_take (i := 15) (v := .bool R.isSome) rfl (by kernel_rfl) (by kernel_rfl) (fun _ _ _ h => h) (.inl ⟨rfl, fun w' hS => by simp [execOp, go_sem]⟩) (fWc19) ?_
          simp only [Act.put, List.getElem_toArray, List.getElem_cons_zero, List.getElem_cons_succ, List.setIfInBounds_toArray, List.set_cons_succ, List.set_cons_zero]
          obtain ⟨W6, hW6, r6, hx6⟩ := set3 rWc19 (.bool (R.getD (false, ItemM.zero)).1) (.string (R.getD (false, ItemM.zero)).2.name) (.int .i64 (R.getD (false, ItemM.zero)).2.n)
          have hgz : wr.heap.size ≤ g := by assumption
          have f6 := hx6 wr (fWc19) hgz
          have HW6 := hide hW6
          obtain ⟨u0, u1, u2, uf⟩ := row3 rWc19
          clear hW6 hx6
          refine wpAnyX_one (j := 17) rfl (by kernel_rfl) rfl fun K hK => ?_
          go_wp2
          rw [← unhide HW6]
          refine hK.out _ _ (f6) ?_
          clear hK K
          refine wpAnyX_take (i := 18) (v := .bool R.isSome) rfl (by kernel_rfl) (by kernel_rfl) (fun _ _ _ h => h) (.inl ⟨rfl, fun w' hS => by simp [execOp, go_sem]⟩) (f6) ?_
          simp only [Act.put, List.getElem_toArray, List.getElem_cons_zero, List.getElem_cons_succ, List.setIfInBounds_toArray, List.set_cons_succ, List.set_cons_zero]
          refine wpAnyX_end [] [] rfl (by intro j i hj; simp at hj) (by kernel_rfl) (by intro i hi; simp at hi) fun K hK => ?_
          go_wp2
          refine hK.out _ _ ?_
          clear hK K
          first | refine Met.intro (hJ0 _ _ ?_) | refine hK0 _ _ (Met.intro (hJ0 _ _ ?_))
          (repeat apply Exists.intro)
          refine ⟨?rel, rfl⟩
          case rel => exact ⟨g, rfl, rfl, hgz, f6, r6⟩
      case rest =>
      obtain ⟨g, rfl, rfl, hg, hx6, r6⟩ := hcut
      rename World => W6
      have hE6 := hE.trans hx6
      have rB6 := hx6.heap rB
      have q0 := hx6.cell q0
      have q1 := hx6.cell q1
      have q2 := hx6.cell q2
      have q3 := hx6.cell q3
      have q4 := hx6.cell q4
      have q5 := hx6.cell q5
      have q6 := hx6.cell q6
      have q7 := hx6.cell q7
      have q8 := hx6.cell q8
      have q9 := hx6.cell q9
      have q10 := hx6.cell q10
      have q11 := hx6.cell q11
      have q12 := hx6.cell q12
      have q13 := hx6.cell q13
      have q14 := hx6.cell q14
      have q15 := hx6.cell q15
      have hbw6 : base ≤ W6.heap.size := Nat.le_trans hbw hx6.size
      have hrow6 := hx6.heap hrow
      have hit6 := owns_ext hit hx6
      have hfl6 := owns_ext hfl hx6
      have hli := fun b e => (hit.lt b e).2
      have hfr6 := hfr.trans (Fr.of_ext hx6 hbw)
      obtain ⟨z0, z1, z2, zf⟩ := row3 r6
      obtain ⟨a0, a1, a2, a3, a4, a5⟩ := row5 hrow6
      have hhb : h < base := by omega
      clear hF0 hF1 hF2 hSet hfl hit hfr hE rB zf hic hrow
      cases hkp : itKept s id
      case none =>
        have hR : R = none := by rw [unhide HR, hkp]; rfl
        subst hR
        rw [hkp] at e1 e2
        have E1 : Hid (itemFlawsOf s (nums.take (k + 1)) = fls ++ [id]) := by unfold Hid; rw [unhide e1]; simp
        have E2 : Hid (itemsOf s (nums.take (k + 1)) = its) := by unfold Hid; rw [unhide e2]; simp
        clear HR hkp e1 e2
        go_wp2_with fail
        refine (flaw_any nm _ _ _ _ _ _ _ _ _ _ _ _ _ _ _ id W6 rfl).mono ?_
        rintro e W7 ⟨rfl, hx7⟩
        have hfl7 := owns_ext hfl6 hx7
        have hbw7 : base ≤ W7.heap.size := Nat.le_trans hbw6 hx7.size
        go_wp2_with (at_builtin; refine wpList_app1 _ _ 25 32 (.agg #[.string ⟨#[]⟩, .int .i64 0, .int .i64 0]) 3 32 Tryd.underlying25 info32 rfl (by decide) (by decide) rfl rfl base _ fls.length _ rfl (hfl7.alloc _) W7.heap.size 1 [.string nm, .int .i64 id, .int .i64 0] rfl rfl ?c1 ?c2 ?c3 ?c4 ?_)
        case c1 => exact range_of_new3 _ _ _ _ _ (by simp)
        case c2 => exact one_flaw nm id
        case c3 => omega
        case c4 => first | omega | (simp; omega)
        intro v8 W8 ho8 hg8
        have ho8' : W8.ownsRow base 32 3 v8 (fls ++ [id]).length ((fls ++ [id]).flatMap (flawC nm)) := by
          rw [List.length_append, List.length_singleton, List.flatMap_append]
          simpa [flawC] using ho8
        obtain ⟨fl', hfl', _⟩ := sliceAt_of_owns (flawC nm) (fun _ => rfl) ho8' rfl
        rw [hfl'] at ho8' ⊢
        have hx78 : Ext W6 (W7.alloc (.cells #[.string nm, .int .i64 id, .int .i64 0] 32)) := hx7.trans ((Ext.refl W7).alloc _)
        have hrow8 : W8.heap[h]? = some (.cells #[.string tn, .bool en, .slice sf.a sf.len sf.cap, .slice sg.a sg.len sg.cap, .slice si.a si.len si.cap] 46 (0, 0)) := by
          have h0 := hx78.heap hrow6
          rw [hg8.block h (lt_of_heap h0) (fun e => by have := (hfl7.lt h e.symm).1; omega)]; exact h0
        have hi8 := (owns_ext hit6 hx78).kept hg8 (owns_apart hit6 hfl6 (by decide))
        have hfr8 := hfr6.trans ((Fr.of_ext hx78 hbw6).trans (Fr.owned hg8 (hfl7.alloc _) (by simp; omega)))
        clear hfl' ho8 hg8
        go_wp2
        exact ⟨⟨k + 1, fl', si, by omega, by go_num, rfl, by rw [unhide E1]; exact ho8', hrow8, by rw [unhide E2]; exact hi8, hfr8⟩, by simp [intOf]; omega⟩
      case some o =>
        cases o with
        | none =>
          have hR : R = some (false, ItemM.zero) := by rw [unhide HR, hkp]; rfl
          subst hR
          rw [hkp] at e1 e2
          have E1 : Hid (itemFlawsOf s (nums.take (k + 1)) = fls) := by unfold Hid; rw [unhide e1]; simp
          have E2 : Hid (itemsOf s (nums.take (k + 1)) = its) := by unfold Hid; rw [unhide e2]; simp
          have z0 : W6.cell? ⟨g, 0, none⟩ = some (.bool false) := z0
          clear HR hkp e1 e2
          go_wp2
          exact ⟨⟨k + 1, flv, si, by omega, by go_num, rfl, by rw [unhide E1]; exact hfl6, hrow6, by rw [unhide E2]; exact hit6, hfr6⟩, by simp [intOf]; omega⟩
        | some f =>
          have hR : R = some (true, f) := by rw [unhide HR, hkp]; rfl
          subst hR
          rw [hkp] at e1 e2
          have E1 : Hid (itemFlawsOf s (nums.take (k + 1)) = fls) := by unfold Hid; rw [unhide e1]; simp
          have E2 : Hid (itemsOf s (nums.take (k + 1)) = its ++ [f]) := by unfold Hid; rw [unhide e2]; simp
          have z0 : W6.cell? ⟨g, 0, none⟩ = some (.bool true) := z0
          have z1 : W6.cell? ⟨g, 1, none⟩ = some (.string f.name) := z1
          have z2 : W6.cell? ⟨g, 2, none⟩ = some (.int .i64 f.n) := z2
          clear HR hkp e1 e2
          go_wp2_with fail
          refine wp_region_X (fun w' => w'.cell? ⟨h, 4, none⟩ = some (.slice si.a si.len si.cap) ∧ w'.cell? ⟨g, 1, none⟩ = some (.string f.name) ∧ w'.cell? ⟨g, 2, none⟩ = some (.int .i64 f.n)) (fun j => decide (9 ≤ j)) (by kernel_rfl) ?_
          obtain ⟨Wd, hWd⟩ : ∃ Wd, Wd = W6.drew := ⟨_, rfl⟩
          have xd : Ext W6 Wd := by rw [hWd]; exact (Ext.refl W6).drew
          rw [← hWd]
          clear hWd
          have hS0 : Wd.cell? ⟨h, 4, none⟩ = some (.slice si.a si.len si.cap) ∧ Wd.cell? ⟨g, 1, none⟩ = some (.string f.name) ∧ Wd.cell? ⟨g, 2, none⟩ = some (.int .i64 f.n) := ⟨xd.cell a4, xd.cell z1, xd.cell z2⟩
          refine wpAnyX_take (i := 0) (v := .pointer (some ⟨h, 0, none⟩)) rfl (by kernel_rfl) (by kernel_rfl) (fun _ _ _ h => h) (.inl ⟨rfl, fun w' hS => by simp [execOp, go_sem]⟩) (hS0) ?_
          simp only [Act.put, List.getElem_toArray, List.getElem_cons_zero, List.getElem_cons_succ, List.setIfInBounds_toArray, List.set_cons_succ, List.set_cons_zero]
          refine wpAnyX_take (i := 1) (v := .pointer (some ⟨h, 0, none⟩)) rfl (by kernel_rfl) (by kernel_rfl) (fun _ _ _ h => h) (.inl ⟨rfl, fun w' hS => by simp [execOp, go_sem]⟩) (hS0) ?_
          simp only [Act.put, List.getElem_toArray, List.getElem_cons_zero, List.getElem_cons_succ, List.setIfInBounds_toArray, List.set_cons_succ, List.set_cons_zero]
          refine wpAnyX_take (i := 2) (v := .pointer (some ⟨h, 0, none⟩)) rfl (by kernel_rfl) (by kernel_rfl) (fun _ _ _ h => h) (.inl ⟨rfl, fun w' hS => by simp [execOp, go_sem]⟩) (hS0) ?_
          simp only [Act.put, List.getElem_toArray, List.getElem_cons_zero, List.getElem_cons_succ, List.setIfInBounds_toArray, List.set_cons_succ, List.set_cons_zero]
          refine wpAnyX_take (i := 3) (v := .pointer (some ⟨h, 4, none⟩)) rfl (by kernel_rfl) (by kernel_rfl) (fun _ _ _ h => h) (.inl ⟨rfl, fun w' hS => by simp [execOp, go_sem]⟩) (hS0) ?_
          simp only [Act.put, List.getElem_toArray, List.getElem_cons_zero, List.getElem_cons_succ, List.setIfInBounds_toArray, List.set_cons_succ, List.set_cons_zero]
          refine wpAnyX_take (i := 4) (v := .slice si.a si.len si.cap) rfl (by kernel_rfl) (by kernel_rfl) (fun _ _ _ h => h) (.inl ⟨rfl, fun w' hS => by simp [execOp, go_sem, hS.1]⟩) (hS0) ?_
          simp only [Act.put, List.getElem_toArray, List.getElem_cons_zero, List.getElem_cons_succ, List.setIfInBounds_toArray, List.set_cons_succ, List.set_cons_zero]
          refine wpAnyX_take (i := 5) (v := .pointer (some ⟨g, 1, none⟩)) rfl (by kernel_rfl) (by kernel_rfl) (fun _ _ _ h => h) (.inl ⟨rfl, fun w' hS => by simp [execOp, go_sem]⟩) (hS0) ?_
          simp only [Act.put, List.getElem_toArray, List.getElem_cons_zero, List.getElem_cons_succ, List.setIfInBounds_toArray, List.set_cons_succ, List.set_cons_zero]
          refine wpAnyX_take (i := 6) (v := .agg #[.string f.name, .int .i64 f.n]) rfl (by kernel_rfl) (by kernel_rfl) (fun _ _ _ h => h) (.inl ⟨rfl, fun w' hS => by simp [execOp, go_sem, hS.2.1, hS.2.2]⟩) (hS0) ?_
          simp only [Act.put, List.getElem_toArray, List.getElem_cons_zero, List.getElem_cons_succ, List.setIfInBounds_toArray, List.set_cons_succ, List.set_cons_zero]
          refine wpAnyX_one (j := 7) rfl (by kernel_rfl) rfl fun K hK => ?_
          have x7 : Ext W6 (Wd.alloc (.cells #[.string f.name, .int .i64 f.n] 73)) := xd.trans ((Ext.refl Wd).alloc _)
          go_wp2
          refine hK.out _ _ (⟨x7.cell a4, x7.cell z1, x7.cell z2⟩) ?_
          clear hK K
          refine wpAnyX_one (j := 8) rfl (by kernel_rfl) rfl fun K hK => ?_
          have hfd := owns_ext hit6 xd
          refine wpList_app1 _ _ 44 73 (.agg #[.string ⟨#[]⟩, .int .i64 0]) 2 24 Tryd.underlying44 info73 rfl (by decide) (by decide) rfl rfl base _ its.length _ rfl (hfd.alloc _) Wd.heap.size 1 f.cells rfl rfl ?c1 ?c2 ?c3 ?c4 ?_
          case c1 => exact range_of_new2 _ _ _ _ (by simp)
          case c2 => exact one_item f
          case c3 => omega
          case c4 => have := xd.size; simp; omega
          intro v8 W8 ho8 hg8
          have ho8' : W8.ownsRow base 73 2 v8 (its ++ [f]).length ((its ++ [f]).flatMap ItemM.cells) := by
            rw [List.length_append, List.length_singleton, List.flatMap_append]
            simpa using ho8
          obtain ⟨si', hsi', _⟩ := sliceAt_of_owns ItemM.cells (fun _ => rfl) ho8' rfl
          rw [hsi'] at ho8' ⊢
          have hrow8 : W8.heap[h]? = some (.cells #[.string tn, .bool en, .slice sf.a sf.len sf.cap, .slice sg.a sg.len sg.cap, .slice si.a si.len si.cap] 46 (0, 0)) := by
            have h0 := x7.heap hrow6
            rw [hg8.block h (lt_of_heap h0) (fun e => by have := (hit6.lt h e.symm).1; omega)]; exact h0
          have hgk : ∀ j v, W6.cell? ⟨g, j, none⟩ = some v → W8.cell? ⟨g, j, none⟩ = some v := fun j v hv => by
            have h0 := x7.cell hv
            rw [World.cell?_of_block (w := Wd.alloc (.cells #[.string f.name, .int .i64 f.n] 73)) (hg8.block g (World.block_lt_of_cell? _ _ h0) (fun e => by have := hli g e.symm; omega))]; exact h0
          have hl8 := (owns_ext hfl6 x7).kept hg8 (owns_apart hfl6 hit6 (by decide))
          have hfr8 := hfr6.trans ((Fr.of_ext x7 hbw6).trans (Fr.owned hg8 (hfd.alloc _) (by have := xd.size; simp; omega)))
          have zs1 := hgk 1 _ z1
          have zs2 := hgk 2 _ z2
          clear hsi' ho8 hfd hg8 hrow6 a0 a1 a2 a3 a4 a5 hgk
          obtain ⟨a0, a1, a2, a3, a4, a5⟩ := row5 hrow8
          go_wp2
          refine hK.out _ _ ⟨a4, zs1, zs2⟩ ?_
          clear hK K
          refine wpAnyX_end [9, 10, 11] [_, _, _] rfl (by intro j i hj; match j, hj with | 0, hj => cases hj; rfl | 1, hj => cases hj; rfl | 2, hj => cases hj; rfl) (by kernel_rfl) (by intro i hi; cases hi; rfl) fun K hK => ?_
          go_wp2
          refine hK.out _ _ ?_
          clear hK K
          have hrow9 := heap_setCell_same W8 h 4 _ 46 (.slice si'.a si'.len si'.cap) hrow8
          have hi9 := ownsRow_setCell_below (a := ⟨h, 4, none⟩) ho8' hhb (.slice si'.a si'.len si'.cap)
          have hl9 := ownsRow_setCell_below (a := ⟨h, 4, none⟩) hl8 hhb (.slice si'.a si'.len si'.cap)
          have hfr9 := hfr8.trans (Fr.set (base := base) (g := h) W8 4 (.slice si'.a si'.len si'.cap))
          clear ho8' hrow8
          go_wp2
          exact ⟨⟨k + 1, flv, si', by omega, by go_num, rfl, by rw [unhide E1]; exact hl9, hrow9, by rw [unhide E2]; exact hi9, hfr9⟩, by simp [intOf]; omega⟩
    · have hkn : k = nums.length := by omega
      subst hkn
      rw [List.take_length] at hfl hit
      go_wp2
      go_ret
      have hxx := hxW.trans hxN
      exact ⟨flv, si, rfl, owns_base hfl (by omega), hrow, owns_base hit (by omega), ⟨hfr.os.trans hxx.os, hfr.tape.trans hxx.tape, hfr.output.trans hxx.output, Nat.le_trans hxx.size hfr.size, fun i h1 h2 h3 => (hfr.block i (by omega) h2 h3).trans (Below.block hxx i h1)⟩⟩
end Go.Proofs.YtblkgaoafejefaaDoor
