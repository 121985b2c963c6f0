import Derived.Test.YtmdpdgldmedebaaGreatDoorM33
namespace Go.Proofs.YtmdpdgldmedebaaGreatDoor
set_option linter.unusedSimpArgs false
set_option linter.unusedVariables false
set_option linter.unusedSimpArgs false
set_option linter.unusedVariables false
open Go.RowKit

set_option maxHeartbeats 3200000 in
set_option maxRecDepth 10000 in
theorem copyBook_own (s : SV) (ts : BookM) (hn : ts.Small) (w : World) (hs : BookAt w s ts) :
    Calls Tryz.prog 6 #[.agg #[.slice s.a s.len s.cap]] w fun e w' => ∃ (sv : SV) (tvs : List TV), e = .returned (.agg #[.slice sv.a sv.len sv.cap]) ∧ BkOwn w' (w.heap.size + 3) sv tvs ts ∧ Ext w w' := by
  have hlen := hn.1
  obtain ⟨a, n, cap⟩ := s
  have hl := hs.1
  simp only at hl
  subst hl
  have Hs := hide hs
  have Hn := hide hn
  clear hs hn
  show Calls Tryz.prog 6 #[.agg #[.slice a ts.length cap]] w _
  have hx0 : Ext w (((w.alloc (.cells #[.slice a ts.length cap] 24)).alloc (.cells #[.slice none 0 0] 24)).alloc (.cells #[.slice none 0 0] 24)) := (((Ext.refl w).alloc _).alloc _).alloc _
  go_enter Tryz.func6, Tryz.ntmps6
  go_wp2
  go_loopw [9] (fun i wr => ∃ (k : Nat) (sv : SV) (tvs : List TV), k ≤ ts.length ∧ i = .int .i64 k ∧ wr.heap[w.heap.size + 1]? = some (.cells #[.slice none 0 0] 24 (0, 0)) ∧ wr.heap[w.heap.size + 2]? = some (.cells #[.slice sv.a sv.len sv.cap] 24 (0, 0)) ∧ BkOwn wr (w.heap.size + 3) sv tvs (ts.take k) ∧ Ext w wr) (fun i _ => ts.length - (intOf i).toNat)
  case atStart => exact ⟨0, ⟨none, 0, 0⟩, [], by omega, rfl, ((Ext.refl _).alloc _).heap (heap_alloc2_new _ _ _), by have := heap_alloc_new ((w.alloc (.cells #[.slice a ts.length cap] 24)).alloc (.cells #[.slice none 0 0] 24)) (.cells #[.slice none 0 0] 24); simpa using this, ⟨World.ownsRow_nil _ _ _ _, rfl, fun i tv t h => by simp at h, fun i j tv tv' _ h => by simp at h⟩, hx0⟩
  case round =>
    obtain ⟨k, sv, tvs, hk, rfl, hA, hB, hbk, hx⟩ := hrel
    have cB : wr.cell? ⟨w.heap.size + 2, 0, none⟩ = some (.slice sv.a sv.len sv.cap) := cell_of_row _ _ 0 _ _ _ hB
    have cA : wr.cell? ⟨w.heap.size + 1, 0, none⟩ = some (.slice none 0 0) := cell_of_row _ _ 0 _ _ _ hA
    have fA : wr.frozen? ⟨w.heap.size + 1, 0, none⟩ = false := frozen_of_row _ _ 0 _ _ hA
    have hzB : w.heap.size + 2 < wr.heap.size := lt_of_heap hB
    by_cases hlt : k < ts.length
    · obtain ⟨b, o, cs, ea, hr, tv, rfl, htv⟩ := (unhide Hs).2 k ts[k] (by simp [hlt])
      simp only at ea
      subst ea
      obtain ⟨c0, c1, c2, c3, c4⟩ := range5 (hx.range hr)
      have hsm := (unhide Hn).2 ts[k] (List.getElem_mem hlt)
      have Htk : Hid (ts.take (k + 1) = ts.take k ++ [ts[k]]) := List.take_succ_eq_append_getElem hlt
      have hcl : tvs.length < 1048576 := by have := hbk.len; simp at this; omega
      generalize ts[k] = t at *
      obtain ⟨nm, en, fs, gs, is⟩ := tv
      have enm := htv.name
      have een := htv.enum
      have hfs := htv.fields
      have hgs := htv.gone
      have his := htv.items
      have fok := htv.fok
      have gok := htv.gok
      have iok := htv.iok
      simp only at enm een hfs hgs his fok gok iok c0 c1 c2 c3 c4
      have Henm := hide enm
      have Heen := hide een
      have Hbk := hide hbk
      clear htv hr enm een hbk
      have hW := heap_alloc_new wr (.cells #[.string nm, .bool en, .slice fs.a fs.len fs.cap, .slice gs.a gs.len gs.cap, .slice is.a is.len is.cap] 50)
      obtain ⟨W, hWd⟩ : ∃ W, W = wr.alloc (.cells #[.string nm, .bool en, .slice fs.a fs.len fs.cap, .slice gs.a gs.len gs.cap, .slice is.a is.len is.cap] 50) := ⟨_, rfl⟩
      have hxW : Ext wr W := by rw [hWd]; exact (Ext.refl wr).alloc _
      have hzW : W.heap.size = wr.heap.size + 1 := by rw [hWd]; simp
      rw [← hWd] at hW
      have HWd := hide hWd
      clear hWd
      go_wp2
      rw [← unhide HWd]
      obtain ⟨e0, e1, e2, e3, e4, ef⟩ := row5 hW
      have hS0 : Ext W W.drew := (Ext.refl W).drew
      refine wp_region_X (fun w' => Ext W w') (fun j => decide (10 ≤ j)) (by kernel_rfl) ?_
      refine wpAnyX_take (i := 0) (v := .pointer (some ⟨wr.heap.size, 2, none⟩)) rfl (by kernel_rfl) (by kernel_rfl) (fun _ _ _ h => h) (.inl ⟨rfl, fun w' hS => by simp [execOp, go_sem]⟩) hS0 ?_
      simp only [Act.put, List.getElem_toArray, List.getElem_cons_zero, List.getElem_cons_succ, List.setIfInBounds_toArray, List.set_cons_succ, List.set_cons_zero]
      refine wpAnyX_take (i := 1) (v := .slice fs.a fs.len fs.cap) rfl (by kernel_rfl) (by kernel_rfl) (fun _ _ _ h => h) (.inl ⟨rfl, fun w' hS => by simp [execOp, go_sem, hS.cell e2]⟩) hS0 ?_
      simp only [Act.put, List.getElem_toArray, List.getElem_cons_zero, List.getElem_cons_succ, List.setIfInBounds_toArray, List.set_cons_succ, List.set_cons_zero]
      refine wpAnyX_take (i := 3) (v := .pointer (some ⟨wr.heap.size, 3, none⟩)) rfl (by kernel_rfl) (by kernel_rfl) (fun _ _ _ h => h) (.inl ⟨rfl, fun w' hS => by simp [execOp, go_sem]⟩) hS0 ?_
      simp only [Act.put, List.getElem_toArray, List.getElem_cons_zero, List.getElem_cons_succ, List.setIfInBounds_toArray, List.set_cons_succ, List.set_cons_zero]
      refine wpAnyX_take (i := 4) (v := .slice gs.a gs.len gs.cap) rfl (by kernel_rfl) (by kernel_rfl) (fun _ _ _ h => h) (.inl ⟨rfl, fun w' hS => by simp [execOp, go_sem, hS.cell e3]⟩) hS0 ?_
      simp only [Act.put, List.getElem_toArray, List.getElem_cons_zero, List.getElem_cons_succ, List.setIfInBounds_toArray, List.set_cons_succ, List.set_cons_zero]
      refine wpAnyX_take (i := 6) (v := .pointer (some ⟨wr.heap.size, 4, none⟩)) rfl (by kernel_rfl) (by kernel_rfl) (fun _ _ _ h => h) (.inl ⟨rfl, fun w' hS => by simp [execOp, go_sem]⟩) hS0 ?_
      simp only [Act.put, List.getElem_toArray, List.getElem_cons_zero, List.getElem_cons_succ, List.setIfInBounds_toArray, List.set_cons_succ, List.set_cons_zero]
      refine wpAnyX_take (i := 7) (v := .slice is.a is.len is.cap) rfl (by kernel_rfl) (by kernel_rfl) (fun _ _ _ h => h) (.inl ⟨rfl, fun w' hS => by simp [execOp, go_sem, hS.cell e4]⟩) hS0 ?_
      simp only [Act.put, List.getElem_toArray, List.getElem_cons_zero, List.getElem_cons_succ, List.setIfInBounds_toArray, List.set_cons_succ, List.set_cons_zero]
      refine wpAnyX_one (j := 2) rfl (by kernel_rfl) rfl fun K hK => ?_
      refine wpList_appAll _ _ 47 56 (.agg #[.int .i64 0, .string ⟨#[]⟩, .string ⟨#[]⟩, .int .i64 0, .int .i64 0]) 5 56 rfl rfl Tryz.underlying47 info34 rfl (by decide) (by decide) FieldM.cells (fun _ => rfl) one_field W.heap.size (.slice none 0 0) [] ?d1 ?d2 ?d3 fs t.fields ?d4 fok ?d5 ?d6 ?_
      case d1 => exact World.ownsRow_nil _ _ _ _
      case d2 => exact hS0.size
      case d3 => rfl
      case d4 => exact hfs.ext (hx.trans (hxW.trans hS0))
      case d5 => rfl
      case d6 => simpa using hsm.fields
      intro fs' w1 of1 gf1
      rw [List.nil_append] at of1
      have hE1 : Ext W w1 := hS0.grown gf1 (fun k h => by cases h)
      clear gf1
      go_wp2
      refine hK.out _ _ hE1 ?_
      clear hK K
      refine wpAnyX_take (i := 9) (v := .pointer (some ⟨wr.heap.size, 2, none⟩)) rfl (by kernel_rfl) (by kernel_rfl) (fun _ _ _ h => h) (.inl ⟨rfl, fun w' hS => by simp [execOp, go_sem]⟩) hE1 ?_
      simp only [Act.put, List.getElem_toArray, List.getElem_cons_zero, List.getElem_cons_succ, List.setIfInBounds_toArray, List.set_cons_succ, List.set_cons_zero]
      refine wpAnyX_one (j := 5) rfl (by kernel_rfl) rfl fun K hK => ?_
      refine wpList_appAll _ _ 25 3 (.int .i64 0) 1 8 rfl rfl Tryz.underlying25 info3 rfl (by decide) (by decide) encI (fun _ => rfl) one_int W.heap.size (.slice none 0 0) [] ?d1 ?d2 ?d3 gs t.gone ?d4 gok ?d5 ?d6 ?_
      case d1 => exact World.ownsRow_nil _ _ _ _
      case d2 => exact hE1.size
      case d3 => rfl
      case d4 => exact hgs.ext ((hx.trans hxW).trans hE1)
      case d5 => rfl
      case d6 => simpa using hsm.gone
      intro gs' w2 og2 gg2
      rw [List.nil_append] at og2
      have hE12 : Ext w1 w2 := (Ext.refl w1).grown gg2 (fun k h => by cases h)
      have hE2 := hE1.trans hE12
      clear gg2
      go_wp2
      refine hK.out _ _ hE2 ?_
      clear hK K
      refine wpAnyX_one (j := 8) rfl (by kernel_rfl) rfl fun K hK => ?_
      refine wpList_appAll _ _ 48 71 (.agg #[.string ⟨#[]⟩, .int .i64 0]) 2 24 rfl rfl Tryz.underlying48 info55 rfl (by decide) (by decide) ItemM.cells (fun _ => rfl) one_item W.heap.size (.slice none 0 0) [] ?d1 ?d2 ?d3 is t.items ?d4 iok ?d5 ?d6 ?_
      case d1 => exact World.ownsRow_nil _ _ _ _
      case d2 => exact hE2.size
      case d3 => rfl
      case d4 => exact his.ext ((hx.trans hxW).trans hE2)
      case d5 => rfl
      case d6 => simpa using hsm.items
      intro is' w3 oi3 gi3
      rw [List.nil_append] at oi3
      have hE23 : Ext w2 w3 := (Ext.refl w2).grown gi3 (fun k h => by cases h)
      have hE3 := hE2.trans hE23
      have hnew : TyRows w3 W.heap.size ⟨nm, en, fs', gs', is'⟩ t := ⟨unhide Henm, unhide Heen, owns_ext of1 (hE12.trans hE23), owns_ext og2 hE23, oi3⟩
      have Hnew := hide hnew
      have hW3 := hE3.heap hW
      obtain ⟨_, _, z2, z3, z4, zf⟩ := row5 hW3
      have hz3 : wr.heap.size < w3.heap.size := lt_of_heap hW3
      clear gi3 hnew of1 og2 oi3
      go_wp2
      refine hK.out _ _ hE3 ?_
      clear hK K
      refine wpAnyX_end [10, 11, 12, 13, 14] [_, _, _, _, _] rfl (by intro j i hj; match j, hj with | 0, hj => cases hj; rfl | 1, hj => cases hj; rfl | 2, hj => cases hj; rfl | 3, hj => cases hj; rfl | 4, hj => cases hj; rfl) (by kernel_rfl) (by intro i hi; cases hi; rfl) fun K hK => ?_
      go_wp2
      refine hK.out _ _ ?_
      clear hK K
      have h4a := heap_setCell_same w3 wr.heap.size 2 _ 50 (.slice fs'.a fs'.len fs'.cap) hW3
      have h4b := heap_setCell_same _ wr.heap.size 3 _ 50 (.slice gs'.a gs'.len gs'.cap) h4a
      have h4c := heap_setCell_same _ wr.heap.size 4 _ 50 (.slice is'.a is'.len is'.cap) h4b
      simp only [List.setIfInBounds_toArray, List.set_cons_succ, List.set_cons_zero] at h4c
      have hx4 : Ext wr (((w3.setCell ⟨wr.heap.size, 2, none⟩ (.slice fs'.a fs'.len fs'.cap)).setCell ⟨wr.heap.size, 3, none⟩ (.slice gs'.a gs'.len gs'.cap)).setCell ⟨wr.heap.size, 4, none⟩ (.slice is'.a is'.len is'.cap)) :=
        (((hxW.trans hE3).setCell (Nat.le_refl _) _).setCell (Nat.le_refl _) _).setCell (Nat.le_refl _) _
      have hn4 : TyRows (((w3.setCell ⟨wr.heap.size, 2, none⟩ (.slice fs'.a fs'.len fs'.cap)).setCell ⟨wr.heap.size, 3, none⟩ (.slice gs'.a gs'.len gs'.cap)).setCell ⟨wr.heap.size, 4, none⟩ (.slice is'.a is'.len is'.cap)) W.heap.size ⟨nm, en, fs', gs', is'⟩ t := by
        have hb : wr.heap.size < W.heap.size := by omega
        exact (unhide Hnew).map fun _ h => ownsRow_setCell_below (ownsRow_setCell_below (ownsRow_setCell_below h (show (⟨wr.heap.size, 2, none⟩ : Addr).block < W.heap.size from hb) _) (show (⟨wr.heap.size, 3, none⟩ : Addr).block < W.heap.size from hb) _) (show (⟨wr.heap.size, 4, none⟩ : Addr).block < W.heap.size from hb) _
      generalize (((w3.setCell ⟨wr.heap.size, 2, none⟩ (.slice fs'.a fs'.len fs'.cap)).setCell ⟨wr.heap.size, 3, none⟩ (.slice gs'.a gs'.len gs'.cap)).setCell ⟨wr.heap.size, 4, none⟩ (.slice is'.a is'.len is'.cap)) = w4 at *
      clear h4a h4b hW3 z2 z3 z4 zf hz3 Hnew hE3 hE2 hE1 hE12 hE23
      obtain ⟨y0, y1, y2, y3, y4, yf⟩ := row5 h4c
      have hz4 : wr.heap.size < w4.heap.size := lt_of_heap h4c
      have hB4 := hx4.heap hB
      have hA4 := hx4.heap hA
      have cB4 := hx4.cell cB
      have hbk4 := bk_ext (unhide Hbk) hx4
      have ho4 := hbk4.outer
      have Hbk4 := hide hbk4
      have Hn4 := hide hn4
      have hx5 : Ext w4 (w4.alloc (.cells #[.string nm, .bool en, .slice fs'.a fs'.len fs'.cap, .slice gs'.a gs'.len gs'.cap, .slice is'.a is'.len is'.cap] 50)) := (Ext.refl w4).alloc _
      clear hbk4 hn4 cA fA cB e0 e1 e2 e3 e4 ef c0 c1 c2 c3 c4 hfs hgs his
      go_wp2_with (at_builtin; refine wpList_app1 _ _ 22 50 (.agg #[.string ⟨#[]⟩, .bool false, .slice none 0 0, .slice none 0 0, .slice none 0 0]) 5 96 Tryz.underlying22 info30 rfl (by decide) (by decide) rfl rfl (w.heap.size + 3) _ tvs.length _ rfl (ho4.alloc _) w4.heap.size 1 (TV.cells ⟨nm, en, fs', gs', is'⟩) rfl rfl ?c1 ?c2 ?c3 ?c4 ?_)
      case c1 => exact range_of_new5 _ _ _ _ _ _ _ (by simp)
      case c2 => exact one_tv _
      case c3 => exact hcl
      case c4 => simp; omega
      intro v7 w7 ho7 hg7
      have ho7' : w7.ownsRow (w.heap.size + 3) 50 5 v7 (tvs ++ [(⟨nm, en, fs', gs', is'⟩ : TV)]).length ((tvs ++ [(⟨nm, en, fs', gs', is'⟩ : TV)]).flatMap TV.cells) := by
        rw [List.length_append, List.length_singleton, List.flatMap_append]
        simpa using ho7
      obtain ⟨sv', hsv', _⟩ := sliceAt_of_owns TV.cells (fun _ => rfl) ho7' rfl
      rw [hsv'] at ho7' ⊢
      have hB7 : w7.heap[w.heap.size + 2]? = some (.cells #[.slice sv.a sv.len sv.cap] 24 (0, 0)) := by
        have h0 := hx5.heap hB4
        rw [hg7.block _ (lt_of_heap h0) (fun e => by have := (ho4.lt _ e.symm).1; omega)]; exact h0
      have hA7 : w7.heap[w.heap.size + 1]? = some (.cells #[.slice none 0 0] 24 (0, 0)) := by
        have h0 := hx5.heap hA4
        rw [hg7.block _ (lt_of_heap h0) (fun e => by have := (ho4.lt _ e.symm).1; omega)]; exact h0
      have hbk7 : BkOwn w7 (w.heap.size + 3) sv' (tvs ++ [(⟨nm, en, fs', gs', is'⟩ : TV)]) (ts.take k ++ [t]) := by
        have kk : ∀ {e : TypeId} {size : Nat} {v : Value} {n base : Nat} {xs : List Value}, e ≠ 50 → w4.ownsRow base e size v n xs → w7.ownsRow base e size v n xs :=
          fun hne h => (owns_ext h hx5).kept hg7 (owns_apart h ho4 hne)
        refine bk_push (unhide Hbk) (by omega) (unhide Hn4) (fun i a b h1 h2 => ((unhide Hbk4).inner i a b h1 h2).map kk) (ty_base ((unhide Hn4).map kk) (by omega)) ?_
        rw [← List.length_singleton (a := (⟨nm, en, fs', gs', is'⟩ : TV)), ← List.length_append]; exact ho7'
      have hE7 : Ext w w7 := ((hx.trans hx4).trans hx5).owned hg7 (ho4.alloc _) (by omega)
      have hz7 : w.heap.size + 2 < w7.heap.size := lt_of_heap hB7
      have Hbk7 := hide hbk7
      have cB7 : w7.cell? ⟨w.heap.size + 2, 0, none⟩ = some (.slice sv.a sv.len sv.cap) := cell_of_row _ _ 0 _ _ _ hB7
      have fB7 : w7.frozen? ⟨w.heap.size + 2, 0, none⟩ = false := frozen_of_row _ _ 0 _ _ hB7
      clear hbk7 ho7 ho7' hsv' ho4 hg7 hx5 Hbk4 Hn4 cB4
      go_wp2
      go_roundw
      case rel =>
        refine ⟨k + 1, sv', tvs ++ [(⟨nm, en, fs', gs', is'⟩ : TV)], by omega, by go_num, ?_, heap_setCell_same w7 _ 0 _ 24 _ hB7, ?_, hE7.setCell (by simp; omega) _⟩
        · rw [heap_setCell_other _ _ _ _ (by simp)]; exact hA7
        · rw [unhide Htk]; exact (unhide Hbk7).map fun h => ownsRow_setCell_below h (show w.heap.size + 2 < w.heap.size + 3 by omega) _
      case measure => simp [intOf]; omega
    · have hbook := bk_book hbk
      rw [List.take_of_length_le (by omega)] at hbook
      have hbase := hbk
      have Hbk := hide hbk
      have Hbook := hide hbook
      clear hbk hbook hbase
      go_wp2
      refine bodyPost_ret (v := .agg #[.slice sv.a sv.len sv.cap]) (by simp [results, Tryz.results6, go_sem, cA, hzB]) rfl ⟨sv, tvs, rfl, ?_, ?_⟩
      · have h2 := (unhide Hbk).map fun h => ownsRow_setCell_below h (show (⟨w.heap.size + 1, 0, none⟩ : Addr).block < w.heap.size + 3 by simp) (.slice sv.a sv.len sv.cap)
        rw [List.take_of_length_le (by omega)] at h2
        exact h2
      · exact hx.setCell (by simp) _
theorem copyBook_any (s : SV) (ts : BookM) (hn : ts.Small) (w : World) (hs : BookAt w s ts) :
    Calls Tryz.prog 6 #[.agg #[.slice s.a s.len s.cap]] w fun e w' => ∃ (sv : SV), e = .returned (.agg #[.slice sv.a sv.len sv.cap]) ∧ BookAt w' sv ts ∧ Ext w w' :=
  (copyBook_own s ts hn w hs).mono fun _ _ ⟨sv, _, h1, h2, h3⟩ => ⟨sv, h1, bk_book h2, h3⟩
end Go.Proofs.YtmdpdgldmedebaaGreatDoor

