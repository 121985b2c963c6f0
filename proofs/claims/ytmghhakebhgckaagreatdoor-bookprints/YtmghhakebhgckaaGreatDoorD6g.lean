import Derived.Test.YtmghhakebhgckaaGreatDoorD5g
namespace Go.Proofs.YtmghhakebhgckaaGreatDoor
set_option linter.unusedSimpArgs false
set_option linter.unusedVariables false
open Go.RowKit

theorem has_all (l : List ItemM) (n : Int) : hasTo l n l.length = l.any fun i => i.n == n := by unfold hasTo; rw [List.take_length]
theorem find_sm {ts : BookM} (hn : ts.Small) (name : ByteArray) : ((findM ts name).getD TypeM.zero).Small := by
  cases hf : findM ts name with
  | none => exact ⟨by decide, by decide, by decide, by decide, fun x hx => absurd hx List.not_mem_nil, fun x hx => absurd hx List.not_mem_nil⟩
  | some t => exact hn.2 t (findM_mem hf)
theorem fieldCells (f : FieldM) : f.cells.toArray = #[.int .i64 f.id, .string f.name, .string f.type, .int .i64 f.kind, .int .i64 f.rule] := rfl

set_option maxHeartbeats 12800000 in
set_option maxRecDepth 20000 in
theorem bookGoods_calls (s : SV) (ts : BookM) (hn : ts.Small) (name : ByteArray) (hname : name.size ≤ 1048576) (id n : Int) (w : World) (hs : BookAt w s ts) (hl : LaidG w) (hm : MaxAt w) :
    Calls Tryz.prog 3 #[.agg #[.slice s.a s.len s.cap], .string name, .int .i64 id, .int .i64 n] w fun e w' => e = .returned (.bool true) ∧ Ext w w' := by
  have Hn := hide hn
  obtain ⟨w0, hw0⟩ : ∃ w0, w0 = w.alloc (.cells #[.slice s.a s.len s.cap] 24) := ⟨_, rfl⟩
  have hx0 : Ext w w0 := by rw [hw0]; exact (Ext.refl w).alloc _
  have r0 : w0.heap[w.heap.size]? = some (.cells #[.slice s.a s.len s.cap] 24 (0, 0)) := by rw [hw0]; exact heap_alloc_new _ _
  have HW0 := hide hw0
  have Hs := hide hs
  have Hl := hide hl
  have Hm := hide hm
  clear hw0 hs hl hm hn
  have p0 : w0.cell? ⟨w.heap.size, 0, none⟩ = some (.slice s.a s.len s.cap) := cell_of_row _ _ 0 _ _ _ r0
  go_enter Tryz.func3, Tryz.ntmps3
  go_wp2_with fail
  rw [← unhide HW0]
  refine (copyBook_any s ts (unhide Hn) w0 ((unhide Hs).ext hx0)).mono ?_
  rintro e w1 ⟨sc, rfl, hc1, hx1⟩
  have hE1 := hx0.trans hx1
  have p1 := hx1.cell p0
  have z1 := lt_of_heap (hx1.heap r0)
  have Hc := hide hc1
  clear hc1
  go_wp2_with fail
  obtain ⟨w2, hw2⟩ : ∃ w2, w2 = w1.alloc (.cells #[.slice sc.a sc.len sc.cap] 24) := ⟨_, rfl⟩
  have hx2 : Ext w1 w2 := by rw [hw2]; exact (Ext.refl w1).alloc _
  have r2 : w2.heap[w1.heap.size]? = some (.cells #[.slice sc.a sc.len sc.cap] 24 (0, 0)) := by rw [hw2]; exact heap_alloc_new _ _
  rw [← hw2]
  clear hw2
  refine (find_any sc ts name w2 ((unhide Hc).ext hx2) (unhide Hn)).mono ?_
  rintro e w3 ⟨tv, rfl, htv, hx3⟩
  have Htv := hide htv
  clear htv
  have hE3 := (hE1.trans hx2).trans hx3
  have p3 := (hx2.trans hx3).cell p1
  have z3 := lt_of_heap (((hx1.trans hx2).trans hx3).heap r0)
  have r3 := hx3.heap r2
  go_wp2_with fail
  obtain ⟨w4, hw4⟩ : ∃ w4, w4 = w3.alloc (.cells #[.string tv.name, .bool tv.enum, .slice tv.fields.a tv.fields.len tv.fields.cap, .slice tv.gone.a tv.gone.len tv.gone.cap, .slice tv.items.a tv.items.len tv.items.cap] 30) := ⟨_, rfl⟩
  have hx4 : Ext w3 w4 := by rw [hw4]; exact (Ext.refl w3).alloc _
  have r4 : w4.heap[w3.heap.size]? = some (.cells #[.string tv.name, .bool tv.enum, .slice tv.fields.a tv.fields.len tv.fields.cap, .slice tv.gone.a tv.gone.len tv.gone.cap, .slice tv.items.a tv.items.len tv.items.cap] 30 (0, 0)) := by rw [hw4]; exact heap_alloc_new _ _
  rw [← hw4]
  clear hw4
  refine (typeOf_any s ts name w4 ((unhide Hs).ext (hE3.trans hx4)) (unhide Hn).1).mono ?_
  rintro e w5 ⟨tu, rfl, htu, hx5⟩
  have Htu := hide (htu.ext hx5)
  clear htu
  obtain ⟨a0, a1, a2, a3, a4, _⟩ := row5 (hx5.heap r4)
  have y5 := lt_of_heap (hx5.heap r4)
  have r5 := hx5.heap (hx4.heap r3)
  have hE5 := (hE3.trans hx4).trans hx5
  have R0 := ((((hx1.trans hx2).trans hx3).trans hx4).trans hx5).heap r0
  have htv5 := (unhide Htv).ext (hx4.trans hx5)
  clear Htv
  have Htv := hide htv5
  clear htv5
  have hT := find_sm (unhide Hn) name
  generalize (findM ts name).getD TypeM.zero = T at *
  generalize (findM ts name).isSome = ok at *
  go_wp2_with fail
  obtain ⟨w6, hw6⟩ : ∃ w6, w6 = w5.alloc (.cells #[.string tu.name, .bool tu.enum, .slice tu.fields.a tu.fields.len tu.fields.cap, .slice tu.gone.a tu.gone.len tu.gone.cap, .slice tu.items.a tu.items.len tu.items.cap] 30) := ⟨_, rfl⟩
  have hx6 : Ext w5 w6 := by rw [hw6]; exact (Ext.refl w5).alloc _
  have r6 : w6.heap[w5.heap.size]? = some (.cells #[.string tu.name, .bool tu.enum, .slice tu.fields.a tu.fields.len tu.fields.cap, .slice tu.gone.a tu.gone.len tu.gone.cap, .slice tu.items.a tu.items.len tu.items.cap] 30 (0, 0)) := by rw [hw6]; exact heap_alloc_new _ _
  rw [← hw6]
  clear hw6
  refine (fieldOf_any tv T id w6 ((unhide Htv).ext hx6) hT.fits.fields).mono ?_
  rintro e w7 ⟨rfl, hx7⟩
  clear a0 a1 a2 a3 a4
  obtain ⟨b0, b1, b2, b3, b4, _⟩ := row5 (hx7.heap r6)
  have y7 := lt_of_heap (hx7.heap r6)
  have r7 := (hx6.trans hx7).heap (hx5.heap r4)
  have q7 := (hx6.trans hx7).heap r5
  have Q0 := (hx6.trans hx7).heap R0
  generalize hF : (fieldM T id).getD FieldM.zero = F at *
  generalize hthere : (fieldM T id).isSome = there at *
  have HF := hide hF
  have Hthere := hide hthere
  clear hF hthere
  rw [fieldCells]
  go_wp2_with fail
  obtain ⟨w8, hw8⟩ : ∃ w8, w8 = w7.alloc (.cells #[.int .i64 F.id, .string F.name, .string F.type, .int .i64 F.kind, .int .i64 F.rule] 34) := ⟨_, rfl⟩
  have hx8 : Ext w7 w8 := by rw [hw8]; exact (Ext.refl w7).alloc _
  have r8 : w8.heap[w7.heap.size]? = some (.cells #[.int .i64 F.id, .string F.name, .string F.type, .int .i64 F.kind, .int .i64 F.rule] 34 (0, 0)) := by rw [hw8]; exact heap_alloc_new _ _
  rw [← hw8]
  clear hw8
  refine (fieldIn_any tu T id w8 ((unhide Htu).ext ((hx6.trans hx7).trans hx8)) hT.fields).mono ?_
  rw [unhide HF, unhide Hthere, fieldCells]
  rintro e w9 ⟨rfl, hx9⟩
  clear b0 b1 b2 b3 b4
  go_wp2_with fail
  obtain ⟨W, hW⟩ : ∃ W, W = w9.alloc (.cells #[.int .i64 F.id, .string F.name, .string F.type, .int .i64 F.kind, .int .i64 F.rule] 34) := ⟨_, rfl⟩
  have hxW : Ext w9 W := by rw [hW]; exact (Ext.refl w9).alloc _
  have rW : W.heap[w9.heap.size]? = some (.cells #[.int .i64 F.id, .string F.name, .string F.type, .int .i64 F.kind, .int .i64 F.rule] 34 (0, 0)) := by rw [hW]; exact heap_alloc_new _ _
  rw [← hW]
  clear hW
  have h89 := (hx8.trans hx9).trans hxW
  have cS : W.cell? ⟨w.heap.size, 0, none⟩ = some (.slice s.a s.len s.cap) := cell_of_row _ _ 0 _ _ _ (h89.heap Q0)
  have cC : W.cell? ⟨w1.heap.size, 0, none⟩ = some (.slice sc.a sc.len sc.cap) := cell_of_row _ _ 0 _ _ _ (h89.heap q7)
  obtain ⟨a0, a1, a2, a3, a4, _⟩ := row5 (h89.heap r7)
  obtain ⟨b0, b1, b2, b3, b4, _⟩ := row5 (h89.heap (hx7.heap r6))
  obtain ⟨f0, f1, f2, f3, f4, _⟩ := row5 ((hx9.trans hxW).heap r8)
  obtain ⟨g0, g1, g2, g3, g4, _⟩ := row5 rW
  have hEW : Ext w W := (((hE5.trans hx6).trans hx7).trans h89)
  have hx1W : Ext w1 W := (((((hx2.trans hx3).trans hx4).trans hx5).trans hx6).trans hx7).trans h89
  have hx5W : Ext w5 W := (hx6.trans hx7).trans h89
  have Hc' := hide ((unhide Hc).ext hx1W)
  have Htv' := hide ((unhide Htv).ext hx5W)
  have Htu' := hide ((unhide Htu).ext hx5W)
  clear Hc Htv Htu h89 hx5W hx1W r0 r2 r3 r4 r5 r6 r7 r8 rW R0 Q0 q7 p0 p1 p3 z1 z3 y5 y7 hx0 hx1 hx2 hx3 hx4 hx5 hx6 hx7 hx8 hx9 hxW hE1 hE3 hE5 HW0
  have hS0 : Ext W W.drew := (Ext.refl W).drew
  refine wp_region_X (fun w' => Ext W w') (fun _ => false) (by kernel_rfl) ?_
  refine wpAnyX_take (i := 0) (v := .agg #[.slice sc.a sc.len sc.cap]) rfl (by kernel_rfl) (by kernel_rfl) (fun _ _ _ h => h) (.inl ⟨rfl, fun w' hS => by simp [execOp, go_sem, hS.cell cC]⟩) (hS0) ?_
  simp only [Act.put, List.getElem_toArray, List.getElem_cons_zero, List.getElem_cons_succ, List.setIfInBounds_toArray, List.set_cons_succ, List.set_cons_zero]
  refine wpAnyX_take (i := 2) (v := .agg #[.slice s.a s.len s.cap]) rfl (by kernel_rfl) (by kernel_rfl) (fun _ _ _ h => h) (.inl ⟨rfl, fun w' hS => by simp [execOp, go_sem, hS.cell cS]⟩) (hS0) ?_
  simp only [Act.put, List.getElem_toArray, List.getElem_cons_zero, List.getElem_cons_succ, List.setIfInBounds_toArray, List.set_cons_succ, List.set_cons_zero]
  refine wpAnyX_one (j := 1) rfl (by kernel_rfl) rfl fun K hK => ?_
  go_wp2_with fail
  refine (good_any sc ts (unhide Hn).fits _ ((unhide Hc').ext (hS0)) ((unhide Hl).words.ext (hEW.trans (hS0)))).mono ?_
  rintro e v1 ⟨rfl, hv1⟩
  have hS1 : Ext W v1 := (hS0).trans hv1
  clear hv1
  go_wp2
  refine hK.out _ _ (hS1) ?_
  clear hK K
  refine wpAnyX_one (j := 3) rfl (by kernel_rfl) rfl fun K hK => ?_
  go_wp2_with fail
  refine (goodBook_any s ts (unhide Hn) _ ((unhide Hs).ext (hEW.trans (hS1))) ((unhide Hm).ext (hEW.trans (hS1)))).mono ?_
  rintro e v2 ⟨rfl, hv2⟩
  have hS2 : Ext W v2 := (hS1).trans hv2
  clear hv2
  go_wp2
  refine hK.out _ _ (hS2) ?_
  clear hK K
  refine wpAnyX_take (i := 4) (v := .bool true) rfl (by kernel_rfl) (by kernel_rfl) (fun _ _ _ h => h) (.inl ⟨rfl, fun w' hS => by simp [execOp, go_sem]⟩) (hS2) ?_
  simp only [Act.put, List.getElem_toArray, List.getElem_cons_zero, List.getElem_cons_succ, List.setIfInBounds_toArray, List.set_cons_succ, List.set_cons_zero]
  refine wpAnyX_take (i := 5) (v := .bool true) rfl (by kernel_rfl) (by kernel_rfl) (fun _ _ _ h => h) (.inl ⟨rfl, fun w' hS => by simp [execOp, go_sem]⟩) (hS2) ?_
  simp only [Act.put, List.getElem_toArray, List.getElem_cons_zero, List.getElem_cons_succ, List.setIfInBounds_toArray, List.set_cons_succ, List.set_cons_zero]
  refine wpAnyX_take (i := 6) (v := .agg #[.string tv.name, .bool tv.enum, .slice tv.fields.a tv.fields.len tv.fields.cap, .slice tv.gone.a tv.gone.len tv.gone.cap, .slice tv.items.a tv.items.len tv.items.cap]) rfl (by kernel_rfl) (by kernel_rfl) (fun _ _ _ h => h) (.inl ⟨rfl, fun w' hS => by simp [execOp, go_sem, hS.cell a0, hS.cell a1, hS.cell a2, hS.cell a3, hS.cell a4]⟩) (hS2) ?_
  simp only [Act.put, List.getElem_toArray, List.getElem_cons_zero, List.getElem_cons_succ, List.setIfInBounds_toArray, List.set_cons_succ, List.set_cons_zero]
  refine wpAnyX_take (i := 7) (v := .agg #[.string tu.name, .bool tu.enum, .slice tu.fields.a tu.fields.len tu.fields.cap, .slice tu.gone.a tu.gone.len tu.gone.cap, .slice tu.items.a tu.items.len tu.items.cap]) rfl (by kernel_rfl) (by kernel_rfl) (fun _ _ _ h => h) (.inl ⟨rfl, fun w' hS => by simp [execOp, go_sem, hS.cell b0, hS.cell b1, hS.cell b2, hS.cell b3, hS.cell b4]⟩) (hS2) ?_
  simp only [Act.put, List.getElem_toArray, List.getElem_cons_zero, List.getElem_cons_succ, List.setIfInBounds_toArray, List.set_cons_succ, List.set_cons_zero]
  refine wpAnyX_one (j := 8) rfl (by kernel_rfl) rfl fun K hK => ?_
  go_wp2_with fail
  refine (sameTypeR_true tv tu T _ ((unhide Htv').ext (hS2)) ((unhide Htu').ext (hS2)) hT.fits).mono ?_
  rintro e v3 ⟨rfl, hv3⟩
  have hS3 : Ext W v3 := (hS2).trans hv3
  clear hv3
  go_wp2
  refine hK.out _ _ (hS3) ?_
  clear hK K
  refine wpAnyX_take (i := 9) (v := .bool true) rfl (by kernel_rfl) (by kernel_rfl) (fun _ _ _ h => h) (.inl ⟨rfl, fun w' hS => by simp [execOp, go_sem]⟩) (hS3) ?_
  simp only [Act.put, List.getElem_toArray, List.getElem_cons_zero, List.getElem_cons_succ, List.setIfInBounds_toArray, List.set_cons_succ, List.set_cons_zero]
  refine wpAnyX_take (i := 10) (v := .bool true) rfl (by kernel_rfl) (by kernel_rfl) (fun _ _ _ h => h) (.inl ⟨rfl, fun w' hS => by simp [execOp, go_sem]⟩) (hS3) ?_
  simp only [Act.put, List.getElem_toArray, List.getElem_cons_zero, List.getElem_cons_succ, List.setIfInBounds_toArray, List.set_cons_succ, List.set_cons_zero]
  refine wpAnyX_take (i := 11) (v := .bool ok) rfl (by kernel_rfl) (by kernel_rfl) (fun _ _ _ h => h) (.inl ⟨rfl, fun w' hS => by simp [execOp, go_sem]⟩) (hS3) ?_
  simp only [Act.put, List.getElem_toArray, List.getElem_cons_zero, List.getElem_cons_succ, List.setIfInBounds_toArray, List.set_cons_succ, List.set_cons_zero]
  refine wpAnyX_take (i := 12) (v := .bool ok) rfl (by kernel_rfl) (by kernel_rfl) (fun _ _ _ h => h) (.inl ⟨rfl, fun w' hS => by simp [execOp, go_sem]⟩) (hS3) ?_
  simp only [Act.put, List.getElem_toArray, List.getElem_cons_zero, List.getElem_cons_succ, List.setIfInBounds_toArray, List.set_cons_succ, List.set_cons_zero]
  refine wpAnyX_take (i := 13) (v := .bool true) rfl (by kernel_rfl) (by kernel_rfl) (fun _ _ _ h => h) (.inl ⟨rfl, fun w' hS => by simp [execOp, go_sem]⟩) (hS3) ?_
  simp only [Act.put, List.getElem_toArray, List.getElem_cons_zero, List.getElem_cons_succ, List.setIfInBounds_toArray, List.set_cons_succ, List.set_cons_zero]
  refine wpAnyX_take (i := 14) (v := .bool true) rfl (by kernel_rfl) (by kernel_rfl) (fun _ _ _ h => h) (.inl ⟨rfl, fun w' hS => by simp [execOp, go_sem]⟩) (hS3) ?_
  simp only [Act.put, List.getElem_toArray, List.getElem_cons_zero, List.getElem_cons_succ, List.setIfInBounds_toArray, List.set_cons_succ, List.set_cons_zero]
  refine wpAnyX_take (i := 15) (v := .bool true) rfl (by kernel_rfl) (by kernel_rfl) (fun _ _ _ h => h) (.inl ⟨rfl, fun w' hS => by simp [execOp, go_sem]⟩) (hS3) ?_
  simp only [Act.put, List.getElem_toArray, List.getElem_cons_zero, List.getElem_cons_succ, List.setIfInBounds_toArray, List.set_cons_succ, List.set_cons_zero]
  refine wpAnyX_take (i := 16) (v := .agg #[.int .i64 F.id, .string F.name, .string F.type, .int .i64 F.kind, .int .i64 F.rule]) rfl (by kernel_rfl) (by kernel_rfl) (fun _ _ _ h => h) (.inl ⟨rfl, fun w' hS => by simp [execOp, go_sem, hS.cell f0, hS.cell f1, hS.cell f2, hS.cell f3, hS.cell f4]⟩) (hS3) ?_
  simp only [Act.put, List.getElem_toArray, List.getElem_cons_zero, List.getElem_cons_succ, List.setIfInBounds_toArray, List.set_cons_succ, List.set_cons_zero]
  refine wpAnyX_take (i := 17) (v := .agg #[.int .i64 F.id, .string F.name, .string F.type, .int .i64 F.kind, .int .i64 F.rule]) rfl (by kernel_rfl) (by kernel_rfl) (fun _ _ _ h => h) (.inl ⟨rfl, fun w' hS => by simp [execOp, go_sem, hS.cell g0, hS.cell g1, hS.cell g2, hS.cell g3, hS.cell g4]⟩) (hS3) ?_
  simp only [Act.put, List.getElem_toArray, List.getElem_cons_zero, List.getElem_cons_succ, List.setIfInBounds_toArray, List.set_cons_succ, List.set_cons_zero]
  refine wpAnyX_take (i := 18) (v := .bool true) rfl (by kernel_rfl) (by kernel_rfl) (fun _ _ _ h => h) (.inl ⟨rfl, fun w' hS => by simp [execOp, go_sem]⟩) (hS3) ?_
  simp only [Act.put, List.getElem_toArray, List.getElem_cons_zero, List.getElem_cons_succ, List.setIfInBounds_toArray, List.set_cons_succ, List.set_cons_zero]
  refine wpAnyX_take (i := 19) (v := .bool true) rfl (by kernel_rfl) (by kernel_rfl) (fun _ _ _ h => h) (.inl ⟨rfl, fun w' hS => by simp [execOp, go_sem]⟩) (hS3) ?_
  simp only [Act.put, List.getElem_toArray, List.getElem_cons_zero, List.getElem_cons_succ, List.setIfInBounds_toArray, List.set_cons_succ, List.set_cons_zero]
  refine wpAnyX_take (i := 20) (v := .bool true) rfl (by kernel_rfl) (by kernel_rfl) (fun _ _ _ h => h) (.inl ⟨rfl, fun w' hS => by simp [execOp, go_sem]⟩) (hS3) ?_
  simp only [Act.put, List.getElem_toArray, List.getElem_cons_zero, List.getElem_cons_succ, List.setIfInBounds_toArray, List.set_cons_succ, List.set_cons_zero]
  refine wpAnyX_take (i := 21) (v := .bool there) rfl (by kernel_rfl) (by kernel_rfl) (fun _ _ _ h => h) (.inl ⟨rfl, fun w' hS => by simp [execOp, go_sem]⟩) (hS3) ?_
  simp only [Act.put, List.getElem_toArray, List.getElem_cons_zero, List.getElem_cons_succ, List.setIfInBounds_toArray, List.set_cons_succ, List.set_cons_zero]
  refine wpAnyX_take (i := 22) (v := .bool there) rfl (by kernel_rfl) (by kernel_rfl) (fun _ _ _ h => h) (.inl ⟨rfl, fun w' hS => by simp [execOp, go_sem]⟩) (hS3) ?_
  simp only [Act.put, List.getElem_toArray, List.getElem_cons_zero, List.getElem_cons_succ, List.setIfInBounds_toArray, List.set_cons_succ, List.set_cons_zero]
  refine wpAnyX_take (i := 23) (v := .bool true) rfl (by kernel_rfl) (by kernel_rfl) (fun _ _ _ h => h) (.inl ⟨rfl, fun w' hS => by simp [execOp, go_sem]⟩) (hS3) ?_
  simp only [Act.put, List.getElem_toArray, List.getElem_cons_zero, List.getElem_cons_succ, List.setIfInBounds_toArray, List.set_cons_succ, List.set_cons_zero]
  refine wpAnyX_take (i := 24) (v := .bool true) rfl (by kernel_rfl) (by kernel_rfl) (fun _ _ _ h => h) (.inl ⟨rfl, fun w' hS => by simp [execOp, go_sem]⟩) (hS3) ?_
  simp only [Act.put, List.getElem_toArray, List.getElem_cons_zero, List.getElem_cons_succ, List.setIfInBounds_toArray, List.set_cons_succ, List.set_cons_zero]
  refine wpAnyX_take (i := 25) (v := .bool true) rfl (by kernel_rfl) (by kernel_rfl) (fun _ _ _ h => h) (.inl ⟨rfl, fun w' hS => by simp [execOp, go_sem]⟩) (hS3) ?_
  simp only [Act.put, List.getElem_toArray, List.getElem_cons_zero, List.getElem_cons_succ, List.setIfInBounds_toArray, List.set_cons_succ, List.set_cons_zero]
  refine wpAnyX_take (i := 26) (v := .agg #[.string tv.name, .bool tv.enum, .slice tv.fields.a tv.fields.len tv.fields.cap, .slice tv.gone.a tv.gone.len tv.gone.cap, .slice tv.items.a tv.items.len tv.items.cap]) rfl (by kernel_rfl) (by kernel_rfl) (fun _ _ _ h => h) (.inl ⟨rfl, fun w' hS => by simp [execOp, go_sem, hS.cell a0, hS.cell a1, hS.cell a2, hS.cell a3, hS.cell a4]⟩) (hS3) ?_
  simp only [Act.put, List.getElem_toArray, List.getElem_cons_zero, List.getElem_cons_succ, List.setIfInBounds_toArray, List.set_cons_succ, List.set_cons_zero]
  refine wpAnyX_take (i := 27) (v := .int .i64 n) rfl (by kernel_rfl) (by kernel_rfl) (fun _ _ _ h => h) (.inl ⟨rfl, fun w' hS => by simp [execOp, go_sem]⟩) (hS3) ?_
  simp only [Act.put, List.getElem_toArray, List.getElem_cons_zero, List.getElem_cons_succ, List.setIfInBounds_toArray, List.set_cons_succ, List.set_cons_zero]
  refine wpAnyX_take (i := 29) (v := .agg #[.string tu.name, .bool tu.enum, .slice tu.fields.a tu.fields.len tu.fields.cap, .slice tu.gone.a tu.gone.len tu.gone.cap, .slice tu.items.a tu.items.len tu.items.cap]) rfl (by kernel_rfl) (by kernel_rfl) (fun _ _ _ h => h) (.inl ⟨rfl, fun w' hS => by simp [execOp, go_sem, hS.cell b0, hS.cell b1, hS.cell b2, hS.cell b3, hS.cell b4]⟩) (hS3) ?_
  simp only [Act.put, List.getElem_toArray, List.getElem_cons_zero, List.getElem_cons_succ, List.setIfInBounds_toArray, List.set_cons_succ, List.set_cons_zero]
  refine wpAnyX_take (i := 30) (v := .int .i64 n) rfl (by kernel_rfl) (by kernel_rfl) (fun _ _ _ h => h) (.inl ⟨rfl, fun w' hS => by simp [execOp, go_sem]⟩) (hS3) ?_
  simp only [Act.put, List.getElem_toArray, List.getElem_cons_zero, List.getElem_cons_succ, List.setIfInBounds_toArray, List.set_cons_succ, List.set_cons_zero]
  refine wpAnyX_one (j := 28) rfl (by kernel_rfl) rfl fun K hK => ?_
  go_wp2_with fail
  refine (means_any tv T n _ ((unhide Htv').ext (hS3)) hT.fits.items).mono ?_
  rintro e v4 ⟨rfl, hv4⟩
  have hS4 : Ext W v4 := (hS3).trans hv4
  clear hv4
  go_wp2
  refine hK.out _ _ (hS4) ?_
  clear hK K
  refine wpAnyX_one (j := 31) rfl (by kernel_rfl) rfl fun K hK => ?_
  go_wp2_with fail
  refine (itemIn_any tu T n _ ((unhide Htu').ext (hS4)) hT.fits.items).mono ?_
  rw [has_all]
  rintro e v5 ⟨rfl, hv5⟩
  have hS5 : Ext W v5 := (hS4).trans hv5
  clear hv5
  go_wp2
  refine hK.out _ _ (hS5) ?_
  clear hK K
  refine wpAnyX_take (i := 32) (v := .bool true) rfl (by kernel_rfl) (by kernel_rfl) (fun _ _ _ h => h) (.inl ⟨rfl, fun w' hS => by simp [execOp, go_sem]⟩) (hS5) ?_
  simp only [Act.put, List.getElem_toArray, List.getElem_cons_zero, List.getElem_cons_succ, List.setIfInBounds_toArray, List.set_cons_succ, List.set_cons_zero]
  refine wpAnyX_take (i := 33) (v := .bool true) rfl (by kernel_rfl) (by kernel_rfl) (fun _ _ _ h => h) (.inl ⟨rfl, fun w' hS => by simp [execOp, go_sem]⟩) (hS5) ?_
  simp only [Act.put, List.getElem_toArray, List.getElem_cons_zero, List.getElem_cons_succ, List.setIfInBounds_toArray, List.set_cons_succ, List.set_cons_zero]
  refine wpAnyX_take (i := 34) (v := .bool true) rfl (by kernel_rfl) (by kernel_rfl) (fun _ _ _ h => h) (.inl ⟨rfl, fun w' hS => by simp [execOp, go_sem]⟩) (hS5) ?_
  simp only [Act.put, List.getElem_toArray, List.getElem_cons_zero, List.getElem_cons_succ, List.setIfInBounds_toArray, List.set_cons_succ, List.set_cons_zero]
  refine wpAnyX_take (i := 35) (v := .string name) rfl (by kernel_rfl) (by kernel_rfl) (fun _ _ _ h => h) (.inl ⟨rfl, fun w' hS => by simp [execOp, go_sem]⟩) (hS5) ?_
  simp only [Act.put, List.getElem_toArray, List.getElem_cons_zero, List.getElem_cons_succ, List.setIfInBounds_toArray, List.set_cons_succ, List.set_cons_zero]
  refine wpAnyX_take (i := 37) (v := .string name) rfl (by kernel_rfl) (by kernel_rfl) (fun _ _ _ h => h) (.inl ⟨rfl, fun w' hS => by simp [execOp, go_sem]⟩) (hS5) ?_
  simp only [Act.put, List.getElem_toArray, List.getElem_cons_zero, List.getElem_cons_succ, List.setIfInBounds_toArray, List.set_cons_succ, List.set_cons_zero]
  refine wpAnyX_one (j := 36) rfl (by kernel_rfl) rfl fun K hK => ?_
  go_wp2_with fail
  refine (named_any name _ ((unhide Hl).words.ext (hEW.trans (hS5))) (by omega)).mono ?_
  rintro e v6 ⟨rfl, rfl⟩
  go_wp2
  refine hK.out _ _ (hS5) ?_
  clear hK K
  refine wpAnyX_one (j := 38) rfl (by kernel_rfl) rfl fun K hK => ?_
  go_wp2_with fail
  refine (isName_any name _ (by omega) ((unhide Hm).ext (hEW.trans (hS5)))).mono ?_
  rintro e v7 ⟨rfl, hv7⟩
  have hS7 : Ext W v7 := (hS5).trans hv7
  clear hv7
  go_wp2
  refine hK.out _ _ (hS7) ?_
  clear hK K
  refine wpAnyX_take (i := 39) (v := .bool true) rfl (by kernel_rfl) (by kernel_rfl) (fun _ _ _ h => h) (.inl ⟨rfl, fun w' hS => by simp [execOp, go_sem]⟩) (hS7) ?_
  simp only [Act.put, List.getElem_toArray, List.getElem_cons_zero, List.getElem_cons_succ, List.setIfInBounds_toArray, List.set_cons_succ, List.set_cons_zero]
  refine wpAnyX_take (i := 40) (v := .bool true) rfl (by kernel_rfl) (by kernel_rfl) (fun _ _ _ h => h) (.inl ⟨rfl, fun w' hS => by simp [execOp, go_sem]⟩) (hS7) ?_
  simp only [Act.put, List.getElem_toArray, List.getElem_cons_zero, List.getElem_cons_succ, List.setIfInBounds_toArray, List.set_cons_succ, List.set_cons_zero]
  refine wpAnyX_take (i := 41) (v := .bool true) rfl (by kernel_rfl) (by kernel_rfl) (fun _ _ _ h => h) (.inl ⟨rfl, fun w' hS => by simp [execOp, go_sem]⟩) (hS7) ?_
  simp only [Act.put, List.getElem_toArray, List.getElem_cons_zero, List.getElem_cons_succ, List.setIfInBounds_toArray, List.set_cons_succ, List.set_cons_zero]
  refine wpAnyX_take (i := 42) (v := .agg #[.slice sc.a sc.len sc.cap]) rfl (by kernel_rfl) (by kernel_rfl) (fun _ _ _ h => h) (.inl ⟨rfl, fun w' hS => by simp [execOp, go_sem, hS.cell cC]⟩) (hS7) ?_
  simp only [Act.put, List.getElem_toArray, List.getElem_cons_zero, List.getElem_cons_succ, List.setIfInBounds_toArray, List.set_cons_succ, List.set_cons_zero]
  refine wpAnyX_take (i := 43) (v := .string name) rfl (by kernel_rfl) (by kernel_rfl) (fun _ _ _ h => h) (.inl ⟨rfl, fun w' hS => by simp [execOp, go_sem]⟩) (hS7) ?_
  simp only [Act.put, List.getElem_toArray, List.getElem_cons_zero, List.getElem_cons_succ, List.setIfInBounds_toArray, List.set_cons_succ, List.set_cons_zero]
  refine wpAnyX_take (i := 45) (v := .agg #[.slice s.a s.len s.cap]) rfl (by kernel_rfl) (by kernel_rfl) (fun _ _ _ h => h) (.inl ⟨rfl, fun w' hS => by simp [execOp, go_sem, hS.cell cS]⟩) (hS7) ?_
  simp only [Act.put, List.getElem_toArray, List.getElem_cons_zero, List.getElem_cons_succ, List.setIfInBounds_toArray, List.set_cons_succ, List.set_cons_zero]
  refine wpAnyX_take (i := 46) (v := .string name) rfl (by kernel_rfl) (by kernel_rfl) (fun _ _ _ h => h) (.inl ⟨rfl, fun w' hS => by simp [execOp, go_sem]⟩) (hS7) ?_
  simp only [Act.put, List.getElem_toArray, List.getElem_cons_zero, List.getElem_cons_succ, List.setIfInBounds_toArray, List.set_cons_succ, List.set_cons_zero]
  refine wpAnyX_one (j := 44) rfl (by kernel_rfl) rfl fun K hK => ?_
  go_wp2_with fail
  refine (least_any sc ts (unhide Hn).fits name _ ((unhide Hc').ext (hS7))).mono ?_
  rintro e v8 ⟨rfl, hv8⟩
  have hS8 : Ext W v8 := (hS7).trans hv8
  clear hv8
  go_wp2
  refine hK.out _ _ (hS8) ?_
  clear hK K
  refine wpAnyX_one (j := 47) rfl (by kernel_rfl) rfl fun K hK => ?_
  go_wp2_with fail
  refine (leastIn_any s ts (unhide Hn) name hname _ ((unhide Hs).ext (hEW.trans (hS8)))).mono ?_
  rintro e v9 ⟨rfl, hv9⟩
  have hS9 : Ext W v9 := (hS8).trans hv9
  clear hv9
  go_wp2
  refine hK.out _ _ (hS9) ?_
  clear hK K
  refine wpAnyX_take (i := 48) (v := .bool true) rfl (by kernel_rfl) (by kernel_rfl) (fun _ _ _ h => h) (.inl ⟨rfl, fun w' hS => by simp [execOp, go_sem]⟩) (hS9) ?_
  simp only [Act.put, List.getElem_toArray, List.getElem_cons_zero, List.getElem_cons_succ, List.setIfInBounds_toArray, List.set_cons_succ, List.set_cons_zero]
  refine wpAnyX_take (i := 49) (v := .bool true) rfl (by kernel_rfl) (by kernel_rfl) (fun _ _ _ h => h) (.inl ⟨rfl, fun w' hS => by simp [execOp, go_sem]⟩) (hS9) ?_
  simp only [Act.put, List.getElem_toArray, List.getElem_cons_zero, List.getElem_cons_succ, List.setIfInBounds_toArray, List.set_cons_succ, List.set_cons_zero]
  refine wpAnyX_take (i := 50) (v := .bool true) rfl (by kernel_rfl) (by kernel_rfl) (fun _ _ _ h => h) (.inl ⟨rfl, fun w' hS => by simp [execOp, go_sem]⟩) (hS9) ?_
  simp only [Act.put, List.getElem_toArray, List.getElem_cons_zero, List.getElem_cons_succ, List.setIfInBounds_toArray, List.set_cons_succ, List.set_cons_zero]
  refine wpAnyX_take (i := 51) (v := .agg #[.slice sc.a sc.len sc.cap]) rfl (by kernel_rfl) (by kernel_rfl) (fun _ _ _ h => h) (.inl ⟨rfl, fun w' hS => by simp [execOp, go_sem, hS.cell cC]⟩) (hS9) ?_
  simp only [Act.put, List.getElem_toArray, List.getElem_cons_zero, List.getElem_cons_succ, List.setIfInBounds_toArray, List.set_cons_succ, List.set_cons_zero]
  refine wpAnyX_take (i := 52) (v := .agg #[.slice s.a s.len s.cap]) rfl (by kernel_rfl) (by kernel_rfl) (fun _ _ _ h => h) (.inl ⟨rfl, fun w' hS => by simp [execOp, go_sem, hS.cell cS]⟩) (hS9) ?_
  simp only [Act.put, List.getElem_toArray, List.getElem_cons_zero, List.getElem_cons_succ, List.setIfInBounds_toArray, List.set_cons_succ, List.set_cons_zero]
  refine wpAnyX_one (j := 53) rfl (by kernel_rfl) rfl fun K hK => ?_
  go_wp2_with fail
  refine (sameBookR_true sc s ts _ ((unhide Hc').ext (hS9)) ((unhide Hs).ext (hEW.trans (hS9))) (unhide Hn).fits).mono ?_
  rintro e v10 ⟨rfl, hv10⟩
  have hS10 : Ext W v10 := (hS9).trans hv10
  clear hv10
  go_wp2
  refine hK.out _ _ (hS10) ?_
  clear hK K
  refine wpAnyX_take (i := 54) (v := .bool true) rfl (by kernel_rfl) (by kernel_rfl) (fun _ _ _ h => h) (.inl ⟨rfl, fun w' hS => by simp [execOp, go_sem]⟩) (hS10) ?_
  simp only [Act.put, List.getElem_toArray, List.getElem_cons_zero, List.getElem_cons_succ, List.setIfInBounds_toArray, List.set_cons_succ, List.set_cons_zero]
  refine wpAnyX_take (i := 55) (v := .bool true) rfl (by kernel_rfl) (by kernel_rfl) (fun _ _ _ h => h) (.inl ⟨rfl, fun w' hS => by simp [execOp, go_sem]⟩) (hS10) ?_
  simp only [Act.put, List.getElem_toArray, List.getElem_cons_zero, List.getElem_cons_succ, List.setIfInBounds_toArray, List.set_cons_succ, List.set_cons_zero]
  refine wpAnyX_one (j := 56) rfl (by kernel_rfl) rfl fun K hK => ?_
  go_wp2_with fail
  refine (lawBooks_ok _ ((unhide Hl).ext (hEW.trans (hS10)))).mono ?_
  rintro e v11 ⟨rfl, hv11⟩
  have hS11 : Ext W v11 := (hS10).trans hv11
  clear hv11
  go_wp2
  refine hK.out _ _ (hS11) ?_
  clear hK K
  refine wpAnyX_take (i := 57) (v := .bool true) rfl (by kernel_rfl) (by kernel_rfl) (fun _ _ _ h => h) (.inl ⟨rfl, fun w' hS => by simp [execOp, go_sem]⟩) (hS11) ?_
  simp only [Act.put, List.getElem_toArray, List.getElem_cons_zero, List.getElem_cons_succ, List.setIfInBounds_toArray, List.set_cons_succ, List.set_cons_zero]
  refine wpAnyX_take (i := 58) (v := .bool true) rfl (by kernel_rfl) (by kernel_rfl) (fun _ _ _ h => h) (.inl ⟨rfl, fun w' hS => by simp [execOp, go_sem]⟩) (hS11) ?_
  simp only [Act.put, List.getElem_toArray, List.getElem_cons_zero, List.getElem_cons_succ, List.setIfInBounds_toArray, List.set_cons_succ, List.set_cons_zero]
  refine wpAnyX_end [] [] rfl (by intro j i hj; simp at hj) (by kernel_rfl) (by intro i hi; simp at hi) fun K hK => ?_
  go_wp2
  refine hK.out _ _ ?_
  clear hK K
  go_wp2
  go_ret
  exact ⟨rfl, hEW.trans hS11⟩
end Go.Proofs.YtmghhakebhgckaaGreatDoor
