import Derived.Test.YtblkgaoafejefaaDoorK1
namespace Go.Proofs.YtblkgaoafejefaaDoor
set_option linter.unusedSimpArgs false
set_option linter.unusedVariables false
open Go.RowKit

def Cells5 (w : World) (b o : Nat) (tv : TV) : Prop := w.cell? ⟨b, o, none⟩ = some (.string tv.name) ∧ w.cell? ⟨b, o + 1, none⟩ = some (.bool tv.enum) ∧ w.cell? ⟨b, o + 2, none⟩ = some (.slice tv.fields.a tv.fields.len tv.fields.cap) ∧ w.cell? ⟨b, o + 3, none⟩ = some (.slice tv.gone.a tv.gone.len tv.gone.cap) ∧ w.cell? ⟨b, o + 4, none⟩ = some (.slice tv.items.a tv.items.len tv.items.cap)
set_option maxHeartbeats 3200000 in
theorem sameBook_true (s s' : SV) (ts : BookM) (w : World) (h : BookAt w s ts) (h' : BookAt w s' ts) (hn : ts.Small) :
    Calls Tryd.prog 7 #[.agg #[.slice s.a s.len s.cap], .agg #[.slice s'.a s'.len s'.cap]] w fun e w' => e = .returned (.bool true) ∧ Ext w w' := by
  obtain ⟨a, n, cap⟩ := s
  obtain ⟨a', n', cap'⟩ := s'
  obtain ⟨l1, f1⟩ := h
  obtain ⟨l1', f1'⟩ := h'
  simp only at l1 l1'
  subst l1 l1'
  have hlen := hn.1
  have F1 := hide f1
  have F1' := hide f1'
  have Hn := hide hn
  clear f1 f1' hn
  have hx0 : Ext w ((w.alloc (.cells #[.slice a ts.length cap] 24)).alloc (.cells #[.slice a' ts.length cap'] 24)) := ((Ext.refl w).alloc _).alloc _
  go_enter Tryd.func7, Tryd.ntmps7
  go_wp2
  go_loopw [16] (fun i wr => ∃ k : Nat, k ≤ ts.length ∧ i = .int .i64 k ∧ Ext w wr ∧ wr.heap[w.heap.size]? = some (.cells #[.slice a ts.length cap] 24 (0, 0)) ∧ wr.heap[w.heap.size + 1]? = some (.cells #[.slice a' ts.length cap'] 24 (0, 0))) (fun i wr => ts.length - (intOf i).toNat)
  case atStart => exact ⟨0, by omega, rfl, hx0, heap_alloc2_old _ _ _, heap_alloc2_new _ _ _⟩
  case round =>
    obtain ⟨k, hk, rfl, hx, hA, hB⟩ := hrel
    have cA : wr.cell? ⟨w.heap.size, 0, none⟩ = some (.slice a ts.length cap) := cell_of_row _ _ 0 _ _ _ hA
    have cB : wr.cell? ⟨w.heap.size + 1, 0, none⟩ = some (.slice a' ts.length cap') := cell_of_row _ _ 0 _ _ _ hB
    have zB := lt_of_heap hB
    by_cases hlt : k < ts.length
    · obtain ⟨b, o, cs, ha, hr, tv, rfl, htv⟩ := (unhide F1) k ts[k] (by simp [hlt])
      obtain ⟨b', o', cs', ha', hr', tv', rfl, htv'⟩ := (unhide F1') k ts[k] (by simp [hlt])
      subst ha ha'
      have r1 : Cells5 wr b (o + k * 5) tv := range5 (hx.range hr)
      have r2 : Cells5 wr b' (o' + k * 5) tv' := range5 (hx.range hr')
      have hki : (k : Int) < (ts.length : Int) := by omega
      have htvx := htv.ext hx
      have htvx' := htv'.ext hx
      have hsm := (unhide Hn).2 ts[k] (List.getElem_mem hlt)
      have HT := hide (And.intro htvx (And.intro htvx' hsm))
      clear htv htv' htvx htvx' hsm hr hr' F1 F1'
      have hS0 : wr.cell? ⟨w.heap.size, 0, none⟩ = some (.slice (some ⟨b, o, none⟩) ts.length cap) ∧ wr.cell? ⟨w.heap.size + 1, 0, none⟩ = some (.slice (some ⟨b', o', none⟩) ts.length cap') ∧ Cells5 wr b (o + k * 5) tv ∧ Cells5 wr b' (o' + k * 5) tv' := ⟨cA, cB, r1, r2⟩
      go_wp2_with fail
      refine wp_region_X (fun w' => w'.cell? ⟨w.heap.size, 0, none⟩ = some (.slice (some ⟨b, o, none⟩) ts.length cap) ∧ w'.cell? ⟨w.heap.size + 1, 0, none⟩ = some (.slice (some ⟨b', o', none⟩) ts.length cap') ∧ Cells5 w' b (o + k * 5) tv ∧ Cells5 w' b' (o' + k * 5) tv') (fun _ => false) (by kernel_rfl) ?_
      refine wpAnyX_take (i := 0) (v := .pointer (some ⟨w.heap.size, 0, none⟩)) rfl (by kernel_rfl) (by kernel_rfl) (fun _ _ _ h => h) (.inl ⟨rfl, fun w' hS => by simp [execOp, go_sem]⟩) hS0 ?_
      simp only [Act.put, List.setIfInBounds_toArray, List.set_cons_succ, List.set_cons_zero]
      refine wpAnyX_take (i := 1) (v := .slice (some ⟨b, o, none⟩) ts.length cap) rfl (by kernel_rfl) (by kernel_rfl) (fun _ _ _ h => h) (.inl ⟨rfl, fun w' hS => by simp [execOp, go_sem, hS.1]⟩) hS0 ?_
      simp only [Act.put, List.setIfInBounds_toArray, List.set_cons_succ, List.set_cons_zero]
      refine wpAnyX_take (i := 2) (v := .int .i64 k) rfl (by kernel_rfl) (by kernel_rfl) (fun _ _ _ h => h) (.inl ⟨rfl, fun w' hS => by simp [execOp, go_sem]⟩) hS0 ?_
      simp only [Act.put, List.setIfInBounds_toArray, List.set_cons_succ, List.set_cons_zero]
      refine wpAnyX_take (i := 3) (v := .pointer (some ⟨b, o + k * 5, none⟩)) rfl (by kernel_rfl) (by kernel_rfl) (fun _ _ _ h => h) (.inl ⟨rfl, fun w' hS => by simp [execOp, go_sem, hki, hlt]⟩) hS0 ?_
      simp only [Act.put, List.setIfInBounds_toArray, List.set_cons_succ, List.set_cons_zero]
      refine wpAnyX_take (i := 4) (v := .agg #[.string tv.name, .bool tv.enum, .slice tv.fields.a tv.fields.len tv.fields.cap, .slice tv.gone.a tv.gone.len tv.gone.cap, .slice tv.items.a tv.items.len tv.items.cap]) rfl (by kernel_rfl) (by kernel_rfl) (fun _ _ _ h => h) (.inl ⟨rfl, fun w' hS => by simp [execOp, go_sem, hS.2.2.1.1, hS.2.2.1.2.1, hS.2.2.1.2.2.1, hS.2.2.1.2.2.2.1, hS.2.2.1.2.2.2.2]⟩) hS0 ?_
      simp only [Act.put, List.setIfInBounds_toArray, List.set_cons_succ, List.set_cons_zero]
      refine wpAnyX_take (i := 5) (v := .pointer (some ⟨w.heap.size + 1, 0, none⟩)) rfl (by kernel_rfl) (by kernel_rfl) (fun _ _ _ h => h) (.inl ⟨rfl, fun w' hS => by simp [execOp, go_sem]⟩) hS0 ?_
      simp only [Act.put, List.setIfInBounds_toArray, List.set_cons_succ, List.set_cons_zero]
      refine wpAnyX_take (i := 6) (v := .slice (some ⟨b', o', none⟩) ts.length cap') rfl (by kernel_rfl) (by kernel_rfl) (fun _ _ _ h => h) (.inl ⟨rfl, fun w' hS => by simp [execOp, go_sem, hS.2.1]⟩) hS0 ?_
      simp only [Act.put, List.setIfInBounds_toArray, List.set_cons_succ, List.set_cons_zero]
      refine wpAnyX_take (i := 7) (v := .int .i64 k) rfl (by kernel_rfl) (by kernel_rfl) (fun _ _ _ h => h) (.inl ⟨rfl, fun w' hS => by simp [execOp, go_sem]⟩) hS0 ?_
      simp only [Act.put, List.setIfInBounds_toArray, List.set_cons_succ, List.set_cons_zero]
      refine wpAnyX_take (i := 8) (v := .pointer (some ⟨b', o' + k * 5, none⟩)) rfl (by kernel_rfl) (by kernel_rfl) (fun _ _ _ h => h) (.inl ⟨rfl, fun w' hS => by simp [execOp, go_sem, hki, hlt]⟩) hS0 ?_
      simp only [Act.put, List.setIfInBounds_toArray, List.set_cons_succ, List.set_cons_zero]
      refine wpAnyX_take (i := 9) (v := .agg #[.string tv'.name, .bool tv'.enum, .slice tv'.fields.a tv'.fields.len tv'.fields.cap, .slice tv'.gone.a tv'.gone.len tv'.gone.cap, .slice tv'.items.a tv'.items.len tv'.items.cap]) rfl (by kernel_rfl) (by kernel_rfl) (fun _ _ _ h => h) (.inl ⟨rfl, fun w' hS => by simp [execOp, go_sem, hS.2.2.2.1, hS.2.2.2.2.1, hS.2.2.2.2.2.1, hS.2.2.2.2.2.2.1, hS.2.2.2.2.2.2.2]⟩) hS0 ?_
      simp only [Act.put, List.setIfInBounds_toArray, List.set_cons_succ, List.set_cons_zero]
      refine wpAnyX_one (j := 10) rfl (by kernel_rfl) rfl fun K hK => ?_
      go_wp2_with fail
      refine (sameType_true tv tv' _ wr.drew ((unhide HT).1.ext ((Ext.refl wr).drew)) ((unhide HT).2.1.ext ((Ext.refl wr).drew)) (unhide HT).2.2).mono ?_
      rintro e w2 ⟨rfl, hx2⟩
      have hx02 : Ext wr w2 := ((Ext.refl wr).drew).trans hx2
      have hS2 : w2.cell? ⟨w.heap.size, 0, none⟩ = some (.slice (some ⟨b, o, none⟩) ts.length cap) ∧ w2.cell? ⟨w.heap.size + 1, 0, none⟩ = some (.slice (some ⟨b', o', none⟩) ts.length cap') ∧ Cells5 w2 b (o + k * 5) tv ∧ Cells5 w2 b' (o' + k * 5) tv' :=
        ⟨hx02.cell cA, hx02.cell cB, ⟨hx02.cell r1.1, hx02.cell r1.2.1, hx02.cell r1.2.2.1, hx02.cell r1.2.2.2.1, hx02.cell r1.2.2.2.2⟩, ⟨hx02.cell r2.1, hx02.cell r2.2.1, hx02.cell r2.2.2.1, hx02.cell r2.2.2.2.1, hx02.cell r2.2.2.2.2⟩⟩
      go_wp2
      refine hK.out _ _ hS2 ?_
      clear hK K
      refine wpAnyX_one (j := 11) rfl (by kernel_rfl) rfl fun K hK => ?_
      go_wp2
      refine hK.out _ _ hS2 ?_
      clear hK K
      refine wpAnyX_end [] [] rfl (by intro j i hj; simp at hj) (by kernel_rfl) (by intro i hi; simp at hi) fun K hK => ?_
      go_wp2
      refine hK.out _ _ ?_
      clear hK K
      go_wp2
      exact ⟨⟨k + 1, by omega, by go_num, hx.trans hx02, hx02.heap hA, hx02.heap hB⟩, by simp [intOf]; omega⟩
    · go_wp2
      go_ret
      exact ⟨rfl, hx⟩
end Go.Proofs.YtblkgaoafejefaaDoor
