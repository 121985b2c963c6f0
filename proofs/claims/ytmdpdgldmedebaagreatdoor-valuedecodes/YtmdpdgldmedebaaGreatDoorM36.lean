import Derived.Test.YtmdpdgldmedebaaGreatDoorM35
namespace Go.Proofs.YtmdpdgldmedebaaGreatDoor
set_option linter.unusedSimpArgs false
set_option linter.unusedVariables false
set_option linter.unusedSimpArgs false
set_option linter.unusedVariables false
open Go.RowKit

set_option maxHeartbeats 1600000 in
theorem wireKind_any (k : Int) (w : World) (h0 : 0 ≤ k) (h5 : k ≤ 5) : Calls Tryz.prog 44 #[.int .i64 k] w fun e w' => e = .returned (.int .i64 (kindN k)) ∧ Ext w w' := by
  have hk : k = 0 ∨ k = 1 ∨ k = 2 ∨ k = 3 ∨ k = 4 ∨ k = 5 := by omega
  clear h0 h5
  rcases hk with rfl | rfl | rfl | rfl | rfl | rfl
  all_goals
    go_enter Tryz.func44, Tryz.ntmps44
    go_wp2
    go_ret
    exact ⟨rfl, (Ext.refl w).alloc _⟩
theorem hasTo_all (l : List ItemM) (n : Int) : hasTo l n l.length = l.any fun i => i.n == n := by
  unfold hasTo; rw [List.take_of_length_le (Nat.le_refl _)]
set_option maxHeartbeats 3200000 in
theorem single_other (sb : SV) (ts : BookM) (fid : Int) (fn ft : ByteArray) (fk fr kind n : Int) (s : ByteArray) (ids l : SV) (w : World) (hk : 1 ≤ fk ∧ fk ≤ 5) (hne : ¬ kind = kindN fk) :
    Calls Tryz.prog 54 #[.agg #[.slice sb.a sb.len sb.cap], .agg #[.int .i64 fid, .string fn, .string ft, .int .i64 fk, .int .i64 fr], .agg #[.int .i64 kind, .int .i64 n, .string s, .slice ids.a ids.len ids.cap, .slice l.a l.len l.cap]] w fun e w' => e = .returned (.int .i64 (wrongOneN ts ⟨fid, fn, ft, fk, fr⟩ kind n s ids.len l.len)) ∧ Ext w w' := by
  obtain ⟨w0, hw0⟩ : ∃ w0, w0 = ((w.alloc (.cells #[.slice sb.a sb.len sb.cap] 24)).alloc (.cells #[.int .i64 fid, .string fn, .string ft, .int .i64 fk, .int .i64 fr] 56)).alloc (.cells #[.int .i64 kind, .int .i64 n, .string s, .slice ids.a ids.len ids.cap, .slice l.a l.len l.cap] 28) := ⟨_, rfl⟩
  obtain ⟨hx0, hz, r0, r1, r2⟩ := heaps3 hw0
  have E : Hid (wrongOneN ts ⟨fid, fn, ft, fk, fr⟩ kind n s ids.len l.len = 5) := by unfold Hid wrongOneN; rw [if_pos hne]
  generalize wrongOneN ts ⟨fid, fn, ft, fk, fr⟩ kind n s ids.len l.len = R at *
  have HW0 := hide hw0
  clear hw0
  go_enter Tryz.func54, Tryz.ntmps54
  go_wp2_with fail
  rw [← unhide HW0]
  obtain ⟨f0, f1, f2, f3, f4, ff⟩ := row5 r1
  obtain ⟨v0, v1, v2, v3, v4, vf⟩ := row5 r2
  have b0 : w0.cell? ⟨w.heap.size, 0, none⟩ = some (.slice sb.a sb.len sb.cap) := cell_of_row _ _ 0 _ _ _ r0
  have hS0 : Ext w0 w0.drew := (Ext.refl w0).drew
  refine wp_region_X (fun w' => Ext w0 w') (fun _ => false) (by kernel_rfl) ?_
  refine wpAnyX_take (i := 0) (v := .pointer (some ⟨w.heap.size + 1 + 1, 0, none⟩)) rfl (by kernel_rfl) (by kernel_rfl) (fun _ _ _ h => h) (.inl ⟨rfl, fun w' hS => by simp [execOp, go_sem]⟩) (hS0) ?_
  simp only [Act.put, List.getElem_toArray, List.getElem_cons_zero, List.getElem_cons_succ, List.setIfInBounds_toArray, List.set_cons_succ, List.set_cons_zero]
  refine wpAnyX_take (i := 1) (v := .int .i64 kind) rfl (by kernel_rfl) (by kernel_rfl) (fun _ _ _ h => h) (.inl ⟨rfl, fun w' hS => by simp [execOp, go_sem, hS.cell v0]⟩) (hS0) ?_
  simp only [Act.put, List.getElem_toArray, List.getElem_cons_zero, List.getElem_cons_succ, List.setIfInBounds_toArray, List.set_cons_succ, List.set_cons_zero]
  refine wpAnyX_take (i := 2) (v := .pointer (some ⟨w.heap.size + 1, 3, none⟩)) rfl (by kernel_rfl) (by kernel_rfl) (fun _ _ _ h => h) (.inl ⟨rfl, fun w' hS => by simp [execOp, go_sem]⟩) (hS0) ?_
  simp only [Act.put, List.getElem_toArray, List.getElem_cons_zero, List.getElem_cons_succ, List.setIfInBounds_toArray, List.set_cons_succ, List.set_cons_zero]
  refine wpAnyX_take (i := 3) (v := .int .i64 fk) rfl (by kernel_rfl) (by kernel_rfl) (fun _ _ _ h => h) (.inl ⟨rfl, fun w' hS => by simp [execOp, go_sem, hS.cell f3]⟩) (hS0) ?_
  simp only [Act.put, List.getElem_toArray, List.getElem_cons_zero, List.getElem_cons_succ, List.setIfInBounds_toArray, List.set_cons_succ, List.set_cons_zero]
  refine wpAnyX_one (j := 4) rfl (by kernel_rfl) rfl fun K hK => ?_
  go_wp2_with fail
  refine (wireKind_any fk _ (by omega) (by omega)).mono ?_
  rintro e w1 ⟨rfl, hx1⟩
  have hS1 := hS0.trans hx1
  go_wp2
  refine hK.out _ _ (hS1) ?_
  clear hK K
  refine wpAnyX_one (j := 5) rfl (by kernel_rfl) rfl fun K hK => ?_
  go_wp2
  refine hK.out _ _ (hS1) ?_
  clear hK K
  refine wpAnyX_end [] [] rfl (by intro j i hj; simp at hj) (by kernel_rfl) (by intro i hi; simp at hi) fun K hK => ?_
  go_wp2
  refine hK.out _ _ ?_
  clear hK K
  have hE0 : Ext w w1 := hx0.trans hS1
  have hkb : decide (kind = kindN fk) = false := by simpa using hne
  go_wp2
  go_ret
  exact ⟨ret_int (unhide E).symm, hE0⟩
set_option maxHeartbeats 6400000 in
set_option maxRecDepth 10000 in
theorem single_bad1 (sb : SV) (ts : BookM) (fid : Int) (fn ft : ByteArray) (fr n : Int) (s : ByteArray) (ids l : SV) (w : World) (hok : ¬ (s.toList = [] ∧ ids.len = 0 ∧ l.len = 0)) :
    Calls Tryz.prog 54 #[.agg #[.slice sb.a sb.len sb.cap], .agg #[.int .i64 fid, .string fn, .string ft, .int .i64 1, .int .i64 fr], .agg #[.int .i64 0, .int .i64 n, .string s, .slice ids.a ids.len ids.cap, .slice l.a l.len l.cap]] w fun e w' => e = .returned (.int .i64 (wrongOneN ts ⟨fid, fn, ft, 1, fr⟩ 0 n s ids.len l.len)) ∧ Ext w w' := by
  obtain ⟨w0, hw0⟩ : ∃ w0, w0 = ((w.alloc (.cells #[.slice sb.a sb.len sb.cap] 24)).alloc (.cells #[.int .i64 fid, .string fn, .string ft, .int .i64 1, .int .i64 fr] 56)).alloc (.cells #[.int .i64 0, .int .i64 n, .string s, .slice ids.a ids.len ids.cap, .slice l.a l.len l.cap] 28) := ⟨_, rfl⟩
  obtain ⟨hx0, hz, r0, r1, r2⟩ := heaps3 hw0
  have E : Hid (wrongOneN ts ⟨fid, fn, ft, 1, fr⟩ 0 n s ids.len l.len = 1) := by
    unfold Hid wrongOneN
    rw [if_neg (show ¬ ((0 : Int) ≠ kindN 1) from by decide), if_pos ?_]
    unfold oneKindB
    simp only [Bool.and_eq_false_iff, Bool.not_eq_false', Bool.and_eq_true, decide_eq_true_eq, Bool.or_eq_true, Bool.or_eq_false_iff, decide_eq_false_iff_not]
    have hse2 : (s.toList = []) ↔ s.toList.isEmpty = true := List.isEmpty_iff.symm
    rw [hse2] at hok
    cases hse : s.toList.isEmpty <;> simp_all <;> omega
  generalize wrongOneN ts ⟨fid, fn, ft, 1, fr⟩ 0 n s ids.len l.len = R at *
  have HN := hide hok
  have HW0 := hide hw0
  clear hw0 hok
  go_enter Tryz.func54, Tryz.ntmps54
  go_wp2_with fail
  rw [← unhide HW0]
  obtain ⟨f0, f1, f2, f3, f4, ff⟩ := row5 r1
  obtain ⟨v0, v1, v2, v3, v4, vf⟩ := row5 r2
  have b0 : w0.cell? ⟨w.heap.size, 0, none⟩ = some (.slice sb.a sb.len sb.cap) := cell_of_row _ _ 0 _ _ _ r0
  have hS0 : Ext w0 w0.drew := (Ext.refl w0).drew
  refine wp_region_X (fun w' => Ext w0 w') (fun _ => false) (by kernel_rfl) ?_
  refine wpAnyX_take (i := 0) (v := .pointer (some ⟨w.heap.size + 1 + 1, 0, none⟩)) rfl (by kernel_rfl) (by kernel_rfl) (fun _ _ _ h => h) (.inl ⟨rfl, fun w' hS => by simp [execOp, go_sem]⟩) (hS0) ?_
  simp only [Act.put, List.getElem_toArray, List.getElem_cons_zero, List.getElem_cons_succ, List.setIfInBounds_toArray, List.set_cons_succ, List.set_cons_zero]
  refine wpAnyX_take (i := 1) (v := .int .i64 0) rfl (by kernel_rfl) (by kernel_rfl) (fun _ _ _ h => h) (.inl ⟨rfl, fun w' hS => by simp [execOp, go_sem, hS.cell v0]⟩) (hS0) ?_
  simp only [Act.put, List.getElem_toArray, List.getElem_cons_zero, List.getElem_cons_succ, List.setIfInBounds_toArray, List.set_cons_succ, List.set_cons_zero]
  refine wpAnyX_take (i := 2) (v := .pointer (some ⟨w.heap.size + 1, 3, none⟩)) rfl (by kernel_rfl) (by kernel_rfl) (fun _ _ _ h => h) (.inl ⟨rfl, fun w' hS => by simp [execOp, go_sem]⟩) (hS0) ?_
  simp only [Act.put, List.getElem_toArray, List.getElem_cons_zero, List.getElem_cons_succ, List.setIfInBounds_toArray, List.set_cons_succ, List.set_cons_zero]
  refine wpAnyX_take (i := 3) (v := .int .i64 1) rfl (by kernel_rfl) (by kernel_rfl) (fun _ _ _ h => h) (.inl ⟨rfl, fun w' hS => by simp [execOp, go_sem, hS.cell f3]⟩) (hS0) ?_
  simp only [Act.put, List.getElem_toArray, List.getElem_cons_zero, List.getElem_cons_succ, List.setIfInBounds_toArray, List.set_cons_succ, List.set_cons_zero]
  refine wpAnyX_one (j := 4) rfl (by kernel_rfl) rfl fun K hK => ?_
  go_wp2_with fail
  refine (wireKind_any 1 _ (by decide) (by decide)).mono ?_
  rintro e w1 ⟨rfl, hx1⟩
  have hS1 := hS0.trans hx1
  go_wp2
  refine hK.out _ _ (hS1) ?_
  clear hK K
  refine wpAnyX_one (j := 5) rfl (by kernel_rfl) rfl fun K hK => ?_
  go_wp2
  refine hK.out _ _ (hS1) ?_
  clear hK K
  refine wpAnyX_end [] [] rfl (by intro j i hj; simp at hj) (by kernel_rfl) (by intro i hi; simp at hi) fun K hK => ?_
  go_wp2
  refine hK.out _ _ ?_
  clear hK K
  have hE0 : Ext w w1 := hx0.trans hS1
  obtain ⟨g0, g1, g2, g3, g4, g5⟩ : w1.cell? ⟨w.heap.size, 0, none⟩ = some (.slice sb.a sb.len sb.cap) ∧ w1.cell? ⟨w.heap.size + 1, 0, none⟩ = some (.int .i64 fid) ∧ w1.cell? ⟨w.heap.size + 1, 1, none⟩ = some (.string fn) ∧ w1.cell? ⟨w.heap.size + 1, 2, none⟩ = some (.string ft) ∧ w1.cell? ⟨w.heap.size + 1, 3, none⟩ = some (.int .i64 1) ∧ w1.cell? ⟨w.heap.size + 1, 4, none⟩ = some (.int .i64 fr) := ⟨hS1.cell b0, hS1.cell f0, hS1.cell f1, hS1.cell f2, hS1.cell f3, hS1.cell f4⟩
  obtain ⟨q0, q1, q2, q3, q4⟩ : w1.cell? ⟨w.heap.size + 1 + 1, 0, none⟩ = some (.int .i64 0) ∧ w1.cell? ⟨w.heap.size + 1 + 1, 1, none⟩ = some (.int .i64 n) ∧ w1.cell? ⟨w.heap.size + 1 + 1, 2, none⟩ = some (.string s) ∧ w1.cell? ⟨w.heap.size + 1 + 1, 3, none⟩ = some (.slice ids.a ids.len ids.cap) ∧ w1.cell? ⟨w.heap.size + 1 + 1, 4, none⟩ = some (.slice l.a l.len l.cap) := ⟨hS1.cell v0, hS1.cell v1, hS1.cell v2, hS1.cell v3, hS1.cell v4⟩
  clear b0 f0 f1 f2 f3 f4 ff v0 v1 v2 v3 v4 vf
  go_wp2_with fail
  all_goals first
    | (go_ret; exact ⟨ret_int (unhide E).symm, hE0⟩)
    | (have := unhide HN; exfalso; simp_all; done)
    | (have := unhide HN; exfalso; simp_all; omega)
set_option maxHeartbeats 6400000 in
set_option maxRecDepth 10000 in
theorem single_good1 (sb : SV) (ts : BookM) (fid : Int) (fn ft : ByteArray) (fr : Int) (w : World) (hb : BookAt w sb ts) (hn : ts.Small) (n : Int) (ia : Option Addr) (ic : Nat) (la : Option Addr) (lc : Nat) :
    Calls Tryz.prog 54 #[.agg #[.slice sb.a sb.len sb.cap], .agg #[.int .i64 fid, .string fn, .string ft, .int .i64 1, .int .i64 fr], .agg #[.int .i64 0, .int .i64 n, .string ⟨#[]⟩, .slice ia 0 ic, .slice la 0 lc]] w fun e w' => e = .returned (.int .i64 (wrongOneN ts ⟨fid, fn, ft, 1, fr⟩ 0 n ⟨#[]⟩ 0 0)) ∧ Ext w w' := by
  obtain ⟨w0, hw0⟩ : ∃ w0, w0 = ((w.alloc (.cells #[.slice sb.a sb.len sb.cap] 24)).alloc (.cells #[.int .i64 fid, .string fn, .string ft, .int .i64 1, .int .i64 fr] 56)).alloc (.cells #[.int .i64 0, .int .i64 n, .string ⟨#[]⟩, .slice ia 0 ic, .slice la 0 lc] 28) := ⟨_, rfl⟩
  obtain ⟨hx0, hz, r0, r1, r2⟩ := heaps3 hw0
  have hb0 := hide (hb.ext hx0)
  have E : Hid (wrongOneN ts ⟨fid, fn, ft, 1, fr⟩ 0 n ⟨#[]⟩ 0 0 = (if n ≠ 0 ∧ n ≠ 1 then 6 else 0)) := by
    unfold Hid wrongOneN
    dsimp only
    rw [if_neg (show ¬ ((0 : Int) ≠ kindN 1) from by decide), if_neg (by unfold oneKindB; simp)]
    simp only [show ¬ ((1 : Int) = 2) by decide, show ¬ ((1 : Int) = 3) by decide, show ¬ ((1 : Int) = 4) by decide, if_true, if_false]
  generalize wrongOneN ts ⟨fid, fn, ft, 1, fr⟩ 0 n ⟨#[]⟩ 0 0 = R at *
  have HT := hide (fun w2 hx => refTypeOf_any sb ts ft w2 ((unhide hb0).ext hx) hn.1)
  have HW0 := hide hw0
  clear hw0 hb
  go_enter Tryz.func54, Tryz.ntmps54
  go_wp2_with fail
  rw [← unhide HW0]
  obtain ⟨f0, f1, f2, f3, f4, ff⟩ := row5 r1
  obtain ⟨v0, v1, v2, v3, v4, vf⟩ := row5 r2
  have b0 : w0.cell? ⟨w.heap.size, 0, none⟩ = some (.slice sb.a sb.len sb.cap) := cell_of_row _ _ 0 _ _ _ r0
  have hS0 : Ext w0 w0.drew := (Ext.refl w0).drew
  refine wp_region_X (fun w' => Ext w0 w') (fun _ => false) (by kernel_rfl) ?_
  refine wpAnyX_take (i := 0) (v := .pointer (some ⟨w.heap.size + 1 + 1, 0, none⟩)) rfl (by kernel_rfl) (by kernel_rfl) (fun _ _ _ h => h) (.inl ⟨rfl, fun w' hS => by simp [execOp, go_sem]⟩) (hS0) ?_
  simp only [Act.put, List.getElem_toArray, List.getElem_cons_zero, List.getElem_cons_succ, List.setIfInBounds_toArray, List.set_cons_succ, List.set_cons_zero]
  refine wpAnyX_take (i := 1) (v := .int .i64 0) rfl (by kernel_rfl) (by kernel_rfl) (fun _ _ _ h => h) (.inl ⟨rfl, fun w' hS => by simp [execOp, go_sem, hS.cell v0]⟩) (hS0) ?_
  simp only [Act.put, List.getElem_toArray, List.getElem_cons_zero, List.getElem_cons_succ, List.setIfInBounds_toArray, List.set_cons_succ, List.set_cons_zero]
  refine wpAnyX_take (i := 2) (v := .pointer (some ⟨w.heap.size + 1, 3, none⟩)) rfl (by kernel_rfl) (by kernel_rfl) (fun _ _ _ h => h) (.inl ⟨rfl, fun w' hS => by simp [execOp, go_sem]⟩) (hS0) ?_
  simp only [Act.put, List.getElem_toArray, List.getElem_cons_zero, List.getElem_cons_succ, List.setIfInBounds_toArray, List.set_cons_succ, List.set_cons_zero]
  refine wpAnyX_take (i := 3) (v := .int .i64 1) rfl (by kernel_rfl) (by kernel_rfl) (fun _ _ _ h => h) (.inl ⟨rfl, fun w' hS => by simp [execOp, go_sem, hS.cell f3]⟩) (hS0) ?_
  simp only [Act.put, List.getElem_toArray, List.getElem_cons_zero, List.getElem_cons_succ, List.setIfInBounds_toArray, List.set_cons_succ, List.set_cons_zero]
  refine wpAnyX_one (j := 4) rfl (by kernel_rfl) rfl fun K hK => ?_
  go_wp2_with fail
  refine (wireKind_any 1 _ (by decide) (by decide)).mono ?_
  rintro e w1 ⟨rfl, hx1⟩
  have hS1 := hS0.trans hx1
  go_wp2
  refine hK.out _ _ (hS1) ?_
  clear hK K
  refine wpAnyX_one (j := 5) rfl (by kernel_rfl) rfl fun K hK => ?_
  go_wp2
  refine hK.out _ _ (hS1) ?_
  clear hK K
  refine wpAnyX_end [] [] rfl (by intro j i hj; simp at hj) (by kernel_rfl) (by intro i hi; simp at hi) fun K hK => ?_
  go_wp2
  refine hK.out _ _ ?_
  clear hK K
  have hE0 : Ext w w1 := hx0.trans hS1
  obtain ⟨g0, g1, g2, g3, g4, g5⟩ : w1.cell? ⟨w.heap.size, 0, none⟩ = some (.slice sb.a sb.len sb.cap) ∧ w1.cell? ⟨w.heap.size + 1, 0, none⟩ = some (.int .i64 fid) ∧ w1.cell? ⟨w.heap.size + 1, 1, none⟩ = some (.string fn) ∧ w1.cell? ⟨w.heap.size + 1, 2, none⟩ = some (.string ft) ∧ w1.cell? ⟨w.heap.size + 1, 3, none⟩ = some (.int .i64 1) ∧ w1.cell? ⟨w.heap.size + 1, 4, none⟩ = some (.int .i64 fr) := ⟨hS1.cell b0, hS1.cell f0, hS1.cell f1, hS1.cell f2, hS1.cell f3, hS1.cell f4⟩
  obtain ⟨q0, q1, q2, q3, q4⟩ : w1.cell? ⟨w.heap.size + 1 + 1, 0, none⟩ = some (.int .i64 0) ∧ w1.cell? ⟨w.heap.size + 1 + 1, 1, none⟩ = some (.int .i64 n) ∧ w1.cell? ⟨w.heap.size + 1 + 1, 2, none⟩ = some (.string ⟨#[]⟩) ∧ w1.cell? ⟨w.heap.size + 1 + 1, 3, none⟩ = some (.slice ia 0 ic) ∧ w1.cell? ⟨w.heap.size + 1 + 1, 4, none⟩ = some (.slice la 0 lc) := ⟨hS1.cell v0, hS1.cell v1, hS1.cell v2, hS1.cell v3, hS1.cell v4⟩
  clear b0 f0 f1 f2 f3 f4 ff v0 v1 v2 v3 v4 vf
  by_cases hn1 : n = 0 ∨ n = 1
  · have E2 : Hid (R = 0) := by unfold Hid; rw [unhide E, if_neg (by omega)]
    have b1 : ¬ n < 0 := by omega
    have b2 : ¬ 1 < n := by omega
    clear E hn1
    go_wp2_with fail
    refine (unhide HT w1 hS1).mono ?_
    rintro e w2 ⟨tv, rfl, ht, hx2⟩
    clear ht
    obtain ⟨u0, u1⟩ : w2.cell? ⟨w.heap.size + 1, 3, none⟩ = some (.int .i64 1) ∧ w2.cell? ⟨w.heap.size + 1 + 1, 1, none⟩ = some (.int .i64 n) := ⟨hx2.cell g4, hx2.cell q1⟩
    have z0 := World.block_lt_of_cell? w2 _ u0
    have z1 := World.block_lt_of_cell? w2 _ u1
    clear q0 q1 q2 q3 q4 g0 g1 g2 g3 g4 g5
    go_wp2
    go_ret
    exact ⟨ret_int (unhide E2).symm, (hE0.trans hx2).alloc _⟩
  · have E2 : Hid (R = 6) := by unfold Hid; rw [unhide E, if_pos (by omega)]
    have b1 : n < 0 ∨ 1 < n := by omega
    clear E hn1
    rcases b1 with b1 | b1
    all_goals
      go_wp2_with fail
      go_ret
      exact ⟨ret_int (unhide E2).symm, hE0⟩
set_option maxHeartbeats 6400000 in
set_option maxRecDepth 10000 in
theorem single_bad2 (sb : SV) (ts : BookM) (fid : Int) (fn ft : ByteArray) (fr n : Int) (s : ByteArray) (ids l : SV) (w : World) (hok : ¬ (s.toList = [] ∧ ids.len = 0 ∧ l.len = 0)) :
    Calls Tryz.prog 54 #[.agg #[.slice sb.a sb.len sb.cap], .agg #[.int .i64 fid, .string fn, .string ft, .int .i64 2, .int .i64 fr], .agg #[.int .i64 0, .int .i64 n, .string s, .slice ids.a ids.len ids.cap, .slice l.a l.len l.cap]] w fun e w' => e = .returned (.int .i64 (wrongOneN ts ⟨fid, fn, ft, 2, fr⟩ 0 n s ids.len l.len)) ∧ Ext w w' := by
  obtain ⟨w0, hw0⟩ : ∃ w0, w0 = ((w.alloc (.cells #[.slice sb.a sb.len sb.cap] 24)).alloc (.cells #[.int .i64 fid, .string fn, .string ft, .int .i64 2, .int .i64 fr] 56)).alloc (.cells #[.int .i64 0, .int .i64 n, .string s, .slice ids.a ids.len ids.cap, .slice l.a l.len l.cap] 28) := ⟨_, rfl⟩
  obtain ⟨hx0, hz, r0, r1, r2⟩ := heaps3 hw0
  have E : Hid (wrongOneN ts ⟨fid, fn, ft, 2, fr⟩ 0 n s ids.len l.len = 1) := by
    unfold Hid wrongOneN
    rw [if_neg (show ¬ ((0 : Int) ≠ kindN 2) from by decide), if_pos ?_]
    unfold oneKindB
    simp only [Bool.and_eq_false_iff, Bool.not_eq_false', Bool.and_eq_true, decide_eq_true_eq, Bool.or_eq_true, Bool.or_eq_false_iff, decide_eq_false_iff_not]
    have hse2 : (s.toList = []) ↔ s.toList.isEmpty = true := List.isEmpty_iff.symm
    rw [hse2] at hok
    cases hse : s.toList.isEmpty <;> simp_all <;> omega
  generalize wrongOneN ts ⟨fid, fn, ft, 2, fr⟩ 0 n s ids.len l.len = R at *
  have HN := hide hok
  have HW0 := hide hw0
  clear hw0 hok
  go_enter Tryz.func54, Tryz.ntmps54
  go_wp2_with fail
  rw [← unhide HW0]
  obtain ⟨f0, f1, f2, f3, f4, ff⟩ := row5 r1
  obtain ⟨v0, v1, v2, v3, v4, vf⟩ := row5 r2
  have b0 : w0.cell? ⟨w.heap.size, 0, none⟩ = some (.slice sb.a sb.len sb.cap) := cell_of_row _ _ 0 _ _ _ r0
  have hS0 : Ext w0 w0.drew := (Ext.refl w0).drew
  refine wp_region_X (fun w' => Ext w0 w') (fun _ => false) (by kernel_rfl) ?_
  refine wpAnyX_take (i := 0) (v := .pointer (some ⟨w.heap.size + 1 + 1, 0, none⟩)) rfl (by kernel_rfl) (by kernel_rfl) (fun _ _ _ h => h) (.inl ⟨rfl, fun w' hS => by simp [execOp, go_sem]⟩) (hS0) ?_
  simp only [Act.put, List.getElem_toArray, List.getElem_cons_zero, List.getElem_cons_succ, List.setIfInBounds_toArray, List.set_cons_succ, List.set_cons_zero]
  refine wpAnyX_take (i := 1) (v := .int .i64 0) rfl (by kernel_rfl) (by kernel_rfl) (fun _ _ _ h => h) (.inl ⟨rfl, fun w' hS => by simp [execOp, go_sem, hS.cell v0]⟩) (hS0) ?_
  simp only [Act.put, List.getElem_toArray, List.getElem_cons_zero, List.getElem_cons_succ, List.setIfInBounds_toArray, List.set_cons_succ, List.set_cons_zero]
  refine wpAnyX_take (i := 2) (v := .pointer (some ⟨w.heap.size + 1, 3, none⟩)) rfl (by kernel_rfl) (by kernel_rfl) (fun _ _ _ h => h) (.inl ⟨rfl, fun w' hS => by simp [execOp, go_sem]⟩) (hS0) ?_
  simp only [Act.put, List.getElem_toArray, List.getElem_cons_zero, List.getElem_cons_succ, List.setIfInBounds_toArray, List.set_cons_succ, List.set_cons_zero]
  refine wpAnyX_take (i := 3) (v := .int .i64 2) rfl (by kernel_rfl) (by kernel_rfl) (fun _ _ _ h => h) (.inl ⟨rfl, fun w' hS => by simp [execOp, go_sem, hS.cell f3]⟩) (hS0) ?_
  simp only [Act.put, List.getElem_toArray, List.getElem_cons_zero, List.getElem_cons_succ, List.setIfInBounds_toArray, List.set_cons_succ, List.set_cons_zero]
  refine wpAnyX_one (j := 4) rfl (by kernel_rfl) rfl fun K hK => ?_
  go_wp2_with fail
  refine (wireKind_any 2 _ (by decide) (by decide)).mono ?_
  rintro e w1 ⟨rfl, hx1⟩
  have hS1 := hS0.trans hx1
  go_wp2
  refine hK.out _ _ (hS1) ?_
  clear hK K
  refine wpAnyX_one (j := 5) rfl (by kernel_rfl) rfl fun K hK => ?_
  go_wp2
  refine hK.out _ _ (hS1) ?_
  clear hK K
  refine wpAnyX_end [] [] rfl (by intro j i hj; simp at hj) (by kernel_rfl) (by intro i hi; simp at hi) fun K hK => ?_
  go_wp2
  refine hK.out _ _ ?_
  clear hK K
  have hE0 : Ext w w1 := hx0.trans hS1
  obtain ⟨g0, g1, g2, g3, g4, g5⟩ : w1.cell? ⟨w.heap.size, 0, none⟩ = some (.slice sb.a sb.len sb.cap) ∧ w1.cell? ⟨w.heap.size + 1, 0, none⟩ = some (.int .i64 fid) ∧ w1.cell? ⟨w.heap.size + 1, 1, none⟩ = some (.string fn) ∧ w1.cell? ⟨w.heap.size + 1, 2, none⟩ = some (.string ft) ∧ w1.cell? ⟨w.heap.size + 1, 3, none⟩ = some (.int .i64 2) ∧ w1.cell? ⟨w.heap.size + 1, 4, none⟩ = some (.int .i64 fr) := ⟨hS1.cell b0, hS1.cell f0, hS1.cell f1, hS1.cell f2, hS1.cell f3, hS1.cell f4⟩
  obtain ⟨q0, q1, q2, q3, q4⟩ : w1.cell? ⟨w.heap.size + 1 + 1, 0, none⟩ = some (.int .i64 0) ∧ w1.cell? ⟨w.heap.size + 1 + 1, 1, none⟩ = some (.int .i64 n) ∧ w1.cell? ⟨w.heap.size + 1 + 1, 2, none⟩ = some (.string s) ∧ w1.cell? ⟨w.heap.size + 1 + 1, 3, none⟩ = some (.slice ids.a ids.len ids.cap) ∧ w1.cell? ⟨w.heap.size + 1 + 1, 4, none⟩ = some (.slice l.a l.len l.cap) := ⟨hS1.cell v0, hS1.cell v1, hS1.cell v2, hS1.cell v3, hS1.cell v4⟩
  clear b0 f0 f1 f2 f3 f4 ff v0 v1 v2 v3 v4 vf
  go_wp2_with fail
  all_goals first
    | (go_ret; exact ⟨ret_int (unhide E).symm, hE0⟩)
    | (have := unhide HN; exfalso; simp_all; done)
    | (have := unhide HN; exfalso; simp_all; omega)
set_option maxHeartbeats 6400000 in
set_option maxRecDepth 10000 in
theorem single_good2 (sb : SV) (ts : BookM) (fid : Int) (fn ft : ByteArray) (fr : Int) (w : World) (hb : BookAt w sb ts) (hn : ts.Small) (n : Int) (ia : Option Addr) (ic : Nat) (la : Option Addr) (lc : Nat) :
    Calls Tryz.prog 54 #[.agg #[.slice sb.a sb.len sb.cap], .agg #[.int .i64 fid, .string fn, .string ft, .int .i64 2, .int .i64 fr], .agg #[.int .i64 0, .int .i64 n, .string ⟨#[]⟩, .slice ia 0 ic, .slice la 0 lc]] w fun e w' => e = .returned (.int .i64 (wrongOneN ts ⟨fid, fn, ft, 2, fr⟩ 0 n ⟨#[]⟩ 0 0)) ∧ Ext w w' := by
  obtain ⟨w0, hw0⟩ : ∃ w0, w0 = ((w.alloc (.cells #[.slice sb.a sb.len sb.cap] 24)).alloc (.cells #[.int .i64 fid, .string fn, .string ft, .int .i64 2, .int .i64 fr] 56)).alloc (.cells #[.int .i64 0, .int .i64 n, .string ⟨#[]⟩, .slice ia 0 ic, .slice la 0 lc] 28) := ⟨_, rfl⟩
  obtain ⟨hx0, hz, r0, r1, r2⟩ := heaps3 hw0
  have hb0 := hide (hb.ext hx0)
  have E : Hid (wrongOneN ts ⟨fid, fn, ft, 2, fr⟩ 0 n ⟨#[]⟩ 0 0 = (if n < -1099511627776 ∨ 1099511627776 < n then 2 else 0)) := by
    unfold Hid wrongOneN
    dsimp only
    rw [if_neg (show ¬ ((0 : Int) ≠ kindN 2) from by decide), if_neg (by unfold oneKindB; simp)]
    simp only [show ¬ ((2 : Int) = 1) by decide, show ¬ ((2 : Int) = 3) by decide, show ¬ ((2 : Int) = 4) by decide, if_true, if_false]
  generalize wrongOneN ts ⟨fid, fn, ft, 2, fr⟩ 0 n ⟨#[]⟩ 0 0 = R at *
  have HT := hide (fun w2 hx => refTypeOf_any sb ts ft w2 ((unhide hb0).ext hx) hn.1)
  have HW0 := hide hw0
  clear hw0 hb
  go_enter Tryz.func54, Tryz.ntmps54
  go_wp2_with fail
  rw [← unhide HW0]
  obtain ⟨f0, f1, f2, f3, f4, ff⟩ := row5 r1
  obtain ⟨v0, v1, v2, v3, v4, vf⟩ := row5 r2
  have b0 : w0.cell? ⟨w.heap.size, 0, none⟩ = some (.slice sb.a sb.len sb.cap) := cell_of_row _ _ 0 _ _ _ r0
  have hS0 : Ext w0 w0.drew := (Ext.refl w0).drew
  refine wp_region_X (fun w' => Ext w0 w') (fun _ => false) (by kernel_rfl) ?_
  refine wpAnyX_take (i := 0) (v := .pointer (some ⟨w.heap.size + 1 + 1, 0, none⟩)) rfl (by kernel_rfl) (by kernel_rfl) (fun _ _ _ h => h) (.inl ⟨rfl, fun w' hS => by simp [execOp, go_sem]⟩) (hS0) ?_
  simp only [Act.put, List.getElem_toArray, List.getElem_cons_zero, List.getElem_cons_succ, List.setIfInBounds_toArray, List.set_cons_succ, List.set_cons_zero]
  refine wpAnyX_take (i := 1) (v := .int .i64 0) rfl (by kernel_rfl) (by kernel_rfl) (fun _ _ _ h => h) (.inl ⟨rfl, fun w' hS => by simp [execOp, go_sem, hS.cell v0]⟩) (hS0) ?_
  simp only [Act.put, List.getElem_toArray, List.getElem_cons_zero, List.getElem_cons_succ, List.setIfInBounds_toArray, List.set_cons_succ, List.set_cons_zero]
  refine wpAnyX_take (i := 2) (v := .pointer (some ⟨w.heap.size + 1, 3, none⟩)) rfl (by kernel_rfl) (by kernel_rfl) (fun _ _ _ h => h) (.inl ⟨rfl, fun w' hS => by simp [execOp, go_sem]⟩) (hS0) ?_
  simp only [Act.put, List.getElem_toArray, List.getElem_cons_zero, List.getElem_cons_succ, List.setIfInBounds_toArray, List.set_cons_succ, List.set_cons_zero]
  refine wpAnyX_take (i := 3) (v := .int .i64 2) rfl (by kernel_rfl) (by kernel_rfl) (fun _ _ _ h => h) (.inl ⟨rfl, fun w' hS => by simp [execOp, go_sem, hS.cell f3]⟩) (hS0) ?_
  simp only [Act.put, List.getElem_toArray, List.getElem_cons_zero, List.getElem_cons_succ, List.setIfInBounds_toArray, List.set_cons_succ, List.set_cons_zero]
  refine wpAnyX_one (j := 4) rfl (by kernel_rfl) rfl fun K hK => ?_
  go_wp2_with fail
  refine (wireKind_any 2 _ (by decide) (by decide)).mono ?_
  rintro e w1 ⟨rfl, hx1⟩
  have hS1 := hS0.trans hx1
  go_wp2
  refine hK.out _ _ (hS1) ?_
  clear hK K
  refine wpAnyX_one (j := 5) rfl (by kernel_rfl) rfl fun K hK => ?_
  go_wp2
  refine hK.out _ _ (hS1) ?_
  clear hK K
  refine wpAnyX_end [] [] rfl (by intro j i hj; simp at hj) (by kernel_rfl) (by intro i hi; simp at hi) fun K hK => ?_
  go_wp2
  refine hK.out _ _ ?_
  clear hK K
  have hE0 : Ext w w1 := hx0.trans hS1
  obtain ⟨g0, g1, g2, g3, g4, g5⟩ : w1.cell? ⟨w.heap.size, 0, none⟩ = some (.slice sb.a sb.len sb.cap) ∧ w1.cell? ⟨w.heap.size + 1, 0, none⟩ = some (.int .i64 fid) ∧ w1.cell? ⟨w.heap.size + 1, 1, none⟩ = some (.string fn) ∧ w1.cell? ⟨w.heap.size + 1, 2, none⟩ = some (.string ft) ∧ w1.cell? ⟨w.heap.size + 1, 3, none⟩ = some (.int .i64 2) ∧ w1.cell? ⟨w.heap.size + 1, 4, none⟩ = some (.int .i64 fr) := ⟨hS1.cell b0, hS1.cell f0, hS1.cell f1, hS1.cell f2, hS1.cell f3, hS1.cell f4⟩
  obtain ⟨q0, q1, q2, q3, q4⟩ : w1.cell? ⟨w.heap.size + 1 + 1, 0, none⟩ = some (.int .i64 0) ∧ w1.cell? ⟨w.heap.size + 1 + 1, 1, none⟩ = some (.int .i64 n) ∧ w1.cell? ⟨w.heap.size + 1 + 1, 2, none⟩ = some (.string ⟨#[]⟩) ∧ w1.cell? ⟨w.heap.size + 1 + 1, 3, none⟩ = some (.slice ia 0 ic) ∧ w1.cell? ⟨w.heap.size + 1 + 1, 4, none⟩ = some (.slice la 0 lc) := ⟨hS1.cell v0, hS1.cell v1, hS1.cell v2, hS1.cell v3, hS1.cell v4⟩
  clear b0 f0 f1 f2 f3 f4 ff v0 v1 v2 v3 v4 vf
  by_cases hn1 : n < -1099511627776 ∨ 1099511627776 < n
  · have E2 : Hid (R = 2) := by unfold Hid; rw [unhide E, if_pos (by omega)]
    clear E
    rcases hn1 with b1 | b1
    all_goals
      go_wp2_with fail
      go_ret
      exact ⟨ret_int (unhide E2).symm, hE0⟩
  · have E2 : Hid (R = 0) := by unfold Hid; rw [unhide E, if_neg (by omega)]
    have b1 : ¬ n < -1099511627776 := by omega
    have b2 : ¬ 1099511627776 < n := by omega
    clear E hn1
    go_wp2_with fail
    refine (unhide HT w1 hS1).mono ?_
    rintro e w2 ⟨tv, rfl, ht, hx2⟩
    clear ht
    obtain ⟨u0, u1⟩ : w2.cell? ⟨w.heap.size + 1, 3, none⟩ = some (.int .i64 2) ∧ w2.cell? ⟨w.heap.size + 1 + 1, 1, none⟩ = some (.int .i64 n) := ⟨hx2.cell g4, hx2.cell q1⟩
    have z0 := World.block_lt_of_cell? w2 _ u0
    have z1 := World.block_lt_of_cell? w2 _ u1
    clear q0 q1 q2 q3 q4 g0 g1 g2 g3 g4 g5
    go_wp2
    go_ret
    exact ⟨ret_int (unhide E2).symm, (hE0.trans hx2).alloc _⟩
set_option maxHeartbeats 6400000 in
set_option maxRecDepth 10000 in
theorem single_bad3 (sb : SV) (ts : BookM) (fid : Int) (fn ft : ByteArray) (fr n : Int) (s : ByteArray) (ids l : SV) (w : World) (hok : ¬ (n = 0 ∧ ids.len = 0 ∧ l.len = 0)) :
    Calls Tryz.prog 54 #[.agg #[.slice sb.a sb.len sb.cap], .agg #[.int .i64 fid, .string fn, .string ft, .int .i64 3, .int .i64 fr], .agg #[.int .i64 1, .int .i64 n, .string s, .slice ids.a ids.len ids.cap, .slice l.a l.len l.cap]] w fun e w' => e = .returned (.int .i64 (wrongOneN ts ⟨fid, fn, ft, 3, fr⟩ 1 n s ids.len l.len)) ∧ Ext w w' := by
  obtain ⟨w0, hw0⟩ : ∃ w0, w0 = ((w.alloc (.cells #[.slice sb.a sb.len sb.cap] 24)).alloc (.cells #[.int .i64 fid, .string fn, .string ft, .int .i64 3, .int .i64 fr] 56)).alloc (.cells #[.int .i64 1, .int .i64 n, .string s, .slice ids.a ids.len ids.cap, .slice l.a l.len l.cap] 28) := ⟨_, rfl⟩
  obtain ⟨hx0, hz, r0, r1, r2⟩ := heaps3 hw0
  have E : Hid (wrongOneN ts ⟨fid, fn, ft, 3, fr⟩ 1 n s ids.len l.len = 1) := by
    unfold Hid wrongOneN
    rw [if_neg (show ¬ ((1 : Int) ≠ kindN 3) from by decide), if_pos ?_]
    unfold oneKindB
    simp
    omega
  generalize wrongOneN ts ⟨fid, fn, ft, 3, fr⟩ 1 n s ids.len l.len = R at *
  have HN := hide hok
  have HW0 := hide hw0
  clear hw0 hok
  go_enter Tryz.func54, Tryz.ntmps54
  go_wp2_with fail
  rw [← unhide HW0]
  obtain ⟨f0, f1, f2, f3, f4, ff⟩ := row5 r1
  obtain ⟨v0, v1, v2, v3, v4, vf⟩ := row5 r2
  have b0 : w0.cell? ⟨w.heap.size, 0, none⟩ = some (.slice sb.a sb.len sb.cap) := cell_of_row _ _ 0 _ _ _ r0
  have hS0 : Ext w0 w0.drew := (Ext.refl w0).drew
  refine wp_region_X (fun w' => Ext w0 w') (fun _ => false) (by kernel_rfl) ?_
  refine wpAnyX_take (i := 0) (v := .pointer (some ⟨w.heap.size + 1 + 1, 0, none⟩)) rfl (by kernel_rfl) (by kernel_rfl) (fun _ _ _ h => h) (.inl ⟨rfl, fun w' hS => by simp [execOp, go_sem]⟩) (hS0) ?_
  simp only [Act.put, List.getElem_toArray, List.getElem_cons_zero, List.getElem_cons_succ, List.setIfInBounds_toArray, List.set_cons_succ, List.set_cons_zero]
  refine wpAnyX_take (i := 1) (v := .int .i64 1) rfl (by kernel_rfl) (by kernel_rfl) (fun _ _ _ h => h) (.inl ⟨rfl, fun w' hS => by simp [execOp, go_sem, hS.cell v0]⟩) (hS0) ?_
  simp only [Act.put, List.getElem_toArray, List.getElem_cons_zero, List.getElem_cons_succ, List.setIfInBounds_toArray, List.set_cons_succ, List.set_cons_zero]
  refine wpAnyX_take (i := 2) (v := .pointer (some ⟨w.heap.size + 1, 3, none⟩)) rfl (by kernel_rfl) (by kernel_rfl) (fun _ _ _ h => h) (.inl ⟨rfl, fun w' hS => by simp [execOp, go_sem]⟩) (hS0) ?_
  simp only [Act.put, List.getElem_toArray, List.getElem_cons_zero, List.getElem_cons_succ, List.setIfInBounds_toArray, List.set_cons_succ, List.set_cons_zero]
  refine wpAnyX_take (i := 3) (v := .int .i64 3) rfl (by kernel_rfl) (by kernel_rfl) (fun _ _ _ h => h) (.inl ⟨rfl, fun w' hS => by simp [execOp, go_sem, hS.cell f3]⟩) (hS0) ?_
  simp only [Act.put, List.getElem_toArray, List.getElem_cons_zero, List.getElem_cons_succ, List.setIfInBounds_toArray, List.set_cons_succ, List.set_cons_zero]
  refine wpAnyX_one (j := 4) rfl (by kernel_rfl) rfl fun K hK => ?_
  go_wp2_with fail
  refine (wireKind_any 3 _ (by decide) (by decide)).mono ?_
  rintro e w1 ⟨rfl, hx1⟩
  have hS1 := hS0.trans hx1
  go_wp2
  refine hK.out _ _ (hS1) ?_
  clear hK K
  refine wpAnyX_one (j := 5) rfl (by kernel_rfl) rfl fun K hK => ?_
  go_wp2
  refine hK.out _ _ (hS1) ?_
  clear hK K
  refine wpAnyX_end [] [] rfl (by intro j i hj; simp at hj) (by kernel_rfl) (by intro i hi; simp at hi) fun K hK => ?_
  go_wp2
  refine hK.out _ _ ?_
  clear hK K
  have hE0 : Ext w w1 := hx0.trans hS1
  obtain ⟨g0, g1, g2, g3, g4, g5⟩ : w1.cell? ⟨w.heap.size, 0, none⟩ = some (.slice sb.a sb.len sb.cap) ∧ w1.cell? ⟨w.heap.size + 1, 0, none⟩ = some (.int .i64 fid) ∧ w1.cell? ⟨w.heap.size + 1, 1, none⟩ = some (.string fn) ∧ w1.cell? ⟨w.heap.size + 1, 2, none⟩ = some (.string ft) ∧ w1.cell? ⟨w.heap.size + 1, 3, none⟩ = some (.int .i64 3) ∧ w1.cell? ⟨w.heap.size + 1, 4, none⟩ = some (.int .i64 fr) := ⟨hS1.cell b0, hS1.cell f0, hS1.cell f1, hS1.cell f2, hS1.cell f3, hS1.cell f4⟩
  obtain ⟨q0, q1, q2, q3, q4⟩ : w1.cell? ⟨w.heap.size + 1 + 1, 0, none⟩ = some (.int .i64 1) ∧ w1.cell? ⟨w.heap.size + 1 + 1, 1, none⟩ = some (.int .i64 n) ∧ w1.cell? ⟨w.heap.size + 1 + 1, 2, none⟩ = some (.string s) ∧ w1.cell? ⟨w.heap.size + 1 + 1, 3, none⟩ = some (.slice ids.a ids.len ids.cap) ∧ w1.cell? ⟨w.heap.size + 1 + 1, 4, none⟩ = some (.slice l.a l.len l.cap) := ⟨hS1.cell v0, hS1.cell v1, hS1.cell v2, hS1.cell v3, hS1.cell v4⟩
  clear b0 f0 f1 f2 f3 f4 ff v0 v1 v2 v3 v4 vf
  go_wp2_with fail
  all_goals first
    | (go_ret; exact ⟨ret_int (unhide E).symm, hE0⟩)
    | (have := unhide HN; exfalso; simp_all; done)
    | (have := unhide HN; exfalso; simp_all; omega)
set_option maxHeartbeats 6400000 in
set_option maxRecDepth 10000 in
theorem single_good3 (sb : SV) (ts : BookM) (fid : Int) (fn ft : ByteArray) (fr : Int) (w : World) (hb : BookAt w sb ts) (hn : ts.Small) (s : ByteArray) (hs : s.size ≤ 1048576) (ia : Option Addr) (ic : Nat) (la : Option Addr) (lc : Nat) :
    Calls Tryz.prog 54 #[.agg #[.slice sb.a sb.len sb.cap], .agg #[.int .i64 fid, .string fn, .string ft, .int .i64 3, .int .i64 fr], .agg #[.int .i64 1, .int .i64 0, .string s, .slice ia 0 ic, .slice la 0 lc]] w fun e w' => e = .returned (.int .i64 (wrongOneN ts ⟨fid, fn, ft, 3, fr⟩ 1 0 s 0 0)) ∧ Ext w w' := by
  obtain ⟨w0, hw0⟩ : ∃ w0, w0 = ((w.alloc (.cells #[.slice sb.a sb.len sb.cap] 24)).alloc (.cells #[.int .i64 fid, .string fn, .string ft, .int .i64 3, .int .i64 fr] 56)).alloc (.cells #[.int .i64 1, .int .i64 0, .string s, .slice ia 0 ic, .slice la 0 lc] 28) := ⟨_, rfl⟩
  obtain ⟨hx0, hz, r0, r1, r2⟩ := heaps3 hw0
  have hb0 := hide (hb.ext hx0)
  have E : Hid (wrongOneN ts ⟨fid, fn, ft, 3, fr⟩ 1 0 s 0 0 = (if goodTextB s = true then 0 else 1)) := by
    unfold Hid wrongOneN
    dsimp only
    rw [if_neg (show ¬ ((1 : Int) ≠ kindN 3) from by decide), if_neg (by unfold oneKindB; simp)]
    simp only [show ¬ ((3 : Int) = 1) by decide, show ¬ ((3 : Int) = 2) by decide, show ¬ ((3 : Int) = 4) by decide, if_true, if_false]
  generalize wrongOneN ts ⟨fid, fn, ft, 3, fr⟩ 1 0 s 0 0 = R at *
  have HT := hide (fun w2 hx => refTypeOf_any sb ts ft w2 ((unhide hb0).ext hx) hn.1)
  have HW0 := hide hw0
  clear hw0 hb
  go_enter Tryz.func54, Tryz.ntmps54
  go_wp2_with fail
  rw [← unhide HW0]
  obtain ⟨f0, f1, f2, f3, f4, ff⟩ := row5 r1
  obtain ⟨v0, v1, v2, v3, v4, vf⟩ := row5 r2
  have b0 : w0.cell? ⟨w.heap.size, 0, none⟩ = some (.slice sb.a sb.len sb.cap) := cell_of_row _ _ 0 _ _ _ r0
  have hS0 : Ext w0 w0.drew := (Ext.refl w0).drew
  refine wp_region_X (fun w' => Ext w0 w') (fun _ => false) (by kernel_rfl) ?_
  refine wpAnyX_take (i := 0) (v := .pointer (some ⟨w.heap.size + 1 + 1, 0, none⟩)) rfl (by kernel_rfl) (by kernel_rfl) (fun _ _ _ h => h) (.inl ⟨rfl, fun w' hS => by simp [execOp, go_sem]⟩) (hS0) ?_
  simp only [Act.put, List.getElem_toArray, List.getElem_cons_zero, List.getElem_cons_succ, List.setIfInBounds_toArray, List.set_cons_succ, List.set_cons_zero]
  refine wpAnyX_take (i := 1) (v := .int .i64 1) rfl (by kernel_rfl) (by kernel_rfl) (fun _ _ _ h => h) (.inl ⟨rfl, fun w' hS => by simp [execOp, go_sem, hS.cell v0]⟩) (hS0) ?_
  simp only [Act.put, List.getElem_toArray, List.getElem_cons_zero, List.getElem_cons_succ, List.setIfInBounds_toArray, List.set_cons_succ, List.set_cons_zero]
  refine wpAnyX_take (i := 2) (v := .pointer (some ⟨w.heap.size + 1, 3, none⟩)) rfl (by kernel_rfl) (by kernel_rfl) (fun _ _ _ h => h) (.inl ⟨rfl, fun w' hS => by simp [execOp, go_sem]⟩) (hS0) ?_
  simp only [Act.put, List.getElem_toArray, List.getElem_cons_zero, List.getElem_cons_succ, List.setIfInBounds_toArray, List.set_cons_succ, List.set_cons_zero]
  refine wpAnyX_take (i := 3) (v := .int .i64 3) rfl (by kernel_rfl) (by kernel_rfl) (fun _ _ _ h => h) (.inl ⟨rfl, fun w' hS => by simp [execOp, go_sem, hS.cell f3]⟩) (hS0) ?_
  simp only [Act.put, List.getElem_toArray, List.getElem_cons_zero, List.getElem_cons_succ, List.setIfInBounds_toArray, List.set_cons_succ, List.set_cons_zero]
  refine wpAnyX_one (j := 4) rfl (by kernel_rfl) rfl fun K hK => ?_
  go_wp2_with fail
  refine (wireKind_any 3 _ (by decide) (by decide)).mono ?_
  rintro e w1 ⟨rfl, hx1⟩
  have hS1 := hS0.trans hx1
  go_wp2
  refine hK.out _ _ (hS1) ?_
  clear hK K
  refine wpAnyX_one (j := 5) rfl (by kernel_rfl) rfl fun K hK => ?_
  go_wp2
  refine hK.out _ _ (hS1) ?_
  clear hK K
  refine wpAnyX_end [] [] rfl (by intro j i hj; simp at hj) (by kernel_rfl) (by intro i hi; simp at hi) fun K hK => ?_
  go_wp2
  refine hK.out _ _ ?_
  clear hK K
  have hE0 : Ext w w1 := hx0.trans hS1
  obtain ⟨g0, g1, g2, g3, g4, g5⟩ : w1.cell? ⟨w.heap.size, 0, none⟩ = some (.slice sb.a sb.len sb.cap) ∧ w1.cell? ⟨w.heap.size + 1, 0, none⟩ = some (.int .i64 fid) ∧ w1.cell? ⟨w.heap.size + 1, 1, none⟩ = some (.string fn) ∧ w1.cell? ⟨w.heap.size + 1, 2, none⟩ = some (.string ft) ∧ w1.cell? ⟨w.heap.size + 1, 3, none⟩ = some (.int .i64 3) ∧ w1.cell? ⟨w.heap.size + 1, 4, none⟩ = some (.int .i64 fr) := ⟨hS1.cell b0, hS1.cell f0, hS1.cell f1, hS1.cell f2, hS1.cell f3, hS1.cell f4⟩
  obtain ⟨q0, q1, q2, q3, q4⟩ : w1.cell? ⟨w.heap.size + 1 + 1, 0, none⟩ = some (.int .i64 1) ∧ w1.cell? ⟨w.heap.size + 1 + 1, 1, none⟩ = some (.int .i64 0) ∧ w1.cell? ⟨w.heap.size + 1 + 1, 2, none⟩ = some (.string s) ∧ w1.cell? ⟨w.heap.size + 1 + 1, 3, none⟩ = some (.slice ia 0 ic) ∧ w1.cell? ⟨w.heap.size + 1 + 1, 4, none⟩ = some (.slice la 0 lc) := ⟨hS1.cell v0, hS1.cell v1, hS1.cell v2, hS1.cell v3, hS1.cell v4⟩
  clear b0 f0 f1 f2 f3 f4 ff v0 v1 v2 v3 v4 vf
  obtain ⟨cap, hcap⟩ : ∃ cap, cap = grownCap w1 s.size 0 5 := ⟨_, rfl⟩
  obtain ⟨W3, hW3⟩ : ∃ W3, W3 = w1.drew.alloc (.cells (bytesRow s cap) 5 ((bytesRow s cap).size, (bytesRow s cap).size + 1)) := ⟨_, rfl⟩
  have hcv : (convert 9 104 (.string s)).run Tryz.prog w1 = .ok (.slice (some ⟨w1.heap.size, 0, none⟩) s.size cap) W3 := by rw [hW3, hcap]; exact run_bytes_of_string w1 9 104 5 s Tryz.underlying9 Tryz.underlying104 Tryz.underlying5
  have hx3 : Ext w1 W3 := by rw [hW3]; exact ((Ext.refl w1).drew).trans ⟨rfl, rfl, rfl, by simp [World.alloc], fun b hb => by simp only [World.alloc]; rw [Array.getElem?_push_lt (by omega)]; exact (Array.getElem?_eq_getElem _).symm⟩
  have hbc : ∀ i (h : i < s.size), W3.cell? ⟨w1.heap.size, i, none⟩ = some (.int .u8 s[i].toNat) := fun i h => by
    have hr : W3.heap[w1.heap.size]? = some (.cells (bytesRow s cap) 5 ((bytesRow s cap).size, (bytesRow s cap).size + 1)) := by rw [hW3]; show (w1.heap.push _)[w1.heap.size]? = _; simp
    rw [cell_of_row _ _ i _ _ _ hr, bytesRow_at s _ i h]; rfl
  have HS : ∀ k, (List.range (k + 1)).all (lowAt s.toList) = ((List.range k).all (lowAt s.toList) && lowAt s.toList k) := fun k => by rw [List.range_succ, List.all_append]; simp
  have HSh := hide HS
  have Hbc := hide hbc
  have hsi : s.size ≤ 9223372036854775807 := by omega
  have u3 := hx3.cell g4
  have u4 := hx3.cell q1
  have u5 := hx3.cell q2
  have u2 := hx3.cell g2
  have u6 := hx3.cell g3
  have u7 := hx3.cell g0
  clear hW3 hcap HS hbc
  go_wp2_with fail
  go_loopw [7, 99] (fun vo i wr => ∃ k : Nat, k ≤ s.size ∧ i = .int .i64 k ∧ vo = .bool ((List.range k).all (lowAt s.toList)) ∧ wr = W3) (fun _ i _ => s.size - (intOf i).toNat)
  case atStart => exact ⟨0, by omega, rfl, rfl, rfl⟩
  case round =>
    obtain ⟨k, hk, rfl, rfl, rfl⟩ := hrel
    by_cases hlt : k < s.size
    · have Hat : Hid (lowAt s.toList k = decide (s[k].toNat ≤ 127)) := by
        unfold Hid lowAt
        rw [show s.toList.getD k 0 = s[k] by rw [bytes_toList]; simp [List.getD, hlt]; rfl]
      have hc := unhide Hbc k hlt
      have hs1 := unhide HSh k
      rw [unhide Hat] at hs1
      generalize s[k] = c at *
      cases ha : (List.range k).all (lowAt s.toList)
      · have H2 : Hid ((List.range (k + 1)).all (lowAt s.toList) = false) := by unfold Hid; rw [hs1, ha]; rfl
        clear hs1
        go_wp2
        exact ⟨⟨k + 1, by omega, by go_num, by rw [unhide H2], trivial⟩, by simp [intOf]; omega⟩
      · by_cases h7 : c.toNat ≤ 127
        · have H2 : Hid ((List.range (k + 1)).all (lowAt s.toList) = true) := by unfold Hid; rw [hs1, ha]; simp [h7]
          have hb : (c.toNat : Int) < 128 := by omega
          clear hs1
          go_wp2
          exact ⟨⟨k + 1, by omega, by go_num, by rw [unhide H2], trivial⟩, by simp [intOf]; omega⟩
        · have H2 : Hid ((List.range (k + 1)).all (lowAt s.toList) = false) := by unfold Hid; rw [hs1, ha]; simp [h7]
          have hb : ¬ (c.toNat : Int) < 128 := by omega
          clear hs1
          go_wp2
          exact ⟨⟨k + 1, by omega, by go_num, by rw [unhide H2], trivial⟩, by simp [intOf]; omega⟩
    · obtain rfl : k = s.size := by omega
      have EG : Hid (goodTextB s = (decide (s.size ≤ 40) && (List.range s.size).all (lowAt s.toList))) := rfl
      cases ha : (List.range s.size).all (lowAt s.toList)
      · have E2 : Hid (R = 1) := by unfold Hid; rw [unhide E, unhide EG, ha]; simp
        clear E EG
        go_wp2
        go_ret
        exact ⟨ret_int (unhide E2).symm, hE0.trans hx3⟩
      · by_cases h40 : s.size ≤ 40
        · have E2 : Hid (R = 0) := by unfold Hid; rw [unhide E, unhide EG, ha]; simp [h40]
          have hb : ¬ (40 : Int) < (s.size : Int) := by omega
          clear E EG
          go_wp2_with fail
          refine (unhide HT wr (hS1.trans hx3)).mono ?_
          rintro e w2 ⟨tv, rfl, ht, hx2⟩
          clear ht
          have y0 := hx2.cell u3
          have z0 := World.block_lt_of_cell? w2 _ y0
          clear u2 u3 u4 u5 u6 u7 q0 q1 q2 q3 q4 g0 g1 g2 g3 g4 g5
          go_wp2
          go_ret
          exact ⟨ret_int (unhide E2).symm, ((hE0.trans hx3).trans hx2).alloc _⟩
        · have E2 : Hid (R = 1) := by unfold Hid; rw [unhide E, unhide EG, ha]; simp [h40]
          have hb : (40 : Int) < (s.size : Int) := by omega
          clear E EG
          go_wp2
          go_ret
          exact ⟨ret_int (unhide E2).symm, hE0.trans hx3⟩
set_option maxHeartbeats 6400000 in
set_option maxRecDepth 10000 in
theorem single_bad4 (sb : SV) (ts : BookM) (fid : Int) (fn ft : ByteArray) (fr n : Int) (s : ByteArray) (ids l : SV) (w : World) (hok : ¬ (s.toList = [] ∧ ids.len = 0 ∧ l.len = 0)) :
    Calls Tryz.prog 54 #[.agg #[.slice sb.a sb.len sb.cap], .agg #[.int .i64 fid, .string fn, .string ft, .int .i64 4, .int .i64 fr], .agg #[.int .i64 0, .int .i64 n, .string s, .slice ids.a ids.len ids.cap, .slice l.a l.len l.cap]] w fun e w' => e = .returned (.int .i64 (wrongOneN ts ⟨fid, fn, ft, 4, fr⟩ 0 n s ids.len l.len)) ∧ Ext w w' := by
  obtain ⟨w0, hw0⟩ : ∃ w0, w0 = ((w.alloc (.cells #[.slice sb.a sb.len sb.cap] 24)).alloc (.cells #[.int .i64 fid, .string fn, .string ft, .int .i64 4, .int .i64 fr] 56)).alloc (.cells #[.int .i64 0, .int .i64 n, .string s, .slice ids.a ids.len ids.cap, .slice l.a l.len l.cap] 28) := ⟨_, rfl⟩
  obtain ⟨hx0, hz, r0, r1, r2⟩ := heaps3 hw0
  have E : Hid (wrongOneN ts ⟨fid, fn, ft, 4, fr⟩ 0 n s ids.len l.len = 1) := by
    unfold Hid wrongOneN
    rw [if_neg (show ¬ ((0 : Int) ≠ kindN 4) from by decide), if_pos ?_]
    unfold oneKindB
    simp only [Bool.and_eq_false_iff, Bool.not_eq_false', Bool.and_eq_true, decide_eq_true_eq, Bool.or_eq_true, Bool.or_eq_false_iff, decide_eq_false_iff_not]
    have hse2 : (s.toList = []) ↔ s.toList.isEmpty = true := List.isEmpty_iff.symm
    rw [hse2] at hok
    cases hse : s.toList.isEmpty <;> simp_all <;> omega
  generalize wrongOneN ts ⟨fid, fn, ft, 4, fr⟩ 0 n s ids.len l.len = R at *
  have HN := hide hok
  have HW0 := hide hw0
  clear hw0 hok
  go_enter Tryz.func54, Tryz.ntmps54
  go_wp2_with fail
  rw [← unhide HW0]
  obtain ⟨f0, f1, f2, f3, f4, ff⟩ := row5 r1
  obtain ⟨v0, v1, v2, v3, v4, vf⟩ := row5 r2
  have b0 : w0.cell? ⟨w.heap.size, 0, none⟩ = some (.slice sb.a sb.len sb.cap) := cell_of_row _ _ 0 _ _ _ r0
  have hS0 : Ext w0 w0.drew := (Ext.refl w0).drew
  refine wp_region_X (fun w' => Ext w0 w') (fun _ => false) (by kernel_rfl) ?_
  refine wpAnyX_take (i := 0) (v := .pointer (some ⟨w.heap.size + 1 + 1, 0, none⟩)) rfl (by kernel_rfl) (by kernel_rfl) (fun _ _ _ h => h) (.inl ⟨rfl, fun w' hS => by simp [execOp, go_sem]⟩) (hS0) ?_
  simp only [Act.put, List.getElem_toArray, List.getElem_cons_zero, List.getElem_cons_succ, List.setIfInBounds_toArray, List.set_cons_succ, List.set_cons_zero]
  refine wpAnyX_take (i := 1) (v := .int .i64 0) rfl (by kernel_rfl) (by kernel_rfl) (fun _ _ _ h => h) (.inl ⟨rfl, fun w' hS => by simp [execOp, go_sem, hS.cell v0]⟩) (hS0) ?_
  simp only [Act.put, List.getElem_toArray, List.getElem_cons_zero, List.getElem_cons_succ, List.setIfInBounds_toArray, List.set_cons_succ, List.set_cons_zero]
  refine wpAnyX_take (i := 2) (v := .pointer (some ⟨w.heap.size + 1, 3, none⟩)) rfl (by kernel_rfl) (by kernel_rfl) (fun _ _ _ h => h) (.inl ⟨rfl, fun w' hS => by simp [execOp, go_sem]⟩) (hS0) ?_
  simp only [Act.put, List.getElem_toArray, List.getElem_cons_zero, List.getElem_cons_succ, List.setIfInBounds_toArray, List.set_cons_succ, List.set_cons_zero]
  refine wpAnyX_take (i := 3) (v := .int .i64 4) rfl (by kernel_rfl) (by kernel_rfl) (fun _ _ _ h => h) (.inl ⟨rfl, fun w' hS => by simp [execOp, go_sem, hS.cell f3]⟩) (hS0) ?_
  simp only [Act.put, List.getElem_toArray, List.getElem_cons_zero, List.getElem_cons_succ, List.setIfInBounds_toArray, List.set_cons_succ, List.set_cons_zero]
  refine wpAnyX_one (j := 4) rfl (by kernel_rfl) rfl fun K hK => ?_
  go_wp2_with fail
  refine (wireKind_any 4 _ (by decide) (by decide)).mono ?_
  rintro e w1 ⟨rfl, hx1⟩
  have hS1 := hS0.trans hx1
  go_wp2
  refine hK.out _ _ (hS1) ?_
  clear hK K
  refine wpAnyX_one (j := 5) rfl (by kernel_rfl) rfl fun K hK => ?_
  go_wp2
  refine hK.out _ _ (hS1) ?_
  clear hK K
  refine wpAnyX_end [] [] rfl (by intro j i hj; simp at hj) (by kernel_rfl) (by intro i hi; simp at hi) fun K hK => ?_
  go_wp2
  refine hK.out _ _ ?_
  clear hK K
  have hE0 : Ext w w1 := hx0.trans hS1
  obtain ⟨g0, g1, g2, g3, g4, g5⟩ : w1.cell? ⟨w.heap.size, 0, none⟩ = some (.slice sb.a sb.len sb.cap) ∧ w1.cell? ⟨w.heap.size + 1, 0, none⟩ = some (.int .i64 fid) ∧ w1.cell? ⟨w.heap.size + 1, 1, none⟩ = some (.string fn) ∧ w1.cell? ⟨w.heap.size + 1, 2, none⟩ = some (.string ft) ∧ w1.cell? ⟨w.heap.size + 1, 3, none⟩ = some (.int .i64 4) ∧ w1.cell? ⟨w.heap.size + 1, 4, none⟩ = some (.int .i64 fr) := ⟨hS1.cell b0, hS1.cell f0, hS1.cell f1, hS1.cell f2, hS1.cell f3, hS1.cell f4⟩
  obtain ⟨q0, q1, q2, q3, q4⟩ : w1.cell? ⟨w.heap.size + 1 + 1, 0, none⟩ = some (.int .i64 0) ∧ w1.cell? ⟨w.heap.size + 1 + 1, 1, none⟩ = some (.int .i64 n) ∧ w1.cell? ⟨w.heap.size + 1 + 1, 2, none⟩ = some (.string s) ∧ w1.cell? ⟨w.heap.size + 1 + 1, 3, none⟩ = some (.slice ids.a ids.len ids.cap) ∧ w1.cell? ⟨w.heap.size + 1 + 1, 4, none⟩ = some (.slice l.a l.len l.cap) := ⟨hS1.cell v0, hS1.cell v1, hS1.cell v2, hS1.cell v3, hS1.cell v4⟩
  clear b0 f0 f1 f2 f3 f4 ff v0 v1 v2 v3 v4 vf
  go_wp2_with fail
  all_goals first
    | (go_ret; exact ⟨ret_int (unhide E).symm, hE0⟩)
    | (have := unhide HN; exfalso; simp_all; done)
    | (have := unhide HN; exfalso; simp_all; omega)
set_option maxHeartbeats 6400000 in
set_option maxRecDepth 10000 in
theorem single_good4 (sb : SV) (ts : BookM) (fid : Int) (fn ft : ByteArray) (fr : Int) (w : World) (hb : BookAt w sb ts) (hn : ts.Small) (n : Int) (ia : Option Addr) (ic : Nat) (la : Option Addr) (lc : Nat) :
    Calls Tryz.prog 54 #[.agg #[.slice sb.a sb.len sb.cap], .agg #[.int .i64 fid, .string fn, .string ft, .int .i64 4, .int .i64 fr], .agg #[.int .i64 0, .int .i64 n, .string ⟨#[]⟩, .slice ia 0 ic, .slice la 0 lc]] w fun e w' => e = .returned (.int .i64 (wrongOneN ts ⟨fid, fn, ft, 4, fr⟩ 0 n ⟨#[]⟩ 0 0)) ∧ Ext w w' := by
  obtain ⟨w0, hw0⟩ : ∃ w0, w0 = ((w.alloc (.cells #[.slice sb.a sb.len sb.cap] 24)).alloc (.cells #[.int .i64 fid, .string fn, .string ft, .int .i64 4, .int .i64 fr] 56)).alloc (.cells #[.int .i64 0, .int .i64 n, .string ⟨#[]⟩, .slice ia 0 ic, .slice la 0 lc] 28) := ⟨_, rfl⟩
  obtain ⟨hx0, hz, r0, r1, r2⟩ := heaps3 hw0
  have hb0 := hide (hb.ext hx0)
  have E : Hid (wrongOneN ts ⟨fid, fn, ft, 4, fr⟩ 0 n ⟨#[]⟩ 0 0 = (if (((findM ts ft).getD TypeM.zero).items.any fun i => i.n == n) = true then 0 else 6)) := by
    unfold Hid wrongOneN
    dsimp only
    rw [if_neg (show ¬ ((0 : Int) ≠ kindN 4) from by decide), if_neg (by unfold oneKindB; simp)]
    simp only [show ¬ ((4 : Int) = 1) by decide, show ¬ ((4 : Int) = 2) by decide, show ¬ ((4 : Int) = 3) by decide, if_true, if_false]
  generalize wrongOneN ts ⟨fid, fn, ft, 4, fr⟩ 0 n ⟨#[]⟩ 0 0 = R at *
  have HT := hide (fun w2 hx => refTypeOf_any sb ts ft w2 ((unhide hb0).ext hx) hn.1)
  have HW0 := hide hw0
  clear hw0 hb
  go_enter Tryz.func54, Tryz.ntmps54
  go_wp2_with fail
  rw [← unhide HW0]
  obtain ⟨f0, f1, f2, f3, f4, ff⟩ := row5 r1
  obtain ⟨v0, v1, v2, v3, v4, vf⟩ := row5 r2
  have b0 : w0.cell? ⟨w.heap.size, 0, none⟩ = some (.slice sb.a sb.len sb.cap) := cell_of_row _ _ 0 _ _ _ r0
  have hS0 : Ext w0 w0.drew := (Ext.refl w0).drew
  refine wp_region_X (fun w' => Ext w0 w') (fun _ => false) (by kernel_rfl) ?_
  refine wpAnyX_take (i := 0) (v := .pointer (some ⟨w.heap.size + 1 + 1, 0, none⟩)) rfl (by kernel_rfl) (by kernel_rfl) (fun _ _ _ h => h) (.inl ⟨rfl, fun w' hS => by simp [execOp, go_sem]⟩) (hS0) ?_
  simp only [Act.put, List.getElem_toArray, List.getElem_cons_zero, List.getElem_cons_succ, List.setIfInBounds_toArray, List.set_cons_succ, List.set_cons_zero]
  refine wpAnyX_take (i := 1) (v := .int .i64 0) rfl (by kernel_rfl) (by kernel_rfl) (fun _ _ _ h => h) (.inl ⟨rfl, fun w' hS => by simp [execOp, go_sem, hS.cell v0]⟩) (hS0) ?_
  simp only [Act.put, List.getElem_toArray, List.getElem_cons_zero, List.getElem_cons_succ, List.setIfInBounds_toArray, List.set_cons_succ, List.set_cons_zero]
  refine wpAnyX_take (i := 2) (v := .pointer (some ⟨w.heap.size + 1, 3, none⟩)) rfl (by kernel_rfl) (by kernel_rfl) (fun _ _ _ h => h) (.inl ⟨rfl, fun w' hS => by simp [execOp, go_sem]⟩) (hS0) ?_
  simp only [Act.put, List.getElem_toArray, List.getElem_cons_zero, List.getElem_cons_succ, List.setIfInBounds_toArray, List.set_cons_succ, List.set_cons_zero]
  refine wpAnyX_take (i := 3) (v := .int .i64 4) rfl (by kernel_rfl) (by kernel_rfl) (fun _ _ _ h => h) (.inl ⟨rfl, fun w' hS => by simp [execOp, go_sem, hS.cell f3]⟩) (hS0) ?_
  simp only [Act.put, List.getElem_toArray, List.getElem_cons_zero, List.getElem_cons_succ, List.setIfInBounds_toArray, List.set_cons_succ, List.set_cons_zero]
  refine wpAnyX_one (j := 4) rfl (by kernel_rfl) rfl fun K hK => ?_
  go_wp2_with fail
  refine (wireKind_any 4 _ (by decide) (by decide)).mono ?_
  rintro e w1 ⟨rfl, hx1⟩
  have hS1 := hS0.trans hx1
  go_wp2
  refine hK.out _ _ (hS1) ?_
  clear hK K
  refine wpAnyX_one (j := 5) rfl (by kernel_rfl) rfl fun K hK => ?_
  go_wp2
  refine hK.out _ _ (hS1) ?_
  clear hK K
  refine wpAnyX_end [] [] rfl (by intro j i hj; simp at hj) (by kernel_rfl) (by intro i hi; simp at hi) fun K hK => ?_
  go_wp2
  refine hK.out _ _ ?_
  clear hK K
  have hE0 : Ext w w1 := hx0.trans hS1
  obtain ⟨g0, g1, g2, g3, g4, g5⟩ : w1.cell? ⟨w.heap.size, 0, none⟩ = some (.slice sb.a sb.len sb.cap) ∧ w1.cell? ⟨w.heap.size + 1, 0, none⟩ = some (.int .i64 fid) ∧ w1.cell? ⟨w.heap.size + 1, 1, none⟩ = some (.string fn) ∧ w1.cell? ⟨w.heap.size + 1, 2, none⟩ = some (.string ft) ∧ w1.cell? ⟨w.heap.size + 1, 3, none⟩ = some (.int .i64 4) ∧ w1.cell? ⟨w.heap.size + 1, 4, none⟩ = some (.int .i64 fr) := ⟨hS1.cell b0, hS1.cell f0, hS1.cell f1, hS1.cell f2, hS1.cell f3, hS1.cell f4⟩
  obtain ⟨q0, q1, q2, q3, q4⟩ : w1.cell? ⟨w.heap.size + 1 + 1, 0, none⟩ = some (.int .i64 0) ∧ w1.cell? ⟨w.heap.size + 1 + 1, 1, none⟩ = some (.int .i64 n) ∧ w1.cell? ⟨w.heap.size + 1 + 1, 2, none⟩ = some (.string ⟨#[]⟩) ∧ w1.cell? ⟨w.heap.size + 1 + 1, 3, none⟩ = some (.slice ia 0 ic) ∧ w1.cell? ⟨w.heap.size + 1 + 1, 4, none⟩ = some (.slice la 0 lc) := ⟨hS1.cell v0, hS1.cell v1, hS1.cell v2, hS1.cell v3, hS1.cell v4⟩
  clear b0 f0 f1 f2 f3 f4 ff v0 v1 v2 v3 v4 vf
  have hit := hide (find_small hn ft)
  go_wp2_with fail
  refine (unhide HT w1 hS1).mono ?_
  rintro e w2 ⟨tv, rfl, ht, hx2⟩
  obtain ⟨T, hT⟩ : ∃ T, T = (findM ts ft).getD TypeM.zero := ⟨_, rfl⟩
  rw [← hT] at ht
  have E3 : Hid (R = if (T.items.any fun i => i.n == n) = true then 0 else 6) := by unfold Hid; rw [unhide E, ← hT]
  have hil : T.items.length ≤ 9223372036854775807 := by rw [hT]; exact Nat.le_trans (unhide hit).items (by decide)
  have Ht := hide (ht.ext hx2)
  obtain ⟨W2, hW2⟩ : ∃ W2, W2 = w2.alloc (.cells #[.string tv.name, .bool tv.enum, .slice tv.fields.a tv.fields.len tv.fields.cap, .slice tv.gone.a tv.gone.len tv.gone.cap, .slice tv.items.a tv.items.len tv.items.cap] 50) := ⟨_, rfl⟩
  have hxW : Ext w2 W2 := by rw [hW2]; exact (Ext.refl w2).alloc _
  have rT : W2.heap[w2.heap.size]? = some (.cells #[.string tv.name, .bool tv.enum, .slice tv.fields.a tv.fields.len tv.fields.cap, .slice tv.gone.a tv.gone.len tv.gone.cap, .slice tv.items.a tv.items.len tv.items.cap] 50 (0, 0)) := by rw [hW2]; exact heap_alloc_new _ _
  obtain ⟨t0, t1, t2, t3, t4, _⟩ := row5 rT
  have x12 := hx2.trans hxW
  obtain ⟨u0, u1⟩ : w2.cell? ⟨w.heap.size + 1, 3, none⟩ = some (.int .i64 4) ∧ w2.cell? ⟨w.heap.size + 1 + 1, 1, none⟩ = some (.int .i64 n) := ⟨hx2.cell g4, hx2.cell q1⟩
  have z0 := World.block_lt_of_cell? w2 _ u0
  have z1 := World.block_lt_of_cell? w2 _ u1
  have HW2 := hide hW2
  clear hT ht E hit hW2 q0 q1 q2 q3 q4 g0 g1 g2 g3 g4 g5
  go_wp2_with fail
  try rw [← unhide HW2]
  refine (itemIn_any tv T n W2 ((unhide Ht).ext hxW) hil).mono ?_
  rintro e w3 ⟨rfl, hx3⟩
  rw [hasTo_all]
  have hE3 := (hE0.trans x12).trans hx3
  cases hany : (T.items.any fun i => i.n == n)
  · have E2 : Hid (R = 6) := by unfold Hid; rw [unhide E3, hany]; rfl
    clear E3
    go_wp2
    go_ret
    exact ⟨ret_int (unhide E2).symm, hE3⟩
  · have E2 : Hid (R = 0) := by unfold Hid; rw [unhide E3, hany]; rfl
    clear E3
    go_wp2
    go_ret
    exact ⟨ret_int (unhide E2).symm, hE3⟩
set_option maxHeartbeats 6400000 in
set_option maxRecDepth 10000 in
theorem single_bad5 (sb : SV) (ts : BookM) (fid : Int) (fn ft : ByteArray) (fr n : Int) (s : ByteArray) (ids l : SV) (w : World) (hok : ¬ (n = 0 ∧ s.toList = [])) :
    Calls Tryz.prog 54 #[.agg #[.slice sb.a sb.len sb.cap], .agg #[.int .i64 fid, .string fn, .string ft, .int .i64 5, .int .i64 fr], .agg #[.int .i64 2, .int .i64 n, .string s, .slice ids.a ids.len ids.cap, .slice l.a l.len l.cap]] w fun e w' => e = .returned (.int .i64 (wrongOneN ts ⟨fid, fn, ft, 5, fr⟩ 2 n s ids.len l.len)) ∧ Ext w w' := by
  obtain ⟨w0, hw0⟩ : ∃ w0, w0 = ((w.alloc (.cells #[.slice sb.a sb.len sb.cap] 24)).alloc (.cells #[.int .i64 fid, .string fn, .string ft, .int .i64 5, .int .i64 fr] 56)).alloc (.cells #[.int .i64 2, .int .i64 n, .string s, .slice ids.a ids.len ids.cap, .slice l.a l.len l.cap] 28) := ⟨_, rfl⟩
  obtain ⟨hx0, hz, r0, r1, r2⟩ := heaps3 hw0
  have E : Hid (wrongOneN ts ⟨fid, fn, ft, 5, fr⟩ 2 n s ids.len l.len = 1) := by
    unfold Hid wrongOneN
    rw [if_neg (show ¬ ((2 : Int) ≠ kindN 5) from by decide), if_pos ?_]
    unfold oneKindB
    simp only [Bool.and_eq_false_iff, Bool.not_eq_false', Bool.and_eq_true, decide_eq_true_eq, Bool.or_eq_true, Bool.or_eq_false_iff, decide_eq_false_iff_not]
    have hse2 : (s.toList = []) ↔ s.toList.isEmpty = true := List.isEmpty_iff.symm
    rw [hse2] at hok
    cases hse : s.toList.isEmpty <;> simp_all <;> omega
  generalize wrongOneN ts ⟨fid, fn, ft, 5, fr⟩ 2 n s ids.len l.len = R at *
  have HN := hide hok
  have HW0 := hide hw0
  clear hw0 hok
  go_enter Tryz.func54, Tryz.ntmps54
  go_wp2_with fail
  rw [← unhide HW0]
  obtain ⟨f0, f1, f2, f3, f4, ff⟩ := row5 r1
  obtain ⟨v0, v1, v2, v3, v4, vf⟩ := row5 r2
  have b0 : w0.cell? ⟨w.heap.size, 0, none⟩ = some (.slice sb.a sb.len sb.cap) := cell_of_row _ _ 0 _ _ _ r0
  have hS0 : Ext w0 w0.drew := (Ext.refl w0).drew
  refine wp_region_X (fun w' => Ext w0 w') (fun _ => false) (by kernel_rfl) ?_
  refine wpAnyX_take (i := 0) (v := .pointer (some ⟨w.heap.size + 1 + 1, 0, none⟩)) rfl (by kernel_rfl) (by kernel_rfl) (fun _ _ _ h => h) (.inl ⟨rfl, fun w' hS => by simp [execOp, go_sem]⟩) (hS0) ?_
  simp only [Act.put, List.getElem_toArray, List.getElem_cons_zero, List.getElem_cons_succ, List.setIfInBounds_toArray, List.set_cons_succ, List.set_cons_zero]
  refine wpAnyX_take (i := 1) (v := .int .i64 2) rfl (by kernel_rfl) (by kernel_rfl) (fun _ _ _ h => h) (.inl ⟨rfl, fun w' hS => by simp [execOp, go_sem, hS.cell v0]⟩) (hS0) ?_
  simp only [Act.put, List.getElem_toArray, List.getElem_cons_zero, List.getElem_cons_succ, List.setIfInBounds_toArray, List.set_cons_succ, List.set_cons_zero]
  refine wpAnyX_take (i := 2) (v := .pointer (some ⟨w.heap.size + 1, 3, none⟩)) rfl (by kernel_rfl) (by kernel_rfl) (fun _ _ _ h => h) (.inl ⟨rfl, fun w' hS => by simp [execOp, go_sem]⟩) (hS0) ?_
  simp only [Act.put, List.getElem_toArray, List.getElem_cons_zero, List.getElem_cons_succ, List.setIfInBounds_toArray, List.set_cons_succ, List.set_cons_zero]
  refine wpAnyX_take (i := 3) (v := .int .i64 5) rfl (by kernel_rfl) (by kernel_rfl) (fun _ _ _ h => h) (.inl ⟨rfl, fun w' hS => by simp [execOp, go_sem, hS.cell f3]⟩) (hS0) ?_
  simp only [Act.put, List.getElem_toArray, List.getElem_cons_zero, List.getElem_cons_succ, List.setIfInBounds_toArray, List.set_cons_succ, List.set_cons_zero]
  refine wpAnyX_one (j := 4) rfl (by kernel_rfl) rfl fun K hK => ?_
  go_wp2_with fail
  refine (wireKind_any 5 _ (by decide) (by decide)).mono ?_
  rintro e w1 ⟨rfl, hx1⟩
  have hS1 := hS0.trans hx1
  go_wp2
  refine hK.out _ _ (hS1) ?_
  clear hK K
  refine wpAnyX_one (j := 5) rfl (by kernel_rfl) rfl fun K hK => ?_
  go_wp2
  refine hK.out _ _ (hS1) ?_
  clear hK K
  refine wpAnyX_end [] [] rfl (by intro j i hj; simp at hj) (by kernel_rfl) (by intro i hi; simp at hi) fun K hK => ?_
  go_wp2
  refine hK.out _ _ ?_
  clear hK K
  have hE0 : Ext w w1 := hx0.trans hS1
  obtain ⟨g0, g1, g2, g3, g4, g5⟩ : w1.cell? ⟨w.heap.size, 0, none⟩ = some (.slice sb.a sb.len sb.cap) ∧ w1.cell? ⟨w.heap.size + 1, 0, none⟩ = some (.int .i64 fid) ∧ w1.cell? ⟨w.heap.size + 1, 1, none⟩ = some (.string fn) ∧ w1.cell? ⟨w.heap.size + 1, 2, none⟩ = some (.string ft) ∧ w1.cell? ⟨w.heap.size + 1, 3, none⟩ = some (.int .i64 5) ∧ w1.cell? ⟨w.heap.size + 1, 4, none⟩ = some (.int .i64 fr) := ⟨hS1.cell b0, hS1.cell f0, hS1.cell f1, hS1.cell f2, hS1.cell f3, hS1.cell f4⟩
  obtain ⟨q0, q1, q2, q3, q4⟩ : w1.cell? ⟨w.heap.size + 1 + 1, 0, none⟩ = some (.int .i64 2) ∧ w1.cell? ⟨w.heap.size + 1 + 1, 1, none⟩ = some (.int .i64 n) ∧ w1.cell? ⟨w.heap.size + 1 + 1, 2, none⟩ = some (.string s) ∧ w1.cell? ⟨w.heap.size + 1 + 1, 3, none⟩ = some (.slice ids.a ids.len ids.cap) ∧ w1.cell? ⟨w.heap.size + 1 + 1, 4, none⟩ = some (.slice l.a l.len l.cap) := ⟨hS1.cell v0, hS1.cell v1, hS1.cell v2, hS1.cell v3, hS1.cell v4⟩
  clear b0 f0 f1 f2 f3 f4 ff v0 v1 v2 v3 v4 vf
  go_wp2_with fail
  all_goals first
    | (go_ret; exact ⟨ret_int (unhide E).symm, hE0⟩)
    | (have := unhide HN; exfalso; simp_all; done)
    | (have := unhide HN; exfalso; simp_all; omega)
set_option maxHeartbeats 6400000 in
set_option maxRecDepth 10000 in
theorem single_good5 (sb : SV) (ts : BookM) (fid : Int) (fn ft : ByteArray) (fr : Int) (w : World) (hb : BookAt w sb ts) (hn : ts.Small) (ids l : SV) :
    Calls Tryz.prog 54 #[.agg #[.slice sb.a sb.len sb.cap], .agg #[.int .i64 fid, .string fn, .string ft, .int .i64 5, .int .i64 fr], .agg #[.int .i64 2, .int .i64 0, .string ⟨#[]⟩, .slice ids.a ids.len ids.cap, .slice l.a l.len l.cap]] w fun e w' => e = .returned (.int .i64 (wrongOneN ts ⟨fid, fn, ft, 5, fr⟩ 2 0 ⟨#[]⟩ ids.len l.len)) ∧ Ext w w' := by
  obtain ⟨w0, hw0⟩ : ∃ w0, w0 = ((w.alloc (.cells #[.slice sb.a sb.len sb.cap] 24)).alloc (.cells #[.int .i64 fid, .string fn, .string ft, .int .i64 5, .int .i64 fr] 56)).alloc (.cells #[.int .i64 2, .int .i64 0, .string ⟨#[]⟩, .slice ids.a ids.len ids.cap, .slice l.a l.len l.cap] 28) := ⟨_, rfl⟩
  obtain ⟨hx0, hz, r0, r1, r2⟩ := heaps3 hw0
  have hb0 := hide (hb.ext hx0)
  have E : Hid (wrongOneN ts ⟨fid, fn, ft, 5, fr⟩ 2 0 ⟨#[]⟩ ids.len l.len = 0) := by
    unfold Hid wrongOneN
    dsimp only
    rw [if_neg (show ¬ ((2 : Int) ≠ kindN 5) from by decide), if_neg (by unfold oneKindB; simp)]
    simp only [show ¬ ((5 : Int) = 1) by decide, show ¬ ((5 : Int) = 2) by decide, show ¬ ((5 : Int) = 3) by decide, show ¬ ((5 : Int) = 4) by decide, if_true, if_false]
  generalize wrongOneN ts ⟨fid, fn, ft, 5, fr⟩ 2 0 ⟨#[]⟩ ids.len l.len = R at *
  have HT := hide (fun w2 hx => refTypeOf_any sb ts ft w2 ((unhide hb0).ext hx) hn.1)
  have HW0 := hide hw0
  clear hw0 hb
  go_enter Tryz.func54, Tryz.ntmps54
  go_wp2_with fail
  rw [← unhide HW0]
  obtain ⟨f0, f1, f2, f3, f4, ff⟩ := row5 r1
  obtain ⟨v0, v1, v2, v3, v4, vf⟩ := row5 r2
  have b0 : w0.cell? ⟨w.heap.size, 0, none⟩ = some (.slice sb.a sb.len sb.cap) := cell_of_row _ _ 0 _ _ _ r0
  have hS0 : Ext w0 w0.drew := (Ext.refl w0).drew
  refine wp_region_X (fun w' => Ext w0 w') (fun _ => false) (by kernel_rfl) ?_
  refine wpAnyX_take (i := 0) (v := .pointer (some ⟨w.heap.size + 1 + 1, 0, none⟩)) rfl (by kernel_rfl) (by kernel_rfl) (fun _ _ _ h => h) (.inl ⟨rfl, fun w' hS => by simp [execOp, go_sem]⟩) (hS0) ?_
  simp only [Act.put, List.getElem_toArray, List.getElem_cons_zero, List.getElem_cons_succ, List.setIfInBounds_toArray, List.set_cons_succ, List.set_cons_zero]
  refine wpAnyX_take (i := 1) (v := .int .i64 2) rfl (by kernel_rfl) (by kernel_rfl) (fun _ _ _ h => h) (.inl ⟨rfl, fun w' hS => by simp [execOp, go_sem, hS.cell v0]⟩) (hS0) ?_
  simp only [Act.put, List.getElem_toArray, List.getElem_cons_zero, List.getElem_cons_succ, List.setIfInBounds_toArray, List.set_cons_succ, List.set_cons_zero]
  refine wpAnyX_take (i := 2) (v := .pointer (some ⟨w.heap.size + 1, 3, none⟩)) rfl (by kernel_rfl) (by kernel_rfl) (fun _ _ _ h => h) (.inl ⟨rfl, fun w' hS => by simp [execOp, go_sem]⟩) (hS0) ?_
  simp only [Act.put, List.getElem_toArray, List.getElem_cons_zero, List.getElem_cons_succ, List.setIfInBounds_toArray, List.set_cons_succ, List.set_cons_zero]
  refine wpAnyX_take (i := 3) (v := .int .i64 5) rfl (by kernel_rfl) (by kernel_rfl) (fun _ _ _ h => h) (.inl ⟨rfl, fun w' hS => by simp [execOp, go_sem, hS.cell f3]⟩) (hS0) ?_
  simp only [Act.put, List.getElem_toArray, List.getElem_cons_zero, List.getElem_cons_succ, List.setIfInBounds_toArray, List.set_cons_succ, List.set_cons_zero]
  refine wpAnyX_one (j := 4) rfl (by kernel_rfl) rfl fun K hK => ?_
  go_wp2_with fail
  refine (wireKind_any 5 _ (by decide) (by decide)).mono ?_
  rintro e w1 ⟨rfl, hx1⟩
  have hS1 := hS0.trans hx1
  go_wp2
  refine hK.out _ _ (hS1) ?_
  clear hK K
  refine wpAnyX_one (j := 5) rfl (by kernel_rfl) rfl fun K hK => ?_
  go_wp2
  refine hK.out _ _ (hS1) ?_
  clear hK K
  refine wpAnyX_end [] [] rfl (by intro j i hj; simp at hj) (by kernel_rfl) (by intro i hi; simp at hi) fun K hK => ?_
  go_wp2
  refine hK.out _ _ ?_
  clear hK K
  have hE0 : Ext w w1 := hx0.trans hS1
  obtain ⟨g0, g1, g2, g3, g4, g5⟩ : w1.cell? ⟨w.heap.size, 0, none⟩ = some (.slice sb.a sb.len sb.cap) ∧ w1.cell? ⟨w.heap.size + 1, 0, none⟩ = some (.int .i64 fid) ∧ w1.cell? ⟨w.heap.size + 1, 1, none⟩ = some (.string fn) ∧ w1.cell? ⟨w.heap.size + 1, 2, none⟩ = some (.string ft) ∧ w1.cell? ⟨w.heap.size + 1, 3, none⟩ = some (.int .i64 5) ∧ w1.cell? ⟨w.heap.size + 1, 4, none⟩ = some (.int .i64 fr) := ⟨hS1.cell b0, hS1.cell f0, hS1.cell f1, hS1.cell f2, hS1.cell f3, hS1.cell f4⟩
  obtain ⟨q0, q1, q2, q3, q4⟩ : w1.cell? ⟨w.heap.size + 1 + 1, 0, none⟩ = some (.int .i64 2) ∧ w1.cell? ⟨w.heap.size + 1 + 1, 1, none⟩ = some (.int .i64 0) ∧ w1.cell? ⟨w.heap.size + 1 + 1, 2, none⟩ = some (.string ⟨#[]⟩) ∧ w1.cell? ⟨w.heap.size + 1 + 1, 3, none⟩ = some (.slice ids.a ids.len ids.cap) ∧ w1.cell? ⟨w.heap.size + 1 + 1, 4, none⟩ = some (.slice l.a l.len l.cap) := ⟨hS1.cell v0, hS1.cell v1, hS1.cell v2, hS1.cell v3, hS1.cell v4⟩
  clear b0 f0 f1 f2 f3 f4 ff v0 v1 v2 v3 v4 vf
  have E2 : Hid (R = 0) := by unfold Hid; exact unhide E
  clear E
  go_wp2_with fail
  refine (unhide HT w1 hS1).mono ?_
  rintro e w2 ⟨tv, rfl, ht, hx2⟩
  clear ht
  obtain ⟨u0, u1⟩ : w2.cell? ⟨w.heap.size + 1, 3, none⟩ = some (.int .i64 5) ∧ w2.cell? ⟨w.heap.size + 1 + 1, 1, none⟩ = some (.int .i64 0) := ⟨hx2.cell g4, hx2.cell q1⟩
  have z0 := World.block_lt_of_cell? w2 _ u0
  have z1 := World.block_lt_of_cell? w2 _ u1
  clear q0 q1 q2 q3 q4 g0 g1 g2 g3 g4 g5
  go_wp2
  go_ret
  exact ⟨ret_int (unhide E2).symm, (hE0.trans hx2).alloc _⟩
theorem single_any (sb : SV) (ts : BookM) (f : FieldM) (kind n : Int) (s : ByteArray) (ids l : SV) (w : World) (hb : BookAt w sb ts) (hn : ts.Small) (hs : s.size ≤ 1048576) (hk : 1 ≤ f.kind ∧ f.kind ≤ 5) :
    Calls Tryz.prog 54 #[.agg #[.slice sb.a sb.len sb.cap], .agg #[.int .i64 f.id, .string f.name, .string f.type, .int .i64 f.kind, .int .i64 f.rule], .agg #[.int .i64 kind, .int .i64 n, .string s, .slice ids.a ids.len ids.cap, .slice l.a l.len l.cap]] w fun e w' => e = .returned (.int .i64 (wrongOneN ts f kind n s ids.len l.len)) ∧ Ext w w' := by
  obtain ⟨fid, fn, ft, fk, fr⟩ := f
  simp only at hk
  by_cases hne : kind = kindN fk
  case neg => exact single_other sb ts fid fn ft fk fr kind n s ids l w hk hne
  have hc : fk = 1 ∨ fk = 2 ∨ fk = 3 ∨ fk = 4 ∨ fk = 5 := by omega
  clear hk
  rcases hc with rfl | hc
  · obtain rfl : kind = 0 := hne
    by_cases hok : s.toList = [] ∧ ids.len = 0 ∧ l.len = 0
    · obtain ⟨hs0, hi0, hl0⟩ := hok
      obtain rfl : s = ⟨#[]⟩ := bytes_ext (by rw [← bytes_toList, hs0])
      obtain ⟨ia, il, ic⟩ := ids
      obtain ⟨la, ll, lc⟩ := l
      simp only at hi0 hl0
      subst hi0 hl0
      exact single_good1 sb ts fid fn ft fr w hb hn n ia ic la lc
    · exact single_bad1 sb ts fid fn ft fr n s ids l w hok
  rcases hc with rfl | hc
  · obtain rfl : kind = 0 := hne
    by_cases hok : s.toList = [] ∧ ids.len = 0 ∧ l.len = 0
    · obtain ⟨hs0, hi0, hl0⟩ := hok
      obtain rfl : s = ⟨#[]⟩ := bytes_ext (by rw [← bytes_toList, hs0])
      obtain ⟨ia, il, ic⟩ := ids
      obtain ⟨la, ll, lc⟩ := l
      simp only at hi0 hl0
      subst hi0 hl0
      exact single_good2 sb ts fid fn ft fr w hb hn n ia ic la lc
    · exact single_bad2 sb ts fid fn ft fr n s ids l w hok
  rcases hc with rfl | hc
  · obtain rfl : kind = 1 := hne
    by_cases hok : n = 0 ∧ ids.len = 0 ∧ l.len = 0
    · obtain ⟨rfl, hi0, hl0⟩ := hok
      obtain ⟨ia, il, ic⟩ := ids
      obtain ⟨la, ll, lc⟩ := l
      simp only at hi0 hl0
      subst hi0 hl0
      exact single_good3 sb ts fid fn ft fr w hb hn s hs ia ic la lc
    · exact single_bad3 sb ts fid fn ft fr n s ids l w hok
  rcases hc with rfl | hc
  · obtain rfl : kind = 0 := hne
    by_cases hok : s.toList = [] ∧ ids.len = 0 ∧ l.len = 0
    · obtain ⟨hs0, hi0, hl0⟩ := hok
      obtain rfl : s = ⟨#[]⟩ := bytes_ext (by rw [← bytes_toList, hs0])
      obtain ⟨ia, il, ic⟩ := ids
      obtain ⟨la, ll, lc⟩ := l
      simp only at hi0 hl0
      subst hi0 hl0
      exact single_good4 sb ts fid fn ft fr w hb hn n ia ic la lc
    · exact single_bad4 sb ts fid fn ft fr n s ids l w hok
  subst hc
  obtain rfl : kind = 2 := hne
  by_cases hok : n = 0 ∧ s.toList = []
  · obtain ⟨rfl, hs0⟩ := hok
    obtain rfl : s = ⟨#[]⟩ := bytes_ext (by rw [← bytes_toList, hs0])
    exact single_good5 sb ts fid fn ft fr w hb hn ids l
  · exact single_bad5 sb ts fid fn ft fr n s ids l w hok
end Go.Proofs.YtmdpdgldmedebaaGreatDoor

