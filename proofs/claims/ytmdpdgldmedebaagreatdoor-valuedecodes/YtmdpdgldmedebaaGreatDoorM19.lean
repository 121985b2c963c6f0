import Derived.Test.YtmdpdgldmedebaaGreatDoorM18
import Derived.Lib.AppendZerosOnto
import Derived.Laws.NewBlocks
namespace Go.Proofs.YtmdpdgldmedebaaGreatDoor
set_option linter.unusedSimpArgs false
set_option linter.unusedVariables false
set_option linter.unusedSimpArgs false
set_option linter.unusedVariables false
open Go.RowKit


set_option maxHeartbeats 3200000 in
set_option maxRecDepth 10000 in
theorem insertV_grow (w : World) (g0 n i g : Nat) (cur : Array Value) (news : List Value) (hg0 : w.heap[g0]? = some (.cells cur 28 (0, 0))) (hcs : cur.size = n * 5) (hi : i < n) (hl : news.length = 5) (hgr : w.heap[g]? = some (.cells news.toArray 28 (0, 0))) (h1 : ∀ u ∈ news, u.oneCell' = true) (h1c : ∀ u ∈ cur.toList, u.oneCell' = true) (hn : n < 1048576) :
    Calls Tryz.prog 85 #[.slice (some ⟨g0, 0, none⟩) n n, .int .i64 i, .slice (some ⟨g, 0, none⟩) 1 1] w fun e w' => ∃ G cur', e = .returned (.slice (some ⟨w.heap.size, 0, none⟩) (n + 1) G) ∧ w'.heap[w.heap.size]? = some (.cells cur' 28 (0, 0)) ∧ n + 1 ≤ G ∧ G ≤ maxLen ∧ cur'.size = G * 5 ∧ cur'.toList.take ((n + 1) * 5) = cur.toList.take (i * 5) ++ news ++ cur.toList.drop (i * 5) ∧ w.grownBy w' none := by
  have hcl : cur.toList.length = n * 5 := by rw [Array.length_toList, hcs]
  obtain ⟨i0, hi0, hz0, hzs, hzb⟩ := info_parts info28
  have hgl0 := lt_of_heap hg0
  have hgl := lt_of_heap hgr
  have hkk : (n : Int) + 1 - (i : Int) = ((n + 1 - i : Nat) : Int) := by omega
  have hik : i + (n + 1 - i) = n + 1 := by omega
  have hold : (Builtin.firstCells i0.size i (.slice (some ⟨g0, 0, none⟩) i n)).run Tryz.prog w.drew = .ok (cur.toList.take (i * 5)).toArray w.drew := by
    rw [hzs]
    exact run_firstCells_some w.drew 5 i ⟨g0, 0, none⟩ i n (cur.toList.take (i * 5)) (by rw [List.length_take]; omega) (fun j v hj => by
      rw [Addr.add_mid, cell_of_row w.drew g0 _ cur 28 _ hg0, ← Array.getElem?_toList]
      rw [List.getElem?_take] at hj
      split at hj
      · rw [Nat.zero_add]; exact hj
      · cases hj)
  obtain ⟨G, hG⟩ : ∃ G, G = grownCap w (n + 1) n 28 := ⟨_, rfl⟩
  obtain ⟨z, hz⟩ : ∃ z : List Value, z = (Builtin.zeroCells (Value.cells (.agg #[.int .i64 0, .int .i64 0, .string ⟨#[]⟩, .slice none 0 0, .slice none 0 0])) (n + 1 - i)).toList := ⟨_, rfl⟩
  obtain ⟨y, hy⟩ : ∃ y : List Value, y = (Builtin.zeroCells (Value.cells (.agg #[.int .i64 0, .int .i64 0, .string ⟨#[]⟩, .slice none 0 0, .slice none 0 0])) (G - (n + 1))).toList := ⟨_, rfl⟩
  have hzl : z.length = (n + 1 - i) * 5 := by rw [hz]; exact zeros_len _ _
  have hyl : y.length = (G - (n + 1)) * 5 := by rw [hy]; exact zeros_len _ _
  have hGn : n + 1 ≤ G := by rw [hG]; exact grownCap_ge w _ _ _
  have hGm : G ≤ maxLen := by rw [hG]; exact grownCap_le_maxLen w (n + 1) n 28 (by unfold maxLen; omega)
  obtain ⟨row0, hrow0⟩ : ∃ r, r = cur.toList.take (i * 5) ++ z ++ y := ⟨_, rfl⟩
  have hr0l : row0.length = G * 5 := by rw [hrow0]; simp only [List.length_append, List.length_take]; omega
  have hrz : ∀ ty, (Builtin.append_ #[26, 3] ty #[.slice (some ⟨g0, 0, none⟩) i n, .int .i64 ((n : Int) + 1 - (i : Int))]).run Tryz.prog w =
      .ok (.slice (some ⟨w.heap.size, 0, none⟩) (n + 1) G) (w.drew.alloc (.cells row0.toArray 28)) := fun ty => by
    have h := Lib.run_append_grow_zeros (P := Tryz.prog) w 26 3 ty 28 i0 _ .i64 .i64 Tryz.underlying26 Tryz.underlying3 hi0 hz0 (some ⟨g0, 0, none⟩) i n (cur.toList.take (i * 5)) hold (n + 1 - i) (by omega) (by rw [hzs]; omega) (by omega) (by omega) (by rw [hzb]; omega) (by rw [hzb, hik]; exact growslice_fits (by omega) (by omega))
    rw [hik, ← hG] at h
    rw [hkk, h]
    congr 3
    rw [hrow0, hz, hy]
    simp
  have hG63 : G ≤ 9223372036854775807 := by unfold maxLen at hGm; omega
  have Hrz := hide hrz
  have HGm := hide hGm
  have Hcl := hide hcl
  have Hzl := hide hzl
  have Hyl := hide hyl
  have Hrow0 := hide hrow0
  have Hr0l := hide hr0l
  clear hrz hG hz hy hold hi0 hz0 hzs hzb hik hGm hkk
  have hz2 : ¬ ((i : Int) = (n : Int)) := by omega
  have hz3 : (n : Int) < (n : Int) + 1 := by omega
  have hci : ¬ (n = i) := by omega
  have hin : (i : Int) ≤ (n : Int) := by omega
  have hin1 : (i : Int) + 1 ≤ (n : Int) + 1 := by omega
  have hin2 : (i : Int) ≤ (n : Int) + 1 := by omega
  have hGi : ¬ (G = i) := by omega
  have hGi1 : ¬ (G = i + 1) := by omega
  have hw1 : IntKind.i64.wrap ((i : Int) + 1) = (i : Int) + 1 := by rw [IntKind.wrap_i64]; omega
  have hb1 : (0 : Int) ≤ (i : Int) + 1 := by omega
  have htn : ((i : Int) + 1).toNat = i + 1 := by omega
  clear hcs hcl hzl hyl hrow0 hr0l
  go_enter Tryz.func85, Tryz.ntmps85
  go_wp2_with (at_builtin; refine Lib.wpList_append_run _ rfl _ _ _ _ rfl _ _ rfl rfl _ _ (unhide Hrz _) ?_)
  obtain ⟨W0, hW0⟩ : ∃ W0, W0 = (w.alloc (.cells row0.toArray 28)).drew := ⟨_, rfl⟩
  have hN0 : W0.heap[w.heap.size]? = some (.cells row0.toArray 28 (0, 0)) := by rw [hW0]; exact heap_alloc_new w _
  have hx0 : Ext w W0 := by rw [hW0]; exact ((Ext.refl w).alloc _).drew
  rw [← hW0]
  clear hW0 Hrz
  have hgr0 := hx0.heap hgr
  have hg00 := hx0.heap hg0
  have hmin2 : 1 = Nat.min 1 (n + 1 - i) := by simp only [Nat.min_def]; split <;> omega
  have hcp := fun (ty : TypeId) (dc sc : Nat) => run_copy_rowk (P := Tryz.prog) W0 26 26 ty 28 5 w.heap.size (i * 5) (n + 1 - i) dc ⟨g, 0, none⟩ 1 sc 1 row0.toArray 28 news Tryz.underlying26 size28 hN0 hmin2 hl
    (fun j u hu => by
      rw [Addr.add_mid, cell_of_row W0 g _ news.toArray 28 _ hgr0]
      simpa using hu)
    (by have := unhide Hr0l; simp; omega) h1
  obtain ⟨row1, hrow1⟩ : ∃ r, r = row0.toArray.toList.take (i * 5) ++ news ++ row0.toArray.toList.drop ((i * 5) + news.length) := ⟨_, rfl⟩
  rw [← hrow1] at hcp
  have hr1l : row1.length = G * 5 := by have := unhide Hr0l; rw [hrow1]; simp only [List.length_append, List.length_take, List.length_drop]; omega
  obtain ⟨W1, hW1⟩ : ∃ W1, W1 = W0.setRow w.heap.size row1.toArray := ⟨_, rfl⟩
  have hN1 : W1.heap[w.heap.size]? = some (.cells row1.toArray 28 (0, 0)) := by rw [hW1]; exact setRow_heap W0 w.heap.size row0.toArray _ 28 _ hN0
  have hg01 : W1.heap[g0]? = some (.cells cur 28 (0, 0)) := by rw [hW1, setRow_other W0 w.heap.size g0 _ (by omega)]; exact hg00
  have hgw1 : w.grownBy W1 none := by
    rw [hW1]
    exact ⟨hx0.os, hx0.tape, hx0.output, by have := hx0.size; simpa using this, fun k hk _ => by rw [setRow_other W0 w.heap.size k _ (by omega)]; exact Below.block hx0 k hk⟩
  rw [← hW1] at hcp
  have Hcp := hide hcp
  have Hrow1 := hide hrow1
  have Hr1l := hide hr1l
  have Hl := hide hl
  clear hcp hrow1 hr1l hl hmin2 hW1 hN0 hgr0 hg00
  have hcp1 := unhide Hcp 3 (G - i) 1
  go_wp2
  clear hcp1 Hcp
  have hS0 : Ext W1 W1.drew := (Ext.refl W1).drew
  obtain ⟨mv, hmv⟩ : ∃ mv, mv = cur.toList.drop (i * 5) := ⟨_, rfl⟩
  have hmvl : mv.length = (n - i) * 5 := by have := unhide Hcl; rw [hmv, List.length_drop]; omega
  have hmin : n - i = Nat.min (n - i) (n + 1 - (i + 1)) := by simp only [Nat.min_def]; split <;> omega
  have hcp := fun (ty : TypeId) (dc sc : Nat) => run_copy_rowk (P := Tryz.prog) W1.drew 26 26 ty 28 5 w.heap.size ((i + 1) * 5) (n + 1 - (i + 1)) dc ⟨g0, (i * 5), none⟩ (n - i) sc (n - i) row1.toArray 28 mv Tryz.underlying26 size28 hN1 hmin hmvl
    (fun j u hu => by
      rw [Addr.add_mid, cell_of_row W1.drew g0 _ cur 28 _ hg01]
      rw [hmv, List.getElem?_drop] at hu
      first | (rw [← Array.getElem?_toList, ← hu]; done) | (rw [← Array.getElem?_toList, ← hu]; congr 1; omega) | (rw [← Array.getElem?_toList, ← hu]; congr 1))
    (by have := unhide Hr1l; rw [hmvl]; simp; omega) (fun u hu => h1c u (List.mem_of_mem_drop (by rw [← hmv]; exact hu)))
  have Hcp := hide hcp
  have Hmv := hide hmv
  have Hmvl := hide hmvl
  clear hcp hmv hmvl hmin
  refine wp_region_X (fun _ => True) (fun _ => false) (by kernel_rfl) ?_
  refine wpAnyX_take (i := 0) (v := .slice (some ⟨w.heap.size, 0, none⟩) (n + 1) G) rfl (by kernel_rfl) (by kernel_rfl) (fun _ _ _ h => h) (.inl ⟨rfl, fun w' hS => by simp [execOp, go_sem]⟩) (trivial) ?_
  simp only [Act.put, List.getElem_toArray, List.getElem_cons_zero, List.getElem_cons_succ, List.setIfInBounds_toArray, List.set_cons_succ, List.set_cons_zero]
  refine wpAnyX_take (i := 1) (v := .int .i64 i) rfl (by kernel_rfl) (by kernel_rfl) (fun _ _ _ h => h) (.inl ⟨rfl, fun w' hS => by simp [execOp, go_sem]⟩) (trivial) ?_
  simp only [Act.put, List.getElem_toArray, List.getElem_cons_zero, List.getElem_cons_succ, List.setIfInBounds_toArray, List.set_cons_succ, List.set_cons_zero]
  refine wpAnyX_take (i := 2) (v := .int .i64 1) rfl (by kernel_rfl) (by kernel_rfl) (fun _ _ _ h => h) (.inl ⟨rfl, fun w' hS => by simp [execOp, go_sem]⟩) (trivial) ?_
  simp only [Act.put, List.getElem_toArray, List.getElem_cons_zero, List.getElem_cons_succ, List.setIfInBounds_toArray, List.set_cons_succ, List.set_cons_zero]
  refine wpAnyX_take (i := 3) (v := .int .i64 ((i : Int) + 1)) rfl (by kernel_rfl) (by kernel_rfl) (fun _ _ _ h => h) (.inl ⟨rfl, fun w' hS => by simp [execOp, go_sem, hw1]⟩) (trivial) ?_
  simp only [Act.put, List.getElem_toArray, List.getElem_cons_zero, List.getElem_cons_succ, List.setIfInBounds_toArray, List.set_cons_succ, List.set_cons_zero]
  refine wpAnyX_take (i := 4) (v := .slice (some ⟨w.heap.size, ((i + 1) * 5), none⟩) (n + 1 - (i + 1)) (G - (i + 1))) rfl (by kernel_rfl) (by kernel_rfl) (fun _ _ _ h => h) (.inl ⟨rfl, fun w' hS => by simp [execOp, go_sem, hin1, hGi1, hb1, htn]⟩) (trivial) ?_
  simp only [Act.put, List.getElem_toArray, List.getElem_cons_zero, List.getElem_cons_succ, List.setIfInBounds_toArray, List.set_cons_succ, List.set_cons_zero]
  refine wpAnyX_take (i := 5) (v := .slice (some ⟨g0, 0, none⟩) n n) rfl (by kernel_rfl) (by kernel_rfl) (fun _ _ _ h => h) (.inl ⟨rfl, fun w' hS => by simp [execOp, go_sem]⟩) (trivial) ?_
  simp only [Act.put, List.getElem_toArray, List.getElem_cons_zero, List.getElem_cons_succ, List.setIfInBounds_toArray, List.set_cons_succ, List.set_cons_zero]
  refine wpAnyX_take (i := 6) (v := .int .i64 i) rfl (by kernel_rfl) (by kernel_rfl) (fun _ _ _ h => h) (.inl ⟨rfl, fun w' hS => by simp [execOp, go_sem]⟩) (trivial) ?_
  simp only [Act.put, List.getElem_toArray, List.getElem_cons_zero, List.getElem_cons_succ, List.setIfInBounds_toArray, List.set_cons_succ, List.set_cons_zero]
  refine wpAnyX_take (i := 7) (v := .slice (some ⟨g0, (i * 5), none⟩) (n - i) (n - i)) rfl (by kernel_rfl) (by kernel_rfl) (fun _ _ _ h => h) (.inl ⟨rfl, fun w' hS => by simp [execOp, go_sem, hin, hci]⟩) (trivial) ?_
  simp only [Act.put, List.getElem_toArray, List.getElem_cons_zero, List.getElem_cons_succ, List.setIfInBounds_toArray, List.set_cons_succ, List.set_cons_zero]
  refine wpAnyX_one (j := 8) rfl (by kernel_rfl) rfl fun K hK => ?_
  refine wpList_copyk _ _ 26 26 rfl rfl _ _ rfl rfl (unhide Hcp _ _ _) ?_
  go_wp2
  refine hK.out _ _ (trivial) ?_
  clear hK K
  refine wpAnyX_end [] [] rfl (by intro j i hj; simp at hj) (by kernel_rfl) (by intro i hi; simp at hi) fun K hK => ?_
  go_wp2
  refine hK.out _ _ ?_
  clear hK K
  go_wp2
  go_ret
  refine ⟨G, _, rfl, setRow_heap W1.drew w.heap.size row1.toArray _ 28 _ hN1, hGn, unhide HGm, ?_, ?_, ?_⟩
  · have a := unhide Hr1l
    have b := unhide Hmvl
    simp only [List.size_toArray, List.length_append, List.length_take, List.length_drop]
    omega
  · have h := grow_in (cur := cur.toList) (k := 5) (i := i) (n := n) (news := news) (z := z) (y := y) (unhide Hl) hi (unhide Hcl) (unhide Hzl)
    rw [unhide Hmv, unhide Hrow1, unhide Hrow0]
    rw [← h]
    simp
  · exact ⟨hgw1.os, hgw1.tape, hgw1.output, by have := hgw1.size; simpa using this, fun k hk hne => by rw [setRow_other W1.drew w.heap.size k _ (by omega)]; exact hgw1.block k hk hne⟩
end Go.Proofs.YtmdpdgldmedebaaGreatDoor

