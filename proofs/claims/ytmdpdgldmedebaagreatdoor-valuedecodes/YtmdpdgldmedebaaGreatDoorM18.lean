import Derived.Test.YtmdpdgldmedebaaGreatDoorM17
import Derived.Lib.Overlaps
import Derived.Laws.Externs
import Derived.Lib.AppendZerosOnto
import Derived.Laws.NewBlocks
namespace Go.Proofs.YtmdpdgldmedebaaGreatDoor
set_option linter.unusedSimpArgs false
set_option linter.unusedVariables false
set_option linter.unusedSimpArgs false
set_option linter.unusedVariables false
open Go.RowKit
set_option maxHeartbeats 3200000 in
set_option maxRecDepth 10000 in
theorem insertV_room (w : World) (g0 n c i g : Nat) (cur : Array Value) (news : List Value) (hg0 : w.heap[g0]? = some (.cells cur 28 (0, 0))) (hnc : n + 1 ≤ c) (hcm : c ≤ maxLen) (hcs : cur.size = c * 5) (hi : i < n) (hl : news.length = 5) (hgr : w.heap[g]? = some (.cells news.toArray 28 (0, 0))) (hne : g ≠ g0) (h1 : ∀ u ∈ news, u.oneCell' = true) (h1c : ∀ u ∈ cur.toList.take (n * 5), u.oneCell' = true) (hn : n < 1048576) :
    Calls Tryz.prog 85 #[.slice (some ⟨g0, 0, none⟩) n c, .int .i64 i, .slice (some ⟨g, 0, none⟩) 1 1] w fun e w' => e = .returned (.slice (some ⟨g0, 0, none⟩) (n + 1) c) ∧ ∃ cur', w'.heap[g0]? = some (.cells cur' 28 (0, 0)) ∧ cur'.size = c * 5 ∧ cur'.toList.take ((n + 1) * 5) = (cur.toList.take (n * 5)).take (i * 5) ++ news ++ (cur.toList.take (n * 5)).drop (i * 5) ∧ w.grownBy w' (some g0) := by
  have hsa : w.shape? g = some (28, 5) := by simp [World.shape?, hgr, hl]
  have hsb : w.shape? g0 = some (28, c * 5) := by simp [World.shape?, hg0, hcs]
  have hfz : ∀ j, w.frozen? ⟨g, j, none⟩ = false := fun j => frozen_of_row w g j _ 28 hgr
  have hov : ∀ lb cb, (callFunc 109 #[.slice (some ⟨g, 0, none⟩) 1 1, .slice (some ⟨g0, (i + 1) * 5, none⟩) lb cb]).run Tryz.prog w = .ok (.value (.bool false)) w := fun lb cb => by
    rw [run_callFunc_extern Tryz.func109 (by kernel_rfl) (by kernel_rfl) (by kernel_rfl) (e := Extern.SlicesOverlaps.overlaps #[26, 26] #[4]) (by kernel_rfl),
      Lib.run_overlaps_apart w 26 4 28 Tryz.underlying26 5 Tryz.sizeOf28 ⟨g, 0, none⟩ ⟨g0, (i + 1) * 5, none⟩ 1 1 lb cb hne 28 28 5 (c * 5) hsa hsb (by omega) (hfz 0) (hfz 5)]
    rfl
  have hz2 : ¬ ((i : Int) = (n : Int)) := by omega
  have hci : ¬ (c = i) := by omega
  have hci1 : ¬ (c = i + 1) := by omega
  have hc63 : c ≤ 9223372036854775807 := by unfold maxLen at hcm; omega
  have hin : (i : Int) ≤ (n : Int) := by omega
  have hnc2 : ((n : Int) + 1) ≤ (c : Int) := by omega
  have hin1 : (i : Int) + 1 ≤ (n : Int) + 1 := by omega
  have hin2 : (i : Int) ≤ (n : Int) + 1 := by omega
  have hw1 : IntKind.i64.wrap ((i : Int) + 1) = (i : Int) + 1 := by rw [IntKind.wrap_i64]; omega
  have hb1 : (0 : Int) ≤ (i : Int) + 1 := by omega
  have htn : ((i : Int) + 1).toNat = i + 1 := by omega
  go_enter Tryz.func85, Tryz.ntmps85
  go_wp2_with (simp only [hov])
  have hS0 : Ext w w.drew := (Ext.refl w).drew
  have hcl : cur.toList.length = c * 5 := by rw [Array.length_toList, hcs]
  obtain ⟨mv, hmv⟩ : ∃ mv, mv = (cur.toList.take (n * 5)).drop (i * 5) := ⟨_, rfl⟩
  have hmvl : mv.length = (n - i) * 5 := by rw [hmv, List.length_drop, List.length_take]; omega
  have hmin : n - i = Nat.min (n + 1 - i) (n + 1 - (i + 1)) := by simp only [Nat.min_def]; split <;> omega
  have hcp := fun (ty : TypeId) (dc sc : Nat) => run_copy_rowk (P := Tryz.prog) w.drew 26 26 ty 28 5 g0 ((i + 1) * 5) (n + 1 - (i + 1)) dc ⟨g0, i * 5, none⟩ (n + 1 - i) sc (n - i) cur 28 mv Tryz.underlying26 size28 hg0 hmin hmvl
    (fun j u hu => by
      rw [Addr.add_mid, cell_of_row w.drew g0 _ cur 28 _ hg0]
      rw [hmv, List.getElem?_drop, List.getElem?_take] at hu
      split at hu
      · rw [← Array.getElem?_toList, ← hu]
      · cases hu)
    (by rw [hmvl, hcs]; omega) (fun u hu => h1c u (List.mem_of_mem_drop (by rw [← hmv]; exact hu)))
  have Hcp := hide hcp
  clear hcp
  refine wp_region_X (fun _ => True) (fun _ => false) (by kernel_rfl) ?_
  refine wpAnyX_take (i := 0) (v := .slice (some ⟨g0, 0, none⟩) (n + 1) c) rfl (by kernel_rfl) (by kernel_rfl) (fun _ _ _ h => h) (.inl ⟨rfl, fun w' hS => by simp [execOp, go_sem]⟩) (trivial) ?_
  simp only [Act.put, List.getElem_toArray, List.getElem_cons_zero, List.getElem_cons_succ, List.setIfInBounds_toArray, List.set_cons_succ, List.set_cons_zero]
  refine wpAnyX_take (i := 1) (v := .int .i64 i) rfl (by kernel_rfl) (by kernel_rfl) (fun _ _ _ h => h) (.inl ⟨rfl, fun w' hS => by simp [execOp, go_sem]⟩) (trivial) ?_
  simp only [Act.put, List.getElem_toArray, List.getElem_cons_zero, List.getElem_cons_succ, List.setIfInBounds_toArray, List.set_cons_succ, List.set_cons_zero]
  refine wpAnyX_take (i := 2) (v := .int .i64 1) rfl (by kernel_rfl) (by kernel_rfl) (fun _ _ _ h => h) (.inl ⟨rfl, fun w' hS => by simp [execOp, go_sem]⟩) (trivial) ?_
  simp only [Act.put, List.getElem_toArray, List.getElem_cons_zero, List.getElem_cons_succ, List.setIfInBounds_toArray, List.set_cons_succ, List.set_cons_zero]
  refine wpAnyX_take (i := 3) (v := .int .i64 ((i : Int) + 1)) rfl (by kernel_rfl) (by kernel_rfl) (fun _ _ _ h => h) (.inl ⟨rfl, fun w' hS => by simp [execOp, go_sem, hw1]⟩) (trivial) ?_
  simp only [Act.put, List.getElem_toArray, List.getElem_cons_zero, List.getElem_cons_succ, List.setIfInBounds_toArray, List.set_cons_succ, List.set_cons_zero]
  refine wpAnyX_take (i := 4) (v := .slice (some ⟨g0, (i + 1) * 5, none⟩) (n + 1 - (i + 1)) (c - (i + 1))) rfl (by kernel_rfl) (by kernel_rfl) (fun _ _ _ h => h) (.inl ⟨rfl, fun w' hS => by simp [execOp, go_sem, hin1, hci1, hb1, htn]⟩) (trivial) ?_
  simp only [Act.put, List.getElem_toArray, List.getElem_cons_zero, List.getElem_cons_succ, List.setIfInBounds_toArray, List.set_cons_succ, List.set_cons_zero]
  refine wpAnyX_take (i := 5) (v := .slice (some ⟨g0, 0, none⟩) (n + 1) c) rfl (by kernel_rfl) (by kernel_rfl) (fun _ _ _ h => h) (.inl ⟨rfl, fun w' hS => by simp [execOp, go_sem]⟩) (trivial) ?_
  simp only [Act.put, List.getElem_toArray, List.getElem_cons_zero, List.getElem_cons_succ, List.setIfInBounds_toArray, List.set_cons_succ, List.set_cons_zero]
  refine wpAnyX_take (i := 6) (v := .int .i64 i) rfl (by kernel_rfl) (by kernel_rfl) (fun _ _ _ h => h) (.inl ⟨rfl, fun w' hS => by simp [execOp, go_sem]⟩) (trivial) ?_
  simp only [Act.put, List.getElem_toArray, List.getElem_cons_zero, List.getElem_cons_succ, List.setIfInBounds_toArray, List.set_cons_succ, List.set_cons_zero]
  refine wpAnyX_take (i := 7) (v := .slice (some ⟨g0, i * 5, none⟩) (n + 1 - i) (c - i)) rfl (by kernel_rfl) (by kernel_rfl) (fun _ _ _ h => h) (.inl ⟨rfl, fun w' hS => by simp [execOp, go_sem, hin2, hci]⟩) (trivial) ?_
  simp only [Act.put, List.getElem_toArray, List.getElem_cons_zero, List.getElem_cons_succ, List.setIfInBounds_toArray, List.set_cons_succ, List.set_cons_zero]
  refine wpAnyX_one (j := 8) rfl (by kernel_rfl) rfl fun K hK => ?_
  refine wpList_copyk _ _ 26 26 rfl rfl _ _ rfl rfl (unhide Hcp _ _ _) ?_
  go_wp2
  refine hK.out _ _ (trivial) ?_
  clear hK K
  refine wpAnyX_end [] [] rfl (by intro j i hj; simp at hj) (by kernel_rfl) (by intro i hi; simp at hi) fun K hK => ?_
  go_wp2
  refine hK.out _ _ ?_
  clear hK K
  obtain ⟨row1, hrow1⟩ : ∃ r, r = cur.toList.take ((i + 1) * 5) ++ mv ++ cur.toList.drop ((i + 1) * 5 + mv.length) := ⟨_, rfl⟩
  have hr1l : row1.length = c * 5 := by rw [hrow1]; simp only [List.length_append, List.length_take, List.length_drop]; omega
  rw [← hrow1]
  obtain ⟨W1, hW1⟩ : ∃ W1, W1 = w.drew.setRow g0 row1.toArray := ⟨_, rfl⟩
  have hg1 : W1.heap[g0]? = some (.cells row1.toArray 28 (0, 0)) := by rw [hW1]; exact setRow_heap w.drew g0 cur _ 28 _ hg0
  have hgr1 : W1.heap[g]? = some (.cells news.toArray 28 (0, 0)) := by rw [hW1, setRow_other w.drew g0 g _ hne]; exact hgr
  have hgw1 : w.grownBy W1 (some g0) := by
    rw [hW1]
    exact ⟨rfl, rfl, rfl, by simp, fun k _ hk => setRow_other w.drew g0 k _ (fun e => hk (by rw [e]))⟩
  rw [← hW1]
  clear hW1 Hcp
  have hmin2 : 1 = Nat.min 1 (n + 1 - i) := by simp only [Nat.min_def]; split <;> omega
  have hcp := fun (ty : TypeId) (dc sc : Nat) => run_copy_rowk (P := Tryz.prog) W1 26 26 ty 28 5 g0 (i * 5) (n + 1 - i) dc ⟨g, 0, none⟩ 1 sc 1 row1.toArray 28 news Tryz.underlying26 size28 hg1 hmin2 hl
    (fun j u hu => by
      rw [Addr.add_mid, cell_of_row W1 g _ news.toArray 28 _ hgr1]
      simpa using hu)
    (by simp; omega) h1
  have Hcp := hide hcp
  have Hmv := hide hmv
  have Hrow := hide hrow1
  have Hmvl := hide hmvl
  have Hr1l := hide hr1l
  have Hcl := hide hcl
  have Hcs := hide hcs
  have Hl := hide hl
  clear hcp hmv hrow1 hmvl hr1l hcl hcs hl hmin hmin2 hsa hsb hov
  have hcp2 := unhide Hcp 3 (c - i) 1
  go_wp2
  go_ret
  refine ⟨rfl, (row1.take (i * 5) ++ (news ++ row1.drop (i * 5 + news.length))).toArray, ?_, ?_, ?_, ?_⟩
  · exact setRow_heap W1 g0 row1.toArray _ 28 _ hg1
  · have h1 := unhide Hr1l
    have h2 := unhide Hl
    simp only [List.size_toArray, List.length_append, List.length_take, List.length_drop]
    omega
  · have h := put_in (cur := cur.toList) (k := 5) (i := i) (n := n) (c := c) (news := news) (unhide Hl) (by omega) hnc (unhide Hcl)
    rw [unhide Hrow, unhide Hmv, unhide Hl] at *
    have e : (i + 1) * 5 + ((cur.toList.take (n * 5)).drop (i * 5)).length = (n + 1) * 5 := by
      have := unhide Hmvl
      rw [unhide Hmv] at this
      rw [this]; omega
    rw [e, show i * 5 + 5 = (i + 1) * 5 by omega]
    simpa using h
  · exact ⟨hgw1.os, hgw1.tape, hgw1.output, by have := hgw1.size; simpa using this, fun k hk hne => by rw [setRow_other W1 g0 k _ (fun e => hne (by rw [e]))]; exact hgw1.block k hk hne⟩
end Go.Proofs.YtmdpdgldmedebaaGreatDoor

namespace Go.Proofs.YtmdpdgldmedebaaGreatDoor
set_option linter.unusedSimpArgs false
set_option linter.unusedVariables false
open Go.RowKit

theorem grow_in {cur : List Value} {k i n : Nat} {news z y : List Value} (hk : news.length = k) (hi : i < n) (hl : cur.length = n * k) (hz : z.length = (n + 1 - i) * k) :
    ((((cur.take (i * k) ++ z ++ y).take (i * k) ++ news ++ (cur.take (i * k) ++ z ++ y).drop (i * k + news.length)).take ((i + 1) * k) ++ cur.drop (i * k) ++ ((cur.take (i * k) ++ z ++ y).take (i * k) ++ news ++ (cur.take (i * k) ++ z ++ y).drop (i * k + news.length)).drop ((i + 1) * k + (cur.drop (i * k)).length)).take ((n + 1) * k)) = cur.take (i * k) ++ news ++ cur.drop (i * k) := by
  have e1 : (i + 1) * k = i * k + k := by rw [Nat.add_mul]; omega
  have e2 : (n + 1) * k = n * k + k := by rw [Nat.add_mul]; omega
  have h1 : i * k ≤ n * k := Nat.mul_le_mul_right _ (by omega)
  have a1 : (cur.take (i * k)).length = i * k := by rw [List.length_take]; omega
  have t1 : (cur.take (i * k) ++ z ++ y).take (i * k) = cur.take (i * k) := by
    rw [List.append_assoc, List.take_append_of_le_length (by omega), List.take_of_length_le (by omega)]
  rw [t1]
  have t2 : (cur.take (i * k) ++ news ++ (cur.take (i * k) ++ z ++ y).drop (i * k + news.length)).take ((i + 1) * k) = cur.take (i * k) ++ news := by
    rw [List.take_append_of_le_length (by rw [List.length_append]; omega), List.take_of_length_le (by rw [List.length_append]; omega)]
  rw [t2, List.take_append_of_le_length (by rw [List.length_append, List.length_append, List.length_drop]; omega), List.take_of_length_le (by rw [List.length_append, List.length_append, List.length_drop]; omega)]
theorem zeros_len (z : Value) (n : Nat) : (Builtin.zeroCells z.cells n).toList.length = n * z.cells.size := by
  simp [Builtin.zeroCells, Nat.mul_comm]

set_option maxHeartbeats 3200000 in
set_option maxRecDepth 10000 in
theorem insertI_grow (w : World) (g0 n i g : Nat) (cur : Array Value) (news : List Value) (hg0 : w.heap[g0]? = some (.cells cur 3 (0, 0))) (hcs : cur.size = n * 1) (hi : i < n) (hl : news.length = 1) (hgr : w.heap[g]? = some (.cells news.toArray 3 (0, 0))) (h1 : ∀ u ∈ news, u.oneCell' = true) (h1c : ∀ u ∈ cur.toList, u.oneCell' = true) (hn : n < 1048576) :
    Calls Tryz.prog 84 #[.slice (some ⟨g0, 0, none⟩) n n, .int .i64 i, .slice (some ⟨g, 0, none⟩) 1 1] w fun e w' => ∃ G cur', e = .returned (.slice (some ⟨w.heap.size, 0, none⟩) (n + 1) G) ∧ w'.heap[w.heap.size]? = some (.cells cur' 3 (0, 0)) ∧ n + 1 ≤ G ∧ G ≤ maxLen ∧ cur'.size = G * 1 ∧ cur'.toList.take ((n + 1) * 1) = cur.toList.take (i * 1) ++ news ++ cur.toList.drop (i * 1) ∧ w.grownBy w' none := by
  have hcl : cur.toList.length = n * 1 := by rw [Array.length_toList, hcs]
  obtain ⟨i0, hi0, hz0, hzs, hzb⟩ := info_parts info3
  have hgl0 := lt_of_heap hg0
  have hgl := lt_of_heap hgr
  have hkk : (n : Int) + 1 - (i : Int) = ((n + 1 - i : Nat) : Int) := by omega
  have hik : i + (n + 1 - i) = n + 1 := by omega
  have hold : (Builtin.firstCells i0.size i (.slice (some ⟨g0, 0, none⟩) i n)).run Tryz.prog w.drew = .ok (cur.toList.take (i * 1)).toArray w.drew := by
    rw [hzs]
    exact run_firstCells_some w.drew 1 i ⟨g0, 0, none⟩ i n (cur.toList.take (i * 1)) (by rw [List.length_take]; omega) (fun j v hj => by
      rw [Addr.add_mid, cell_of_row w.drew g0 _ cur 3 _ hg0, ← Array.getElem?_toList]
      rw [List.getElem?_take] at hj
      split at hj
      · rw [Nat.zero_add]; exact hj
      · cases hj)
  obtain ⟨G, hG⟩ : ∃ G, G = grownCap w (n + 1) n 3 := ⟨_, rfl⟩
  obtain ⟨z, hz⟩ : ∃ z : List Value, z = (Builtin.zeroCells (Value.cells (.int .i64 0)) (n + 1 - i)).toList := ⟨_, rfl⟩
  obtain ⟨y, hy⟩ : ∃ y : List Value, y = (Builtin.zeroCells (Value.cells (.int .i64 0)) (G - (n + 1))).toList := ⟨_, rfl⟩
  have hzl : z.length = (n + 1 - i) * 1 := by rw [hz]; exact zeros_len _ _
  have hyl : y.length = (G - (n + 1)) * 1 := by rw [hy]; exact zeros_len _ _
  have hGn : n + 1 ≤ G := by rw [hG]; exact grownCap_ge w _ _ _
  have hGm : G ≤ maxLen := by rw [hG]; exact grownCap_le_maxLen w (n + 1) n 3 (by unfold maxLen; omega)
  obtain ⟨row0, hrow0⟩ : ∃ r, r = cur.toList.take (i * 1) ++ z ++ y := ⟨_, rfl⟩
  have hr0l : row0.length = G * 1 := by rw [hrow0]; simp only [List.length_append, List.length_take]; omega
  have hrz : ∀ ty, (Builtin.append_ #[25, 3] ty #[.slice (some ⟨g0, 0, none⟩) i n, .int .i64 ((n : Int) + 1 - (i : Int))]).run Tryz.prog w =
      .ok (.slice (some ⟨w.heap.size, 0, none⟩) (n + 1) G) (w.drew.alloc (.cells row0.toArray 3)) := fun ty => by
    have h := Lib.run_append_grow_zeros (P := Tryz.prog) w 25 3 ty 3 i0 _ .i64 .i64 Tryz.underlying25 Tryz.underlying3 hi0 hz0 (some ⟨g0, 0, none⟩) i n (cur.toList.take (i * 1)) hold (n + 1 - i) (by omega) (by rw [hzs]; omega) (by omega) (by omega) (by rw [hzb]; omega) (by rw [hzb, hik]; exact growslice_fits (by omega) (by omega))
    rw [hik, ← hG] at h
    rw [hkk, h]
    congr 3
    rw [hrow0, hz, hy]
    simp
  have hG63 : G ≤ 9223372036854775807 := by unfold maxLen at hGm; omega
  have Hrz := hide hrz
  have HGm := hide hGm
  have Hcl := hide hcl
  have Hzl := hide hzl
  have Hyl := hide hyl
  have Hrow0 := hide hrow0
  have Hr0l := hide hr0l
  clear hrz hG hz hy hold hi0 hz0 hzs hzb hik hGm hkk
  have hz2 : ¬ ((i : Int) = (n : Int)) := by omega
  have hz3 : (n : Int) < (n : Int) + 1 := by omega
  have hci : ¬ (n = i) := by omega
  have hin : (i : Int) ≤ (n : Int) := by omega
  have hin1 : (i : Int) + 1 ≤ (n : Int) + 1 := by omega
  have hin2 : (i : Int) ≤ (n : Int) + 1 := by omega
  have hGi : ¬ (G = i) := by omega
  have hGi1 : ¬ (G = i + 1) := by omega
  have hw1 : IntKind.i64.wrap ((i : Int) + 1) = (i : Int) + 1 := by rw [IntKind.wrap_i64]; omega
  have hb1 : (0 : Int) ≤ (i : Int) + 1 := by omega
  have htn : ((i : Int) + 1).toNat = i + 1 := by omega
  clear hcs hcl hzl hyl hrow0 hr0l
  go_enter Tryz.func84, Tryz.ntmps84
  go_wp2_with (at_builtin; refine Lib.wpList_append_run _ rfl _ _ _ _ rfl _ _ rfl rfl _ _ (unhide Hrz _) ?_)
  obtain ⟨W0, hW0⟩ : ∃ W0, W0 = (w.alloc (.cells row0.toArray 3)).drew := ⟨_, rfl⟩
  have hN0 : W0.heap[w.heap.size]? = some (.cells row0.toArray 3 (0, 0)) := by rw [hW0]; exact heap_alloc_new w _
  have hx0 : Ext w W0 := by rw [hW0]; exact ((Ext.refl w).alloc _).drew
  rw [← hW0]
  clear hW0 Hrz
  have hgr0 := hx0.heap hgr
  have hg00 := hx0.heap hg0
  have hmin2 : 1 = Nat.min 1 (n + 1 - i) := by simp only [Nat.min_def]; split <;> omega
  have hcp := fun (ty : TypeId) (dc sc : Nat) => run_copy_rowk (P := Tryz.prog) W0 25 25 ty 3 1 w.heap.size i (n + 1 - i) dc ⟨g, 0, none⟩ 1 sc 1 row0.toArray 3 news Tryz.underlying25 size3 hN0 hmin2 hl
    (fun j u hu => by
      rw [Addr.add_mid, cell_of_row W0 g _ news.toArray 3 _ hgr0]
      simpa using hu)
    (by have := unhide Hr0l; simp; omega) h1
  obtain ⟨row1, hrow1⟩ : ∃ r, r = row0.toArray.toList.take i ++ news ++ row0.toArray.toList.drop (i + news.length) := ⟨_, rfl⟩
  rw [← hrow1] at hcp
  have hr1l : row1.length = G * 1 := by have := unhide Hr0l; rw [hrow1]; simp only [List.length_append, List.length_take, List.length_drop]; omega
  obtain ⟨W1, hW1⟩ : ∃ W1, W1 = W0.setRow w.heap.size row1.toArray := ⟨_, rfl⟩
  have hN1 : W1.heap[w.heap.size]? = some (.cells row1.toArray 3 (0, 0)) := by rw [hW1]; exact setRow_heap W0 w.heap.size row0.toArray _ 3 _ hN0
  have hg01 : W1.heap[g0]? = some (.cells cur 3 (0, 0)) := by rw [hW1, setRow_other W0 w.heap.size g0 _ (by omega)]; exact hg00
  have hgw1 : w.grownBy W1 none := by
    rw [hW1]
    exact ⟨hx0.os, hx0.tape, hx0.output, by have := hx0.size; simpa using this, fun k hk _ => by rw [setRow_other W0 w.heap.size k _ (by omega)]; exact Below.block hx0 k hk⟩
  rw [← hW1] at hcp
  have Hcp := hide hcp
  have Hrow1 := hide hrow1
  have Hr1l := hide hr1l
  have Hl := hide hl
  clear hcp hrow1 hr1l hl hmin2 hW1 hN0 hgr0 hg00
  have hcp1 := unhide Hcp 3 (G - i) 1
  go_wp2
  clear hcp1 Hcp
  have hS0 : Ext W1 W1.drew := (Ext.refl W1).drew
  obtain ⟨mv, hmv⟩ : ∃ mv, mv = cur.toList.drop (i * 1) := ⟨_, rfl⟩
  have hmvl : mv.length = (n - i) * 1 := by have := unhide Hcl; rw [hmv, List.length_drop]; omega
  have hmin : n - i = Nat.min (n - i) (n + 1 - (i + 1)) := by simp only [Nat.min_def]; split <;> omega
  have hcp := fun (ty : TypeId) (dc sc : Nat) => run_copy_rowk (P := Tryz.prog) W1.drew 25 25 ty 3 1 w.heap.size (i + 1) (n + 1 - (i + 1)) dc ⟨g0, i, none⟩ (n - i) sc (n - i) row1.toArray 3 mv Tryz.underlying25 size3 hN1 hmin hmvl
    (fun j u hu => by
      rw [Addr.add_mid, cell_of_row W1.drew g0 _ cur 3 _ hg01]
      rw [hmv, List.getElem?_drop] at hu
      first | (rw [← Array.getElem?_toList, ← hu]; done) | (rw [← Array.getElem?_toList, ← hu]; congr 1; omega) | (rw [← Array.getElem?_toList, ← hu]; congr 1))
    (by have := unhide Hr1l; rw [hmvl]; simp; omega) (fun u hu => h1c u (List.mem_of_mem_drop (by rw [← hmv]; exact hu)))
  have Hcp := hide hcp
  have Hmv := hide hmv
  have Hmvl := hide hmvl
  clear hcp hmv hmvl hmin
  refine wp_region_X (fun _ => True) (fun _ => false) (by kernel_rfl) ?_
  refine wpAnyX_take (i := 0) (v := .slice (some ⟨w.heap.size, 0, none⟩) (n + 1) G) rfl (by kernel_rfl) (by kernel_rfl) (fun _ _ _ h => h) (.inl ⟨rfl, fun w' hS => by simp [execOp, go_sem]⟩) (trivial) ?_
  simp only [Act.put, List.getElem_toArray, List.getElem_cons_zero, List.getElem_cons_succ, List.setIfInBounds_toArray, List.set_cons_succ, List.set_cons_zero]
  refine wpAnyX_take (i := 1) (v := .int .i64 i) rfl (by kernel_rfl) (by kernel_rfl) (fun _ _ _ h => h) (.inl ⟨rfl, fun w' hS => by simp [execOp, go_sem]⟩) (trivial) ?_
  simp only [Act.put, List.getElem_toArray, List.getElem_cons_zero, List.getElem_cons_succ, List.setIfInBounds_toArray, List.set_cons_succ, List.set_cons_zero]
  refine wpAnyX_take (i := 2) (v := .int .i64 1) rfl (by kernel_rfl) (by kernel_rfl) (fun _ _ _ h => h) (.inl ⟨rfl, fun w' hS => by simp [execOp, go_sem]⟩) (trivial) ?_
  simp only [Act.put, List.getElem_toArray, List.getElem_cons_zero, List.getElem_cons_succ, List.setIfInBounds_toArray, List.set_cons_succ, List.set_cons_zero]
  refine wpAnyX_take (i := 3) (v := .int .i64 ((i : Int) + 1)) rfl (by kernel_rfl) (by kernel_rfl) (fun _ _ _ h => h) (.inl ⟨rfl, fun w' hS => by simp [execOp, go_sem, hw1]⟩) (trivial) ?_
  simp only [Act.put, List.getElem_toArray, List.getElem_cons_zero, List.getElem_cons_succ, List.setIfInBounds_toArray, List.set_cons_succ, List.set_cons_zero]
  refine wpAnyX_take (i := 4) (v := .slice (some ⟨w.heap.size, (i + 1), none⟩) (n + 1 - (i + 1)) (G - (i + 1))) rfl (by kernel_rfl) (by kernel_rfl) (fun _ _ _ h => h) (.inl ⟨rfl, fun w' hS => by simp [execOp, go_sem, hin1, hGi1, hb1, htn]⟩) (trivial) ?_
  simp only [Act.put, List.getElem_toArray, List.getElem_cons_zero, List.getElem_cons_succ, List.setIfInBounds_toArray, List.set_cons_succ, List.set_cons_zero]
  refine wpAnyX_take (i := 5) (v := .slice (some ⟨g0, 0, none⟩) n n) rfl (by kernel_rfl) (by kernel_rfl) (fun _ _ _ h => h) (.inl ⟨rfl, fun w' hS => by simp [execOp, go_sem]⟩) (trivial) ?_
  simp only [Act.put, List.getElem_toArray, List.getElem_cons_zero, List.getElem_cons_succ, List.setIfInBounds_toArray, List.set_cons_succ, List.set_cons_zero]
  refine wpAnyX_take (i := 6) (v := .int .i64 i) rfl (by kernel_rfl) (by kernel_rfl) (fun _ _ _ h => h) (.inl ⟨rfl, fun w' hS => by simp [execOp, go_sem]⟩) (trivial) ?_
  simp only [Act.put, List.getElem_toArray, List.getElem_cons_zero, List.getElem_cons_succ, List.setIfInBounds_toArray, List.set_cons_succ, List.set_cons_zero]
  refine wpAnyX_take (i := 7) (v := .slice (some ⟨g0, i, none⟩) (n - i) (n - i)) rfl (by kernel_rfl) (by kernel_rfl) (fun _ _ _ h => h) (.inl ⟨rfl, fun w' hS => by simp [execOp, go_sem, hin, hci]⟩) (trivial) ?_
  simp only [Act.put, List.getElem_toArray, List.getElem_cons_zero, List.getElem_cons_succ, List.setIfInBounds_toArray, List.set_cons_succ, List.set_cons_zero]
  refine wpAnyX_one (j := 8) rfl (by kernel_rfl) rfl fun K hK => ?_
  refine wpList_copyk _ _ 25 25 rfl rfl _ _ rfl rfl (unhide Hcp _ _ _) ?_
  go_wp2
  refine hK.out _ _ (trivial) ?_
  clear hK K
  refine wpAnyX_end [] [] rfl (by intro j i hj; simp at hj) (by kernel_rfl) (by intro i hi; simp at hi) fun K hK => ?_
  go_wp2
  refine hK.out _ _ ?_
  clear hK K
  go_wp2
  go_ret
  refine ⟨G, _, rfl, setRow_heap W1.drew w.heap.size row1.toArray _ 3 _ hN1, hGn, unhide HGm, ?_, ?_, ?_⟩
  · have a := unhide Hr1l
    have b := unhide Hmvl
    simp only [List.size_toArray, List.length_append, List.length_take, List.length_drop]
    omega
  · have h := grow_in (cur := cur.toList) (k := 1) (i := i) (n := n) (news := news) (z := z) (y := y) (unhide Hl) hi (unhide Hcl) (unhide Hzl)
    rw [unhide Hmv, unhide Hrow1, unhide Hrow0]
    rw [← h]
    simp
  · exact ⟨hgw1.os, hgw1.tape, hgw1.output, by have := hgw1.size; simpa using this, fun k hk hne => by rw [setRow_other W1.drew w.heap.size k _ (by omega)]; exact hgw1.block k hk hne⟩
end Go.Proofs.YtmdpdgldmedebaaGreatDoor

