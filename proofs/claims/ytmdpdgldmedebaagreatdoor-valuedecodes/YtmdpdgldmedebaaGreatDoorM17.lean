import Derived.Test.YtmdpdgldmedebaaGreatDoorM16
import Derived.Laws.CopyRow
import Derived.Lib.Overlaps
import Derived.Laws.Externs
namespace Go.Proofs.YtmdpdgldmedebaaGreatDoor
set_option linter.unusedSimpArgs false
set_option linter.unusedVariables false
set_option linter.unusedSimpArgs false
set_option linter.unusedVariables false
open Go.RowKit

/-- copy within rows, of elements of k cells. -/
theorem run_copy_rowk {P : Program} (w : World) (dT sT ty elem : TypeId) (k g o dLen dCap : Nat) (a : Addr) (sLen sCap m : Nat) (cur : Array Value) (t : TypeId) (cs : List Value)
    (hu : P.underlying dT = some (.slice elem)) (hs : (P.info? elem).map (·.size) = some k)
    (hg : w.heap[g]? = some (.cells cur t (0, 0))) (hm : m = Nat.min sLen dLen) (hn : cs.length = m * k)
    (hsrc : ∀ j v, cs[j]? = some v → w.cell? (a.add j) = some v) (hfit : o + cs.length ≤ cur.size) (h1 : ∀ v ∈ cs, v.oneCell' = true) :
    (Builtin.copy_ #[dT, sT] ty #[.slice (some ⟨g, o, none⟩) dLen dCap, .slice (some a) sLen sCap]).run P w =
      .ok (goInt m) (w.setRow g (cur.toList.take o ++ cs ++ cur.toList.drop (o + cs.length)).toArray) := by
  have hl := run_loadCells_list (P := P) w a cs hsrc
  have hst := run_storeCells_at P g o t cs 0 cur w hg (by simpa using hfit) h1
  cases hq : P.info? elem with
  | none => simp [hq] at hs
  | some i =>
    have hi : i.size = k := by simpa [hq] using hs
    simp [Builtin.copy_, run_underlying hu, Builtin.lenOf, Builtin.firstCells, sizeOf, typeInfo, hq, hi, ← hm, ← hn, hl, hst]
/-- .. as one operation. -/
theorem wpList_copyk {P : Program} {w : World} {ops : Array Oper} {rest : List Oper} {o : Oper} {a : Act} {Q : Exit → Act → World → Prop} (d s : Operand) (t t' : TypeId) (hgd : o.guard = none)
    (ho : o.op = .call { callee := .builtin .copy, args := #[d, s], argTypes := #[t, t'] }) (v u : Value) (hd : a.eval d = v) (hs : a.eval s = u) {v' : Value} {w' : World}
    (hr : (Builtin.copy_ #[t, t'] o.type #[v, u]).run P w = .ok v' w') (h : wpList P ops Q rest (a.put o.dst v') w') : wpList P ops Q (o :: rest) a w := by
  refine wpList_plain hgd fun _ hK => ?_
  unfold Oper.wp execOp
  simp only [ho, resolve, invoke, builtin, Sem.run_bind, Sem.run_pure, Result.andThen_ok, List.map_toArray, List.map_cons, List.map_nil, hd, hs, hr]
  exact hK _ _ h
theorem size3 : (Tryz.prog.info? 3).map (·.size) = some 1 := by kernel_rfl
theorem size28 : (Tryz.prog.info? 28).map (·.size) = some 5 := by kernel_rfl
/-- A row, with one put in: what stood from there on has moved up first. -/
theorem put_in {cur : List Value} {k i n c : Nat} {news : List Value} (hk : news.length = k) (hi : i ≤ n) (hc : n + 1 ≤ c) (hl : cur.length = c * k) :
    (((cur.take ((i + 1) * k) ++ (cur.take (n * k)).drop (i * k) ++ cur.drop ((n + 1) * k)).take (i * k) ++ news ++ (cur.take ((i + 1) * k) ++ (cur.take (n * k)).drop (i * k) ++ cur.drop ((n + 1) * k)).drop ((i + 1) * k)).take ((n + 1) * k)) = (cur.take (n * k)).take (i * k) ++ news ++ (cur.take (n * k)).drop (i * k) := by
  have e1 : (i + 1) * k = i * k + k := by rw [Nat.add_mul]; omega
  have e2 : (n + 1) * k = n * k + k := by rw [Nat.add_mul]; omega
  have h1 : i * k ≤ n * k := Nat.mul_le_mul_right _ hi
  have h2 : n * k + k ≤ c * k := by rw [← e2]; exact Nat.mul_le_mul_right _ hc
  have a1 : (cur.take ((i + 1) * k)).length = i * k + k := by rw [List.length_take]; omega
  have a2 : ((cur.take (n * k)).drop (i * k)).length = n * k - i * k := by rw [List.length_drop, List.length_take]; omega
  have t1 : (cur.take ((i + 1) * k) ++ (cur.take (n * k)).drop (i * k) ++ cur.drop ((n + 1) * k)).take (i * k) = cur.take (i * k) := by
    rw [List.append_assoc, List.take_append_of_le_length (by omega), List.take_take, Nat.min_eq_left (by omega)]
  have t2 : (cur.take ((i + 1) * k) ++ (cur.take (n * k)).drop (i * k) ++ cur.drop ((n + 1) * k)).drop ((i + 1) * k) = (cur.take (n * k)).drop (i * k) ++ cur.drop ((n + 1) * k) := by
    rw [List.append_assoc, List.drop_append_of_le_length (by omega), List.drop_of_length_le (by omega), List.nil_append]
  rw [t1, t2, List.take_take, Nat.min_eq_left h1, ← List.append_assoc]
  rw [List.take_append_of_le_length (by simp only [List.length_append, a2, hk, List.length_take]; omega)]
  rw [List.take_of_length_le (by simp only [List.length_append, a2, hk, List.length_take]; omega)]
end Go.Proofs.YtmdpdgldmedebaaGreatDoor

namespace Go.Proofs.YtmdpdgldmedebaaGreatDoor
set_option linter.unusedSimpArgs false
set_option linter.unusedVariables false
open Go.RowKit
set_option maxHeartbeats 3200000 in
set_option maxRecDepth 10000 in
theorem insertI_room (w : World) (g0 n c i g : Nat) (cur : Array Value) (news : List Value) (hg0 : w.heap[g0]? = some (.cells cur 3 (0, 0))) (hnc : n + 1 ≤ c) (hcm : c ≤ maxLen) (hcs : cur.size = c * 1) (hi : i < n) (hl : news.length = 1) (hgr : w.heap[g]? = some (.cells news.toArray 3 (0, 0))) (hne : g ≠ g0) (h1 : ∀ u ∈ news, u.oneCell' = true) (h1c : ∀ u ∈ cur.toList.take (n * 1), u.oneCell' = true) (hn : n < 1048576) :
    Calls Tryz.prog 84 #[.slice (some ⟨g0, 0, none⟩) n c, .int .i64 i, .slice (some ⟨g, 0, none⟩) 1 1] w fun e w' => e = .returned (.slice (some ⟨g0, 0, none⟩) (n + 1) c) ∧ ∃ cur', w'.heap[g0]? = some (.cells cur' 3 (0, 0)) ∧ cur'.size = c * 1 ∧ cur'.toList.take ((n + 1) * 1) = (cur.toList.take (n * 1)).take (i * 1) ++ news ++ (cur.toList.take (n * 1)).drop (i * 1) ∧ w.grownBy w' (some g0) := by
  have hsa : w.shape? g = some (3, 1) := by simp [World.shape?, hgr, hl]
  have hsb : w.shape? g0 = some (3, c) := by simp [World.shape?, hg0, hcs]
  have hfz : ∀ j, w.frozen? ⟨g, j, none⟩ = false := fun j => frozen_of_row w g j _ 3 hgr
  have hov : ∀ lb cb, (callFunc 107 #[.slice (some ⟨g, 0, none⟩) 1 1, .slice (some ⟨g0, i + 1, none⟩) lb cb]).run Tryz.prog w = .ok (.value (.bool false)) w := fun lb cb => by
    rw [run_callFunc_extern Tryz.func107 (by kernel_rfl) (by kernel_rfl) (by kernel_rfl) (e := Extern.SlicesOverlaps.overlaps #[25, 25] #[4]) (by kernel_rfl),
      Lib.run_overlaps_apart w 25 4 3 Tryz.underlying25 1 Tryz.sizeOf3 ⟨g, 0, none⟩ ⟨g0, i + 1, none⟩ 1 1 lb cb hne 3 3 1 c hsa hsb (by omega) (hfz 0) (hfz 1)]
    rfl
  have hz2 : ¬ ((i : Int) = (n : Int)) := by omega
  have hci : ¬ (c = i) := by omega
  have hci1 : ¬ (c = i + 1) := by omega
  have hc63 : c ≤ 9223372036854775807 := by unfold maxLen at hcm; omega
  have hin : (i : Int) ≤ (n : Int) := by omega
  have hnc2 : ((n : Int) + 1) ≤ (c : Int) := by omega
  have hin1 : (i : Int) + 1 ≤ (n : Int) + 1 := by omega
  have hin2 : (i : Int) ≤ (n : Int) + 1 := by omega
  have hw1 : IntKind.i64.wrap ((i : Int) + 1) = (i : Int) + 1 := by rw [IntKind.wrap_i64]; omega
  have hb1 : (0 : Int) ≤ (i : Int) + 1 := by omega
  have htn : ((i : Int) + 1).toNat = i + 1 := by omega
  go_enter Tryz.func84, Tryz.ntmps84
  go_wp2_with (simp only [hov])
  have hS0 : Ext w w.drew := (Ext.refl w).drew
  have hcl : cur.toList.length = c := by rw [Array.length_toList, hcs, Nat.mul_one]
  obtain ⟨mv, hmv⟩ : ∃ mv, mv = (cur.toList.take (n * 1)).drop (i * 1) := ⟨_, rfl⟩
  have hmvl : mv.length = (n - i) * 1 := by rw [hmv, List.length_drop, List.length_take]; omega
  have hmin : n - i = Nat.min (n + 1 - i) (n + 1 - (i + 1)) := by simp only [Nat.min_def]; split <;> omega
  have hcp := fun (ty : TypeId) (dc sc : Nat) => run_copy_rowk (P := Tryz.prog) w.drew 25 25 ty 3 1 g0 (i + 1) (n + 1 - (i + 1)) dc ⟨g0, i, none⟩ (n + 1 - i) sc (n - i) cur 3 mv Tryz.underlying25 size3 hg0 hmin hmvl
    (fun j u hu => by
      rw [Addr.add_mid, cell_of_row w.drew g0 _ cur 3 _ hg0]
      rw [hmv, List.getElem?_drop, List.getElem?_take] at hu
      split at hu
      · rw [← Array.getElem?_toList, ← hu]; congr 1; omega
      · cases hu)
    (by rw [hmvl, hcs]; omega) (fun u hu => h1c u (List.mem_of_mem_drop (by rw [← hmv]; exact hu)))
  have Hcp := hide hcp
  clear hcp
  refine wp_region_X (fun _ => True) (fun _ => false) (by kernel_rfl) ?_
  refine wpAnyX_take (i := 0) (v := .slice (some ⟨g0, 0, none⟩) (n + 1) c) rfl (by kernel_rfl) (by kernel_rfl) (fun _ _ _ h => h) (.inl ⟨rfl, fun w' hS => by simp [execOp, go_sem]⟩) (trivial) ?_
  simp only [Act.put, List.getElem_toArray, List.getElem_cons_zero, List.getElem_cons_succ, List.setIfInBounds_toArray, List.set_cons_succ, List.set_cons_zero]
  refine wpAnyX_take (i := 1) (v := .int .i64 i) rfl (by kernel_rfl) (by kernel_rfl) (fun _ _ _ h => h) (.inl ⟨rfl, fun w' hS => by simp [execOp, go_sem]⟩) (trivial) ?_
  simp only [Act.put, List.getElem_toArray, List.getElem_cons_zero, List.getElem_cons_succ, List.setIfInBounds_toArray, List.set_cons_succ, List.set_cons_zero]
  refine wpAnyX_take (i := 2) (v := .int .i64 1) rfl (by kernel_rfl) (by kernel_rfl) (fun _ _ _ h => h) (.inl ⟨rfl, fun w' hS => by simp [execOp, go_sem]⟩) (trivial) ?_
  simp only [Act.put, List.getElem_toArray, List.getElem_cons_zero, List.getElem_cons_succ, List.setIfInBounds_toArray, List.set_cons_succ, List.set_cons_zero]
  refine wpAnyX_take (i := 3) (v := .int .i64 ((i : Int) + 1)) rfl (by kernel_rfl) (by kernel_rfl) (fun _ _ _ h => h) (.inl ⟨rfl, fun w' hS => by simp [execOp, go_sem, hw1]⟩) (trivial) ?_
  simp only [Act.put, List.getElem_toArray, List.getElem_cons_zero, List.getElem_cons_succ, List.setIfInBounds_toArray, List.set_cons_succ, List.set_cons_zero]
  refine wpAnyX_take (i := 4) (v := .slice (some ⟨g0, i + 1, none⟩) (n + 1 - (i + 1)) (c - (i + 1))) rfl (by kernel_rfl) (by kernel_rfl) (fun _ _ _ h => h) (.inl ⟨rfl, fun w' hS => by simp [execOp, go_sem, hin1, hci1, hb1, htn]⟩) (trivial) ?_
  simp only [Act.put, List.getElem_toArray, List.getElem_cons_zero, List.getElem_cons_succ, List.setIfInBounds_toArray, List.set_cons_succ, List.set_cons_zero]
  refine wpAnyX_take (i := 5) (v := .slice (some ⟨g0, 0, none⟩) (n + 1) c) rfl (by kernel_rfl) (by kernel_rfl) (fun _ _ _ h => h) (.inl ⟨rfl, fun w' hS => by simp [execOp, go_sem]⟩) (trivial) ?_
  simp only [Act.put, List.getElem_toArray, List.getElem_cons_zero, List.getElem_cons_succ, List.setIfInBounds_toArray, List.set_cons_succ, List.set_cons_zero]
  refine wpAnyX_take (i := 6) (v := .int .i64 i) rfl (by kernel_rfl) (by kernel_rfl) (fun _ _ _ h => h) (.inl ⟨rfl, fun w' hS => by simp [execOp, go_sem]⟩) (trivial) ?_
  simp only [Act.put, List.getElem_toArray, List.getElem_cons_zero, List.getElem_cons_succ, List.setIfInBounds_toArray, List.set_cons_succ, List.set_cons_zero]
  refine wpAnyX_take (i := 7) (v := .slice (some ⟨g0, i, none⟩) (n + 1 - i) (c - i)) rfl (by kernel_rfl) (by kernel_rfl) (fun _ _ _ h => h) (.inl ⟨rfl, fun w' hS => by simp [execOp, go_sem, hin2, hci]⟩) (trivial) ?_
  simp only [Act.put, List.getElem_toArray, List.getElem_cons_zero, List.getElem_cons_succ, List.setIfInBounds_toArray, List.set_cons_succ, List.set_cons_zero]
  refine wpAnyX_one (j := 8) rfl (by kernel_rfl) rfl fun K hK => ?_
  refine wpList_copyk _ _ 25 25 rfl rfl _ _ rfl rfl (unhide Hcp _ _ _) ?_
  go_wp2
  refine hK.out _ _ (trivial) ?_
  clear hK K
  refine wpAnyX_end [] [] rfl (by intro j i hj; simp at hj) (by kernel_rfl) (by intro i hi; simp at hi) fun K hK => ?_
  go_wp2
  refine hK.out _ _ ?_
  clear hK K
  obtain ⟨row1, hrow1⟩ : ∃ r, r = cur.toList.take (i + 1) ++ mv ++ cur.toList.drop (i + 1 + mv.length) := ⟨_, rfl⟩
  have hr1l : row1.length = c := by rw [hrow1]; simp only [List.length_append, List.length_take, List.length_drop]; omega
  rw [← hrow1]
  obtain ⟨W1, hW1⟩ : ∃ W1, W1 = w.drew.setRow g0 row1.toArray := ⟨_, rfl⟩
  have hg1 : W1.heap[g0]? = some (.cells row1.toArray 3 (0, 0)) := by rw [hW1]; exact setRow_heap w.drew g0 cur _ 3 _ hg0
  have hgr1 : W1.heap[g]? = some (.cells news.toArray 3 (0, 0)) := by rw [hW1, setRow_other w.drew g0 g _ hne]; exact hgr
  have hgw1 : w.grownBy W1 (some g0) := by
    rw [hW1]
    exact ⟨rfl, rfl, rfl, by simp, fun k _ hk => setRow_other w.drew g0 k _ (fun e => hk (by rw [e]))⟩
  rw [← hW1]
  clear hW1 Hcp
  have hmin2 : 1 = Nat.min 1 (n + 1 - i) := by simp only [Nat.min_def]; split <;> omega
  have hcp := fun (ty : TypeId) (dc sc : Nat) => run_copy_rowk (P := Tryz.prog) W1 25 25 ty 3 1 g0 i (n + 1 - i) dc ⟨g, 0, none⟩ 1 sc 1 row1.toArray 3 news Tryz.underlying25 size3 hg1 hmin2 hl
    (fun j u hu => by
      rw [Addr.add_mid, cell_of_row W1 g _ news.toArray 3 _ hgr1]
      simpa using hu)
    (by simp; omega) h1
  have Hcp := hide hcp
  have Hmv := hide hmv
  have Hrow := hide hrow1
  have Hmvl := hide hmvl
  have Hr1l := hide hr1l
  have Hcl := hide hcl
  have Hcs := hide hcs
  have Hl := hide hl
  clear hcp hmv hrow1 hmvl hr1l hcl hcs hl hmin hmin2 hsa hsb hov
  have hcp2 := unhide Hcp 3 (c - i) 1
  go_wp2
  go_ret
  refine ⟨rfl, (row1.take i ++ (news ++ row1.drop (i + news.length))).toArray, ?_, ?_, ?_, ?_⟩
  · exact setRow_heap W1 g0 row1.toArray _ 3 _ hg1
  · have h1 := unhide Hr1l
    have h2 := unhide Hl
    simp only [List.size_toArray, List.length_append, List.length_take, List.length_drop]
    omega
  · have h := put_in (cur := cur.toList) (k := 1) (i := i) (n := n) (c := c) (news := news) (unhide Hl) (by omega) hnc (by rw [unhide Hcl, Nat.mul_one])
    rw [unhide Hrow, unhide Hmv, unhide Hl] at *
    have e : i + 1 + ((cur.toList.take (n * 1)).drop (i * 1)).length = (n + 1) * 1 := by
      have := unhide Hmvl
      rw [unhide Hmv] at this
      rw [this]; omega
    rw [e]
    simpa using h
  · exact ⟨hgw1.os, hgw1.tape, hgw1.output, by have := hgw1.size; simpa using this, fun k hk hne => by rw [setRow_other W1 g0 k _ (fun e => hne (by rw [e]))]; exact hgw1.block k hk hne⟩
end Go.Proofs.YtmdpdgldmedebaaGreatDoor

