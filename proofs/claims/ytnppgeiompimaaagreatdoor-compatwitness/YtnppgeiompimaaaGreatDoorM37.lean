import Derived.Test.YtnppgeiompimaaaGreatDoorM36
namespace Go.Proofs.YtnppgeiompimaaaGreatDoor
set_option linter.unusedSimpArgs false
set_option linter.unusedVariables false
set_option linter.unusedSimpArgs false
set_option linter.unusedVariables false
open Go.RowKit Go.Sort Go.Shelf Go.Lib

def lexB {α : Type} (p q : α → α → Bool) (x y : α) : Bool := p x y || (!p y x && q x y)
theorem swo_lex {α : Type} {p q : α → α → Bool} (hp : SWO p) (hq : SWO q) : SWO (lexB p q) where
  irrefl x := by unfold lexB; rw [hp.irrefl, hq.irrefl]; rfl
  trans x y z h1 h2 := by
    unfold lexB at *
    cases hxz : p x z with
    | true => rfl
    | false =>
      have c1 : p x y = true → p y z = true → False := fun a b => by rw [hp.trans _ _ _ a b] at hxz; cases hxz
      have c2 : p z y = false → p x y = false := fun a => hp.ntrans _ _ _ hxz a
      have c3 : p y x = false → p y z = false := fun a => hp.ntrans _ _ _ a hxz
      have c4 : p z y = false → p y x = false → p z x = false := fun a b => hp.ntrans _ _ _ a b
      have c5 : q x y = true → q y z = true → q x z = true := hq.trans _ _ _
      revert h1 h2 c1 c2 c3 c4 c5
      cases p x y <;> cases p y x <;> cases p y z <;> cases p z y <;> cases p z x <;> cases q x y <;> cases q y z <;> cases q x z <;> simp
  ntrans x y z h1 h2 := by
    unfold lexB at *
    have c0 : p x y = false → p y z = false → p x z = false := hp.ntrans _ _ _
    have c1 : p y z = false → p z x = false → p y x = false := hp.ntrans _ _ _
    have c2 : p z x = false → p x y = false → p z y = false := hp.ntrans _ _ _
    have c5 : q x y = false → q y z = false → q x z = false := hq.ntrans _ _ _
    revert h1 h2 c0 c1 c2 c5
    cases p x y <;> cases p y x <;> cases p y z <;> cases p z y <;> cases p x z <;> cases p z x <;> cases q x y <;> cases q y z <;> cases q x z <;> simp
def or3 (a b c : Int) : Int := if a ≠ 0 then a else if b ≠ 0 then b else c
def cmpW (x y : FlawM) : Int := or3 (cmpS x.type y.type) (Lib.compareInt x.id y.id) (Lib.compareInt x.why y.why)
theorem cmpS_zero {x y : ByteArray} : (cmpS x y = 0 ↔ ltStr x.toList y.toList = false ∧ ltStr y.toList x.toList = false) := by
  unfold cmpS ltStr
  simp only [bytesLess_eq]
  by_cases h : x.toList < y.toList
  · simp [h]
  · simp only [h, decide_false, Bool.false_eq_true, if_false]
    by_cases e : x.toList = y.toList
    · rw [e]; simp [List.lt_irrefl]
    · have : y.toList < x.toList := by
        rcases Decidable.em (y.toList < x.toList) with h' | h'
        · exact h'
        · exact absurd (List.le_antisymm (List.not_lt.1 h') (List.not_lt.1 h)) e
      simp [e, this]
theorem cmpI_zero {x y : Int} : (Lib.compareInt x y = 0 ↔ decide (x < y) = false ∧ decide (y < x) = false) := by
  unfold Lib.compareInt
  by_cases h : x < y
  · simp [h]
  · by_cases h' : y < x <;> simp [h, h']
theorem lt_cmpW (x y : FlawM) : ltOf cmpW x y = lexB (fun x y : FlawM => ltStr x.type.toList y.type.toList) (lexB (fun x y : FlawM => decide (x.id < y.id)) fun x y : FlawM => decide (x.why < y.why)) x y := by
  have e1 := lt_cmpS (fun x : FlawM => x.type) x y
  have e2 := lt_cmpI (fun x : FlawM => x.id) x y
  have e3 := lt_cmpI (fun x : FlawM => x.why) x y
  have z1 := cmpS_zero (x := x.type) (y := y.type)
  have z2 := cmpI_zero (x := x.id) (y := y.id)
  unfold ltOf at *
  unfold cmpW or3 lexB
  simp only at e1 e2 e3
  show decide ((if cmpS x.type y.type ≠ 0 then cmpS x.type y.type else if Lib.compareInt x.id y.id ≠ 0 then Lib.compareInt x.id y.id else Lib.compareInt x.why y.why) < 0) = (ltStr x.type.toList y.type.toList || (!ltStr y.type.toList x.type.toList && (decide (x.id < y.id) || (!decide (y.id < x.id) && decide (x.why < y.why)))))
  generalize ltStr x.type.toList y.type.toList = s1 at *
  generalize ltStr y.type.toList x.type.toList = s2 at *
  generalize decide (x.id < y.id) = t1 at *
  generalize decide (y.id < x.id) = t2 at *
  by_cases ha : cmpS x.type y.type = 0
  · obtain ⟨h1, h2⟩ := z1.1 ha
    subst h1 h2
    rw [if_neg (by simp [ha])]
    by_cases hb : Lib.compareInt x.id y.id = 0
    · obtain ⟨h3, h4⟩ := z2.1 hb
      subst h3 h4
      rw [if_neg (by simp [hb]), e3]; rfl
    · rw [if_pos hb, e2]
      cases t1 <;> cases t2 <;> simp_all
  · rw [if_pos ha, e1]
    cases s1 <;> cases s2 <;> simp_all
theorem swo_cmpW : SWO (ltOf cmpW) := by
  have h : ltOf cmpW = lexB (fun x y : FlawM => ltStr x.type.toList y.type.toList) (lexB (fun x y : FlawM => decide (x.id < y.id)) fun x y : FlawM => decide (x.why < y.why)) := by
    funext x y; exact lt_cmpW x y
  rw [h]
  refine swo_lex ⟨fun x => swo_ltStr.irrefl _, fun x y z => swo_ltStr.trans _ _ _, fun x y z => swo_ltStr.ntrans _ _ _⟩ (swo_lex ⟨fun x => by simp, fun x y z h1 h2 => by simp at *; omega, fun x y z h1 h2 => by simp at *; omega⟩ ⟨fun x => by simp, fun x y z h1 h2 => by simp at *; omega, fun x y z h1 h2 => by simp at *; omega⟩)
theorem or_any (g c : Nat) (x0 x1 x2 : Int) (w : World) (h : w.heap[g]? = some (.cells #[.int .i64 x0, .int .i64 x1, .int .i64 x2] 3 (0, 0))) :
    Calls Tryz.prog 55 #[.slice (some ⟨g, 0, none⟩) 3 c] w fun e w' => e = .returned (.int .i64 (or3 x0 x1 x2)) ∧ w' = w := by
  have k0 := cell_of_row w g 0 _ 3 _ h
  have k1 := cell_of_row w g 1 _ 3 _ h
  have k2 := cell_of_row w g 2 _ 3 _ h
  simp only [List.getElem?_toArray, List.getElem?_cons_zero, List.getElem?_cons_succ] at k0 k1 k2
  have E : or3 x0 x1 x2 = (([x0, x1, x2] : List Int).find? fun n => n != 0).getD 0 := by
    unfold or3
    have p : ∀ x : Int, (x != 0) = !decide (x = 0) := fun x => by by_cases h : x = 0 <;> simp [h]
    by_cases h0 : x0 = 0 <;> by_cases h1 : x1 = 0 <;> by_cases h2 : x2 = 0 <;> simp [List.find?, p, h0, h1, h2]
  rw [E]
  have hc : ∀ j (hj : j < ([x0, x1, x2] : List Int).length), w.cell? ⟨g, j, none⟩ = some (.int .i64 ([x0, x1, x2] : List Int)[j]) := fun j hj => by
    rcases j with _ | _ | _ | j
    · exact k0
    · exact k1
    · exact k2
    · simp at hj; omega
  have hl : ([x0, x1, x2] : List Int).length = 3 := rfl
  clear k0 k1 k2 E h
  generalize ([x0, x1, x2] : List Int) = L at *
  have Hc := hide hc
  clear hc
  go_enter Tryz.func55, Tryz.ntmps55
  go_wp2
  go_loopw [8] (fun i wr => ∃ j : Nat, j ≤ 3 ∧ i = .int .i64 j ∧ L.find? (fun n => n != 0) = (L.drop j).find? (fun n => n != 0) ∧ wr = w) (fun i _ => 3 - (intOf i).toNat)
  case atStart => exact ⟨0, by omega, rfl, by rw [List.drop_zero], rfl⟩
  case round =>
    obtain ⟨j, hj, rfl, hq, rfl⟩ := hrel
    by_cases hlt : j < 3
    · have hk := unhide Hc j (by omega)
      rw [find_drop (by omega)] at hq
      generalize L[j] = n at *
      have Hq := hide hq
      clear hq
      by_cases hn : n = 0
      · have hq := unhide Hq
        rw [if_neg (by simp [hn])] at hq
        subst hn
        have Hq := hide hq
        clear hq
        go_wp2
        exact ⟨⟨j + 1, by omega, by go_num, unhide Hq, by first | rfl | trivial⟩, by simp [intOf]; omega⟩
      · have hq := unhide Hq
        rw [if_pos (by simp [hn])] at hq
        have Hq := hide hq
        clear hq
        go_wp2
        go_ret
        exact ⟨by rw [unhide Hq]; rfl, rfl⟩
    · have hje : j = 3 := by omega
      subst hje
      have hq' : L.find? (fun n => n != 0) = none := by rw [hq, List.drop_of_length_le (by omega)]; rfl
      have Hq := hide hq'
      clear hq hq'
      go_wp2
      go_ret
      exact ⟨by rw [unhide Hq]; rfl, rfl⟩
theorem grow_drew1 (w : World) (a b c : Obj) : (((w.alloc a).alloc b).drew).alloc c = grow (w.drewN 1) #[a, b, c] := by
  rw [show ((w.alloc a).alloc b).drew = (w.drew.alloc a).alloc b from rfl, alloc_eq_grow, alloc_eq_grow, alloc_eq_grow, grow_grow, grow_grow]; rfl
theorem row3c {w : World} {g : Nat} {t : TypeId} {c0 c1 c2 : Value} (hb : w.heap[g]? = some (.cells #[c0, c1, c2] t (0, 0))) : w.cell? ⟨g, 0, none⟩ = some c0 ∧ w.cell? ⟨g, 1, none⟩ = some c1 ∧ w.cell? ⟨g, 2, none⟩ = some c2 :=
  ⟨cell_of_row w g 0 _ t _ hb, cell_of_row w g 1 _ t _ hb, cell_of_row w g 2 _ t _ hb⟩
set_option maxHeartbeats 3200000 in
set_option maxRecDepth 10000 in
theorem closureW (x y : FlawM) (w : World) : Calls Tryz.prog 26 #[.agg (encW x).toArray, .agg (encW y).toArray] w fun e w' => e = .returned (.int .i64 (cmpW x y)) ∧ ∃ q os', w' = grow (w.drewN q) os' := by
  obtain ⟨xt, xi, xw⟩ := x
  obtain ⟨yt, yi, yw⟩ := y
  have hc1 := fun W' => compareS_any xt yt W'
  have hc2 := fun W' => Tryz.cmp_Compare_int xi yi W'
  have hc3 := fun W' => Tryz.cmp_Compare_int xw yw W'
  have hE : cmpW ⟨xt, xi, xw⟩ ⟨yt, yi, yw⟩ = or3 (cmpS xt yt) (Lib.compareInt xi yi) (Lib.compareInt xw yw) := rfl
  rw [hE]
  clear hE
  generalize cmpS xt yt = o1 at *
  generalize Lib.compareInt xi yi = o2 at *
  generalize Lib.compareInt xw yw = o3 at *
  have hor := fun g W' h => or_any g 3 o1 o2 o3 W' h
  generalize or3 o1 o2 o3 = r at *
  obtain ⟨W, hW⟩ : ∃ W, W = (w.alloc (.cells #[.string xt, .int .i64 xi, .int .i64 xw] 62)).alloc (.cells #[.string yt, .int .i64 yi, .int .i64 yw] 62) := ⟨_, rfl⟩
  obtain ⟨hx, hz, r0, r1⟩ := heaps2 hW
  have HW := hide hW
  simp only [encW]
  clear hW
  go_enter Tryz.func26, Tryz.ntmps26
  go_wp2
  rw [← unhide HW]
  refine wp_region_X (fun w' => w'.heap[w.heap.size]? = some (.cells #[.string xt, .int .i64 xi, .int .i64 xw] 62 (0, 0)) ∧ w'.heap[w.heap.size + 1]? = some (.cells #[.string yt, .int .i64 yi, .int .i64 yw] 62 (0, 0))) (fun _ => false) (by kernel_rfl) ?_
  have hS0 : W.drew.heap[w.heap.size]? = some (.cells #[.string xt, .int .i64 xi, .int .i64 xw] 62 (0, 0)) ∧ W.drew.heap[w.heap.size + 1]? = some (.cells #[.string yt, .int .i64 yi, .int .i64 yw] 62 (0, 0)) := ⟨r0, r1⟩
  obtain ⟨Wd, hWd⟩ : ∃ Wd, Wd = W.drew := ⟨_, rfl⟩
  rw [← hWd] at hS0 ⊢
  have HWd := hide hWd
  clear hWd
  refine wpAnyX_take (i := 0) (v := .pointer (some ⟨w.heap.size, 0, none⟩)) rfl (by kernel_rfl) (by kernel_rfl) (fun _ _ _ h => h) (.inl ⟨rfl, fun w' hS => by simp [execOp, go_sem]⟩) (hS0) ?_
  simp only [Act.put, List.getElem_toArray, List.getElem_cons_zero, List.getElem_cons_succ, List.setIfInBounds_toArray, List.set_cons_succ, List.set_cons_zero]
  refine wpAnyX_take (i := 1) (v := .string xt) rfl (by kernel_rfl) (by kernel_rfl) (fun _ _ _ h => h) (.inl ⟨rfl, fun w' hS => by simp [execOp, go_sem, (row3c hS.1).1]⟩) (hS0) ?_
  simp only [Act.put, List.getElem_toArray, List.getElem_cons_zero, List.getElem_cons_succ, List.setIfInBounds_toArray, List.set_cons_succ, List.set_cons_zero]
  refine wpAnyX_take (i := 2) (v := .pointer (some ⟨w.heap.size + 1, 0, none⟩)) rfl (by kernel_rfl) (by kernel_rfl) (fun _ _ _ h => h) (.inl ⟨rfl, fun w' hS => by simp [execOp, go_sem]⟩) (hS0) ?_
  simp only [Act.put, List.getElem_toArray, List.getElem_cons_zero, List.getElem_cons_succ, List.setIfInBounds_toArray, List.set_cons_succ, List.set_cons_zero]
  refine wpAnyX_take (i := 3) (v := .string yt) rfl (by kernel_rfl) (by kernel_rfl) (fun _ _ _ h => h) (.inl ⟨rfl, fun w' hS => by simp [execOp, go_sem, (row3c hS.2).1]⟩) (hS0) ?_
  simp only [Act.put, List.getElem_toArray, List.getElem_cons_zero, List.getElem_cons_succ, List.setIfInBounds_toArray, List.set_cons_succ, List.set_cons_zero]
  refine wpAnyX_take (i := 5) (v := .pointer (some ⟨w.heap.size, 1, none⟩)) rfl (by kernel_rfl) (by kernel_rfl) (fun _ _ _ h => h) (.inl ⟨rfl, fun w' hS => by simp [execOp, go_sem]⟩) (hS0) ?_
  simp only [Act.put, List.getElem_toArray, List.getElem_cons_zero, List.getElem_cons_succ, List.setIfInBounds_toArray, List.set_cons_succ, List.set_cons_zero]
  refine wpAnyX_take (i := 6) (v := .int .i64 xi) rfl (by kernel_rfl) (by kernel_rfl) (fun _ _ _ h => h) (.inl ⟨rfl, fun w' hS => by simp [execOp, go_sem, (row3c hS.1).2.1]⟩) (hS0) ?_
  simp only [Act.put, List.getElem_toArray, List.getElem_cons_zero, List.getElem_cons_succ, List.setIfInBounds_toArray, List.set_cons_succ, List.set_cons_zero]
  refine wpAnyX_take (i := 7) (v := .pointer (some ⟨w.heap.size + 1, 1, none⟩)) rfl (by kernel_rfl) (by kernel_rfl) (fun _ _ _ h => h) (.inl ⟨rfl, fun w' hS => by simp [execOp, go_sem]⟩) (hS0) ?_
  simp only [Act.put, List.getElem_toArray, List.getElem_cons_zero, List.getElem_cons_succ, List.setIfInBounds_toArray, List.set_cons_succ, List.set_cons_zero]
  refine wpAnyX_take (i := 8) (v := .int .i64 yi) rfl (by kernel_rfl) (by kernel_rfl) (fun _ _ _ h => h) (.inl ⟨rfl, fun w' hS => by simp [execOp, go_sem, (row3c hS.2).2.1]⟩) (hS0) ?_
  simp only [Act.put, List.getElem_toArray, List.getElem_cons_zero, List.getElem_cons_succ, List.setIfInBounds_toArray, List.set_cons_succ, List.set_cons_zero]
  refine wpAnyX_take (i := 10) (v := .pointer (some ⟨w.heap.size, 2, none⟩)) rfl (by kernel_rfl) (by kernel_rfl) (fun _ _ _ h => h) (.inl ⟨rfl, fun w' hS => by simp [execOp, go_sem]⟩) (hS0) ?_
  simp only [Act.put, List.getElem_toArray, List.getElem_cons_zero, List.getElem_cons_succ, List.setIfInBounds_toArray, List.set_cons_succ, List.set_cons_zero]
  refine wpAnyX_take (i := 11) (v := .int .i64 xw) rfl (by kernel_rfl) (by kernel_rfl) (fun _ _ _ h => h) (.inl ⟨rfl, fun w' hS => by simp [execOp, go_sem, (row3c hS.1).2.2]⟩) (hS0) ?_
  simp only [Act.put, List.getElem_toArray, List.getElem_cons_zero, List.getElem_cons_succ, List.setIfInBounds_toArray, List.set_cons_succ, List.set_cons_zero]
  refine wpAnyX_take (i := 12) (v := .pointer (some ⟨w.heap.size + 1, 2, none⟩)) rfl (by kernel_rfl) (by kernel_rfl) (fun _ _ _ h => h) (.inl ⟨rfl, fun w' hS => by simp [execOp, go_sem]⟩) (hS0) ?_
  simp only [Act.put, List.getElem_toArray, List.getElem_cons_zero, List.getElem_cons_succ, List.setIfInBounds_toArray, List.set_cons_succ, List.set_cons_zero]
  refine wpAnyX_take (i := 13) (v := .int .i64 yw) rfl (by kernel_rfl) (by kernel_rfl) (fun _ _ _ h => h) (.inl ⟨rfl, fun w' hS => by simp [execOp, go_sem, (row3c hS.2).2.2]⟩) (hS0) ?_
  simp only [Act.put, List.getElem_toArray, List.getElem_cons_zero, List.getElem_cons_succ, List.setIfInBounds_toArray, List.set_cons_succ, List.set_cons_zero]
  refine wpAnyX_one (j := 4) rfl (by kernel_rfl) rfl fun K hK => ?_
  go_wp2_with fail
  refine (hc1 Wd).mono ?_
  rintro e w' ⟨rfl, hw'⟩
  rw [hw']
  clear hw' w'
  go_wp2
  refine hK.out _ _ (hS0) ?_
  clear hK K
  refine wpAnyX_one (j := 9) rfl (by kernel_rfl) rfl fun K hK => ?_
  go_wp2_with fail
  refine (hc2 Wd).mono ?_
  rintro e w' ⟨rfl, hw'⟩
  rw [hw']
  clear hw' w'
  go_wp2
  refine hK.out _ _ (hS0) ?_
  clear hK K
  refine wpAnyX_one (j := 14) rfl (by kernel_rfl) rfl fun K hK => ?_
  go_wp2_with fail
  refine (hc3 Wd).mono ?_
  rintro e w' ⟨rfl, hw'⟩
  rw [hw']
  clear hw' w'
  go_wp2
  refine hK.out _ _ (hS0) ?_
  clear hK K
  have hxA : Ext Wd (Wd.alloc (.cells #[.int .i64 o1, .int .i64 o2, .int .i64 o3] 3)) := (Ext.refl Wd).alloc _
  have hS1 : (Wd.alloc (.cells #[.int .i64 o1, .int .i64 o2, .int .i64 o3] 3)).heap[w.heap.size]? = some (.cells #[.string xt, .int .i64 xi, .int .i64 xw] 62 (0, 0)) ∧ (Wd.alloc (.cells #[.int .i64 o1, .int .i64 o2, .int .i64 o3] 3)).heap[w.heap.size + 1]? = some (.cells #[.string yt, .int .i64 yi, .int .i64 yw] 62 (0, 0)) := ⟨hxA.heap hS0.1, hxA.heap hS0.2⟩
  refine wpAnyX_one (j := 15) rfl (by kernel_rfl) rfl fun K hK => ?_
  go_wp2
  refine hK.out _ _ (hS1) ?_
  clear hK K
  refine wpAnyX_one (j := 16) rfl (by kernel_rfl) rfl fun K hK => ?_
  go_wp2_with fail
  refine (hor _ _ (heap_alloc_new Wd _)).mono ?_
  rintro e w' ⟨rfl, hw'⟩
  rw [hw']
  clear hw' w'
  go_wp2
  refine hK.out _ _ (hS1) ?_
  clear hK K
  refine wpAnyX_take (i := 17) (v := .int .i64 r) rfl (by kernel_rfl) (by kernel_rfl) (fun _ _ _ h => h) (.inl ⟨rfl, fun w' hS => by simp [execOp, go_sem]⟩) (hS1) ?_
  simp only [Act.put, List.getElem_toArray, List.getElem_cons_zero, List.getElem_cons_succ, List.setIfInBounds_toArray, List.set_cons_succ, List.set_cons_zero]
  refine wpAnyX_end [] [] rfl (by intro j i hj; simp at hj) (by kernel_rfl) (by intro i hi; simp at hi) fun K hK => ?_
  go_wp2
  refine hK.out _ _ ?_
  clear hK K
  go_wp2
  go_ret
  exact ⟨rfl, 1, _, by rw [unhide HWd, unhide HW]; exact grow_drew1 _ _ _ _⟩
end Go.Proofs.YtnppgeiompimaaaGreatDoor

namespace Go.Proofs.YtnppgeiompimaaaGreatDoor
set_option linter.unusedSimpArgs false
set_option linter.unusedVariables false
open Go.RowKit Go.Sort Go.Shelf Go.Lib

theorem inhW : Nonempty (Inhabited FlawM) := ⟨⟨⟨⟨#[]⟩, 0, 0⟩⟩⟩
theorem oneCell_encW (x : FlawM) : ∀ u ∈ encW x, u.oneCell' = true := by
  intro u hu
  simp only [encW, List.mem_cons, List.not_mem_nil, or_false] at hu
  rcases hu with rfl | rfl | rfl <;> rfl
theorem sortW_any {w : World} {base : Nat} {s : SV} {l : List FlawM} (ho : w.ownsRow base 62 3 (.slice s.a s.len s.cap) l.length (l.flatMap encW)) (hsz : l.length < 4611686018427387904) :
    Calls Tryz.prog 25 #[.slice s.a s.len s.cap, .func (.func 26) #[] #[]] w fun r w' => r = .returned (.tuple #[]) ∧ ∃ l' : List FlawM, l'.Perm l ∧ l'.Pairwise (fun x y => ltOf cmpW y x = false) ∧ w'.ownsRow base 62 3 (.slice s.a s.len s.cap) l'.length (l'.flatMap encW) ∧ w.grownBy w' s.blk := by
  obtain ⟨hin⟩ := inhW
  exact sortK_own Tryz.sortL 3 Tryz.isAgg62 Tryz.sizeOf62 encW (fun _ => rfl) oneCell_encW cmpW swo_cmpW 26 (enter_of Tryz.func26 (by kernel_rfl) rfl) closureW ho hsz
end Go.Proofs.YtnppgeiompimaaaGreatDoor

