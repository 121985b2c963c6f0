import Derived.Test.YtnppgeiompimaaaGreatDoorM42
namespace Go.Proofs.YtnppgeiompimaaaGreatDoor
set_option linter.unusedSimpArgs false
set_option linter.unusedVariables false
set_option linter.unusedSimpArgs false
set_option linter.unusedVariables false
open Go.RowKit

theorem VRow.slice_len {k : Nat} {w : World} {base : Nat} {X : Nat → Prop} {ex : Option Nat} {s : SV} {l : List ValueM} (h : VRow k w base X ex (.slice s.a s.len s.cap) l) : s.len = l.length := by
  obtain ⟨css, h1, _⟩ := h
  rcases h1.2 with ⟨e, h0⟩ | ⟨g, cap, cur, e, _⟩
  · simp only [Value.slice.injEq] at e; omega
  · simp only [Value.slice.injEq] at e; exact e.2.1
theorem owns_of_kept {k : Nat} {w : World} {base : Nat} {X : Nat → Prop} {ex : Option Nat} {v : Value} {l : List ValueM} (h : VRow k w base X ex v l) : w.ownsRow base 37 5 v l.length (h.choose.flatMap fun c => c) := h.choose_spec.1
set_option maxHeartbeats 12800000 in
set_option maxRecDepth 10000 in
theorem put_any (k : Nat) (id : Int) (sv : SV) (xs : List ValueM) (w : World) (base T bx : Nat) (X S : Nat → Prop) (vi vL : Value) (ids : List Int) (l : List ValueM)
    (hP : PutP (k + 1) w base T X vi vL ids l) (hbx : w.heap[bx]? = some (.cells #[.pointer (some ⟨T, 0, none⟩)] 111 (0, 0))) (hbb : bx < base) (hTb : T < base) (hne : bx ≠ T) (hbw : base ≤ w.heap.size) (hX : ∀ b, X b → b ≠ T)
    (hS : ∀ b, S b → X b ∧ vi.ownBlock ≠ some b ∧ vL.ownBlock ≠ some b ∧ b < w.heap.size) (hv : SliceAt 5 (ValueAtP S (k + 1)) w sv xs)
    (ha : ∀ ad, sv.a = some ad → vi.ownBlock ≠ some ad.block ∧ vL.ownBlock ≠ some ad.block ∧ ad.block ≠ T) (hlen : ids.length + xs.length ≤ 1000000) (hll : l.length + xs.length ≤ 1000000) :
    Calls Tryz.prog 114 #[.int .i64 id, .slice sv.a sv.len sv.cap, .pointer (some ⟨bx, 0, none⟩)] w fun e w' => e = .returned (.tuple #[]) ∧ ∃ vi' vL', PutP (k + 1) w' base T X vi' vL' (ids ++ xs.map fun _ => id) (l ++ xs) ∧ PFr w w' T vi.ownBlock vL.ownBlock ∧ (vi'.ownBlock = vi.ownBlock ∨ ∀ j, vi'.ownBlock = some j → w.heap.size ≤ j) ∧ (vL'.ownBlock = vL.ownBlock ∨ ∀ j, vL'.ownBlock = some j → w.heap.size ≤ j) := by
  obtain ⟨hsl, hsx⟩ := hv
  obtain ⟨sa, sn, sc⟩ := sv
  simp only at hsl ha hsx
  subst hsl
  have hvi0 : some bx ≠ vi.ownBlock := fun e => by have := (hP.lt1 bx e.symm).1; omega
  have hvL0 : some bx ≠ vL.ownBlock := fun e => by have := (hP.lt2 bx e.symm).1; omega
  obtain ⟨r1, hr1⟩ : ∃ r, r = vi.ownBlock := ⟨_, rfl⟩
  obtain ⟨r2, hr2⟩ : ∃ r, r = vL.ownBlock := ⟨_, rfl⟩
  rw [← hr1] at hvi0 hS ha
  rw [← hr2] at hvL0 hS ha
  have Hsx := hide hsx
  have HS := hide hS
  have Ha := hide ha
  have HXX := hide hX
  have HP0 : Hid (PutP (k + 1) w base T X vi vL (putI ids xs id 0) (putL l xs 0)) := by unfold Hid; rw [putI_zero, putL_zero]; exact hP
  have Hr := hide (And.intro hr1 hr2)
  clear hsx hS ha hX hP hr1 hr2
  rw [← (unhide Hr).1, ← (unhide Hr).2, ← putI_all, ← putL_all]
  go_enter Tryz.func114, Tryz.ntmps114
  go_wp2
  go_loopw [9] (fun u wr => ∃ (i : Nat) (vi' vL' : Value), u = .int .i64 i ∧ i ≤ xs.length ∧ PutP (k + 1) wr base T X vi' vL' (putI ids xs id i) (putL l xs i) ∧ PFr w wr T r1 r2 ∧ (vi'.ownBlock = r1 ∨ ∀ j, vi'.ownBlock = some j → w.heap.size ≤ j) ∧ (vL'.ownBlock = r2 ∨ ∀ j, vL'.ownBlock = some j → w.heap.size ≤ j)) (fun u _ => xs.length - (intOf u).toNat)
  case atStart => exact ⟨0, vi, vL, rfl, by omega, unhide HP0, PFr.refl _ _ _ _, .inl (unhide Hr).1.symm, .inl (unhide Hr).2.symm⟩
  case round =>
    obtain ⟨i, vi', vL', rfl, hi, hPw, hF, hw1, hw2⟩ := hrel
    by_cases hlt : i < xs.length
    · obtain ⟨x, hx⟩ : ∃ x, xs[i]? = some x := ⟨xs[i], by simp [hlt]⟩
      obtain ⟨b, o, cs, esa, hrg, hvx⟩ := unhide Hsx i x hx
      subst esa
      obtain ⟨a1, a2, a3⟩ := unhide Ha _ rfl

      have hrg := hF.range hrg a3 (fun e => a1 e.symm) (fun e => a2 e.symm)
      have hvw := hvx
      have hvx : ValueAtP S (k + 1) wr cs x := hF.valueAt (fun b hb => ⟨unhide HXX b (unhide HS b hb).1, fun e => (unhide HS b hb).2.1 e.symm, fun e => (unhide HS b hb).2.2.1 e.symm⟩) hvx
      have hvx0 := hvx
      obtain ⟨xi, xl, rfl, _⟩ := hvx0
      obtain ⟨c0, c1, c2, c3, c4⟩ := range5 hrg
      have hbxr := hF.heap hbx hne hvi0 hvL0
      have hT := hPw.1
      obtain ⟨t0, t1, t2, t3, t4, _⟩ := row5 hT
      have hzT := lt_of_heap hT
      have hzb := lt_of_heap hbxr
      have Hvw := hide hvw
      have HPw := hide hPw
      have HF := hide hF
      have Hw := hide (And.intro hw1 hw2)
      clear hvx hvw hPw hF hw1 hw2 hrg hT
      go_wp2_with fail
      have hxA : Ext wr (wr.alloc (.cells #[.int .i64 x.kind, .int .i64 x.n, .string x.s, .slice xi.a xi.len xi.cap, .slice xl.a xl.len xl.cap] 37)) := (Ext.refl wr).alloc _
      have rA : (wr.alloc (.cells #[.int .i64 x.kind, .int .i64 x.n, .string x.s, .slice xi.a xi.len xi.cap, .slice xl.a xl.len xl.cap] 37)).heap[wr.heap.size]? = some (.cells #[.int .i64 x.kind, .int .i64 x.n, .string x.s, .slice xi.a xi.len xi.cap, .slice xl.a xl.len xl.cap] 37 (0, 0)) := heap_alloc_new wr _
      refine wp_region_X (fun w' => w'.cell? ⟨bx, 0, none⟩ = some (.pointer (some ⟨T, 0, none⟩)) ∧ w'.cell? ⟨T, 3, none⟩ = some vi') (fun j => decide (10 ≤ j)) (by kernel_rfl) ?_
      obtain ⟨Wd, hWd⟩ : ∃ Wd, Wd = (wr.alloc (.cells #[.int .i64 x.kind, .int .i64 x.n, .string x.s, .slice xi.a xi.len xi.cap, .slice xl.a xl.len xl.cap] 37)).drew := ⟨_, rfl⟩
      have fd : Ext wr Wd := by rw [hWd]; exact hxA.drew
      have rD : Wd.heap[wr.heap.size]? = some (.cells #[.int .i64 x.kind, .int .i64 x.n, .string x.s, .slice xi.a xi.len xi.cap, .slice xl.a xl.len xl.cap] 37 (0, 0)) := by rw [hWd]; exact rA
      rw [← hWd]
      have hb0 := (row1 hbxr).1
      have hS0 : Wd.cell? ⟨bx, 0, none⟩ = some (.pointer (some ⟨T, 0, none⟩)) ∧ Wd.cell? ⟨T, 3, none⟩ = some vi' := ⟨fd.cell hb0, fd.cell t3⟩
      clear hWd hxA rA
      refine wpAnyX_take (i := 0) (v := .pointer (some ⟨T, 0, none⟩)) rfl (by kernel_rfl) (by kernel_rfl) (fun _ _ _ h => h) (.inl ⟨rfl, fun w' hS => by simp [execOp, go_sem, hS.1]⟩) (hS0) ?_
      simp only [Act.put, List.getElem_toArray, List.getElem_cons_zero, List.getElem_cons_succ, List.setIfInBounds_toArray, List.set_cons_succ, List.set_cons_zero]
      refine wpAnyX_take (i := 1) (v := .pointer (some ⟨T, 0, none⟩)) rfl (by kernel_rfl) (by kernel_rfl) (fun _ _ _ h => h) (.inl ⟨rfl, fun w' hS => by simp [execOp, go_sem, hS.1]⟩) (hS0) ?_
      simp only [Act.put, List.getElem_toArray, List.getElem_cons_zero, List.getElem_cons_succ, List.setIfInBounds_toArray, List.set_cons_succ, List.set_cons_zero]
      refine wpAnyX_take (i := 2) (v := .pointer (some ⟨T, 0, none⟩)) rfl (by kernel_rfl) (by kernel_rfl) (fun _ _ _ h => h) (.inl ⟨rfl, fun w' hS => by simp [execOp, go_sem]⟩) (hS0) ?_
      simp only [Act.put, List.getElem_toArray, List.getElem_cons_zero, List.getElem_cons_succ, List.setIfInBounds_toArray, List.set_cons_succ, List.set_cons_zero]
      refine wpAnyX_take (i := 3) (v := .pointer (some ⟨T, 3, none⟩)) rfl (by kernel_rfl) (by kernel_rfl) (fun _ _ _ h => h) (.inl ⟨rfl, fun w' hS => by simp [execOp, go_sem]⟩) (hS0) ?_
      simp only [Act.put, List.getElem_toArray, List.getElem_cons_zero, List.getElem_cons_succ, List.setIfInBounds_toArray, List.set_cons_succ, List.set_cons_zero]
      refine wpAnyX_take (i := 4) (v := vi') rfl (by kernel_rfl) (by kernel_rfl) (fun _ _ _ h => h) (.inl ⟨rfl, fun w' hS => by simp [execOp, go_sem, hS.2]⟩) (hS0) ?_
      simp only [Act.put, List.getElem_toArray, List.getElem_cons_zero, List.getElem_cons_succ, List.setIfInBounds_toArray, List.set_cons_succ, List.set_cons_zero]
      refine wpAnyX_take (i := 5) (v := .int .i64 id) rfl (by kernel_rfl) (by kernel_rfl) (fun _ _ _ h => h) (.inl ⟨rfl, fun w' hS => by simp [execOp, go_sem]⟩) (hS0) ?_
      simp only [Act.put, List.getElem_toArray, List.getElem_cons_zero, List.getElem_cons_succ, List.setIfInBounds_toArray, List.set_cons_succ, List.set_cons_zero]
      refine wpAnyX_one (j := 6) rfl (by kernel_rfl) rfl fun K hK => ?_
      go_wp2
      have f6 : Ext Wd (Wd.alloc (.cells #[.int .i64 id] 3)) := (Ext.refl Wd).alloc _
      refine hK.out _ _ (⟨f6.cell hS0.1, f6.cell hS0.2⟩) ?_
      clear hK K
      have hPa := (unhide HPw).ext (fd.trans f6)
      have hlti := (unhide HPw).lt1
      have hltL := (unhide HPw).lt2
      have hTa := hPa.1
      have hza : wr.heap.size < (Wd.alloc (.cells #[.int .i64 id] 3)).heap.size := by have := fd.size; have := lt_of_heap rD; simp; omega
      have hlp := putI_len (ids := ids) (xs := xs) (id := id) (i := i)
      have hlq := putL_len (l := l) (xs := xs) (i := i)
      have hwd := fd.size
      have hbase : base ≤ (Wd.alloc (.cells #[.int .i64 id] 3)).heap.size := by have := (unhide HF).size; simp; omega
      refine wpAnyX_one (j := 7) rfl (by kernel_rfl) rfl fun K hK => ?_
      refine wpList_app1w _ _ 34 3 (.int .i64 0) 1 8 Tryz.underlying34 info3 rfl (by decide) (by decide) rfl rfl base _ (putI ids xs id i).length _ rfl hPa.2.1 Wd.heap.size 1 [.int .i64 id] rfl rfl ?c1 ?c2 ?c3 hbase ?_
      case c1 => exact range_of_new1 _ _ _ rfl
      case c2 => intro u hu; simp at hu; subst hu; rfl
      case c3 => omega
      intro v1 w1 ho1 hg1 hw1
      obtain ⟨s1, hs1⟩ : ∃ s : SV, v1 = .slice s.a s.len s.cap := by obtain ⟨a', c', e'⟩ := owns_slice ho1; exact ⟨⟨a', _, c'⟩, e'⟩
      subst hs1
      have hneT : some T ≠ vi'.ownBlock := fun e => by have := (hlti T e.symm).1; omega
      have hneb : some bx ≠ vi'.ownBlock := fun e => by have := (hlti bx e.symm).1; omega
      have hneA : some wr.heap.size ≠ vi'.ownBlock := fun e => by have := (hlti _ e.symm).2; omega
      have hT1 : w1.heap[T]? = some (.cells #[.int .i64 2, .int .i64 0, .string ⟨#[]⟩, vi', vL'] 37 (0, 0)) := by rw [hg1.block T (lt_of_heap hTa) hneT]; exact hTa
      have hb1 : w1.heap[bx]? = some (.cells #[.pointer (some ⟨T, 0, none⟩)] 111 (0, 0)) := by rw [hg1.block bx (lt_of_heap ((fd.trans f6).heap hbxr)) hneb]; exact (fd.trans f6).heap hbxr
      have rA1 : w1.heap[wr.heap.size]? = some (.cells #[.int .i64 x.kind, .int .i64 x.n, .string x.s, .slice xi.a xi.len xi.cap, .slice xl.a xl.len xl.cap] 37 (0, 0)) := by rw [hg1.block _ hza hneA]; exact f6.heap rD
      have hap : vL'.ownBlock = none ∨ vL'.ownBlock ≠ vi'.ownBlock := by
        obtain ⟨css, hc1, _, _⟩ := hPa.2.2
        exact owns_apart hc1 hPa.2.1 (by decide)
      have hw1' : Value.ownBlock (.slice s1.a s1.len s1.cap) = vi'.ownBlock ∨ ∃ g', Value.ownBlock (.slice s1.a s1.len s1.cap) = some g' ∧ (Wd.alloc (.cells #[.int .i64 id] 3)).heap.size ≤ g' := hw1
      have hvr1 := hPa.2.2.other (ex' := Value.ownBlock (.slice s1.a s1.len s1.cap)) hg1 hap hw1'
      have hHw := unhide Hw
      have hF1 : PFr w w1 T r1 r2 := ((unhide HF).ext (fd.trans f6)).grown hg1 (hHw.1.elim .inl fun h => .inr (.inr h))
      have hs1b : Value.ownBlock (.slice s1.a s1.len s1.cap) = r1 ∨ ∀ j, Value.ownBlock (.slice s1.a s1.len s1.cap) = some j → w.heap.size ≤ j := by
        rcases hw1' with e | ⟨g', e, hge⟩
        · rw [e]; exact hHw.1
        · have := (unhide HF).size
          exact .inr fun j hj => by rw [e] at hj; cases hj; omega
      have hz1 : w.heap.size ≤ w1.heap.size := hF1.size
      have ho1' : w1.ownsRow base 3 1 (.slice s1.a s1.len s1.cap) (putI ids xs id (i + 1)).length ((putI ids xs id (i + 1)).flatMap encI) := by
        rw [putI_succ hlt, List.length_append, List.flatMap_append]
        exact ho1
      have hlts1 := ho1'.lt
      obtain ⟨W2, hW2⟩ : ∃ W2, W2 = w1.setCell ⟨T, 3, none⟩ (.slice s1.a s1.len s1.cap) := ⟨_, rfl⟩
      have hT2 : W2.heap[T]? = some (.cells #[.int .i64 2, .int .i64 0, .string ⟨#[]⟩, .slice s1.a s1.len s1.cap, vL'] 37 (0, 0)) := by
        rw [hW2]; have := heap_setCell_same w1 T 3 _ 37 (.slice s1.a s1.len s1.cap) hT1
        simpa using this
      have hb2 : W2.heap[bx]? = some (.cells #[.pointer (some ⟨T, 0, none⟩)] 111 (0, 0)) := by rw [hW2, heap_setCell_other _ _ _ _ hne]; exact hb1
      have rA2 : W2.heap[wr.heap.size]? = some (.cells #[.int .i64 x.kind, .int .i64 x.n, .string x.s, .slice xi.a xi.len xi.cap, .slice xl.a xl.len xl.cap] 37 (0, 0)) := by rw [hW2, heap_setCell_other _ _ _ _ (show wr.heap.size ≠ T by omega)]; exact rA1
      have hF2 : PFr w W2 T r1 r2 := by rw [hW2]; exact hF1.set 3 _
      have ho2 : W2.ownsRow base 3 1 (.slice s1.a s1.len s1.cap) (putI ids xs id (i + 1)).length ((putI ids xs id (i + 1)).flatMap encI) := by rw [hW2]; exact ownsRow_setCell_below ho1' hTb _
      have hv2 : VRow (k + 1) W2 base X (Value.ownBlock (.slice s1.a s1.len s1.cap)) vL' (putL l xs i) := by rw [hW2]; exact hvr1.set (fun e => by have h := (hltL _ e).1; simp only at h; omega) (fun b hb => unhide HXX b hb) _
      have HW2 := hide hW2
      have HT2 := hide hT2
      have Hb2 := hide hb2
      have RA2 := hide rA2
      have HF2 := hide hF2
      have Ho2 := hide ho2
      have Hv2 := hide hv2
      have hb10 := (row1 hb1).1
      have Hs1 := hide hs1b
      clear hW2 hT2 hb2 rA2 hF2 ho2 hv2 hvr1 ho1' hs1b hF1 hap hPa ho1 hg1 hw1 hw1' hTa hvi0 hvL0 rA1 hlp
      clear t0 t1 t2 t3 t4
      obtain ⟨t0, t1, t2, t3, t4, tf⟩ := row5 hT1
      have hzT1 := lt_of_heap hT1
      refine hK.out _ _ (⟨hb10, t3⟩) ?_
      clear hK K
      refine wpAnyX_one (j := 8) rfl (by kernel_rfl) rfl fun K hK => ?_
      go_wp2
      refine hK.out _ _ (⟨hb10, t3⟩) ?_
      clear hK K
      refine wpAnyX_take (i := 9) (v := .pointer (some ⟨T, 3, none⟩)) rfl (by kernel_rfl) (by kernel_rfl) (fun _ _ _ h => h) (.inl ⟨rfl, fun w' hS => by simp [execOp, go_sem]⟩) ((And.intro hb10 t3)) ?_
      simp only [Act.put, List.getElem_toArray, List.getElem_cons_zero, List.getElem_cons_succ, List.setIfInBounds_toArray, List.set_cons_succ, List.set_cons_zero]
      refine wpAnyX_end [10] [_] rfl (by intro j i hj; match j, hj with | 0, hj => cases hj; rfl) (by kernel_rfl) (by intro i hi; cases hi; rfl) fun K hK => ?_
      go_wp2
      refine hK.out _ _ ?_
      clear hK K
      rw [← unhide HW2]
      clear t0 t1 t2 t3 t4 tf hb10
      go_upto_region 4 with fail
      go_cut [24] (fun s24 wx => ∃ b : Bool, s24 = .bool b ∧ Ext W2 wx)
      case first =>
        rename_i J0 K0 hJ0 hK0
        refine wp_region_X (fun w' => Ext W2 w') (fun _ => false) (by kernel_rfl) ?_
        obtain ⟨Wq, hWq⟩ : ∃ Wq, Wq = W2.drew := ⟨_, rfl⟩
        have hSq : Ext W2 Wq := by rw [hWq]; exact (Ext.refl W2).drew
        rw [← hWq]
        clear hWq
        refine wpAnyX_one (j := 0) rfl (by kernel_rfl) rfl fun K hK => ?_
        go_wp2
        have fa : ∀ u : Value, Ext W2 (Wq.alloc (.cells #[u] 4)) := fun u => hSq.alloc _
        refine hK.out _ _ ((fa _)) ?_
        clear hK K
        refine wpAnyX_two (i := 1) (j := 2) rfl rfl (by kernel_rfl) rfl rfl (fun K hK => ?_) (fun K hK => ?_)
        · go_wp2
          refine hK.out _ _ ((fa _)) ?_
          clear hK K
          refine wpAnyX_one (j := 2) rfl (by kernel_rfl) rfl fun K hK => ?_
          go_wp2
          refine hK.out _ _ ((fa _)) ?_
          clear hK K
          refine wpAnyX_one (j := 3) rfl (by kernel_rfl) rfl fun K hK => ?_
          go_wp2
          refine hK.out _ _ ((fa _)) ?_
          clear hK K
          refine wpAnyX_end [] [] rfl (by intro j i hj; simp at hj) (by kernel_rfl) (by intro i hi; simp at hi) fun K hK => ?_
          go_wp2
          refine hK.out _ _ ?_
          clear hK K
          first | refine Met.intro (hJ0 _ _ ?_) | refine hK0 _ _ (Met.intro (hJ0 _ _ ?_))
          (repeat apply Exists.intro)
          refine ⟨?rel, rfl⟩
          case rel => exact ⟨_, rfl, fa _⟩
        · go_wp2
          refine hK.out _ _ ((fa _)) ?_
          clear hK K
          refine wpAnyX_one (j := 1) rfl (by kernel_rfl) rfl fun K hK => ?_
          go_wp2
          refine hK.out _ _ ((fa _)) ?_
          clear hK K
          refine wpAnyX_one (j := 3) rfl (by kernel_rfl) rfl fun K hK => ?_
          go_wp2
          refine hK.out _ _ ((fa _)) ?_
          clear hK K
          refine wpAnyX_end [] [] rfl (by intro j i hj; simp at hj) (by kernel_rfl) (by intro i hi; simp at hi) fun K hK => ?_
          go_wp2
          refine hK.out _ _ ?_
          clear hK K
          first | refine Met.intro (hJ0 _ _ ?_) | refine hK0 _ _ (Met.intro (hJ0 _ _ ?_))
          (repeat apply Exists.intro)
          refine ⟨?rel, rfl⟩
          case rel => exact ⟨_, rfl, fa _⟩
      case rest =>
        obtain ⟨b4, rfl, hE4⟩ := hcut
        have hTc := hE4.heap (unhide HT2)
        have hbc := hE4.heap (unhide Hb2)
        have rAc := hE4.heap (unhide RA2)
        have hFc := (unhide HF2).ext hE4
        have hoc := owns_ext (unhide Ho2) hE4
        have hvc := (unhide Hv2).ext hE4
        have hpl := putL_succ (l := l) hx
        have hltc : ∀ j, vL'.ownBlock = some j → base ≤ j ∧ j < wc.heap.size := by
          obtain ⟨css, h1, _⟩ := hvc
          exact h1.lt
        have hltw : ∀ j, vL'.ownBlock = some j → j < wr.heap.size := fun j hj => (hltL j hj).2
        obtain ⟨sL, rfl, hsL, _⟩ := hvc.slice
        have hHw := unhide Hw
        have hs1w := unhide Hs1
        have hww : w.heap.size ≤ wr.heap.size := (unhide HF).size
        have hxc : ValueAtP (fun b => X b ∧ Value.ownBlock (.slice sL.a sL.len sL.cap) ≠ some b ∧ Value.ownBlock (.slice s1.a s1.len s1.cap) ≠ some b ∧ b < wc.heap.size) (k + 1) wc [.int .i64 x.kind, .int .i64 x.n, .string x.s, .slice xi.a xi.len xi.cap, .slice xl.a xl.len xl.cap] x := by
          refine (hFc.valueAt (fun b hb => ⟨unhide HXX b (unhide HS b hb).1, fun e => (unhide HS b hb).2.1 e.symm, fun e => (unhide HS b hb).2.2.1 e.symm⟩) (unhide Hvw)).sub fun b hb => ?_
          obtain ⟨p1, p2, p3, p4⟩ := unhide HS b hb
          refine ⟨p1, fun e => ?_, fun e => ?_, Nat.lt_of_lt_of_le p4 hFc.size⟩
          · rcases hHw.2 with h | h
            · exact p3 (h ▸ e)
            · have := h b e; omega
          · rcases hs1w with h | h
            · exact p2 (h ▸ e)
            · have := h b e; omega
        have Hxc := hide hxc
        have Hoc := hide hoc
        have Hvc := hide hvc
        have HFc := hide hFc
        have Hpl := hide hpl
        have Hltc := hide hltc
        have Hltw := hide hltw
        clear hxc hoc hvc hFc hpl hltc hltw hltL hsL HF2 Hv2 Ho2 HT2 Hb2 RA2 hs1w hHw
        have hzTc := lt_of_heap hTc
        have hzbc := lt_of_heap hbc
        have hzAc := lt_of_heap rAc
        obtain ⟨u0, u1, u2, u3, u4, uf⟩ := row5 hTc
        obtain ⟨x0, x1, x2, x3, x4, xf⟩ := row5 rAc
        have hbc0 := (row1 hbc).1
        cases b4 with
        | false =>
          go_wp2_with fail
          refine wp_region_X (fun w' => w'.cell? ⟨bx, 0, none⟩ = some (.pointer (some ⟨T, 0, none⟩)) ∧ w'.cell? ⟨T, 4, none⟩ = some (.slice sL.a sL.len sL.cap) ∧ w'.heap[wr.heap.size]? = some (.cells #[.int .i64 x.kind, .int .i64 x.n, .string x.s, .slice xi.a xi.len xi.cap, .slice xl.a xl.len xl.cap] 37 (0, 0))) (fun j => decide (10 ≤ j)) (by kernel_rfl) ?_
          obtain ⟨We, hWe⟩ : ∃ We, We = wc.drew := ⟨_, rfl⟩
          have fe : Ext wc We := by rw [hWe]; exact (Ext.refl wc).drew
          rw [← hWe]
          have hS7 : We.cell? ⟨bx, 0, none⟩ = some (.pointer (some ⟨T, 0, none⟩)) ∧ We.cell? ⟨T, 4, none⟩ = some (.slice sL.a sL.len sL.cap) ∧ We.heap[wr.heap.size]? = some (.cells #[.int .i64 x.kind, .int .i64 x.n, .string x.s, .slice xi.a xi.len xi.cap, .slice xl.a xl.len xl.cap] 37 (0, 0)) := ⟨fe.cell hbc0, fe.cell u4, fe.heap rAc⟩
          clear hWe
          refine wpAnyX_take (i := 0) (v := .pointer (some ⟨T, 0, none⟩)) rfl (by kernel_rfl) (by kernel_rfl) (fun _ _ _ h => h) (.inl ⟨rfl, fun w' hS => by simp [execOp, go_sem, hS.1]⟩) (hS7) ?_
          simp only [Act.put, List.getElem_toArray, List.getElem_cons_zero, List.getElem_cons_succ, List.setIfInBounds_toArray, List.set_cons_succ, List.set_cons_zero]
          refine wpAnyX_take (i := 1) (v := .pointer (some ⟨T, 0, none⟩)) rfl (by kernel_rfl) (by kernel_rfl) (fun _ _ _ h => h) (.inl ⟨rfl, fun w' hS => by simp [execOp, go_sem, hS.1]⟩) (hS7) ?_
          simp only [Act.put, List.getElem_toArray, List.getElem_cons_zero, List.getElem_cons_succ, List.setIfInBounds_toArray, List.set_cons_succ, List.set_cons_zero]
          refine wpAnyX_take (i := 2) (v := .pointer (some ⟨T, 0, none⟩)) rfl (by kernel_rfl) (by kernel_rfl) (fun _ _ _ h => h) (.inl ⟨rfl, fun w' hS => by simp [execOp, go_sem]⟩) (hS7) ?_
          simp only [Act.put, List.getElem_toArray, List.getElem_cons_zero, List.getElem_cons_succ, List.setIfInBounds_toArray, List.set_cons_succ, List.set_cons_zero]
          refine wpAnyX_take (i := 3) (v := .pointer (some ⟨T, 4, none⟩)) rfl (by kernel_rfl) (by kernel_rfl) (fun _ _ _ h => h) (.inl ⟨rfl, fun w' hS => by simp [execOp, go_sem]⟩) (hS7) ?_
          simp only [Act.put, List.getElem_toArray, List.getElem_cons_zero, List.getElem_cons_succ, List.setIfInBounds_toArray, List.set_cons_succ, List.set_cons_zero]
          refine wpAnyX_take (i := 4) (v := .slice sL.a sL.len sL.cap) rfl (by kernel_rfl) (by kernel_rfl) (fun _ _ _ h => h) (.inl ⟨rfl, fun w' hS => by simp [execOp, go_sem, hS.2.1]⟩) (hS7) ?_
          simp only [Act.put, List.getElem_toArray, List.getElem_cons_zero, List.getElem_cons_succ, List.setIfInBounds_toArray, List.set_cons_succ, List.set_cons_zero]
          refine wpAnyX_take (i := 5) (v := .agg #[.int .i64 x.kind, .int .i64 x.n, .string x.s, .slice xi.a xi.len xi.cap, .slice xl.a xl.len xl.cap]) rfl (by kernel_rfl) (by kernel_rfl) (fun _ _ _ h => h) (.inl ⟨rfl, fun w' hS => by simp [execOp, go_sem, (rowN5 hS.2.2).1, (rowN5 hS.2.2).2.1, (rowN5 hS.2.2).2.2.1, (rowN5 hS.2.2).2.2.2.1, (rowN5 hS.2.2).2.2.2.2.1]⟩) (hS7) ?_
          simp only [Act.put, List.getElem_toArray, List.getElem_cons_zero, List.getElem_cons_succ, List.setIfInBounds_toArray, List.set_cons_succ, List.set_cons_zero]
          refine wpAnyX_one (j := 6) rfl (by kernel_rfl) rfl fun K hK => ?_
          go_wp2
          obtain ⟨Wf, hWf⟩ : ∃ Wf, Wf = We.alloc (.cells #[.int .i64 x.kind, .int .i64 x.n, .string x.s, .slice xi.a xi.len xi.cap, .slice xl.a xl.len xl.cap] 37) := ⟨_, rfl⟩
          have ff : Ext wc Wf := by rw [hWf]; exact fe.alloc _
          have rf : Wf.rangeAt We.heap.size 0 [.int .i64 x.kind, .int .i64 x.n, .string x.s, .slice xi.a xi.len xi.cap, .slice xl.a xl.len xl.cap] := by rw [hWf]; exact range_of_new5 _ _ _ _ _ _ _ rfl
          rw [← hWf]
          clear hWf
          refine hK.out _ _ (⟨ff.cell hbc0, ff.cell u4, ff.heap rAc⟩) ?_
          clear hK K
          obtain ⟨css, hc1, hc2, hc3⟩ := (unhide Hvc).ext ff
          have hxf := ((unhide Hxc).ext ff).sub (fun b hb => (⟨hb.1, hb.2.1, hb.2.2.1, Nat.lt_of_lt_of_le hb.2.2.2 ff.size⟩ : X b ∧ Value.ownBlock (.slice sL.a sL.len sL.cap) ≠ some b ∧ Value.ownBlock (.slice s1.a s1.len s1.cap) ≠ some b ∧ b < Wf.heap.size))
          have Hc1 := hide hc1
          have hFf := (unhide HFc).ext ff
          have hbf : base ≤ Wf.heap.size := by have := hFf.size; omega
          refine wpAnyX_one (j := 7) rfl (by kernel_rfl) rfl fun K hK => ?_
          refine wpList_app1w _ _ 35 37 (.agg #[.int .i64 0, .int .i64 0, .string ⟨#[]⟩, .slice none 0 0, .slice none 0 0]) 5 80 Tryz.underlying35 info28 rfl (by decide) (by decide) rfl rfl base (.slice sL.a sL.len sL.cap) (putL l xs i).length _ rfl (unhide Hc1) We.heap.size 1 [.int .i64 x.kind, .int .i64 x.n, .string x.s, .slice xi.a xi.len xi.cap, .slice xl.a xl.len xl.cap] rfl rfl rf ?d2 ?d3 hbf ?_
          case d2 => exact hxf.one
          case d3 => omega
          intro v6 w6 ho6 hg6 hw6
          obtain ⟨s6, hs6⟩ : ∃ s : SV, v6 = .slice s.a s.len s.cap := by obtain ⟨a', c', e'⟩ := owns_slice ho6; exact ⟨⟨a', _, c'⟩, e'⟩
          subst hs6
          have hw6' : Value.ownBlock (.slice s6.a s6.len s6.cap) = Value.ownBlock (.slice sL.a sL.len sL.cap) ∨ ∃ g', Value.ownBlock (.slice s6.a s6.len s6.cap) = some g' ∧ Wf.heap.size ≤ g' := hw6
          have hv6 := VRow.push hc2 hc3 hxf ho6 hg6 hw6'
          have hlt6 := VRow.lt hv6
          have hnT : some T ≠ Value.ownBlock (.slice sL.a sL.len sL.cap) := fun e => by have := (unhide Hltc T e.symm).1; omega
          have hnb : some bx ≠ Value.ownBlock (.slice sL.a sL.len sL.cap) := fun e => by have := (unhide Hltc bx e.symm).1; omega
          have hnA : some wr.heap.size ≠ Value.ownBlock (.slice sL.a sL.len sL.cap) := fun e => by have := unhide Hltw _ e.symm; omega
          have hT6 : w6.heap[T]? = some (.cells #[.int .i64 2, .int .i64 0, .string ⟨#[]⟩, .slice s1.a s1.len s1.cap, .slice sL.a sL.len sL.cap] 37 (0, 0)) := by
            have h0 := ff.heap hTc
            rw [hg6.block _ (lt_of_heap h0) hnT]; exact h0
          have hb6 := hg6.cell (ff.cell hbc0) hnb
          have hA6 : w6.heap[wr.heap.size]? = some (.cells #[.int .i64 x.kind, .int .i64 x.n, .string x.s, .slice xi.a xi.len xi.cap, .slice xl.a xl.len xl.cap] 37 (0, 0)) := by
            have h0 := ff.heap rAc
            rw [hg6.block _ (lt_of_heap h0) hnA]; exact h0
          have hap6 : Value.ownBlock (.slice s1.a s1.len s1.cap) = none ∨ Value.ownBlock (.slice s1.a s1.len s1.cap) ≠ Value.ownBlock (.slice sL.a sL.len sL.cap) := owns_apart (unhide Hoc) (owns_of_kept (unhide Hvc)) (by decide)
          have ho16 := (owns_ext (unhide Hoc) ff).kept hg6 hap6
          have hF6 : PFr w w6 T r1 r2 := hFf.grown hg6 ((unhide Hw).2.elim (fun h => .inr (.inl h)) fun h => .inr (.inr h))
          have hs6b : Value.ownBlock (.slice s6.a s6.len s6.cap) = r2 ∨ ∀ j, Value.ownBlock (.slice s6.a s6.len s6.cap) = some j → w.heap.size ≤ j := by
            rcases hw6' with e | ⟨g', e, hge⟩
            · rw [e]; exact (unhide Hw).2
            · have := hFf.size
              exact .inr fun j hj => by rw [e] at hj; cases hj; omega
          have hzT6 := lt_of_heap hT6
          clear u0 u1 u2 u3 u4 uf
          obtain ⟨u0, u1, u2, u3, u4, uf⟩ := row5 hT6
          have Hv6 := hide hv6
          have Ho16 := hide ho16
          have HF6 := hide hF6
          have Hs6 := hide hs6b
          clear ho6 hg6 hw6 hw6' hc1 hc2 hc3 hv6 ho16 hF6 hs6b hxf hap6
          refine hK.out _ _ (⟨hb6, u4, hA6⟩) ?_
          clear hK K
          refine wpAnyX_one (j := 8) rfl (by kernel_rfl) rfl fun K hK => ?_
          go_wp2
          refine hK.out _ _ (⟨hb6, u4, hA6⟩) ?_
          clear hK K
          refine wpAnyX_take (i := 9) (v := .pointer (some ⟨T, 4, none⟩)) rfl (by kernel_rfl) (by kernel_rfl) (fun _ _ _ h => h) (.inl ⟨rfl, fun w' hS => by simp [execOp, go_sem]⟩) ((And.intro hb6 (And.intro u4 hA6))) ?_
          simp only [Act.put, List.getElem_toArray, List.getElem_cons_zero, List.getElem_cons_succ, List.setIfInBounds_toArray, List.set_cons_succ, List.set_cons_zero]
          refine wpAnyX_end [10] [_] rfl (by intro j i hj; match j, hj with | 0, hj => cases hj; rfl) (by kernel_rfl) (by intro i hi; cases hi; rfl) fun K hK => ?_
          go_wp2
          refine hK.out _ _ ?_
          clear hK K
          go_wp2
          refine ⟨⟨i + 1, .slice s1.a s1.len s1.cap, .slice s6.a s6.len s6.cap, by go_num, by omega, ⟨?_, ?_, ?_⟩, ?_, unhide Hs1, unhide Hs6⟩, by simp [intOf]; omega⟩
          · have := heap_setCell_same w6 T 4 _ 37 (.slice s6.a s6.len s6.cap) hT6
            simpa using this
          · exact ownsRow_setCell_below (unhide Ho16) hTb _
          · rw [unhide Hpl]
            exact (unhide Hv6).set (p := ⟨T, 4, none⟩) (fun e => by have h := (hlt6 _ e).1; simp only at h; omega) (fun b hb => unhide HXX b hb) (.slice s6.a s6.len s6.cap)
          · exact (unhide HF6).set 4 _
        | true =>
          go_wp2_with fail
          refine wp_region_X (fun w' => w'.cell? ⟨bx, 0, none⟩ = some (.pointer (some ⟨T, 0, none⟩)) ∧ w'.cell? ⟨T, 4, none⟩ = some (.slice sL.a sL.len sL.cap) ∧ w'.heap[wr.heap.size]? = some (.cells #[.int .i64 x.kind, .int .i64 x.n, .string x.s, .slice xi.a xi.len xi.cap, .slice xl.a xl.len xl.cap] 37 (0, 0))) (fun j => decide (10 ≤ j)) (by kernel_rfl) ?_
          obtain ⟨We, hWe⟩ : ∃ We, We = wc.drew := ⟨_, rfl⟩
          have fe : Ext wc We := by rw [hWe]; exact (Ext.refl wc).drew
          rw [← hWe]
          have hS7 : We.cell? ⟨bx, 0, none⟩ = some (.pointer (some ⟨T, 0, none⟩)) ∧ We.cell? ⟨T, 4, none⟩ = some (.slice sL.a sL.len sL.cap) ∧ We.heap[wr.heap.size]? = some (.cells #[.int .i64 x.kind, .int .i64 x.n, .string x.s, .slice xi.a xi.len xi.cap, .slice xl.a xl.len xl.cap] 37 (0, 0)) := ⟨fe.cell hbc0, fe.cell u4, fe.heap rAc⟩
          clear hWe
          refine wpAnyX_take (i := 0) (v := .pointer (some ⟨T, 0, none⟩)) rfl (by kernel_rfl) (by kernel_rfl) (fun _ _ _ h => h) (.inl ⟨rfl, fun w' hS => by simp [execOp, go_sem, hS.1]⟩) (hS7) ?_
          simp only [Act.put, List.getElem_toArray, List.getElem_cons_zero, List.getElem_cons_succ, List.setIfInBounds_toArray, List.set_cons_succ, List.set_cons_zero]
          refine wpAnyX_take (i := 1) (v := .pointer (some ⟨T, 0, none⟩)) rfl (by kernel_rfl) (by kernel_rfl) (fun _ _ _ h => h) (.inl ⟨rfl, fun w' hS => by simp [execOp, go_sem]⟩) (hS7) ?_
          simp only [Act.put, List.getElem_toArray, List.getElem_cons_zero, List.getElem_cons_succ, List.setIfInBounds_toArray, List.set_cons_succ, List.set_cons_zero]
          refine wpAnyX_take (i := 2) (v := .pointer (some ⟨T, 4, none⟩)) rfl (by kernel_rfl) (by kernel_rfl) (fun _ _ _ h => h) (.inl ⟨rfl, fun w' hS => by simp [execOp, go_sem]⟩) (hS7) ?_
          simp only [Act.put, List.getElem_toArray, List.getElem_cons_zero, List.getElem_cons_succ, List.setIfInBounds_toArray, List.set_cons_succ, List.set_cons_zero]
          refine wpAnyX_take (i := 3) (v := .slice sL.a sL.len sL.cap) rfl (by kernel_rfl) (by kernel_rfl) (fun _ _ _ h => h) (.inl ⟨rfl, fun w' hS => by simp [execOp, go_sem, hS.2.1]⟩) (hS7) ?_
          simp only [Act.put, List.getElem_toArray, List.getElem_cons_zero, List.getElem_cons_succ, List.setIfInBounds_toArray, List.set_cons_succ, List.set_cons_zero]
          refine wpAnyX_take (i := 4) (v := .agg #[.int .i64 x.kind, .int .i64 x.n, .string x.s, .slice xi.a xi.len xi.cap, .slice xl.a xl.len xl.cap]) rfl (by kernel_rfl) (by kernel_rfl) (fun _ _ _ h => h) (.inl ⟨rfl, fun w' hS => by simp [execOp, go_sem, (rowN5 hS.2.2).1, (rowN5 hS.2.2).2.1, (rowN5 hS.2.2).2.2.1, (rowN5 hS.2.2).2.2.2.1, (rowN5 hS.2.2).2.2.2.2.1]⟩) (hS7) ?_
          simp only [Act.put, List.getElem_toArray, List.getElem_cons_zero, List.getElem_cons_succ, List.setIfInBounds_toArray, List.set_cons_succ, List.set_cons_zero]
          refine wpAnyX_take (i := 5) (v := .int .i64 sL.len) rfl (by kernel_rfl) (by kernel_rfl) (fun _ _ _ h => h) (.inl ⟨rfl, fun w' hS => by simp [execOp, go_sem]⟩) (hS7) ?_
          simp only [Act.put, List.getElem_toArray, List.getElem_cons_zero, List.getElem_cons_succ, List.setIfInBounds_toArray, List.set_cons_succ, List.set_cons_zero]
          refine wpAnyX_one (j := 6) rfl (by kernel_rfl) rfl fun K hK => ?_
          go_wp2
          obtain ⟨Wf, hWf⟩ : ∃ Wf, Wf = We.alloc (.cells #[.int .i64 0, .int .i64 0, .string ⟨#[]⟩, .slice none 0 0, .slice none 0 0] 37) := ⟨_, rfl⟩
          have ff : Ext wc Wf := by rw [hWf]; exact fe.alloc _
          have rf : Wf.rangeAt We.heap.size 0 [.int .i64 0, .int .i64 0, .string ⟨#[]⟩, .slice none 0 0, .slice none 0 0] := by rw [hWf]; exact range_of_new5 _ _ _ _ _ _ _ rfl
          rw [← hWf]
          clear hWf
          refine hK.out _ _ (⟨ff.cell hbc0, ff.cell u4, ff.heap rAc⟩) ?_
          clear hK K
          obtain ⟨css, hc1, hc2, hc3⟩ := (unhide Hvc).ext ff
          have hzf : ValueAtP (fun b => X b ∧ Value.ownBlock (.slice sL.a sL.len sL.cap) ≠ some b ∧ Value.ownBlock (.slice s1.a s1.len s1.cap) ≠ some b ∧ b < Wf.heap.size) (k + 1) Wf [.int .i64 0, .int .i64 0, .string ⟨#[]⟩, .slice none 0 0, .slice none 0 0] ValueM.zero := zeroAt _ _ _
          have hxf := ((unhide Hxc).ext ff).sub (fun b hb => (⟨hb.1, hb.2.1, hb.2.2.1, Nat.lt_of_lt_of_le hb.2.2.2 ff.size⟩ : X b ∧ Value.ownBlock (.slice sL.a sL.len sL.cap) ≠ some b ∧ Value.ownBlock (.slice s1.a s1.len s1.cap) ≠ some b ∧ b < Wf.heap.size))
          have Hc1 := hide hc1
          have hFf := (unhide HFc).ext ff
          have hbf : base ≤ Wf.heap.size := by have := hFf.size; omega
          refine wpAnyX_one (j := 7) rfl (by kernel_rfl) rfl fun K hK => ?_
          refine wpList_app1w _ _ 35 37 (.agg #[.int .i64 0, .int .i64 0, .string ⟨#[]⟩, .slice none 0 0, .slice none 0 0]) 5 80 Tryz.underlying35 info28 rfl (by decide) (by decide) rfl rfl base (.slice sL.a sL.len sL.cap) (putL l xs i).length _ rfl (unhide Hc1) We.heap.size 1 [.int .i64 0, .int .i64 0, .string ⟨#[]⟩, .slice none 0 0, .slice none 0 0] rfl rfl rf ?d2 ?d3 hbf ?_
          case d2 => exact hzf.one
          case d3 => omega
          intro v6 w6 ho6 hg6 hw6
          obtain ⟨s6, hs6⟩ : ∃ s : SV, v6 = .slice s.a s.len s.cap := by obtain ⟨a', c', e'⟩ := owns_slice ho6; exact ⟨⟨a', _, c'⟩, e'⟩
          subst hs6
          have hw6' : Value.ownBlock (.slice s6.a s6.len s6.cap) = Value.ownBlock (.slice sL.a sL.len sL.cap) ∨ ∃ g', Value.ownBlock (.slice s6.a s6.len s6.cap) = some g' ∧ Wf.heap.size ≤ g' := hw6
          have hv6 := VRow.push hc2 hc3 hzf ho6 hg6 hw6'
          have hlt6 := VRow.lt hv6
          have hnT : some T ≠ Value.ownBlock (.slice sL.a sL.len sL.cap) := fun e => by have := (unhide Hltc T e.symm).1; omega
          have hnb : some bx ≠ Value.ownBlock (.slice sL.a sL.len sL.cap) := fun e => by have := (unhide Hltc bx e.symm).1; omega
          have hnA : some wr.heap.size ≠ Value.ownBlock (.slice sL.a sL.len sL.cap) := fun e => by have := unhide Hltw _ e.symm; omega
          have hT6 : w6.heap[T]? = some (.cells #[.int .i64 2, .int .i64 0, .string ⟨#[]⟩, .slice s1.a s1.len s1.cap, .slice sL.a sL.len sL.cap] 37 (0, 0)) := by
            have h0 := ff.heap hTc
            rw [hg6.block _ (lt_of_heap h0) hnT]; exact h0
          have hb6 := hg6.cell (ff.cell hbc0) hnb
          have hA6 : w6.heap[wr.heap.size]? = some (.cells #[.int .i64 x.kind, .int .i64 x.n, .string x.s, .slice xi.a xi.len xi.cap, .slice xl.a xl.len xl.cap] 37 (0, 0)) := by
            have h0 := ff.heap rAc
            rw [hg6.block _ (lt_of_heap h0) hnA]; exact h0
          have hap6 : Value.ownBlock (.slice s1.a s1.len s1.cap) = none ∨ Value.ownBlock (.slice s1.a s1.len s1.cap) ≠ Value.ownBlock (.slice sL.a sL.len sL.cap) := owns_apart (unhide Hoc) (owns_of_kept (unhide Hvc)) (by decide)
          have ho16 := (owns_ext (unhide Hoc) ff).kept hg6 hap6
          have hF6 : PFr w w6 T r1 r2 := hFf.grown hg6 ((unhide Hw).2.elim (fun h => .inr (.inl h)) fun h => .inr (.inr h))
          have hs6b : Value.ownBlock (.slice s6.a s6.len s6.cap) = r2 ∨ ∀ j, Value.ownBlock (.slice s6.a s6.len s6.cap) = some j → w.heap.size ≤ j := by
            rcases hw6' with e | ⟨g', e, hge⟩
            · rw [e]; exact (unhide Hw).2
            · have := hFf.size
              exact .inr fun j hj => by rw [e] at hj; cases hj; omega
          have hzT6 := lt_of_heap hT6
          clear u0 u1 u2 u3 u4 uf
          obtain ⟨u0, u1, u2, u3, u4, uf⟩ := row5 hT6
          have hx7 : ValueAtP (fun b => X b ∧ Value.ownBlock (.slice s6.a s6.len s6.cap) ≠ some b ∧ Value.ownBlock (.slice s1.a s1.len s1.cap) ≠ some b ∧ b < w6.heap.size) (k + 1) w6 [.int .i64 x.kind, .int .i64 x.n, .string x.s, .slice xi.a xi.len xi.cap, .slice xl.a xl.len xl.cap] x := by
            refine (hxf.keep fun b ob hb hob => ?_).sub fun b hb => ⟨hb.1, ?_, hb.2.2.1, by have := hg6.size; have := hb.2.2.2; omega⟩
            · rw [hg6.block b hb.2.2.2 (fun e => hb.2.1 e.symm)]; exact hob
            · rcases hw6' with e | ⟨g', e, hge⟩
              · rw [e]; exact hb.2.1
              · rw [e]; intro he; cases he; have := hb.2.2.2; omega
          have hcl5 : (css.flatMap fun c => c).length = (putL l xs i).length * 5 := by
            have := hc1.1
            exact this
          have hrow6 : ∃ g6 c6 cur, s6 = ⟨some ⟨g6, 0, none⟩, (putL l xs i).length + 1, c6⟩ ∧ w6.heap[g6]? = some (.cells cur 37 (0, 0)) ∧ base ≤ g6 ∧ ∀ j, j < 5 → (w6.cell? ⟨g6, (putL l xs i).length * 5 + j, none⟩).isSome = true := by
            rcases ho6.2 with ⟨_, e⟩ | ⟨g, cap, cur, e, hbg, hg, hcc, hm, hs, ht⟩
            · omega
            · obtain ⟨a6, n6, c6⟩ := s6
              simp only [Value.slice.injEq] at e
              obtain ⟨rfl, rfl, rfl⟩ := e
              refine ⟨g, c6, cur, rfl, hg, hbg, fun j hj => ?_⟩
              rw [cell_of_row w6 g _ cur 37 _ hg]
              have : ((putL l xs i).length + 1) * 5 ≤ c6 * 5 := Nat.mul_le_mul_right 5 hcc
              simp; omega
          have Hrow6 := hide hrow6
          have Hx7 := hide hx7
          have Hv6 := hide hv6
          have Ho16 := hide ho16
          have HF6 := hide hF6
          have Hs6 := hide hs6b
          clear ho6 hg6 hw6 hw6' hc1 hc2 hc3 hv6 ho16 hF6 hs6b hxf hap6 hx7 hrow6 hcl5
          refine hK.out _ _ (⟨hb6, u4, hA6⟩) ?_
          clear hK K
          refine wpAnyX_one (j := 8) rfl (by kernel_rfl) rfl fun K hK => ?_
          go_wp2
          refine hK.out _ _ (⟨hb6, u4, hA6⟩) ?_
          clear hK K
          refine wpAnyX_take (i := 9) (v := .pointer (some ⟨T, 4, none⟩)) rfl (by kernel_rfl) (by kernel_rfl) (fun _ _ _ h => h) (.inl ⟨rfl, fun w' hS => by simp [execOp, go_sem]⟩) ((And.intro hb6 (And.intro u4 hA6))) ?_
          simp only [Act.put, List.getElem_toArray, List.getElem_cons_zero, List.getElem_cons_succ, List.setIfInBounds_toArray, List.set_cons_succ, List.set_cons_zero]
          refine wpAnyX_end [10] [_] rfl (by intro j i hj; match j, hj with | 0, hj => cases hj; rfl) (by kernel_rfl) (by intro i hi; cases hi; rfl) fun K hK => ?_
          go_wp2
          refine hK.out _ _ ?_
          clear hK K
          obtain ⟨g6, c6, cur, rfl, hg6, hbg6, hiso⟩ := unhide Hrow6
          have hLn : sL.len = (putL l xs i).length := (unhide Hvc).slice_len
          obtain ⟨La, Ln, Lc⟩ := sL
          simp only at hLn
          subst hLn
          obtain ⟨W7, hW7⟩ : ∃ W7, W7 = w6.setCell ⟨T, 4, none⟩ (.slice (some ⟨g6, 0, none⟩) ((putL l xs i).length + 1) c6) := ⟨_, rfl⟩
          have hTg : g6 ≠ T := by omega
          have h7T : W7.heap[T]? = some (.cells #[.int .i64 2, .int .i64 0, .string ⟨#[]⟩, .slice s1.a s1.len s1.cap, .slice (some ⟨g6, 0, none⟩) ((putL l xs i).length + 1) c6] 37 (0, 0)) := by
            rw [hW7]; have := heap_setCell_same w6 T 4 _ 37 (.slice (some ⟨g6, 0, none⟩) ((putL l xs i).length + 1) c6) hT6
            simpa using this
          have h7o : W7.ownsRow base 3 1 (.slice s1.a s1.len s1.cap) (putI ids xs id (i + 1)).length ((putI ids xs id (i + 1)).flatMap encI) := by rw [hW7]; exact ownsRow_setCell_below (unhide Ho16) hTb _
          have h7v := (unhide Hv6).set (p := ⟨T, 4, none⟩) (fun e => by have h := (hlt6 _ e).1; simp only at h; omega) (fun b hb => unhide HXX b hb) (.slice (some ⟨g6, 0, none⟩) ((putL l xs i).length + 1) c6)
          have h7x : ValueAtP (fun b => X b ∧ some g6 ≠ some b ∧ Value.ownBlock (.slice s1.a s1.len s1.cap) ≠ some b ∧ b < W7.heap.size) (k + 1) W7 [.int .i64 x.kind, .int .i64 x.n, .string x.s, .slice xi.a xi.len xi.cap, .slice xl.a xl.len xl.cap] x := by
            rw [hW7]
            refine ((unhide Hx7).keep fun b ob hb hob => ?_).sub fun b hb => ⟨hb.1, hb.2.1, hb.2.2.1, by rw [size_setCell]; exact hb.2.2.2⟩
            rw [Below.heap_setCell _ _ _ _ (unhide HXX b hb.1)]; exact hob
          have h7g : W7.heap[g6]? = some (.cells cur 37 (0, 0)) := by rw [hW7, heap_setCell_other _ _ _ _ hTg]; exact hg6
          have h7i : ∀ j, j < 5 → (W7.cell? ⟨g6, (putL l xs i).length * 5 + j, none⟩).isSome = true := fun j hj => by
            have h := hiso j hj
            rw [cell_of_row w6 g6 _ cur 37 _ hg6] at h
            rw [cell_of_row W7 g6 _ cur 37 _ h7g]; exact h
          have h7F : PFr w W7 T r1 r2 := by rw [hW7]; exact (unhide HF6).set 4 _
          rw [← hW7] at h7v ⊢
          clear hW7
          obtain ⟨v8, g8⟩ := VRow.last h7v (.int .i64 x.kind) (.int .i64 x.n) (.string x.s) (.slice xi.a xi.len xi.cap) (.slice xl.a xl.len xl.cap) h7x
          obtain ⟨W8, hW8⟩ : ∃ W8, W8 = (((((W7.setCell ⟨g6, (putL l xs i).length * 5, none⟩ (.int .i64 x.kind)).setCell ⟨g6, (putL l xs i).length * 5 + 1, none⟩ (.int .i64 x.n)).setCell ⟨g6, (putL l xs i).length * 5 + 2, none⟩ (.string x.s)).setCell ⟨g6, (putL l xs i).length * 5 + 3, none⟩ (.slice xi.a xi.len xi.cap)).setCell ⟨g6, (putL l xs i).length * 5 + 4, none⟩ (.slice xl.a xl.len xl.cap)) := ⟨_, rfl⟩
          rw [← hW8] at v8 g8
          have h8T : W8.heap[T]? = some (.cells #[.int .i64 2, .int .i64 0, .string ⟨#[]⟩, .slice s1.a s1.len s1.cap, .slice (some ⟨g6, 0, none⟩) ((putL l xs i).length + 1) c6] 37 (0, 0)) := by
            rw [g8.block T (lt_of_heap h7T) (fun e => hTg (by cases e; rfl))]; exact h7T
          have h8o := h7o.kept g8 (owns_apart h7o (owns_of_kept h7v) (by decide))
          have h8F : PFr w W8 T r1 r2 := h7F.grown g8 ((unhide Hs6).elim (fun h => .inr (.inl h)) fun h => .inr (.inr h))
          rw [← unhide Hpl] at v8
          have hW8' := hide hW8
          have Hv8 := hide v8
          have H8o := hide h8o
          have H8F := hide h8F
          have H8T := hide h8T
          have hzg := lt_of_heap h7g
          have hzf : ∀ j, W7.frozen? ⟨g6, j, none⟩ = false := fun j => frozen_of_row W7 g6 j _ 37 h7g
          obtain ⟨o0, ho0⟩ := Option.isSome_iff_exists.1 (h7i 0 (by omega))
          obtain ⟨o1, ho1⟩ := Option.isSome_iff_exists.1 (h7i 1 (by omega))
          obtain ⟨o2, ho2⟩ := Option.isSome_iff_exists.1 (h7i 2 (by omega))
          obtain ⟨o3, ho3⟩ := Option.isSome_iff_exists.1 (h7i 3 (by omega))
          obtain ⟨o4, ho4⟩ := Option.isSome_iff_exists.1 (h7i 4 (by omega))
          simp only [Nat.add_zero] at ho0
          have hnl : ((putL l xs i).length : Int) < (((putL l xs i).length + 1 : Nat) : Int) := by omega
          clear h7T h7o h7v h7x h7i h7F v8 g8 h8T h8o h8F hW8 hiso hg6 u0 u1 u2 u3 u4 uf Hv6 Ho16 HF6 hT6 hA6 hb6
          go_wp2
          rw [← unhide hW8']
          exact ⟨⟨i + 1, .slice s1.a s1.len s1.cap, .slice (some ⟨g6, 0, none⟩) ((putL l xs i).length + 1) c6, by go_num, by omega, ⟨unhide H8T, unhide H8o, unhide Hv8⟩, unhide H8F, unhide Hs1, unhide Hs6⟩, by simp [intOf]; omega⟩
    · have hie : i = xs.length := by omega
      subst hie
      have HPw := hide hPw
      clear hPw
      go_wp2
      exact bodyPost_nil (by simp [results, Tryz.results114, go_sem]) rfl ⟨rfl, vi', vL', unhide HPw, hF, hw1, hw2⟩
end Go.Proofs.YtnppgeiompimaaaGreatDoor

