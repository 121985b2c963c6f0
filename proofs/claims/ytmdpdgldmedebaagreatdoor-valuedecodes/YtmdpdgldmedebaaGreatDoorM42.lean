import Derived.Test.YtmdpdgldmedebaaGreatDoorM41
namespace Go.Proofs.YtmdpdgldmedebaaGreatDoor
set_option linter.unusedSimpArgs false
set_option linter.unusedVariables false
set_option linter.unusedSimpArgs false
set_option linter.unusedVariables false
open Go.RowKit

def CvS (A B : Nat) (vL : Value) (c0 c1 c2 c3 c4 : Value) (w : World) : Prop := w.cell? ⟨A, 4, none⟩ = some vL ∧ w.cell? ⟨B, 0, none⟩ = some c0 ∧ w.cell? ⟨B, 1, none⟩ = some c1 ∧ w.cell? ⟨B, 2, none⟩ = some c2 ∧ w.cell? ⟨B, 3, none⟩ = some c3 ∧ w.cell? ⟨B, 4, none⟩ = some c4
theorem CvS.ext {A B : Nat} {vL c0 c1 c2 c3 c4 : Value} {w w' : World} (h : CvS A B vL c0 c1 c2 c3 c4 w) (he : Ext w w') : CvS A B vL c0 c1 c2 c3 c4 w' :=
  ⟨he.cell h.1, he.cell h.2.1, he.cell h.2.2.1, he.cell h.2.2.2.1, he.cell h.2.2.2.2.1, he.cell h.2.2.2.2.2⟩
theorem CvS.grown {A B : Nat} {vL c0 c1 c2 c3 c4 : Value} {w w' : World} {row : Option Nat} (h : CvS A B vL c0 c1 c2 c3 c4 w) (hg : w.grownBy w' row) (hA : some A ≠ row) (hB : some B ≠ row) : CvS A B vL c0 c1 c2 c3 c4 w' :=
  ⟨hg.cell h.1 hA, hg.cell h.2.1 hB, hg.cell h.2.2.1 hB, hg.cell h.2.2.2.1 hB, hg.cell h.2.2.2.2.1 hB, hg.cell h.2.2.2.2.2 hB⟩

set_option maxHeartbeats 12800000 in
set_option maxRecDepth 10000 in
theorem copyValue_any : ∀ (k : Nat) (v : ValueM) (ids l : SV) (w : World), SmallV k v → ValueAt k w [.int .i64 v.kind, .int .i64 v.n, .string v.s, .slice ids.a ids.len ids.cap, .slice l.a l.len l.cap] v →
    Calls Tryz.prog 7 #[.agg #[.int .i64 v.kind, .int .i64 v.n, .string v.s, .slice ids.a ids.len ids.cap, .slice l.a l.len l.cap]] w fun e w' => ∃ ids' l' : SV, e = .returned (.agg #[.int .i64 v.kind, .int .i64 v.n, .string v.s, .slice ids'.a ids'.len ids'.cap, .slice l'.a l'.len l'.cap]) ∧ ValueAtP (Btw w w') k w' [.int .i64 v.kind, .int .i64 v.n, .string v.s, .slice ids'.a ids'.len ids'.cap, .slice l'.a l'.len l'.cap] v ∧ Ext w w' := by
  intro k
  induction k with
  | zero => intro _ _ _ _ _ h; exact h.elim
  | succ k ih =>
    intro v ids l w hsv hv
    obtain ⟨ids', l', he, hids, hl, hiok, hlok⟩ := hv
    simp only [List.cons.injEq, Value.slice.injEq, and_true, true_and] at he
    obtain ⟨⟨i1, i2, i3⟩, l1, l2, l3⟩ := he
    obtain rfl : l = l' := by cases l; cases l'; simp_all
    obtain rfl : ids = ids' := by cases ids; cases ids'; simp_all
    clear i1 i2 i3 l1 l2 l3 hlok
    obtain ⟨hsz, hin, hln, hall⟩ := hsv
    obtain ⟨la, ll, lc⟩ := l
    have ell := hl.1
    simp only at ell
    subst ell
    obtain ⟨vk, vn, vs, vids, vl⟩ := v
    simp only at hids hl hsz hin hln hall hiok
    show Calls Tryz.prog 7 #[.agg #[.int .i64 vk, .int .i64 vn, .string vs, .slice ids.a ids.len ids.cap, .slice la vl.length lc]] w _
    obtain ⟨w0, hw0⟩ : ∃ w0, w0 = (w.alloc (.cells #[.int .i64 vk, .int .i64 vn, .string vs, .slice ids.a ids.len ids.cap, .slice la vl.length lc] 28)).alloc (.cells #[.int .i64 0, .int .i64 0, .string ⟨#[]⟩, .slice none 0 0, .slice none 0 0] 28) := ⟨_, rfl⟩
    obtain ⟨hx0, hz, r0, r1⟩ := heaps2 hw0
    obtain ⟨v0, v1, v2, v3, v4, _⟩ := row5 r0
    have hz1 : w.heap.size + 2 ≤ w0.heap.size := by omega
    have HW0 := hide hw0
    have Hids := hide hids
    have Hl := hide hl
    have Hall := hide hall
    have Hih := hide ih
    clear hw0 hids hl hall hz ih
    go_enter Tryz.func7, Tryz.ntmps7
    go_wp2_with (at_builtin; refine wpList_appAll _ _ 25 3 (.int .i64 0) 1 8 rfl rfl Tryz.underlying25 info3 rfl (by decide) (by decide) encI (fun _ => rfl) one_int (w.heap.size + 2) (.slice none 0 0) [] ?d1 ?d2 ?d3 ids vids ?d4 hiok ?d5 ?d6 ?_)
    case d1 => exact World.ownsRow_nil _ _ _ _
    case d2 => simp
    case d3 => rfl
    case d4 => exact (unhide Hids).ext (((Ext.refl w).alloc _).alloc _)
    case d5 => rfl
    case d6 => simpa using hin
    intro s1 w1 o1 g1
    rw [← unhide HW0] at g1
    have x01 : Ext w0 w1 := (Ext.refl w0).grown g1 (fun k h => by cases h)
    have A1 := x01.heap r0
    have R1 := x01.heap r1
    obtain ⟨W2, hW2⟩ : ∃ W2, W2 = (w1.setCell ⟨w.heap.size, 3, none⟩ (.slice s1.a s1.len s1.cap)).setCell ⟨w.heap.size, 4, none⟩ (.slice none 0 0) := ⟨_, rfl⟩
    have A2 : W2.heap[w.heap.size]? = some (.cells #[.int .i64 vk, .int .i64 vn, .string vs, .slice s1.a s1.len s1.cap, .slice none 0 0] 28 (0, 0)) := by
      rw [hW2]
      have h1 := heap_setCell_same w1 w.heap.size 3 _ 28 (.slice s1.a s1.len s1.cap) A1
      simp only [List.setIfInBounds_toArray, List.set_cons_succ, List.set_cons_zero] at h1
      have h2 := heap_setCell_same _ w.heap.size 4 _ 28 (.slice none 0 0) h1
      simpa using h2
    have hE2 : Ext w W2 := by rw [hW2]; exact ((hx0.trans x01).setCell (Nat.le_refl _) _).setCell (Nat.le_refl _) _
    have R2 : W2.heap[w.heap.size + 1]? = some (.cells #[.int .i64 0, .int .i64 0, .string ⟨#[]⟩, .slice none 0 0, .slice none 0 0] 28 (0, 0)) := by
      rw [hW2, heap_setCell_other _ _ _ _ (show w.heap.size + 1 ≠ w.heap.size by omega), heap_setCell_other _ _ _ _ (show w.heap.size + 1 ≠ w.heap.size by omega)]
      exact R1
    have o2 : W2.ownsRow (w.heap.size + 2) 3 1 (.slice s1.a s1.len s1.cap) vids.length (vids.flatMap encI) := by
      rw [hW2]
      exact ownsRow_setCell_below (ownsRow_setCell_below o1 (by show w.heap.size < w.heap.size + 2; omega) _) (by show w.heap.size < w.heap.size + 2; omega) _
    have hs2 : w.heap.size + 2 ≤ W2.heap.size := by rw [hW2]; simp; have := x01.size; omega
    obtain ⟨a0, a1, a2, a3, a4, af⟩ := row5 A1
    have zA := lt_of_heap A1
    have HW2 := hide hW2
    clear hW2 x01 R1 g1 o1 A1 hx0 r0 r1 v0 v1 v2 v3 v4
    go_wp2
    rw [← unhide HW2]
    clear a0 a1 a2 a3 a4 af zA
    go_loopw [15] (fun i wr => ∃ (j : Nat) (vL : Value), j ≤ vl.length ∧ i = .int .i64 j ∧ wr.heap[w.heap.size]? = some (.cells #[.int .i64 vk, .int .i64 vn, .string vs, .slice s1.a s1.len s1.cap, vL] 28 (0, 0)) ∧ wr.heap[w.heap.size + 1]? = some (.cells #[.int .i64 0, .int .i64 0, .string ⟨#[]⟩, .slice none 0 0, .slice none 0 0] 28 (0, 0)) ∧ wr.ownsRow (w.heap.size + 2) 3 1 (.slice s1.a s1.len s1.cap) vids.length (vids.flatMap encI) ∧ VRow k wr (w.heap.size + 2) (fun b => w.heap.size + 2 ≤ b) (Value.ownBlock (.slice s1.a s1.len s1.cap)) vL (vl.take j) ∧ Ext w wr ∧ w.heap.size + 2 ≤ wr.heap.size) (fun i _ => vl.length - (intOf i).toNat)
    case atStart => exact ⟨0, _, by omega, rfl, A2, R2, o2, VRow.nil _ _ _ _ _, hE2, hs2⟩
    case round =>
      clear A2 R2 o2 hE2 hs2
      obtain ⟨j, vL, hj, rfl, hA, hR, hoi, hvr, hEr, hwz⟩ := hrel
      have hvLwr : ∀ b, vL.ownBlock = some b → b < wr.heap.size := by obtain ⟨css, hc1, _, _⟩ := hvr; exact fun b hb => (hc1.lt b hb).2
      have hAz := lt_of_heap hA
      have hRz := lt_of_heap hR
      obtain ⟨a0, a1, a2, a3, a4, af⟩ := row5 hA
      by_cases hlt : j < vl.length
      · obtain ⟨xb, xo, cs2, hla, hr2, hxv⟩ := (unhide Hl).2 j vl[j] (by simp [hlt])
        simp only at hla
        subst hla
        obtain ⟨xi, xl, rfl, hxi, hxl, _, _⟩ := hxv.opens
        obtain ⟨c0, c1, c2, c3, c4⟩ := range5 (hEr.range hr2)
        have hsx := unhide Hall vl[j] (List.getElem_mem hlt)
        have Htk : Hid (vl.take (j + 1) = vl.take j ++ [vl[j]]) := List.take_succ_eq_append_getElem hlt
        have Hxv := hide hxv
        have hji : (j : Int) < (vl.length : Int) := by omega
        generalize vl[j] = x at *
        obtain ⟨W, hW⟩ : ∃ W, W = wr.alloc (.cells #[.int .i64 x.kind, .int .i64 x.n, .string x.s, .slice xi.a xi.len xi.cap, .slice xl.a xl.len xl.cap] 28) := ⟨_, rfl⟩
        have hxW : Ext wr W := by rw [hW]; exact (Ext.refl wr).alloc _
        have hB : W.heap[wr.heap.size]? = some (.cells #[.int .i64 x.kind, .int .i64 x.n, .string x.s, .slice xi.a xi.len xi.cap, .slice xl.a xl.len xl.cap] 28 (0, 0)) := by rw [hW]; exact heap_alloc_new _ _
        obtain ⟨b0, b1, b2, b3, b4, _⟩ := row5 hB
        have hAW := hxW.heap hA
        have hRW := hxW.heap hR
        have hoW := owns_ext hoi hxW
        have hvW := hvr.ext hxW
        have hEW := hEr.trans hxW
        have hS0 : CvS w.heap.size wr.heap.size vL (.int .i64 x.kind) (.int .i64 x.n) (.string x.s) (.slice xi.a xi.len xi.cap) (.slice xl.a xl.len xl.cap) W := ⟨hxW.cell a4, b0, b1, b2, b3, b4⟩
        have hSd := hS0.ext ((Ext.refl W).drew)
        have HW := hide hW
        have HoW := hide hoW
        have HvW := hide hvW
        have hzW : wr.heap.size + 1 ≤ W.heap.size := by rw [hW]; simp
        clear hr2 hxv hxi hxl hW hoi hvr hoW hvW a0 a1 a2 a3 b0 b1 b2 b3 b4
        go_wp2_with fail
        rw [← unhide HW]
        clear a4 af
        refine wp_region_X (CvS w.heap.size wr.heap.size vL (.int .i64 x.kind) (.int .i64 x.n) (.string x.s) (.slice xi.a xi.len xi.cap) (.slice xl.a xl.len xl.cap)) (fun j => decide (7 ≤ j)) (by kernel_rfl) ?_
        refine wpAnyX_take (i := 0) (v := .pointer (some ⟨w.heap.size, 4, none⟩)) rfl (by kernel_rfl) (by kernel_rfl) (fun _ _ _ h => h) (.inl ⟨rfl, fun w' hS => by simp [execOp, go_sem]⟩) (hSd) ?_
        simp only [Act.put, List.getElem_toArray, List.getElem_cons_zero, List.getElem_cons_succ, List.setIfInBounds_toArray, List.set_cons_succ, List.set_cons_zero]
        refine wpAnyX_take (i := 1) (v := vL) rfl (by kernel_rfl) (by kernel_rfl) (fun _ _ _ h => h) (.inl ⟨rfl, fun w' hS => by simp [execOp, go_sem, hS.1]⟩) (hSd) ?_
        simp only [Act.put, List.getElem_toArray, List.getElem_cons_zero, List.getElem_cons_succ, List.setIfInBounds_toArray, List.set_cons_succ, List.set_cons_zero]
        refine wpAnyX_take (i := 2) (v := .agg #[.int .i64 x.kind, .int .i64 x.n, .string x.s, .slice xi.a xi.len xi.cap, .slice xl.a xl.len xl.cap]) rfl (by kernel_rfl) (by kernel_rfl) (fun _ _ _ h => h) (.inl ⟨rfl, fun w' hS => by simp [execOp, go_sem, hS.2.1, hS.2.2.1, hS.2.2.2.1, hS.2.2.2.2.1, hS.2.2.2.2.2]⟩) (hSd) ?_
        simp only [Act.put, List.getElem_toArray, List.getElem_cons_zero, List.getElem_cons_succ, List.setIfInBounds_toArray, List.set_cons_succ, List.set_cons_zero]
        refine wpAnyX_one (j := 3) rfl (by kernel_rfl) rfl fun K hK => ?_
        go_wp2_with fail
        refine (unhide Hih x xi xl W.drew hsx ((unhide Hxv).ext (hEW.drew))).mono ?_
        rintro e w3 ⟨yi, yl, rfl, hv3, hx3⟩
        have hx3' : Ext W w3 := ((Ext.refl W).drew).trans hx3
        have hS3 := hSd.ext hx3
        have Hv3 := hide hv3
        clear hv3
        go_wp2
        refine hK.out _ _ (hS3) ?_
        clear hK K
        refine wpAnyX_one (j := 4) rfl (by kernel_rfl) rfl fun K hK => ?_
        go_wp2
        have hx4 : Ext w3 (w3.alloc (.cells #[.int .i64 x.kind, .int .i64 x.n, .string x.s, .slice yi.a yi.len yi.cap, .slice yl.a yl.len yl.cap] 28)) := (Ext.refl w3).alloc _
        refine hK.out _ _ (hS3.ext hx4) ?_
        clear hK K
        have hW4 : Ext W (w3.alloc (.cells #[.int .i64 x.kind, .int .i64 x.n, .string x.s, .slice yi.a yi.len yi.cap, .slice yl.a yl.len yl.cap] 28)) := hx3'.trans hx4
        have hv4 := (unhide HvW).ext hW4
        obtain ⟨css, hc1, hc2, hc3⟩ := hv4
        have hcl := unhide HvW
        obtain ⟨css0, hd1, _, _⟩ := hcl
        have hvLlt := hd1.lt
        have hoWlt := (unhide HoW).lt
        have hxv4 : ValueAtP (fun b => w.heap.size + 2 ≤ b ∧ vL.ownBlock ≠ some b ∧ (Value.ownBlock (.slice s1.a s1.len s1.cap)) ≠ some b ∧ b < (w3.alloc (.cells #[.int .i64 x.kind, .int .i64 x.n, .string x.s, .slice yi.a yi.len yi.cap, .slice yl.a yl.len yl.cap] 28)).heap.size) k (w3.alloc (.cells #[.int .i64 x.kind, .int .i64 x.n, .string x.s, .slice yi.a yi.len yi.cap, .slice yl.a yl.len yl.cap] 28)) [.int .i64 x.kind, .int .i64 x.n, .string x.s, .slice yi.a yi.len yi.cap, .slice yl.a yl.len yl.cap] x :=
          ((unhide Hv3).ext hx4).sub fun b hb => by
            have h1 : W.heap.size ≤ b := hb.1
            have h2 := hb.2
            refine ⟨by omega, fun e => ?_, fun e => ?_, by simp; omega⟩
            · have := (hvLlt b e).2; omega
            · have := (hoWlt b e).2; omega
        have Hc1 := hide hc1
        have hz3 : W.heap.size ≤ w3.heap.size := hx3'.size
        have hjl : (vl.take j).length = j := by rw [List.length_take]; omega
        refine wpAnyX_one (j := 5) rfl (by kernel_rfl) rfl fun K hK => ?_
        refine wpList_app1w _ _ 26 28 (.agg #[.int .i64 0, .int .i64 0, .string ⟨#[]⟩, .slice none 0 0, .slice none 0 0]) 5 80 Tryz.underlying26 info28 rfl (by decide) (by decide) rfl rfl (w.heap.size + 2) _ _ _ rfl (unhide Hc1) w3.heap.size 1 [.int .i64 x.kind, .int .i64 x.n, .string x.s, .slice yi.a yi.len yi.cap, .slice yl.a yl.len yl.cap] rfl rfl ?d1 ?d2 ?d3 ?d4 ?_
        case d1 => exact range_of_new5 _ _ _ _ _ _ _ rfl
        case d2 => exact hxv4.one
        case d3 => rw [hjl]; omega
        case d4 => simp; omega
        intro v6 w6 ho6 hg6 hw6
        obtain ⟨s6, hs6⟩ : ∃ s : SV, v6 = .slice s.a s.len s.cap := by obtain ⟨a', c', e'⟩ := owns_slice ho6; exact ⟨⟨a', _, c'⟩, e'⟩
        subst hs6
        have hs6lt : ∀ b, Value.ownBlock (.slice s6.a s6.len s6.cap) = some b → w.heap.size + 2 ≤ b := fun b hb => (ho6.lt b hb).1
        have hv6 := VRow.push hc2 hc3 hxv4 ho6 hg6 hw6
        have hA6 : w6.heap[w.heap.size]? = some (.cells #[.int .i64 vk, .int .i64 vn, .string vs, .slice s1.a s1.len s1.cap, vL] 28 (0, 0)) := by
          have h0 := hW4.heap hAW
          rw [hg6.block _ (lt_of_heap h0) (fun e => by have := (hvLlt _ e.symm).1; omega)]; exact h0
        have hR6 : w6.heap[w.heap.size + 1]? = some (.cells #[.int .i64 0, .int .i64 0, .string ⟨#[]⟩, .slice none 0 0, .slice none 0 0] 28 (0, 0)) := by
          have h0 := hW4.heap hRW
          rw [hg6.block _ (lt_of_heap h0) (fun e => by have := (hvLlt _ e.symm).1; omega)]; exact h0
        have hS6 : CvS w.heap.size wr.heap.size vL (.int .i64 x.kind) (.int .i64 x.n) (.string x.s) (.slice xi.a xi.len xi.cap) (.slice xl.a xl.len xl.cap) w6 := (hS3.ext hx4).grown hg6 (fun e => by have := (hvLlt _ e.symm).1; omega) (fun e => by have := hvLwr _ e.symm; omega)
        have ho16 := (owns_ext (unhide HoW) hW4).kept hg6 (owns_apart (unhide HoW) hd1 (by decide))
        have hE6 : Ext w w6 := ((hEW.trans hW4)).owned hg6 hc1 (by omega)
        have hz6 := lt_of_heap hA6
        have hzz6 : w.heap.size + 2 ≤ w6.heap.size := by have := lt_of_heap hR6; omega
        obtain ⟨a0, a1, a2, a3, a4, af⟩ := row5 hA6
        have Hv6 := hide hv6
        have Ho16 := hide ho16
        clear ho6 hg6 hw6 hc1 hc2 hc3 hd1 hv6 ho16 hxv4 HvW HoW
        go_wp2
        refine hK.out _ _ (hS6) ?_
        clear hK K
        refine wpAnyX_take (i := 6) (v := .pointer (some ⟨w.heap.size, 4, none⟩)) rfl (by kernel_rfl) (by kernel_rfl) (fun _ _ _ h => h) (.inl ⟨rfl, fun w' hS => by simp [execOp, go_sem]⟩) (hS6) ?_
        simp only [Act.put, List.getElem_toArray, List.getElem_cons_zero, List.getElem_cons_succ, List.setIfInBounds_toArray, List.set_cons_succ, List.set_cons_zero]
        refine wpAnyX_end [7] [_] rfl (by intro j i hj; match j, hj with | 0, hj => cases hj; rfl) (by kernel_rfl) (by intro i hi; cases hi; rfl) fun K hK => ?_
        go_wp2
        refine hK.out _ _ ?_
        clear hK K
        go_wp2
        refine ⟨⟨j + 1, .slice s6.a s6.len s6.cap, by omega, by go_num, ?_, ?_, ?_, ?_, ?_, ?_⟩, by simp [intOf]; omega⟩
        · have := heap_setCell_same w6 w.heap.size 4 _ 28 (.slice s6.a s6.len s6.cap) hA6
          simpa using this
        · rw [heap_setCell_other _ _ _ _ (show w.heap.size + 1 ≠ w.heap.size by omega)]; exact hR6
        · exact ownsRow_setCell_below (unhide Ho16) (by show w.heap.size < w.heap.size + 2; omega) _
        · rw [unhide Htk]
          exact (unhide Hv6).set (p := ⟨w.heap.size, 4, none⟩) (fun e => by have h := hs6lt _ e; simp only at h; omega) (fun b hb => by simp only; omega) (.slice s6.a s6.len s6.cap)
        · exact hE6.setCell (Nat.le_refl _) _
        · simpa using hzz6
      · have htk : vl.take j = vl := List.take_of_length_le (by omega)
        rw [htk] at hvr
        obtain ⟨sl, rfl, hsl, hslok, hslb⟩ := hvr.slice
        obtain ⟨si', hsi', hint⟩ := ints_of_owns hoi rfl
        have hiok := ok_of_owns hoi
        have hilt := hoi.lt
        simp only [Value.slice.injEq] at hsi'
        obtain rfl : s1 = si' := by cases s1; cases si'; simp_all
        have Hint := hide hint
        have Hsl := hide hsl
        obtain ⟨q0, q1, q2, q3, q4, qf⟩ := row5 hR
        clear hint hsl hoi hvr
        go_wp2
        refine bodyPost_ret (v := .agg #[.int .i64 vk, .int .i64 vn, .string vs, .slice s1.a s1.len s1.cap, .slice sl.a sl.len sl.cap]) ?_ rfl ?_
        · simp [results, Tryz.results7, go_sem, q0, q1, q2, q3, q4, hRz]
        · refine ⟨s1, sl, rfl, ?_, hEr.setCell5 (by omega) _ _ _ _ _⟩
          have h0 : ValueAtP (fun b => w.heap.size + 2 ≤ b ∧ b < wr.heap.size) (k + 1) wr [.int .i64 vk, .int .i64 vn, .string vs, .slice s1.a s1.len s1.cap, .slice sl.a sl.len sl.cap] ⟨vk, vn, vs, vids, vl⟩ :=
            ⟨s1, sl, rfl, unhide Hint, unhide Hsl, hiok, hslok, fun ad ha => hilt ad.block (by simp [Value.ownBlock, ha]), hslb⟩
          exact (h0.set5 (g := w.heap.size + 1) (fun b hb => by have := hb.1; omega) _ _ _ _ _).sub fun b hb => ⟨by have := hb.1; omega, by simpa using hb.2⟩
end Go.Proofs.YtmdpdgldmedebaaGreatDoor

namespace Go.Proofs.YtmdpdgldmedebaaGreatDoor
set_option linter.unusedSimpArgs false
set_option linter.unusedVariables false
open Go.RowKit

def TV.inS (S : Nat → Prop) (tv : TV) : Prop := (∀ ad, tv.fields.a = some ad → S ad.block) ∧ (∀ ad, tv.gone.a = some ad → S ad.block) ∧ (∀ ad, tv.items.a = some ad → S ad.block)
/-- A book, all of whose lists lie in blocks of S. -/
def BookIn (S : Nat → Prop) (w : World) (s : SV) (ts : BookM) : Prop := SliceAt 5 (fun w cs t => ∃ tv : TV, cs = tv.cells ∧ TypeAt w tv t ∧ tv.inS S) w s ts ∧ ∀ ad, s.a = some ad → S ad.block
theorem BookIn.at_ {S : Nat → Prop} {w : World} {s : SV} {ts : BookM} (h : BookIn S w s ts) : BookAt w s ts :=
  ⟨h.1.1, fun i x hx => let ⟨b, o, cs, h1, h2, tv, h3, h4, _⟩ := h.1.2 i x hx; ⟨b, o, cs, h1, h2, tv, h3, h4⟩⟩
theorem SliceAt.keepAt {α : Type} {k : Nat} {R : List Value → α → Prop} {w W : World} {s : SV} {l : List α} (h : SliceAt k (fun _ cs x => R cs x) w s l) (hb : ∀ ad, s.a = some ad → W.heap[ad.block]? = w.heap[ad.block]?) : SliceAt k (fun _ cs x => R cs x) W s l :=
  ⟨h.1, fun i x hx => let ⟨b, o, cs, h1, h2, h3⟩ := h.2 i x hx; ⟨b, o, cs, h1, fun j v hv => by rw [World.cell?_of_block (w := w) (show W.heap[b]? = w.heap[b]? from hb _ h1)]; exact h2 j v hv, h3⟩⟩
theorem TypeAt.keepS {S : Nat → Prop} {w W : World} {tv : TV} {t : TypeM} (h : TypeAt w tv t) (ho : tv.inS S) (hb : ∀ b, S b → W.heap[b]? = w.heap[b]?) : TypeAt W tv t :=
  ⟨h.name, h.enum, SliceAt.keepAt h.fields fun ad ha => hb _ (ho.1 ad ha), SliceAt.keepAt h.gone fun ad ha => hb _ (ho.2.1 ad ha), SliceAt.keepAt h.items fun ad ha => hb _ (ho.2.2 ad ha), h.fok, h.gok, h.iok⟩
theorem BookIn.keep {S : Nat → Prop} {w W : World} {s : SV} {ts : BookM} (h : BookIn S w s ts) (hb : ∀ b, S b → W.heap[b]? = w.heap[b]?) : BookIn S W s ts :=
  ⟨⟨h.1.1, fun i x hx => let ⟨b, o, cs, h1, h2, tv, h3, h4, h5⟩ := h.1.2 i x hx
    ⟨b, o, cs, h1, fun j v hv => by rw [World.cell?_of_block (w := w) (show W.heap[b]? = w.heap[b]? from hb _ (h.2 _ h1))]; exact h2 j v hv, tv, h3, h4.keepS h5 hb, h5⟩⟩, h.2⟩
theorem inS_of_own {w : World} {base : Nat} {e : TypeId} {k n : Nat} {xs : List Value} {s : SV} (h : w.ownsRow base e k (.slice s.a s.len s.cap) n xs) : ∀ ad, s.a = some ad → base ≤ ad.block ∧ ad.block < w.heap.size :=
  fun ad ha => h.lt ad.block (by simp [Value.ownBlock, ha])
theorem BkOwn.bookIn {w : World} {base : Nat} {s : SV} {tvs : List TV} {ts : List TypeM} (h : BkOwn w base s tvs ts) : BookIn (fun b => base ≤ b ∧ b < w.heap.size) w s ts := by
  obtain ⟨hl, ho⟩ := bk_outer h
  refine ⟨⟨by rw [hl, h.len], fun i t ht => ?_⟩, inS_of_own h.outer⟩
  obtain ⟨tv, htv⟩ := bk_get h.len ht
  obtain ⟨b, o, cs, h1, h2, h3⟩ := ho i tv htv
  have hr := h.inner i tv t htv ht
  exact ⟨b, o, cs, h1, h2, tv, h3, rows_type hr, inS_of_own hr.fields, inS_of_own hr.gone, inS_of_own hr.items⟩
theorem ext_block {w W : World} (h : Ext w W) {b : Nat} (hb : b < w.heap.size) : W.heap[b]? = w.heap[b]? := by
  have h0 : w.heap[b]? = some w.heap[b] := Array.getElem?_eq_getElem hb
  rw [h.heap h0, h0]
end Go.Proofs.YtmdpdgldmedebaaGreatDoor

