import Derived.Test.YtnppgeiompimaaaGreatDoorM50
namespace Go.Proofs.YtnppgeiompimaaaGreatDoor
set_option linter.unusedSimpArgs false
set_option linter.unusedVariables false
set_option linter.unusedSimpArgs false
set_option linter.unusedVariables false
open Go.RowKit

theorem outward_zero {w : BookM} {l : List PairM} {n : Nat} {v : ValueM} : outwardM w l n 0 v = v := by cases n <;> simp [outwardM]
theorem outward_step {w : BookM} {l : List PairM} {n i : Nat} {v : ValueM} {p q : PairM} (hi : 0 < i) (hp : l[i]? = some p) (hq : l[p.src]? = some q) : outwardM w l (n + 1) i v = outwardM w l n p.src (aroundM w q.a p.id [v]) := by
  rw [outwardM, if_neg (by omega), hp]
  simp only
  rw [hq]
set_option maxHeartbeats 25600000 in
set_option maxRecDepth 10000 in
theorem outward_any (s1 s2 : SV) (ws rs : BookM) (first : PairM) (lp : List PairM) (lv : List PV) (sv : SV) (B T : Nat) (ob : Option Nat) (i0 : Nat) (v0 : ValueM) (ids l : SV) (Kh : Nat) (S : Nat → Prop) (w : World) (hSw : ∀ b, S b → b < w.heap.size) (h1 : BookAt w s1 ws) (hw : WordsAt w) (n1 : ws.Fits) (hgw : goodM ws = 0) (hRe : Reach ws rs first lp)
    (hop : w.ownsRow B 54 12 (.slice sv.a sv.len sv.cap) lv.length (lv.flatMap encP)) (hpo : PairsOk w T ob lv lp) (hi0 : i0 < lp.length) (hl16 : lp.length ≤ 16)
    (hv : ValueAtP S (Kh + 5) w [.int .i64 v0.kind, .int .i64 v0.n, .string v0.s, .slice ids.a ids.len ids.cap, .slice l.a l.len l.cap] v0) :
    Calls Tryz.prog 44 #[.agg #[.slice s1.a s1.len s1.cap, .slice s2.a s2.len s2.cap], .slice sv.a sv.len sv.cap, .int .i64 i0, .agg #[.int .i64 v0.kind, .int .i64 v0.n, .string v0.s, .slice ids.a ids.len ids.cap, .slice l.a l.len l.cap]] w fun e w' => ∃ (ids' l' : SV) (K : Nat), e = .returned (.agg #[.int .i64 (outwardM ws lp 17 i0 v0).kind, .int .i64 (outwardM ws lp 17 i0 v0).n, .string (outwardM ws lp 17 i0 v0).s, .slice ids'.a ids'.len ids'.cap, .slice l'.a l'.len l'.cap]) ∧
      ValueAtP (fun b => (S b ∨ w.heap.size ≤ b) ∧ b < w'.heap.size) K w' [.int .i64 (outwardM ws lp 17 i0 v0).kind, .int .i64 (outwardM ws lp 17 i0 v0).n, .string (outwardM ws lp 17 i0 v0).s, .slice ids'.a ids'.len ids'.cap, .slice l'.a l'.len l'.cap] (outwardM ws lp 17 i0 v0) ∧ Ext w w' := by
  obtain ⟨W, hW⟩ : ∃ W, W = ((w.alloc (.cells #[.slice s1.a s1.len s1.cap, .slice s2.a s2.len s2.cap] 52)).alloc (.cells #[.int .i64 v0.kind, .int .i64 v0.n, .string v0.s, .slice ids.a ids.len ids.cap, .slice l.a l.len l.cap] 37)).alloc (.cells #[.int .i64 0, .int .i64 0, .string ⟨#[]⟩, .slice none 0 0, .slice none 0 0] 37) := ⟨_, rfl⟩
  obtain ⟨hxW, hzW, r0, r1, r2⟩ := heaps3c hW
  obtain ⟨Y, hY⟩ : ∃ Y, Y = outwardM ws lp 17 i0 v0 := ⟨_, rfl⟩
  rw [← hY]
  have hll0 := hpo.1
  have hll : lv.length ≤ lp.length ∧ lp.length ≤ lv.length := ⟨by omega, by omega⟩
  clear hll0
  obtain ⟨g, sc, rfl⟩ : ∃ g c, sv = ⟨some ⟨g, 0, none⟩, lv.length, c⟩ := by
    obtain ⟨a, b, c⟩ := sv
    rcases hop.2 with ⟨_, e⟩ | ⟨g, cap, cur, e, _⟩
    · omega
    · simp only [Value.slice.injEq] at e
      obtain ⟨rfl, rfl, rfl⟩ := e
      exact ⟨g, _, rfl⟩
  have HA := fun (q : PairM) (x : PV) (id : Int) (sv : SV) (vs : List ValueM) (S : Nat → Prop) (k : Nat) w' (hx : Ext w w') (hSb : ∀ b, S b → b < w'.heap.size) (ht : TypeAt w' x.a q.a) (hm : Msg ws q.a) => around_any s1 s2 ws x.a x.b q.a x.src x.id id sv vs S k w' hSb (h1.ext hx) (hw.ext hx) n1 hgw ht hm
  have HA := hide HA
  have Hop := hide hop
  have Hpo := hide hpo
  have HRe := hide hRe
  have HW := hide hW
  have HY := hide hY
  have Hv0 := hide hv
  have h3a : w.heap.size + 3 ≤ W.heap.size := by omega
  clear hW hzW h1 hw n1 hgw hRe hop hpo hY hv
  go_enter Tryz.func44, Tryz.ntmps44
  go_wp2
  rw [← unhide HW]
  go_loopw [2] (fun iu wr => ∃ (i n k : Nat) (v : ValueM) (xi xl : SV), iu = .int .i64 i ∧ i < n ∧ i < lp.length ∧ Y = outwardM ws lp n i v ∧ wr.heap[w.heap.size]? = some (.cells #[.slice s1.a s1.len s1.cap, .slice s2.a s2.len s2.cap] 52 (0, 0)) ∧ wr.heap[w.heap.size + 1]? = some (.cells #[.int .i64 v.kind, .int .i64 v.n, .string v.s, .slice xi.a xi.len xi.cap, .slice xl.a xl.len xl.cap] 37 (0, 0)) ∧ wr.heap[w.heap.size + 1 + 1]? = some (.cells #[.int .i64 0, .int .i64 0, .string ⟨#[]⟩, .slice none 0 0, .slice none 0 0] 37 (0, 0)) ∧
      ValueAtP (fun b => (S b ∨ w.heap.size + 3 ≤ b) ∧ b < wr.heap.size) (k + 5) wr [.int .i64 v.kind, .int .i64 v.n, .string v.s, .slice xi.a xi.len xi.cap, .slice xl.a xl.len xl.cap] v ∧ Ext w wr ∧ w.heap.size + 3 ≤ wr.heap.size) (fun iu _ => (intOf iu).toNat)
  case atStart => exact ⟨i0, 17, Kh, v0, ids, l, rfl, by omega, hi0, unhide HY, r0, r1, r2, ((unhide Hv0).ext hxW).sub fun b hb => ⟨.inl hb, by have := hxW.size; have := hSw b hb; omega⟩, hxW, h3a⟩
  case round =>
    obtain ⟨i, n, k, v, xi, xl, rfl, hin, hil, hq, q0, q1, q2, hva, hE, h3⟩ := hrel
    have z0 := lt_of_heap q0
    have z1 := lt_of_heap q1
    have z2 := lt_of_heap q2
    by_cases hi : 0 < i
    · obtain ⟨p, hp⟩ : ∃ p, lp[i]? = some p := ⟨lp[i], by simp [hil]⟩
      obtain ⟨x, hx⟩ : ∃ x, lv[i]? = some x := ⟨lv[i]'(by omega), List.getElem?_eq_getElem _⟩
      obtain ⟨hsrc, _⟩ := (unhide HRe).led i p hp hi
      obtain ⟨q, hqq⟩ : ∃ q, lp[p.src]? = some q := ⟨lp[p.src]'(by omega), List.getElem?_eq_getElem _⟩
      obtain ⟨y, hy⟩ : ∃ y, lv[p.src]? = some y := ⟨lv[p.src]'(by omega), List.getElem?_eq_getElem _⟩
      have hOx := (unhide Hpo).2 i x p hx hp
      have hOy := (unhide Hpo).2 p.src y q hy hqq
      have hMy := ((unhide HRe).msg q (List.mem_of_getElem? hqq)).1
      obtain ⟨m, rfl⟩ : ∃ m, n = m + 1 := ⟨n - 1, by omega⟩
      have hq' := hq.trans (outward_step hi hp hqq)
      obtain ⟨_, _, _, _, _, _, _, _, _, _, e10, e11⟩ := range12 (hE.range (pair_range (unhide Hop) hx))
      obtain ⟨o0, o1, o2, o3, o4, o5, o6, o7, o8, o9, o10, o11⟩ := range12 (hE.range (pair_range (unhide Hop) hy))
      have hxs := hOx.src
      have hxd := hOx.id
      obtain ⟨⟨xn, xe, xf, xg, xit⟩, ⟨yn, ye, yf, yg, yit⟩, xsr, xid⟩ := x
      simp only at hxs hxd e10 e11
      subst hxs hxd
      have Hq := hide hq'
      have Hva := hide hva
      have HOy := hide hOy
      have HMy := hide hMy
      have hib : (i : Int) < (lv.length : Int) := by omega
      have hi0' : ¬ ((i : Int) < 0) := by omega
      have hsb : (p.src : Int) < (lv.length : Int) := by omega
      have hs0 : ¬ ((p.src : Int) < 0) := by omega
      clear hq hq' hva hOy hMy hOx hp hx hqq hy
      go_wp2_with fail
      refine wp_region_X (fun w' => Ext wr w') (fun _ => false) (by kernel_rfl) ?_
      obtain ⟨Wd, hWd⟩ : ∃ Wd, Wd = wr.drew := ⟨_, rfl⟩
      have fd : Ext wr Wd := by rw [hWd]; exact (Ext.refl wr).drew
      rw [← hWd]
      clear hWd
      refine wpAnyX_take (i := 0) (v := .slice (some ⟨g, 0, none⟩) lv.length sc) rfl (by kernel_rfl) (by kernel_rfl) (fun _ _ _ h => h) (.inl ⟨rfl, fun w' hS => by simp [execOp, go_sem]⟩) (fd) ?_
      simp only [Act.put, List.getElem_toArray, List.getElem_cons_zero, List.getElem_cons_succ, List.setIfInBounds_toArray, List.set_cons_succ, List.set_cons_zero]
      refine wpAnyX_take (i := 1) (v := .int .i64 i) rfl (by kernel_rfl) (by kernel_rfl) (fun _ _ _ h => h) (.inl ⟨rfl, fun w' hS => by simp [execOp, go_sem]⟩) (fd) ?_
      simp only [Act.put, List.getElem_toArray, List.getElem_cons_zero, List.getElem_cons_succ, List.setIfInBounds_toArray, List.set_cons_succ, List.set_cons_zero]
      refine wpAnyX_take (i := 2) (v := .pointer (some ⟨g, i * 12, none⟩)) rfl (by kernel_rfl) (by kernel_rfl) (fun _ _ _ h => h) (.inl ⟨rfl, fun w' hS => by simp [execOp, go_sem, hib, hi0']⟩) (fd) ?_
      simp only [Act.put, List.getElem_toArray, List.getElem_cons_zero, List.getElem_cons_succ, List.setIfInBounds_toArray, List.set_cons_succ, List.set_cons_zero]
      refine wpAnyX_take (i := 3) (v := .pointer (some ⟨g, i * 12 + 10, none⟩)) rfl (by kernel_rfl) (by kernel_rfl) (fun _ _ _ h => h) (.inl ⟨rfl, fun w' hS => by simp [execOp, go_sem]⟩) (fd) ?_
      simp only [Act.put, List.getElem_toArray, List.getElem_cons_zero, List.getElem_cons_succ, List.setIfInBounds_toArray, List.set_cons_succ, List.set_cons_zero]
      refine wpAnyX_take (i := 4) (v := .int .i64 p.src) rfl (by kernel_rfl) (by kernel_rfl) (fun _ _ _ h => h) (.inl ⟨rfl, fun w' hS => by simp [execOp, go_sem, hS.cell e10]⟩) (fd) ?_
      simp only [Act.put, List.getElem_toArray, List.getElem_cons_zero, List.getElem_cons_succ, List.setIfInBounds_toArray, List.set_cons_succ, List.set_cons_zero]
      refine wpAnyX_take (i := 5) (v := .slice (some ⟨g, 0, none⟩) lv.length sc) rfl (by kernel_rfl) (by kernel_rfl) (fun _ _ _ h => h) (.inl ⟨rfl, fun w' hS => by simp [execOp, go_sem]⟩) (fd) ?_
      simp only [Act.put, List.getElem_toArray, List.getElem_cons_zero, List.getElem_cons_succ, List.setIfInBounds_toArray, List.set_cons_succ, List.set_cons_zero]
      refine wpAnyX_take (i := 6) (v := .int .i64 i) rfl (by kernel_rfl) (by kernel_rfl) (fun _ _ _ h => h) (.inl ⟨rfl, fun w' hS => by simp [execOp, go_sem]⟩) (fd) ?_
      simp only [Act.put, List.getElem_toArray, List.getElem_cons_zero, List.getElem_cons_succ, List.setIfInBounds_toArray, List.set_cons_succ, List.set_cons_zero]
      refine wpAnyX_take (i := 7) (v := .pointer (some ⟨g, i * 12, none⟩)) rfl (by kernel_rfl) (by kernel_rfl) (fun _ _ _ h => h) (.inl ⟨rfl, fun w' hS => by simp [execOp, go_sem, hib, hi0']⟩) (fd) ?_
      simp only [Act.put, List.getElem_toArray, List.getElem_cons_zero, List.getElem_cons_succ, List.setIfInBounds_toArray, List.set_cons_succ, List.set_cons_zero]
      refine wpAnyX_take (i := 8) (v := .pointer (some ⟨g, i * 12 + 11, none⟩)) rfl (by kernel_rfl) (by kernel_rfl) (fun _ _ _ h => h) (.inl ⟨rfl, fun w' hS => by simp [execOp, go_sem]⟩) (fd) ?_
      simp only [Act.put, List.getElem_toArray, List.getElem_cons_zero, List.getElem_cons_succ, List.setIfInBounds_toArray, List.set_cons_succ, List.set_cons_zero]
      refine wpAnyX_take (i := 9) (v := .int .i64 p.id) rfl (by kernel_rfl) (by kernel_rfl) (fun _ _ _ h => h) (.inl ⟨rfl, fun w' hS => by simp [execOp, go_sem, hS.cell e11]⟩) (fd) ?_
      simp only [Act.put, List.getElem_toArray, List.getElem_cons_zero, List.getElem_cons_succ, List.setIfInBounds_toArray, List.set_cons_succ, List.set_cons_zero]
      refine wpAnyX_take (i := 10) (v := .int .i64 p.src) rfl (by kernel_rfl) (by kernel_rfl) (fun _ _ _ h => h) (.inl ⟨rfl, fun w' hS => by simp [execOp, go_sem]⟩) (fd) ?_
      simp only [Act.put, List.getElem_toArray, List.getElem_cons_zero, List.getElem_cons_succ, List.setIfInBounds_toArray, List.set_cons_succ, List.set_cons_zero]
      refine wpAnyX_take (i := 11) (v := .int .i64 p.id) rfl (by kernel_rfl) (by kernel_rfl) (fun _ _ _ h => h) (.inl ⟨rfl, fun w' hS => by simp [execOp, go_sem]⟩) (fd) ?_
      simp only [Act.put, List.getElem_toArray, List.getElem_cons_zero, List.getElem_cons_succ, List.setIfInBounds_toArray, List.set_cons_succ, List.set_cons_zero]
      refine wpAnyX_end [] [] rfl (by intro j i hj; simp at hj) (by kernel_rfl) (by intro i hi; simp at hi) fun K hK => ?_
      go_wp2
      refine hK.out _ _ ?_
      clear hK K
      go_wp2_with fail
      refine wp_region_X (fun w' => Ext wr w') (fun j => decide (9 ≤ j)) (by kernel_rfl) ?_
      obtain ⟨We, hWe⟩ : ∃ We, We = Wd.drew := ⟨_, rfl⟩
      have fe : Ext wr We := by rw [hWe]; exact fd.drew
      rw [← hWe]
      clear hWe
      obtain ⟨a0, a1, _⟩ := rowN2 q0
      obtain ⟨v0', v1, v2, v3, v4, _⟩ := rowN5 q1
      refine wpAnyX_take (i := 0) (v := .agg #[.slice s1.a s1.len s1.cap, .slice s2.a s2.len s2.cap]) rfl (by kernel_rfl) (by kernel_rfl) (fun _ _ _ h => h) (.inl ⟨rfl, fun w' hS => by simp [execOp, go_sem, hS.cell a0, hS.cell a1]⟩) (fe) ?_
      simp only [Act.put, List.getElem_toArray, List.getElem_cons_zero, List.getElem_cons_succ, List.setIfInBounds_toArray, List.set_cons_succ, List.set_cons_zero]
      refine wpAnyX_take (i := 1) (v := .slice (some ⟨g, 0, none⟩) lv.length sc) rfl (by kernel_rfl) (by kernel_rfl) (fun _ _ _ h => h) (.inl ⟨rfl, fun w' hS => by simp [execOp, go_sem]⟩) (fe) ?_
      simp only [Act.put, List.getElem_toArray, List.getElem_cons_zero, List.getElem_cons_succ, List.setIfInBounds_toArray, List.set_cons_succ, List.set_cons_zero]
      refine wpAnyX_take (i := 2) (v := .int .i64 p.src) rfl (by kernel_rfl) (by kernel_rfl) (fun _ _ _ h => h) (.inl ⟨rfl, fun w' hS => by simp [execOp, go_sem]⟩) (fe) ?_
      simp only [Act.put, List.getElem_toArray, List.getElem_cons_zero, List.getElem_cons_succ, List.setIfInBounds_toArray, List.set_cons_succ, List.set_cons_zero]
      refine wpAnyX_take (i := 3) (v := .pointer (some ⟨g, p.src * 12, none⟩)) rfl (by kernel_rfl) (by kernel_rfl) (fun _ _ _ h => h) (.inl ⟨rfl, fun w' hS => by simp [execOp, go_sem, hsb, hs0]⟩) (fe) ?_
      simp only [Act.put, List.getElem_toArray, List.getElem_cons_zero, List.getElem_cons_succ, List.setIfInBounds_toArray, List.set_cons_succ, List.set_cons_zero]
      refine wpAnyX_take (i := 4) (v := .agg #[.string y.a.name, .bool y.a.enum, .slice y.a.fields.a y.a.fields.len y.a.fields.cap, .slice y.a.gone.a y.a.gone.len y.a.gone.cap, .slice y.a.items.a y.a.items.len y.a.items.cap, .string y.b.name, .bool y.b.enum, .slice y.b.fields.a y.b.fields.len y.b.fields.cap, .slice y.b.gone.a y.b.gone.len y.b.gone.cap, .slice y.b.items.a y.b.items.len y.b.items.cap, .int .i64 y.src, .int .i64 y.id]) rfl (by kernel_rfl) (by kernel_rfl) (fun _ _ _ h => h) (.inl ⟨rfl, fun w' hS => by simp [execOp, go_sem, hS.cell o0, hS.cell o1, hS.cell o2, hS.cell o3, hS.cell o4, hS.cell o5, hS.cell o6, hS.cell o7, hS.cell o8, hS.cell o9, hS.cell o10, hS.cell o11]⟩) (fe) ?_
      simp only [Act.put, List.getElem_toArray, List.getElem_cons_zero, List.getElem_cons_succ, List.setIfInBounds_toArray, List.set_cons_succ, List.set_cons_zero]
      refine wpAnyX_take (i := 5) (v := .int .i64 p.id) rfl (by kernel_rfl) (by kernel_rfl) (fun _ _ _ h => h) (.inl ⟨rfl, fun w' hS => by simp [execOp, go_sem]⟩) (fe) ?_
      simp only [Act.put, List.getElem_toArray, List.getElem_cons_zero, List.getElem_cons_succ, List.setIfInBounds_toArray, List.set_cons_succ, List.set_cons_zero]
      refine wpAnyX_take (i := 6) (v := .agg #[.int .i64 v.kind, .int .i64 v.n, .string v.s, .slice xi.a xi.len xi.cap, .slice xl.a xl.len xl.cap]) rfl (by kernel_rfl) (by kernel_rfl) (fun _ _ _ h => h) (.inl ⟨rfl, fun w' hS => by simp [execOp, go_sem, hS.cell v0', hS.cell v1, hS.cell v2, hS.cell v3, hS.cell v4]⟩) (fe) ?_
      simp only [Act.put, List.getElem_toArray, List.getElem_cons_zero, List.getElem_cons_succ, List.setIfInBounds_toArray, List.set_cons_succ, List.set_cons_zero]
      refine wpAnyX_one (j := 7) rfl (by kernel_rfl) rfl fun K hK => ?_
      go_wp2
      obtain ⟨W5, hW5⟩ : ∃ W5, W5 = We.alloc (.cells #[.int .i64 v.kind, .int .i64 v.n, .string v.s, .slice xi.a xi.len xi.cap, .slice xl.a xl.len xl.cap] 37) := ⟨_, rfl⟩
      have x5 : Ext We W5 := by rw [hW5]; exact (Ext.refl We).alloc _
      have hz5 : We.heap.size + 1 ≤ W5.heap.size := by rw [hW5]; simp
      have r5' : W5.rangeAt We.heap.size 0 [.int .i64 v.kind, .int .i64 v.n, .string v.s, .slice xi.a xi.len xi.cap, .slice xl.a xl.len xl.cap] := by rw [hW5]; exact range_of_new5 _ _ _ _ _ _ _ rfl
      rw [← hW5]
      clear hW5
      have f5 := fe.trans x5
      have hs5 := f5.size
      refine hK.out _ _ (f5) ?_
      clear hK K
      have hA := unhide HA q y p.id ⟨some ⟨We.heap.size, 0, none⟩, 1, 1⟩ [v] (fun b => (S b ∨ w.heap.size + 3 ≤ b) ∧ b < wr.heap.size) k W5 (hE.trans f5) (fun b hb => by have := hb.2; omega) ((unhide HOy).a.ext (hE.trans f5)) (unhide HMy) (one_slice r5' ((unhide Hva).ext f5)) (fun ad ha => by cases ha; show We.heap.size < _; omega) (by simp)
      have HAc := hide hA
      clear hA
      refine wpAnyX_one (j := 8) rfl (by kernel_rfl) rfl fun K hK => ?_
      go_wp2_with fail
      refine (unhide HAc).mono ?_
      rintro e w6 ⟨yi, yl, rfl, hyv, x6⟩
      have f6 := f5.trans x6
      have q16 := f6.heap q1
      obtain ⟨W7, hW7, r7, hx7, hk7, hs7⟩ := setN5 q16 (.int .i64 2) (.int .i64 0) (.string ⟨#[]⟩) (.slice yi.a yi.len yi.cap) (.slice yl.a yl.len yl.cap)
      have f7 := hx7 w (hE.trans f6) (by omega)
      have hv7 : ValueAtP (fun b => (S b ∨ w.heap.size + 3 ≤ b) ∧ b < W7.heap.size) (k + 6) W7 [.int .i64 2, .int .i64 0, .string ⟨#[]⟩, .slice yi.a yi.len yi.cap, .slice yl.a yl.len yl.cap] (aroundM ws q.a p.id [v]) := by
        refine (hyv.keep fun b ob hb ho => ?_).sub fun b hb => ⟨?_, by rw [hs7]; exact hb.2⟩
        · have hb1 : b ≠ w.heap.size + 1 := by
            rcases hb.1 with h | h
            · rcases h.1 with h | h
              · have := hSw b h; omega
              · omega
            · omega
          rw [hk7 b hb1]; exact ho
        · rcases hb.1 with h | h
          · exact h.1
          · exact .inr (by omega)
      have q07 := (hk7 _ (show w.heap.size ≠ w.heap.size + 1 by omega)).trans (f6.heap q0)
      have q27 := (hk7 _ (show w.heap.size + 1 + 1 ≠ w.heap.size + 1 by omega)).trans (f6.heap q2)
      have hsz7 : w.heap.size + 3 ≤ W7.heap.size := by rw [hs7]; have := x6.size; omega
      obtain ⟨c0, c1, c2, c3, c4, cf⟩ := rowN5 q16
      have zc := lt_of_heap q16
      have HW7 := hide hW7
      have H7 := hide (And.intro r7 (And.intro f7 (And.intro hv7 (And.intro q07 (And.intro q27 hsz7)))))
      clear hW7 r7 hx7 hk7 hs7 f7 hv7 q07 q27 hsz7 hyv HAc
      go_wp2
      refine hK.out _ _ (f6) ?_
      clear hK K
      refine wpAnyX_end [9] [_] rfl (by intro j i hj; match j, hj with | 0, hj => cases hj; rfl) (by kernel_rfl) (by intro i hi; cases hi; rfl) fun K hK => ?_
      go_wp2
      rw [← unhide HW7]
      refine hK.out _ _ ?_
      clear hK K
      go_wp2
      obtain ⟨r7, f7, hv7, q07, q27, hsz7⟩ := unhide H7
      exact ⟨⟨p.src, m, k + 1, aroundM ws q.a p.id [v], yi, yl, rfl, by omega, by omega, unhide Hq, q07, r7, q27, hv7, f7, hsz7⟩, by simp [intOf]; omega⟩
    · have hi00 : i = 0 := by omega
      subst hi00
      rw [outward_zero] at hq
      obtain ⟨W6, hW6, r6, hx6, hk6, hs6⟩ := setN5 q2 (.int .i64 v.kind) (.int .i64 v.n) (.string v.s) (.slice xi.a xi.len xi.cap) (.slice xl.a xl.len xl.cap)
      have f6 := hx6 w hE (by omega)
      have hv6 : ValueAtP (fun b => (S b ∨ w.heap.size ≤ b) ∧ b < W6.heap.size) (k + 5) W6 [.int .i64 v.kind, .int .i64 v.n, .string v.s, .slice xi.a xi.len xi.cap, .slice xl.a xl.len xl.cap] v := (hva.keep fun b ob hb ho => by
        have hb1 : b ≠ w.heap.size + 1 + 1 := by
          rcases hb.1 with h | h
          · have := hSw b h; omega
          · omega
        rw [hk6 b hb1]; exact ho).sub fun b hb => ⟨hb.1.elim .inl fun h => .inr (by omega), by rw [hs6]; exact hb.2⟩
      obtain ⟨k0', k1', k2', k3', k4', _⟩ := rowN5 r6
      obtain ⟨t0, t1, t2, t3, t4, _⟩ := rowN5 q1
      obtain ⟨y0, y1, y2, y3, y4, _⟩ := rowN5 q2
      have HW6 := hide hW6
      have H6 := hide (And.intro hv6 f6)
      have Hq := hide hq
      clear hW6 hx6 hk6 hs6 f6 hv6 hva hq
      go_wp2
      rw [← unhide HW6]
      refine bodyPost_ret (v := .agg #[.int .i64 v.kind, .int .i64 v.n, .string v.s, .slice xi.a xi.len xi.cap, .slice xl.a xl.len xl.cap]) (by simp [results, Tryz.results44, go_sem, k0', k1', k2', k3', k4']) rfl ⟨xi, xl, k + 5, by rw [unhide Hq], by rw [unhide Hq]; exact (unhide H6).1, (unhide H6).2⟩
end Go.Proofs.YtnppgeiompimaaaGreatDoor

namespace Go.Proofs.YtnppgeiompimaaaGreatDoor
set_option linter.unusedSimpArgs false
set_option linter.unusedVariables false
open Go.RowKit

/-- What Witness answers. -/
def witA (ws rs : BookM) (name : ByteArray) : Option ValueM := if namedE ws rs name = 0 then witnessIn ws rs (reachM ws rs (firstP ws rs name)) (reachM ws rs (firstP ws rs name)) 0 else none
def witE (ws rs : BookM) (name : ByteArray) : Int := if namedE ws rs name ≠ 0 then namedE ws rs name else if (witA ws rs name).isSome then 0 else 3
theorem wit_step {ws rs : BookM} {l : List PairM} {j : Nat} {p : PairM} (hp : l[j]? = some p) : (pairFlaws ws rs p = [] → witnessIn ws rs l (l.drop j) j = witnessIn ws rs l (l.drop (j + 1)) (j + 1)) ∧ ∀ x m, pairFlaws ws rs p = x :: m → witnessIn ws rs l (l.drop j) j = some (outwardM ws l 17 j (aroundM ws p.a x.id (unreadM ws rs p x))) := by
  obtain ⟨hj, e⟩ := List.getElem?_eq_some_iff.1 hp
  have hd : l.drop j = p :: l.drop (j + 1) := by rw [← e]; exact List.drop_eq_getElem_cons hj
  rw [hd]
  constructor
  · intro h; rw [witnessIn, h]
  · intro x m h; rw [witnessIn, h]
theorem wit_end {ws rs : BookM} {l : List PairM} : witnessIn ws rs l (l.drop l.length) l.length = none := by rw [List.drop_length]; rfl
set_option maxHeartbeats 25600000 in
set_option maxRecDepth 10000 in
theorem witness_any (s1 s2 : SV) (ws rs : BookM) (name : ByteArray) (w : World) (h1 : BookAt w s1 ws) (h2 : BookAt w s2 rs) (hw : WordsAt w) (n1 : ws.Fits) (n2 : rs.Fits) :
    Calls Tryz.prog 21 #[.agg #[.slice s1.a s1.len s1.cap], .agg #[.slice s2.a s2.len s2.cap], .string name] w fun e w' => ∃ (ids l : SV) (K : Nat), e = .returned (.tuple #[.agg #[.int .i64 ((witA ws rs name).getD ValueM.zero).kind, .int .i64 ((witA ws rs name).getD ValueM.zero).n, .string ((witA ws rs name).getD ValueM.zero).s, .slice ids.a ids.len ids.cap, .slice l.a l.len l.cap], .int .i64 (witE ws rs name)]) ∧
      ValueAt K w' [.int .i64 ((witA ws rs name).getD ValueM.zero).kind, .int .i64 ((witA ws rs name).getD ValueM.zero).n, .string ((witA ws rs name).getD ValueM.zero).s, .slice ids.a ids.len ids.cap, .slice l.a l.len l.cap] ((witA ws rs name).getD ValueM.zero) ∧ Ext w w' := by
  obtain ⟨W, hW⟩ : ∃ W, W = (((w.alloc (.cells #[.slice s1.a s1.len s1.cap] 24)).alloc (.cells #[.slice s2.a s2.len s2.cap] 24)).alloc (.cells #[.int .i64 0, .int .i64 0, .string ⟨#[]⟩, .slice none 0 0, .slice none 0 0] 37)).alloc (.cells #[.slice s1.a s1.len s1.cap, .slice s2.a s2.len s2.cap] 52) := ⟨_, rfl⟩
  obtain ⟨hxW, hzW, r0, r1, r3, r4⟩ := heaps4c hW
  have HN := fun w' (hx : Ext w w') => pairNamed_any s1 s2 ws rs name w' (h1.ext hx) (h2.ext hx) (hw.ext hx) n1 n2
  have HOK := fun h => named_ok (ws := ws) (rs := rs) (name := name) h
  have HR := fun (pv : PV) w' (hx : Ext w w') (he : namedE ws rs name = 0) => reached_any s1 s2 ws rs pv (firstP ws rs name) w' (h1.ext hx) (h2.ext hx) (good_small (HOK he).1) (good_small (HOK he).2.1) (HOK he).1 (HOK he).2.1 (HOK he).2.2.1 (HOK he).2.2.2.1
  have HF := fun (he : namedE ws rs name = 0) (p : PairM) (tv uv : TV) w' (hx : Ext w w') => flaws_any s1 s2 ws rs p tv uv w' (h1.ext hx) (h2.ext hx) (good_small (HOK he).1) (good_small (HOK he).2.1) (items_good (HOK he).1) (items_good (HOK he).2.1)
  have HU := fun (he : namedE ws rs name = 0) (p : PairM) (tv uv : TV) (sr pid : Int) (x : FlawM) (f g : FieldM) w' (hx : Ext w w') => unread_any s1 s2 ws rs p tv uv sr pid x f g w' (h1.ext hx) (h2.ext hx) (hw.ext hx) n1 (HOK he).1 (HOK he).2.1
  have HA := fun (he : namedE ws rs name = 0) (tv uv : TV) (t : TypeM) (sr pid id : Int) (sv : SV) (vs : List ValueM) (S : Nat → Prop) w' (hx : Ext w w') (hSb : ∀ b, S b → b < w'.heap.size) (ht : TypeAt w' tv t) (hm : Msg ws t) => around_any s1 s2 ws tv uv t sr pid id sv vs S 0 w' hSb (h1.ext hx) (hw.ext hx) n1 (HOK he).1 ht hm
  have HRe : namedE ws rs name = 0 → Reach ws rs (firstP ws rs name) (reachM ws rs (firstP ws rs name)) := fun he => (reach_out (s := 0) (d := 0) (HOK he).1 (HOK he).2.1 (HOK he).2.2.1 (HOK he).2.2.2.1).1
  have HOu := fun (he : namedE ws rs name = 0) lp lv sv B T ob i0 v0 ids l (S : Nat → Prop) w' (hx : Ext w w') (hSw : ∀ b, S b → b < w'.heap.size) => outward_any s1 s2 ws rs (firstP ws rs name) lp lv sv B T ob i0 v0 ids l 1 S w' hSw (h1.ext hx) (hw.ext hx) n1 (HOK he).1
  have HgW : namedE ws rs name = 0 → goodM ws = 0 := fun he => (HOK he).1
  have HG : namedE ws rs name = 0 → (∀ t, Msg ws t → t.fields.length ≤ 5) ∧ ∀ t, Msg rs t → t.fields.length ≤ 5 := fun he => ⟨fun t ht => ht.len (HOK he).1, fun t ht => ht.len (HOK he).2.1⟩
  have HL : namedE ws rs name = 0 → (reachM ws rs (firstP ws rs name)).length ≤ 16 := fun he => (HRe he).len (HOK he).1 (HOK he).2.1
  have E1 : namedE ws rs name ≠ 0 → witE ws rs name = namedE ws rs name ∧ witA ws rs name = none := fun h => ⟨by unfold witE; rw [if_pos h], by unfold witA; rw [if_neg h]⟩
  have E2 : namedE ws rs name = 0 → witA ws rs name = witnessIn ws rs (reachM ws rs (firstP ws rs name)) (reachM ws rs (firstP ws rs name)) 0 := fun h => by unfold witA; rw [if_pos h]
  have E3 : namedE ws rs name = 0 → witE ws rs name = if (witA ws rs name).isSome then 0 else 3 := fun h => by unfold witE; rw [if_neg (by simp [h])]
  have Hfa : (firstP ws rs name).a = namedA ws rs name := rfl
  have Hfb : (firstP ws rs name).b = namedB ws rs name := rfl
  have Hfs : (firstP ws rs name).src = 0 := rfl
  have Hfi : (firstP ws rs name).id = 0 := rfl
  have Hww := fun (j : Nat) (p : PairM) (hp : (reachM ws rs (firstP ws rs name))[j]? = some p) => wit_step (ws := ws) (rs := rs) hp
  have Hwe := wit_end (ws := ws) (rs := rs) (l := reachM ws rs (firstP ws rs name))
  generalize witE ws rs name = WE at *
  generalize witA ws rs name = WA at *
  generalize firstP ws rs name = fp at *
  generalize reachM ws rs fp = lp at *
  generalize namedE ws rs name = nE at *
  have HN := hide HN
  have HR := hide HR
  have HF := hide HF
  have HU := hide HU
  have HA := hide HA
  have HRe := hide HRe
  have HOu := hide HOu
  have HG := hide HG
  have HgW := hide HgW
  have HL := hide HL
  have E1 := hide E1
  have E2 := hide E2
  have E3 := hide E3
  have Hfp := hide (And.intro Hfa (And.intro Hfb (And.intro Hfs Hfi)))
  have Hww := hide Hww
  have Hwe := hide Hwe
  have HW := hide hW
  have h4a : w.heap.size + 4 ≤ W.heap.size := by omega
  clear hW hzW h1 h2 hw n1 n2 HOK Hfa Hfb Hfs Hfi
  have fin : ∀ (V : World) (er : Int), Ext W V → WE = er → WA = none → ∃ V', V' = ((((V.setCell ⟨w.heap.size + 1 + 1, 0, none⟩ (.int .i64 0)).setCell ⟨w.heap.size + 1 + 1, 1, none⟩ (.int .i64 0)).setCell ⟨w.heap.size + 1 + 1, 2, none⟩ (.string ⟨#[]⟩)).setCell ⟨w.heap.size + 1 + 1, 3, none⟩ (.slice none 0 0)).setCell ⟨w.heap.size + 1 + 1, 4, none⟩ (.slice none 0 0) ∧ V'.heap[w.heap.size + 1 + 1]? = some (.cells #[.int .i64 0, .int .i64 0, .string ⟨#[]⟩, .slice none 0 0, .slice none 0 0] 37 (0, 0)) ∧
      ∀ V'', Ext V' V'' → ∃ (ids l : SV) (K : Nat), Ending.returned (.tuple #[.agg #[.int .i64 0, .int .i64 0, .string ⟨#[]⟩, .slice none 0 0, .slice none 0 0], .int .i64 er]) = Ending.returned (.tuple #[.agg #[.int .i64 (WA.getD ValueM.zero).kind, .int .i64 (WA.getD ValueM.zero).n, .string (WA.getD ValueM.zero).s, .slice ids.a ids.len ids.cap, .slice l.a l.len l.cap], .int .i64 WE]) ∧ ValueAt K V'' [.int .i64 (WA.getD ValueM.zero).kind, .int .i64 (WA.getD ValueM.zero).n, .string (WA.getD ValueM.zero).s, .slice ids.a ids.len ids.cap, .slice l.a l.len l.cap] (WA.getD ValueM.zero) ∧ Ext w V'' := fun V er hx e1 e2 => by
    obtain ⟨W6, hW6, r6, hx6, _, _⟩ := setN5 (hx.heap r3) (.int .i64 0) (.int .i64 0) (.string ⟨#[]⟩) (.slice none 0 0) (.slice none 0 0)
    exact ⟨W6, hW6, r6, fun V'' hx'' => ⟨⟨none, 0, 0⟩, ⟨none, 0, 0⟩, 1, by rw [e1, e2]; rfl, by rw [e2]; exact (zeroAt (fun _ => True) 0 V'').at_, (hx6 w (hxW.trans hx) (by omega)).trans hx''⟩⟩
  have Hfin := hide fin
  clear fin
  obtain ⟨a0, _⟩ := row1 r0
  obtain ⟨a1, _⟩ := row1 r1
  obtain ⟨b0, b1, _⟩ := rowN2 r4
  go_enter Tryz.func21, Tryz.ntmps21
  go_wp2_with fail
  rw [← unhide HW]
  refine (unhide HN W hxW).mono ?_
  rintro e w1 ⟨tv, uv, rfl, ht, hu, x1⟩
  have f1 := hxW.trans x1
  have hs1 := x1.size
  clear a0 a1 b0 b1
  by_cases hn : nE = 0
  · subst hn
    obtain ⟨W2, hW2⟩ : ∃ W2, W2 = w1.alloc (.cells #[.string tv.name, .bool tv.enum, .slice tv.fields.a tv.fields.len tv.fields.cap, .slice tv.gone.a tv.gone.len tv.gone.cap, .slice tv.items.a tv.items.len tv.items.cap, .string uv.name, .bool uv.enum, .slice uv.fields.a uv.fields.len uv.fields.cap, .slice uv.gone.a uv.gone.len uv.gone.cap, .slice uv.items.a uv.items.len uv.items.cap, .int .i64 0, .int .i64 0] 54) := ⟨_, rfl⟩
    have x2 : Ext w1 W2 := by rw [hW2]; exact (Ext.refl w1).alloc _
    have f2 := f1.trans x2
    have hHR := unhide HR ⟨tv, uv, 0, 0⟩ W2 f2 (by trivial) (by rw [(unhide Hfp).1]; exact ht.ext x2) (by rw [(unhide Hfp).2.1]; exact hu.ext x2) (by rw [(unhide Hfp).2.2.1]; rfl) (by rw [(unhide Hfp).2.2.2]) (fun t ht => by have := ((unhide HG) (by trivial)).1 t ht; omega) (fun t ht => by have := ((unhide HG) (by trivial)).2 t ht; omega)
    simp only [encP] at hHR
    have HHR := hide hHR
    have HW2 := hide hW2
    have z2 := lt_of_heap (x1.heap r4)
    obtain ⟨b2, b3, _⟩ := rowN2 (x1.heap r4)
    clear hHR hW2 HR HN ht hu
    go_wp2_with fail
    rw [← unhide HW2]
    refine (unhide HHR).mono ?_
    rintro e w3 ⟨sv, lv, B, T, ob, rfl, hop, hpo, x3⟩
    have f3 := f2.trans x3
    have hll0 := hpo.1
    have hll : lv.length ≤ lp.length ∧ lp.length ≤ lv.length := ⟨by omega, by omega⟩
    have hL := unhide HL (by trivial)
    have hRe := unhide HRe (by trivial)
    have hne : 0 < lv.length := by
      have := (List.getElem?_eq_some_iff.1 hRe.first).1
      omega
    obtain ⟨g, sc, rfl⟩ : ∃ g c, sv = ⟨some ⟨g, 0, none⟩, lv.length, c⟩ := by
      obtain ⟨a, b, c⟩ := sv
      rcases hop.2 with ⟨_, e⟩ | ⟨g, cap, cur, e, _⟩
      · omega
      · simp only [Value.slice.injEq] at e
        obtain ⟨rfl, rfl, rfl⟩ := e
        exact ⟨g, _, rfl⟩
    have Hop := hide hop
    have Hpo := hide hpo
    have HRe' := hide hRe
    have x13 := (x1.trans x2).trans x3
    have hs3 := x13.size
    have hE2 := unhide E2 (by trivial)
    have hE3 := unhide E3 (by trivial)
    have HE := hide (And.intro hE2 hE3)
    clear hop hpo hRe hll0 HHR b2 b3 E1 E2 E3 HRe HL hE2 hE3
    go_wp2
    go_loopw [34] (fun u wr => ∃ j : Nat, u = .int .i64 j ∧ j ≤ lv.length ∧ witnessIn ws rs lp lp 0 = witnessIn ws rs lp (lp.drop j) j ∧ Ext w3 wr) (fun u _ => lv.length - (intOf u).toNat)
    case atStart => exact ⟨0, rfl, by omega, by rw [List.drop_zero], Ext.refl _⟩
    case round =>
      obtain ⟨j, rfl, hj, hq, hE⟩ := hrel
      have x1r := x13.trans hE
      have q4 := x1r.heap r4
      have q3 := x1r.heap r3
      have zq4 := lt_of_heap q4
      have zq3 := lt_of_heap q3
      by_cases hlt : j < lv.length
      · obtain ⟨x, hx⟩ : ∃ x, lv[j]? = some x := ⟨lv[j], by simp [hlt]⟩
        obtain ⟨p, hp⟩ : ∃ p, lp[j]? = some p := ⟨lp[j]'(by omega), List.getElem?_eq_getElem (by omega)⟩
        have hOk := (unhide Hpo).2 j x p hx hp
        obtain ⟨hMa, hMb⟩ := (unhide HRe').msg p (List.mem_of_getElem? hp)
        obtain ⟨e0, e1, e2, e3, e4, e5, e6, e7, e8, e9, e10, e11⟩ := range12 (hE.range (pair_range (unhide Hop) hx))
        have hsrc := hOk.src
        have hidp := hOk.id
        have hxB : Ext wr (wr.alloc (.cells (encP x).toArray 54)) := (Ext.refl wr).alloc _
        have rB : (wr.alloc (.cells (encP x).toArray 54)).heap[wr.heap.size]? = some (.cells (encP x).toArray 54 (0, 0)) := heap_alloc_new wr _
        have hFl := unhide HF (by trivial) p x.a x.b (wr.alloc (.cells (encP x).toArray 54)) ((f3.trans hE).trans hxB) (hOk.a.ext (hE.trans hxB)) (hOk.b.ext (hE.trans hxB)) (by have := ((unhide HG) (by trivial)).1 _ hMa; omega) (by have := ((unhide HG) (by trivial)).2 _ hMb; omega)
        obtain ⟨hw1, hw2⟩ := unhide Hww j p hp
        have hHd := fun (x : FlawM) (m : List FlawM) => head_flaw (w := ws) (r := rs) (p := p) (x := x) (m := m)
        generalize pairFlaws ws rs p = PFl at *
        have hta := hOk.a.ext hE
        have htb := hOk.b.ext hE
        obtain ⟨⟨xn, xe, xf, xg, xi⟩, ⟨yn, ye, yf, yg, yi⟩, xs, xid⟩ := x
        simp only at hsrc hidp
        subst hsrc hidp
        simp only [encP] at hFl e0 e1 e2 e3 e4 e5 e6 e7 e8 e9 e10 e11 rB hxB
        have HFl := hide hFl
        have Hq := hide hq
        have Hw12 := hide (And.intro hw1 hw2)
        have HHd := hide hHd
        have Htt := hide (And.intro hta htb)
        have HMM := hide (And.intro hMa hMb)
        have Hp := hide hp
        obtain ⟨b2, b3, _⟩ := rowN2 q4
        have Hx := hide hx
        clear hFl hq hw1 hw2 hHd hta htb hMa hMb hp hx hOk
        go_wp2_with fail
        refine (unhide HFl).mono ?_
        rintro e w5 ⟨sm, rfl, hom, x5⟩
        have x5' : Ext wr w5 := hxB.trans x5
        have hml : sm.len = PFl.length := by
          rcases hom.2 with ⟨e, h0⟩ | ⟨g, cap, cur, e, _⟩
          · simp only [Value.slice.injEq] at e; omega
          · simp only [Value.slice.injEq] at e; exact e.2.1
        clear e0 e1 e2 e3 e4 e5 e6 e7 e8 e9 e10 e11 b2 b3 HFl
        cases PFl with
        | nil =>
          obtain ⟨ma, ml, mc⟩ := sm
          simp only [List.length_nil] at hml
          subst hml
          have hst := (unhide Hq).trans ((unhide Hw12).1 rfl)
          have Hst := hide hst
          clear hst hom
          go_wp2
          exact ⟨⟨j + 1, by go_num, by omega, unhide Hst, hE.trans x5'⟩, by simp [intOf]; omega⟩
        | cons fl m =>
          obtain ⟨gf, mc, rfl⟩ : ∃ gf c, sm = ⟨some ⟨gf, 0, none⟩, (fl :: m).length, c⟩ := by
            obtain ⟨a, b, c⟩ := sm
            rcases hom.2 with ⟨_, e⟩ | ⟨gf, cap, cur, e, _⟩
            · simp at e
            · simp only [Value.slice.injEq] at e
              obtain ⟨rfl, rfl, rfl⟩ := e
              exact ⟨gf, _, rfl⟩
          have c0 : w5.cell? ⟨gf, 0, none⟩ = some (.string fl.type) := cell_owns (j := 0) hom rfl
          have c1 : w5.cell? ⟨gf, 1, none⟩ = some (.int .i64 fl.id) := cell_owns (j := 1) hom rfl
          have c2 : w5.cell? ⟨gf, 2, none⟩ = some (.int .i64 fl.why) := cell_owns (j := 2) hom rfl
          obtain ⟨f, hfm, g', hg', hfid, hwy⟩ := unhide HHd fl m rfl
          have hfa : fieldM p.a fl.id = some f := by
            rw [hfid]; exact (unhide HMM).1.find (unhide HgW (by trivial)) hfm
          have hgb : fieldM p.b fl.id = some g' := by rw [hfid]; exact hg'
          have hz : witnessIn ws rs lp lp 0 = some (outwardM ws lp 17 j (aroundM ws p.a fl.id (unreadM ws rs p fl))) := (unhide Hq).trans ((unhide Hw12).2 fl m rfl)
          generalize hmn : (fl :: m).length = mn at *
          have hmp : (0 : Int) < (mn : Int) := by rw [← hmn]; simp only [List.length_cons]; omega
          have hmp2 : 0 < mn := by omega
          have Hz := hide hz
          have rB5 := x5.heap rB
          have q45 := x5'.heap q4
          obtain ⟨b2, b3, _⟩ := rowN2 q45
          obtain ⟨e0, e1, e2, e3, e4, e5, e6, e7, e8, e9, e10, e11, _⟩ := rowN12 rB5
          have hEw := (f3.trans hE).trans x5'
          have hUc := fun w' (hx : Ext w5 w') => unhide HU (by trivial) p ⟨xn, xe, xf, xg, xi⟩ ⟨yn, ye, yf, yg, yi⟩ p.src p.id fl f g' w' (hEw.trans hx) ((unhide Htt).1.ext (x5'.trans hx)) ((unhide Htt).2.ext (x5'.trans hx)) (unhide HMM).1 (unhide HMM).2 hfa hgb
          have HUc := hide hUc
          have hAc := fun (sv : SV) (S : Nat → Prop) w' (hx : Ext w5 w') (hSb : ∀ b, S b → b < w'.heap.size) => unhide HA (by trivial) ⟨xn, xe, xf, xg, xi⟩ ⟨yn, ye, yf, yg, yi⟩ p.a p.src p.id fl.id sv (unreadM ws rs p fl) S w' (hEw.trans hx) hSb ((unhide Htt).1.ext (x5'.trans hx)) (unhide HMM).1
          have hul : (unreadM ws rs p fl).length ≤ 1000 := by
            unfold unreadM
            split
            · simp
            · split <;> simp
          generalize unreadM ws rs p fl = UV at *
          have hAV : (aroundM ws p.a fl.id UV).kind = 2 ∧ (aroundM ws p.a fl.id UV).n = 0 ∧ (aroundM ws p.a fl.id UV).s = ⟨#[]⟩ := ⟨rfl, rfl, rfl⟩
          generalize aroundM ws p.a fl.id UV = AV at *
          have HAc := hide hAc
          have HAV := hide hAV
          have Hhul := hide hul
          clear hUc hAc hul hAV hz hom hmn hfa hgb hfid hwy hfm hg' HU HA HF
          have ze5 := lt_of_heap rB5
          have zb5 := lt_of_heap q45
          go_upto_region 11 with fail
          go_cut [15] (fun s15 wx => ∃ (gb : Nat) (ai al : SV), s15 = .pointer (some ⟨gb, 0, none⟩) ∧ wx.heap[gb]? = some (.cells #[.int .i64 2, .int .i64 0, .string ⟨#[]⟩, .slice ai.a ai.len ai.cap, .slice al.a al.len al.cap] 37 (0, 0)) ∧ ValueAtP (fun b => w5.heap.size ≤ b ∧ b < wx.heap.size) 6 wx [.int .i64 2, .int .i64 0, .string ⟨#[]⟩, .slice ai.a ai.len ai.cap, .slice al.a al.len al.cap] AV ∧ Ext w5 wx)
          case first =>
            rename_i J0 K0 hJ0 hK0
            refine wp_region_X (fun w' => Ext w5 w') (fun _ => false) (by kernel_rfl) ?_
            obtain ⟨We, hWe⟩ : ∃ We, We = w5.drew := ⟨_, rfl⟩
            have fe : Ext w5 We := by rw [hWe]; exact (Ext.refl w5).drew
            rw [← hWe]
            clear hWe
            refine wpAnyX_take (i := 0) (v := .agg #[.slice s1.a s1.len s1.cap, .slice s2.a s2.len s2.cap]) rfl (by kernel_rfl) (by kernel_rfl) (fun _ _ _ h => h) (.inl ⟨rfl, fun w' hS => by simp [execOp, go_sem, hS.cell b2, hS.cell b3]⟩) (fe) ?_
            simp only [Act.put, List.getElem_toArray, List.getElem_cons_zero, List.getElem_cons_succ, List.setIfInBounds_toArray, List.set_cons_succ, List.set_cons_zero]
            refine wpAnyX_take (i := 1) (v := .agg #[.string xn, .bool xe, .slice xf.a xf.len xf.cap, .slice xg.a xg.len xg.cap, .slice xi.a xi.len xi.cap, .string yn, .bool ye, .slice yf.a yf.len yf.cap, .slice yg.a yg.len yg.cap, .slice yi.a yi.len yi.cap, .int .i64 p.src, .int .i64 p.id]) rfl (by kernel_rfl) (by kernel_rfl) (fun _ _ _ h => h) (.inl ⟨rfl, fun w' hS => by simp [execOp, go_sem, hS.cell e0, hS.cell e1, hS.cell e2, hS.cell e3, hS.cell e4, hS.cell e5, hS.cell e6, hS.cell e7, hS.cell e8, hS.cell e9, hS.cell e10, hS.cell e11]⟩) (fe) ?_
            simp only [Act.put, List.getElem_toArray, List.getElem_cons_zero, List.getElem_cons_succ, List.setIfInBounds_toArray, List.set_cons_succ, List.set_cons_zero]
            refine wpAnyX_take (i := 2) (v := .slice (some ⟨gf, 0, none⟩) mn mc) rfl (by kernel_rfl) (by kernel_rfl) (fun _ _ _ h => h) (.inl ⟨rfl, fun w' hS => by simp [execOp, go_sem]⟩) (fe) ?_
            simp only [Act.put, List.getElem_toArray, List.getElem_cons_zero, List.getElem_cons_succ, List.setIfInBounds_toArray, List.set_cons_succ, List.set_cons_zero]
            refine wpAnyX_take (i := 3) (v := .pointer (some ⟨gf, 0, none⟩)) rfl (by kernel_rfl) (by kernel_rfl) (fun _ _ _ h => h) (.inl ⟨rfl, fun w' hS => by simp [execOp, go_sem, hmp, hmp2]⟩) (fe) ?_
            simp only [Act.put, List.getElem_toArray, List.getElem_cons_zero, List.getElem_cons_succ, List.setIfInBounds_toArray, List.set_cons_succ, List.set_cons_zero]
            refine wpAnyX_take (i := 4) (v := .pointer (some ⟨gf, 1, none⟩)) rfl (by kernel_rfl) (by kernel_rfl) (fun _ _ _ h => h) (.inl ⟨rfl, fun w' hS => by simp [execOp, go_sem]⟩) (fe) ?_
            simp only [Act.put, List.getElem_toArray, List.getElem_cons_zero, List.getElem_cons_succ, List.setIfInBounds_toArray, List.set_cons_succ, List.set_cons_zero]
            refine wpAnyX_take (i := 5) (v := .int .i64 fl.id) rfl (by kernel_rfl) (by kernel_rfl) (fun _ _ _ h => h) (.inl ⟨rfl, fun w' hS => by simp [execOp, go_sem, hS.cell c1]⟩) (fe) ?_
            simp only [Act.put, List.getElem_toArray, List.getElem_cons_zero, List.getElem_cons_succ, List.setIfInBounds_toArray, List.set_cons_succ, List.set_cons_zero]
            refine wpAnyX_take (i := 6) (v := .agg #[.slice s1.a s1.len s1.cap, .slice s2.a s2.len s2.cap]) rfl (by kernel_rfl) (by kernel_rfl) (fun _ _ _ h => h) (.inl ⟨rfl, fun w' hS => by simp [execOp, go_sem, hS.cell b2, hS.cell b3]⟩) (fe) ?_
            simp only [Act.put, List.getElem_toArray, List.getElem_cons_zero, List.getElem_cons_succ, List.setIfInBounds_toArray, List.set_cons_succ, List.set_cons_zero]
            refine wpAnyX_take (i := 7) (v := .agg #[.string xn, .bool xe, .slice xf.a xf.len xf.cap, .slice xg.a xg.len xg.cap, .slice xi.a xi.len xi.cap, .string yn, .bool ye, .slice yf.a yf.len yf.cap, .slice yg.a yg.len yg.cap, .slice yi.a yi.len yi.cap, .int .i64 p.src, .int .i64 p.id]) rfl (by kernel_rfl) (by kernel_rfl) (fun _ _ _ h => h) (.inl ⟨rfl, fun w' hS => by simp [execOp, go_sem, hS.cell e0, hS.cell e1, hS.cell e2, hS.cell e3, hS.cell e4, hS.cell e5, hS.cell e6, hS.cell e7, hS.cell e8, hS.cell e9, hS.cell e10, hS.cell e11]⟩) (fe) ?_
            simp only [Act.put, List.getElem_toArray, List.getElem_cons_zero, List.getElem_cons_succ, List.setIfInBounds_toArray, List.set_cons_succ, List.set_cons_zero]
            refine wpAnyX_take (i := 8) (v := .slice (some ⟨gf, 0, none⟩) mn mc) rfl (by kernel_rfl) (by kernel_rfl) (fun _ _ _ h => h) (.inl ⟨rfl, fun w' hS => by simp [execOp, go_sem]⟩) (fe) ?_
            simp only [Act.put, List.getElem_toArray, List.getElem_cons_zero, List.getElem_cons_succ, List.setIfInBounds_toArray, List.set_cons_succ, List.set_cons_zero]
            refine wpAnyX_take (i := 9) (v := .pointer (some ⟨gf, 0, none⟩)) rfl (by kernel_rfl) (by kernel_rfl) (fun _ _ _ h => h) (.inl ⟨rfl, fun w' hS => by simp [execOp, go_sem, hmp, hmp2]⟩) (fe) ?_
            simp only [Act.put, List.getElem_toArray, List.getElem_cons_zero, List.getElem_cons_succ, List.setIfInBounds_toArray, List.set_cons_succ, List.set_cons_zero]
            refine wpAnyX_take (i := 10) (v := .agg #[.string fl.type, .int .i64 fl.id, .int .i64 fl.why]) rfl (by kernel_rfl) (by kernel_rfl) (fun _ _ _ h => h) (.inl ⟨rfl, fun w' hS => by simp [execOp, go_sem, hS.cell c0, hS.cell c1, hS.cell c2]⟩) (fe) ?_
            simp only [Act.put, List.getElem_toArray, List.getElem_cons_zero, List.getElem_cons_succ, List.setIfInBounds_toArray, List.set_cons_succ, List.set_cons_zero]
            refine wpAnyX_two (i := 11) (j := 13) rfl rfl (by kernel_rfl) rfl rfl (fun K hK => ?_) (fun K hK => ?_)
            · go_wp2_with fail
              refine (unhide HUc We fe).mono ?_
              rintro e wa ⟨su, rfl, hsu, hsub, xa⟩
              have fa := fe.trans xa
              have Hsu := hide (And.intro hsu hsub)
              clear hsu hsub
              go_wp2
              refine hK.out _ _ (fa) ?_
              clear hK K
              refine wpAnyX_two (i := 12) (j := 13) rfl rfl (by kernel_rfl) rfl rfl (fun K hK => ?_) (fun K hK => ?_)
              · go_wp2_with fail
                refine (unhide HAc su (Btw We wa) wa fa (fun b hb => hb.2) (unhide Hsu).1 (unhide Hsu).2 (unhide Hhul)).mono ?_
                rintro e wb ⟨ai, al, rfl, hav, xb⟩
                have fb := fa.trans xb
                have Hav := hide hav
                clear hav
                go_wp2
                refine hK.out _ _ (fb) ?_
                clear hK K
                refine wpAnyX_one (j := 13) rfl (by kernel_rfl) rfl fun K hK => ?_
                go_wp2
                obtain ⟨Wl, hWl⟩ : ∃ Wl, Wl = wb.alloc (.cells #[.int .i64 0, .int .i64 0, .string ⟨#[]⟩, .slice none 0 0, .slice none 0 0] 37) := ⟨_, rfl⟩
                have xl : Ext wb Wl := by rw [hWl]; exact (Ext.refl wb).alloc _
                have rz : Wl.heap[wb.heap.size]? = some (.cells #[.int .i64 0, .int .i64 0, .string ⟨#[]⟩, .slice none 0 0, .slice none 0 0] 37 (0, 0)) := by rw [hWl]; exact heap_alloc_new wb _
                rw [← hWl]
                clear hWl
                have fl := fb.trans xl
                refine hK.out _ _ (fl) ?_
                clear hK K
                have hbs := xl.size
                have hfb := fb.size
                have hfe := fe.size
                have hax := xa.size
                have havl : ValueAtP (fun b => b ≠ wb.heap.size ∧ w5.heap.size ≤ b ∧ b < Wl.heap.size) 6 Wl [.int .i64 2, .int .i64 0, .string ⟨#[]⟩, .slice ai.a ai.len ai.cap, .slice al.a al.len al.cap] AV := ((unhide Hav).ext xl).sub fun b hb => ⟨by have := hb.2; omega, by rcases hb.1 with h | h; (have := h.1; omega); omega, by have := hb.2; omega⟩
                obtain ⟨W6, hW6, r6, hx6, hk6, hs6⟩ := setN5 rz (.int .i64 2) (.int .i64 0) (.string ⟨#[]⟩) (.slice ai.a ai.len ai.cap) (.slice al.a al.len al.cap)
                have f6 := hx6 w5 fl (by have := fe.size; omega)
                have hv6 : ValueAtP (fun b => w5.heap.size ≤ b ∧ b < W6.heap.size) 6 W6 [.int .i64 2, .int .i64 0, .string ⟨#[]⟩, .slice ai.a ai.len ai.cap, .slice al.a al.len al.cap] AV := by
                  refine (havl.keep fun b ob hb ho => ?_).sub fun b hb => ⟨hb.2.1, by rw [hs6]; exact hb.2.2⟩
                  rw [hk6 b hb.1]; exact ho
                obtain ⟨u0, u1, u2, u3, u4, uf⟩ := rowN5 rz
                have zz := lt_of_heap rz
                have HW6 := hide hW6
                have H6 := hide (And.intro r6 (And.intro hv6 f6))
                clear hW6 r6 hx6 hk6 hs6 f6 hv6 havl
                refine wpAnyX_one (j := 14) rfl (by kernel_rfl) rfl fun K hK => ?_
                go_wp2
                rw [← unhide HW6]
                refine hK.out _ _ ((unhide H6).2.2) ?_
                clear hK K
                refine wpAnyX_end [] [] rfl (by intro j i hj; simp at hj) (by kernel_rfl) (by intro i hi; simp at hi) fun K hK => ?_
                go_wp2
                refine hK.out _ _ ?_
                clear hK K
                first | refine Met.intro (hJ0 _ _ ?_) | refine hK0 _ _ (Met.intro (hJ0 _ _ ?_))
                (repeat apply Exists.intro)
                refine ⟨?rel, rfl⟩
                case rel => exact ⟨_, ai, al, rfl, (unhide H6).1, (unhide H6).2.1, (unhide H6).2.2⟩
              · go_wp2
                obtain ⟨Wl0, hWl⟩ : ∃ Wl, Wl = wa.alloc (.cells #[.int .i64 0, .int .i64 0, .string ⟨#[]⟩, .slice none 0 0, .slice none 0 0] 37) := ⟨_, rfl⟩
                have xl : Ext wa Wl0 := by rw [hWl]; exact (Ext.refl wa).alloc _
                have rz0 : Wl0.heap[wa.heap.size]? = some (.cells #[.int .i64 0, .int .i64 0, .string ⟨#[]⟩, .slice none 0 0, .slice none 0 0] 37 (0, 0)) := by rw [hWl]; exact heap_alloc_new wa _
                have hzl : wa.heap.size + 1 ≤ Wl0.heap.size := by rw [hWl]; simp
                rw [← hWl]
                clear hWl
                have fl0 := fa.trans xl
                refine hK.out _ _ (fl0) ?_
                clear hK K
                refine wpAnyX_one (j := 12) rfl (by kernel_rfl) rfl fun K hK => ?_
                go_wp2_with fail
                refine (unhide HAc su (Btw We wa) Wl0 fl0 (fun b hb => by have := hb.2; omega) (SliceAt.ext (unhide Hsu).1 xl fun cs x h => h.ext xl) (fun ad ha => by have := (unhide Hsu).2 ad ha; omega) (unhide Hhul)).mono ?_
                rintro e wb ⟨ai, al, rfl, hav, xb⟩
                have fl := fl0.trans xb
                have Hav := hide hav
                clear hav
                go_wp2
                refine hK.out _ _ (fl) ?_
                clear hK K
                have rz := xb.heap rz0
                have hfb := fa.size
                have hfe := fe.size
                have hax := xa.size
                have havl : ValueAtP (fun b => b ≠ wa.heap.size ∧ w5.heap.size ≤ b ∧ b < wb.heap.size) 6 wb [.int .i64 2, .int .i64 0, .string ⟨#[]⟩, .slice ai.a ai.len ai.cap, .slice al.a al.len al.cap] AV := (unhide Hav).sub fun b hb => ⟨by rcases hb.1 with h | h; (have := h.2; omega); omega, by rcases hb.1 with h | h; (have := h.1; omega); omega, hb.2⟩
                obtain ⟨W6, hW6, r6, hx6, hk6, hs6⟩ := setN5 rz (.int .i64 2) (.int .i64 0) (.string ⟨#[]⟩) (.slice ai.a ai.len ai.cap) (.slice al.a al.len al.cap)
                have f6 := hx6 w5 fl (by have := fe.size; omega)
                have hv6 : ValueAtP (fun b => w5.heap.size ≤ b ∧ b < W6.heap.size) 6 W6 [.int .i64 2, .int .i64 0, .string ⟨#[]⟩, .slice ai.a ai.len ai.cap, .slice al.a al.len al.cap] AV := by
                  refine (havl.keep fun b ob hb ho => ?_).sub fun b hb => ⟨hb.2.1, by rw [hs6]; exact hb.2.2⟩
                  rw [hk6 b hb.1]; exact ho
                obtain ⟨u0, u1, u2, u3, u4, uf⟩ := rowN5 rz
                have zz := lt_of_heap rz
                have HW6 := hide hW6
                have H6 := hide (And.intro r6 (And.intro hv6 f6))
                clear hW6 r6 hx6 hk6 hs6 f6 hv6 havl
                refine wpAnyX_one (j := 14) rfl (by kernel_rfl) rfl fun K hK => ?_
                go_wp2
                rw [← unhide HW6]
                refine hK.out _ _ ((unhide H6).2.2) ?_
                clear hK K
                refine wpAnyX_end [] [] rfl (by intro j i hj; simp at hj) (by kernel_rfl) (by intro i hi; simp at hi) fun K hK => ?_
                go_wp2
                refine hK.out _ _ ?_
                clear hK K
                first | refine Met.intro (hJ0 _ _ ?_) | refine hK0 _ _ (Met.intro (hJ0 _ _ ?_))
                (repeat apply Exists.intro)
                refine ⟨?rel, rfl⟩
                case rel => exact ⟨_, ai, al, rfl, (unhide H6).1, (unhide H6).2.1, (unhide H6).2.2⟩
            · go_wp2
              obtain ⟨Wl0, hWl⟩ : ∃ Wl, Wl = We.alloc (.cells #[.int .i64 0, .int .i64 0, .string ⟨#[]⟩, .slice none 0 0, .slice none 0 0] 37) := ⟨_, rfl⟩
              have xl : Ext We Wl0 := by rw [hWl]; exact (Ext.refl We).alloc _
              have rz0 : Wl0.heap[We.heap.size]? = some (.cells #[.int .i64 0, .int .i64 0, .string ⟨#[]⟩, .slice none 0 0, .slice none 0 0] 37 (0, 0)) := by rw [hWl]; exact heap_alloc_new We _
              have hzl : We.heap.size + 1 ≤ Wl0.heap.size := by rw [hWl]; simp
              rw [← hWl]
              clear hWl
              have fl0 := fe.trans xl
              refine hK.out _ _ (fl0) ?_
              clear hK K
              refine wpAnyX_one (j := 11) rfl (by kernel_rfl) rfl fun K hK => ?_
              go_wp2_with fail
              refine (unhide HUc Wl0 fl0).mono ?_
              rintro e wa ⟨su, rfl, hsu, hsub, xa⟩
              have fa := fl0.trans xa
              have Hsu := hide (And.intro hsu hsub)
              clear hsu hsub
              go_wp2
              refine hK.out _ _ (fa) ?_
              clear hK K
              refine wpAnyX_one (j := 12) rfl (by kernel_rfl) rfl fun K hK => ?_
              go_wp2_with fail
              refine (unhide HAc su (Btw Wl0 wa) wa fa (fun b hb => hb.2) (unhide Hsu).1 (unhide Hsu).2 (unhide Hhul)).mono ?_
              rintro e wb ⟨ai, al, rfl, hav, xb⟩
              have fl := fa.trans xb
              have Hav := hide hav
              clear hav
              go_wp2
              refine hK.out _ _ (fl) ?_
              clear hK K
              have rz := (xa.trans xb).heap rz0
              have hfb := fe.size
              have hax := xa.size
              have havl : ValueAtP (fun b => b ≠ We.heap.size ∧ w5.heap.size ≤ b ∧ b < wb.heap.size) 6 wb [.int .i64 2, .int .i64 0, .string ⟨#[]⟩, .slice ai.a ai.len ai.cap, .slice al.a al.len al.cap] AV := (unhide Hav).sub fun b hb => ⟨by rcases hb.1 with h | h; (have := h.1; omega); omega, by rcases hb.1 with h | h; (have := h.1; omega); omega, hb.2⟩
              obtain ⟨W6, hW6, r6, hx6, hk6, hs6⟩ := setN5 rz (.int .i64 2) (.int .i64 0) (.string ⟨#[]⟩) (.slice ai.a ai.len ai.cap) (.slice al.a al.len al.cap)
              have f6 := hx6 w5 fl (by have := fe.size; omega)
              have hv6 : ValueAtP (fun b => w5.heap.size ≤ b ∧ b < W6.heap.size) 6 W6 [.int .i64 2, .int .i64 0, .string ⟨#[]⟩, .slice ai.a ai.len ai.cap, .slice al.a al.len al.cap] AV := by
                refine (havl.keep fun b ob hb ho => ?_).sub fun b hb => ⟨hb.2.1, by rw [hs6]; exact hb.2.2⟩
                rw [hk6 b hb.1]; exact ho
              obtain ⟨u0, u1, u2, u3, u4, uf⟩ := rowN5 rz
              have zz := lt_of_heap rz
              have HW6 := hide hW6
              have H6 := hide (And.intro r6 (And.intro hv6 f6))
              clear hW6 r6 hx6 hk6 hs6 f6 hv6 havl
              refine wpAnyX_one (j := 14) rfl (by kernel_rfl) rfl fun K hK => ?_
              go_wp2
              rw [← unhide HW6]
              refine hK.out _ _ ((unhide H6).2.2) ?_
              clear hK K
              refine wpAnyX_end [] [] rfl (by intro j i hj; simp at hj) (by kernel_rfl) (by intro i hi; simp at hi) fun K hK => ?_
              go_wp2
              refine hK.out _ _ ?_
              clear hK K
              first | refine Met.intro (hJ0 _ _ ?_) | refine hK0 _ _ (Met.intro (hJ0 _ _ ?_))
              (repeat apply Exists.intro)
              refine ⟨?rel, rfl⟩
              case rel => exact ⟨_, ai, al, rfl, (unhide H6).1, (unhide H6).2.1, (unhide H6).2.2⟩
          case rest =>
            obtain ⟨gb, ai, al, rfl, hgb, hva, hxa⟩ := hcut
            have f9 := hEw.trans hxa
            have hO := unhide HOu (by trivial) lp lv ⟨some ⟨g, 0, none⟩, lv.length, sc⟩ B T ob j AV ai al (fun b => w5.heap.size ≤ b ∧ b < wc.heap.size) wc f9 (fun b hb => hb.2) (unhide HRe') (owns_ext (unhide Hop) ((hE.trans x5').trans hxa)) ((unhide Hpo).ext ((hE.trans x5').trans hxa)) (by omega) hL (by rw [(unhide HAV).1, (unhide HAV).2.1, (unhide HAV).2.2]; exact hva)
            rw [(unhide HAV).1, (unhide HAV).2.1, (unhide HAV).2.2] at hO
            have HO := hide hO
            have zgb := lt_of_heap hgb
            obtain ⟨t0, t1, t2, t3, t4, _⟩ := rowN5 hgb
            obtain ⟨b2, b3, _⟩ := rowN2 (hxa.heap q45)
            have zb9 := lt_of_heap (hxa.heap q45)
            clear hO e0 e1 e2 e3 e4 e5 e6 e7 e8 e9 e10 e11 c0 c1 c2 hva ze5 zb5 HUc HAc
            go_wp2_with fail
            refine (unhide HO).mono ?_
            rintro e w7 ⟨oi, ol, K7, rfl, hov, x7⟩
            have q37 := ((x5'.trans hxa).trans x7).heap q3
            have hOV := unhide Hz
            generalize outwardM ws lp 17 j AV = OV at *
            have hs5 := x5'.size
            have hxas := hxa.size
            obtain ⟨W8, hW8, r8, hx8, hk8, hs8⟩ := setN5 q37 (.int .i64 OV.kind) (.int .i64 OV.n) (.string OV.s) (.slice oi.a oi.len oi.cap) (.slice ol.a ol.len ol.cap)
            have f8 := hx8 w (f9.trans x7) (by omega)
            have hv8 : ValueAt K7 W8 [.int .i64 OV.kind, .int .i64 OV.n, .string OV.s, .slice oi.a oi.len oi.cap, .slice ol.a ol.len ol.cap] OV := (hov.keep fun b ob hb ho => by
              have hb1 : b ≠ w.heap.size + 1 + 1 := by
                rcases hb.1 with h | h
                · have := h.1; omega
                · omega
              rw [hk8 b hb1]; exact ho).at_
            obtain ⟨k0', k1', k2', k3', k4', _⟩ := rowN5 r8
            obtain ⟨y0, y1, y2, y3, y4, _⟩ := rowN5 q37
            have zq := lt_of_heap q37
            have hWA := (unhide HE).1.trans hOV
            have hWE : WE = 0 := by rw [(unhide HE).2, hWA]; rfl
            have HW8 := hide hW8
            have H8 := hide (And.intro hv8 (And.intro f8 (And.intro hWA hWE)))
            clear hW8 r8 hx8 hk8 hs8 hv8 f8 hWA hWE hov hOV t0 t1 t2 t3 t4 b2 b3 HO
            go_wp2
            rw [← unhide HW8]
            refine bodyPost_ret (v := .tuple #[.agg #[.int .i64 OV.kind, .int .i64 OV.n, .string OV.s, .slice oi.a oi.len oi.cap, .slice ol.a ol.len ol.cap], .int .i64 0]) (by simp [results, Tryz.results21, go_sem, k0', k1', k2', k3', k4']) rfl ⟨oi, ol, K7, ?_, ?_, (unhide H8).2.1⟩
            · rw [(unhide H8).2.2.1, (unhide H8).2.2.2]; rfl
            · rw [(unhide H8).2.2.1]; exact (unhide H8).1
      · have hje : j = lp.length := by omega
        have hjl : j = lv.length := by omega
        rw [hje, unhide Hwe] at hq
        have hWA := (unhide HE).1.trans hq
        have hWE : WE = 3 := by rw [(unhide HE).2, hWA]; rfl
        obtain ⟨V', hV', rV, hfin⟩ := unhide Hfin wr 3 x1r hWE hWA
        have HV' := hide hV'
        have Hf := hide hfin
        obtain ⟨k0', k1', k2', k3', k4', _⟩ := rowN5 rV
        obtain ⟨y0, y1, y2, y3, y4, _⟩ := rowN5 q3
        subst hjl
        clear hV' hfin hje hq hWA hWE HU HA HF
        go_wp2
        rw [← unhide HV']
        exact bodyPost_ret (v := .tuple #[.agg #[.int .i64 0, .int .i64 0, .string ⟨#[]⟩, .slice none 0 0, .slice none 0 0], .int .i64 3]) (by simp [results, Tryz.results21, go_sem, k0', k1', k2', k3', k4']) rfl (unhide Hf _ (Ext.refl _))
  · have hnb : (nE == 0) = false := by simpa using hn
    obtain ⟨V', hV', rV, hfin⟩ := unhide Hfin w1 nE x1 (unhide E1 hn).1 (unhide E1 hn).2
    have HV' := hide hV'
    have Hf := hide hfin
    obtain ⟨k0', k1', k2', k3', k4', _⟩ := rowN5 rV
    have zV := lt_of_heap rV
    obtain ⟨y0, y1, y2, y3, y4, _⟩ := rowN5 (x1.heap r3)
    have z3 := lt_of_heap (x1.heap r3)
    clear hV' hfin E1 E2 E3 HR HF HU HA HRe HOu HG HL HN hn ht hu
    go_wp2
    rw [← unhide HV']
    exact bodyPost_ret (v := .tuple #[.agg #[.int .i64 0, .int .i64 0, .string ⟨#[]⟩, .slice none 0 0, .slice none 0 0], .int .i64 nE]) (by simp [results, Tryz.results21, go_sem, k0', k1', k2', k3', k4', zV]) rfl (unhide Hf _ ((Ext.refl _).alloc _))
end Go.Proofs.YtnppgeiompimaaaGreatDoor

