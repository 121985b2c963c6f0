import Derived.Test.YtmdpdgldmedebaaGreatDoorM43
namespace Go.Proofs.YtmdpdgldmedebaaGreatDoor
set_option linter.unusedSimpArgs false
set_option linter.unusedVariables false
set_option linter.unusedSimpArgs false
set_option linter.unusedVariables false
open Go.RowKit

theorem small_zero (k : Nat) : SmallV (k + 1) ValueM.zero := ⟨by decide, by decide, by decide, fun x hx => by cases hx⟩
theorem small_leastF {ts : BookM} (hn : ts.Small) {k : Nat} {rec : TypeM → ValueM} (hr : ∀ t : TypeM, t.Small → SmallV (k + 1) (rec t)) (f : FieldM) : SmallV (k + 1) (leastF ts rec f) := by
  have leaf : ∀ (a b : Int), SmallV (k + 1) ⟨a, b, ⟨#[]⟩, [], []⟩ := fun a b => ⟨by show (0 : Nat) ≤ 1048576; decide, by show (0 : Nat) ≤ 1048576; decide, by show (0 : Nat) ≤ 1048576; decide, fun x hx => by cases hx⟩
  unfold leastF
  split
  · exact leaf _ _
  · split
    · exact hr _ (find_small hn f.type)
    · exact leaf _ _
theorem small_leastV {ts : BookM} (hn : ts.Small) : ∀ (k : Nat) (t : TypeM), t.Small → SmallV (k + 1) (leastV ts k t)
  | 0, _, _ => small_zero 0
  | k + 1, t, ht => by
    have hl : (onesL t.fields).length ≤ 1048576 := Nat.le_trans (List.length_filter_le _ _) ht.fields
    refine ⟨by show (0 : Nat) ≤ 1048576; decide, by show ((onesL t.fields).map _).length ≤ _; rw [List.length_map]; exact hl, by show ((onesL t.fields).map _).length ≤ _; rw [List.length_map]; exact hl, fun x hx => ?_⟩
    obtain ⟨f, _, rfl⟩ := List.mem_map.1 hx
    exact small_leastF hn (fun t ht => small_leastV hn k t ht) f
theorem small_leastA {ts : BookM} (hn : ts.Small) (name : ByteArray) : SmallV 5 (leastA ts name) := by
  unfold leastA
  split
  · rename_i h; exact small_leastV hn 4 _ (msg_small h).2
  · exact small_zero 4
theorem small_lofV {ts : BookM} (hn : ts.Small) (name : ByteArray) (id : Int) : SmallV 5 (lofV ts name id) := by
  unfold lofV
  split
  · exact small_leastF hn (fun t ht => small_leastV hn 4 t ht) _
  · exact small_zero 4

set_option maxHeartbeats 12800000 in
set_option maxRecDepth 20000 in
theorem valueTypes_calls (sb : SV) (ts : BookM) (hn : ts.Small) (name : ByteArray) (id : Int) (K : Nat) (v : ValueM) (ids l : SV) (w : World) (hb : BookAt w sb ts) (hw : WordsAt w) (hm : MaxAt w) (hsv : SmallV K v) (hc : cntM K v ≤ 1048576)
    (hv : ValueAt K w [.int .i64 v.kind, .int .i64 v.n, .string v.s, .slice ids.a ids.len ids.cap, .slice l.a l.len l.cap] v) :
    Calls Tryz.prog 3 #[.agg #[.slice sb.a sb.len sb.cap], .string name, .int .i64 id, .agg #[.int .i64 v.kind, .int .i64 v.n, .string v.s, .slice ids.a ids.len ids.cap, .slice l.a l.len l.cap]] w fun e w' => e = .returned (.bool true) ∧ Ext w w' := by
  obtain ⟨w0, hw0⟩ : ∃ w0, w0 = (w.alloc (.cells #[.slice sb.a sb.len sb.cap] 24)).alloc (.cells #[.int .i64 v.kind, .int .i64 v.n, .string v.s, .slice ids.a ids.len ids.cap, .slice l.a l.len l.cap] 28) := ⟨_, rfl⟩
  obtain ⟨hx0, hz, r0, r1⟩ := heaps2 hw0
  have HW0 := hide hw0
  have hb0 := hb.ext hx0
  have hv0 := hv.ext hx0
  have Hb := hide hb0
  have Hv := hide hv0
  have Hw := hide (hw.ext hx0)
  have Hm := hide (hm.ext hx0)
  have HC := hide (fun w2 (hx : Ext w0 w2) => copyBook_own sb ts hn w2 (hb0.ext hx))
  have HV := hide (fun w2 (hx : Ext w0 w2) => copyValue_any K v ids l w2 hsv (hv0.ext hx))
  have Hn := hide hn
  have Hsv := hide hsv
  have Hc := hide hc
  have bB : w0.cell? ⟨w.heap.size, 0, none⟩ = some (.slice sb.a sb.len sb.cap) := cell_of_row _ _ 0 _ _ _ r0
  obtain ⟨v0, v1, v2, v3, v4, _⟩ := row5 r1
  clear hw0 hb hv hw hm hb0 hv0 hn hsv hc hz
  go_enter Tryz.func3, Tryz.ntmps3
  go_upto_region 1 with fail
  rw [← unhide HW0]
  go_cut [9, 10] (fun s9 s10 wx => ∃ (g h : Nat) (sc ci cl : SV), s9 = .pointer (some ⟨g, 0, none⟩) ∧ s10 = .pointer (some ⟨h, 0, none⟩) ∧ Ext w0 wx ∧ wx.heap[g]? = some (.cells #[.slice sc.a sc.len sc.cap] 24 (0, 0)) ∧ wx.heap[h]? = some (.cells #[.int .i64 v.kind, .int .i64 v.n, .string v.s, .slice ci.a ci.len ci.cap, .slice cl.a cl.len cl.cap] 28 (0, 0)) ∧ BookAt wx sc ts ∧ ValueAt K wx [.int .i64 v.kind, .int .i64 v.n, .string v.s, .slice ci.a ci.len ci.cap, .slice cl.a cl.len cl.cap] v)
  case first =>
    rename_i J0 K0 hJ0 hK0
    refine wp_region_X (fun w' => Ext w0 w') (fun _ => false) (by kernel_rfl) ?_
    obtain ⟨Wd, hWd⟩ : ∃ Wd, Wd = w0.drew := ⟨_, rfl⟩
    have hS0 : Ext w0 Wd := by rw [hWd]; exact (Ext.refl w0).drew
    rw [← hWd]
    clear hWd
    refine wpAnyX_take (i := 0) (v := .agg #[.slice sb.a sb.len sb.cap]) rfl (by kernel_rfl) (by kernel_rfl) (fun _ _ _ h => h) (.inl ⟨rfl, fun w' hS => by simp [execOp, go_sem, hS.cell bB]⟩) (hS0) ?_
    simp only [Act.put, List.getElem_toArray, List.getElem_cons_zero, List.getElem_cons_succ, List.setIfInBounds_toArray, List.set_cons_succ, List.set_cons_zero]
    refine wpAnyX_take (i := 2) (v := .agg #[.int .i64 v.kind, .int .i64 v.n, .string v.s, .slice ids.a ids.len ids.cap, .slice l.a l.len l.cap]) rfl (by kernel_rfl) (by kernel_rfl) (fun _ _ _ h => h) (.inl ⟨rfl, fun w' hS => by simp [execOp, go_sem, hS.cell v0, hS.cell v1, hS.cell v2, hS.cell v3, hS.cell v4]⟩) (hS0) ?_
    simp only [Act.put, List.getElem_toArray, List.getElem_cons_zero, List.getElem_cons_succ, List.setIfInBounds_toArray, List.set_cons_succ, List.set_cons_zero]
    refine wpAnyX_three (i := 1) (j := 4) (k := 5) rfl rfl rfl (by kernel_rfl) rfl rfl rfl (fun K hK => ?_) (fun K hK => ?_) (fun K hK => ?_)
    · go_wp2_with fail
      refine (unhide HC Wd hS0).mono ?_
      rintro e W1 ⟨sc, tvs, rfl, hbk, x1⟩
      have f1 := (hS0).trans x1
      have HBI := hide hbk.bookIn
      have s1 : Wd.heap.size ≤ W1.heap.size := x1.size
      clear hbk
      go_wp2
      refine hK.out _ _ (f1) ?_
      clear hK K
      refine wpAnyX_three (i := 3) (j := 4) (k := 5) rfl rfl rfl (by kernel_rfl) rfl rfl rfl (fun K hK => ?_) (fun K hK => ?_) (fun K hK => ?_)
      · go_wp2_with fail
        refine (unhide HV W1 (f1)).mono ?_
        rintro e W2 ⟨ci, cl, rfl, hcv, x2⟩
        have f2 := (f1).trans x2
        have HCV := hide hcv
        have s2 : W1.heap.size ≤ W2.heap.size := x2.size
        clear hcv
        go_wp2
        refine hK.out _ _ (f2) ?_
        clear hK K
        refine wpAnyX_two (i := 4) (j := 5) rfl rfl (by kernel_rfl) rfl rfl (fun K hK => ?_) (fun K hK => ?_)
        · go_wp2
          refine hK.out _ _ ((f2).alloc _) ?_
          clear hK K
          obtain ⟨W3, hW3⟩ : ∃ X, X = W2.alloc (.cells #[.slice none 0 0] 24) := ⟨_, rfl⟩
          have f3 : Ext w0 W3 := by rw [hW3]; exact (f2).alloc _
          have x3 : Ext W2 W3 := by rw [hW3]; exact (Ext.refl W2).alloc _
          have r4 : W3.heap[W2.heap.size]? = some (.cells #[.slice none 0 0] 24 (0, 0)) := by rw [hW3]; exact heap_alloc_new _ _
          have s3 : W2.heap.size + 1 ≤ W3.heap.size := by rw [hW3]; simp
          have b4 : w0.heap.size ≤ W2.heap.size := (f2).size
          rw [← hW3]
          clear hW3
          refine wpAnyX_one (j := 5) rfl (by kernel_rfl) rfl fun K hK => ?_
          go_wp2
          refine hK.out _ _ ((f3).alloc _) ?_
          clear hK K
          obtain ⟨W4, hW4⟩ : ∃ X, X = W3.alloc (.cells #[.int .i64 0, .int .i64 0, .string ⟨#[]⟩, .slice none 0 0, .slice none 0 0] 28) := ⟨_, rfl⟩
          have f4 : Ext w0 W4 := by rw [hW4]; exact (f3).alloc _
          have x4 : Ext W3 W4 := by rw [hW4]; exact (Ext.refl W3).alloc _
          have r5 : W4.heap[W3.heap.size]? = some (.cells #[.int .i64 0, .int .i64 0, .string ⟨#[]⟩, .slice none 0 0, .slice none 0 0] 28 (0, 0)) := by rw [hW4]; exact heap_alloc_new _ _
          have s4 : W3.heap.size + 1 ≤ W4.heap.size := by rw [hW4]; simp
          have b5 : w0.heap.size ≤ W3.heap.size := (f3).size
          rw [← hW4]
          clear hW4
          have q4 := ((Ext.refl W3).trans x4).heap r4
          have q5 := (Ext.refl W4).heap r5
          have z4 := lt_of_heap q4
          have z5 := lt_of_heap q5
          have xC : Ext W1 W4 := (((Ext.refl W1).trans x2).trans x3).trans x4
          have xV : Ext W2 W4 := ((Ext.refl W2).trans x3).trans x4
          obtain ⟨n0, nf⟩ := row1 q4
          obtain ⟨WA, hWA⟩ : ∃ X, X = W4.setCell ⟨W2.heap.size, 0, none⟩ (.slice sc.a sc.len sc.cap) := ⟨_, rfl⟩
          have fA : Ext w0 WA := by rw [hWA]; exact (f4).setCell b4 _
          have p4 : WA.heap[W2.heap.size]? = some (.cells #[.slice sc.a sc.len sc.cap] 24 (0, 0)) := by
            rw [hWA]
            have := heap_setCell_same W4 (W2.heap.size) 0 _ 24 (.slice sc.a sc.len sc.cap) q4
            simpa using this
          have oA : ∀ b, b ≠ W2.heap.size → WA.heap[b]? = W4.heap[b]? := fun b hb => by rw [hWA, heap_setCell_other _ _ _ _ hb]
          have p5 := (oA (W3.heap.size) (by omega)).trans q5
          have HWA := hide hWA
          clear hWA
          refine wpAnyX_one (j := 6) rfl (by kernel_rfl) rfl fun K hK => ?_
          go_wp2
          rw [← unhide HWA]
          refine hK.out _ _ (fA) ?_
          clear hK K
          clear n0 nf
          obtain ⟨WB, hWB, t5, hx5, oB, _⟩ := setN5 p5 (.int .i64 v.kind) (.int .i64 v.n) (.string v.s) (.slice ci.a ci.len ci.cap) (.slice cl.a cl.len cl.cap)
          have fB := hx5 w0 fA b5
          have t4 := (oB (W2.heap.size) (by omega)).trans p4
          obtain ⟨u0, u1, u2, u3, u4, uf⟩ := rowN5 p5
          have y5 := lt_of_heap p5
          have HWB := hide hWB
          clear hWB hx5
          refine wpAnyX_one (j := 7) rfl (by kernel_rfl) rfl fun K hK => ?_
          go_wp2
          rw [← unhide HWB]
          refine hK.out _ _ (fB) ?_
          clear hK K
          refine wpAnyX_end [] [] rfl (by intro j i hj; simp at hj) (by kernel_rfl) (by intro i hi; simp at hi) fun K hK => ?_
          go_wp2
          refine hK.out _ _ ?_
          clear hK K
          first | refine Met.intro (hJ0 _ _ ?_) | refine hK0 _ _ (Met.intro (hJ0 _ _ ?_))
          (repeat apply Exists.intro)
          refine ⟨?rel, rfl⟩
          case rel =>
            refine ⟨W2.heap.size, W3.heap.size, sc, ci, cl, rfl, rfl, fB, t4, t5, ?_, ?_⟩
            · refine ((unhide HBI).keep fun b hb => ?_).at_
              have h1 := hb.1
              have h2 := hb.2
              rw [oB b (by omega), oA b (by omega)]
              exact ext_block xC h2
            · refine ((unhide HCV).keep fun b ob hb hob => ?_).at_
              have h1 := hb.1
              have h2 := hb.2
              rw [oB b (by omega), oA b (by omega)]
              exact (ext_block xV h2).trans hob
        · go_wp2
          refine hK.out _ _ ((f2).alloc _) ?_
          clear hK K
          obtain ⟨W5, hW5⟩ : ∃ X, X = W2.alloc (.cells #[.int .i64 0, .int .i64 0, .string ⟨#[]⟩, .slice none 0 0, .slice none 0 0] 28) := ⟨_, rfl⟩
          have f5 : Ext w0 W5 := by rw [hW5]; exact (f2).alloc _
          have x5 : Ext W2 W5 := by rw [hW5]; exact (Ext.refl W2).alloc _
          have r5 : W5.heap[W2.heap.size]? = some (.cells #[.int .i64 0, .int .i64 0, .string ⟨#[]⟩, .slice none 0 0, .slice none 0 0] 28 (0, 0)) := by rw [hW5]; exact heap_alloc_new _ _
          have s5 : W2.heap.size + 1 ≤ W5.heap.size := by rw [hW5]; simp
          have b5 : w0.heap.size ≤ W2.heap.size := (f2).size
          rw [← hW5]
          clear hW5
          refine wpAnyX_one (j := 4) rfl (by kernel_rfl) rfl fun K hK => ?_
          go_wp2
          refine hK.out _ _ ((f5).alloc _) ?_
          clear hK K
          obtain ⟨W6, hW6⟩ : ∃ X, X = W5.alloc (.cells #[.slice none 0 0] 24) := ⟨_, rfl⟩
          have f6 : Ext w0 W6 := by rw [hW6]; exact (f5).alloc _
          have x6 : Ext W5 W6 := by rw [hW6]; exact (Ext.refl W5).alloc _
          have r4 : W6.heap[W5.heap.size]? = some (.cells #[.slice none 0 0] 24 (0, 0)) := by rw [hW6]; exact heap_alloc_new _ _
          have s6 : W5.heap.size + 1 ≤ W6.heap.size := by rw [hW6]; simp
          have b4 : w0.heap.size ≤ W5.heap.size := (f5).size
          rw [← hW6]
          clear hW6
          have q4 := (Ext.refl W6).heap r4
          have q5 := ((Ext.refl W5).trans x6).heap r5
          have z4 := lt_of_heap q4
          have z5 := lt_of_heap q5
          have xC : Ext W1 W6 := (((Ext.refl W1).trans x2).trans x5).trans x6
          have xV : Ext W2 W6 := ((Ext.refl W2).trans x5).trans x6
          obtain ⟨n0, nf⟩ := row1 q4
          obtain ⟨WA, hWA⟩ : ∃ X, X = W6.setCell ⟨W5.heap.size, 0, none⟩ (.slice sc.a sc.len sc.cap) := ⟨_, rfl⟩
          have fA : Ext w0 WA := by rw [hWA]; exact (f6).setCell b4 _
          have p4 : WA.heap[W5.heap.size]? = some (.cells #[.slice sc.a sc.len sc.cap] 24 (0, 0)) := by
            rw [hWA]
            have := heap_setCell_same W6 (W5.heap.size) 0 _ 24 (.slice sc.a sc.len sc.cap) q4
            simpa using this
          have oA : ∀ b, b ≠ W5.heap.size → WA.heap[b]? = W6.heap[b]? := fun b hb => by rw [hWA, heap_setCell_other _ _ _ _ hb]
          have p5 := (oA (W2.heap.size) (by omega)).trans q5
          have HWA := hide hWA
          clear hWA
          refine wpAnyX_one (j := 6) rfl (by kernel_rfl) rfl fun K hK => ?_
          go_wp2
          rw [← unhide HWA]
          refine hK.out _ _ (fA) ?_
          clear hK K
          clear n0 nf
          obtain ⟨WB, hWB, t5, hx5, oB, _⟩ := setN5 p5 (.int .i64 v.kind) (.int .i64 v.n) (.string v.s) (.slice ci.a ci.len ci.cap) (.slice cl.a cl.len cl.cap)
          have fB := hx5 w0 fA b5
          have t4 := (oB (W5.heap.size) (by omega)).trans p4
          obtain ⟨u0, u1, u2, u3, u4, uf⟩ := rowN5 p5
          have y5 := lt_of_heap p5
          have HWB := hide hWB
          clear hWB hx5
          refine wpAnyX_one (j := 7) rfl (by kernel_rfl) rfl fun K hK => ?_
          go_wp2
          rw [← unhide HWB]
          refine hK.out _ _ (fB) ?_
          clear hK K
          refine wpAnyX_end [] [] rfl (by intro j i hj; simp at hj) (by kernel_rfl) (by intro i hi; simp at hi) fun K hK => ?_
          go_wp2
          refine hK.out _ _ ?_
          clear hK K
          first | refine Met.intro (hJ0 _ _ ?_) | refine hK0 _ _ (Met.intro (hJ0 _ _ ?_))
          (repeat apply Exists.intro)
          refine ⟨?rel, rfl⟩
          case rel =>
            refine ⟨W5.heap.size, W2.heap.size, sc, ci, cl, rfl, rfl, fB, t4, t5, ?_, ?_⟩
            · refine ((unhide HBI).keep fun b hb => ?_).at_
              have h1 := hb.1
              have h2 := hb.2
              rw [oB b (by omega), oA b (by omega)]
              exact ext_block xC h2
            · refine ((unhide HCV).keep fun b ob hb hob => ?_).at_
              have h1 := hb.1
              have h2 := hb.2
              rw [oB b (by omega), oA b (by omega)]
              exact (ext_block xV h2).trans hob
      · go_wp2
        refine hK.out _ _ ((f1).alloc _) ?_
        clear hK K
        obtain ⟨W7, hW7⟩ : ∃ X, X = W1.alloc (.cells #[.slice none 0 0] 24) := ⟨_, rfl⟩
        have f7 : Ext w0 W7 := by rw [hW7]; exact (f1).alloc _
        have x7 : Ext W1 W7 := by rw [hW7]; exact (Ext.refl W1).alloc _
        have r4 : W7.heap[W1.heap.size]? = some (.cells #[.slice none 0 0] 24 (0, 0)) := by rw [hW7]; exact heap_alloc_new _ _
        have s7 : W1.heap.size + 1 ≤ W7.heap.size := by rw [hW7]; simp
        have b4 : w0.heap.size ≤ W1.heap.size := (f1).size
        rw [← hW7]
        clear hW7
        refine wpAnyX_two (i := 3) (j := 5) rfl rfl (by kernel_rfl) rfl rfl (fun K hK => ?_) (fun K hK => ?_)
        · go_wp2_with fail
          refine (unhide HV W7 (f7)).mono ?_
          rintro e W8 ⟨ci, cl, rfl, hcv, x8⟩
          have f8 := (f7).trans x8
          have HCV := hide hcv
          have s8 : W7.heap.size ≤ W8.heap.size := x8.size
          clear hcv
          go_wp2
          refine hK.out _ _ (f8) ?_
          clear hK K
          refine wpAnyX_one (j := 5) rfl (by kernel_rfl) rfl fun K hK => ?_
          go_wp2
          refine hK.out _ _ ((f8).alloc _) ?_
          clear hK K
          obtain ⟨W9, hW9⟩ : ∃ X, X = W8.alloc (.cells #[.int .i64 0, .int .i64 0, .string ⟨#[]⟩, .slice none 0 0, .slice none 0 0] 28) := ⟨_, rfl⟩
          have f9 : Ext w0 W9 := by rw [hW9]; exact (f8).alloc _
          have x9 : Ext W8 W9 := by rw [hW9]; exact (Ext.refl W8).alloc _
          have r5 : W9.heap[W8.heap.size]? = some (.cells #[.int .i64 0, .int .i64 0, .string ⟨#[]⟩, .slice none 0 0, .slice none 0 0] 28 (0, 0)) := by rw [hW9]; exact heap_alloc_new _ _
          have s9 : W8.heap.size + 1 ≤ W9.heap.size := by rw [hW9]; simp
          have b5 : w0.heap.size ≤ W8.heap.size := (f8).size
          rw [← hW9]
          clear hW9
          have q4 := (((Ext.refl W7).trans x8).trans x9).heap r4
          have q5 := (Ext.refl W9).heap r5
          have z4 := lt_of_heap q4
          have z5 := lt_of_heap q5
          have xC : Ext W1 W9 := (((Ext.refl W1).trans x7).trans x8).trans x9
          have xV : Ext W8 W9 := (Ext.refl W8).trans x9
          obtain ⟨n0, nf⟩ := row1 q4
          obtain ⟨WA, hWA⟩ : ∃ X, X = W9.setCell ⟨W1.heap.size, 0, none⟩ (.slice sc.a sc.len sc.cap) := ⟨_, rfl⟩
          have fA : Ext w0 WA := by rw [hWA]; exact (f9).setCell b4 _
          have p4 : WA.heap[W1.heap.size]? = some (.cells #[.slice sc.a sc.len sc.cap] 24 (0, 0)) := by
            rw [hWA]
            have := heap_setCell_same W9 (W1.heap.size) 0 _ 24 (.slice sc.a sc.len sc.cap) q4
            simpa using this
          have oA : ∀ b, b ≠ W1.heap.size → WA.heap[b]? = W9.heap[b]? := fun b hb => by rw [hWA, heap_setCell_other _ _ _ _ hb]
          have p5 := (oA (W8.heap.size) (by omega)).trans q5
          have HWA := hide hWA
          clear hWA
          refine wpAnyX_one (j := 6) rfl (by kernel_rfl) rfl fun K hK => ?_
          go_wp2
          rw [← unhide HWA]
          refine hK.out _ _ (fA) ?_
          clear hK K
          clear n0 nf
          obtain ⟨WB, hWB, t5, hx5, oB, _⟩ := setN5 p5 (.int .i64 v.kind) (.int .i64 v.n) (.string v.s) (.slice ci.a ci.len ci.cap) (.slice cl.a cl.len cl.cap)
          have fB := hx5 w0 fA b5
          have t4 := (oB (W1.heap.size) (by omega)).trans p4
          obtain ⟨u0, u1, u2, u3, u4, uf⟩ := rowN5 p5
          have y5 := lt_of_heap p5
          have HWB := hide hWB
          clear hWB hx5
          refine wpAnyX_one (j := 7) rfl (by kernel_rfl) rfl fun K hK => ?_
          go_wp2
          rw [← unhide HWB]
          refine hK.out _ _ (fB) ?_
          clear hK K
          refine wpAnyX_end [] [] rfl (by intro j i hj; simp at hj) (by kernel_rfl) (by intro i hi; simp at hi) fun K hK => ?_
          go_wp2
          refine hK.out _ _ ?_
          clear hK K
          first | refine Met.intro (hJ0 _ _ ?_) | refine hK0 _ _ (Met.intro (hJ0 _ _ ?_))
          (repeat apply Exists.intro)
          refine ⟨?rel, rfl⟩
          case rel =>
            refine ⟨W1.heap.size, W8.heap.size, sc, ci, cl, rfl, rfl, fB, t4, t5, ?_, ?_⟩
            · refine ((unhide HBI).keep fun b hb => ?_).at_
              have h1 := hb.1
              have h2 := hb.2
              rw [oB b (by omega), oA b (by omega)]
              exact ext_block xC h2
            · refine ((unhide HCV).keep fun b ob hb hob => ?_).at_
              have h1 := hb.1
              have h2 := hb.2
              rw [oB b (by omega), oA b (by omega)]
              exact (ext_block xV h2).trans hob
        · go_wp2
          refine hK.out _ _ ((f7).alloc _) ?_
          clear hK K
          obtain ⟨W10, hW10⟩ : ∃ X, X = W7.alloc (.cells #[.int .i64 0, .int .i64 0, .string ⟨#[]⟩, .slice none 0 0, .slice none 0 0] 28) := ⟨_, rfl⟩
          have f10 : Ext w0 W10 := by rw [hW10]; exact (f7).alloc _
          have x10 : Ext W7 W10 := by rw [hW10]; exact (Ext.refl W7).alloc _
          have r5 : W10.heap[W7.heap.size]? = some (.cells #[.int .i64 0, .int .i64 0, .string ⟨#[]⟩, .slice none 0 0, .slice none 0 0] 28 (0, 0)) := by rw [hW10]; exact heap_alloc_new _ _
          have s10 : W7.heap.size + 1 ≤ W10.heap.size := by rw [hW10]; simp
          have b5 : w0.heap.size ≤ W7.heap.size := (f7).size
          rw [← hW10]
          clear hW10
          refine wpAnyX_one (j := 3) rfl (by kernel_rfl) rfl fun K hK => ?_
          go_wp2_with fail
          refine (unhide HV W10 (f10)).mono ?_
          rintro e W11 ⟨ci, cl, rfl, hcv, x11⟩
          have f11 := (f10).trans x11
          have HCV := hide hcv
          have s11 : W10.heap.size ≤ W11.heap.size := x11.size
          clear hcv
          go_wp2
          refine hK.out _ _ (f11) ?_
          clear hK K
          have q4 := (((Ext.refl W7).trans x10).trans x11).heap r4
          have q5 := ((Ext.refl W10).trans x11).heap r5
          have z4 := lt_of_heap q4
          have z5 := lt_of_heap q5
          have xC : Ext W1 W11 := (((Ext.refl W1).trans x7).trans x10).trans x11
          have xV : Ext W11 W11 := Ext.refl W11
          obtain ⟨n0, nf⟩ := row1 q4
          obtain ⟨WA, hWA⟩ : ∃ X, X = W11.setCell ⟨W1.heap.size, 0, none⟩ (.slice sc.a sc.len sc.cap) := ⟨_, rfl⟩
          have fA : Ext w0 WA := by rw [hWA]; exact (f11).setCell b4 _
          have p4 : WA.heap[W1.heap.size]? = some (.cells #[.slice sc.a sc.len sc.cap] 24 (0, 0)) := by
            rw [hWA]
            have := heap_setCell_same W11 (W1.heap.size) 0 _ 24 (.slice sc.a sc.len sc.cap) q4
            simpa using this
          have oA : ∀ b, b ≠ W1.heap.size → WA.heap[b]? = W11.heap[b]? := fun b hb => by rw [hWA, heap_setCell_other _ _ _ _ hb]
          have p5 := (oA (W7.heap.size) (by omega)).trans q5
          have HWA := hide hWA
          clear hWA
          refine wpAnyX_one (j := 6) rfl (by kernel_rfl) rfl fun K hK => ?_
          go_wp2
          rw [← unhide HWA]
          refine hK.out _ _ (fA) ?_
          clear hK K
          clear n0 nf
          obtain ⟨WB, hWB, t5, hx5, oB, _⟩ := setN5 p5 (.int .i64 v.kind) (.int .i64 v.n) (.string v.s) (.slice ci.a ci.len ci.cap) (.slice cl.a cl.len cl.cap)
          have fB := hx5 w0 fA b5
          have t4 := (oB (W1.heap.size) (by omega)).trans p4
          obtain ⟨u0, u1, u2, u3, u4, uf⟩ := rowN5 p5
          have y5 := lt_of_heap p5
          have HWB := hide hWB
          clear hWB hx5
          refine wpAnyX_one (j := 7) rfl (by kernel_rfl) rfl fun K hK => ?_
          go_wp2
          rw [← unhide HWB]
          refine hK.out _ _ (fB) ?_
          clear hK K
          refine wpAnyX_end [] [] rfl (by intro j i hj; simp at hj) (by kernel_rfl) (by intro i hi; simp at hi) fun K hK => ?_
          go_wp2
          refine hK.out _ _ ?_
          clear hK K
          first | refine Met.intro (hJ0 _ _ ?_) | refine hK0 _ _ (Met.intro (hJ0 _ _ ?_))
          (repeat apply Exists.intro)
          refine ⟨?rel, rfl⟩
          case rel =>
            refine ⟨W1.heap.size, W7.heap.size, sc, ci, cl, rfl, rfl, fB, t4, t5, ?_, ?_⟩
            · refine ((unhide HBI).keep fun b hb => ?_).at_
              have h1 := hb.1
              have h2 := hb.2
              rw [oB b (by omega), oA b (by omega)]
              exact ext_block xC h2
            · refine ((unhide HCV).keep fun b ob hb hob => ?_).at_
              have h1 := hb.1
              have h2 := hb.2
              rw [oB b (by omega), oA b (by omega)]
              exact (ext_block xV h2).trans hob
      · go_wp2
        refine hK.out _ _ ((f1).alloc _) ?_
        clear hK K
        obtain ⟨W12, hW12⟩ : ∃ X, X = W1.alloc (.cells #[.int .i64 0, .int .i64 0, .string ⟨#[]⟩, .slice none 0 0, .slice none 0 0] 28) := ⟨_, rfl⟩
        have f12 : Ext w0 W12 := by rw [hW12]; exact (f1).alloc _
        have x12 : Ext W1 W12 := by rw [hW12]; exact (Ext.refl W1).alloc _
        have r5 : W12.heap[W1.heap.size]? = some (.cells #[.int .i64 0, .int .i64 0, .string ⟨#[]⟩, .slice none 0 0, .slice none 0 0] 28 (0, 0)) := by rw [hW12]; exact heap_alloc_new _ _
        have s12 : W1.heap.size + 1 ≤ W12.heap.size := by rw [hW12]; simp
        have b5 : w0.heap.size ≤ W1.heap.size := (f1).size
        rw [← hW12]
        clear hW12
        refine wpAnyX_two (i := 3) (j := 4) rfl rfl (by kernel_rfl) rfl rfl (fun K hK => ?_) (fun K hK => ?_)
        · go_wp2_with fail
          refine (unhide HV W12 (f12)).mono ?_
          rintro e W13 ⟨ci, cl, rfl, hcv, x13⟩
          have f13 := (f12).trans x13
          have HCV := hide hcv
          have s13 : W12.heap.size ≤ W13.heap.size := x13.size
          clear hcv
          go_wp2
          refine hK.out _ _ (f13) ?_
          clear hK K
          refine wpAnyX_one (j := 4) rfl (by kernel_rfl) rfl fun K hK => ?_
          go_wp2
          refine hK.out _ _ ((f13).alloc _) ?_
          clear hK K
          obtain ⟨W14, hW14⟩ : ∃ X, X = W13.alloc (.cells #[.slice none 0 0] 24) := ⟨_, rfl⟩
          have f14 : Ext w0 W14 := by rw [hW14]; exact (f13).alloc _
          have x14 : Ext W13 W14 := by rw [hW14]; exact (Ext.refl W13).alloc _
          have r4 : W14.heap[W13.heap.size]? = some (.cells #[.slice none 0 0] 24 (0, 0)) := by rw [hW14]; exact heap_alloc_new _ _
          have s14 : W13.heap.size + 1 ≤ W14.heap.size := by rw [hW14]; simp
          have b4 : w0.heap.size ≤ W13.heap.size := (f13).size
          rw [← hW14]
          clear hW14
          have q4 := (Ext.refl W14).heap r4
          have q5 := (((Ext.refl W12).trans x13).trans x14).heap r5
          have z4 := lt_of_heap q4
          have z5 := lt_of_heap q5
          have xC : Ext W1 W14 := (((Ext.refl W1).trans x12).trans x13).trans x14
          have xV : Ext W13 W14 := (Ext.refl W13).trans x14
          obtain ⟨n0, nf⟩ := row1 q4
          obtain ⟨WA, hWA⟩ : ∃ X, X = W14.setCell ⟨W13.heap.size, 0, none⟩ (.slice sc.a sc.len sc.cap) := ⟨_, rfl⟩
          have fA : Ext w0 WA := by rw [hWA]; exact (f14).setCell b4 _
          have p4 : WA.heap[W13.heap.size]? = some (.cells #[.slice sc.a sc.len sc.cap] 24 (0, 0)) := by
            rw [hWA]
            have := heap_setCell_same W14 (W13.heap.size) 0 _ 24 (.slice sc.a sc.len sc.cap) q4
            simpa using this
          have oA : ∀ b, b ≠ W13.heap.size → WA.heap[b]? = W14.heap[b]? := fun b hb => by rw [hWA, heap_setCell_other _ _ _ _ hb]
          have p5 := (oA (W1.heap.size) (by omega)).trans q5
          have HWA := hide hWA
          clear hWA
          refine wpAnyX_one (j := 6) rfl (by kernel_rfl) rfl fun K hK => ?_
          go_wp2
          rw [← unhide HWA]
          refine hK.out _ _ (fA) ?_
          clear hK K
          clear n0 nf
          obtain ⟨WB, hWB, t5, hx5, oB, _⟩ := setN5 p5 (.int .i64 v.kind) (.int .i64 v.n) (.string v.s) (.slice ci.a ci.len ci.cap) (.slice cl.a cl.len cl.cap)
          have fB := hx5 w0 fA b5
          have t4 := (oB (W13.heap.size) (by omega)).trans p4
          obtain ⟨u0, u1, u2, u3, u4, uf⟩ := rowN5 p5
          have y5 := lt_of_heap p5
          have HWB := hide hWB
          clear hWB hx5
          refine wpAnyX_one (j := 7) rfl (by kernel_rfl) rfl fun K hK => ?_
          go_wp2
          rw [← unhide HWB]
          refine hK.out _ _ (fB) ?_
          clear hK K
          refine wpAnyX_end [] [] rfl (by intro j i hj; simp at hj) (by kernel_rfl) (by intro i hi; simp at hi) fun K hK => ?_
          go_wp2
          refine hK.out _ _ ?_
          clear hK K
          first | refine Met.intro (hJ0 _ _ ?_) | refine hK0 _ _ (Met.intro (hJ0 _ _ ?_))
          (repeat apply Exists.intro)
          refine ⟨?rel, rfl⟩
          case rel =>
            refine ⟨W13.heap.size, W1.heap.size, sc, ci, cl, rfl, rfl, fB, t4, t5, ?_, ?_⟩
            · refine ((unhide HBI).keep fun b hb => ?_).at_
              have h1 := hb.1
              have h2 := hb.2
              rw [oB b (by omega), oA b (by omega)]
              exact ext_block xC h2
            · refine ((unhide HCV).keep fun b ob hb hob => ?_).at_
              have h1 := hb.1
              have h2 := hb.2
              rw [oB b (by omega), oA b (by omega)]
              exact (ext_block xV h2).trans hob
        · go_wp2
          refine hK.out _ _ ((f12).alloc _) ?_
          clear hK K
          obtain ⟨W15, hW15⟩ : ∃ X, X = W12.alloc (.cells #[.slice none 0 0] 24) := ⟨_, rfl⟩
          have f15 : Ext w0 W15 := by rw [hW15]; exact (f12).alloc _
          have x15 : Ext W12 W15 := by rw [hW15]; exact (Ext.refl W12).alloc _
          have r4 : W15.heap[W12.heap.size]? = some (.cells #[.slice none 0 0] 24 (0, 0)) := by rw [hW15]; exact heap_alloc_new _ _
          have s15 : W12.heap.size + 1 ≤ W15.heap.size := by rw [hW15]; simp
          have b4 : w0.heap.size ≤ W12.heap.size := (f12).size
          rw [← hW15]
          clear hW15
          refine wpAnyX_one (j := 3) rfl (by kernel_rfl) rfl fun K hK => ?_
          go_wp2_with fail
          refine (unhide HV W15 (f15)).mono ?_
          rintro e W16 ⟨ci, cl, rfl, hcv, x16⟩
          have f16 := (f15).trans x16
          have HCV := hide hcv
          have s16 : W15.heap.size ≤ W16.heap.size := x16.size
          clear hcv
          go_wp2
          refine hK.out _ _ (f16) ?_
          clear hK K
          have q4 := ((Ext.refl W15).trans x16).heap r4
          have q5 := (((Ext.refl W12).trans x15).trans x16).heap r5
          have z4 := lt_of_heap q4
          have z5 := lt_of_heap q5
          have xC : Ext W1 W16 := (((Ext.refl W1).trans x12).trans x15).trans x16
          have xV : Ext W16 W16 := Ext.refl W16
          obtain ⟨n0, nf⟩ := row1 q4
          obtain ⟨WA, hWA⟩ : ∃ X, X = W16.setCell ⟨W12.heap.size, 0, none⟩ (.slice sc.a sc.len sc.cap) := ⟨_, rfl⟩
          have fA : Ext w0 WA := by rw [hWA]; exact (f16).setCell b4 _
          have p4 : WA.heap[W12.heap.size]? = some (.cells #[.slice sc.a sc.len sc.cap] 24 (0, 0)) := by
            rw [hWA]
            have := heap_setCell_same W16 (W12.heap.size) 0 _ 24 (.slice sc.a sc.len sc.cap) q4
            simpa using this
          have oA : ∀ b, b ≠ W12.heap.size → WA.heap[b]? = W16.heap[b]? := fun b hb => by rw [hWA, heap_setCell_other _ _ _ _ hb]
          have p5 := (oA (W1.heap.size) (by omega)).trans q5
          have HWA := hide hWA
          clear hWA
          refine wpAnyX_one (j := 6) rfl (by kernel_rfl) rfl fun K hK => ?_
          go_wp2
          rw [← unhide HWA]
          refine hK.out _ _ (fA) ?_
          clear hK K
          clear n0 nf
          obtain ⟨WB, hWB, t5, hx5, oB, _⟩ := setN5 p5 (.int .i64 v.kind) (.int .i64 v.n) (.string v.s) (.slice ci.a ci.len ci.cap) (.slice cl.a cl.len cl.cap)
          have fB := hx5 w0 fA b5
          have t4 := (oB (W12.heap.size) (by omega)).trans p4
          obtain ⟨u0, u1, u2, u3, u4, uf⟩ := rowN5 p5
          have y5 := lt_of_heap p5
          have HWB := hide hWB
          clear hWB hx5
          refine wpAnyX_one (j := 7) rfl (by kernel_rfl) rfl fun K hK => ?_
          go_wp2
          rw [← unhide HWB]
          refine hK.out _ _ (fB) ?_
          clear hK K
          refine wpAnyX_end [] [] rfl (by intro j i hj; simp at hj) (by kernel_rfl) (by intro i hi; simp at hi) fun K hK => ?_
          go_wp2
          refine hK.out _ _ ?_
          clear hK K
          first | refine Met.intro (hJ0 _ _ ?_) | refine hK0 _ _ (Met.intro (hJ0 _ _ ?_))
          (repeat apply Exists.intro)
          refine ⟨?rel, rfl⟩
          case rel =>
            refine ⟨W12.heap.size, W1.heap.size, sc, ci, cl, rfl, rfl, fB, t4, t5, ?_, ?_⟩
            · refine ((unhide HBI).keep fun b hb => ?_).at_
              have h1 := hb.1
              have h2 := hb.2
              rw [oB b (by omega), oA b (by omega)]
              exact ext_block xC h2
            · refine ((unhide HCV).keep fun b ob hb hob => ?_).at_
              have h1 := hb.1
              have h2 := hb.2
              rw [oB b (by omega), oA b (by omega)]
              exact (ext_block xV h2).trans hob
    · go_wp2
      refine hK.out _ _ ((hS0).alloc _) ?_
      clear hK K
      obtain ⟨W17, hW17⟩ : ∃ X, X = Wd.alloc (.cells #[.slice none 0 0] 24) := ⟨_, rfl⟩
      have f17 : Ext w0 W17 := by rw [hW17]; exact (hS0).alloc _
      have x17 : Ext Wd W17 := by rw [hW17]; exact (Ext.refl Wd).alloc _
      have r4 : W17.heap[Wd.heap.size]? = some (.cells #[.slice none 0 0] 24 (0, 0)) := by rw [hW17]; exact heap_alloc_new _ _
      have s17 : Wd.heap.size + 1 ≤ W17.heap.size := by rw [hW17]; simp
      have b4 : w0.heap.size ≤ Wd.heap.size := (hS0).size
      rw [← hW17]
      clear hW17
      refine wpAnyX_two (i := 1) (j := 5) rfl rfl (by kernel_rfl) rfl rfl (fun K hK => ?_) (fun K hK => ?_)
      · go_wp2_with fail
        refine (unhide HC W17 f17).mono ?_
        rintro e W18 ⟨sc, tvs, rfl, hbk, x18⟩
        have f18 := (f17).trans x18
        have HBI := hide hbk.bookIn
        have s18 : W17.heap.size ≤ W18.heap.size := x18.size
        clear hbk
        go_wp2
        refine hK.out _ _ (f18) ?_
        clear hK K
        refine wpAnyX_two (i := 3) (j := 5) rfl rfl (by kernel_rfl) rfl rfl (fun K hK => ?_) (fun K hK => ?_)
        · go_wp2_with fail
          refine (unhide HV W18 (f18)).mono ?_
          rintro e W19 ⟨ci, cl, rfl, hcv, x19⟩
          have f19 := (f18).trans x19
          have HCV := hide hcv
          have s19 : W18.heap.size ≤ W19.heap.size := x19.size
          clear hcv
          go_wp2
          refine hK.out _ _ (f19) ?_
          clear hK K
          refine wpAnyX_one (j := 5) rfl (by kernel_rfl) rfl fun K hK => ?_
          go_wp2
          refine hK.out _ _ ((f19).alloc _) ?_
          clear hK K
          obtain ⟨W20, hW20⟩ : ∃ X, X = W19.alloc (.cells #[.int .i64 0, .int .i64 0, .string ⟨#[]⟩, .slice none 0 0, .slice none 0 0] 28) := ⟨_, rfl⟩
          have f20 : Ext w0 W20 := by rw [hW20]; exact (f19).alloc _
          have x20 : Ext W19 W20 := by rw [hW20]; exact (Ext.refl W19).alloc _
          have r5 : W20.heap[W19.heap.size]? = some (.cells #[.int .i64 0, .int .i64 0, .string ⟨#[]⟩, .slice none 0 0, .slice none 0 0] 28 (0, 0)) := by rw [hW20]; exact heap_alloc_new _ _
          have s20 : W19.heap.size + 1 ≤ W20.heap.size := by rw [hW20]; simp
          have b5 : w0.heap.size ≤ W19.heap.size := (f19).size
          rw [← hW20]
          clear hW20
          have q4 := ((((Ext.refl W17).trans x18).trans x19).trans x20).heap r4
          have q5 := (Ext.refl W20).heap r5
          have z4 := lt_of_heap q4
          have z5 := lt_of_heap q5
          have xC : Ext W18 W20 := ((Ext.refl W18).trans x19).trans x20
          have xV : Ext W19 W20 := (Ext.refl W19).trans x20
          obtain ⟨n0, nf⟩ := row1 q4
          obtain ⟨WA, hWA⟩ : ∃ X, X = W20.setCell ⟨Wd.heap.size, 0, none⟩ (.slice sc.a sc.len sc.cap) := ⟨_, rfl⟩
          have fA : Ext w0 WA := by rw [hWA]; exact (f20).setCell b4 _
          have p4 : WA.heap[Wd.heap.size]? = some (.cells #[.slice sc.a sc.len sc.cap] 24 (0, 0)) := by
            rw [hWA]
            have := heap_setCell_same W20 (Wd.heap.size) 0 _ 24 (.slice sc.a sc.len sc.cap) q4
            simpa using this
          have oA : ∀ b, b ≠ Wd.heap.size → WA.heap[b]? = W20.heap[b]? := fun b hb => by rw [hWA, heap_setCell_other _ _ _ _ hb]
          have p5 := (oA (W19.heap.size) (by omega)).trans q5
          have HWA := hide hWA
          clear hWA
          refine wpAnyX_one (j := 6) rfl (by kernel_rfl) rfl fun K hK => ?_
          go_wp2
          rw [← unhide HWA]
          refine hK.out _ _ (fA) ?_
          clear hK K
          clear n0 nf
          obtain ⟨WB, hWB, t5, hx5, oB, _⟩ := setN5 p5 (.int .i64 v.kind) (.int .i64 v.n) (.string v.s) (.slice ci.a ci.len ci.cap) (.slice cl.a cl.len cl.cap)
          have fB := hx5 w0 fA b5
          have t4 := (oB (Wd.heap.size) (by omega)).trans p4
          obtain ⟨u0, u1, u2, u3, u4, uf⟩ := rowN5 p5
          have y5 := lt_of_heap p5
          have HWB := hide hWB
          clear hWB hx5
          refine wpAnyX_one (j := 7) rfl (by kernel_rfl) rfl fun K hK => ?_
          go_wp2
          rw [← unhide HWB]
          refine hK.out _ _ (fB) ?_
          clear hK K
          refine wpAnyX_end [] [] rfl (by intro j i hj; simp at hj) (by kernel_rfl) (by intro i hi; simp at hi) fun K hK => ?_
          go_wp2
          refine hK.out _ _ ?_
          clear hK K
          first | refine Met.intro (hJ0 _ _ ?_) | refine hK0 _ _ (Met.intro (hJ0 _ _ ?_))
          (repeat apply Exists.intro)
          refine ⟨?rel, rfl⟩
          case rel =>
            refine ⟨Wd.heap.size, W19.heap.size, sc, ci, cl, rfl, rfl, fB, t4, t5, ?_, ?_⟩
            · refine ((unhide HBI).keep fun b hb => ?_).at_
              have h1 := hb.1
              have h2 := hb.2
              rw [oB b (by omega), oA b (by omega)]
              exact ext_block xC h2
            · refine ((unhide HCV).keep fun b ob hb hob => ?_).at_
              have h1 := hb.1
              have h2 := hb.2
              rw [oB b (by omega), oA b (by omega)]
              exact (ext_block xV h2).trans hob
        · go_wp2
          refine hK.out _ _ ((f18).alloc _) ?_
          clear hK K
          obtain ⟨W21, hW21⟩ : ∃ X, X = W18.alloc (.cells #[.int .i64 0, .int .i64 0, .string ⟨#[]⟩, .slice none 0 0, .slice none 0 0] 28) := ⟨_, rfl⟩
          have f21 : Ext w0 W21 := by rw [hW21]; exact (f18).alloc _
          have x21 : Ext W18 W21 := by rw [hW21]; exact (Ext.refl W18).alloc _
          have r5 : W21.heap[W18.heap.size]? = some (.cells #[.int .i64 0, .int .i64 0, .string ⟨#[]⟩, .slice none 0 0, .slice none 0 0] 28 (0, 0)) := by rw [hW21]; exact heap_alloc_new _ _
          have s21 : W18.heap.size + 1 ≤ W21.heap.size := by rw [hW21]; simp
          have b5 : w0.heap.size ≤ W18.heap.size := (f18).size
          rw [← hW21]
          clear hW21
          refine wpAnyX_one (j := 3) rfl (by kernel_rfl) rfl fun K hK => ?_
          go_wp2_with fail
          refine (unhide HV W21 (f21)).mono ?_
          rintro e W22 ⟨ci, cl, rfl, hcv, x22⟩
          have f22 := (f21).trans x22
          have HCV := hide hcv
          have s22 : W21.heap.size ≤ W22.heap.size := x22.size
          clear hcv
          go_wp2
          refine hK.out _ _ (f22) ?_
          clear hK K
          have q4 := ((((Ext.refl W17).trans x18).trans x21).trans x22).heap r4
          have q5 := ((Ext.refl W21).trans x22).heap r5
          have z4 := lt_of_heap q4
          have z5 := lt_of_heap q5
          have xC : Ext W18 W22 := ((Ext.refl W18).trans x21).trans x22
          have xV : Ext W22 W22 := Ext.refl W22
          obtain ⟨n0, nf⟩ := row1 q4
          obtain ⟨WA, hWA⟩ : ∃ X, X = W22.setCell ⟨Wd.heap.size, 0, none⟩ (.slice sc.a sc.len sc.cap) := ⟨_, rfl⟩
          have fA : Ext w0 WA := by rw [hWA]; exact (f22).setCell b4 _
          have p4 : WA.heap[Wd.heap.size]? = some (.cells #[.slice sc.a sc.len sc.cap] 24 (0, 0)) := by
            rw [hWA]
            have := heap_setCell_same W22 (Wd.heap.size) 0 _ 24 (.slice sc.a sc.len sc.cap) q4
            simpa using this
          have oA : ∀ b, b ≠ Wd.heap.size → WA.heap[b]? = W22.heap[b]? := fun b hb => by rw [hWA, heap_setCell_other _ _ _ _ hb]
          have p5 := (oA (W18.heap.size) (by omega)).trans q5
          have HWA := hide hWA
          clear hWA
          refine wpAnyX_one (j := 6) rfl (by kernel_rfl) rfl fun K hK => ?_
          go_wp2
          rw [← unhide HWA]
          refine hK.out _ _ (fA) ?_
          clear hK K
          clear n0 nf
          obtain ⟨WB, hWB, t5, hx5, oB, _⟩ := setN5 p5 (.int .i64 v.kind) (.int .i64 v.n) (.string v.s) (.slice ci.a ci.len ci.cap) (.slice cl.a cl.len cl.cap)
          have fB := hx5 w0 fA b5
          have t4 := (oB (Wd.heap.size) (by omega)).trans p4
          obtain ⟨u0, u1, u2, u3, u4, uf⟩ := rowN5 p5
          have y5 := lt_of_heap p5
          have HWB := hide hWB
          clear hWB hx5
          refine wpAnyX_one (j := 7) rfl (by kernel_rfl) rfl fun K hK => ?_
          go_wp2
          rw [← unhide HWB]
          refine hK.out _ _ (fB) ?_
          clear hK K
          refine wpAnyX_end [] [] rfl (by intro j i hj; simp at hj) (by kernel_rfl) (by intro i hi; simp at hi) fun K hK => ?_
          go_wp2
          refine hK.out _ _ ?_
          clear hK K
          first | refine Met.intro (hJ0 _ _ ?_) | refine hK0 _ _ (Met.intro (hJ0 _ _ ?_))
          (repeat apply Exists.intro)
          refine ⟨?rel, rfl⟩
          case rel =>
            refine ⟨Wd.heap.size, W18.heap.size, sc, ci, cl, rfl, rfl, fB, t4, t5, ?_, ?_⟩
            · refine ((unhide HBI).keep fun b hb => ?_).at_
              have h1 := hb.1
              have h2 := hb.2
              rw [oB b (by omega), oA b (by omega)]
              exact ext_block xC h2
            · refine ((unhide HCV).keep fun b ob hb hob => ?_).at_
              have h1 := hb.1
              have h2 := hb.2
              rw [oB b (by omega), oA b (by omega)]
              exact (ext_block xV h2).trans hob
      · go_wp2
        refine hK.out _ _ ((f17).alloc _) ?_
        clear hK K
        obtain ⟨W23, hW23⟩ : ∃ X, X = W17.alloc (.cells #[.int .i64 0, .int .i64 0, .string ⟨#[]⟩, .slice none 0 0, .slice none 0 0] 28) := ⟨_, rfl⟩
        have f23 : Ext w0 W23 := by rw [hW23]; exact (f17).alloc _
        have x23 : Ext W17 W23 := by rw [hW23]; exact (Ext.refl W17).alloc _
        have r5 : W23.heap[W17.heap.size]? = some (.cells #[.int .i64 0, .int .i64 0, .string ⟨#[]⟩, .slice none 0 0, .slice none 0 0] 28 (0, 0)) := by rw [hW23]; exact heap_alloc_new _ _
        have s23 : W17.heap.size + 1 ≤ W23.heap.size := by rw [hW23]; simp
        have b5 : w0.heap.size ≤ W17.heap.size := (f17).size
        rw [← hW23]
        clear hW23
        refine wpAnyX_one (j := 1) rfl (by kernel_rfl) rfl fun K hK => ?_
        go_wp2_with fail
        refine (unhide HC W23 f23).mono ?_
        rintro e W24 ⟨sc, tvs, rfl, hbk, x24⟩
        have f24 := (f23).trans x24
        have HBI := hide hbk.bookIn
        have s24 : W23.heap.size ≤ W24.heap.size := x24.size
        clear hbk
        go_wp2
        refine hK.out _ _ (f24) ?_
        clear hK K
        refine wpAnyX_one (j := 3) rfl (by kernel_rfl) rfl fun K hK => ?_
        go_wp2_with fail
        refine (unhide HV W24 (f24)).mono ?_
        rintro e W25 ⟨ci, cl, rfl, hcv, x25⟩
        have f25 := (f24).trans x25
        have HCV := hide hcv
        have s25 : W24.heap.size ≤ W25.heap.size := x25.size
        clear hcv
        go_wp2
        refine hK.out _ _ (f25) ?_
        clear hK K
        have q4 := ((((Ext.refl W17).trans x23).trans x24).trans x25).heap r4
        have q5 := (((Ext.refl W23).trans x24).trans x25).heap r5
        have z4 := lt_of_heap q4
        have z5 := lt_of_heap q5
        have xC : Ext W24 W25 := (Ext.refl W24).trans x25
        have xV : Ext W25 W25 := Ext.refl W25
        obtain ⟨n0, nf⟩ := row1 q4
        obtain ⟨WA, hWA⟩ : ∃ X, X = W25.setCell ⟨Wd.heap.size, 0, none⟩ (.slice sc.a sc.len sc.cap) := ⟨_, rfl⟩
        have fA : Ext w0 WA := by rw [hWA]; exact (f25).setCell b4 _
        have p4 : WA.heap[Wd.heap.size]? = some (.cells #[.slice sc.a sc.len sc.cap] 24 (0, 0)) := by
          rw [hWA]
          have := heap_setCell_same W25 (Wd.heap.size) 0 _ 24 (.slice sc.a sc.len sc.cap) q4
          simpa using this
        have oA : ∀ b, b ≠ Wd.heap.size → WA.heap[b]? = W25.heap[b]? := fun b hb => by rw [hWA, heap_setCell_other _ _ _ _ hb]
        have p5 := (oA (W17.heap.size) (by omega)).trans q5
        have HWA := hide hWA
        clear hWA
        refine wpAnyX_one (j := 6) rfl (by kernel_rfl) rfl fun K hK => ?_
        go_wp2
        rw [← unhide HWA]
        refine hK.out _ _ (fA) ?_
        clear hK K
        clear n0 nf
        obtain ⟨WB, hWB, t5, hx5, oB, _⟩ := setN5 p5 (.int .i64 v.kind) (.int .i64 v.n) (.string v.s) (.slice ci.a ci.len ci.cap) (.slice cl.a cl.len cl.cap)
        have fB := hx5 w0 fA b5
        have t4 := (oB (Wd.heap.size) (by omega)).trans p4
        obtain ⟨u0, u1, u2, u3, u4, uf⟩ := rowN5 p5
        have y5 := lt_of_heap p5
        have HWB := hide hWB
        clear hWB hx5
        refine wpAnyX_one (j := 7) rfl (by kernel_rfl) rfl fun K hK => ?_
        go_wp2
        rw [← unhide HWB]
        refine hK.out _ _ (fB) ?_
        clear hK K
        refine wpAnyX_end [] [] rfl (by intro j i hj; simp at hj) (by kernel_rfl) (by intro i hi; simp at hi) fun K hK => ?_
        go_wp2
        refine hK.out _ _ ?_
        clear hK K
        first | refine Met.intro (hJ0 _ _ ?_) | refine hK0 _ _ (Met.intro (hJ0 _ _ ?_))
        (repeat apply Exists.intro)
        refine ⟨?rel, rfl⟩
        case rel =>
          refine ⟨Wd.heap.size, W17.heap.size, sc, ci, cl, rfl, rfl, fB, t4, t5, ?_, ?_⟩
          · refine ((unhide HBI).keep fun b hb => ?_).at_
            have h1 := hb.1
            have h2 := hb.2
            rw [oB b (by omega), oA b (by omega)]
            exact ext_block xC h2
          · refine ((unhide HCV).keep fun b ob hb hob => ?_).at_
            have h1 := hb.1
            have h2 := hb.2
            rw [oB b (by omega), oA b (by omega)]
            exact (ext_block xV h2).trans hob
    · go_wp2
      refine hK.out _ _ ((hS0).alloc _) ?_
      clear hK K
      obtain ⟨W26, hW26⟩ : ∃ X, X = Wd.alloc (.cells #[.int .i64 0, .int .i64 0, .string ⟨#[]⟩, .slice none 0 0, .slice none 0 0] 28) := ⟨_, rfl⟩
      have f26 : Ext w0 W26 := by rw [hW26]; exact (hS0).alloc _
      have x26 : Ext Wd W26 := by rw [hW26]; exact (Ext.refl Wd).alloc _
      have r5 : W26.heap[Wd.heap.size]? = some (.cells #[.int .i64 0, .int .i64 0, .string ⟨#[]⟩, .slice none 0 0, .slice none 0 0] 28 (0, 0)) := by rw [hW26]; exact heap_alloc_new _ _
      have s26 : Wd.heap.size + 1 ≤ W26.heap.size := by rw [hW26]; simp
      have b5 : w0.heap.size ≤ Wd.heap.size := (hS0).size
      rw [← hW26]
      clear hW26
      refine wpAnyX_two (i := 1) (j := 4) rfl rfl (by kernel_rfl) rfl rfl (fun K hK => ?_) (fun K hK => ?_)
      · go_wp2_with fail
        refine (unhide HC W26 f26).mono ?_
        rintro e W27 ⟨sc, tvs, rfl, hbk, x27⟩
        have f27 := (f26).trans x27
        have HBI := hide hbk.bookIn
        have s27 : W26.heap.size ≤ W27.heap.size := x27.size
        clear hbk
        go_wp2
        refine hK.out _ _ (f27) ?_
        clear hK K
        refine wpAnyX_two (i := 3) (j := 4) rfl rfl (by kernel_rfl) rfl rfl (fun K hK => ?_) (fun K hK => ?_)
        · go_wp2_with fail
          refine (unhide HV W27 (f27)).mono ?_
          rintro e W28 ⟨ci, cl, rfl, hcv, x28⟩
          have f28 := (f27).trans x28
          have HCV := hide hcv
          have s28 : W27.heap.size ≤ W28.heap.size := x28.size
          clear hcv
          go_wp2
          refine hK.out _ _ (f28) ?_
          clear hK K
          refine wpAnyX_one (j := 4) rfl (by kernel_rfl) rfl fun K hK => ?_
          go_wp2
          refine hK.out _ _ ((f28).alloc _) ?_
          clear hK K
          obtain ⟨W29, hW29⟩ : ∃ X, X = W28.alloc (.cells #[.slice none 0 0] 24) := ⟨_, rfl⟩
          have f29 : Ext w0 W29 := by rw [hW29]; exact (f28).alloc _
          have x29 : Ext W28 W29 := by rw [hW29]; exact (Ext.refl W28).alloc _
          have r4 : W29.heap[W28.heap.size]? = some (.cells #[.slice none 0 0] 24 (0, 0)) := by rw [hW29]; exact heap_alloc_new _ _
          have s29 : W28.heap.size + 1 ≤ W29.heap.size := by rw [hW29]; simp
          have b4 : w0.heap.size ≤ W28.heap.size := (f28).size
          rw [← hW29]
          clear hW29
          have q4 := (Ext.refl W29).heap r4
          have q5 := ((((Ext.refl W26).trans x27).trans x28).trans x29).heap r5
          have z4 := lt_of_heap q4
          have z5 := lt_of_heap q5
          have xC : Ext W27 W29 := ((Ext.refl W27).trans x28).trans x29
          have xV : Ext W28 W29 := (Ext.refl W28).trans x29
          obtain ⟨n0, nf⟩ := row1 q4
          obtain ⟨WA, hWA⟩ : ∃ X, X = W29.setCell ⟨W28.heap.size, 0, none⟩ (.slice sc.a sc.len sc.cap) := ⟨_, rfl⟩
          have fA : Ext w0 WA := by rw [hWA]; exact (f29).setCell b4 _
          have p4 : WA.heap[W28.heap.size]? = some (.cells #[.slice sc.a sc.len sc.cap] 24 (0, 0)) := by
            rw [hWA]
            have := heap_setCell_same W29 (W28.heap.size) 0 _ 24 (.slice sc.a sc.len sc.cap) q4
            simpa using this
          have oA : ∀ b, b ≠ W28.heap.size → WA.heap[b]? = W29.heap[b]? := fun b hb => by rw [hWA, heap_setCell_other _ _ _ _ hb]
          have p5 := (oA (Wd.heap.size) (by omega)).trans q5
          have HWA := hide hWA
          clear hWA
          refine wpAnyX_one (j := 6) rfl (by kernel_rfl) rfl fun K hK => ?_
          go_wp2
          rw [← unhide HWA]
          refine hK.out _ _ (fA) ?_
          clear hK K
          clear n0 nf
          obtain ⟨WB, hWB, t5, hx5, oB, _⟩ := setN5 p5 (.int .i64 v.kind) (.int .i64 v.n) (.string v.s) (.slice ci.a ci.len ci.cap) (.slice cl.a cl.len cl.cap)
          have fB := hx5 w0 fA b5
          have t4 := (oB (W28.heap.size) (by omega)).trans p4
          obtain ⟨u0, u1, u2, u3, u4, uf⟩ := rowN5 p5
          have y5 := lt_of_heap p5
          have HWB := hide hWB
          clear hWB hx5
          refine wpAnyX_one (j := 7) rfl (by kernel_rfl) rfl fun K hK => ?_
          go_wp2
          rw [← unhide HWB]
          refine hK.out _ _ (fB) ?_
          clear hK K
          refine wpAnyX_end [] [] rfl (by intro j i hj; simp at hj) (by kernel_rfl) (by intro i hi; simp at hi) fun K hK => ?_
          go_wp2
          refine hK.out _ _ ?_
          clear hK K
          first | refine Met.intro (hJ0 _ _ ?_) | refine hK0 _ _ (Met.intro (hJ0 _ _ ?_))
          (repeat apply Exists.intro)
          refine ⟨?rel, rfl⟩
          case rel =>
            refine ⟨W28.heap.size, Wd.heap.size, sc, ci, cl, rfl, rfl, fB, t4, t5, ?_, ?_⟩
            · refine ((unhide HBI).keep fun b hb => ?_).at_
              have h1 := hb.1
              have h2 := hb.2
              rw [oB b (by omega), oA b (by omega)]
              exact ext_block xC h2
            · refine ((unhide HCV).keep fun b ob hb hob => ?_).at_
              have h1 := hb.1
              have h2 := hb.2
              rw [oB b (by omega), oA b (by omega)]
              exact (ext_block xV h2).trans hob
        · go_wp2
          refine hK.out _ _ ((f27).alloc _) ?_
          clear hK K
          obtain ⟨W30, hW30⟩ : ∃ X, X = W27.alloc (.cells #[.slice none 0 0] 24) := ⟨_, rfl⟩
          have f30 : Ext w0 W30 := by rw [hW30]; exact (f27).alloc _
          have x30 : Ext W27 W30 := by rw [hW30]; exact (Ext.refl W27).alloc _
          have r4 : W30.heap[W27.heap.size]? = some (.cells #[.slice none 0 0] 24 (0, 0)) := by rw [hW30]; exact heap_alloc_new _ _
          have s30 : W27.heap.size + 1 ≤ W30.heap.size := by rw [hW30]; simp
          have b4 : w0.heap.size ≤ W27.heap.size := (f27).size
          rw [← hW30]
          clear hW30
          refine wpAnyX_one (j := 3) rfl (by kernel_rfl) rfl fun K hK => ?_
          go_wp2_with fail
          refine (unhide HV W30 (f30)).mono ?_
          rintro e W31 ⟨ci, cl, rfl, hcv, x31⟩
          have f31 := (f30).trans x31
          have HCV := hide hcv
          have s31 : W30.heap.size ≤ W31.heap.size := x31.size
          clear hcv
          go_wp2
          refine hK.out _ _ (f31) ?_
          clear hK K
          have q4 := ((Ext.refl W30).trans x31).heap r4
          have q5 := ((((Ext.refl W26).trans x27).trans x30).trans x31).heap r5
          have z4 := lt_of_heap q4
          have z5 := lt_of_heap q5
          have xC : Ext W27 W31 := ((Ext.refl W27).trans x30).trans x31
          have xV : Ext W31 W31 := Ext.refl W31
          obtain ⟨n0, nf⟩ := row1 q4
          obtain ⟨WA, hWA⟩ : ∃ X, X = W31.setCell ⟨W27.heap.size, 0, none⟩ (.slice sc.a sc.len sc.cap) := ⟨_, rfl⟩
          have fA : Ext w0 WA := by rw [hWA]; exact (f31).setCell b4 _
          have p4 : WA.heap[W27.heap.size]? = some (.cells #[.slice sc.a sc.len sc.cap] 24 (0, 0)) := by
            rw [hWA]
            have := heap_setCell_same W31 (W27.heap.size) 0 _ 24 (.slice sc.a sc.len sc.cap) q4
            simpa using this
          have oA : ∀ b, b ≠ W27.heap.size → WA.heap[b]? = W31.heap[b]? := fun b hb => by rw [hWA, heap_setCell_other _ _ _ _ hb]
          have p5 := (oA (Wd.heap.size) (by omega)).trans q5
          have HWA := hide hWA
          clear hWA
          refine wpAnyX_one (j := 6) rfl (by kernel_rfl) rfl fun K hK => ?_
          go_wp2
          rw [← unhide HWA]
          refine hK.out _ _ (fA) ?_
          clear hK K
          clear n0 nf
          obtain ⟨WB, hWB, t5, hx5, oB, _⟩ := setN5 p5 (.int .i64 v.kind) (.int .i64 v.n) (.string v.s) (.slice ci.a ci.len ci.cap) (.slice cl.a cl.len cl.cap)
          have fB := hx5 w0 fA b5
          have t4 := (oB (W27.heap.size) (by omega)).trans p4
          obtain ⟨u0, u1, u2, u3, u4, uf⟩ := rowN5 p5
          have y5 := lt_of_heap p5
          have HWB := hide hWB
          clear hWB hx5
          refine wpAnyX_one (j := 7) rfl (by kernel_rfl) rfl fun K hK => ?_
          go_wp2
          rw [← unhide HWB]
          refine hK.out _ _ (fB) ?_
          clear hK K
          refine wpAnyX_end [] [] rfl (by intro j i hj; simp at hj) (by kernel_rfl) (by intro i hi; simp at hi) fun K hK => ?_
          go_wp2
          refine hK.out _ _ ?_
          clear hK K
          first | refine Met.intro (hJ0 _ _ ?_) | refine hK0 _ _ (Met.intro (hJ0 _ _ ?_))
          (repeat apply Exists.intro)
          refine ⟨?rel, rfl⟩
          case rel =>
            refine ⟨W27.heap.size, Wd.heap.size, sc, ci, cl, rfl, rfl, fB, t4, t5, ?_, ?_⟩
            · refine ((unhide HBI).keep fun b hb => ?_).at_
              have h1 := hb.1
              have h2 := hb.2
              rw [oB b (by omega), oA b (by omega)]
              exact ext_block xC h2
            · refine ((unhide HCV).keep fun b ob hb hob => ?_).at_
              have h1 := hb.1
              have h2 := hb.2
              rw [oB b (by omega), oA b (by omega)]
              exact (ext_block xV h2).trans hob
      · go_wp2
        refine hK.out _ _ ((f26).alloc _) ?_
        clear hK K
        obtain ⟨W32, hW32⟩ : ∃ X, X = W26.alloc (.cells #[.slice none 0 0] 24) := ⟨_, rfl⟩
        have f32 : Ext w0 W32 := by rw [hW32]; exact (f26).alloc _
        have x32 : Ext W26 W32 := by rw [hW32]; exact (Ext.refl W26).alloc _
        have r4 : W32.heap[W26.heap.size]? = some (.cells #[.slice none 0 0] 24 (0, 0)) := by rw [hW32]; exact heap_alloc_new _ _
        have s32 : W26.heap.size + 1 ≤ W32.heap.size := by rw [hW32]; simp
        have b4 : w0.heap.size ≤ W26.heap.size := (f26).size
        rw [← hW32]
        clear hW32
        refine wpAnyX_one (j := 1) rfl (by kernel_rfl) rfl fun K hK => ?_
        go_wp2_with fail
        refine (unhide HC W32 f32).mono ?_
        rintro e W33 ⟨sc, tvs, rfl, hbk, x33⟩
        have f33 := (f32).trans x33
        have HBI := hide hbk.bookIn
        have s33 : W32.heap.size ≤ W33.heap.size := x33.size
        clear hbk
        go_wp2
        refine hK.out _ _ (f33) ?_
        clear hK K
        refine wpAnyX_one (j := 3) rfl (by kernel_rfl) rfl fun K hK => ?_
        go_wp2_with fail
        refine (unhide HV W33 (f33)).mono ?_
        rintro e W34 ⟨ci, cl, rfl, hcv, x34⟩
        have f34 := (f33).trans x34
        have HCV := hide hcv
        have s34 : W33.heap.size ≤ W34.heap.size := x34.size
        clear hcv
        go_wp2
        refine hK.out _ _ (f34) ?_
        clear hK K
        have q4 := (((Ext.refl W32).trans x33).trans x34).heap r4
        have q5 := ((((Ext.refl W26).trans x32).trans x33).trans x34).heap r5
        have z4 := lt_of_heap q4
        have z5 := lt_of_heap q5
        have xC : Ext W33 W34 := (Ext.refl W33).trans x34
        have xV : Ext W34 W34 := Ext.refl W34
        obtain ⟨n0, nf⟩ := row1 q4
        obtain ⟨WA, hWA⟩ : ∃ X, X = W34.setCell ⟨W26.heap.size, 0, none⟩ (.slice sc.a sc.len sc.cap) := ⟨_, rfl⟩
        have fA : Ext w0 WA := by rw [hWA]; exact (f34).setCell b4 _
        have p4 : WA.heap[W26.heap.size]? = some (.cells #[.slice sc.a sc.len sc.cap] 24 (0, 0)) := by
          rw [hWA]
          have := heap_setCell_same W34 (W26.heap.size) 0 _ 24 (.slice sc.a sc.len sc.cap) q4
          simpa using this
        have oA : ∀ b, b ≠ W26.heap.size → WA.heap[b]? = W34.heap[b]? := fun b hb => by rw [hWA, heap_setCell_other _ _ _ _ hb]
        have p5 := (oA (Wd.heap.size) (by omega)).trans q5
        have HWA := hide hWA
        clear hWA
        refine wpAnyX_one (j := 6) rfl (by kernel_rfl) rfl fun K hK => ?_
        go_wp2
        rw [← unhide HWA]
        refine hK.out _ _ (fA) ?_
        clear hK K
        clear n0 nf
        obtain ⟨WB, hWB, t5, hx5, oB, _⟩ := setN5 p5 (.int .i64 v.kind) (.int .i64 v.n) (.string v.s) (.slice ci.a ci.len ci.cap) (.slice cl.a cl.len cl.cap)
        have fB := hx5 w0 fA b5
        have t4 := (oB (W26.heap.size) (by omega)).trans p4
        obtain ⟨u0, u1, u2, u3, u4, uf⟩ := rowN5 p5
        have y5 := lt_of_heap p5
        have HWB := hide hWB
        clear hWB hx5
        refine wpAnyX_one (j := 7) rfl (by kernel_rfl) rfl fun K hK => ?_
        go_wp2
        rw [← unhide HWB]
        refine hK.out _ _ (fB) ?_
        clear hK K
        refine wpAnyX_end [] [] rfl (by intro j i hj; simp at hj) (by kernel_rfl) (by intro i hi; simp at hi) fun K hK => ?_
        go_wp2
        refine hK.out _ _ ?_
        clear hK K
        first | refine Met.intro (hJ0 _ _ ?_) | refine hK0 _ _ (Met.intro (hJ0 _ _ ?_))
        (repeat apply Exists.intro)
        refine ⟨?rel, rfl⟩
        case rel =>
          refine ⟨W26.heap.size, Wd.heap.size, sc, ci, cl, rfl, rfl, fB, t4, t5, ?_, ?_⟩
          · refine ((unhide HBI).keep fun b hb => ?_).at_
            have h1 := hb.1
            have h2 := hb.2
            rw [oB b (by omega), oA b (by omega)]
            exact ext_block xC h2
          · refine ((unhide HCV).keep fun b ob hb hob => ?_).at_
            have h1 := hb.1
            have h2 := hb.2
            rw [oB b (by omega), oA b (by omega)]
            exact (ext_block xV h2).trans hob
  case rest =>
    obtain ⟨g, h, sc, ci, cl, rfl, rfl, hxa, rg, rh, hbc, hvc⟩ := hcut
    rename World => wa
    have hEa := hx0.trans hxa
    have Hbc := hide hbc
    have Hvc := hide hvc
    have cg : wa.cell? ⟨g, 0, none⟩ = some (.slice sc.a sc.len sc.cap) := cell_of_row _ _ 0 _ _ _ rg
    have HL := hide (fun w2 (hx : Ext wa w2) => least_value sc ts name w2 (hbc.ext hx) ((unhide Hw).ext (hxa.trans hx)) (unhide Hn).fits)
    have HLR := hide (fun w2 (hx : Ext wa w2) => leastValueR_any sb ts name w2 ((unhide Hb).ext (hxa.trans hx)) ((unhide Hm).ext (hxa.trans hx)) (unhide Hn))
    have HO := hide (fun w2 (hx : Ext wa w2) => leastOf_any sc ts name id w2 (hbc.ext hx) ((unhide Hw).ext (hxa.trans hx)) (unhide Hn))
    have HOR := hide (fun w2 (hx : Ext wa w2) => leastFieldR_any sb ts name id w2 ((unhide Hb).ext (hxa.trans hx)) ((unhide Hm).ext (hxa.trans hx)) (unhide Hn))
    have HS := hide (fun w2 (hx : Ext wa w2) => size_any K v ci cl w2 (hvc.ext hx) (unhide Hc))
    have HSR := hide (fun w2 (hx : Ext wa w2) => sizeOf_any K v ids l w2 ((unhide Hv).ext (hxa.trans hx)) (unhide Hc))
    have HT := hide (fun w2 (hx : Ext wa w2) => typed_any sc ts name K v ci cl w2 (hbc.ext hx) ((unhide Hw).ext (hxa.trans hx)) (unhide Hn).fits (unhide Hsv) (unhide Hc) (hvc.ext hx))
    have HTR := hide (fun w2 (hx : Ext wa w2) => isTyped_any sb ts name K v ids l w2 ((unhide Hb).ext (hxa.trans hx)) ((unhide Hm).ext (hxa.trans hx)) (unhide Hn) (unhide Hsv) (unhide Hc) ((unhide Hv).ext (hxa.trans hx)))
    have HVV := hide (fun w2 (hx : Ext wa w2) => sameValue_true K K v ci cl ids l w2 (unhide Hsv) (hvc.ext hx) ((unhide Hv).ext (hxa.trans hx)))
    have HBB := hide (fun w2 (hx : Ext wa w2) => sameBookR_true sc sb ts w2 (hbc.ext hx) ((unhide Hb).ext (hxa.trans hx)) (unhide Hn).fits)
    have HVA := hide (fun w2 (hx : Ext wa w2) => values_ok w2 ((unhide Hw).ext (hxa.trans hx)))
    have Hx5 := hide (small_leastA (unhide Hn) name)
    have Hp5 := hide (small_lofV (unhide Hn) name id)
    generalize leastA ts name = x at *
    generalize msgE ts name = m at *
    generalize lofV ts name id = p at *
    generalize lofE ts name id = q at *
    generalize typedM ts name K v = T at *
    generalize depM K v = D at *
    generalize cntM K v = N at *
    clear hbc hvc HC HV HW0 Hbc Hvc Hb Hv Hw Hm
    go_wp2_with fail
    refine (unhide HL wa (Ext.refl wa)).mono ?_
    rintro e u1 ⟨a1, l1, rfl, hv1, y1⟩
    obtain ⟨W1, hW1⟩ : ∃ X, X = u1.alloc (.cells #[.int .i64 x.kind, .int .i64 x.n, .string x.s, .slice a1.a a1.len a1.cap, .slice l1.a l1.len l1.cap] 28) := ⟨_, rfl⟩
    have xu1 : Ext u1 W1 := by rw [hW1]; exact (Ext.refl u1).alloc _
    have R1 : W1.heap[u1.heap.size]? = some (.cells #[.int .i64 x.kind, .int .i64 x.n, .string x.s, .slice a1.a a1.len a1.cap, .slice l1.a l1.len l1.cap] 28 (0, 0)) := by rw [hW1]; exact heap_alloc_new _ _
    have Hv1 := hide (hv1.at_.ext xu1)
    have fu1 : Ext wa u1 := (Ext.refl wa).trans y1
    have fa1 : Ext wa W1 := fu1.trans xu1
    clear hv1
    have c1 := (hxa.trans fu1).cell bB
    have z1 := World.block_lt_of_cell? u1 _ c1
    go_wp2_with fail
    rw [← hW1]
    refine (unhide HLR W1 fa1).mono ?_
    rintro e u2 ⟨a2, l2, rfl, hv2, y2⟩
    obtain ⟨W2, hW2⟩ : ∃ X, X = u2.alloc (.cells #[.int .i64 x.kind, .int .i64 x.n, .string x.s, .slice a2.a a2.len a2.cap, .slice l2.a l2.len l2.cap] 28) := ⟨_, rfl⟩
    have xu2 : Ext u2 W2 := by rw [hW2]; exact (Ext.refl u2).alloc _
    have R2 : W2.heap[u2.heap.size]? = some (.cells #[.int .i64 x.kind, .int .i64 x.n, .string x.s, .slice a2.a a2.len a2.cap, .slice l2.a l2.len l2.cap] 28 (0, 0)) := by rw [hW2]; exact heap_alloc_new _ _
    have Hv2 := hide (hv2.at_.ext xu2)
    have fu2 : Ext wa u2 := fa1.trans y2
    have fa2 : Ext wa W2 := fu2.trans xu2
    clear hv2
    have c2 := fu2.cell cg
    have z2 := World.block_lt_of_cell? u2 _ c2
    go_wp2_with fail
    rw [← hW2]
    refine (unhide HO W2 fa2).mono ?_
    rintro e u3 ⟨a3, l3, rfl, hv3, y3⟩
    obtain ⟨W3, hW3⟩ : ∃ X, X = u3.alloc (.cells #[.int .i64 p.kind, .int .i64 p.n, .string p.s, .slice a3.a a3.len a3.cap, .slice l3.a l3.len l3.cap] 28) := ⟨_, rfl⟩
    have xu3 : Ext u3 W3 := by rw [hW3]; exact (Ext.refl u3).alloc _
    have R3 : W3.heap[u3.heap.size]? = some (.cells #[.int .i64 p.kind, .int .i64 p.n, .string p.s, .slice a3.a a3.len a3.cap, .slice l3.a l3.len l3.cap] 28 (0, 0)) := by rw [hW3]; exact heap_alloc_new _ _
    have Hv3 := hide (hv3.at_.ext xu3)
    have fu3 : Ext wa u3 := fa2.trans y3
    have fa3 : Ext wa W3 := fu3.trans xu3
    clear hv3
    have c3 := (hxa.trans fu3).cell bB
    have z3 := World.block_lt_of_cell? u3 _ c3
    go_wp2_with fail
    rw [← hW3]
    refine (unhide HOR W3 fa3).mono ?_
    rintro e u4 ⟨a4, l4, rfl, hv4, y4⟩
    obtain ⟨W4, hW4⟩ : ∃ X, X = u4.alloc (.cells #[.int .i64 p.kind, .int .i64 p.n, .string p.s, .slice a4.a a4.len a4.cap, .slice l4.a l4.len l4.cap] 28) := ⟨_, rfl⟩
    have xu4 : Ext u4 W4 := by rw [hW4]; exact (Ext.refl u4).alloc _
    have R4 : W4.heap[u4.heap.size]? = some (.cells #[.int .i64 p.kind, .int .i64 p.n, .string p.s, .slice a4.a a4.len a4.cap, .slice l4.a l4.len l4.cap] 28 (0, 0)) := by rw [hW4]; exact heap_alloc_new _ _
    have Hv4 := hide (hv4.at_.ext xu4)
    have fu4 : Ext wa u4 := fa3.trans y4
    have fa4 : Ext wa W4 := fu4.trans xu4
    clear hv4
    obtain ⟨c40, c41, c42, c43, c44, _⟩ := row5 (fu4.heap rh)
    have z4 := lt_of_heap (fu4.heap rh)
    go_wp2_with fail
    rw [← hW4]
    refine (unhide HS W4 fa4).mono ?_
    rintro e u5 ⟨rfl, y5⟩
    have fa5 : Ext wa u5 := fa4.trans y5
    obtain ⟨c50, c51, c52, c53, c54, _⟩ := row5 ((hxa.trans fa5).heap r1)
    go_wp2_with fail
    refine (unhide HSR u5 fa5).mono ?_
    rintro e u6 ⟨rfl, y6⟩
    have fa6 : Ext wa u6 := fa5.trans y6
    have x46 : Ext W4 u6 := y5.trans y6
    have x36 : Ext W3 u6 := (y4.trans xu4).trans x46
    have x26 : Ext W2 u6 := (y3.trans xu3).trans x36
    have x16 : Ext W1 u6 := (y2.trans xu2).trans x26
    obtain ⟨j10, j11, j12, j13, j14, _⟩ := row5 (x16.heap R1)
    obtain ⟨j20, j21, j22, j23, j24, _⟩ := row5 (x26.heap R2)
    obtain ⟨j30, j31, j32, j33, j34, _⟩ := row5 (x36.heap R3)
    obtain ⟨j40, j41, j42, j43, j44, _⟩ := row5 (x46.heap R4)
    obtain ⟨jh0, jh1, jh2, jh3, jh4, _⟩ := row5 (fa6.heap rh)
    obtain ⟨jv0, jv1, jv2, jv3, jv4, _⟩ := row5 ((hxa.trans fa6).heap r1)
    have jB := (hxa.trans fa6).cell bB
    have jg := fa6.cell cg
    have HXX := hide (fun w2 (hx : Ext u6 w2) => sameValue_true 5 5 x a1 l1 a2 l2 w2 (unhide Hx5) ((unhide Hv1).ext (x16.trans hx)) ((unhide Hv2).ext (x26.trans hx)))
    have HPP := hide (fun w2 (hx : Ext u6 w2) => sameValue_true 5 5 p a3 l3 a4 l4 w2 (unhide Hp5) ((unhide Hv3).ext (x36.trans hx)) ((unhide Hv4).ext (x46.trans hx)))
    have hE6 := hEa.trans fa6
    clear c1 c2 c3 c40 c41 c42 c43 c44 z1 z2 z3 z4 c50 c51 c52 c53 c54 Hv1 Hv2 Hv3 Hv4 R1 R2 R3 R4 HL HLR HO HOR HS HSR hW1 hW2 hW3 hW4 x16 x26 x36 x46 y1 y2 y3 y4 y5 y6 xu1 xu2 xu3 xu4 fu1 fu2 fu3 fu4 fa1 fa2 fa3 fa4 fa5 bB v0 v1 v2 v3 v4 cg rg rh r0 r1
    go_wp2_with fail
    have hS0 : Ext u6 u6.drew := (Ext.refl u6).drew
    refine wp_region_X (fun w' => Ext u6 w') (fun _ => false) (by kernel_rfl) ?_
    refine wpAnyX_take (i := 0) (v := .agg #[.int .i64 x.kind, .int .i64 x.n, .string x.s, .slice a1.a a1.len a1.cap, .slice l1.a l1.len l1.cap]) rfl (by kernel_rfl) (by kernel_rfl) (fun _ _ _ h => h) (.inl ⟨rfl, fun w' hS => by simp [execOp, go_sem, hS.cell j10, hS.cell j11, hS.cell j12, hS.cell j13, hS.cell j14]⟩) (hS0) ?_
    simp only [Act.put, List.getElem_toArray, List.getElem_cons_zero, List.getElem_cons_succ, List.setIfInBounds_toArray, List.set_cons_succ, List.set_cons_zero]
    refine wpAnyX_take (i := 1) (v := .agg #[.int .i64 x.kind, .int .i64 x.n, .string x.s, .slice a2.a a2.len a2.cap, .slice l2.a l2.len l2.cap]) rfl (by kernel_rfl) (by kernel_rfl) (fun _ _ _ h => h) (.inl ⟨rfl, fun w' hS => by simp [execOp, go_sem, hS.cell j20, hS.cell j21, hS.cell j22, hS.cell j23, hS.cell j24]⟩) (hS0) ?_
    simp only [Act.put, List.getElem_toArray, List.getElem_cons_zero, List.getElem_cons_succ, List.setIfInBounds_toArray, List.set_cons_succ, List.set_cons_zero]
    refine wpAnyX_one (j := 2) rfl (by kernel_rfl) rfl fun K hK => ?_
    go_wp2_with fail
    refine (unhide HXX _ hS0).mono ?_
    rintro e k1 ⟨rfl, hk1⟩
    have hS1 : Ext u6 k1 := (hS0).trans hk1
    clear hk1
    go_wp2
    refine hK.out _ _ (hS1) ?_
    clear hK K
    refine wpAnyX_take (i := 3) (v := .bool true) rfl (by kernel_rfl) (by kernel_rfl) (fun _ _ _ h => h) (.inl ⟨rfl, fun w' hS => by simp [execOp, go_sem]⟩) (hS1) ?_
    simp only [Act.put, List.getElem_toArray, List.getElem_cons_zero, List.getElem_cons_succ, List.setIfInBounds_toArray, List.set_cons_succ, List.set_cons_zero]
    refine wpAnyX_take (i := 4) (v := .int .i64 m) rfl (by kernel_rfl) (by kernel_rfl) (fun _ _ _ h => h) (.inl ⟨rfl, fun w' hS => by simp [execOp, go_sem]⟩) (hS1) ?_
    simp only [Act.put, List.getElem_toArray, List.getElem_cons_zero, List.getElem_cons_succ, List.setIfInBounds_toArray, List.set_cons_succ, List.set_cons_zero]
    refine wpAnyX_take (i := 5) (v := .int .i64 m) rfl (by kernel_rfl) (by kernel_rfl) (fun _ _ _ h => h) (.inl ⟨rfl, fun w' hS => by simp [execOp, go_sem]⟩) (hS1) ?_
    simp only [Act.put, List.getElem_toArray, List.getElem_cons_zero, List.getElem_cons_succ, List.setIfInBounds_toArray, List.set_cons_succ, List.set_cons_zero]
    refine wpAnyX_take (i := 6) (v := .bool true) rfl (by kernel_rfl) (by kernel_rfl) (fun _ _ _ h => h) (.inl ⟨rfl, fun w' hS => by simp [execOp, go_sem]⟩) (hS1) ?_
    simp only [Act.put, List.getElem_toArray, List.getElem_cons_zero, List.getElem_cons_succ, List.setIfInBounds_toArray, List.set_cons_succ, List.set_cons_zero]
    refine wpAnyX_take (i := 7) (v := .bool true) rfl (by kernel_rfl) (by kernel_rfl) (fun _ _ _ h => h) (.inl ⟨rfl, fun w' hS => by simp [execOp, go_sem]⟩) (hS1) ?_
    simp only [Act.put, List.getElem_toArray, List.getElem_cons_zero, List.getElem_cons_succ, List.setIfInBounds_toArray, List.set_cons_succ, List.set_cons_zero]
    refine wpAnyX_take (i := 8) (v := .bool true) rfl (by kernel_rfl) (by kernel_rfl) (fun _ _ _ h => h) (.inl ⟨rfl, fun w' hS => by simp [execOp, go_sem]⟩) (hS1) ?_
    simp only [Act.put, List.getElem_toArray, List.getElem_cons_zero, List.getElem_cons_succ, List.setIfInBounds_toArray, List.set_cons_succ, List.set_cons_zero]
    refine wpAnyX_take (i := 9) (v := .agg #[.int .i64 p.kind, .int .i64 p.n, .string p.s, .slice a3.a a3.len a3.cap, .slice l3.a l3.len l3.cap]) rfl (by kernel_rfl) (by kernel_rfl) (fun _ _ _ h => h) (.inl ⟨rfl, fun w' hS => by simp [execOp, go_sem, hS.cell j30, hS.cell j31, hS.cell j32, hS.cell j33, hS.cell j34]⟩) (hS1) ?_
    simp only [Act.put, List.getElem_toArray, List.getElem_cons_zero, List.getElem_cons_succ, List.setIfInBounds_toArray, List.set_cons_succ, List.set_cons_zero]
    refine wpAnyX_take (i := 10) (v := .agg #[.int .i64 p.kind, .int .i64 p.n, .string p.s, .slice a4.a a4.len a4.cap, .slice l4.a l4.len l4.cap]) rfl (by kernel_rfl) (by kernel_rfl) (fun _ _ _ h => h) (.inl ⟨rfl, fun w' hS => by simp [execOp, go_sem, hS.cell j40, hS.cell j41, hS.cell j42, hS.cell j43, hS.cell j44]⟩) (hS1) ?_
    simp only [Act.put, List.getElem_toArray, List.getElem_cons_zero, List.getElem_cons_succ, List.setIfInBounds_toArray, List.set_cons_succ, List.set_cons_zero]
    refine wpAnyX_one (j := 11) rfl (by kernel_rfl) rfl fun K hK => ?_
    go_wp2_with fail
    refine (unhide HPP _ hS1).mono ?_
    rintro e k2 ⟨rfl, hk2⟩
    have hS2 : Ext u6 k2 := (hS1).trans hk2
    clear hk2
    go_wp2
    refine hK.out _ _ (hS2) ?_
    clear hK K
    refine wpAnyX_take (i := 12) (v := .bool true) rfl (by kernel_rfl) (by kernel_rfl) (fun _ _ _ h => h) (.inl ⟨rfl, fun w' hS => by simp [execOp, go_sem]⟩) (hS2) ?_
    simp only [Act.put, List.getElem_toArray, List.getElem_cons_zero, List.getElem_cons_succ, List.setIfInBounds_toArray, List.set_cons_succ, List.set_cons_zero]
    refine wpAnyX_take (i := 13) (v := .bool true) rfl (by kernel_rfl) (by kernel_rfl) (fun _ _ _ h => h) (.inl ⟨rfl, fun w' hS => by simp [execOp, go_sem]⟩) (hS2) ?_
    simp only [Act.put, List.getElem_toArray, List.getElem_cons_zero, List.getElem_cons_succ, List.setIfInBounds_toArray, List.set_cons_succ, List.set_cons_zero]
    refine wpAnyX_take (i := 14) (v := .int .i64 q) rfl (by kernel_rfl) (by kernel_rfl) (fun _ _ _ h => h) (.inl ⟨rfl, fun w' hS => by simp [execOp, go_sem]⟩) (hS2) ?_
    simp only [Act.put, List.getElem_toArray, List.getElem_cons_zero, List.getElem_cons_succ, List.setIfInBounds_toArray, List.set_cons_succ, List.set_cons_zero]
    refine wpAnyX_take (i := 15) (v := .int .i64 q) rfl (by kernel_rfl) (by kernel_rfl) (fun _ _ _ h => h) (.inl ⟨rfl, fun w' hS => by simp [execOp, go_sem]⟩) (hS2) ?_
    simp only [Act.put, List.getElem_toArray, List.getElem_cons_zero, List.getElem_cons_succ, List.setIfInBounds_toArray, List.set_cons_succ, List.set_cons_zero]
    refine wpAnyX_take (i := 16) (v := .bool true) rfl (by kernel_rfl) (by kernel_rfl) (fun _ _ _ h => h) (.inl ⟨rfl, fun w' hS => by simp [execOp, go_sem]⟩) (hS2) ?_
    simp only [Act.put, List.getElem_toArray, List.getElem_cons_zero, List.getElem_cons_succ, List.setIfInBounds_toArray, List.set_cons_succ, List.set_cons_zero]
    refine wpAnyX_take (i := 17) (v := .bool true) rfl (by kernel_rfl) (by kernel_rfl) (fun _ _ _ h => h) (.inl ⟨rfl, fun w' hS => by simp [execOp, go_sem]⟩) (hS2) ?_
    simp only [Act.put, List.getElem_toArray, List.getElem_cons_zero, List.getElem_cons_succ, List.setIfInBounds_toArray, List.set_cons_succ, List.set_cons_zero]
    refine wpAnyX_take (i := 18) (v := .bool true) rfl (by kernel_rfl) (by kernel_rfl) (fun _ _ _ h => h) (.inl ⟨rfl, fun w' hS => by simp [execOp, go_sem]⟩) (hS2) ?_
    simp only [Act.put, List.getElem_toArray, List.getElem_cons_zero, List.getElem_cons_succ, List.setIfInBounds_toArray, List.set_cons_succ, List.set_cons_zero]
    refine wpAnyX_take (i := 19) (v := .int .i64 D) rfl (by kernel_rfl) (by kernel_rfl) (fun _ _ _ h => h) (.inl ⟨rfl, fun w' hS => by simp [execOp, go_sem]⟩) (hS2) ?_
    simp only [Act.put, List.getElem_toArray, List.getElem_cons_zero, List.getElem_cons_succ, List.setIfInBounds_toArray, List.set_cons_succ, List.set_cons_zero]
    refine wpAnyX_take (i := 20) (v := .int .i64 D) rfl (by kernel_rfl) (by kernel_rfl) (fun _ _ _ h => h) (.inl ⟨rfl, fun w' hS => by simp [execOp, go_sem]⟩) (hS2) ?_
    simp only [Act.put, List.getElem_toArray, List.getElem_cons_zero, List.getElem_cons_succ, List.setIfInBounds_toArray, List.set_cons_succ, List.set_cons_zero]
    refine wpAnyX_take (i := 21) (v := .bool true) rfl (by kernel_rfl) (by kernel_rfl) (fun _ _ _ h => h) (.inl ⟨rfl, fun w' hS => by simp [execOp, go_sem]⟩) (hS2) ?_
    simp only [Act.put, List.getElem_toArray, List.getElem_cons_zero, List.getElem_cons_succ, List.setIfInBounds_toArray, List.set_cons_succ, List.set_cons_zero]
    refine wpAnyX_take (i := 22) (v := .bool true) rfl (by kernel_rfl) (by kernel_rfl) (fun _ _ _ h => h) (.inl ⟨rfl, fun w' hS => by simp [execOp, go_sem]⟩) (hS2) ?_
    simp only [Act.put, List.getElem_toArray, List.getElem_cons_zero, List.getElem_cons_succ, List.setIfInBounds_toArray, List.set_cons_succ, List.set_cons_zero]
    refine wpAnyX_take (i := 23) (v := .bool true) rfl (by kernel_rfl) (by kernel_rfl) (fun _ _ _ h => h) (.inl ⟨rfl, fun w' hS => by simp [execOp, go_sem]⟩) (hS2) ?_
    simp only [Act.put, List.getElem_toArray, List.getElem_cons_zero, List.getElem_cons_succ, List.setIfInBounds_toArray, List.set_cons_succ, List.set_cons_zero]
    refine wpAnyX_take (i := 24) (v := .int .i64 N) rfl (by kernel_rfl) (by kernel_rfl) (fun _ _ _ h => h) (.inl ⟨rfl, fun w' hS => by simp [execOp, go_sem]⟩) (hS2) ?_
    simp only [Act.put, List.getElem_toArray, List.getElem_cons_zero, List.getElem_cons_succ, List.setIfInBounds_toArray, List.set_cons_succ, List.set_cons_zero]
    refine wpAnyX_take (i := 25) (v := .int .i64 N) rfl (by kernel_rfl) (by kernel_rfl) (fun _ _ _ h => h) (.inl ⟨rfl, fun w' hS => by simp [execOp, go_sem]⟩) (hS2) ?_
    simp only [Act.put, List.getElem_toArray, List.getElem_cons_zero, List.getElem_cons_succ, List.setIfInBounds_toArray, List.set_cons_succ, List.set_cons_zero]
    refine wpAnyX_take (i := 26) (v := .bool true) rfl (by kernel_rfl) (by kernel_rfl) (fun _ _ _ h => h) (.inl ⟨rfl, fun w' hS => by simp [execOp, go_sem]⟩) (hS2) ?_
    simp only [Act.put, List.getElem_toArray, List.getElem_cons_zero, List.getElem_cons_succ, List.setIfInBounds_toArray, List.set_cons_succ, List.set_cons_zero]
    refine wpAnyX_take (i := 27) (v := .bool true) rfl (by kernel_rfl) (by kernel_rfl) (fun _ _ _ h => h) (.inl ⟨rfl, fun w' hS => by simp [execOp, go_sem]⟩) (hS2) ?_
    simp only [Act.put, List.getElem_toArray, List.getElem_cons_zero, List.getElem_cons_succ, List.setIfInBounds_toArray, List.set_cons_succ, List.set_cons_zero]
    refine wpAnyX_take (i := 28) (v := .bool true) rfl (by kernel_rfl) (by kernel_rfl) (fun _ _ _ h => h) (.inl ⟨rfl, fun w' hS => by simp [execOp, go_sem]⟩) (hS2) ?_
    simp only [Act.put, List.getElem_toArray, List.getElem_cons_zero, List.getElem_cons_succ, List.setIfInBounds_toArray, List.set_cons_succ, List.set_cons_zero]
    refine wpAnyX_take (i := 29) (v := .agg #[.slice sc.a sc.len sc.cap]) rfl (by kernel_rfl) (by kernel_rfl) (fun _ _ _ h => h) (.inl ⟨rfl, fun w' hS => by simp [execOp, go_sem, hS.cell jg]⟩) (hS2) ?_
    simp only [Act.put, List.getElem_toArray, List.getElem_cons_zero, List.getElem_cons_succ, List.setIfInBounds_toArray, List.set_cons_succ, List.set_cons_zero]
    refine wpAnyX_take (i := 30) (v := .string name) rfl (by kernel_rfl) (by kernel_rfl) (fun _ _ _ h => h) (.inl ⟨rfl, fun w' hS => by simp [execOp, go_sem]⟩) (hS2) ?_
    simp only [Act.put, List.getElem_toArray, List.getElem_cons_zero, List.getElem_cons_succ, List.setIfInBounds_toArray, List.set_cons_succ, List.set_cons_zero]
    refine wpAnyX_take (i := 31) (v := .agg #[.int .i64 v.kind, .int .i64 v.n, .string v.s, .slice ci.a ci.len ci.cap, .slice cl.a cl.len cl.cap]) rfl (by kernel_rfl) (by kernel_rfl) (fun _ _ _ h => h) (.inl ⟨rfl, fun w' hS => by simp [execOp, go_sem, hS.cell jh0, hS.cell jh1, hS.cell jh2, hS.cell jh3, hS.cell jh4]⟩) (hS2) ?_
    simp only [Act.put, List.getElem_toArray, List.getElem_cons_zero, List.getElem_cons_succ, List.setIfInBounds_toArray, List.set_cons_succ, List.set_cons_zero]
    refine wpAnyX_take (i := 33) (v := .agg #[.slice sb.a sb.len sb.cap]) rfl (by kernel_rfl) (by kernel_rfl) (fun _ _ _ h => h) (.inl ⟨rfl, fun w' hS => by simp [execOp, go_sem, hS.cell jB]⟩) (hS2) ?_
    simp only [Act.put, List.getElem_toArray, List.getElem_cons_zero, List.getElem_cons_succ, List.setIfInBounds_toArray, List.set_cons_succ, List.set_cons_zero]
    refine wpAnyX_take (i := 34) (v := .string name) rfl (by kernel_rfl) (by kernel_rfl) (fun _ _ _ h => h) (.inl ⟨rfl, fun w' hS => by simp [execOp, go_sem]⟩) (hS2) ?_
    simp only [Act.put, List.getElem_toArray, List.getElem_cons_zero, List.getElem_cons_succ, List.setIfInBounds_toArray, List.set_cons_succ, List.set_cons_zero]
    refine wpAnyX_take (i := 35) (v := .agg #[.int .i64 v.kind, .int .i64 v.n, .string v.s, .slice ids.a ids.len ids.cap, .slice l.a l.len l.cap]) rfl (by kernel_rfl) (by kernel_rfl) (fun _ _ _ h => h) (.inl ⟨rfl, fun w' hS => by simp [execOp, go_sem, hS.cell jv0, hS.cell jv1, hS.cell jv2, hS.cell jv3, hS.cell jv4]⟩) (hS2) ?_
    simp only [Act.put, List.getElem_toArray, List.getElem_cons_zero, List.getElem_cons_succ, List.setIfInBounds_toArray, List.set_cons_succ, List.set_cons_zero]
    refine wpAnyX_one (j := 32) rfl (by kernel_rfl) rfl fun K hK => ?_
    go_wp2_with fail
    refine (unhide HT _ (fa6.trans hS2)).mono ?_
    rintro e k3 ⟨rfl, hk3⟩
    have hS3 : Ext u6 k3 := (hS2).trans hk3
    clear hk3
    go_wp2
    refine hK.out _ _ (hS3) ?_
    clear hK K
    refine wpAnyX_one (j := 36) rfl (by kernel_rfl) rfl fun K hK => ?_
    go_wp2_with fail
    refine (unhide HTR _ (fa6.trans hS3)).mono ?_
    rintro e k4 ⟨rfl, hk4⟩
    have hS4 : Ext u6 k4 := (hS3).trans hk4
    clear hk4
    go_wp2
    refine hK.out _ _ (hS4) ?_
    clear hK K
    refine wpAnyX_take (i := 37) (v := .bool true) rfl (by kernel_rfl) (by kernel_rfl) (fun _ _ _ h => h) (.inl ⟨rfl, fun w' hS => by simp [execOp, go_sem]⟩) (hS4) ?_
    simp only [Act.put, List.getElem_toArray, List.getElem_cons_zero, List.getElem_cons_succ, List.setIfInBounds_toArray, List.set_cons_succ, List.set_cons_zero]
    refine wpAnyX_take (i := 38) (v := .bool true) rfl (by kernel_rfl) (by kernel_rfl) (fun _ _ _ h => h) (.inl ⟨rfl, fun w' hS => by simp [execOp, go_sem]⟩) (hS4) ?_
    simp only [Act.put, List.getElem_toArray, List.getElem_cons_zero, List.getElem_cons_succ, List.setIfInBounds_toArray, List.set_cons_succ, List.set_cons_zero]
    refine wpAnyX_take (i := 39) (v := .bool true) rfl (by kernel_rfl) (by kernel_rfl) (fun _ _ _ h => h) (.inl ⟨rfl, fun w' hS => by simp [execOp, go_sem]⟩) (hS4) ?_
    simp only [Act.put, List.getElem_toArray, List.getElem_cons_zero, List.getElem_cons_succ, List.setIfInBounds_toArray, List.set_cons_succ, List.set_cons_zero]
    refine wpAnyX_take (i := 40) (v := .agg #[.int .i64 v.kind, .int .i64 v.n, .string v.s, .slice ci.a ci.len ci.cap, .slice cl.a cl.len cl.cap]) rfl (by kernel_rfl) (by kernel_rfl) (fun _ _ _ h => h) (.inl ⟨rfl, fun w' hS => by simp [execOp, go_sem, hS.cell jh0, hS.cell jh1, hS.cell jh2, hS.cell jh3, hS.cell jh4]⟩) (hS4) ?_
    simp only [Act.put, List.getElem_toArray, List.getElem_cons_zero, List.getElem_cons_succ, List.setIfInBounds_toArray, List.set_cons_succ, List.set_cons_zero]
    refine wpAnyX_take (i := 41) (v := .agg #[.int .i64 v.kind, .int .i64 v.n, .string v.s, .slice ids.a ids.len ids.cap, .slice l.a l.len l.cap]) rfl (by kernel_rfl) (by kernel_rfl) (fun _ _ _ h => h) (.inl ⟨rfl, fun w' hS => by simp [execOp, go_sem, hS.cell jv0, hS.cell jv1, hS.cell jv2, hS.cell jv3, hS.cell jv4]⟩) (hS4) ?_
    simp only [Act.put, List.getElem_toArray, List.getElem_cons_zero, List.getElem_cons_succ, List.setIfInBounds_toArray, List.set_cons_succ, List.set_cons_zero]
    refine wpAnyX_one (j := 42) rfl (by kernel_rfl) rfl fun K hK => ?_
    go_wp2_with fail
    refine (unhide HVV _ (fa6.trans hS4)).mono ?_
    rintro e k5 ⟨rfl, hk5⟩
    have hS5 : Ext u6 k5 := (hS4).trans hk5
    clear hk5
    go_wp2
    refine hK.out _ _ (hS5) ?_
    clear hK K
    refine wpAnyX_take (i := 43) (v := .bool true) rfl (by kernel_rfl) (by kernel_rfl) (fun _ _ _ h => h) (.inl ⟨rfl, fun w' hS => by simp [execOp, go_sem]⟩) (hS5) ?_
    simp only [Act.put, List.getElem_toArray, List.getElem_cons_zero, List.getElem_cons_succ, List.setIfInBounds_toArray, List.set_cons_succ, List.set_cons_zero]
    refine wpAnyX_take (i := 44) (v := .bool true) rfl (by kernel_rfl) (by kernel_rfl) (fun _ _ _ h => h) (.inl ⟨rfl, fun w' hS => by simp [execOp, go_sem]⟩) (hS5) ?_
    simp only [Act.put, List.getElem_toArray, List.getElem_cons_zero, List.getElem_cons_succ, List.setIfInBounds_toArray, List.set_cons_succ, List.set_cons_zero]
    refine wpAnyX_take (i := 45) (v := .agg #[.slice sc.a sc.len sc.cap]) rfl (by kernel_rfl) (by kernel_rfl) (fun _ _ _ h => h) (.inl ⟨rfl, fun w' hS => by simp [execOp, go_sem, hS.cell jg]⟩) (hS5) ?_
    simp only [Act.put, List.getElem_toArray, List.getElem_cons_zero, List.getElem_cons_succ, List.setIfInBounds_toArray, List.set_cons_succ, List.set_cons_zero]
    refine wpAnyX_take (i := 46) (v := .agg #[.slice sb.a sb.len sb.cap]) rfl (by kernel_rfl) (by kernel_rfl) (fun _ _ _ h => h) (.inl ⟨rfl, fun w' hS => by simp [execOp, go_sem, hS.cell jB]⟩) (hS5) ?_
    simp only [Act.put, List.getElem_toArray, List.getElem_cons_zero, List.getElem_cons_succ, List.setIfInBounds_toArray, List.set_cons_succ, List.set_cons_zero]
    refine wpAnyX_one (j := 47) rfl (by kernel_rfl) rfl fun K hK => ?_
    go_wp2_with fail
    refine (unhide HBB _ (fa6.trans hS5)).mono ?_
    rintro e k6 ⟨rfl, hk6⟩
    have hS6 : Ext u6 k6 := (hS5).trans hk6
    clear hk6
    go_wp2
    refine hK.out _ _ (hS6) ?_
    clear hK K
    refine wpAnyX_take (i := 48) (v := .bool true) rfl (by kernel_rfl) (by kernel_rfl) (fun _ _ _ h => h) (.inl ⟨rfl, fun w' hS => by simp [execOp, go_sem]⟩) (hS6) ?_
    simp only [Act.put, List.getElem_toArray, List.getElem_cons_zero, List.getElem_cons_succ, List.setIfInBounds_toArray, List.set_cons_succ, List.set_cons_zero]
    refine wpAnyX_take (i := 49) (v := .bool true) rfl (by kernel_rfl) (by kernel_rfl) (fun _ _ _ h => h) (.inl ⟨rfl, fun w' hS => by simp [execOp, go_sem]⟩) (hS6) ?_
    simp only [Act.put, List.getElem_toArray, List.getElem_cons_zero, List.getElem_cons_succ, List.setIfInBounds_toArray, List.set_cons_succ, List.set_cons_zero]
    refine wpAnyX_one (j := 50) rfl (by kernel_rfl) rfl fun K hK => ?_
    go_wp2_with fail
    refine (unhide HVA _ (fa6.trans hS6)).mono ?_
    rintro e k7 ⟨rfl, hk7⟩
    have hS7 : Ext u6 k7 := (hS6).trans hk7
    clear hk7
    go_wp2
    refine hK.out _ _ (hS7) ?_
    clear hK K
    refine wpAnyX_take (i := 51) (v := .bool true) rfl (by kernel_rfl) (by kernel_rfl) (fun _ _ _ h => h) (.inl ⟨rfl, fun w' hS => by simp [execOp, go_sem]⟩) (hS7) ?_
    simp only [Act.put, List.getElem_toArray, List.getElem_cons_zero, List.getElem_cons_succ, List.setIfInBounds_toArray, List.set_cons_succ, List.set_cons_zero]
    refine wpAnyX_take (i := 52) (v := .bool true) rfl (by kernel_rfl) (by kernel_rfl) (fun _ _ _ h => h) (.inl ⟨rfl, fun w' hS => by simp [execOp, go_sem]⟩) (hS7) ?_
    simp only [Act.put, List.getElem_toArray, List.getElem_cons_zero, List.getElem_cons_succ, List.setIfInBounds_toArray, List.set_cons_succ, List.set_cons_zero]
    refine wpAnyX_end [] [] rfl (by intro j i hj; simp at hj) (by kernel_rfl) (by intro i hi; simp at hi) fun K hK => ?_
    go_wp2
    refine hK.out _ _ ?_
    clear hK K
    go_wp2
    go_ret
    exact ⟨rfl, hE6.trans hS7⟩
end Go.Proofs.YtmdpdgldmedebaaGreatDoor

