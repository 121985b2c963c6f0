import Derived.Test.YtmdpdgldmedebaaGreatDoorM39
namespace Go.Proofs.YtmdpdgldmedebaaGreatDoor
set_option linter.unusedSimpArgs false
set_option linter.unusedVariables false
set_option linter.unusedSimpArgs false
set_option linter.unusedVariables false
open Go.RowKit

def LB (sb : SV) (ts : BookM) (k : Nat) : Prop := ∀ (f : FieldM) (w : World), BookAt w sb ts → LrF ts (LeR ts k) f →
  Calls Tryz.prog 26 #[.agg #[.slice sb.a sb.len sb.cap], .agg #[.int .i64 f.id, .string f.name, .string f.type, .int .i64 f.kind, .int .i64 f.rule]] w fun e w' => ∃ ids l : SV, e = .returned (.agg #[.int .i64 (leastF ts (leastV ts k) f).kind, .int .i64 (leastF ts (leastV ts k) f).n, .string (leastF ts (leastV ts k) f).s, .slice ids.a ids.len ids.cap, .slice l.a l.len l.cap]) ∧ ValueAtP (Btw w w') (k + 1) w' [.int .i64 (leastF ts (leastV ts k) f).kind, .int .i64 (leastF ts (leastV ts k) f).n, .string (leastF ts (leastV ts k) f).s, .slice ids.a ids.len ids.cap, .slice l.a l.len l.cap] (leastF ts (leastV ts k) f) ∧ Ext w w'
set_option maxHeartbeats 12800000 in
set_option maxRecDepth 10000 in
theorem leastBy_any (sb : SV) (ts : BookM) (hn : ts.Small) : ∀ k : Nat, LB sb ts k := by
  intro k
  induction k with
  | zero =>
    intro f w hb hf
    by_cases h5 : f.kind = 5
    · exact (hf.2.2.2 h5).elim
    · exact leastBy_leaf sb ts hn 0 _ f w hb hf h5
  | succ k ih =>
    intro fo w hb hfo
    by_cases h5 : fo.kind = 5
    case neg => exact leastBy_leaf sb ts hn (k + 1) _ fo w hb hfo h5
    have Hone : Hid (LB sb ts k) := ih
    obtain ⟨htl, hlf⟩ := hfo.2.2.2 h5
    obtain ⟨x, hx⟩ : ∃ x, x = leastF ts (leastV ts (k + 1)) fo := ⟨_, rfl⟩
    rw [← hx]
    obtain ⟨T, hT⟩ : ∃ T, T = (findM ts fo.type).getD TypeM.zero := ⟨_, rfl⟩
    unfold typeF at htl hlf
    rw [← hT] at htl hlf
    have Hx : Hid (x = ⟨2, 0, ⟨#[]⟩, (onesL T.fields).map (·.id), (onesL T.fields).map (leastF ts (leastV ts k))⟩) := by
      unfold Hid; rw [hx, hT]; unfold leastF; rw [if_neg (by omega), if_pos h5]; rfl
    obtain ⟨w0, hw0⟩ : ∃ w0, w0 = ((w.alloc (.cells #[.slice sb.a sb.len sb.cap] 24)).alloc (.cells #[.int .i64 fo.id, .string fo.name, .string fo.type, .int .i64 fo.kind, .int .i64 fo.rule] 56)).alloc (.cells #[.int .i64 0, .int .i64 0, .string ⟨#[]⟩, .slice none 0 0, .slice none 0 0] 28) := ⟨_, rfl⟩
    obtain ⟨hx0, hz, r0, r1, r2⟩ := heaps3 hw0
    have HW0 := hide hw0
    obtain ⟨f0, f1, f2, f3, f4, _⟩ := row5 r1
    have b0 : w0.cell? ⟨w.heap.size, 0, none⟩ = some (.slice sb.a sb.len sb.cap) := cell_of_row _ _ 0 _ _ _ r0
    have HT := hide (refTypeOf_any sb ts fo.type w0 (hb.ext hx0) hn.1)
    rw [← hT] at HT
    have HK : Hid (∀ w2 : World, Calls Tryz.prog 44 #[.int .i64 fo.kind] w2 fun e w' => e = .returned (.int .i64 2) ∧ Ext w2 w') := fun w2 => by
      have := wireKind_any fo.kind w2 (by omega) (by omega)
      rwa [show kindN fo.kind = 2 by rw [h5]; decide] at this
    have hkb : (fo.kind == 4) = false := by simp [h5]
    have Hb := hide hb
    have Hlf := hide hlf
    clear hx hT hb hlf hw0 h5 hfo ih
    go_enter Tryz.func26, Tryz.ntmps26
    go_wp2_with fail
    rw [← unhide HW0]
    refine (unhide HT).mono ?_
    rintro e w1 ⟨tv, rfl, htv, hx1⟩
    have hfl := htv.fields.1
    have hfs := htv.fields
    obtain ⟨nm, en, ⟨fa, fl, fc⟩, gs, is⟩ := tv
    simp only at hfl hfs
    subst hfl
    have Hfs := hide hfs
    have c3 := hx1.cell f3
    have c0 := hx1.cell f0
    have cr := hx1.heap r2
    have z1 := World.block_lt_of_cell? w1 _ c0
    have z2 := lt_of_heap cr
    have r3 : (w1.alloc (.cells #[.string nm, .bool en, .slice fa T.fields.length fc, .slice gs.a gs.len gs.cap, .slice is.a is.len is.cap] 50)).heap[w1.heap.size]? = some (.cells #[.string nm, .bool en, .slice fa T.fields.length fc, .slice gs.a gs.len gs.cap, .slice is.a is.len is.cap] 50 (0, 0)) := heap_alloc_new _ _
    have hx2 : Ext w1 (w1.alloc (.cells #[.string nm, .bool en, .slice fa T.fields.length fc, .slice gs.a gs.len gs.cap, .slice is.a is.len is.cap] 50)) := (Ext.refl w1).alloc _
    clear htv hfs
    go_wp2_with fail
    refine (unhide HK _).mono ?_
    rintro e w2 ⟨rfl, hx3⟩
    have h03 := hx1.trans (hx2.trans hx3)
    have d3 := h03.cell f3
    have dr := h03.heap r2
    have dt := hx3.heap r3
    obtain ⟨t0, t1, t2, t3, t4, _⟩ := row5 dt
    have y1 := World.block_lt_of_cell? w2 _ d3
    have y2 := lt_of_heap dr
    have y3 := lt_of_heap dt
    have hE2 := hx0.trans h03
    clear c3 c0 cr z1 z2 r3
    obtain ⟨W3, hW3⟩ : ∃ W3, W3 = w2.alloc (.cells #[.int .i64 2, .int .i64 0, .string ⟨#[]⟩, .slice none 0 0, .slice none 0 0] 28) := ⟨_, rfl⟩
    have hE3 : Ext w W3 := by rw [hW3]; exact hE2.alloc _
    have h0W3 : Ext w0 W3 := by rw [hW3]; exact h03.alloc _
    have rA : W3.heap[w2.heap.size]? = some (.cells #[.int .i64 2, .int .i64 0, .string ⟨#[]⟩, .slice none 0 0, .slice none 0 0] 28 (0, 0)) := by rw [hW3]; exact heap_alloc_new _ _
    have rR : W3.heap[w.heap.size + 1 + 1]? = some (.cells #[.int .i64 0, .int .i64 0, .string ⟨#[]⟩, .slice none 0 0, .slice none 0 0] 28 (0, 0)) := by rw [hW3]; exact ((Ext.refl w2).alloc _).heap dr
    have rB3 : W3.heap[w.heap.size]? = some (.cells #[.slice sb.a sb.len sb.cap] 24 (0, 0)) := h0W3.heap r0
    have hWs : w2.heap.size + 1 ≤ W3.heap.size := by rw [hW3]; simp
    have hA0 : w0.heap.size ≤ w2.heap.size := h03.size
    have hAw : w.heap.size + 3 ≤ w2.heap.size := by have := h03.size; omega
    have HW3 := hide hW3
    have hti : T.fields.length ≤ 9223372036854775807 := by omega
    clear hW3 hz dr dt hE2 h03 hx3 y2
    go_wp2
    rw [← unhide HW3]
    clear HW3 t0 t1 t2 t3 t4 d3 y1 y3 b0 hx1 hx2
    generalize w2.heap.size = AA at *
    go_loopw [33] (fun i wr => ∃ (j n : Nat) (vi vL : Value), j ≤ T.fields.length ∧ i = .int .i64 j ∧ n = (onesL (T.fields.take j)).length ∧ wr.heap[AA]? = some (.cells #[.int .i64 2, .int .i64 0, .string ⟨#[]⟩, vi, vL] 28 (0, 0)) ∧ wr.ownsRow (AA + 1) 3 1 vi n (((onesL (T.fields.take j)).map (·.id)).flatMap encI) ∧ VRow (k + 1) wr (AA + 1) (fun b => AA + 1 ≤ b) vi.ownBlock vL ((onesL (T.fields.take j)).map (leastF ts (leastV ts k))) ∧ Below (AA) W3 wr) (fun i _ => T.fields.length - (intOf i).toNat)
    case atStart => exact ⟨0, 0, _, _, by omega, rfl, by simp [onesL], rA, World.ownsRow_nil _ _ _ _, VRow.nil _ _ _ _ _, Below.refl _ _⟩
    case round =>
      obtain ⟨j, n, vi, vL, hj, rfl, rfl, hA, hoi, hvr, hbl⟩ := hrel
      have hbw : Below w.heap.size W3 wr := hbl.mono (by omega)
      have hEr : Ext w wr := Below.trans hE3 hbw
      have hwz : AA + 1 ≤ wr.heap.size := by have := hbl.size; omega
      have hAz := lt_of_heap hA
      have hvLwr : ∀ b, vL.ownBlock = some b → b < wr.heap.size := by obtain ⟨css, hc1, _, _⟩ := hvr; exact fun b hb => (hc1.lt b hb).2
      have hvLwr' : ∀ b, vL.ownBlock = some b → AA + 1 ≤ b := by obtain ⟨css, hc1, _, _⟩ := hvr; exact fun b hb => (hc1.lt b hb).1
      obtain ⟨a0, a1, a2, a3, a4, af⟩ := row5 hA
      have bB : wr.cell? ⟨w.heap.size, 0, none⟩ = some (.slice sb.a sb.len sb.cap) := by rw [Below.cell hbl (by show w.heap.size < AA; omega)]; exact cell_of_row _ _ 0 _ _ _ rB3
      have r2' : wr.heap[w.heap.size + 1 + 1]? = some (.cells #[.int .i64 0, .int .i64 0, .string ⟨#[]⟩, .slice none 0 0, .slice none 0 0] 28 (0, 0)) := by rw [hbl.block _ (by omega)]; exact rR
      by_cases hlt : j < T.fields.length
      · obtain ⟨b, o, cs, hfa, hr, rfl⟩ := (unhide Hfs).2 j T.fields[j] (by simp [hlt])
        simp only at hfa
        subst hfa
        obtain ⟨c0, c1, c2, c3, c4⟩ := range5 ((show Ext w0 wr from Below.trans h0W3 (hbl.mono hA0)).range hr)
        have hones := ones_take hlt
        have hlej := unhide Hlf T.fields[j] (List.getElem_mem hlt)
        have hol := ones_len T.fields j
        have hji : (j : Int) < (T.fields.length : Int) := by omega
        generalize T.fields[j] = f at *
        have hxF : Ext wr (wr.alloc (.cells #[.int .i64 f.id, .string f.name, .string f.type, .int .i64 f.kind, .int .i64 f.rule] 56)) := (Ext.refl wr).alloc _
        clear hr
        by_cases hr1 : f.rule = 1
        case neg =>
          have hrb : (f.rule == 1) = false := by simpa using hr1
          rw [hrb, if_neg (by simp), List.append_nil] at hones
          have Hones := hide hones
          have Hoi := hide hoi
          have Hvr := hide hvr
          have Hbl := hide hbl
          clear hones hr1 hoi hvr hbl hbw
          go_wp2
          exact ⟨⟨j + 1, _, vi, vL, by omega, by go_num, by rw [unhide Hones], hxF.heap hA, by rw [unhide Hones]; exact (unhide Hoi).alloc _, by rw [unhide Hones]; exact (unhide Hvr).ext hxF, (unhide Hbl).alloc (by omega) _⟩, by simp [intOf]; omega⟩
        have hrb : (f.rule == 1) = true := by simp [hr1]
        have hlf := hlej hr1
        rw [hrb, if_pos rfl] at hones
        have Hones := hide hones
        have Hoi := hide hoi
        have Hvr := hide hvr
        have Hbl := hide hbl
        have Hr1 := hide hr1
        clear hones hr1 hoi hvr hbl hbw hlej
        go_wp2_with (at_builtin; refine wpList_app1w _ _ 25 3 (.int .i64 0) 1 8 Tryz.underlying25 info3 rfl (by decide) (by decide) rfl rfl (AA + 1) _ (onesL (T.fields.take j)).length _ rfl (((unhide Hoi).alloc _).alloc _) (wr.heap.size + 1) 1 [.int .i64 f.id] rfl rfl ?c1 ?c2 ?c3 ?c4 ?_)
        case c1 => exact range_of_new1 _ _ _ (by simp)
        case c2 => intro u hu; simp at hu; subst hu; rfl
        case c3 => omega
        case c4 => simp; omega
        intro v1 w1 ho1 hg1 hw1
        obtain ⟨s1, hs1⟩ : ∃ s : SV, v1 = .slice s.a s.len s.cap := by obtain ⟨a', c', e'⟩ := owns_slice ho1; exact ⟨⟨a', _, c'⟩, e'⟩
        subst hs1
        have hWa : Ext wr ((wr.alloc (.cells #[.int .i64 f.id, .string f.name, .string f.type, .int .i64 f.kind, .int .i64 f.rule] 56)).alloc (.cells #[.int .i64 f.id] 3)) := ((Ext.refl wr).alloc _).alloc _
        have hoilt := (unhide Hoi).lt
        have hA1 : w1.heap[AA]? = some (.cells #[.int .i64 2, .int .i64 0, .string ⟨#[]⟩, vi, vL] 28 (0, 0)) := by
          have h0 := hWa.heap hA
          rw [hg1.block _ (lt_of_heap h0) (fun e => by have := (hoilt _ e.symm).1; omega)]; exact h0
        have hF1 : w1.heap[wr.heap.size]? = some (.cells #[.int .i64 f.id, .string f.name, .string f.type, .int .i64 f.kind, .int .i64 f.rule] 56 (0, 0)) := by
          have h0 := ((Ext.refl (wr.alloc (.cells #[.int .i64 f.id, .string f.name, .string f.type, .int .i64 f.kind, .int .i64 f.rule] 56))).alloc (.cells #[.int .i64 f.id] 3)).heap (heap_alloc_new wr (.cells #[.int .i64 f.id, .string f.name, .string f.type, .int .i64 f.kind, .int .i64 f.rule] 56))
          rw [hg1.block _ (lt_of_heap h0) (fun e => by have := (hoilt _ e.symm).2; omega)]; exact h0
        have hz1 : wr.heap.size + 2 ≤ w1.heap.size := by have := hg1.size; simp at this; omega
        have hbl1 : Below (AA) W3 w1 := (((unhide Hbl).alloc (by omega) _).alloc (by simp; omega) _).grown hg1 (by simp; omega) (fun k hk => by have := (hoilt k hk).1; omega)
        have hap : vL.ownBlock = none ∨ vL.ownBlock ≠ vi.ownBlock := by
          obtain ⟨css, hc1, _, _⟩ := unhide Hvr
          exact owns_apart hc1 (unhide Hoi) (by decide)
        have hvr1 := ((unhide Hvr).ext hWa).other (ex' := (Value.ownBlock (.slice s1.a s1.len s1.cap))) hg1 hap (by simpa using hw1)
        obtain ⟨a0, a1, a2, a3, a4, af⟩ := row5 hA1
        have hAz1 := lt_of_heap hA1
        have ho1' : w1.ownsRow (AA + 1) 3 1 (.slice s1.a s1.len s1.cap) ((onesL (T.fields.take j)).length + 1) (((onesL (T.fields.take j)).map (·.id)).flatMap encI ++ [.int .i64 f.id]) := ho1
        have Ho1 := hide ho1'
        have Hvr1 := hide hvr1
        have Hbl1 := hide hbl1
        clear ho1 ho1' hg1 hw1 hap hvr1 hbl1 Hoi Hvr Hbl hoilt hWa
        go_wp2_with fail
        obtain ⟨W, hW⟩ : ∃ W, W = w1.setCell ⟨AA, 3, none⟩ (.slice s1.a s1.len s1.cap) := ⟨_, rfl⟩
        have hAW : W.heap[AA]? = some (.cells #[.int .i64 2, .int .i64 0, .string ⟨#[]⟩, (.slice s1.a s1.len s1.cap), vL] 28 (0, 0)) := by
          rw [hW]
          have := heap_setCell_same w1 (AA) 3 _ 28 (.slice s1.a s1.len s1.cap) hA1
          simpa using this
        have hFW : W.heap[wr.heap.size]? = some (.cells #[.int .i64 f.id, .string f.name, .string f.type, .int .i64 f.kind, .int .i64 f.rule] 56 (0, 0)) := by rw [hW, heap_setCell_other _ _ _ _ (show wr.heap.size ≠ AA by omega)]; exact hF1
        have hblW : Below (AA) W3 W := by rw [hW]; exact (unhide Hbl1).setCell (by show AA ≤ AA; omega) _
        have hoW : W.ownsRow (AA + 1) 3 1 (.slice s1.a s1.len s1.cap) ((onesL (T.fields.take j)).length + 1) (((onesL (T.fields.take j)).map (·.id)).flatMap encI ++ [.int .i64 f.id]) := by rw [hW]; exact ownsRow_setCell_below (unhide Ho1) (by show AA < AA + 1; omega) _
        have hvW : VRow (k + 1) W (AA + 1) (fun b => AA + 1 ≤ b) (Value.ownBlock (.slice s1.a s1.len s1.cap)) vL ((onesL (T.fields.take j)).map (leastF ts (leastV ts k))) := by rw [hW]; exact (unhide Hvr1).set (fun e => by have h := hvLwr' _ e; simp only at h; omega) (fun b hb => by simp only; omega) _
        have hzW : W.heap.size = w1.heap.size := by rw [hW]; simp
        rw [← hW]
        clear hW Ho1 Hvr1 Hbl1
        have hEW : Ext w W := Below.trans hE3 (hblW.mono (by omega))
        obtain ⟨g0, g1, g2, g3, g4, _⟩ := row5 hFW
        have hS0 : LmS (AA) w.heap.size wr.heap.size sb vL f W := ⟨cell_of_row _ _ 4 _ _ _ hAW, by rw [Below.cell hblW (by show w.heap.size < AA; omega)]; exact cell_of_row _ _ 0 _ _ _ rB3, g0, g1, g2, g3, g4⟩
        have hSd : LmS (AA) w.heap.size wr.heap.size sb vL f W.drew := hS0.ext ((Ext.refl W).drew)
        clear a0 a1 a2 a3 a4 af g0 g1 g2 g3 g4 hA1 hF1 hA bB
        refine wp_region_X (LmS (AA) w.heap.size wr.heap.size sb vL f) (fun j => decide (8 ≤ j)) (by kernel_rfl) ?_
        refine wpAnyX_take (i := 0) (v := .pointer (some ⟨AA, 4, none⟩)) rfl (by kernel_rfl) (by kernel_rfl) (fun _ _ _ h => h) (.inl ⟨rfl, fun w' hS => by simp [execOp, go_sem]⟩) (hSd) ?_
        simp only [Act.put, List.getElem_toArray, List.getElem_cons_zero, List.getElem_cons_succ, List.setIfInBounds_toArray, List.set_cons_succ, List.set_cons_zero]
        refine wpAnyX_take (i := 1) (v := vL) rfl (by kernel_rfl) (by kernel_rfl) (fun _ _ _ h => h) (.inl ⟨rfl, fun w' hS => by simp [execOp, go_sem, hS.1]⟩) (hSd) ?_
        simp only [Act.put, List.getElem_toArray, List.getElem_cons_zero, List.getElem_cons_succ, List.setIfInBounds_toArray, List.set_cons_succ, List.set_cons_zero]
        refine wpAnyX_take (i := 2) (v := .agg #[.slice sb.a sb.len sb.cap]) rfl (by kernel_rfl) (by kernel_rfl) (fun _ _ _ h => h) (.inl ⟨rfl, fun w' hS => by simp [execOp, go_sem, hS.2.1]⟩) (hSd) ?_
        simp only [Act.put, List.getElem_toArray, List.getElem_cons_zero, List.getElem_cons_succ, List.setIfInBounds_toArray, List.set_cons_succ, List.set_cons_zero]
        refine wpAnyX_take (i := 3) (v := .agg #[.int .i64 f.id, .string f.name, .string f.type, .int .i64 f.kind, .int .i64 f.rule]) rfl (by kernel_rfl) (by kernel_rfl) (fun _ _ _ h => h) (.inl ⟨rfl, fun w' hS => by simp [execOp, go_sem, hS.2.2.1, hS.2.2.2.1, hS.2.2.2.2.1, hS.2.2.2.2.2.1, hS.2.2.2.2.2.2]⟩) (hSd) ?_
        simp only [Act.put, List.getElem_toArray, List.getElem_cons_zero, List.getElem_cons_succ, List.setIfInBounds_toArray, List.set_cons_succ, List.set_cons_zero]
        refine wpAnyX_one (j := 4) rfl (by kernel_rfl) rfl fun K hK => ?_
        go_wp2_with fail
        refine (unhide Hone f W.drew ((unhide Hb).ext (hEW.drew)) hlf).mono ?_
        rintro e w3 ⟨xi, xl, rfl, hv3, hx3⟩
        have hx3' : Ext W w3 := ((Ext.refl W).drew).trans hx3
        have hS3 := hSd.ext hx3
        generalize hxd : leastF ts (leastV ts k) f = xv at *
        have Hv3 := hide hv3
        have Hxd := hide hxd
        clear hv3 hxd
        go_wp2
        refine hK.out _ _ (hS3) ?_
        clear hK K
        refine wpAnyX_one (j := 5) rfl (by kernel_rfl) rfl fun K hK => ?_
        go_wp2
        have hx4 : Ext w3 (w3.alloc (.cells #[.int .i64 xv.kind, .int .i64 xv.n, .string xv.s, .slice xi.a xi.len xi.cap, .slice xl.a xl.len xl.cap] 28)) := (Ext.refl w3).alloc _
        refine hK.out _ _ (hS3.ext hx4) ?_
        clear hK K
        have hW4 : Ext W (w3.alloc (.cells #[.int .i64 xv.kind, .int .i64 xv.n, .string xv.s, .slice xi.a xi.len xi.cap, .slice xl.a xl.len xl.cap] 28)) := hx3'.trans hx4
        have hv4 := hvW.ext hW4
        obtain ⟨css, hc1, hc2, hc3⟩ := hv4
        have hcl := hvW
        obtain ⟨css0, hd1, _, _⟩ := hcl
        have hvLlt := hd1.lt
        have hoWlt := hoW.lt
        have hxv4 : ValueAtP (fun b => AA + 1 ≤ b ∧ vL.ownBlock ≠ some b ∧ (Value.ownBlock (.slice s1.a s1.len s1.cap)) ≠ some b ∧ b < (w3.alloc (.cells #[.int .i64 xv.kind, .int .i64 xv.n, .string xv.s, .slice xi.a xi.len xi.cap, .slice xl.a xl.len xl.cap] 28)).heap.size) (k + 1) (w3.alloc (.cells #[.int .i64 xv.kind, .int .i64 xv.n, .string xv.s, .slice xi.a xi.len xi.cap, .slice xl.a xl.len xl.cap] 28)) [.int .i64 xv.kind, .int .i64 xv.n, .string xv.s, .slice xi.a xi.len xi.cap, .slice xl.a xl.len xl.cap] xv :=
          ((unhide Hv3).ext hx4).sub fun b hb => by
            have h1 : W.heap.size ≤ b := hb.1
            have h2 := hb.2
            refine ⟨by omega, fun e => ?_, fun e => ?_, by simp; omega⟩
            · have := (hvLlt b e).2; omega
            · have := (hoWlt b e).2; omega
        have Hc1 := hide hc1
        have hz3 : W.heap.size ≤ w3.heap.size := hx3'.size
        refine wpAnyX_one (j := 6) rfl (by kernel_rfl) rfl fun K hK => ?_
        refine wpList_app1w _ _ 26 28 (.agg #[.int .i64 0, .int .i64 0, .string ⟨#[]⟩, .slice none 0 0, .slice none 0 0]) 5 80 Tryz.underlying26 info28 rfl (by decide) (by decide) rfl rfl (AA + 1) _ _ _ rfl (unhide Hc1) w3.heap.size 1 [.int .i64 xv.kind, .int .i64 xv.n, .string xv.s, .slice xi.a xi.len xi.cap, .slice xl.a xl.len xl.cap] rfl rfl ?d1 ?d2 ?d3 ?d4 ?_
        case d1 => exact range_of_new5 _ _ _ _ _ _ _ rfl
        case d2 => exact hxv4.one
        case d3 => rw [List.length_map]; omega
        case d4 => simp; omega
        intro v6 w6 ho6 hg6 hw6
        obtain ⟨s6, hs6⟩ : ∃ s : SV, v6 = .slice s.a s.len s.cap := by obtain ⟨a', c', e'⟩ := owns_slice ho6; exact ⟨⟨a', _, c'⟩, e'⟩
        subst hs6
        have hs6lt : ∀ b, Value.ownBlock (.slice s6.a s6.len s6.cap) = some b → AA + 1 ≤ b := fun b hb => (ho6.lt b hb).1
        have hv6 := VRow.push hc2 hc3 hxv4 ho6 hg6 hw6
        have hA6 : w6.heap[AA]? = some (.cells #[.int .i64 2, .int .i64 0, .string ⟨#[]⟩, .slice s1.a s1.len s1.cap, vL] 28 (0, 0)) := by
          have h0 := hW4.heap hAW
          rw [hg6.block _ (lt_of_heap h0) (fun e => by have := (hvLlt _ e.symm).1; omega)]; exact h0
        have hzA : AA < W.heap.size := lt_of_heap hAW
        have hzF : wr.heap.size < W.heap.size := lt_of_heap hFW
        have hS6 : LmS (AA) w.heap.size wr.heap.size sb vL f w6 := (hS3.ext hx4).grown hg6 (fun e => by have := (hvLlt _ e.symm).1; omega) (fun e => by have := (hvLlt _ e.symm).1; omega) (fun e => by have := hvLwr _ e.symm; omega)
        have ho16 := (owns_ext hoW hW4).kept hg6 (owns_apart hoW hd1 (by decide))
        have hbl6 : Below (AA) W3 w6 := (Below.trans hblW (hW4.mono (by omega))).grown hg6 (by simp; omega) (fun k hk => by have := (hvLlt k hk).1; omega)
        have hz6 := lt_of_heap hA6
        obtain ⟨a0, a1, a2, a3, a4, af⟩ := row5 hA6
        have Hv6 := hide hv6
        have Ho16 := hide ho16
        have Hbl6 := hide hbl6
        clear ho6 hg6 hw6 hc1 hc2 hc3 hd1 hv6 ho16 hbl6 hxv4 hvW hoW hblW
        go_wp2
        refine hK.out _ _ (hS6) ?_
        clear hK K
        refine wpAnyX_one (j := 7) rfl (by kernel_rfl) rfl fun K hK => ?_
        go_wp2
        refine hK.out _ _ (hS6) ?_
        clear hK K
        refine wpAnyX_end [8] [_] rfl (by intro j i hj; match j, hj with | 0, hj => cases hj; rfl) (by kernel_rfl) (by intro i hi; cases hi; rfl) fun K hK => ?_
        go_wp2
        refine hK.out _ _ ?_
        clear hK K
        go_wp2
        refine ⟨⟨j + 1, _, .slice s1.a s1.len s1.cap, .slice s6.a s6.len s6.cap, by omega, by go_num, rfl, ?_, ?_, ?_, ?_⟩, by simp [intOf]; omega⟩
        · have := heap_setCell_same w6 (AA) 4 _ 28 (.slice s6.a s6.len s6.cap) hA6
          simpa using this
        · rw [unhide Hones, List.map_append, List.flatMap_append, List.length_append]
          exact ownsRow_setCell_below (unhide Ho16) (by show AA < AA + 1; omega) _
        · rw [unhide Hones, List.map_append]
          have h := (unhide Hv6).set (p := ⟨AA, 4, none⟩) (fun e => by have h := hs6lt _ e; simp only at h; omega) (fun b hb => by simp only; omega) (.slice s6.a s6.len s6.cap)
          rw [← unhide Hxd] at h
          exact h
        · exact (unhide Hbl6).setCell (by show AA ≤ AA; omega) _
      · have htk : T.fields.take j = T.fields := List.take_of_length_le (by omega)
        rw [htk] at hoi hvr
        obtain ⟨si, hsi⟩ : ∃ s : SV, vi = .slice s.a s.len s.cap := by obtain ⟨a', c', e'⟩ := owns_slice hoi; exact ⟨⟨a', _, c'⟩, e'⟩
        subst hsi
        obtain ⟨sl, rfl, hsl, hslok, hslb⟩ := hvr.slice
        obtain ⟨si', hsi', hint⟩ := ints_of_owns hoi (by simp)
        have hiok := ok_of_owns hoi
        have hilt := hoi.lt
        simp only [Value.slice.injEq] at hsi'
        obtain rfl : si = si' := by cases si; cases si'; simp_all
        have Hint := hide hint
        have Hsl := hide hsl
        obtain ⟨q0, q1, q2, q3, q4, qf⟩ := row5 r2'
        have hz2 := lt_of_heap r2'
        clear hint hsl hoi hvr
        go_wp2
        refine bodyPost_ret (v := .agg #[.int .i64 2, .int .i64 0, .string ⟨#[]⟩, .slice si.a si.len si.cap, .slice sl.a sl.len sl.cap]) ?_ rfl ?_
        · simp [results, Tryz.results26, go_sem, q0, q1, q2, q3, q4, hz2]
        · have hE : Ext w (((((wr.setCell ⟨w.heap.size + 1 + 1, 0, none⟩ (.int .i64 2)).setCell ⟨w.heap.size + 1 + 1, 1, none⟩ (.int .i64 0)).setCell ⟨w.heap.size + 1 + 1, 2, none⟩ (.string ⟨#[]⟩)).setCell ⟨w.heap.size + 1 + 1, 3, none⟩ (.slice si.a si.len si.cap)).setCell ⟨w.heap.size + 1 + 1, 4, none⟩ (.slice sl.a sl.len sl.cap)) := hEr.setCell5 (by omega) _ _ _ _ _
          rw [unhide Hx]
          refine ⟨si, sl, rfl, ?_, hE⟩
          have h0 : ValueAtP (fun b => AA + 1 ≤ b ∧ b < wr.heap.size) (k + 2) wr [.int .i64 2, .int .i64 0, .string ⟨#[]⟩, .slice si.a si.len si.cap, .slice sl.a sl.len sl.cap] ⟨2, 0, ⟨#[]⟩, (onesL T.fields).map (·.id), (onesL T.fields).map (leastF ts (leastV ts k))⟩ :=
            ⟨si, sl, rfl, unhide Hint, unhide Hsl, hiok, hslok, fun ad ha => hilt ad.block (by simp [Value.ownBlock, ha]), hslb⟩
          refine (h0.keep fun b ob hb hob => ?_).sub fun b hb => ⟨by have := hb.1; omega, by simpa using hb.2⟩
          have hne : b ≠ w.heap.size + 1 + 1 := by have := hb.1; omega
          rw [heap_setCell_other _ _ _ _ hne, heap_setCell_other _ _ _ _ hne, heap_setCell_other _ _ _ _ hne, heap_setCell_other _ _ _ _ hne, heap_setCell_other _ _ _ _ hne]; exact hob
end Go.Proofs.YtmdpdgldmedebaaGreatDoor

