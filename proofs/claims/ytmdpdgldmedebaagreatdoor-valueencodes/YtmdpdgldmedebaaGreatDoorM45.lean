import Derived.Test.YtmdpdgldmedebaaGreatDoorM44
namespace Go.Proofs.YtmdpdgldmedebaaGreatDoor
set_option linter.unusedSimpArgs false
set_option linter.unusedVariables false
set_option linter.unusedSimpArgs false
set_option linter.unusedVariables false
open Go.RowKit

set_option maxHeartbeats 12800000 in
set_option maxRecDepth 10000 in
theorem bytesOf_any : ∀ (k : Nat) (v : ValueM) (ids l : SV) (w : World), EncOk k v → ValueAt k w [.int .i64 v.kind, .int .i64 v.n, .string v.s, .slice ids.a ids.len ids.cap, .slice l.a l.len l.cap] v →
    Calls Tryz.prog 39 #[.agg #[.int .i64 v.kind, .int .i64 v.n, .string v.s, .slice ids.a ids.len ids.cap, .slice l.a l.len l.cap]] w fun e w' => e = .returned (.tuple #[.string ⟨(encV k v).toArray⟩, .int .i64 0]) ∧ Ext w w' := by
  intro k
  induction k with
  | zero => intro _ _ _ _ h; exact h.elim
  | succ k ih =>
    intro v ids l w hok hv
    obtain ⟨ids', l', he, hids, hl, hiok, hlok⟩ := hv
    simp only [List.cons.injEq, Value.slice.injEq, and_true, true_and] at he
    obtain ⟨⟨i1, i2, i3⟩, l1, l2, l3⟩ := he
    obtain rfl : l = l' := by cases l; cases l'; simp_all
    obtain rfl : ids = ids' := by cases ids; cases ids'; simp_all
    clear i1 i2 i3 l1 l2 l3 hiok hlok
    obtain ⟨hlen, hln, hin, hgood, hlong⟩ := hok
    obtain ⟨ia, il, ic⟩ := ids
    obtain ⟨la, ll, lc⟩ := l
    have eil := hids.1
    have ell := hl.1
    simp only at eil ell
    subst eil ell
    have hpl := partsV_len (enc := encV k) hlen
    have hpg : ∀ i (h1 : i < v.ids.length) (h2 : i < v.l.length), (partsV (encV k) v)[i]? = some (partV (encV k) v.ids[i] v.l[i]) := fun i h1 h2 => partsV_get h1 h2
    obtain ⟨R, hR⟩ : ∃ R, R = encV (k + 1) v := ⟨_, rfl⟩
    rw [← hR]
    have hR2 : R = (partsV (encV k) v).flatMap partB := hR
    clear hR
    generalize partsV (encV k) v = ps at *
    obtain ⟨vk, vn, vs, vids, vl⟩ := v
    simp only at hids hl hlen hln hin hpl hpg
    show Calls Tryz.prog 39 #[.agg #[.int .i64 vk, .int .i64 vn, .string vs, .slice ia vids.length ic, .slice la vl.length lc]] w _
    have Hids := hide hids
    have Hl := hide hl
    have Hin := hide hin
    have Hgood := hide hgood
    have Hpg := hide hpg
    have HR := hide hR2
    have Hlen := hide hlen
    have hli : vl.length ≤ 9223372036854775807 := by omega
    obtain ⟨w0, hw0⟩ : ∃ w0, w0 = w.alloc (.cells #[.int .i64 vk, .int .i64 vn, .string vs, .slice ia vids.length ic, .slice la vl.length lc] 28) := ⟨_, rfl⟩
    have hx0 : Ext w w0 := by rw [hw0]; exact (Ext.refl w).alloc _
    have r0 : w0.heap[w.heap.size]? = some (.cells #[.int .i64 vk, .int .i64 vn, .string vs, .slice ia vids.length ic, .slice la vl.length lc] 28 (0, 0)) := by rw [hw0]; exact heap_alloc_new _ _
    have hz0 : w0.heap.size = w.heap.size + 1 := by rw [hw0]; simp
    have HW0 := hide hw0
    obtain ⟨v0, v1, v2, v3, v4, _⟩ := row5 r0
    clear hids hl hin hgood hpg hR2 hw0 hlen
    go_enter Tryz.func39, Tryz.ntmps39
    go_wp2
    rw [← unhide HW0]
    go_loopw [4, 13] (fun vt i wr => ∃ j : Nat, j ≤ vl.length ∧ i = .int .i64 j ∧ wr.ownsRow (w.heap.size + 1) 85 4 vt j ((ps.take j).flatMap PartM.cells) ∧ Ext w0 wr) (fun _ i _ => vl.length - (intOf i).toNat)
    case atStart => exact ⟨0, by omega, rfl, World.ownsRow_nil _ _ _ _, Ext.refl _⟩
    case round =>
      obtain ⟨j, hj, rfl, hown, hxr⟩ := hrel
      have hEr : Ext w wr := hx0.trans hxr
      by_cases hlt : j < vl.length
      · have hlt2 : j < vids.length := by rw [← unhide Hlen]; exact hlt
        obtain ⟨ib, io, cs, hia, hr, rfl⟩ := (unhide Hids).2 j vids[j] (by simp [hlt2])
        obtain ⟨xb, xo, cs2, hla, hr2, hxv⟩ := (unhide Hl).2 j vl[j] (by simp [hlt])
        simp only at hia hla
        subst hia hla
        obtain ⟨xi, xl, rfl, hxi, hxl, _, _⟩ := hxv.opens
        have ci := hEr.cell (hr 0 _ rfl)
        rw [Nat.mul_one, Nat.add_zero] at ci
        obtain ⟨c0, c1, c2, c3, c4⟩ := range5 (hEr.range hr2)
        have hpj := unhide Hpg j hlt2 hlt
        have hinx := unhide Hin vl[j] (List.getElem_mem hlt)
        have htk : Hid ((ps.take (j + 1)).flatMap PartM.cells = (ps.take j).flatMap PartM.cells ++ (partV (encV k) vids[j] vl[j]).cells) := by
          unfold Hid
          have hjp : j < ps.length := by omega
          rw [flat_take hjp]
          rw [List.getElem?_eq_getElem hjp] at hpj
          rw [Option.some.inj hpj]
        have Hxv := hide hxv
        have hxi1 := hxi.1
        have hxl1 := hxl.1
        generalize vids[j] = id at *
        generalize vl[j] = x at *
        obtain ⟨xia, xin, xic⟩ := xi
        obtain ⟨xla, xln, xlc⟩ := xl
        simp only at hxi1 hxl1 c3 c4 Hxv
        subst hxi1 hxl1
        clear hr hr2 hxv hxi hxl hpj
        go_wp2_with fail
        obtain ⟨W, hW⟩ : ∃ W, W = wr.alloc (.cells #[.int .i64 x.kind, .int .i64 x.n, .string x.s, .slice xia x.ids.length xic, .slice xla x.l.length xlc] 28) := ⟨_, rfl⟩
        have hxW : Ext wr W := by rw [hW]; exact (Ext.refl wr).alloc _
        have rW : W.heap[wr.heap.size]? = some (.cells #[.int .i64 x.kind, .int .i64 x.n, .string x.s, .slice xia x.ids.length xic, .slice xla x.l.length xlc] 28 (0, 0)) := by rw [hW]; exact heap_alloc_new _ _
        rw [← hW]
        clear hW
        have hEW := hEr.trans hxW
        have hXW := hxr.trans hxW
        obtain ⟨x0, x1, x2, x3, x4, _⟩ := row5 rW
        have zW := lt_of_heap rW
        have d3 := hXW.cell v3
        have ci := hxW.cell ci
        clear c0 c1 c2 c3 c4
        have hji : (j : Int) < (vids.length : Int) := by omega
        have hS0 : Ext W W.drew := (Ext.refl W).drew
        refine wp_region_X (fun w' => Ext W w') (fun _ => false) (by kernel_rfl) ?_
        refine wpAnyX_take (i := 0) (v := .pointer (some ⟨w.heap.size, 3, none⟩)) rfl (by kernel_rfl) (by kernel_rfl) (fun _ _ _ h => h) (.inl ⟨rfl, fun w' hS => by simp [execOp, go_sem]⟩) (hS0) ?_
        simp only [Act.put, List.getElem_toArray, List.getElem_cons_zero, List.getElem_cons_succ, List.setIfInBounds_toArray, List.set_cons_succ, List.set_cons_zero]
        refine wpAnyX_take (i := 1) (v := .slice (some ⟨ib, io, none⟩) vids.length ic) rfl (by kernel_rfl) (by kernel_rfl) (fun _ _ _ h => h) (.inl ⟨rfl, fun w' hS => by simp [execOp, go_sem, hS.cell d3]⟩) (hS0) ?_
        simp only [Act.put, List.getElem_toArray, List.getElem_cons_zero, List.getElem_cons_succ, List.setIfInBounds_toArray, List.set_cons_succ, List.set_cons_zero]
        refine wpAnyX_take (i := 2) (v := .int .i64 j) rfl (by kernel_rfl) (by kernel_rfl) (fun _ _ _ h => h) (.inl ⟨rfl, fun w' hS => by simp [execOp, go_sem]⟩) (hS0) ?_
        simp only [Act.put, List.getElem_toArray, List.getElem_cons_zero, List.getElem_cons_succ, List.setIfInBounds_toArray, List.set_cons_succ, List.set_cons_zero]
        refine wpAnyX_take (i := 3) (v := .pointer (some ⟨ib, io + j, none⟩)) rfl (by kernel_rfl) (by kernel_rfl) (fun _ _ _ h => h) (.inl ⟨rfl, fun w' hS => by simp [execOp, go_sem, hji, hlt2]⟩) (hS0) ?_
        simp only [Act.put, List.getElem_toArray, List.getElem_cons_zero, List.getElem_cons_succ, List.setIfInBounds_toArray, List.set_cons_succ, List.set_cons_zero]
        refine wpAnyX_take (i := 4) (v := .int .i64 id) rfl (by kernel_rfl) (by kernel_rfl) (fun _ _ _ h => h) (.inl ⟨rfl, fun w' hS => by simp [execOp, go_sem, hS.cell ci]⟩) (hS0) ?_
        simp only [Act.put, List.getElem_toArray, List.getElem_cons_zero, List.getElem_cons_succ, List.setIfInBounds_toArray, List.set_cons_succ, List.set_cons_zero]
        refine wpAnyX_take (i := 5) (v := .pointer (some ⟨wr.heap.size, 0, none⟩)) rfl (by kernel_rfl) (by kernel_rfl) (fun _ _ _ h => h) (.inl ⟨rfl, fun w' hS => by simp [execOp, go_sem]⟩) (hS0) ?_
        simp only [Act.put, List.getElem_toArray, List.getElem_cons_zero, List.getElem_cons_succ, List.setIfInBounds_toArray, List.set_cons_succ, List.set_cons_zero]
        refine wpAnyX_take (i := 6) (v := .int .i64 x.kind) rfl (by kernel_rfl) (by kernel_rfl) (fun _ _ _ h => h) (.inl ⟨rfl, fun w' hS => by simp [execOp, go_sem, hS.cell x0]⟩) (hS0) ?_
        simp only [Act.put, List.getElem_toArray, List.getElem_cons_zero, List.getElem_cons_succ, List.setIfInBounds_toArray, List.set_cons_succ, List.set_cons_zero]
        refine wpAnyX_take (i := 7) (v := .pointer (some ⟨wr.heap.size, 1, none⟩)) rfl (by kernel_rfl) (by kernel_rfl) (fun _ _ _ h => h) (.inl ⟨rfl, fun w' hS => by simp [execOp, go_sem]⟩) (hS0) ?_
        simp only [Act.put, List.getElem_toArray, List.getElem_cons_zero, List.getElem_cons_succ, List.setIfInBounds_toArray, List.set_cons_succ, List.set_cons_zero]
        refine wpAnyX_take (i := 8) (v := .int .i64 x.n) rfl (by kernel_rfl) (by kernel_rfl) (fun _ _ _ h => h) (.inl ⟨rfl, fun w' hS => by simp [execOp, go_sem, hS.cell x1]⟩) (hS0) ?_
        simp only [Act.put, List.getElem_toArray, List.getElem_cons_zero, List.getElem_cons_succ, List.setIfInBounds_toArray, List.set_cons_succ, List.set_cons_zero]
        refine wpAnyX_take (i := 9) (v := .pointer (some ⟨wr.heap.size, 2, none⟩)) rfl (by kernel_rfl) (by kernel_rfl) (fun _ _ _ h => h) (.inl ⟨rfl, fun w' hS => by simp [execOp, go_sem]⟩) (hS0) ?_
        simp only [Act.put, List.getElem_toArray, List.getElem_cons_zero, List.getElem_cons_succ, List.setIfInBounds_toArray, List.set_cons_succ, List.set_cons_zero]
        refine wpAnyX_take (i := 10) (v := .string x.s) rfl (by kernel_rfl) (by kernel_rfl) (fun _ _ _ h => h) (.inl ⟨rfl, fun w' hS => by simp [execOp, go_sem, hS.cell x2]⟩) (hS0) ?_
        simp only [Act.put, List.getElem_toArray, List.getElem_cons_zero, List.getElem_cons_succ, List.setIfInBounds_toArray, List.set_cons_succ, List.set_cons_zero]
        refine wpAnyX_take (i := 11) (v := .agg #[.int .i64 id, .int .i64 x.kind, .int .i64 x.n, .string x.s]) rfl (by kernel_rfl) (by kernel_rfl) (fun _ _ _ h => h) (.inl ⟨rfl, fun w' hS => by simp [execOp, go_sem]⟩) (hS0) ?_
        simp only [Act.put, List.getElem_toArray, List.getElem_cons_zero, List.getElem_cons_succ, List.setIfInBounds_toArray, List.set_cons_succ, List.set_cons_zero]
        refine wpAnyX_one (j := 12) rfl (by kernel_rfl) rfl fun K hK => ?_
        go_wp2
        have hS1 : Ext W (W.drew.alloc (.cells #[.int .i64 0, .int .i64 0, .int .i64 0, .string ⟨#[]⟩] 85)) := hS0.alloc _
        refine hK.out _ _ (hS1) ?_
        clear hK K
        refine wpAnyX_one (j := 13) rfl (by kernel_rfl) rfl fun K hK => ?_
        go_wp2
        have hS2 : Ext W (W.alloc (.cells #[.int .i64 id, .int .i64 x.kind, .int .i64 x.n, .string x.s] 85)).drew := ((Ext.refl W).alloc _).drew
        refine hK.out _ _ (hS2) ?_
        clear hK K
        refine wpAnyX_end [] [] rfl (by intro j i hj; simp at hj) (by kernel_rfl) (by intro i hi; simp at hi) fun K hK => ?_
        go_wp2
        refine hK.out _ _ ?_
        clear hK K
        obtain ⟨V, hV⟩ : ∃ V, V = (W.alloc (.cells #[.int .i64 id, .int .i64 x.kind, .int .i64 x.n, .string x.s] 85)).drew := ⟨_, rfl⟩
        have hxV : Ext W V := by rw [hV]; exact hS2
        have rV : V.heap[W.heap.size]? = some (.cells #[.int .i64 id, .int .i64 x.kind, .int .i64 x.n, .string x.s] 85 (0, 0)) := by rw [hV]; exact heap_alloc_new _ _
        rw [← hV]
        clear hV hS0 hS1 hS2
        have hEV := hEW.trans hxV
        have hrV : Ext wr V := hxW.trans hxV
        obtain ⟨y0, y1, y2, y3, y4⟩ : V.cell? ⟨wr.heap.size, 0, none⟩ = some (.int .i64 x.kind) ∧ V.cell? ⟨wr.heap.size, 1, none⟩ = some (.int .i64 x.n) ∧ V.cell? ⟨wr.heap.size, 2, none⟩ = some (.string x.s) ∧ V.cell? ⟨wr.heap.size, 3, none⟩ = some (.slice xia x.ids.length xic) ∧ V.cell? ⟨wr.heap.size, 4, none⟩ = some (.slice xla x.l.length xlc) := ⟨hxV.cell x0, hxV.cell x1, hxV.cell x2, hxV.cell x3, hxV.cell x4⟩
        have Hown := hide hown
        have hwz : w.heap.size + 1 ≤ wr.heap.size := by have := hxr.size; omega
        clear hown x0 x1 x2 x3 x4 d3 ci hXW
        by_cases hk2 : x.kind = 2
        · have hkb : (x.kind == 2) = true := by simp [hk2]
          have Hpv : Hid ((partV (encV k) id x).cells = [.int .i64 id, .int .i64 x.kind, .int .i64 x.n, .string ⟨(encV k x).toArray⟩]) := by
            unfold Hid partV PartM.cells; rw [if_pos hk2]
          have hex := hinx hk2
          clear hk2 hinx
          go_wp2_with fail
          refine (ih x ⟨xia, x.ids.length, xic⟩ ⟨xla, x.l.length, xlc⟩ V hex ((unhide Hxv).ext hEV)).mono ?_
          rintro e w4 ⟨rfl, hx4⟩
          generalize encV k x = bs at *
          have r4 := hx4.heap rV
          have z4 := lt_of_heap r4
          obtain ⟨p0, p1, p2, p3, pf⟩ := row4f r4
          have hr4 : Ext wr w4 := hrV.trans hx4
          have hr5 : Ext wr (w4.setCell ⟨W.heap.size, 3, none⟩ (.string ⟨bs.toArray⟩)) := hr4.setCell (by have := hxW.size; simp; omega) _
          have ho5 := owns_ext (unhide Hown) hr5
          have r5 := heap_setCell_same w4 W.heap.size 3 _ 85 (.string ⟨bs.toArray⟩) r4
          simp only [List.setIfInBounds_toArray, List.set_cons_succ, List.set_cons_zero] at r5
          obtain ⟨q0, q1, q2, q3, _⟩ := row4f r5
          have Ho5 := hide ho5
          clear ho5
          go_wp2_with (at_builtin; refine wpList_app1 _ _ 83 85 (.agg #[.int .i64 0, .int .i64 0, .int .i64 0, .string ⟨#[]⟩]) 4 40 Tryz.underlying83 info61 rfl (by decide) (by decide) rfl rfl (w.heap.size + 1) _ j _ rfl ((unhide Ho5).alloc _) w4.heap.size 1 [.int .i64 id, .int .i64 x.kind, .int .i64 x.n, .string ⟨bs.toArray⟩] rfl rfl ?c1 ?c2 ?c3 ?c4 ?_)
          case c1 => exact range_of_new4 _ _ _ _ _ _ (by simp)
          case c2 => exact one_part ⟨id, x.kind, x.n, ⟨bs.toArray⟩⟩
          case c3 => omega
          case c4 => simp; have := hr4.size; omega
          intro v6 w6 ho6 hg6
          have hE6 : Ext w0 w6 := ((hxr.trans hr5).alloc _).owned hg6 ((unhide Ho5).alloc _) (by omega)
          have Ho6 := hide ho6
          clear ho6 hg6
          go_wp2
          refine ⟨⟨j + 1, by omega, by go_num, ?_, hE6⟩, by simp [intOf]; omega⟩
          rw [unhide htk, unhide Hpv]
          exact unhide Ho6
        · have hkb : (x.kind == 2) = false := by simp [hk2]
          have Hpv : Hid ((partV (encV k) id x).cells = [.int .i64 id, .int .i64 x.kind, .int .i64 x.n, .string x.s]) := by
            unfold Hid partV PartM.cells; rw [if_neg hk2]
          clear hk2 hinx
          obtain ⟨p0, p1, p2, p3, _⟩ := row4f rV
          have ho5 := owns_ext (unhide Hown) hrV
          have Ho5 := hide ho5
          clear ho5
          go_wp2_with (at_builtin; refine wpList_app1 _ _ 83 85 (.agg #[.int .i64 0, .int .i64 0, .int .i64 0, .string ⟨#[]⟩]) 4 40 Tryz.underlying83 info61 rfl (by decide) (by decide) rfl rfl (w.heap.size + 1) _ j _ rfl ((unhide Ho5).alloc _) V.heap.size 1 [.int .i64 id, .int .i64 x.kind, .int .i64 x.n, .string x.s] rfl rfl ?c1 ?c2 ?c3 ?c4 ?_)
          case c1 => exact range_of_new4 _ _ _ _ _ _ (by simp)
          case c2 => exact one_part ⟨id, x.kind, x.n, x.s⟩
          case c3 => omega
          case c4 => simp; have := hrV.size; omega
          intro v6 w6 ho6 hg6
          have hE6 : Ext w0 w6 := ((hxr.trans hrV).alloc _).owned hg6 ((unhide Ho5).alloc _) (by omega)
          have Ho6 := hide ho6
          clear ho6 hg6
          go_wp2
          refine ⟨⟨j + 1, by omega, by go_num, ?_, hE6⟩, by simp [intOf]; omega⟩
          rw [unhide htk, unhide Hpv]
          exact unhide Ho6
      · have hjl : j = vl.length := by omega
        rw [List.take_of_length_le (by omega)] at hown
        obtain ⟨sv, rfl, hps⟩ := parts_of_owns hown (by omega)
        have hsz : ∀ p ∈ ps, p.s.size ≤ 9223372036854775807 := fun p hp => by
          have hg := unhide Hgood p hp
          rcases hg.2.2 with h | h
          · rw [h.2.2.2]; decide
          · exact Nat.le_trans h.2.2 (by decide)
        have henc := encR_of ps [] (unhide Hgood) (by simpa using hlong)
        have Hps := hide hps
        have Henc := hide henc
        clear hown hps henc
        go_wp2_with fail
        refine (encodeParts_any sv ps wr (unhide Hps) (by omega) hsz).mono ?_
        rintro e w2 ⟨rfl, hx2⟩
        have e1 : Hid (wencS ps = ⟨R.toArray⟩ ∧ encE ps = 0) := by
          unfold Hid wencS encE; rw [unhide Henc, unhide HR]; exact ⟨by simp, rfl⟩
        rw [(unhide e1).1, (unhide e1).2]
        clear e1 Henc
        go_wp2
        refine bodyPost_ret (v := .tuple #[.string ⟨R.toArray⟩, .int .i64 0]) (by simp [results, Tryz.results39, go_sem]) rfl ⟨rfl, hEr.trans hx2⟩
end Go.Proofs.YtmdpdgldmedebaaGreatDoor

namespace Go.Proofs.YtmdpdgldmedebaaGreatDoor
set_option linter.unusedSimpArgs false
set_option linter.unusedVariables false
open Go.RowKit

set_option maxHeartbeats 3200000 in
set_option maxRecDepth 10000 in
theorem encodeValueR_any (sb : SV) (ts : BookM) (name : ByteArray) (K : Nat) (v : ValueM) (ids l : SV) (w : World) (hb : BookAt w sb ts) (hmx : MaxAt w) (hn : ts.Small) (hsv : SmallV K v) (hc : cntM K v ≤ 1048576)
    (hv : ValueAt K w [.int .i64 v.kind, .int .i64 v.n, .string v.s, .slice ids.a ids.len ids.cap, .slice l.a l.len l.cap] v) :
    Calls Tryz.prog 20 #[.agg #[.slice sb.a sb.len sb.cap], .string name, .agg #[.int .i64 v.kind, .int .i64 v.n, .string v.s, .slice ids.a ids.len ids.cap, .slice l.a l.len l.cap]] w fun e w' => e = .returned (.tuple #[.string (encA ts name K v), .int .i64 (typedM ts name K v)]) ∧ Ext w w' := by
  obtain ⟨w0, hw0⟩ : ∃ w0, w0 = (w.alloc (.cells #[.slice sb.a sb.len sb.cap] 24)).alloc (.cells #[.int .i64 v.kind, .int .i64 v.n, .string v.s, .slice ids.a ids.len ids.cap, .slice l.a l.len l.cap] 28) := ⟨_, rfl⟩
  obtain ⟨hx0, hz, r0, r1⟩ := heaps2 hw0
  have b0 : w0.cell? ⟨w.heap.size, 0, none⟩ = some (.slice sb.a sb.len sb.cap) := cell_of_row _ _ 0 _ _ _ r0
  obtain ⟨v0, v1, v2, v3, v4, _⟩ := row5 r1
  have E0 : Hid (typedM ts name K v = 0 → EncOk K v) := fun h => typed_enc hv.fits h
  have E1 : Hid (typedM ts name K v = 0 → encA ts name K v = ⟨(encV K v).toArray⟩) := fun h => if_pos h
  have E2 : Hid (typedM ts name K v ≠ 0 → encA ts name K v = ⟨#[]⟩) := fun h => if_neg h
  have HT := hide (isTyped_any sb ts name K v ids l w0 (hb.ext hx0) (hmx.ext hx0) hn hsv hc (hv.ext hx0))
  generalize encA ts name K v = x at *
  generalize typedM ts name K v = m at *
  have HW0 := hide hw0
  have Hv := hide (hv.ext hx0)
  clear hw0 hb hmx hv hsv hc
  go_enter Tryz.func20, Tryz.ntmps20
  go_wp2_with fail
  rw [← unhide HW0]
  refine (unhide HT).mono ?_
  rintro e w1 ⟨rfl, hx1⟩
  by_cases hm : m = 0
  case neg =>
    have hmb : (m != 0) = true := by simpa using hm
    have hx := unhide E2 hm
    clear E0 E1 E2 HT
    have Hx := hide hx
    clear hx
    go_wp2
    refine bodyPost_ret (v := .tuple #[.string ⟨#[]⟩, .int .i64 m]) ?_ rfl ⟨by rw [unhide Hx], hx0.trans hx1⟩
    simp [results, Tryz.results20, go_sem]
  have hmb : (m != 0) = false := by simp [hm]
  obtain ⟨g0, g1, g2, g3, g4, _⟩ := row5 (hx1.heap r1)
  have hx := unhide E1 hm
  have hok := unhide E0 hm
  have Hm := hide hm
  have Hx := hide hx
  clear E0 E1 E2 HT hm hx v0 v1 v2 v3 v4
  go_wp2_with fail
  refine (bytesOf_any K v ids l w1 hok ((unhide Hv).ext hx1)).mono ?_
  rintro e w2 ⟨rfl, hx2⟩
  rw [← unhide Hx]
  go_wp2
  refine bodyPost_ret (v := .tuple #[.string x, .int .i64 0]) ?_ rfl ⟨by rw [unhide Hm], (hx0.trans hx1).trans hx2⟩
  simp [results, Tryz.results20, go_sem]
end Go.Proofs.YtmdpdgldmedebaaGreatDoor

namespace Go.Proofs.YtmdpdgldmedebaaGreatDoor
set_option linter.unusedSimpArgs false
set_option linter.unusedVariables false
open Go.RowKit

set_option maxHeartbeats 6400000 in
set_option maxRecDepth 10000 in
theorem valueEncodes_calls (sb : SV) (ts : BookM) (hn : ts.Small) (name : ByteArray) (K : Nat) (v : ValueM) (ids l : SV) (w : World) (hb : BookAt w sb ts) (hw : WordsAt w) (hm : MaxAt w) (hsv : SmallV K v) (hc : cntM K v ≤ 1048576)
    (hv : ValueAt K w [.int .i64 v.kind, .int .i64 v.n, .string v.s, .slice ids.a ids.len ids.cap, .slice l.a l.len l.cap] v) :
    Calls Tryz.prog 4 #[.agg #[.slice sb.a sb.len sb.cap], .string name, .agg #[.int .i64 v.kind, .int .i64 v.n, .string v.s, .slice ids.a ids.len ids.cap, .slice l.a l.len l.cap]] w fun e w' => e = .returned (.bool true) ∧ Ext w w' := by
  obtain ⟨w0, hw0⟩ : ∃ w0, w0 = (w.alloc (.cells #[.slice sb.a sb.len sb.cap] 24)).alloc (.cells #[.int .i64 v.kind, .int .i64 v.n, .string v.s, .slice ids.a ids.len ids.cap, .slice l.a l.len l.cap] 28) := ⟨_, rfl⟩
  obtain ⟨hx0, hz, r0, r1⟩ := heaps2 hw0
  have HW0 := hide hw0
  have hb0 := hb.ext hx0
  have hv0 := hv.ext hx0
  have HC := hide (fun w2 (hx : Ext w0 w2) => copyBook_any sb ts hn w2 (hb0.ext hx))
  have HV := hide (fun w2 (hx : Ext w0 w2) => copyValue_any K v ids l w2 hsv (hv0.ext hx))
  have HE := hide (fun (sc ci cl : SV) (w2 : World) (hx : Ext w0 w2) (h1 : BookAt w2 sc ts) (h2 : ValueAt K w2 [.int .i64 v.kind, .int .i64 v.n, .string v.s, .slice ci.a ci.len ci.cap, .slice cl.a cl.len cl.cap] v) => encode_value sc ts name K v ci cl w2 h1 ((hw.ext hx0).ext hx) hn.fits hsv hc h2)
  have HR := hide (fun w2 (hx : Ext w0 w2) => encodeValueR_any sb ts name K v ids l w2 (hb0.ext hx) ((hm.ext hx0).ext hx) hn hsv hc (hv0.ext hx))
  have HVA := hide (fun w2 (hx : Ext w0 w2) => values_ok w2 ((hw.ext hx0).ext hx))
  have bB : w0.cell? ⟨w.heap.size, 0, none⟩ = some (.slice sb.a sb.len sb.cap) := cell_of_row _ _ 0 _ _ _ r0
  obtain ⟨v0, v1, v2, v3, v4, _⟩ := row5 r1
  generalize encA ts name K v = x at *
  generalize typedM ts name K v = m at *
  clear hw0 hb hv hw hm hb0 hv0 hn hsv hc hz
  go_enter Tryz.func4, Tryz.ntmps4
  go_wp2_with fail
  rw [← unhide HW0]
  have hS0 : Ext w0 w0.drew := (Ext.refl w0).drew
  refine wp_region_X (fun w' => Ext w0 w') (fun _ => false) (by kernel_rfl) ?_
  refine wpAnyX_take (i := 0) (v := .agg #[.slice sb.a sb.len sb.cap]) rfl (by kernel_rfl) (by kernel_rfl) (fun _ _ _ h => h) (.inl ⟨rfl, fun w' hS => by simp [execOp, go_sem, hS.cell bB]⟩) (hS0) ?_
  simp only [Act.put, List.getElem_toArray, List.getElem_cons_zero, List.getElem_cons_succ, List.setIfInBounds_toArray, List.set_cons_succ, List.set_cons_zero]
  refine wpAnyX_take (i := 2) (v := .string name) rfl (by kernel_rfl) (by kernel_rfl) (fun _ _ _ h => h) (.inl ⟨rfl, fun w' hS => by simp [execOp, go_sem]⟩) (hS0) ?_
  simp only [Act.put, List.getElem_toArray, List.getElem_cons_zero, List.getElem_cons_succ, List.setIfInBounds_toArray, List.set_cons_succ, List.set_cons_zero]
  refine wpAnyX_take (i := 3) (v := .agg #[.int .i64 v.kind, .int .i64 v.n, .string v.s, .slice ids.a ids.len ids.cap, .slice l.a l.len l.cap]) rfl (by kernel_rfl) (by kernel_rfl) (fun _ _ _ h => h) (.inl ⟨rfl, fun w' hS => by simp [execOp, go_sem, hS.cell v0, hS.cell v1, hS.cell v2, hS.cell v3, hS.cell v4]⟩) (hS0) ?_
  simp only [Act.put, List.getElem_toArray, List.getElem_cons_zero, List.getElem_cons_succ, List.setIfInBounds_toArray, List.set_cons_succ, List.set_cons_zero]
  refine wpAnyX_one (j := 1) rfl (by kernel_rfl) rfl fun K hK => ?_
  go_wp2_with fail
  refine (unhide HC _ hS0).mono ?_
  rintro e w1 ⟨sc, rfl, hbc, y1⟩
  have hS1 := hS0.trans y1
  have Hbc := hide hbc
  clear hbc
  go_wp2
  refine hK.out _ _ (hS1) ?_
  clear hK K
  refine wpAnyX_one (j := 4) rfl (by kernel_rfl) rfl fun K hK => ?_
  go_wp2_with fail
  refine (unhide HV _ hS1).mono ?_
  rintro e w2 ⟨ci, cl, rfl, hvc, y2⟩
  have hS2 := hS1.trans y2
  have HE2 := hide (unhide HE sc ci cl w2 hS2 ((unhide Hbc).ext y2) hvc.at_)
  clear hvc
  go_wp2
  refine hK.out _ _ (hS2) ?_
  clear hK K
  refine wpAnyX_one (j := 5) rfl (by kernel_rfl) rfl fun K hK => ?_
  go_wp2_with fail
  refine (unhide HE2).mono ?_
  rintro e w3 ⟨rfl, y3⟩
  have hS3 := hS2.trans y3
  go_wp2
  refine hK.out _ _ (hS3) ?_
  clear hK K
  refine wpAnyX_take (i := 6) (v := .tuple #[.string x, .int .i64 m]) rfl (by kernel_rfl) (by kernel_rfl) (fun _ _ _ h => h) (.inl ⟨rfl, fun w' hS => by simp [execOp, go_sem]⟩) (hS3) ?_
  simp only [Act.put, List.getElem_toArray, List.getElem_cons_zero, List.getElem_cons_succ, List.setIfInBounds_toArray, List.set_cons_succ, List.set_cons_zero]
  refine wpAnyX_take (i := 7) (v := .string x) rfl (by kernel_rfl) (by kernel_rfl) (fun _ _ _ h => h) (.inl ⟨rfl, fun w' hS => by simp [execOp, go_sem]⟩) (hS3) ?_
  simp only [Act.put, List.getElem_toArray, List.getElem_cons_zero, List.getElem_cons_succ, List.setIfInBounds_toArray, List.set_cons_succ, List.set_cons_zero]
  refine wpAnyX_take (i := 8) (v := .int .i64 m) rfl (by kernel_rfl) (by kernel_rfl) (fun _ _ _ h => h) (.inl ⟨rfl, fun w' hS => by simp [execOp, go_sem]⟩) (hS3) ?_
  simp only [Act.put, List.getElem_toArray, List.getElem_cons_zero, List.getElem_cons_succ, List.setIfInBounds_toArray, List.set_cons_succ, List.set_cons_zero]
  refine wpAnyX_take (i := 9) (v := .string x) rfl (by kernel_rfl) (by kernel_rfl) (fun _ _ _ h => h) (.inl ⟨rfl, fun w' hS => by simp [execOp, go_sem]⟩) (hS3) ?_
  simp only [Act.put, List.getElem_toArray, List.getElem_cons_zero, List.getElem_cons_succ, List.setIfInBounds_toArray, List.set_cons_succ, List.set_cons_zero]
  refine wpAnyX_take (i := 10) (v := .int .i64 m) rfl (by kernel_rfl) (by kernel_rfl) (fun _ _ _ h => h) (.inl ⟨rfl, fun w' hS => by simp [execOp, go_sem]⟩) (hS3) ?_
  simp only [Act.put, List.getElem_toArray, List.getElem_cons_zero, List.getElem_cons_succ, List.setIfInBounds_toArray, List.set_cons_succ, List.set_cons_zero]
  refine wpAnyX_end [] [] rfl (by intro j i hj; simp at hj) (by kernel_rfl) (by intro i hi; simp at hi) fun K hK => ?_
  go_wp2
  refine hK.out _ _ ?_
  clear hK K
  have c0 := hS3.cell bB
  obtain ⟨c1, c2, c3, c4, c5, _⟩ := row5 (hS3.heap r1)
  go_wp2_with fail
  refine (unhide HR _ hS3).mono ?_
  rintro e w4 ⟨rfl, y4⟩
  have hS4 := hS3.trans y4
  go_wp2_with fail
  refine (unhide HVA _ hS4).mono ?_
  rintro e w5 ⟨rfl, y5⟩
  go_wp2
  go_ret
  exact ⟨rfl, hx0.trans (hS4.trans y5)⟩
end Go.Proofs.YtmdpdgldmedebaaGreatDoor

