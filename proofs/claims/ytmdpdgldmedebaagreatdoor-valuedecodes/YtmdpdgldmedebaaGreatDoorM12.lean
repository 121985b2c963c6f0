import Derived.Test.YtmdpdgldmedebaaGreatDoorM11
import Derived.OneCell
namespace Go.Proofs.YtmdpdgldmedebaaGreatDoor
set_option linter.unusedSimpArgs false
set_option linter.unusedVariables false
set_option linter.unusedSimpArgs false
set_option linter.unusedVariables false
open Go.RowKit

/-- The parts that a value's own are, where those in it are bytes already. -/
def partV (enc : ValueM → List UInt8) (id : Int) (x : ValueM) : PartM := ⟨id, x.kind, x.n, if x.kind = 2 then ⟨(enc x).toArray⟩ else x.s⟩
def partsV (enc : ValueM → List UInt8) (v : ValueM) : List PartM := List.zipWith (partV enc) v.ids v.l
def encV : Nat → ValueM → List UInt8
  | 0, _ => []
  | k + 1, v => (partsV (encV k) v).flatMap partB
/-- Its bytes can be made: no part is wrong, and nothing is too long. -/
def EncOk : Nat → ValueM → Prop
  | 0, _ => False
  | k + 1, v => v.l.length = v.ids.length ∧ v.l.length ≤ 1048576 ∧ (∀ x ∈ v.l, x.kind = 2 → EncOk k x) ∧ (∀ p ∈ partsV (encV k) v, p.good) ∧ ((partsV (encV k) v).flatMap partB).length ≤ 20000
theorem partsV_len {enc : ValueM → List UInt8} {v : ValueM} (h : v.l.length = v.ids.length) : (partsV enc v).length = v.l.length := by
  unfold partsV; rw [List.length_zipWith, h]; simp
theorem partsV_get {enc : ValueM → List UInt8} {v : ValueM} {i : Nat} (h1 : i < v.ids.length) (h2 : i < v.l.length) : (partsV enc v)[i]? = some (partV enc v.ids[i] v.l[i]) := by
  unfold partsV; simp [List.getElem?_zipWith, h1, h2]
theorem parts_of_owns {w : World} {base : Nat} {v : Value} {n : Nat} {l : List PartM} (h : w.ownsRow base 85 4 v n (l.flatMap PartM.cells)) (hn : n = l.length) : ∃ s : SV, v = .slice s.a s.len s.cap ∧ PartsAt w s l := sliceAt_of_owns PartM.cells (fun _ => rfl) h hn
theorem row4f {w : World} {g : Nat} {t : TypeId} {c0 c1 c2 c3 : Value} (hb : w.heap[g]? = some (.cells #[c0, c1, c2, c3] t (0, 0))) : w.cell? ⟨g, 0, none⟩ = some c0 ∧ w.cell? ⟨g, 1, none⟩ = some c1 ∧ w.cell? ⟨g, 2, none⟩ = some c2 ∧ w.cell? ⟨g, 3, none⟩ = some c3 ∧ ∀ j, w.frozen? ⟨g, j, none⟩ = false :=
  ⟨cell_of_row w g 0 _ t _ hb, cell_of_row w g 1 _ t _ hb, cell_of_row w g 2 _ t _ hb, cell_of_row w g 3 _ t _ hb, fun j => frozen_of_row w g j _ t hb⟩

set_option maxHeartbeats 12800000 in
set_option maxRecDepth 10000 in
theorem write_any : ∀ (k : Nat) (v : ValueM) (ids l : SV) (w : World), EncOk k v → ValueAt k w [.int .i64 v.kind, .int .i64 v.n, .string v.s, .slice ids.a ids.len ids.cap, .slice l.a l.len l.cap] v →
    Calls Tryz.prog 38 #[.agg #[.int .i64 v.kind, .int .i64 v.n, .string v.s, .slice ids.a ids.len ids.cap, .slice l.a l.len l.cap]] w fun e w' => e = .returned (.tuple #[.string ⟨(encV k v).toArray⟩, .int .i64 0]) ∧ Ext w w' := by
  intro k
  induction k with
  | zero => intro _ _ _ _ h; exact h.elim
  | succ k ih =>
    intro v ids l w hok hv
    obtain ⟨ids', l', he, hids, hl, hiok, hlok⟩ := hv
    simp only [List.cons.injEq, Value.slice.injEq, and_true, true_and] at he
    obtain ⟨⟨i1, i2, i3⟩, l1, l2, l3⟩ := he
    obtain rfl : l = l' := by cases l; cases l'; simp_all
    obtain rfl : ids = ids' := by cases ids; cases ids'; simp_all
    clear i1 i2 i3 l1 l2 l3 hiok hlok
    obtain ⟨hlen, hln, hin, hgood, hlong⟩ := hok
    obtain ⟨ia, il, ic⟩ := ids
    obtain ⟨la, ll, lc⟩ := l
    have eil := hids.1
    have ell := hl.1
    simp only at eil ell
    subst eil ell
    have hpl := partsV_len (enc := encV k) hlen
    have hpg : ∀ i (h1 : i < v.ids.length) (h2 : i < v.l.length), (partsV (encV k) v)[i]? = some (partV (encV k) v.ids[i] v.l[i]) := fun i h1 h2 => partsV_get h1 h2
    obtain ⟨R, hR⟩ : ∃ R, R = encV (k + 1) v := ⟨_, rfl⟩
    rw [← hR]
    have hR2 : R = (partsV (encV k) v).flatMap partB := hR
    clear hR
    generalize partsV (encV k) v = ps at *
    obtain ⟨vk, vn, vs, vids, vl⟩ := v
    simp only at hids hl hlen hln hin hpl hpg
    show Calls Tryz.prog 38 #[.agg #[.int .i64 vk, .int .i64 vn, .string vs, .slice ia vids.length ic, .slice la vl.length lc]] w _
    have Hids := hide hids
    have Hl := hide hl
    have Hin := hide hin
    have Hgood := hide hgood
    have Hpg := hide hpg
    have HR := hide hR2
    have Hlen := hide hlen
    have hli : vl.length ≤ 9223372036854775807 := by omega
    obtain ⟨w0, hw0⟩ : ∃ w0, w0 = w.alloc (.cells #[.int .i64 vk, .int .i64 vn, .string vs, .slice ia vids.length ic, .slice la vl.length lc] 28) := ⟨_, rfl⟩
    have hx0 : Ext w w0 := by rw [hw0]; exact (Ext.refl w).alloc _
    have r0 : w0.heap[w.heap.size]? = some (.cells #[.int .i64 vk, .int .i64 vn, .string vs, .slice ia vids.length ic, .slice la vl.length lc] 28 (0, 0)) := by rw [hw0]; exact heap_alloc_new _ _
    have hz0 : w0.heap.size = w.heap.size + 1 := by rw [hw0]; simp
    have HW0 := hide hw0
    obtain ⟨v0, v1, v2, v3, v4, _⟩ := row5 r0
    clear hids hl hin hgood hpg hR2 hw0 hlen
    go_enter Tryz.func38, Tryz.ntmps38
    go_wp2
    rw [← unhide HW0]
    go_loopw [4, 13] (fun vt i wr => ∃ j : Nat, j ≤ vl.length ∧ i = .int .i64 j ∧ wr.ownsRow (w.heap.size + 1) 85 4 vt j ((ps.take j).flatMap PartM.cells) ∧ Ext w0 wr) (fun _ i _ => vl.length - (intOf i).toNat)
    case atStart => exact ⟨0, by omega, rfl, World.ownsRow_nil _ _ _ _, Ext.refl _⟩
    case round =>
      obtain ⟨j, hj, rfl, hown, hxr⟩ := hrel
      have hEr : Ext w wr := hx0.trans hxr
      by_cases hlt : j < vl.length
      · have hlt2 : j < vids.length := by rw [← unhide Hlen]; exact hlt
        obtain ⟨ib, io, cs, hia, hr, rfl⟩ := (unhide Hids).2 j vids[j] (by simp [hlt2])
        obtain ⟨xb, xo, cs2, hla, hr2, hxv⟩ := (unhide Hl).2 j vl[j] (by simp [hlt])
        simp only at hia hla
        subst hia hla
        obtain ⟨xi, xl, rfl, hxi, hxl, _, _⟩ := hxv.opens
        have ci := hEr.cell (hr 0 _ rfl)
        rw [Nat.mul_one, Nat.add_zero] at ci
        obtain ⟨c0, c1, c2, c3, c4⟩ := range5 (hEr.range hr2)
        have hpj := unhide Hpg j hlt2 hlt
        have hinx := unhide Hin vl[j] (List.getElem_mem hlt)
        have htk : Hid ((ps.take (j + 1)).flatMap PartM.cells = (ps.take j).flatMap PartM.cells ++ (partV (encV k) vids[j] vl[j]).cells) := by
          unfold Hid
          have hjp : j < ps.length := by omega
          rw [flat_take hjp]
          rw [List.getElem?_eq_getElem hjp] at hpj
          rw [Option.some.inj hpj]
        have Hxv := hide hxv
        have hxi1 := hxi.1
        have hxl1 := hxl.1
        generalize vids[j] = id at *
        generalize vl[j] = x at *
        obtain ⟨xia, xin, xic⟩ := xi
        obtain ⟨xla, xln, xlc⟩ := xl
        simp only at hxi1 hxl1 c3 c4 Hxv
        subst hxi1 hxl1
        clear hr hr2 hxv hxi hxl hpj
        go_wp2_with fail
        obtain ⟨W, hW⟩ : ∃ W, W = wr.alloc (.cells #[.int .i64 x.kind, .int .i64 x.n, .string x.s, .slice xia x.ids.length xic, .slice xla x.l.length xlc] 28) := ⟨_, rfl⟩
        have hxW : Ext wr W := by rw [hW]; exact (Ext.refl wr).alloc _
        have rW : W.heap[wr.heap.size]? = some (.cells #[.int .i64 x.kind, .int .i64 x.n, .string x.s, .slice xia x.ids.length xic, .slice xla x.l.length xlc] 28 (0, 0)) := by rw [hW]; exact heap_alloc_new _ _
        rw [← hW]
        clear hW
        have hEW := hEr.trans hxW
        have hXW := hxr.trans hxW
        obtain ⟨x0, x1, x2, x3, x4, _⟩ := row5 rW
        have zW := lt_of_heap rW
        have d3 := hXW.cell v3
        have ci := hxW.cell ci
        clear c0 c1 c2 c3 c4
        have hji : (j : Int) < (vids.length : Int) := by omega
        have hS0 : Ext W W.drew := (Ext.refl W).drew
        refine wp_region_X (fun w' => Ext W w') (fun _ => false) (by kernel_rfl) ?_
        refine wpAnyX_take (i := 0) (v := .pointer (some ⟨w.heap.size, 3, none⟩)) rfl (by kernel_rfl) (by kernel_rfl) (fun _ _ _ h => h) (.inl ⟨rfl, fun w' hS => by simp [execOp, go_sem]⟩) (hS0) ?_
        simp only [Act.put, List.getElem_toArray, List.getElem_cons_zero, List.getElem_cons_succ, List.setIfInBounds_toArray, List.set_cons_succ, List.set_cons_zero]
        refine wpAnyX_take (i := 1) (v := .slice (some ⟨ib, io, none⟩) vids.length ic) rfl (by kernel_rfl) (by kernel_rfl) (fun _ _ _ h => h) (.inl ⟨rfl, fun w' hS => by simp [execOp, go_sem, hS.cell d3]⟩) (hS0) ?_
        simp only [Act.put, List.getElem_toArray, List.getElem_cons_zero, List.getElem_cons_succ, List.setIfInBounds_toArray, List.set_cons_succ, List.set_cons_zero]
        refine wpAnyX_take (i := 2) (v := .int .i64 j) rfl (by kernel_rfl) (by kernel_rfl) (fun _ _ _ h => h) (.inl ⟨rfl, fun w' hS => by simp [execOp, go_sem]⟩) (hS0) ?_
        simp only [Act.put, List.getElem_toArray, List.getElem_cons_zero, List.getElem_cons_succ, List.setIfInBounds_toArray, List.set_cons_succ, List.set_cons_zero]
        refine wpAnyX_take (i := 3) (v := .pointer (some ⟨ib, io + j, none⟩)) rfl (by kernel_rfl) (by kernel_rfl) (fun _ _ _ h => h) (.inl ⟨rfl, fun w' hS => by simp [execOp, go_sem, hji, hlt2]⟩) (hS0) ?_
        simp only [Act.put, List.getElem_toArray, List.getElem_cons_zero, List.getElem_cons_succ, List.setIfInBounds_toArray, List.set_cons_succ, List.set_cons_zero]
        refine wpAnyX_take (i := 4) (v := .int .i64 id) rfl (by kernel_rfl) (by kernel_rfl) (fun _ _ _ h => h) (.inl ⟨rfl, fun w' hS => by simp [execOp, go_sem, hS.cell ci]⟩) (hS0) ?_
        simp only [Act.put, List.getElem_toArray, List.getElem_cons_zero, List.getElem_cons_succ, List.setIfInBounds_toArray, List.set_cons_succ, List.set_cons_zero]
        refine wpAnyX_take (i := 5) (v := .pointer (some ⟨wr.heap.size, 0, none⟩)) rfl (by kernel_rfl) (by kernel_rfl) (fun _ _ _ h => h) (.inl ⟨rfl, fun w' hS => by simp [execOp, go_sem]⟩) (hS0) ?_
        simp only [Act.put, List.getElem_toArray, List.getElem_cons_zero, List.getElem_cons_succ, List.setIfInBounds_toArray, List.set_cons_succ, List.set_cons_zero]
        refine wpAnyX_take (i := 6) (v := .int .i64 x.kind) rfl (by kernel_rfl) (by kernel_rfl) (fun _ _ _ h => h) (.inl ⟨rfl, fun w' hS => by simp [execOp, go_sem, hS.cell x0]⟩) (hS0) ?_
        simp only [Act.put, List.getElem_toArray, List.getElem_cons_zero, List.getElem_cons_succ, List.setIfInBounds_toArray, List.set_cons_succ, List.set_cons_zero]
        refine wpAnyX_take (i := 7) (v := .pointer (some ⟨wr.heap.size, 1, none⟩)) rfl (by kernel_rfl) (by kernel_rfl) (fun _ _ _ h => h) (.inl ⟨rfl, fun w' hS => by simp [execOp, go_sem]⟩) (hS0) ?_
        simp only [Act.put, List.getElem_toArray, List.getElem_cons_zero, List.getElem_cons_succ, List.setIfInBounds_toArray, List.set_cons_succ, List.set_cons_zero]
        refine wpAnyX_take (i := 8) (v := .int .i64 x.n) rfl (by kernel_rfl) (by kernel_rfl) (fun _ _ _ h => h) (.inl ⟨rfl, fun w' hS => by simp [execOp, go_sem, hS.cell x1]⟩) (hS0) ?_
        simp only [Act.put, List.getElem_toArray, List.getElem_cons_zero, List.getElem_cons_succ, List.setIfInBounds_toArray, List.set_cons_succ, List.set_cons_zero]
        refine wpAnyX_take (i := 9) (v := .pointer (some ⟨wr.heap.size, 2, none⟩)) rfl (by kernel_rfl) (by kernel_rfl) (fun _ _ _ h => h) (.inl ⟨rfl, fun w' hS => by simp [execOp, go_sem]⟩) (hS0) ?_
        simp only [Act.put, List.getElem_toArray, List.getElem_cons_zero, List.getElem_cons_succ, List.setIfInBounds_toArray, List.set_cons_succ, List.set_cons_zero]
        refine wpAnyX_take (i := 10) (v := .string x.s) rfl (by kernel_rfl) (by kernel_rfl) (fun _ _ _ h => h) (.inl ⟨rfl, fun w' hS => by simp [execOp, go_sem, hS.cell x2]⟩) (hS0) ?_
        simp only [Act.put, List.getElem_toArray, List.getElem_cons_zero, List.getElem_cons_succ, List.setIfInBounds_toArray, List.set_cons_succ, List.set_cons_zero]
        refine wpAnyX_take (i := 11) (v := .agg #[.int .i64 id, .int .i64 x.kind, .int .i64 x.n, .string x.s]) rfl (by kernel_rfl) (by kernel_rfl) (fun _ _ _ h => h) (.inl ⟨rfl, fun w' hS => by simp [execOp, go_sem]⟩) (hS0) ?_
        simp only [Act.put, List.getElem_toArray, List.getElem_cons_zero, List.getElem_cons_succ, List.setIfInBounds_toArray, List.set_cons_succ, List.set_cons_zero]
        refine wpAnyX_one (j := 12) rfl (by kernel_rfl) rfl fun K hK => ?_
        go_wp2
        have hS1 : Ext W (W.drew.alloc (.cells #[.int .i64 0, .int .i64 0, .int .i64 0, .string ⟨#[]⟩] 85)) := hS0.alloc _
        refine hK.out _ _ (hS1) ?_
        clear hK K
        refine wpAnyX_one (j := 13) rfl (by kernel_rfl) rfl fun K hK => ?_
        go_wp2
        have hS2 : Ext W (W.alloc (.cells #[.int .i64 id, .int .i64 x.kind, .int .i64 x.n, .string x.s] 85)).drew := ((Ext.refl W).alloc _).drew
        refine hK.out _ _ (hS2) ?_
        clear hK K
        refine wpAnyX_end [] [] rfl (by intro j i hj; simp at hj) (by kernel_rfl) (by intro i hi; simp at hi) fun K hK => ?_
        go_wp2
        refine hK.out _ _ ?_
        clear hK K
        obtain ⟨V, hV⟩ : ∃ V, V = (W.alloc (.cells #[.int .i64 id, .int .i64 x.kind, .int .i64 x.n, .string x.s] 85)).drew := ⟨_, rfl⟩
        have hxV : Ext W V := by rw [hV]; exact hS2
        have rV : V.heap[W.heap.size]? = some (.cells #[.int .i64 id, .int .i64 x.kind, .int .i64 x.n, .string x.s] 85 (0, 0)) := by rw [hV]; exact heap_alloc_new _ _
        rw [← hV]
        clear hV hS0 hS1 hS2
        have hEV := hEW.trans hxV
        have hrV : Ext wr V := hxW.trans hxV
        obtain ⟨y0, y1, y2, y3, y4⟩ : V.cell? ⟨wr.heap.size, 0, none⟩ = some (.int .i64 x.kind) ∧ V.cell? ⟨wr.heap.size, 1, none⟩ = some (.int .i64 x.n) ∧ V.cell? ⟨wr.heap.size, 2, none⟩ = some (.string x.s) ∧ V.cell? ⟨wr.heap.size, 3, none⟩ = some (.slice xia x.ids.length xic) ∧ V.cell? ⟨wr.heap.size, 4, none⟩ = some (.slice xla x.l.length xlc) := ⟨hxV.cell x0, hxV.cell x1, hxV.cell x2, hxV.cell x3, hxV.cell x4⟩
        have Hown := hide hown
        have hwz : w.heap.size + 1 ≤ wr.heap.size := by have := hxr.size; omega
        clear hown x0 x1 x2 x3 x4 d3 ci hXW
        by_cases hk2 : x.kind = 2
        · have hkb : (x.kind == 2) = true := by simp [hk2]
          have Hpv : Hid ((partV (encV k) id x).cells = [.int .i64 id, .int .i64 x.kind, .int .i64 x.n, .string ⟨(encV k x).toArray⟩]) := by
            unfold Hid partV PartM.cells; rw [if_pos hk2]
          have hex := hinx hk2
          clear hk2 hinx
          go_wp2_with fail
          refine (ih x ⟨xia, x.ids.length, xic⟩ ⟨xla, x.l.length, xlc⟩ V hex ((unhide Hxv).ext hEV)).mono ?_
          rintro e w4 ⟨rfl, hx4⟩
          generalize encV k x = bs at *
          have r4 := hx4.heap rV
          have z4 := lt_of_heap r4
          obtain ⟨p0, p1, p2, p3, pf⟩ := row4f r4
          have hr4 : Ext wr w4 := hrV.trans hx4
          have hr5 : Ext wr (w4.setCell ⟨W.heap.size, 3, none⟩ (.string ⟨bs.toArray⟩)) := hr4.setCell (by have := hxW.size; simp; omega) _
          have ho5 := owns_ext (unhide Hown) hr5
          have r5 := heap_setCell_same w4 W.heap.size 3 _ 85 (.string ⟨bs.toArray⟩) r4
          simp only [List.setIfInBounds_toArray, List.set_cons_succ, List.set_cons_zero] at r5
          obtain ⟨q0, q1, q2, q3, _⟩ := row4f r5
          have Ho5 := hide ho5
          clear ho5
          go_wp2_with (at_builtin; refine wpList_app1 _ _ 83 85 (.agg #[.int .i64 0, .int .i64 0, .int .i64 0, .string ⟨#[]⟩]) 4 40 Tryz.underlying83 info61 rfl (by decide) (by decide) rfl rfl (w.heap.size + 1) _ j _ rfl ((unhide Ho5).alloc _) w4.heap.size 1 [.int .i64 id, .int .i64 x.kind, .int .i64 x.n, .string ⟨bs.toArray⟩] rfl rfl ?c1 ?c2 ?c3 ?c4 ?_)
          case c1 => exact range_of_new4 _ _ _ _ _ _ (by simp)
          case c2 => exact one_part ⟨id, x.kind, x.n, ⟨bs.toArray⟩⟩
          case c3 => omega
          case c4 => simp; have := hr4.size; omega
          intro v6 w6 ho6 hg6
          have hE6 : Ext w0 w6 := ((hxr.trans hr5).alloc _).owned hg6 ((unhide Ho5).alloc _) (by omega)
          have Ho6 := hide ho6
          clear ho6 hg6
          go_wp2
          refine ⟨⟨j + 1, by omega, by go_num, ?_, hE6⟩, by simp [intOf]; omega⟩
          rw [unhide htk, unhide Hpv]
          exact unhide Ho6
        · have hkb : (x.kind == 2) = false := by simp [hk2]
          have Hpv : Hid ((partV (encV k) id x).cells = [.int .i64 id, .int .i64 x.kind, .int .i64 x.n, .string x.s]) := by
            unfold Hid partV PartM.cells; rw [if_neg hk2]
          clear hk2 hinx
          obtain ⟨p0, p1, p2, p3, _⟩ := row4f rV
          have ho5 := owns_ext (unhide Hown) hrV
          have Ho5 := hide ho5
          clear ho5
          go_wp2_with (at_builtin; refine wpList_app1 _ _ 83 85 (.agg #[.int .i64 0, .int .i64 0, .int .i64 0, .string ⟨#[]⟩]) 4 40 Tryz.underlying83 info61 rfl (by decide) (by decide) rfl rfl (w.heap.size + 1) _ j _ rfl ((unhide Ho5).alloc _) V.heap.size 1 [.int .i64 id, .int .i64 x.kind, .int .i64 x.n, .string x.s] rfl rfl ?c1 ?c2 ?c3 ?c4 ?_)
          case c1 => exact range_of_new4 _ _ _ _ _ _ (by simp)
          case c2 => exact one_part ⟨id, x.kind, x.n, x.s⟩
          case c3 => omega
          case c4 => simp; have := hrV.size; omega
          intro v6 w6 ho6 hg6
          have hE6 : Ext w0 w6 := ((hxr.trans hrV).alloc _).owned hg6 ((unhide Ho5).alloc _) (by omega)
          have Ho6 := hide ho6
          clear ho6 hg6
          go_wp2
          refine ⟨⟨j + 1, by omega, by go_num, ?_, hE6⟩, by simp [intOf]; omega⟩
          rw [unhide htk, unhide Hpv]
          exact unhide Ho6
      · have hjl : j = vl.length := by omega
        rw [List.take_of_length_le (by omega)] at hown
        obtain ⟨sv, rfl, hps⟩ := parts_of_owns hown (by omega)
        have hsz : ∀ p ∈ ps, p.s.size ≤ 9223372036854775807 := fun p hp => by
          have hg := unhide Hgood p hp
          rcases hg.2.2 with h | h
          · rw [h.2.2.2]; decide
          · exact Nat.le_trans h.2.2 (by decide)
        have henc := encR_of ps [] (unhide Hgood) (by simpa using hlong)
        have Hps := hide hps
        have Henc := hide henc
        clear hown hps henc
        go_wp2_with fail
        refine (encode_any sv ps wr (unhide Hps) (by omega) hsz).mono ?_
        rintro e w2 ⟨rfl, hx2⟩
        have e1 : Hid (wencS ps = ⟨R.toArray⟩ ∧ encE ps = 0) := by
          unfold Hid wencS encE; rw [unhide Henc, unhide HR]; exact ⟨by simp, rfl⟩
        rw [(unhide e1).1, (unhide e1).2]
        clear e1 Henc
        go_wp2
        refine bodyPost_ret (v := .tuple #[.string ⟨R.toArray⟩, .int .i64 0]) (by simp [results, Tryz.results38, go_sem]) rfl ⟨rfl, hEr.trans hx2⟩
end Go.Proofs.YtmdpdgldmedebaaGreatDoor

namespace Go.Proofs.YtmdpdgldmedebaaGreatDoor
set_option linter.unusedSimpArgs false
set_option linter.unusedVariables false
open Go.RowKit

/-- append of one element, and where its row lies then. -/
theorem wpList_app1w {P : Program} {w : World} {ops : Array Oper} {rest : List Oper} {o : Oper} {a : Act} {Q : Exit → Act → World → Prop} (s x : Operand) (t e : TypeId) (z : Value) (size bytes : Nat)
    (ht : P.underlying t = some (.slice e)) (hinfo : (P.info? e).map (fun i => (i.zero, i.size, i.bytes)) = some (some z, size, bytes)) (hzs : z.cells.size = size) (hsz : 0 < size) (hby : bytes ≤ 96)
    (hgd : o.guard = none) (ho : o.op = .call { callee := .builtin .append, args := #[s, x], argTypes := #[t, t] })
    (base : Nat) (v : Value) (n : Nat) (xs : List Value) (hs : a.eval s = v) (hown : w.ownsRow base e size v n xs)
    (g c : Nat) (news : List Value) (hx : a.eval x = .slice (some ⟨g, 0, none⟩) 1 c) (hl : news.length = size) (hnews : w.rangeAt g 0 news) (h1 : ∀ u ∈ news, u.oneCell' = true)
    (hn : n < 1048576) (hbase : base ≤ w.heap.size)
    (h : ∀ v' w', w'.ownsRow base e size v' (n + 1) (xs ++ news) → w.grownBy w' v.ownBlock → (v'.ownBlock = v.ownBlock ∨ ∃ g', v'.ownBlock = some g' ∧ w.heap.size ≤ g') → wpList P ops Q rest (a.put o.dst v') w') : wpList P ops Q (o :: rest) a w := by
  obtain ⟨i, hi, hz0, hz1, hz2⟩ := info_parts hinfo
  subst hz1 hz2
  have hcs : ∀ j u, news[j]? = some u → w.cell? ((⟨g, 0, none⟩ : Addr).add j) = some u := fun j u hu => by rw [Addr.add_mid]; exact hnews j u hu
  have hbytes : (n + 1) * i.bytes ≤ 140737488355328 := by
    have : (n + 1) * i.bytes ≤ 1048576 * 96 := Nat.mul_le_mul (by omega) hby
    omega
  have hl1 : news.length = 1 * i.size := by rw [hl, Nat.one_mul]
  obtain ⟨v', w', hr, h2, h3, _⟩ := run_append_own (P := P) w base t o.type e i z i.size i.bytes ht hi hz0 rfl rfl hzs hsz v n xs hown ⟨g, 0, none⟩ 1 c news hl1 hcs h1 (by unfold maxLen; omega) hbytes hbase
  have hwhere : v'.ownBlock = v.ownBlock ∨ ∃ g', v'.ownBlock = some g' ∧ w.heap.size ≤ g' := by
    rcases hown.2 with ⟨rfl, rfl⟩ | ⟨g0, cap, cur, rfl, hbg, hg, hnc, hcm, hcz, htake⟩
    · have hxs : xs = [] := List.eq_nil_of_length_eq_zero (by simpa using hown.1)
      subst hxs
      obtain ⟨v2, w2, hr2, h22, _, _⟩ := run_append_own (P := P) w w.heap.size t o.type e i z i.size i.bytes ht hi hz0 rfl rfl hzs hsz (.slice none 0 0) 0 [] (World.ownsRow_nil _ _ _ _) ⟨g, 0, none⟩ 1 c news hl1 hcs h1 (by unfold maxLen; omega) hbytes (Nat.le_refl _)
      rw [hr] at hr2
      obtain ⟨rfl, rfl⟩ := by simpa using hr2
      rcases h22.2 with ⟨_, h0⟩ | ⟨g', cap', cur', rfl, hg', _⟩
      · omega
      · exact .inr ⟨g', rfl, hg'⟩
    · by_cases hroom : n + 1 ≤ cap
      · have hfit : n * i.size + news.length ≤ cur.size := by rw [hl1, hcz, ← Nat.add_mul]; exact Nat.mul_le_mul_right _ hroom
        have hr2 := run_append_room (P := P) w t o.type e i ht hi g0 n cap cur hg ⟨g, 0, none⟩ 1 c news hl1 hcs h1 hroom hfit
        rw [hr] at hr2
        obtain ⟨rfl, _⟩ := by simpa using hr2
        exact .inl rfl
      · have holds : ∀ j u, xs[j]? = some u → w.cell? ((⟨g0, 0, none⟩ : Addr).add j) = some u := hown.cells (g := g0) rfl
        have hr2 := run_append_grow (P := P) w t o.type e i z ht hi hz0 ⟨g0, 0, none⟩ n cap xs hown.1 holds ⟨g, 0, none⟩ 1 c news hl1 hcs (by omega) (by omega) (growslice_fits (by omega) hbytes)
        rw [hr] at hr2
        obtain ⟨rfl, _⟩ := by simpa using hr2
        exact .inr ⟨w.heap.size, rfl, Nat.le_refl _⟩
  refine wpList_plain hgd fun _ hK => ?_
  unfold Oper.wp execOp
  simp only [ho, resolve, invoke, builtin, Sem.run_bind, Sem.run_pure, Result.andThen_ok, List.map_toArray, List.map_cons, List.map_nil, hs, hx, hr]
  exact hK _ _ (h v' w' h2 h3 hwhere)

/-- A value's five cells tell v; all its lists lie in blocks of S. -/
def ValueAtP (S : Nat → Prop) : Nat → World → List Value → ValueM → Prop
  | 0, _, _, _ => False
  | k + 1, w, cs, v => ∃ ids l : SV, cs = [.int .i64 v.kind, .int .i64 v.n, .string v.s, .slice ids.a ids.len ids.cap, .slice l.a l.len l.cap] ∧ IntsAt w ids v.ids ∧ SliceAt 5 (ValueAtP S k) w l v.l ∧ ids.ok ∧ l.ok ∧ (∀ ad, ids.a = some ad → S ad.block) ∧ (∀ ad, l.a = some ad → S ad.block)
theorem ValueAtP.at_ {S : Nat → Prop} : ∀ {k : Nat} {w : World} {cs : List Value} {v : ValueM}, ValueAtP S k w cs v → ValueAt k w cs v
  | 0, _, _, _, h => h.elim
  | _ + 1, _, _, _, h => let ⟨i, l, h1, h2, h3, h4, h5, _, _⟩ := h
    ⟨i, l, h1, h2, ⟨h3.1, fun j x hx => let ⟨b, o, cs, a1, a2, a3⟩ := h3.2 j x hx; ⟨b, o, cs, a1, a2, a3.at_⟩⟩, h4, h5⟩
theorem ValueAtP.sub {S S' : Nat → Prop} (hS : ∀ b, S b → S' b) : ∀ {k : Nat} {w : World} {cs : List Value} {v : ValueM}, ValueAtP S k w cs v → ValueAtP S' k w cs v
  | 0, _, _, _, h => h.elim
  | _ + 1, _, _, _, h => let ⟨i, l, h1, h2, h3, h4, h5, h6, h7⟩ := h
    ⟨i, l, h1, h2, ⟨h3.1, fun j x hx => let ⟨b, o, cs, a1, a2, a3⟩ := h3.2 j x hx; ⟨b, o, cs, a1, a2, a3.sub hS⟩⟩, h4, h5, fun ad ha => hS _ (h6 ad ha), fun ad ha => hS _ (h7 ad ha)⟩
theorem ValueAtP.up {S : Nat → Prop} : ∀ {k : Nat} {w : World} {cs : List Value} {v : ValueM}, ValueAtP S k w cs v → ValueAtP S (k + 1) w cs v
  | 0, _, _, _, h => h.elim
  | _ + 1, _, _, _, h => let ⟨i, l, h1, h2, h3, h4, h5, h6, h7⟩ := h
    ⟨i, l, h1, h2, ⟨h3.1, fun j x hx => let ⟨b, o, cs, a1, a2, a3⟩ := h3.2 j x hx; ⟨b, o, cs, a1, a2, a3.up⟩⟩, h4, h5, h6, h7⟩
theorem ValueAtP.len {S : Nat → Prop} {k : Nat} {w : World} {cs : List Value} {v : ValueM} (h : ValueAtP S k w cs v) : cs.length = 5 := by
  cases k with
  | zero => exact h.elim
  | succ k => obtain ⟨i, l, h1, _⟩ := h; rw [h1]; rfl
theorem rangeAt_keep {w w' : World} {b o : Nat} {cs : List Value} (h : w.rangeAt b o cs) (hb : ∀ ob, w.heap[b]? = some ob → w'.heap[b]? = some ob) : w'.rangeAt b o cs := fun j v hv => by
  have hc := h j v hv
  have hlt := World.block_lt_of_cell? w _ hc
  have he : w'.heap[b]? = w.heap[b]? := by rw [hb _ (Array.getElem?_eq_getElem hlt), Array.getElem?_eq_getElem hlt]
  rw [World.cell?_of_block (w := w) he]; exact hc
theorem ValueAtP.keep {S : Nat → Prop} : ∀ {k : Nat} {w w' : World} {cs : List Value} {v : ValueM}, ValueAtP S k w cs v → (∀ b ob, S b → w.heap[b]? = some ob → w'.heap[b]? = some ob) → ValueAtP S k w' cs v
  | 0, _, _, _, _, h, _ => h.elim
  | _ + 1, _, _, _, _, h, hk => let ⟨i, l, h1, h2, h3, h4, h5, h6, h7⟩ := h
    ⟨i, l, h1, ⟨h2.1, fun j x hx => let ⟨b, o, cs, a1, a2, a3⟩ := h2.2 j x hx; ⟨b, o, cs, a1, rangeAt_keep a2 (fun ob hb => hk b ob (h6 _ a1) hb), a3⟩⟩,
      ⟨h3.1, fun j x hx => let ⟨b, o, cs, a1, a2, a3⟩ := h3.2 j x hx; ⟨b, o, cs, a1, rangeAt_keep a2 (fun ob hb => hk b ob (h7 _ a1) hb), a3.keep hk⟩⟩, h4, h5, h6, h7⟩
theorem ValueAtP.ext {S : Nat → Prop} {k : Nat} {w w' : World} {cs : List Value} {v : ValueM} (h : ValueAtP S k w cs v) (he : Ext w w') : ValueAtP S k w' cs v := h.keep fun _ _ _ hb => he.heap hb
theorem ValueAtP.one {S : Nat → Prop} {k : Nat} {w : World} {cs : List Value} {v : ValueM} (h : ValueAtP S k w cs v) : ∀ u ∈ cs, u.oneCell' = true := by
  cases k with
  | zero => exact h.elim
  | succ k => obtain ⟨i, l, h1, _⟩ := h; rw [h1]; intro u hu; simp at hu; rcases hu with rfl | rfl | rfl | rfl | rfl <;> rfl

/-- A row of the call's own of values, whose own lists lie elsewhere in the call's own memory. -/
def VRow (k : Nat) (w : World) (base : Nat) (X : Nat → Prop) (ex : Option Nat) (v : Value) (l : List ValueM) : Prop :=
  ∃ css : List (List Value), w.ownsRow base 28 5 v l.length (css.flatMap fun c => c) ∧ css.length = l.length ∧ ∀ (i : Nat) (c : List Value) (x : ValueM), css[i]? = some c → l[i]? = some x → ValueAtP (fun b => X b ∧ v.ownBlock ≠ some b ∧ ex ≠ some b ∧ b < w.heap.size) k w c x
theorem VRow.nil (k : Nat) (w : World) (base : Nat) (X : Nat → Prop) (ex : Option Nat) : VRow k w base X ex (.slice none 0 0) [] := ⟨[], World.ownsRow_nil _ _ _ _, rfl, fun i c x h => by simp at h⟩
theorem VRow.ext {k : Nat} {w w' : World} {base : Nat} {X : Nat → Prop} {ex : Option Nat} {v : Value} {l : List ValueM} (h : VRow k w base X ex v l) (he : Ext w w') : VRow k w' base X ex v l :=
  let ⟨css, h1, h2, h3⟩ := h
  ⟨css, owns_ext h1 he, h2, fun i c x hc hx => ((h3 i c x hc hx).ext he).sub fun b hb => ⟨hb.1, hb.2.1, hb.2.2.1, by have := he.size; have := hb.2.2.2; omega⟩⟩
theorem VRow.push {k : Nat} {w w' : World} {base : Nat} {X : Nat → Prop} {ex : Option Nat} {v v' : Value} {l : List ValueM} {css : List (List Value)} {c : List Value} {x : ValueM} (hcl : css.length = l.length)
    (h3 : ∀ (i : Nat) (c : List Value) (x : ValueM), css[i]? = some c → l[i]? = some x → ValueAtP (fun b => X b ∧ v.ownBlock ≠ some b ∧ ex ≠ some b ∧ b < w.heap.size) k w c x)
    (hx : ValueAtP (fun b => X b ∧ v.ownBlock ≠ some b ∧ ex ≠ some b ∧ b < w.heap.size) k w c x)
    (ho : w'.ownsRow base 28 5 v' (l.length + 1) ((css.flatMap fun c => c) ++ c)) (hg : w.grownBy w' v.ownBlock) (hw : v'.ownBlock = v.ownBlock ∨ ∃ g', v'.ownBlock = some g' ∧ w.heap.size ≤ g') : VRow k w' base X ex v' (l ++ [x]) := by
  have key : ∀ {c : List Value} {x : ValueM}, ValueAtP (fun b => X b ∧ v.ownBlock ≠ some b ∧ ex ≠ some b ∧ b < w.heap.size) k w c x → ValueAtP (fun b => X b ∧ v'.ownBlock ≠ some b ∧ ex ≠ some b ∧ b < w'.heap.size) k w' c x := fun h => by
    refine (h.keep fun b ob hb hob => ?_).sub fun b hb => ⟨hb.1, ?_, hb.2.2.1, by have := hg.size; have := hb.2.2.2; omega⟩
    · rw [hg.block b hb.2.2.2 (fun e => hb.2.1 e.symm)]; exact hob
    · rcases hw with e | ⟨g', e, hge⟩
      · rw [e]; exact hb.2.1
      · rw [e]; intro he; cases he; have := hb.2.2.2; omega
  refine ⟨css ++ [c], ?_, by simp [hcl], fun i c' x' hc hx' => ?_⟩
  · rw [List.length_append, List.length_singleton, List.flatMap_append]
    simpa using ho
  · by_cases hi : i < css.length
    · rw [List.getElem?_append_left hi] at hc
      rw [List.getElem?_append_left (by omega)] at hx'
      exact key (h3 i c' x' hc hx')
    · by_cases hi2 : i = css.length
      · subst hi2
        rw [List.getElem?_append_right (Nat.le_refl _)] at hc
        rw [hcl, List.getElem?_append_right (Nat.le_refl _)] at hx'
        simp at hc hx'
        subst hc hx'
        exact key hx
      · rw [List.getElem?_eq_none (by simp; omega)] at hc; cases hc
/-- .. stays where another row of the call's own grows. -/
theorem VRow.other {k : Nat} {w w' : World} {base : Nat} {X : Nat → Prop} {ex ex' : Option Nat} {v : Value} {l : List ValueM} (h : VRow k w base X ex v l) (hg : w.grownBy w' ex) (hne : v.ownBlock = none ∨ v.ownBlock ≠ ex) (hw : ex' = ex ∨ ∃ g', ex' = some g' ∧ w.heap.size ≤ g') : VRow k w' base X ex' v l := by
  obtain ⟨css, h1, h2, h3⟩ := h
  refine ⟨css, h1.kept hg hne, h2, fun i c x hc hx => ((h3 i c x hc hx).keep fun b ob hb hob => ?_).sub fun b hb => ⟨hb.1, hb.2.1, ?_, by have := hg.size; have := hb.2.2.2; omega⟩⟩
  · rw [hg.block b hb.2.2.2 (fun e => hb.2.2.1 e.symm)]; exact hob
  · rcases hw with e | ⟨g', e, hge⟩
    · rw [e]; exact hb.2.2.1
    · rw [e]; intro he; cases he; have := hb.2.2.2; omega
/-- .. and where one is written that is none of its own. -/
theorem VRow.set {k : Nat} {w : World} {base : Nat} {X : Nat → Prop} {ex : Option Nat} {v : Value} {l : List ValueM} (h : VRow k w base X ex v l) {p : Addr} (hv : v.ownBlock ≠ some p.block) (hp : ∀ b, X b → b ≠ p.block) (u : Value) : VRow k (w.setCell p u) base X ex v l := by
  obtain ⟨css, h1, h2, h3⟩ := h
  refine ⟨css, ownsRow_setCell_other h1 hv u, h2, fun i c x hc hx => ((h3 i c x hc hx).keep fun b ob hb hob => ?_).sub fun b hb => ⟨hb.1, hb.2.1, hb.2.2.1, by simpa using hb.2.2.2⟩⟩
  rw [Below.heap_setCell w p u b (hp b hb.1)]; exact hob
/-- .. with less asked of where they lie. -/
theorem VRow.loose {k : Nat} {w : World} {base : Nat} {X X' : Nat → Prop} {ex : Option Nat} {v : Value} {l : List ValueM} (h : VRow k w base X ex v l) (hX : ∀ b, X b → b < w.heap.size → X' b) : VRow k w base X' ex v l := by
  obtain ⟨css, h1, h2, h3⟩ := h
  exact ⟨css, h1, h2, fun i c x hc hx => (h3 i c x hc hx).sub fun b hb => ⟨hX b hb.1 hb.2.2.2, hb.2⟩⟩
theorem flat5_get {css : List (List Value)} (h5 : ∀ c ∈ css, c.length = 5) : ∀ {i j : Nat} {c : List Value} {u : Value}, css[i]? = some c → c[j]? = some u → (css.flatMap fun c => c)[i * 5 + j]? = some u := by
  induction css with
  | nil => intro i j c u h; simp at h
  | cons d r ih =>
    intro i j c u hc hu
    have hd := h5 d (by simp)
    rw [List.flatMap_cons]
    cases i with
    | zero =>
      simp at hc
      subst hc
      have : j < d.length := (List.getElem?_eq_some_iff.1 hu).1
      rw [Nat.zero_mul, Nat.zero_add, List.getElem?_append_left this]; exact hu
    | succ i =>
      rw [List.getElem?_append_right (by rw [hd]; omega), hd, show (i + 1) * 5 + j - 5 = i * 5 + j by omega]
      exact ih (fun c hc => h5 c (by simp [hc])) (by simpa using hc) hu
/-- .. is a slice of values. -/
theorem VRow.slice {k : Nat} {w : World} {base : Nat} {X : Nat → Prop} {ex : Option Nat} {v : Value} {l : List ValueM} (h : VRow k w base X ex v l) : ∃ s : SV, v = .slice s.a s.len s.cap ∧ SliceAt 5 (ValueAtP (fun b => X b ∧ b < w.heap.size) k) w s l ∧ s.ok ∧ ∀ ad, s.a = some ad → base ≤ ad.block ∧ ad.block < w.heap.size := by
  obtain ⟨css, h1, h2, h3⟩ := h
  obtain ⟨a, c, rfl⟩ := owns_slice h1
  have hall : ∀ c ∈ css, c.length = 5 := fun c hc => by
    obtain ⟨i, hi, rfl⟩ := List.getElem_of_mem hc
    exact (h3 i css[i] l[i] (List.getElem?_eq_getElem hi) (List.getElem?_eq_getElem (by omega))).len
  refine ⟨⟨a, l.length, c⟩, rfl, ⟨rfl, fun i x hx => ?_⟩, ok_of_owns (s := ⟨a, l.length, c⟩) h1, fun ad ha => h1.lt ad.block (by simp only at ha; simp [Value.ownBlock, ha])⟩
  have hi := (List.getElem?_eq_some_iff.1 hx).1
  have hic : i < css.length := by omega
  obtain ⟨g, rfl⟩ := own_some h1 (by omega)
  refine ⟨g, 0, css[i], rfl, fun j u hu => ?_, (h3 i css[i] x (List.getElem?_eq_getElem hic) hx).sub fun b hb => ⟨hb.1, hb.2.2.2⟩⟩
  have hj : j < 5 := by have := (List.getElem?_eq_some_iff.1 hu).1; rw [hall css[i] (List.getElem_mem hic)] at this; exact this
  rw [Nat.zero_add, h1.cellAt _ (by omega)]
  exact flat5_get hall (List.getElem?_eq_getElem hic) hu
end Go.Proofs.YtmdpdgldmedebaaGreatDoor

