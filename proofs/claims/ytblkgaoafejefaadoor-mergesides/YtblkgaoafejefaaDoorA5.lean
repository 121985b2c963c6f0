import Derived.Test.YtblkgaoafejefaaDoorA4
namespace Go.Proofs.YtblkgaoafejefaaDoor
set_option linter.unusedSimpArgs false
set_option linter.unusedVariables false
open Go.RowKit

def flawC (nm : ByteArray) (n : Int) : List Value := [.string nm, .int .i64 n, .int .i64 0]
theorem row16 {w : World} {g : Nat} {t : TypeId} {c0 c1 c2 c3 c4 c5 c6 c7 c8 c9 c10 c11 c12 c13 c14 c15 : Value} (hb : w.heap[g]? = some (.cells #[c0, c1, c2, c3, c4, c5, c6, c7, c8, c9, c10, c11, c12, c13, c14, c15] t (0, 0))) :
    w.cell? ⟨g, 0, none⟩ = some c0 ∧ w.cell? ⟨g, 1, none⟩ = some c1 ∧ w.cell? ⟨g, 2, none⟩ = some c2 ∧ w.cell? ⟨g, 3, none⟩ = some c3 ∧ w.cell? ⟨g, 4, none⟩ = some c4 ∧ w.cell? ⟨g, 5, none⟩ = some c5 ∧ w.cell? ⟨g, 6, none⟩ = some c6 ∧ w.cell? ⟨g, 7, none⟩ = some c7 ∧ w.cell? ⟨g, 8, none⟩ = some c8 ∧ w.cell? ⟨g, 9, none⟩ = some c9 ∧ w.cell? ⟨g, 10, none⟩ = some c10 ∧ w.cell? ⟨g, 11, none⟩ = some c11 ∧ w.cell? ⟨g, 12, none⟩ = some c12 ∧ w.cell? ⟨g, 13, none⟩ = some c13 ∧ w.cell? ⟨g, 14, none⟩ = some c14 ∧ w.cell? ⟨g, 15, none⟩ = some c15 :=
  ⟨cell_of_row w g 0 _ t _ hb, cell_of_row w g 1 _ t _ hb, cell_of_row w g 2 _ t _ hb, cell_of_row w g 3 _ t _ hb, cell_of_row w g 4 _ t _ hb, cell_of_row w g 5 _ t _ hb, cell_of_row w g 6 _ t _ hb, cell_of_row w g 7 _ t _ hb, cell_of_row w g 8 _ t _ hb, cell_of_row w g 9 _ t _ hb, cell_of_row w g 10 _ t _ hb, cell_of_row w g 11 _ t _ hb, cell_of_row w g 12 _ t _ hb, cell_of_row w g 13 _ t _ hb, cell_of_row w g 14 _ t _ hb, cell_of_row w g 15 _ t _ hb⟩
theorem owns_nil (w : World) (base : Nat) (e : TypeId) (k : Nat) : w.ownsRow base e k (.slice none 0 0) 0 [] := ⟨by simp, .inl ⟨rfl, rfl⟩⟩
theorem set6_row {w : World} {g : Nat} {t : TypeId} {c0 c1 c2 c3 c4 c5 : Value} (hb : w.heap[g]? = some (.cells #[c0, c1, c2, c3, c4, c5] t (0, 0))) (d0 d1 d2 d3 d4 d5 : Value) :
    ((((((w.setCell ⟨g, 0, none⟩ d0).setCell ⟨g, 1, none⟩ d1).setCell ⟨g, 2, none⟩ d2).setCell ⟨g, 3, none⟩ d3).setCell ⟨g, 4, none⟩ d4).setCell ⟨g, 5, none⟩ d5).heap[g]? = some (.cells #[d0, d1, d2, d3, d4, d5] t (0, 0)) := by
  have h0 := heap_setCell_same w g 0 _ t d0 hb
  have h1 := heap_setCell_same _ g 1 _ t d1 h0
  have h2 := heap_setCell_same _ g 2 _ t d2 h1
  have h3 := heap_setCell_same _ g 3 _ t d3 h2
  have h4 := heap_setCell_same _ g 4 _ t d4 h3
  exact heap_setCell_same _ g 5 _ t d5 h4
theorem drew_ext {a w : World} (h : Ext a w) : Ext a w.drew := h.drew
theorem TyOwn.ext {w w1 : World} {h base : Nat} {tv : TV} {fs : List FieldM} {gs : List Int} {is : List ItemM} (t : TyOwn w h base tv fs gs is) (he : Ext w w1) : TyOwn w1 h base tv fs gs is := ⟨he.heap t.row, owns_ext t.fields he, owns_ext t.gone he, owns_ext t.items he⟩
theorem TyOwn.kept {w w1 : World} {h base B : Nat} {tv : TV} {fs : List FieldM} {gs : List Int} {is : List ItemM} {v : Value} {n : Nat} {xs : List Value} (t : TyOwn w h base tv fs gs is) (hg : w.grownBy w1 v.ownBlock) (ho : w.ownsRow B 32 3 v n xs) (hB : h < B) : TyOwn w1 h base tv fs gs is :=
  ⟨by rw [hg.block h (lt_of_heap t.row) (fun e => by have := (ho.lt h e.symm).1; omega)]; exact t.row, t.fields.kept hg (owns_apart t.fields ho (by decide)), t.gone.kept hg (owns_apart t.gone ho (by decide)), t.items.kept hg (owns_apart t.items ho (by decide))⟩
theorem info32 : (Tryd.prog.info? 32).map (fun i => (i.zero, i.size, i.bytes)) = some (some (.agg #[.string ⟨#[]⟩, .int .i64 0, .int .i64 0]), 3, 32) := by kernel_rfl
theorem one_flaw (nm : ByteArray) (n : Int) : ∀ u ∈ flawC nm n, u.oneCell' = true := by intro u hu; simp [flawC] at hu; rcases hu with rfl | rfl | rfl <;> rfl
theorem range_of_new3 (w : World) (u0 u1 u2 : Value) (t : TypeId) {g : Nat} (hg : g = w.heap.size) : (w.alloc (.cells #[u0, u1, u2] t)).rangeAt g 0 [u0, u1, u2] := by
  subst hg
  exact World.rangeAt_of_block (heap_alloc_new w _) 0 3
theorem idsTo_succ (k : Nat) : idsTo (k + 1) = idsTo k ++ [(k : Int) + 1] := by unfold idsTo; rw [List.range_succ, List.map_append]; rfl
theorem flawsTo_succ (s : TS) (k : Nat) : fieldFlawsTo s (k + 1) = fieldFlawsTo s k ++ (if idFlaw s ((k : Int) + 1) then [(k : Int) + 1] else []) := by
  unfold fieldFlawsTo; rw [idsTo_succ, List.filter_append]; congr 1; simp [List.filter_cons]
theorem fieldsTo_succ (s : TS) (k : Nat) : fieldsTo s (k + 1) = fieldsTo s k ++ (if idFlaw s ((k : Int) + 1) then [] else ((idKept s ((k : Int) + 1)).getD none).toList) := by
  unfold fieldsTo; rw [idsTo_succ, List.filterMap_append]; congr 1
  cases h : idFlaw s ((k : Int) + 1) <;> cases h2 : (idKept s ((k : Int) + 1)).getD none <;> simp [h, h2]
theorem goneTo_succ (s : TS) (k : Nat) : goneTo s (k + 1) = goneTo s k ++ (if !idFlaw s ((k : Int) + 1) && idGone s ((k : Int) + 1) then [(k : Int) + 1] else []) := by
  unfold goneTo; rw [idsTo_succ, List.filter_append]; congr 1; simp [List.filter_cons]
theorem idsTo_len (k : Nat) : (idsTo k).length = k := by unfold idsTo; simp
theorem flawsTo_len (s : TS) (k : Nat) : (fieldFlawsTo s k).length ≤ k := Nat.le_trans (List.length_filter_le _ _) (Nat.le_of_eq (idsTo_len k))
theorem fieldsTo_len (s : TS) (k : Nat) : (fieldsTo s k).length ≤ k := Nat.le_trans (List.length_filterMap_le _ _) (Nat.le_of_eq (idsTo_len k))
theorem goneTo_len (s : TS) (k : Nat) : (goneTo s k).length ≤ k := Nat.le_trans (List.length_filter_le _ _) (Nat.le_of_eq (idsTo_len k))
set_option maxHeartbeats 12800000 in
set_option maxRecDepth 20000 in
theorem mergeFields_any (nm wn : ByteArray) (we : Bool) (wf wg wi : SV) (an : ByteArray) (ae : Bool) (af ag ai : SV) (bn : ByteArray) (be : Bool) (bf bg bi : SV) (s : TS) (h : Nat) (tn : ByteArray) (en : Bool) (w0 w : World) (hx0 : Ext w0 w) (hh : h < w.heap.size) (hh0 : w0.heap.size ≤ h)
    (hw : TypeAt w0 ⟨wn, we, wf, wg, wi⟩ s.was) (ha : TypeAt w0 ⟨an, ae, af, ag, ai⟩ s.a) (hb : TypeAt w0 ⟨bn, be, bf, bg, bi⟩ s.b) (sw : s.was.Small) (sa : s.a.Small) (sb : s.b.Small)
    (hrow : w.heap[h]? = some (.cells #[.string tn, .bool en, .slice none 0 0, .slice none 0 0, .slice none 0 0] 46 (0, 0))) :
    Calls Tryd.prog 27 #[.agg #[.string nm, .string wn, .bool we, .slice wf.a wf.len wf.cap, .slice wg.a wg.len wg.cap, .slice wi.a wi.len wi.cap, .string an, .bool ae, .slice af.a af.len af.cap, .slice ag.a ag.len ag.cap, .slice ai.a ai.len ai.cap, .string bn, .bool be, .slice bf.a bf.len bf.cap, .slice bg.a bg.len bg.cap, .slice bi.a bi.len bi.cap], .pointer (some ⟨h, 0, none⟩)] w fun e w' => ∃ (fl : SV) (tv : TV), e = .returned (.slice fl.a fl.len fl.cap) ∧ w'.ownsRow w.heap.size 32 3 (.slice fl.a fl.len fl.cap) (fieldFlawsTo s 30).length ((fieldFlawsTo s 30).flatMap (flawC nm)) ∧ TyOwn w' h w.heap.size tv (fieldsTo s 30) (goneTo s 30) [] ∧ tv.name = tn ∧ tv.enum = en ∧ tv.items = ⟨none, 0, 0⟩ ∧ Fr w.heap.size h h w w' := by
  obtain ⟨W, hW⟩ : ∃ W, W = w.alloc (.cells #[.string nm, .string wn, .bool we, .slice wf.a wf.len wf.cap, .slice wg.a wg.len wg.cap, .slice wi.a wi.len wi.cap, .string an, .bool ae, .slice af.a af.len af.cap, .slice ag.a ag.len ag.cap, .slice ai.a ai.len ai.cap, .string bn, .bool be, .slice bf.a bf.len bf.cap, .slice bg.a bg.len bg.cap, .slice bi.a bi.len bi.cap] 49) := ⟨_, rfl⟩
  have hxW : Ext w W := by rw [hW]; exact (Ext.refl w).alloc _
  have rW : W.heap[w.heap.size]? = some (.cells #[.string nm, .string wn, .bool we, .slice wf.a wf.len wf.cap, .slice wg.a wg.len wg.cap, .slice wi.a wi.len wi.cap, .string an, .bool ae, .slice af.a af.len af.cap, .slice ag.a ag.len ag.cap, .slice ai.a ai.len ai.cap, .string bn, .bool be, .slice bf.a bf.len bf.cap, .slice bg.a bg.len bg.cap, .slice bi.a bi.len bi.cap] 49 (0, 0)) := by rw [hW]; exact heap_alloc_new _ _
  have hzW : W.heap.size = w.heap.size + 1 := by rw [hW]; simp
  have HW := hide hW
  have hrW := hxW.heap hrow
  have hF0 : ∀ (id : Int) (w' : World), Ext w0 w' → Calls Tryd.prog 43 #[.agg #[.string wn, .bool we, .slice wf.a wf.len wf.cap, .slice wg.a wg.len wg.cap, .slice wi.a wi.len wi.cap], .int .i64 id] w' fun e w'' => e = .returned (.agg #[.bool (thF (fieldM s.was id)).1, .int .i64 (thF (fieldM s.was id)).2.id, .string (thF (fieldM s.was id)).2.name, .string (thF (fieldM s.was id)).2.type, .int .i64 (thF (fieldM s.was id)).2.kind, .int .i64 (thF (fieldM s.was id)).2.rule]) ∧ Ext w' w'' := fun id w' hx => fieldIn_any ⟨wn, we, wf, wg, wi⟩ s.was id w' (hw.ext hx) (Nat.le_trans sw.fields (by decide))
  have hG0 : ∀ (id : Int) (w' : World), Ext w0 w' → Calls Tryd.prog 45 #[.agg #[.string wn, .bool we, .slice wf.a wf.len wf.cap, .slice wg.a wg.len wg.cap, .slice wi.a wi.len wi.cap], .int .i64 id] w' fun e w'' => e = .returned (.bool (s.was.gone.contains id)) ∧ Ext w' w'' := fun id w' hx => isGone_any ⟨wn, we, wf, wg, wi⟩ s.was id w' (hw.ext hx) (Nat.le_trans sw.gone (by decide))
  have hF1 : ∀ (id : Int) (w' : World), Ext w0 w' → Calls Tryd.prog 43 #[.agg #[.string an, .bool ae, .slice af.a af.len af.cap, .slice ag.a ag.len ag.cap, .slice ai.a ai.len ai.cap], .int .i64 id] w' fun e w'' => e = .returned (.agg #[.bool (thF (fieldM s.a id)).1, .int .i64 (thF (fieldM s.a id)).2.id, .string (thF (fieldM s.a id)).2.name, .string (thF (fieldM s.a id)).2.type, .int .i64 (thF (fieldM s.a id)).2.kind, .int .i64 (thF (fieldM s.a id)).2.rule]) ∧ Ext w' w'' := fun id w' hx => fieldIn_any ⟨an, ae, af, ag, ai⟩ s.a id w' (ha.ext hx) (Nat.le_trans sa.fields (by decide))
  have hG1 : ∀ (id : Int) (w' : World), Ext w0 w' → Calls Tryd.prog 45 #[.agg #[.string an, .bool ae, .slice af.a af.len af.cap, .slice ag.a ag.len ag.cap, .slice ai.a ai.len ai.cap], .int .i64 id] w' fun e w'' => e = .returned (.bool (s.a.gone.contains id)) ∧ Ext w' w'' := fun id w' hx => isGone_any ⟨an, ae, af, ag, ai⟩ s.a id w' (ha.ext hx) (Nat.le_trans sa.gone (by decide))
  have hF2 : ∀ (id : Int) (w' : World), Ext w0 w' → Calls Tryd.prog 43 #[.agg #[.string bn, .bool be, .slice bf.a bf.len bf.cap, .slice bg.a bg.len bg.cap, .slice bi.a bi.len bi.cap], .int .i64 id] w' fun e w'' => e = .returned (.agg #[.bool (thF (fieldM s.b id)).1, .int .i64 (thF (fieldM s.b id)).2.id, .string (thF (fieldM s.b id)).2.name, .string (thF (fieldM s.b id)).2.type, .int .i64 (thF (fieldM s.b id)).2.kind, .int .i64 (thF (fieldM s.b id)).2.rule]) ∧ Ext w' w'' := fun id w' hx => fieldIn_any ⟨bn, be, bf, bg, bi⟩ s.b id w' (hb.ext hx) (Nat.le_trans sb.fields (by decide))
  have hG2 : ∀ (id : Int) (w' : World), Ext w0 w' → Calls Tryd.prog 45 #[.agg #[.string bn, .bool be, .slice bf.a bf.len bf.cap, .slice bg.a bg.len bg.cap, .slice bi.a bi.len bi.cap], .int .i64 id] w' fun e w'' => e = .returned (.bool (s.b.gone.contains id)) ∧ Ext w' w'' := fun id w' hx => isGone_any ⟨bn, be, bf, bg, bi⟩ s.b id w' (hb.ext hx) (Nat.le_trans sb.gone (by decide))
  clear hW hw ha hb sw sa sb hrow
  have hx0W := hx0.trans hxW
  obtain ⟨base, hbase⟩ : ∃ b, b = W.heap.size := ⟨_, rfl⟩
  have hb1 : w.heap.size + 1 ≤ base := by omega
  have hb2 : base ≤ w.heap.size + 1 := by omega
  have hb3 : base ≤ W.heap.size := by omega
  have hb4 : W.heap.size ≤ base := by omega
  clear hbase hzW
  go_enter Tryd.func27, Tryd.ntmps27
  go_wp2
  rw [← unhide HW]
  go_loopw [5, 6] (fun fl i wr => ∃ (k : Nat) (flv : SV) (tv : TV), k ≤ 30 ∧ i = .int .i64 ((k : Int) + 1) ∧ fl = .slice flv.a flv.len flv.cap ∧ wr.ownsRow base 32 3 (.slice flv.a flv.len flv.cap) (fieldFlawsTo s k).length ((fieldFlawsTo s k).flatMap (flawC nm)) ∧ TyOwn wr h base tv (fieldsTo s k) (goneTo s k) [] ∧ tv.name = tn ∧ tv.enum = en ∧ tv.items = ⟨none, 0, 0⟩ ∧ Fr base h h W wr) (fun _ i _ => 31 - (intOf i).toNat)
  case atStart =>
    refine ⟨0, ⟨none, 0, 0⟩, ⟨tn, en, ⟨none, 0, 0⟩, ⟨none, 0, 0⟩, ⟨none, 0, 0⟩⟩, by omega, rfl, rfl, owns_nil _ _ _ _, tyOwn_zero hrW, rfl, rfl, rfl, Fr.refl _ _ _ _⟩
  case round =>
    obtain ⟨k, flv, tv, hk, rfl, rfl, hfl, hty, ht1, ht2, ht3, hfr⟩ := hrel
    have hE : Ext w0 wr := hx0W.fr hfr hh0 hh0 (by have := hx0W.size; omega)
    have rB : wr.heap[w.heap.size]? = some (.cells #[.string nm, .string wn, .bool we, .slice wf.a wf.len wf.cap, .slice wg.a wg.len wg.cap, .slice wi.a wi.len wi.cap, .string an, .bool ae, .slice af.a af.len af.cap, .slice ag.a ag.len ag.cap, .slice ai.a ai.len ai.cap, .string bn, .bool be, .slice bf.a bf.len bf.cap, .slice bg.a bg.len bg.cap, .slice bi.a bi.len bi.cap] 49 (0, 0)) := by rw [hfr.block w.heap.size (by omega) (by omega) (by omega)]; exact rW
    obtain ⟨q0, q1, q2, q3, q4, q5, q6, q7, q8, q9, q10, q11, q12, q13, q14, q15⟩ := row16 rB
    have hzB := lt_of_heap rB
    by_cases hlt : k < 30
    · have hle : ((k : Int) + 1 ≤ 30) := by omega
      obtain ⟨id, hid⟩ : ∃ id : Int, id = (k : Int) + 1 := ⟨_, rfl⟩
      rw [← hid] at hle
      rw [← hid]
      have Hid0 := hide hid
      clear hid
      have hF0 := hF0 id
      have hG0 := hG0 id
      have hF1 := hF1 id
      have hG1 := hG1 id
      have hF2 := hF2 id
      have hG2 := hG2 id
      obtain ⟨R, hR⟩ : ∃ R, R = (idKept s id).map thF := ⟨_, rfl⟩
      have hSet := fun w' => settleF_any (thF (fieldM s.was id)) (thF (fieldM s.a id)) (thF (fieldM s.b id)) w'
      rw [settle_thF, show settleB (eqO eqF) (fieldM s.was id) (fieldM s.a id) (fieldM s.b id) = idKept s id from rfl, ← hR] at hSet
      have HR := hide hR
      clear hR
      generalize thF (fieldM s.was id) = p0 at *
      generalize thF (fieldM s.a id) = p1 at *
      generalize thF (fieldM s.b id) = p2 at *
      go_upto_region 5 with fail
      go_cut [7, 8] (fun s7 s8 wx => ∃ g, s7 = .pointer (some ⟨g, 0, none⟩) ∧ s8 = .bool R.isSome ∧ wr.heap.size ≤ g ∧ Ext wr wx ∧ wx.heap[g]? = some (.cells #[.bool (R.getD (false, FieldM.zero)).1, .int .i64 (R.getD (false, FieldM.zero)).2.id, .string (R.getD (false, FieldM.zero)).2.name, .string (R.getD (false, FieldM.zero)).2.type, .int .i64 (R.getD (false, FieldM.zero)).2.kind, .int .i64 (R.getD (false, FieldM.zero)).2.rule] 85 (0, 0)))
      case first =>
        rename_i J0 K0 hJ0 hK0
        refine wp_region_X (fun w' => Ext wr w') (fun _ => false) (by kernel_rfl) ?_
        obtain ⟨Wd, hWd⟩ : ∃ Wd, Wd = wr.drew := ⟨_, rfl⟩
        have hS0 : Ext wr Wd := by rw [hWd]; exact (Ext.refl wr).drew
        rw [← hWd]
        clear hWd
        refine wpAnyX_take (i := 0) (v := .pointer (some ⟨w.heap.size, 1, none⟩)) rfl (by kernel_rfl) (by kernel_rfl) (fun _ _ _ h => h) (.inl ⟨rfl, fun w' hS => by simp [execOp, go_sem]⟩) (hS0) ?_
        simp only [Act.put, List.getElem_toArray, List.getElem_cons_zero, List.getElem_cons_succ, List.setIfInBounds_toArray, List.set_cons_succ, List.set_cons_zero]
        refine wpAnyX_take (i := 1) (v := .agg #[.string wn, .bool we, .slice wf.a wf.len wf.cap, .slice wg.a wg.len wg.cap, .slice wi.a wi.len wi.cap]) rfl (by kernel_rfl) (by kernel_rfl) (fun _ _ _ h => h) (.inl ⟨rfl, fun w' hS => by simp [execOp, go_sem, hS.cell q1, hS.cell q2, hS.cell q3, hS.cell q4, hS.cell q5]⟩) (hS0) ?_
        simp only [Act.put, List.getElem_toArray, List.getElem_cons_zero, List.getElem_cons_succ, List.setIfInBounds_toArray, List.set_cons_succ, List.set_cons_zero]
        refine wpAnyX_take (i := 2) (v := .int .i64 id) rfl (by kernel_rfl) (by kernel_rfl) (fun _ _ _ h => h) (.inl ⟨rfl, fun w' hS => by simp [execOp, go_sem]⟩) (hS0) ?_
        simp only [Act.put, List.getElem_toArray, List.getElem_cons_zero, List.getElem_cons_succ, List.setIfInBounds_toArray, List.set_cons_succ, List.set_cons_zero]
        refine wpAnyX_take (i := 4) (v := .pointer (some ⟨w.heap.size, 6, none⟩)) rfl (by kernel_rfl) (by kernel_rfl) (fun _ _ _ h => h) (.inl ⟨rfl, fun w' hS => by simp [execOp, go_sem]⟩) (hS0) ?_
        simp only [Act.put, List.getElem_toArray, List.getElem_cons_zero, List.getElem_cons_succ, List.setIfInBounds_toArray, List.set_cons_succ, List.set_cons_zero]
        refine wpAnyX_take (i := 5) (v := .agg #[.string an, .bool ae, .slice af.a af.len af.cap, .slice ag.a ag.len ag.cap, .slice ai.a ai.len ai.cap]) rfl (by kernel_rfl) (by kernel_rfl) (fun _ _ _ h => h) (.inl ⟨rfl, fun w' hS => by simp [execOp, go_sem, hS.cell q6, hS.cell q7, hS.cell q8, hS.cell q9, hS.cell q10]⟩) (hS0) ?_
        simp only [Act.put, List.getElem_toArray, List.getElem_cons_zero, List.getElem_cons_succ, List.setIfInBounds_toArray, List.set_cons_succ, List.set_cons_zero]
        refine wpAnyX_take (i := 6) (v := .int .i64 id) rfl (by kernel_rfl) (by kernel_rfl) (fun _ _ _ h => h) (.inl ⟨rfl, fun w' hS => by simp [execOp, go_sem]⟩) (hS0) ?_
        simp only [Act.put, List.getElem_toArray, List.getElem_cons_zero, List.getElem_cons_succ, List.setIfInBounds_toArray, List.set_cons_succ, List.set_cons_zero]
        refine wpAnyX_take (i := 8) (v := .pointer (some ⟨w.heap.size, 11, none⟩)) rfl (by kernel_rfl) (by kernel_rfl) (fun _ _ _ h => h) (.inl ⟨rfl, fun w' hS => by simp [execOp, go_sem]⟩) (hS0) ?_
        simp only [Act.put, List.getElem_toArray, List.getElem_cons_zero, List.getElem_cons_succ, List.setIfInBounds_toArray, List.set_cons_succ, List.set_cons_zero]
        refine wpAnyX_take (i := 9) (v := .agg #[.string bn, .bool be, .slice bf.a bf.len bf.cap, .slice bg.a bg.len bg.cap, .slice bi.a bi.len bi.cap]) rfl (by kernel_rfl) (by kernel_rfl) (fun _ _ _ h => h) (.inl ⟨rfl, fun w' hS => by simp [execOp, go_sem, hS.cell q11, hS.cell q12, hS.cell q13, hS.cell q14, hS.cell q15]⟩) (hS0) ?_
        simp only [Act.put, List.getElem_toArray, List.getElem_cons_zero, List.getElem_cons_succ, List.setIfInBounds_toArray, List.set_cons_succ, List.set_cons_zero]
        refine wpAnyX_take (i := 10) (v := .int .i64 id) rfl (by kernel_rfl) (by kernel_rfl) (fun _ _ _ h => h) (.inl ⟨rfl, fun w' hS => by simp [execOp, go_sem]⟩) (hS0) ?_
        simp only [Act.put, List.getElem_toArray, List.getElem_cons_zero, List.getElem_cons_succ, List.setIfInBounds_toArray, List.set_cons_succ, List.set_cons_zero]
        refine wpAnyX_two (i := 3) (j := 16) rfl rfl (by kernel_rfl) rfl rfl (fun K hK => ?_) (fun K hK => ?_)
        · go_wp2_with fail
          refine (hF0 _ (hE.trans (hS0))).mono ?_
          rintro e Wc1 ⟨rfl, xWc1⟩
          go_wp2
          have fWc1 : Ext wr Wc1 := (hS0).trans xWc1
          refine hK.out _ _ (fWc1) ?_
          clear hK K
          refine wpAnyX_two (i := 7) (j := 16) rfl rfl (by kernel_rfl) rfl rfl (fun K hK => ?_) (fun K hK => ?_)
          · go_wp2_with fail
            refine (hF1 _ (hE.trans (fWc1))).mono ?_
            rintro e Wc2 ⟨rfl, xWc2⟩
            go_wp2
            have fWc2 : Ext wr Wc2 := (fWc1).trans xWc2
            refine hK.out _ _ (fWc2) ?_
            clear hK K
            refine wpAnyX_two (i := 11) (j := 16) rfl rfl (by kernel_rfl) rfl rfl (fun K hK => ?_) (fun K hK => ?_)
            · go_wp2_with fail
              refine (hF2 _ (hE.trans (fWc2))).mono ?_
              rintro e Wc3 ⟨rfl, xWc3⟩
              go_wp2
              have fWc3 : Ext wr Wc3 := (fWc2).trans xWc3
              refine hK.out _ _ (fWc3) ?_
              clear hK K
              refine wpAnyX_two (i := 12) (j := 16) rfl rfl (by kernel_rfl) rfl rfl (fun K hK => ?_) (fun K hK => ?_)
              · go_wp2_with fail
                refine (hSet _).mono ?_
                rintro e Wc4 ⟨rfl, xWc4⟩
                go_wp2
                have fWc4 : Ext wr Wc4 := (fWc3).trans xWc4
                refine hK.out _ _ (fWc4) ?_
                clear hK K
                refine wpAnyX_take (i := 13) (v := .tuple #[.agg #[.bool (R.getD (false, FieldM.zero)).1, .int .i64 (R.getD (false, FieldM.zero)).2.id, .string (R.getD (false, FieldM.zero)).2.name, .string (R.getD (false, FieldM.zero)).2.type, .int .i64 (R.getD (false, FieldM.zero)).2.kind, .int .i64 (R.getD (false, FieldM.zero)).2.rule], .bool R.isSome]) rfl (by kernel_rfl) (by kernel_rfl) (fun _ _ _ h => h) (.inl ⟨rfl, fun w' hS => by simp [execOp, go_sem]⟩) (fWc4) ?_
                simp only [Act.put, List.getElem_toArray, List.getElem_cons_zero, List.getElem_cons_succ, List.setIfInBounds_toArray, List.set_cons_succ, List.set_cons_zero]
                refine wpAnyX_take (i := 14) (v := .agg #[.bool (R.getD (false, FieldM.zero)).1, .int .i64 (R.getD (false, FieldM.zero)).2.id, .string (R.getD (false, FieldM.zero)).2.name, .string (R.getD (false, FieldM.zero)).2.type, .int .i64 (R.getD (false, FieldM.zero)).2.kind, .int .i64 (R.getD (false, FieldM.zero)).2.rule]) rfl (by kernel_rfl) (by kernel_rfl) (fun _ _ _ h => h) (.inl ⟨rfl, fun w' hS => by simp [execOp, go_sem]⟩) (fWc4) ?_
                simp only [Act.put, List.getElem_toArray, List.getElem_cons_zero, List.getElem_cons_succ, List.setIfInBounds_toArray, List.set_cons_succ, List.set_cons_zero]
                refine wpAnyX_take (i := 15) (v := .bool R.isSome) rfl (by kernel_rfl) (by kernel_rfl) (fun _ _ _ h => h) (.inl ⟨rfl, fun w' hS => by simp [execOp, go_sem]⟩) (fWc4) ?_
                simp only [Act.put, List.getElem_toArray, List.getElem_cons_zero, List.getElem_cons_succ, List.setIfInBounds_toArray, List.set_cons_succ, List.set_cons_zero]
                refine wpAnyX_one (j := 16) rfl (by kernel_rfl) rfl fun K hK => ?_
                go_wp2
                refine hK.out _ _ ((fWc4).alloc _) ?_
                clear hK K
                obtain ⟨Wc5, hWc5⟩ : ∃ X, X = Wc4.alloc (.cells #[.bool false, .int .i64 0, .string ⟨#[]⟩, .string ⟨#[]⟩, .int .i64 0, .int .i64 0] 85) := ⟨_, rfl⟩
                have fWc5 : Ext wr Wc5 := by rw [hWc5]; exact (fWc4).alloc _
                have rWc5 : Wc5.heap[Wc4.heap.size]? = some (.cells #[.bool false, .int .i64 0, .string ⟨#[]⟩, .string ⟨#[]⟩, .int .i64 0, .int .i64 0] 85 (0, 0)) := by rw [hWc5]; exact heap_alloc_new _ _
                have bWc5 : wr.heap.size ≤ Wc4.heap.size := (fWc4).size
                rw [← hWc5]
                clear hWc5
                generalize Wc4.heap.size = g at rWc5 bWc5 ⊢
                obtain ⟨W6, hW6, k0, k1, k2, k3, k4, k5, hx6⟩ := set6 rWc5 (.bool (R.getD (false, FieldM.zero)).1) (.int .i64 (R.getD (false, FieldM.zero)).2.id) (.string (R.getD (false, FieldM.zero)).2.name) (.string (R.getD (false, FieldM.zero)).2.type) (.int .i64 (R.getD (false, FieldM.zero)).2.kind) (.int .i64 (R.getD (false, FieldM.zero)).2.rule)
                have r6 : W6.heap[g]? = some (.cells #[.bool (R.getD (false, FieldM.zero)).1, .int .i64 (R.getD (false, FieldM.zero)).2.id, .string (R.getD (false, FieldM.zero)).2.name, .string (R.getD (false, FieldM.zero)).2.type, .int .i64 (R.getD (false, FieldM.zero)).2.kind, .int .i64 (R.getD (false, FieldM.zero)).2.rule] 85 (0, 0)) := by rw [hW6]; exact set6_row rWc5 _ _ _ _ _ _
                have hgz : wr.heap.size ≤ g := by assumption
                have f6 := hx6 wr (fWc5) hgz
                have HW6 := hide hW6
                obtain ⟨u0, u1, u2, u3, u4, u5, uf⟩ := row6 rWc5
                clear hW6 hx6
                refine wpAnyX_one (j := 17) rfl (by kernel_rfl) rfl fun K hK => ?_
                go_wp2
                rw [← unhide HW6]
                refine hK.out _ _ (f6) ?_
                clear hK K
                refine wpAnyX_take (i := 18) (v := .bool R.isSome) rfl (by kernel_rfl) (by kernel_rfl) (fun _ _ _ h => h) (.inl ⟨rfl, fun w' hS => by simp [execOp, go_sem]⟩) (f6) ?_
                simp only [Act.put, List.getElem_toArray, List.getElem_cons_zero, List.getElem_cons_succ, List.setIfInBounds_toArray, List.set_cons_succ, List.set_cons_zero]
                refine wpAnyX_end [] [] rfl (by intro j i hj; simp at hj) (by kernel_rfl) (by intro i hi; simp at hi) fun K hK => ?_
                go_wp2
                refine hK.out _ _ ?_
                clear hK K
                first | refine Met.intro (hJ0 _ _ ?_) | refine hK0 _ _ (Met.intro (hJ0 _ _ ?_))
                (repeat apply Exists.intro)
                refine ⟨?rel, rfl⟩
                case rel => exact ⟨g, rfl, rfl, hgz, f6, r6⟩
              · go_wp2
                refine hK.out _ _ ((fWc3).alloc _) ?_
                clear hK K
                obtain ⟨Wc6, hWc6⟩ : ∃ X, X = Wc3.alloc (.cells #[.bool false, .int .i64 0, .string ⟨#[]⟩, .string ⟨#[]⟩, .int .i64 0, .int .i64 0] 85) := ⟨_, rfl⟩
                have fWc6 : Ext wr Wc6 := by rw [hWc6]; exact (fWc3).alloc _
                have rWc6 : Wc6.heap[Wc3.heap.size]? = some (.cells #[.bool false, .int .i64 0, .string ⟨#[]⟩, .string ⟨#[]⟩, .int .i64 0, .int .i64 0] 85 (0, 0)) := by rw [hWc6]; exact heap_alloc_new _ _
                have bWc6 : wr.heap.size ≤ Wc3.heap.size := (fWc3).size
                rw [← hWc6]
                clear hWc6
                generalize Wc3.heap.size = g at rWc6 bWc6 ⊢
                refine wpAnyX_one (j := 12) rfl (by kernel_rfl) rfl fun K hK => ?_
                go_wp2_with fail
                refine (hSet _).mono ?_
                rintro e Wc7 ⟨rfl, xWc7⟩
                go_wp2
                have fWc7 : Ext wr Wc7 := (fWc6).trans xWc7
                refine hK.out _ _ (fWc7) ?_
                clear hK K
                have rWc7 := xWc7.heap rWc6
                refine wpAnyX_take (i := 13) (v := .tuple #[.agg #[.bool (R.getD (false, FieldM.zero)).1, .int .i64 (R.getD (false, FieldM.zero)).2.id, .string (R.getD (false, FieldM.zero)).2.name, .string (R.getD (false, FieldM.zero)).2.type, .int .i64 (R.getD (false, FieldM.zero)).2.kind, .int .i64 (R.getD (false, FieldM.zero)).2.rule], .bool R.isSome]) rfl (by kernel_rfl) (by kernel_rfl) (fun _ _ _ h => h) (.inl ⟨rfl, fun w' hS => by simp [execOp, go_sem]⟩) (fWc7) ?_
                simp only [Act.put, List.getElem_toArray, List.getElem_cons_zero, List.getElem_cons_succ, List.setIfInBounds_toArray, List.set_cons_succ, List.set_cons_zero]
                refine wpAnyX_take (i := 14) (v := .agg #[.bool (R.getD (false, FieldM.zero)).1, .int .i64 (R.getD (false, FieldM.zero)).2.id, .string (R.getD (false, FieldM.zero)).2.name, .string (R.getD (false, FieldM.zero)).2.type, .int .i64 (R.getD (false, FieldM.zero)).2.kind, .int .i64 (R.getD (false, FieldM.zero)).2.rule]) rfl (by kernel_rfl) (by kernel_rfl) (fun _ _ _ h => h) (.inl ⟨rfl, fun w' hS => by simp [execOp, go_sem]⟩) (fWc7) ?_
                simp only [Act.put, List.getElem_toArray, List.getElem_cons_zero, List.getElem_cons_succ, List.setIfInBounds_toArray, List.set_cons_succ, List.set_cons_zero]
                refine wpAnyX_take (i := 15) (v := .bool R.isSome) rfl (by kernel_rfl) (by kernel_rfl) (fun _ _ _ h => h) (.inl ⟨rfl, fun w' hS => by simp [execOp, go_sem]⟩) (fWc7) ?_
                simp only [Act.put, List.getElem_toArray, List.getElem_cons_zero, List.getElem_cons_succ, List.setIfInBounds_toArray, List.set_cons_succ, List.set_cons_zero]
                obtain ⟨W6, hW6, k0, k1, k2, k3, k4, k5, hx6⟩ := set6 rWc7 (.bool (R.getD (false, FieldM.zero)).1) (.int .i64 (R.getD (false, FieldM.zero)).2.id) (.string (R.getD (false, FieldM.zero)).2.name) (.string (R.getD (false, FieldM.zero)).2.type) (.int .i64 (R.getD (false, FieldM.zero)).2.kind) (.int .i64 (R.getD (false, FieldM.zero)).2.rule)
                have r6 : W6.heap[g]? = some (.cells #[.bool (R.getD (false, FieldM.zero)).1, .int .i64 (R.getD (false, FieldM.zero)).2.id, .string (R.getD (false, FieldM.zero)).2.name, .string (R.getD (false, FieldM.zero)).2.type, .int .i64 (R.getD (false, FieldM.zero)).2.kind, .int .i64 (R.getD (false, FieldM.zero)).2.rule] 85 (0, 0)) := by rw [hW6]; exact set6_row rWc7 _ _ _ _ _ _
                have hgz : wr.heap.size ≤ g := by assumption
                have f6 := hx6 wr (fWc7) hgz
                have HW6 := hide hW6
                obtain ⟨u0, u1, u2, u3, u4, u5, uf⟩ := row6 rWc7
                clear hW6 hx6
                refine wpAnyX_one (j := 17) rfl (by kernel_rfl) rfl fun K hK => ?_
                go_wp2
                rw [← unhide HW6]
                refine hK.out _ _ (f6) ?_
                clear hK K
                refine wpAnyX_take (i := 18) (v := .bool R.isSome) rfl (by kernel_rfl) (by kernel_rfl) (fun _ _ _ h => h) (.inl ⟨rfl, fun w' hS => by simp [execOp, go_sem]⟩) (f6) ?_
                simp only [Act.put, List.getElem_toArray, List.getElem_cons_zero, List.getElem_cons_succ, List.setIfInBounds_toArray, List.set_cons_succ, List.set_cons_zero]
                refine wpAnyX_end [] [] rfl (by intro j i hj; simp at hj) (by kernel_rfl) (by intro i hi; simp at hi) fun K hK => ?_
                go_wp2
                refine hK.out _ _ ?_
                clear hK K
                first | refine Met.intro (hJ0 _ _ ?_) | refine hK0 _ _ (Met.intro (hJ0 _ _ ?_))
                (repeat apply Exists.intro)
                refine ⟨?rel, rfl⟩
                case rel => exact ⟨g, rfl, rfl, hgz, f6, r6⟩
            · go_wp2
              refine hK.out _ _ ((fWc2).alloc _) ?_
              clear hK K
              obtain ⟨Wc8, hWc8⟩ : ∃ X, X = Wc2.alloc (.cells #[.bool false, .int .i64 0, .string ⟨#[]⟩, .string ⟨#[]⟩, .int .i64 0, .int .i64 0] 85) := ⟨_, rfl⟩
              have fWc8 : Ext wr Wc8 := by rw [hWc8]; exact (fWc2).alloc _
              have rWc8 : Wc8.heap[Wc2.heap.size]? = some (.cells #[.bool false, .int .i64 0, .string ⟨#[]⟩, .string ⟨#[]⟩, .int .i64 0, .int .i64 0] 85 (0, 0)) := by rw [hWc8]; exact heap_alloc_new _ _
              have bWc8 : wr.heap.size ≤ Wc2.heap.size := (fWc2).size
              rw [← hWc8]
              clear hWc8
              generalize Wc2.heap.size = g at rWc8 bWc8 ⊢
              refine wpAnyX_one (j := 11) rfl (by kernel_rfl) rfl fun K hK => ?_
              go_wp2_with fail
              refine (hF2 _ (hE.trans (fWc8))).mono ?_
              rintro e Wc9 ⟨rfl, xWc9⟩
              go_wp2
              have fWc9 : Ext wr Wc9 := (fWc8).trans xWc9
              refine hK.out _ _ (fWc9) ?_
              clear hK K
              have rWc9 := xWc9.heap rWc8
              refine wpAnyX_one (j := 12) rfl (by kernel_rfl) rfl fun K hK => ?_
              go_wp2_with fail
              refine (hSet _).mono ?_
              rintro e Wc10 ⟨rfl, xWc10⟩
              go_wp2
              have fWc10 : Ext wr Wc10 := (fWc9).trans xWc10
              refine hK.out _ _ (fWc10) ?_
              clear hK K
              have rWc10 := xWc10.heap rWc9
              refine wpAnyX_take (i := 13) (v := .tuple #[.agg #[.bool (R.getD (false, FieldM.zero)).1, .int .i64 (R.getD (false, FieldM.zero)).2.id, .string (R.getD (false, FieldM.zero)).2.name, .string (R.getD (false, FieldM.zero)).2.type, .int .i64 (R.getD (false, FieldM.zero)).2.kind, .int .i64 (R.getD (false, FieldM.zero)).2.rule], .bool R.isSome]) rfl (by kernel_rfl) (by kernel_rfl) (fun _ _ _ h => h) (.inl ⟨rfl, fun w' hS => by simp [execOp, go_sem]⟩) (fWc10) ?_
              simp only [Act.put, List.getElem_toArray, List.getElem_cons_zero, List.getElem_cons_succ, List.setIfInBounds_toArray, List.set_cons_succ, List.set_cons_zero]
              refine wpAnyX_take (i := 14) (v := .agg #[.bool (R.getD (false, FieldM.zero)).1, .int .i64 (R.getD (false, FieldM.zero)).2.id, .string (R.getD (false, FieldM.zero)).2.name, .string (R.getD (false, FieldM.zero)).2.type, .int .i64 (R.getD (false, FieldM.zero)).2.kind, .int .i64 (R.getD (false, FieldM.zero)).2.rule]) rfl (by kernel_rfl) (by kernel_rfl) (fun _ _ _ h => h) (.inl ⟨rfl, fun w' hS => by simp [execOp, go_sem]⟩) (fWc10) ?_
              simp only [Act.put, List.getElem_toArray, List.getElem_cons_zero, List.getElem_cons_succ, List.setIfInBounds_toArray, List.set_cons_succ, List.set_cons_zero]
              refine wpAnyX_take (i := 15) (v := .bool R.isSome) rfl (by kernel_rfl) (by kernel_rfl) (fun _ _ _ h => h) (.inl ⟨rfl, fun w' hS => by simp [execOp, go_sem]⟩) (fWc10) ?_
              simp only [Act.put, List.getElem_toArray, List.getElem_cons_zero, List.getElem_cons_succ, List.setIfInBounds_toArray, List.set_cons_succ, List.set_cons_zero]
              obtain ⟨W6, hW6, k0, k1, k2, k3, k4, k5, hx6⟩ := set6 rWc10 (.bool (R.getD (false, FieldM.zero)).1) (.int .i64 (R.getD (false, FieldM.zero)).2.id) (.string (R.getD (false, FieldM.zero)).2.name) (.string (R.getD (false, FieldM.zero)).2.type) (.int .i64 (R.getD (false, FieldM.zero)).2.kind) (.int .i64 (R.getD (false, FieldM.zero)).2.rule)
              have r6 : W6.heap[g]? = some (.cells #[.bool (R.getD (false, FieldM.zero)).1, .int .i64 (R.getD (false, FieldM.zero)).2.id, .string (R.getD (false, FieldM.zero)).2.name, .string (R.getD (false, FieldM.zero)).2.type, .int .i64 (R.getD (false, FieldM.zero)).2.kind, .int .i64 (R.getD (false, FieldM.zero)).2.rule] 85 (0, 0)) := by rw [hW6]; exact set6_row rWc10 _ _ _ _ _ _
              have hgz : wr.heap.size ≤ g := by assumption
              have f6 := hx6 wr (fWc10) hgz
              have HW6 := hide hW6
              obtain ⟨u0, u1, u2, u3, u4, u5, uf⟩ := row6 rWc10
              clear hW6 hx6
              refine wpAnyX_one (j := 17) rfl (by kernel_rfl) rfl fun K hK => ?_
              go_wp2
              rw [← unhide HW6]
              refine hK.out _ _ (f6) ?_
              clear hK K
              refine wpAnyX_take (i := 18) (v := .bool R.isSome) rfl (by kernel_rfl) (by kernel_rfl) (fun _ _ _ h => h) (.inl ⟨rfl, fun w' hS => by simp [execOp, go_sem]⟩) (f6) ?_
              simp only [Act.put, List.getElem_toArray, List.getElem_cons_zero, List.getElem_cons_succ, List.setIfInBounds_toArray, List.set_cons_succ, List.set_cons_zero]
              refine wpAnyX_end [] [] rfl (by intro j i hj; simp at hj) (by kernel_rfl) (by intro i hi; simp at hi) fun K hK => ?_
              go_wp2
              refine hK.out _ _ ?_
              clear hK K
              first | refine Met.intro (hJ0 _ _ ?_) | refine hK0 _ _ (Met.intro (hJ0 _ _ ?_))
              (repeat apply Exists.intro)
              refine ⟨?rel, rfl⟩
              case rel => exact ⟨g, rfl, rfl, hgz, f6, r6⟩
          · go_wp2
            refine hK.out _ _ ((fWc1).alloc _) ?_
            clear hK K
            obtain ⟨Wc11, hWc11⟩ : ∃ X, X = Wc1.alloc (.cells #[.bool false, .int .i64 0, .string ⟨#[]⟩, .string ⟨#[]⟩, .int .i64 0, .int .i64 0] 85) := ⟨_, rfl⟩
            have fWc11 : Ext wr Wc11 := by rw [hWc11]; exact (fWc1).alloc _
            have rWc11 : Wc11.heap[Wc1.heap.size]? = some (.cells #[.bool false, .int .i64 0, .string ⟨#[]⟩, .string ⟨#[]⟩, .int .i64 0, .int .i64 0] 85 (0, 0)) := by rw [hWc11]; exact heap_alloc_new _ _
            have bWc11 : wr.heap.size ≤ Wc1.heap.size := (fWc1).size
            rw [← hWc11]
            clear hWc11
            generalize Wc1.heap.size = g at rWc11 bWc11 ⊢
            refine wpAnyX_one (j := 7) rfl (by kernel_rfl) rfl fun K hK => ?_
            go_wp2_with fail
            refine (hF1 _ (hE.trans (fWc11))).mono ?_
            rintro e Wc12 ⟨rfl, xWc12⟩
            go_wp2
            have fWc12 : Ext wr Wc12 := (fWc11).trans xWc12
            refine hK.out _ _ (fWc12) ?_
            clear hK K
            have rWc12 := xWc12.heap rWc11
            refine wpAnyX_one (j := 11) rfl (by kernel_rfl) rfl fun K hK => ?_
            go_wp2_with fail
            refine (hF2 _ (hE.trans (fWc12))).mono ?_
            rintro e Wc13 ⟨rfl, xWc13⟩
            go_wp2
            have fWc13 : Ext wr Wc13 := (fWc12).trans xWc13
            refine hK.out _ _ (fWc13) ?_
            clear hK K
            have rWc13 := xWc13.heap rWc12
            refine wpAnyX_one (j := 12) rfl (by kernel_rfl) rfl fun K hK => ?_
            go_wp2_with fail
            refine (hSet _).mono ?_
            rintro e Wc14 ⟨rfl, xWc14⟩
            go_wp2
            have fWc14 : Ext wr Wc14 := (fWc13).trans xWc14
            refine hK.out _ _ (fWc14) ?_
            clear hK K
            have rWc14 := xWc14.heap rWc13
            refine wpAnyX_take (i := 13) (v := .tuple #[.agg #[.bool (R.getD (false, FieldM.zero)).1, .int .i64 (R.getD (false, FieldM.zero)).2.id, .string (R.getD (false, FieldM.zero)).2.name, .string (R.getD (false, FieldM.zero)).2.type, .int .i64 (R.getD (false, FieldM.zero)).2.kind, .int .i64 (R.getD (false, FieldM.zero)).2.rule], .bool R.isSome]) rfl (by kernel_rfl) (by kernel_rfl) (fun _ _ _ h => h) (.inl ⟨rfl, fun w' hS => by simp [execOp, go_sem]⟩) (fWc14) ?_
            simp only [Act.put, List.getElem_toArray, List.getElem_cons_zero, List.getElem_cons_succ, List.setIfInBounds_toArray, List.set_cons_succ, List.set_cons_zero]
            refine wpAnyX_take (i := 14) (v := .agg #[.bool (R.getD (false, FieldM.zero)).1, .int .i64 (R.getD (false, FieldM.zero)).2.id, .string (R.getD (false, FieldM.zero)).2.name, .string (R.getD (false, FieldM.zero)).2.type, .int .i64 (R.getD (false, FieldM.zero)).2.kind, .int .i64 (R.getD (false, FieldM.zero)).2.rule]) rfl (by kernel_rfl) (by kernel_rfl) (fun _ _ _ h => h) (.inl ⟨rfl, fun w' hS => by simp [execOp, go_sem]⟩) (fWc14) ?_
            simp only [Act.put, List.getElem_toArray, List.getElem_cons_zero, List.getElem_cons_succ, List.setIfInBounds_toArray, List.set_cons_succ, List.set_cons_zero]
            refine wpAnyX_take (i := 15) (v := .bool R.isSome) rfl (by kernel_rfl) (by kernel_rfl) (fun _ _ _ h => h) (.inl ⟨rfl, fun w' hS => by simp [execOp, go_sem]⟩) (fWc14) ?_
            simp only [Act.put, List.getElem_toArray, List.getElem_cons_zero, List.getElem_cons_succ, List.setIfInBounds_toArray, List.set_cons_succ, List.set_cons_zero]
            obtain ⟨W6, hW6, k0, k1, k2, k3, k4, k5, hx6⟩ := set6 rWc14 (.bool (R.getD (false, FieldM.zero)).1) (.int .i64 (R.getD (false, FieldM.zero)).2.id) (.string (R.getD (false, FieldM.zero)).2.name) (.string (R.getD (false, FieldM.zero)).2.type) (.int .i64 (R.getD (false, FieldM.zero)).2.kind) (.int .i64 (R.getD (false, FieldM.zero)).2.rule)
            have r6 : W6.heap[g]? = some (.cells #[.bool (R.getD (false, FieldM.zero)).1, .int .i64 (R.getD (false, FieldM.zero)).2.id, .string (R.getD (false, FieldM.zero)).2.name, .string (R.getD (false, FieldM.zero)).2.type, .int .i64 (R.getD (false, FieldM.zero)).2.kind, .int .i64 (R.getD (false, FieldM.zero)).2.rule] 85 (0, 0)) := by rw [hW6]; exact set6_row rWc14 _ _ _ _ _ _
            have hgz : wr.heap.size ≤ g := by assumption
            have f6 := hx6 wr (fWc14) hgz
            have HW6 := hide hW6
            obtain ⟨u0, u1, u2, u3, u4, u5, uf⟩ := row6 rWc14
            clear hW6 hx6
            refine wpAnyX_one (j := 17) rfl (by kernel_rfl) rfl fun K hK => ?_
            go_wp2
            rw [← unhide HW6]
            refine hK.out _ _ (f6) ?_
            clear hK K
            refine wpAnyX_take (i := 18) (v := .bool R.isSome) rfl (by kernel_rfl) (by kernel_rfl) (fun _ _ _ h => h) (.inl ⟨rfl, fun w' hS => by simp [execOp, go_sem]⟩) (f6) ?_
            simp only [Act.put, List.getElem_toArray, List.getElem_cons_zero, List.getElem_cons_succ, List.setIfInBounds_toArray, List.set_cons_succ, List.set_cons_zero]
            refine wpAnyX_end [] [] rfl (by intro j i hj; simp at hj) (by kernel_rfl) (by intro i hi; simp at hi) fun K hK => ?_
            go_wp2
            refine hK.out _ _ ?_
            clear hK K
            first | refine Met.intro (hJ0 _ _ ?_) | refine hK0 _ _ (Met.intro (hJ0 _ _ ?_))
            (repeat apply Exists.intro)
            refine ⟨?rel, rfl⟩
            case rel => exact ⟨g, rfl, rfl, hgz, f6, r6⟩
        · go_wp2
          refine hK.out _ _ ((hS0).alloc _) ?_
          clear hK K
          obtain ⟨Wc15, hWc15⟩ : ∃ X, X = Wd.alloc (.cells #[.bool false, .int .i64 0, .string ⟨#[]⟩, .string ⟨#[]⟩, .int .i64 0, .int .i64 0] 85) := ⟨_, rfl⟩
          have fWc15 : Ext wr Wc15 := by rw [hWc15]; exact (hS0).alloc _
          have rWc15 : Wc15.heap[Wd.heap.size]? = some (.cells #[.bool false, .int .i64 0, .string ⟨#[]⟩, .string ⟨#[]⟩, .int .i64 0, .int .i64 0] 85 (0, 0)) := by rw [hWc15]; exact heap_alloc_new _ _
          have bWc15 : wr.heap.size ≤ Wd.heap.size := (hS0).size
          rw [← hWc15]
          clear hWc15
          generalize Wd.heap.size = g at rWc15 bWc15 ⊢
          refine wpAnyX_one (j := 3) rfl (by kernel_rfl) rfl fun K hK => ?_
          go_wp2_with fail
          refine (hF0 _ (hE.trans (fWc15))).mono ?_
          rintro e Wc16 ⟨rfl, xWc16⟩
          go_wp2
          have fWc16 : Ext wr Wc16 := (fWc15).trans xWc16
          refine hK.out _ _ (fWc16) ?_
          clear hK K
          have rWc16 := xWc16.heap rWc15
          refine wpAnyX_one (j := 7) rfl (by kernel_rfl) rfl fun K hK => ?_
          go_wp2_with fail
          refine (hF1 _ (hE.trans (fWc16))).mono ?_
          rintro e Wc17 ⟨rfl, xWc17⟩
          go_wp2
          have fWc17 : Ext wr Wc17 := (fWc16).trans xWc17
          refine hK.out _ _ (fWc17) ?_
          clear hK K
          have rWc17 := xWc17.heap rWc16
          refine wpAnyX_one (j := 11) rfl (by kernel_rfl) rfl fun K hK => ?_
          go_wp2_with fail
          refine (hF2 _ (hE.trans (fWc17))).mono ?_
          rintro e Wc18 ⟨rfl, xWc18⟩
          go_wp2
          have fWc18 : Ext wr Wc18 := (fWc17).trans xWc18
          refine hK.out _ _ (fWc18) ?_
          clear hK K
          have rWc18 := xWc18.heap rWc17
          refine wpAnyX_one (j := 12) rfl (by kernel_rfl) rfl fun K hK => ?_
          go_wp2_with fail
          refine (hSet _).mono ?_
          rintro e Wc19 ⟨rfl, xWc19⟩
          go_wp2
          have fWc19 : Ext wr Wc19 := (fWc18).trans xWc19
          refine hK.out _ _ (fWc19) ?_
          clear hK K
          have rWc19 := xWc19.heap rWc18
          refine wpAnyX_take (i := 13) (v := .tuple #[.agg #[.bool (R.getD (false, FieldM.zero)).1, .int .i64 (R.getD (false, FieldM.zero)).2.id, .string (R.getD (false, FieldM.zero)).2.name, .string (R.getD (false, FieldM.zero)).2.type, .int .i64 (R.getD (false, FieldM.zero)).2.kind, .int .i64 (R.getD (false, FieldM.zero)).2.rule], .bool R.isSome]) rfl (by kernel_rfl) (by kernel_rfl) (fun _ _ _ h => h) (.inl ⟨rfl, fun w' hS => by simp [execOp, go_sem]⟩) (fWc19) ?_
          simp only [Act.put, List.getElem_toArray, List.getElem_cons_zero, List.getElem_cons_succ, List.setIfInBounds_toArray, List.set_cons_succ, List.set_cons_zero]
          refine wpAnyX_take (i := 14) (v := .agg #[.bool (R.getD (false, FieldM.zero)).1, .int .i64 (R.getD (false, FieldM.zero)).2.id, .string (R.getD (false, FieldM.zero)).2.name, .string (R.getD (false, FieldM.zero)).2.type, .int .i64 (R.getD (false, FieldM.zero)).2.kind, .int .i64 (R.getD (false, FieldM.zero)).2.rule]) rfl (by kernel_rfl) (by kernel_rfl) (fun _ _ _ h => h) (.inl ⟨rfl, fun w' hS => by simp [execOp, go_sem]⟩) (fWc19) ?_
          simp only [Act.put, List.getElem_toArray, List.getElem_cons_zero, List.getElem_cons_succ, List.setIfInBounds_toArray, List.set_cons_succ, List.set_cons_zero]
          refine wpAnyX_take (i := 15) (v := .bool R.isSome) rfl (by kernel_rfl) (by kernel_rfl) (fun _ _ _ h => h) (.inl ⟨rfl, fun w' hS => by simp [execOp, go_sem]⟩) (fWc19) ?_
          simp only [Act.put, List.getElem_toArray, List.getElem_cons_zero, List.getElem_cons_succ, List.setIfInBounds_toArray, List.set_cons_succ, List.set_cons_zero]
          obtain ⟨W6, hW6, k0, k1, k2, k3, k4, k5, hx6⟩ := set6 rWc19 (.bool (R.getD (false, FieldM.zero)).1) (.int .i64 (R.getD (false, FieldM.zero)).2.id) (.string (R.getD (false, FieldM.zero)).2.name) (.string (R.getD (false, FieldM.zero)).2.type) (.int .i64 (R.getD (false, FieldM.zero)).2.kind) (.int .i64 (R.getD (false, FieldM.zero)).2.rule)
          have r6 : W6.heap[g]? = some (.cells #[.bool (R.getD (false, FieldM.zero)).1, .int .i64 (R.getD (false, FieldM.zero)).2.id, .string (R.getD (false, FieldM.zero)).2.name, .string (R.getD (false, FieldM.zero)).2.type, .int .i64 (R.getD (false, FieldM.zero)).2.kind, .int .i64 (R.getD (false, FieldM.zero)).2.rule] 85 (0, 0)) := by rw [hW6]; exact set6_row rWc19 _ _ _ _ _ _
          have hgz : wr.heap.size ≤ g := by assumption
          have f6 := hx6 wr (fWc19) hgz
          have HW6 := hide hW6
          obtain ⟨u0, u1, u2, u3, u4, u5, uf⟩ := row6 rWc19
          clear hW6 hx6
          refine wpAnyX_one (j := 17) rfl (by kernel_rfl) rfl fun K hK => ?_
          go_wp2
          rw [← unhide HW6]
          refine hK.out _ _ (f6) ?_
          clear hK K
          refine wpAnyX_take (i := 18) (v := .bool R.isSome) rfl (by kernel_rfl) (by kernel_rfl) (fun _ _ _ h => h) (.inl ⟨rfl, fun w' hS => by simp [execOp, go_sem]⟩) (f6) ?_
          simp only [Act.put, List.getElem_toArray, List.getElem_cons_zero, List.getElem_cons_succ, List.setIfInBounds_toArray, List.set_cons_succ, List.set_cons_zero]
          refine wpAnyX_end [] [] rfl (by intro j i hj; simp at hj) (by kernel_rfl) (by intro i hi; simp at hi) fun K hK => ?_
          go_wp2
          refine hK.out _ _ ?_
          clear hK K
          first | refine Met.intro (hJ0 _ _ ?_) | refine hK0 _ _ (Met.intro (hJ0 _ _ ?_))
          (repeat apply Exists.intro)
          refine ⟨?rel, rfl⟩
          case rel => exact ⟨g, rfl, rfl, hgz, f6, r6⟩
      case rest =>
      obtain ⟨g, rfl, rfl, hg, hx5, r5⟩ := hcut
      rename World => W5
      have hSetB := fun w' => settleB_any (s.was.gone.contains id) (s.a.gone.contains id) (s.b.gone.contains id) w'
      rw [show (settleB eqB (s.was.gone.contains id) (s.a.gone.contains id) (s.b.gone.contains id)).getD false = idGone s id from rfl] at hSetB
      generalize s.was.gone.contains id = b0 at *
      generalize s.a.gone.contains id = b1 at *
      generalize s.b.gone.contains id = b2 at *
      obtain ⟨gn, hgn⟩ : ∃ gn, gn = idGone s id := ⟨_, rfl⟩
      rw [← hgn] at hSetB
      have Hgn := hide hgn
      clear hgn hF0 hF1 hF2 hSet
      have hE5 := hE.trans hx5
      have q0 := hx5.cell q0
      have q1 := hx5.cell q1
      have q2 := hx5.cell q2
      have q3 := hx5.cell q3
      have q4 := hx5.cell q4
      have q5 := hx5.cell q5
      have q6 := hx5.cell q6
      have q7 := hx5.cell q7
      have q8 := hx5.cell q8
      have q9 := hx5.cell q9
      have q10 := hx5.cell q10
      have q11 := hx5.cell q11
      have q12 := hx5.cell q12
      have q13 := hx5.cell q13
      have q14 := hx5.cell q14
      have q15 := hx5.cell q15
      go_upto_region 6 with fail
      go_cut [9] (fun s9 wx => s9 = .bool gn ∧ Ext W5 wx)
      case first =>
        rename_i J0 K0 hJ0 hK0
        refine wp_region_X (fun w' => Ext W5 w') (fun _ => false) (by kernel_rfl) ?_
        obtain ⟨Wd, hWd⟩ : ∃ Wd, Wd = W5.drew := ⟨_, rfl⟩
        have hS0 : Ext W5 Wd := by rw [hWd]; exact (Ext.refl W5).drew
        rw [← hWd]
        clear hWd
        refine wpAnyX_take (i := 0) (v := .pointer (some ⟨w.heap.size, 1, none⟩)) rfl (by kernel_rfl) (by kernel_rfl) (fun _ _ _ h => h) (.inl ⟨rfl, fun w' hS => by simp [execOp, go_sem]⟩) (hS0) ?_
        simp only [Act.put, List.getElem_toArray, List.getElem_cons_zero, List.getElem_cons_succ, List.setIfInBounds_toArray, List.set_cons_succ, List.set_cons_zero]
        refine wpAnyX_take (i := 1) (v := .agg #[.string wn, .bool we, .slice wf.a wf.len wf.cap, .slice wg.a wg.len wg.cap, .slice wi.a wi.len wi.cap]) rfl (by kernel_rfl) (by kernel_rfl) (fun _ _ _ h => h) (.inl ⟨rfl, fun w' hS => by simp [execOp, go_sem, hS.cell q1, hS.cell q2, hS.cell q3, hS.cell q4, hS.cell q5]⟩) (hS0) ?_
        simp only [Act.put, List.getElem_toArray, List.getElem_cons_zero, List.getElem_cons_succ, List.setIfInBounds_toArray, List.set_cons_succ, List.set_cons_zero]
        refine wpAnyX_take (i := 2) (v := .int .i64 id) rfl (by kernel_rfl) (by kernel_rfl) (fun _ _ _ h => h) (.inl ⟨rfl, fun w' hS => by simp [execOp, go_sem]⟩) (hS0) ?_
        simp only [Act.put, List.getElem_toArray, List.getElem_cons_zero, List.getElem_cons_succ, List.setIfInBounds_toArray, List.set_cons_succ, List.set_cons_zero]
        refine wpAnyX_take (i := 4) (v := .pointer (some ⟨w.heap.size, 6, none⟩)) rfl (by kernel_rfl) (by kernel_rfl) (fun _ _ _ h => h) (.inl ⟨rfl, fun w' hS => by simp [execOp, go_sem]⟩) (hS0) ?_
        simp only [Act.put, List.getElem_toArray, List.getElem_cons_zero, List.getElem_cons_succ, List.setIfInBounds_toArray, List.set_cons_succ, List.set_cons_zero]
        refine wpAnyX_take (i := 5) (v := .agg #[.string an, .bool ae, .slice af.a af.len af.cap, .slice ag.a ag.len ag.cap, .slice ai.a ai.len ai.cap]) rfl (by kernel_rfl) (by kernel_rfl) (fun _ _ _ h => h) (.inl ⟨rfl, fun w' hS => by simp [execOp, go_sem, hS.cell q6, hS.cell q7, hS.cell q8, hS.cell q9, hS.cell q10]⟩) (hS0) ?_
        simp only [Act.put, List.getElem_toArray, List.getElem_cons_zero, List.getElem_cons_succ, List.setIfInBounds_toArray, List.set_cons_succ, List.set_cons_zero]
        refine wpAnyX_take (i := 6) (v := .int .i64 id) rfl (by kernel_rfl) (by kernel_rfl) (fun _ _ _ h => h) (.inl ⟨rfl, fun w' hS => by simp [execOp, go_sem]⟩) (hS0) ?_
        simp only [Act.put, List.getElem_toArray, List.getElem_cons_zero, List.getElem_cons_succ, List.setIfInBounds_toArray, List.set_cons_succ, List.set_cons_zero]
        refine wpAnyX_take (i := 8) (v := .pointer (some ⟨w.heap.size, 11, none⟩)) rfl (by kernel_rfl) (by kernel_rfl) (fun _ _ _ h => h) (.inl ⟨rfl, fun w' hS => by simp [execOp, go_sem]⟩) (hS0) ?_
        simp only [Act.put, List.getElem_toArray, List.getElem_cons_zero, List.getElem_cons_succ, List.setIfInBounds_toArray, List.set_cons_succ, List.set_cons_zero]
        refine wpAnyX_take (i := 9) (v := .agg #[.string bn, .bool be, .slice bf.a bf.len bf.cap, .slice bg.a bg.len bg.cap, .slice bi.a bi.len bi.cap]) rfl (by kernel_rfl) (by kernel_rfl) (fun _ _ _ h => h) (.inl ⟨rfl, fun w' hS => by simp [execOp, go_sem, hS.cell q11, hS.cell q12, hS.cell q13, hS.cell q14, hS.cell q15]⟩) (hS0) ?_
        simp only [Act.put, List.getElem_toArray, List.getElem_cons_zero, List.getElem_cons_succ, List.setIfInBounds_toArray, List.set_cons_succ, List.set_cons_zero]
        refine wpAnyX_take (i := 10) (v := .int .i64 id) rfl (by kernel_rfl) (by kernel_rfl) (fun _ _ _ h => h) (.inl ⟨rfl, fun w' hS => by simp [execOp, go_sem]⟩) (hS0) ?_
        simp only [Act.put, List.getElem_toArray, List.getElem_cons_zero, List.getElem_cons_succ, List.setIfInBounds_toArray, List.set_cons_succ, List.set_cons_zero]
        refine wpAnyX_one (j := 3) rfl (by kernel_rfl) rfl fun K hK => ?_
        go_wp2_with fail
        refine (hG0 _ (hE5.trans hS0)).mono ?_
        rintro e Wg0 ⟨rfl, xg0⟩
        go_wp2
        have fg0 : Ext W5 Wg0 := hS0.trans xg0
        refine hK.out _ _ (fg0) ?_
        clear hK K
        refine wpAnyX_one (j := 7) rfl (by kernel_rfl) rfl fun K hK => ?_
        go_wp2_with fail
        refine (hG1 _ (hE5.trans fg0)).mono ?_
        rintro e Wg1 ⟨rfl, xg1⟩
        go_wp2
        have fg1 : Ext W5 Wg1 := fg0.trans xg1
        refine hK.out _ _ (fg1) ?_
        clear hK K
        refine wpAnyX_one (j := 11) rfl (by kernel_rfl) rfl fun K hK => ?_
        go_wp2_with fail
        refine (hG2 _ (hE5.trans fg1)).mono ?_
        rintro e Wg2 ⟨rfl, xg2⟩
        go_wp2
        have fg2 : Ext W5 Wg2 := fg1.trans xg2
        refine hK.out _ _ (fg2) ?_
        clear hK K
        refine wpAnyX_one (j := 12) rfl (by kernel_rfl) rfl fun K hK => ?_
        go_wp2_with fail
        refine (hSetB _).mono ?_
        rintro e Wg3 ⟨rfl, hw3⟩
        rw [hw3]
        clear hw3 Wg3
        go_wp2
        refine hK.out _ _ (fg2) ?_
        clear hK K
        refine wpAnyX_take (i := 13) (v := .tuple #[.bool gn, .bool true]) rfl (by kernel_rfl) (by kernel_rfl) (fun _ _ _ h => h) (.inl ⟨rfl, fun w' hS => by simp [execOp, go_sem]⟩) (fg2) ?_
        simp only [Act.put, List.getElem_toArray, List.getElem_cons_zero, List.getElem_cons_succ, List.setIfInBounds_toArray, List.set_cons_succ, List.set_cons_zero]
        refine wpAnyX_take (i := 14) (v := .bool gn) rfl (by kernel_rfl) (by kernel_rfl) (fun _ _ _ h => h) (.inl ⟨rfl, fun w' hS => by simp [execOp, go_sem]⟩) (fg2) ?_
        simp only [Act.put, List.getElem_toArray, List.getElem_cons_zero, List.getElem_cons_succ, List.setIfInBounds_toArray, List.set_cons_succ, List.set_cons_zero]
        refine wpAnyX_take (i := 15) (v := .bool true) rfl (by kernel_rfl) (by kernel_rfl) (fun _ _ _ h => h) (.inl ⟨rfl, fun w' hS => by simp [execOp, go_sem]⟩) (fg2) ?_
        simp only [Act.put, List.getElem_toArray, List.getElem_cons_zero, List.getElem_cons_succ, List.setIfInBounds_toArray, List.set_cons_succ, List.set_cons_zero]
        refine wpAnyX_take (i := 16) (v := .bool gn) rfl (by kernel_rfl) (by kernel_rfl) (fun _ _ _ h => h) (.inl ⟨rfl, fun w' hS => by simp [execOp, go_sem]⟩) (fg2) ?_
        simp only [Act.put, List.getElem_toArray, List.getElem_cons_zero, List.getElem_cons_succ, List.setIfInBounds_toArray, List.set_cons_succ, List.set_cons_zero]
        refine wpAnyX_take (i := 17) (v := .bool true) rfl (by kernel_rfl) (by kernel_rfl) (fun _ _ _ h => h) (.inl ⟨rfl, fun w' hS => by simp [execOp, go_sem]⟩) (fg2) ?_
        simp only [Act.put, List.getElem_toArray, List.getElem_cons_zero, List.getElem_cons_succ, List.setIfInBounds_toArray, List.set_cons_succ, List.set_cons_zero]
        refine wpAnyX_end [] [] rfl (by intro j i hj; simp at hj) (by kernel_rfl) (by intro i hi; simp at hi) fun K hK => ?_
        go_wp2
        refine hK.out _ _ ?_
        clear hK K
        first | refine Met.intro (hJ0 _ _ ?_) | refine hK0 _ _ (Met.intro (hJ0 _ _ ?_))
        (repeat apply Exists.intro)
        refine ⟨?rel, rfl⟩
        case rel => exact ⟨rfl, fg2⟩
      case rest =>
      obtain ⟨rfl, hx6⟩ := hcut
      rename World => W6
      have hx56 := hx5.trans hx6
      have hE6 := hE.trans hx56
      have r6 := hx6.heap r5
      have rB6 := hx56.heap rB
      have q0 := hx6.cell q0
      have q1 := hx6.cell q1
      have q2 := hx6.cell q2
      have q3 := hx6.cell q3
      have q4 := hx6.cell q4
      have q5 := hx6.cell q5
      have q6 := hx6.cell q6
      have q7 := hx6.cell q7
      have q8 := hx6.cell q8
      have q9 := hx6.cell q9
      have q10 := hx6.cell q10
      have q11 := hx6.cell q11
      have q12 := hx6.cell q12
      have q13 := hx6.cell q13
      have q14 := hx6.cell q14
      have q15 := hx6.cell q15
      have hbw : base ≤ wr.heap.size := by have := hfr.size; omega
      have hbw6 : base ≤ W6.heap.size := Nat.le_trans hbw hx56.size
      have hty6 : TyOwn W6 h base tv (fieldsTo s k) (goneTo s k) [] := hty.ext hx56
      have hfl6 := owns_ext hfl hx56
      have hlf := fun b e => (hty.fields.lt b e).2
      have hfr6 := hfr.trans (Fr.of_ext hx56 hbw)
      have hidk : id = (k : Int) + 1 := unhide Hid0
      have hi1 : 1 ≤ id := by omega
      have e1 : Hid (fieldFlawsTo s (k + 1) = fieldFlawsTo s k ++ (if idFlaw s id then [id] else [])) := by unfold Hid; rw [hidk]; exact flawsTo_succ s k
      have e2 : Hid (fieldsTo s (k + 1) = fieldsTo s k ++ (if idFlaw s id then [] else ((idKept s id).getD none).toList)) := by unfold Hid; rw [hidk]; exact fieldsTo_succ s k
      have e3 : Hid (goneTo s (k + 1) = goneTo s k ++ (if !idFlaw s id && idGone s id then [id] else [])) := by unfold Hid; rw [hidk]; exact goneTo_succ s k
      have hfll : (fieldFlawsTo s k).length ≤ 30 := Nat.le_trans (flawsTo_len s k) hk
      have hfsl : (fieldsTo s k).length ≤ 30 := Nat.le_trans (fieldsTo_len s k) hk
      have hgsl : (goneTo s k).length ≤ 30 := Nat.le_trans (goneTo_len s k) hk
      obtain ⟨z0, z1, z2, z3, z4, z5, zf⟩ := row6 r6
      have zz := lt_of_heap r6
      have Hidk := hide hidk
      clear hidk Hid0 hG0 hG1 hG2 hSetB hfl hty hfr hE hx5 hx6 rB r5 zf
      obtain ⟨tnm, ten, sf, sg, si⟩ := tv
      simp only at ht1 ht2 ht3
      subst ht1 ht2 ht3
      have hrow6 := hty6.row
      simp only at hrow6
      obtain ⟨a0, a1, a2, a3, a4, a5⟩ := row5 hrow6
      have hzh := lt_of_heap hrow6
      cases hkp : idKept s id
      case none =>
        have hR : R = none := by rw [unhide HR, hkp]; rfl
        subst hR
        have hflaw : Hid (idFlaw s id = true) := by unfold Hid idFlaw; rw [hkp]
        clear HR Hgn
        rw [if_pos (unhide hflaw)] at e1 e2
        rw [show (!idFlaw s id && idGone s id) = false by rw [unhide hflaw]; rfl] at e3
        go_wp2_with fail
        refine (flaw_any nm _ _ _ _ _ _ _ _ _ _ _ _ _ _ _ id W6 rfl).mono ?_
        rintro e W7 ⟨rfl, hx7⟩
        have hfl7 := owns_ext hfl6 hx7
        have hty7 := hty6.ext hx7
        have hfr7 := hfr6.trans (Fr.of_ext hx7 hbw6)
        have hbw7 : base ≤ W7.heap.size := Nat.le_trans hbw6 hx7.size
        go_wp2_with (at_builtin; refine wpList_app1 _ _ 25 32 (.agg #[.string ⟨#[]⟩, .int .i64 0, .int .i64 0]) 3 32 Tryd.underlying25 info32 rfl (by decide) (by decide) rfl rfl base _ (fieldFlawsTo s k).length _ rfl (hfl7.alloc _) W7.heap.size 1 [.string nm, .int .i64 id, .int .i64 0] rfl rfl ?c1 ?c2 ?c3 ?c4 ?_)
        case c1 => exact range_of_new3 _ _ _ _ _ (by simp)
        case c2 => exact one_flaw nm id
        case c3 => omega
        case c4 => simp; omega
        intro v8 W8 ho8 hg8
        have ho8' : W8.ownsRow base 32 3 v8 (fieldFlawsTo s k ++ [id]).length ((fieldFlawsTo s k ++ [id]).flatMap (flawC nm)) := by
          rw [List.length_append, List.length_singleton, List.flatMap_append]
          simpa [flawC] using ho8
        obtain ⟨fl', hfl', _⟩ := sliceAt_of_owns (flawC nm) (fun _ => rfl) ho8' rfl
        rw [hfl'] at ho8' ⊢
        have hx78 : Ext W7 (W7.alloc (.cells #[.string nm, .int .i64 id, .int .i64 0] 32)) := (Ext.refl W7).alloc _
        have hty8 := (hty7.ext hx78).kept hg8 (hfl7.alloc _) (by omega)
        have hfr8 := hfr7.trans ((Fr.of_ext hx78 hbw7).trans (Fr.owned hg8 (hfl7.alloc _) (by simp; omega)))
        clear hfl' ho8 hg8
        go_wp2
        refine ⟨⟨k + 1, fl', _, by omega, congrArg (Value.int .i64) (by have := unhide Hidk; omega), rfl, by rw [unhide e1]; exact ho8', by rw [unhide e2, unhide e3]; simpa using hty8, rfl, rfl, rfl, hfr8⟩, by simp [intOf]; omega⟩
      case some o =>
        cases ho : o
        case none =>
          subst ho
          have hR : R = some (false, FieldM.zero) := by rw [unhide HR, hkp]; rfl
          subst hR
          have hflaw : Hid (idFlaw s id = false) := by unfold Hid idFlaw; rw [hkp]; rfl
          have z0 : W6.cell? ⟨g, 0, none⟩ = some (.bool false) := z0
          have hgn : gn = idGone s id := unhide Hgn
          rw [unhide hflaw, hkp] at e2
          rw [unhide hflaw] at e1
          rw [unhide hflaw, ← hgn] at e3
          have E2 : Hid (fieldsTo s (k + 1) = fieldsTo s k) := by unfold Hid; rw [unhide e2]; simp
          have E1 : Hid (fieldFlawsTo s (k + 1) = fieldFlawsTo s k) := by unfold Hid; rw [unhide e1]; simp
          clear HR Hgn hgn hkp e1 e2
          cases gn
          case false =>
            have E3 : Hid (goneTo s (k + 1) = goneTo s k) := by unfold Hid; rw [unhide e3]; simp
            go_wp2
            exact ⟨⟨k + 1, flv, _, by omega, congrArg (Value.int .i64) (by have := unhide Hidk; omega), rfl, by rw [unhide E1]; exact hfl6, by rw [unhide E2, unhide E3]; exact hty6, rfl, rfl, rfl, hfr6⟩, by simp [intOf]; omega⟩
          case true =>
            have E3 : Hid (goneTo s (k + 1) = goneTo s k ++ [id]) := by unfold Hid; rw [unhide e3]; simp
            have hg6 := hty6.gone
            simp only at hg6
            go_wp2_with (at_builtin; refine wpList_app1 _ _ 43 3 (.int .i64 0) 1 8 Tryd.underlying43 info3 rfl (by decide) (by decide) rfl rfl base _ (goneTo s k).length _ rfl (hg6.alloc _) W6.heap.size 1 [.int .i64 id] rfl rfl ?c1 ?c2 ?c3 ?c4 ?_)
            case c1 => exact range_of_new1 _ _ _ (by simp)
            case c2 => first | exact one_int id | rfl
            case c3 => omega
            case c4 => first | omega | (simp; omega)
            intro v8 W8 ho8 hg8
            have ho8' : W8.ownsRow base 3 1 v8 (goneTo s k ++ [id]).length ((goneTo s k ++ [id]).flatMap encI) := by
              rw [List.length_append, List.length_singleton, List.flatMap_append]
              simpa [encI] using ho8
            obtain ⟨sg', hsg', _⟩ := sliceAt_of_owns encI (fun _ => rfl) ho8' rfl
            rw [hsg'] at ho8' ⊢
            have hx78 : Ext W6 (W6.alloc (.cells #[.int .i64 id] 3)) := (Ext.refl W6).alloc _
            have hrow8 : W8.heap[h]? = some (.cells #[.string tnm, .bool ten, .slice sf.a sf.len sf.cap, .slice sg.a sg.len sg.cap, .slice none 0 0] 46 (0, 0)) := by
              have h0 := hx78.heap hrow6
              rw [hg8.block h (lt_of_heap h0) (fun e => by have := (hg6.lt h e.symm).1; omega)]; exact h0
            have hf8 := (owns_ext hty6.fields hx78).kept hg8 (owns_apart hty6.fields hg6 (by decide))
            have hi8 := (owns_ext hty6.items hx78).kept hg8 (owns_apart hty6.items hg6 (by decide))
            have hl8 := (owns_ext hfl6 hx78).kept hg8 (owns_apart hfl6 hg6 (by decide))
            have hfr8 := hfr6.trans ((Fr.of_ext hx78 hbw6).trans (Fr.owned hg8 (hg6.alloc _) (by simp; omega)))
            simp only at hf8 hi8
            clear hsg' ho8 hg6 hg8 hrow6 a0 a1 a2 a3 a4 a5
            obtain ⟨a0, a1, a2, a3, a4, a5⟩ := row5 hrow8
            have hhb : h < base := by omega
            have ht9 : TyOwn (W8.setCell ⟨h, 3, none⟩ (.slice sg'.a sg'.len sg'.cap)) h base ⟨tnm, ten, sf, sg', ⟨none, 0, 0⟩⟩ (fieldsTo s k) (goneTo s k ++ [id]) [] :=
              ⟨heap_setCell_same W8 h 3 _ 46 _ hrow8, ownsRow_setCell_below hf8 hhb _, ownsRow_setCell_below ho8' hhb _, ownsRow_setCell_below hi8 hhb _⟩
            have hl9 := ownsRow_setCell_below (a := ⟨h, 3, none⟩) hl8 hhb (.slice sg'.a sg'.len sg'.cap)
            have hfr9 := hfr8.trans (Fr.set (base := base) (g := h) W8 3 (.slice sg'.a sg'.len sg'.cap))
            clear hf8 hi8 ho8' hrow8
            go_wp2
            exact ⟨⟨k + 1, flv, _, by omega, congrArg (Value.int .i64) (by have := unhide Hidk; omega), rfl, by rw [unhide E1]; exact hl9, by rw [unhide E2, unhide E3]; exact ht9, rfl, rfl, rfl, hfr9⟩, by simp [intOf]; omega⟩
        case some f =>
          subst ho
          have hR : R = some (true, f) := by rw [unhide HR, hkp]; rfl
          subst hR
          have hgn : gn = idGone s id := unhide Hgn
          have z0 : W6.cell? ⟨g, 0, none⟩ = some (.bool true) := z0
          have z1 : W6.cell? ⟨g, 1, none⟩ = some (.int .i64 f.id) := z1
          have z2 : W6.cell? ⟨g, 2, none⟩ = some (.string f.name) := z2
          have z3 : W6.cell? ⟨g, 3, none⟩ = some (.string f.type) := z3
          have z4 : W6.cell? ⟨g, 4, none⟩ = some (.int .i64 f.kind) := z4
          have z5 : W6.cell? ⟨g, 5, none⟩ = some (.int .i64 f.rule) := z5
          cases gn
          case true =>
            have hflaw : Hid (idFlaw s id = true) := by unfold Hid idFlaw; rw [hkp, ← hgn]; rfl
            clear HR Hgn hgn hkp
            rw [if_pos (unhide hflaw)] at e1 e2
            rw [show (!idFlaw s id && idGone s id) = false by rw [unhide hflaw]; rfl] at e3
            go_wp2_with fail
            refine (flaw_any nm _ _ _ _ _ _ _ _ _ _ _ _ _ _ _ id W6 rfl).mono ?_
            rintro e W7 ⟨rfl, hx7⟩
            have hfl7 := owns_ext hfl6 hx7
            have hty7 := hty6.ext hx7
            have hfr7 := hfr6.trans (Fr.of_ext hx7 hbw6)
            have hbw7 : base ≤ W7.heap.size := Nat.le_trans hbw6 hx7.size
            go_wp2_with (at_builtin; refine wpList_app1 _ _ 25 32 (.agg #[.string ⟨#[]⟩, .int .i64 0, .int .i64 0]) 3 32 Tryd.underlying25 info32 rfl (by decide) (by decide) rfl rfl base _ (fieldFlawsTo s k).length _ rfl (hfl7.alloc _) W7.heap.size 1 [.string nm, .int .i64 id, .int .i64 0] rfl rfl ?c1 ?c2 ?c3 ?c4 ?_)
            case c1 => exact range_of_new3 _ _ _ _ _ (by simp)
            case c2 => exact one_flaw nm id
            case c3 => omega
            case c4 => simp; omega
            intro v8 W8 ho8 hg8
            have ho8' : W8.ownsRow base 32 3 v8 (fieldFlawsTo s k ++ [id]).length ((fieldFlawsTo s k ++ [id]).flatMap (flawC nm)) := by
              rw [List.length_append, List.length_singleton, List.flatMap_append]
              simpa [flawC] using ho8
            obtain ⟨fl', hfl', _⟩ := sliceAt_of_owns (flawC nm) (fun _ => rfl) ho8' rfl
            rw [hfl'] at ho8' ⊢
            have hx78 : Ext W7 (W7.alloc (.cells #[.string nm, .int .i64 id, .int .i64 0] 32)) := (Ext.refl W7).alloc _
            have hty8 := (hty7.ext hx78).kept hg8 (hfl7.alloc _) (by omega)
            have hfr8 := hfr7.trans ((Fr.of_ext hx78 hbw7).trans (Fr.owned hg8 (hfl7.alloc _) (by simp; omega)))
            clear hfl' ho8 hg8
            go_wp2
            refine ⟨⟨k + 1, fl', _, by omega, congrArg (Value.int .i64) (by have := unhide Hidk; omega), rfl, by rw [unhide e1]; exact ho8', by rw [unhide e2, unhide e3]; simpa using hty8, rfl, rfl, rfl, hfr8⟩, by simp [intOf]; omega⟩
          case false =>
            have hflaw : Hid (idFlaw s id = false) := by unfold Hid idFlaw; rw [hkp, ← hgn]; rfl
            rw [unhide hflaw, hkp] at e2
            rw [unhide hflaw] at e1
            rw [unhide hflaw, ← hgn] at e3
            have E2 : Hid (fieldsTo s (k + 1) = fieldsTo s k ++ [f]) := by unfold Hid; rw [unhide e2]; simp
            have E1 : Hid (fieldFlawsTo s (k + 1) = fieldFlawsTo s k) := by unfold Hid; rw [unhide e1]; simp
            have E3 : Hid (goneTo s (k + 1) = goneTo s k) := by unfold Hid; rw [unhide e3]; simp
            clear HR Hgn hgn hkp e1 e2 e3
            have hf6 := hty6.fields
            simp only at hf6
            go_wp2_with fail
            refine wp_region_X (fun w' => w'.cell? ⟨h, 2, none⟩ = some (.slice sf.a sf.len sf.cap) ∧ w'.cell? ⟨g, 1, none⟩ = some (.int .i64 f.id) ∧ w'.cell? ⟨g, 2, none⟩ = some (.string f.name) ∧ w'.cell? ⟨g, 3, none⟩ = some (.string f.type) ∧ w'.cell? ⟨g, 4, none⟩ = some (.int .i64 f.kind) ∧ w'.cell? ⟨g, 5, none⟩ = some (.int .i64 f.rule)) (fun j => decide (9 ≤ j)) (by kernel_rfl) ?_
            obtain ⟨Wd, hWd⟩ : ∃ Wd, Wd = W6.drew := ⟨_, rfl⟩
            have xd : Ext W6 Wd := by rw [hWd]; exact (Ext.refl W6).drew
            rw [← hWd]
            clear hWd
            have hS0 : Wd.cell? ⟨h, 2, none⟩ = some (.slice sf.a sf.len sf.cap) ∧ Wd.cell? ⟨g, 1, none⟩ = some (.int .i64 f.id) ∧ Wd.cell? ⟨g, 2, none⟩ = some (.string f.name) ∧ Wd.cell? ⟨g, 3, none⟩ = some (.string f.type) ∧ Wd.cell? ⟨g, 4, none⟩ = some (.int .i64 f.kind) ∧ Wd.cell? ⟨g, 5, none⟩ = some (.int .i64 f.rule) := ⟨xd.cell a2, xd.cell z1, xd.cell z2, xd.cell z3, xd.cell z4, xd.cell z5⟩
            refine wpAnyX_take (i := 0) (v := .pointer (some ⟨h, 0, none⟩)) rfl (by kernel_rfl) (by kernel_rfl) (fun _ _ _ h => h) (.inl ⟨rfl, fun w' hS => by simp [execOp, go_sem]⟩) (hS0) ?_
            simp only [Act.put, List.getElem_toArray, List.getElem_cons_zero, List.getElem_cons_succ, List.setIfInBounds_toArray, List.set_cons_succ, List.set_cons_zero]
            refine wpAnyX_take (i := 1) (v := .pointer (some ⟨h, 0, none⟩)) rfl (by kernel_rfl) (by kernel_rfl) (fun _ _ _ h => h) (.inl ⟨rfl, fun w' hS => by simp [execOp, go_sem]⟩) (hS0) ?_
            simp only [Act.put, List.getElem_toArray, List.getElem_cons_zero, List.getElem_cons_succ, List.setIfInBounds_toArray, List.set_cons_succ, List.set_cons_zero]
            refine wpAnyX_take (i := 2) (v := .pointer (some ⟨h, 0, none⟩)) rfl (by kernel_rfl) (by kernel_rfl) (fun _ _ _ h => h) (.inl ⟨rfl, fun w' hS => by simp [execOp, go_sem]⟩) (hS0) ?_
            simp only [Act.put, List.getElem_toArray, List.getElem_cons_zero, List.getElem_cons_succ, List.setIfInBounds_toArray, List.set_cons_succ, List.set_cons_zero]
            refine wpAnyX_take (i := 3) (v := .pointer (some ⟨h, 2, none⟩)) rfl (by kernel_rfl) (by kernel_rfl) (fun _ _ _ h => h) (.inl ⟨rfl, fun w' hS => by simp [execOp, go_sem]⟩) (hS0) ?_
            simp only [Act.put, List.getElem_toArray, List.getElem_cons_zero, List.getElem_cons_succ, List.setIfInBounds_toArray, List.set_cons_succ, List.set_cons_zero]
            refine wpAnyX_take (i := 4) (v := .slice sf.a sf.len sf.cap) rfl (by kernel_rfl) (by kernel_rfl) (fun _ _ _ h => h) (.inl ⟨rfl, fun w' hS => by simp [execOp, go_sem, hS.1]⟩) (hS0) ?_
            simp only [Act.put, List.getElem_toArray, List.getElem_cons_zero, List.getElem_cons_succ, List.setIfInBounds_toArray, List.set_cons_succ, List.set_cons_zero]
            refine wpAnyX_take (i := 5) (v := .pointer (some ⟨g, 1, none⟩)) rfl (by kernel_rfl) (by kernel_rfl) (fun _ _ _ h => h) (.inl ⟨rfl, fun w' hS => by simp [execOp, go_sem]⟩) (hS0) ?_
            simp only [Act.put, List.getElem_toArray, List.getElem_cons_zero, List.getElem_cons_succ, List.setIfInBounds_toArray, List.set_cons_succ, List.set_cons_zero]
            refine wpAnyX_take (i := 6) (v := .agg #[.int .i64 f.id, .string f.name, .string f.type, .int .i64 f.kind, .int .i64 f.rule]) rfl (by kernel_rfl) (by kernel_rfl) (fun _ _ _ h => h) (.inl ⟨rfl, fun w' hS => by simp [execOp, go_sem, hS.2.1, hS.2.2.1, hS.2.2.2.1, hS.2.2.2.2.1, hS.2.2.2.2.2]⟩) (hS0) ?_
            simp only [Act.put, List.getElem_toArray, List.getElem_cons_zero, List.getElem_cons_succ, List.setIfInBounds_toArray, List.set_cons_succ, List.set_cons_zero]
            refine wpAnyX_one (j := 7) rfl (by kernel_rfl) rfl fun K hK => ?_
            have x7 : Ext W6 (Wd.alloc (.cells #[.int .i64 f.id, .string f.name, .string f.type, .int .i64 f.kind, .int .i64 f.rule] 36)) := xd.trans ((Ext.refl Wd).alloc _)
            go_wp2
            refine hK.out _ _ (⟨x7.cell a2, x7.cell z1, x7.cell z2, x7.cell z3, x7.cell z4, x7.cell z5⟩) ?_
            clear hK K
            refine wpAnyX_one (j := 8) rfl (by kernel_rfl) rfl fun K hK => ?_
            have hfd := owns_ext hf6 xd
            refine wpList_app1 _ _ 42 36 (.agg #[.int .i64 0, .string ⟨#[]⟩, .string ⟨#[]⟩, .int .i64 0, .int .i64 0]) 5 56 Tryd.underlying42 info36 rfl (by decide) (by decide) rfl rfl base _ (fieldsTo s k).length _ rfl (hfd.alloc _) Wd.heap.size 1 f.cells rfl rfl ?c1 ?c2 ?c3 ?c4 ?_
            case c1 => exact range_of_new5 _ _ _ _ _ _ _ (by simp)
            case c2 => exact one_field f
            case c3 => omega
            case c4 => have := xd.size; simp; omega
            intro v8 W8 ho8 hg8
            have ho8' : W8.ownsRow base 36 5 v8 (fieldsTo s k ++ [f]).length ((fieldsTo s k ++ [f]).flatMap FieldM.cells) := by
              rw [List.length_append, List.length_singleton, List.flatMap_append]
              simpa using ho8
            obtain ⟨sf', hsf', _⟩ := sliceAt_of_owns FieldM.cells (fun _ => rfl) ho8' rfl
            rw [hsf'] at ho8' ⊢
            have hrow8 : W8.heap[h]? = some (.cells #[.string tnm, .bool ten, .slice sf.a sf.len sf.cap, .slice sg.a sg.len sg.cap, .slice none 0 0] 46 (0, 0)) := by
              have h0 := x7.heap hrow6
              rw [hg8.block h (lt_of_heap h0) (fun e => by have := (hf6.lt h e.symm).1; omega)]; exact h0
            have hgk : ∀ j v, W6.cell? ⟨g, j, none⟩ = some v → W8.cell? ⟨g, j, none⟩ = some v := fun j v hv => by
              have h0 := x7.cell hv
              rw [World.cell?_of_block (w := Wd.alloc (.cells #[.int .i64 f.id, .string f.name, .string f.type, .int .i64 f.kind, .int .i64 f.rule] 36)) (hg8.block g (World.block_lt_of_cell? _ _ h0) (fun e => by have := hlf g e.symm; omega))]; exact h0
            have hg8' := (owns_ext hty6.gone x7).kept hg8 (owns_apart hty6.gone hf6 (by decide))
            have hi8 := (owns_ext hty6.items x7).kept hg8 (owns_apart hty6.items hf6 (by decide))
            have hl8 := (owns_ext hfl6 x7).kept hg8 (owns_apart hfl6 hf6 (by decide))
            have hfr8 := hfr6.trans ((Fr.of_ext x7 hbw6).trans (Fr.owned hg8 (hfd.alloc _) (by have := xd.size; simp; omega)))
            simp only at hg8' hi8
            have zs := hgk 1 _ z1
            have zs2 := hgk 2 _ z2
            have zs3 := hgk 3 _ z3
            have zs4 := hgk 4 _ z4
            have zs5 := hgk 5 _ z5
            clear hsf' ho8 hf6 hfd hg8 hrow6 a0 a1 a2 a3 a4 a5 hgk
            obtain ⟨a0, a1, a2, a3, a4, a5⟩ := row5 hrow8
            have hhb : h < base := by omega
            go_wp2
            refine hK.out _ _ ⟨a2, zs, zs2, zs3, zs4, zs5⟩ ?_
            clear hK K
            refine wpAnyX_end [9, 10, 11] [_, _, _] rfl (by intro j i hj; match j, hj with | 0, hj => cases hj; rfl | 1, hj => cases hj; rfl | 2, hj => cases hj; rfl) (by kernel_rfl) (by intro i hi; cases hi; rfl) fun K hK => ?_
            go_wp2
            refine hK.out _ _ ?_
            clear hK K
            have ht9 : TyOwn (W8.setCell ⟨h, 2, none⟩ (.slice sf'.a sf'.len sf'.cap)) h base ⟨tnm, ten, sf', sg, ⟨none, 0, 0⟩⟩ (fieldsTo s k ++ [f]) (goneTo s k) [] :=
              ⟨heap_setCell_same W8 h 2 _ 46 _ hrow8, ownsRow_setCell_below ho8' hhb _, ownsRow_setCell_below hg8' hhb _, ownsRow_setCell_below hi8 hhb _⟩
            have hl9 := ownsRow_setCell_below (a := ⟨h, 2, none⟩) hl8 hhb (.slice sf'.a sf'.len sf'.cap)
            have hfr9 := hfr8.trans (Fr.set (base := base) (g := h) W8 2 (.slice sf'.a sf'.len sf'.cap))
            clear hg8' hi8 ho8' hrow8
            go_wp2
            exact ⟨⟨k + 1, flv, _, by omega, congrArg (Value.int .i64) (by have := unhide Hidk; omega), rfl, by rw [unhide E1]; exact hl9, by rw [unhide E2, unhide E3]; exact ht9, rfl, rfl, rfl, hfr9⟩, by simp [intOf]; omega⟩
    · have hk30 : k = 30 := by omega
      subst hk30
      go_wp2
      go_ret
      exact ⟨flv, tv, rfl, owns_base hfl (by omega), ⟨hty.row, owns_base hty.fields (by omega), owns_base hty.gone (by omega), owns_base hty.items (by omega)⟩, ht1, ht2, ht3, ⟨hfr.os.trans hxW.os, hfr.tape.trans hxW.tape, hfr.output.trans hxW.output, Nat.le_trans hxW.size hfr.size, fun i h1 h2 h3 => (hfr.block i (by omega) h2 h3).trans (Below.block hxW i h1)⟩⟩
end Go.Proofs.YtblkgaoafejefaaDoor
