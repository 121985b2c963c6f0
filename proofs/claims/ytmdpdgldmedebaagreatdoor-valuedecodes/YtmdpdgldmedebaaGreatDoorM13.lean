import Derived.Test.YtmdpdgldmedebaaGreatDoorM12
namespace Go.Proofs.YtmdpdgldmedebaaGreatDoor
set_option linter.unusedSimpArgs false
set_option linter.unusedVariables false
set_option linter.unusedSimpArgs false
set_option linter.unusedVariables false
open Go.RowKit

def leastF (ts : BookM) (rec : TypeM → ValueM) (f : FieldM) : ValueM :=
  if f.kind = 4 then ⟨0, (((findM ts f.type).getD TypeM.zero).items.getD 0 ⟨⟨#[]⟩, 0⟩).n, ⟨#[]⟩, [], []⟩
  else if f.kind = 5 then rec ((findM ts f.type).getD TypeM.zero) else ⟨kindN f.kind, 0, ⟨#[]⟩, [], []⟩
def onesL (l : List FieldM) : List FieldM := l.filter fun f => f.rule == 1
def leastV (ts : BookM) : Nat → TypeM → ValueM
  | 0, _ => ValueM.zero
  | k + 1, t => ⟨2, 0, ⟨#[]⟩, (onesL t.fields).map (·.id), (onesL t.fields).map (leastF ts (leastV ts k))⟩
/-- What is always there can be made, and ends. -/
def LeF (ts : BookM) (rec : TypeM → Prop) (f : FieldM) : Prop := (f.kind = 4 → 0 < ((findM ts f.type).getD TypeM.zero).items.length) ∧ (f.kind = 5 → rec ((findM ts f.type).getD TypeM.zero))
def LeOk (ts : BookM) : Nat → TypeM → Prop
  | 0, _ => False
  | k + 1, t => t.fields.length ≤ 1048576 ∧ ∀ f ∈ t.fields, f.rule = 1 → LeF ts (LeOk ts k) f
/-- Memory that came between two worlds. -/
def Btw (w w' : World) (b : Nat) : Prop := w.heap.size ≤ b ∧ b < w'.heap.size
theorem Btw.le {a w w' w'' : World} {b : Nat} (h : Btw w w' b) (h1 : a.heap.size ≤ w.heap.size) (h2 : w'.heap.size ≤ w''.heap.size) : Btw a w'' b := ⟨Nat.le_trans h1 h.1, Nat.lt_of_lt_of_le h.2 h2⟩
theorem leafAt (S : Nat → Prop) (k : Nat) (w : World) (kind n : Int) : ValueAtP S (k + 1) w [.int .i64 kind, .int .i64 n, .string ⟨#[]⟩, .slice none 0 0, .slice none 0 0] ⟨kind, n, ⟨#[]⟩, [], []⟩ :=
  ⟨⟨none, 0, 0⟩, ⟨none, 0, 0⟩, rfl, ⟨rfl, fun i x hx => by simp at hx⟩, ⟨rfl, fun i x hx => by simp at hx⟩, nil_ok, nil_ok, fun ad ha => (by cases ha), fun ad ha => (by cases ha)⟩
theorem field4 (a b c d e : Value) (he : e.oneCell' = true) (w : World) : (Instr.field 50 (.agg #[a, b, c, d, e]) 4).run Tryz.prog w = .ok e w := by
  simp [Instr.field, go_sem, asAgg]
def LM (sb : SV) (ts : BookM) (k : Nat) : Prop := ∀ (tv : TV) (t : TypeM) (w : World), BookAt w sb ts → TypeAt w tv t → LeOk ts k t →
  Calls Tryz.prog 24 #[.agg #[.slice sb.a sb.len sb.cap], .agg #[.string tv.name, .bool tv.enum, .slice tv.fields.a tv.fields.len tv.fields.cap, .slice tv.gone.a tv.gone.len tv.gone.cap, .slice tv.items.a tv.items.len tv.items.cap]] w fun e w' => ∃ ids l : SV, e = .returned (.agg #[.int .i64 (leastV ts k t).kind, .int .i64 (leastV ts k t).n, .string (leastV ts k t).s, .slice ids.a ids.len ids.cap, .slice l.a l.len l.cap]) ∧ ValueAtP (Btw w w') (k + 1) w' [.int .i64 (leastV ts k t).kind, .int .i64 (leastV ts k t).n, .string (leastV ts k t).s, .slice ids.a ids.len ids.cap, .slice l.a l.len l.cap] (leastV ts k t) ∧ Ext w w'

set_option maxHeartbeats 6400000 in
set_option maxRecDepth 10000 in
theorem leastOne_of (sb : SV) (ts : BookM) (hn : ts.Small) (k : Nat) (hM : LM sb ts k) (f : FieldM) (w : World) (hb : BookAt w sb ts) (hf : LeF ts (LeOk ts k) f) :
    Calls Tryz.prog 28 #[.agg #[.slice sb.a sb.len sb.cap], .agg #[.int .i64 f.id, .string f.name, .string f.type, .int .i64 f.kind, .int .i64 f.rule]] w fun e w' => ∃ ids l : SV, e = .returned (.agg #[.int .i64 (leastF ts (leastV ts k) f).kind, .int .i64 (leastF ts (leastV ts k) f).n, .string (leastF ts (leastV ts k) f).s, .slice ids.a ids.len ids.cap, .slice l.a l.len l.cap]) ∧ ValueAtP (Btw w w') (k + 1) w' [.int .i64 (leastF ts (leastV ts k) f).kind, .int .i64 (leastF ts (leastV ts k) f).n, .string (leastF ts (leastV ts k) f).s, .slice ids.a ids.len ids.cap, .slice l.a l.len l.cap] (leastF ts (leastV ts k) f) ∧ Ext w w' := by
  obtain ⟨w0, hw0⟩ : ∃ w0, w0 = ((w.alloc (.cells #[.slice sb.a sb.len sb.cap] 24)).alloc (.cells #[.int .i64 f.id, .string f.name, .string f.type, .int .i64 f.kind, .int .i64 f.rule] 56)).alloc (.cells #[.int .i64 0, .int .i64 0, .string ⟨#[]⟩, .slice none 0 0, .slice none 0 0] 28) := ⟨_, rfl⟩
  obtain ⟨hx0, hz, r0, r1, r2⟩ := heaps3 hw0
  have HW0 := hide hw0
  clear hw0
  have b0 : w0.cell? ⟨w.heap.size, 0, none⟩ = some (.slice sb.a sb.len sb.cap) := cell_of_row _ _ 0 _ _ _ r0
  obtain ⟨f0, f1, f2, f3, f4, _⟩ := row5 r1
  obtain ⟨x, hx⟩ : ∃ x, x = leastF ts (leastV ts k) f := ⟨_, rfl⟩
  rw [← hx]
  have E : Hid (x = if f.kind = 4 then ⟨0, (((findM ts f.type).getD TypeM.zero).items.getD 0 ⟨⟨#[]⟩, 0⟩).n, ⟨#[]⟩, [], []⟩
    else if f.kind = 5 then leastV ts k ((findM ts f.type).getD TypeM.zero) else ⟨kindN f.kind, 0, ⟨#[]⟩, [], []⟩) := hx
  have Hb := hide (hb.ext hx0)
  have HM := hide hM
  clear hx hb hM
  by_cases h4 : f.kind = 4
  · have Hx : Hid (x = ⟨0, (((findM ts f.type).getD TypeM.zero).items.getD 0 ⟨⟨#[]⟩, 0⟩).n, ⟨#[]⟩, [], []⟩) := by unfold Hid; rw [E.out, if_pos h4]
    have hpos := hf.1 h4
    have hk4 : (f.kind == 4) = true := by simp [h4]
    clear E h4 hf
    go_enter Tryz.func28, Tryz.ntmps28
    go_wp2_with fail
    rw [← unhide HW0]
    refine (typeOf_any sb ts f w0 (unhide Hb) hn).mono ?_
    rintro e w1 ⟨tv, rfl, htv, hx1, _⟩
    generalize (findM ts f.type).getD TypeM.zero = T at *
    have R2 := hx1.heap r2
    obtain ⟨c0, c1, c2, c3, c4, cf⟩ := row5 R2
    have z1 := lt_of_heap R2
    have hE1 := hx0.trans hx1
    obtain ⟨b, o, cs, ha, hr, rfl⟩ := htv.items.2 0 T.items[0] (by simp [hpos])
    obtain ⟨g0, g1⟩ := range2 hr
    have hil := htv.items.1
    rw [show T.items.getD 0 ⟨⟨#[]⟩, 0⟩ = T.items[0] by simp [List.getD, hpos]] at Hx
    generalize T.items[0] = it at *
    obtain ⟨nm, en, fs, gs, ⟨ia, il, ic⟩⟩ := tv
    simp only at ha hil
    subst ha hil
    have hpi : (0 : Int) < (T.items.length : Int) := by omega
    rw [Nat.zero_mul, Nat.add_zero] at g0 g1
    clear htv hr
    have hfd := fun w => field4 (.string nm) (.bool en) (.slice fs.a fs.len fs.cap) (.slice gs.a gs.len gs.cap) (.slice (some ⟨b, o, none⟩) T.items.length ic) rfl w
    go_wp2
    refine bodyPost_ret (v := .agg #[.int .i64 0, .int .i64 it.n, .string ⟨#[]⟩, .slice none 0 0, .slice none 0 0]) ?_ rfl ?_
    · simp [results, Tryz.results28, go_sem, c0, c1, c2, c3, c4, z1]
    · rw [unhide Hx]
      exact ⟨⟨none, 0, 0⟩, ⟨none, 0, 0⟩, rfl, leafAt _ _ _ _ _, hE1.setCell5 (by omega) _ _ _ _ _⟩
  have hk4 : (f.kind == 4) = false := by simpa using h4
  by_cases h5 : f.kind = 5
  · have Hx : Hid (x = leastV ts k ((findM ts f.type).getD TypeM.zero)) := by unfold Hid; rw [E.out, if_neg h4, if_pos h5]
    have hle := hf.2 h5
    have hk5 : (f.kind == 5) = true := by simp [h5]
    clear E h4 hf h5
    go_enter Tryz.func28, Tryz.ntmps28
    go_wp2_with fail
    rw [← unhide HW0]
    have hS0 : Ext w0 w0.drew := (Ext.refl w0).drew
    refine wp_region_X (fun w' => Ext w0 w') (fun j => decide (5 ≤ j)) (by kernel_rfl) ?_
    refine wpAnyX_take (i := 0) (v := .agg #[.slice sb.a sb.len sb.cap]) rfl (by kernel_rfl) (by kernel_rfl) (fun _ _ _ h => h) (.inl ⟨rfl, fun w' hS => by simp [execOp, go_sem, hS.cell b0]⟩) (hS0) ?_
    simp only [Act.put, List.getElem_toArray, List.getElem_cons_zero, List.getElem_cons_succ, List.setIfInBounds_toArray, List.set_cons_succ, List.set_cons_zero]
    refine wpAnyX_take (i := 1) (v := .agg #[.slice sb.a sb.len sb.cap]) rfl (by kernel_rfl) (by kernel_rfl) (fun _ _ _ h => h) (.inl ⟨rfl, fun w' hS => by simp [execOp, go_sem, hS.cell b0]⟩) (hS0) ?_
    simp only [Act.put, List.getElem_toArray, List.getElem_cons_zero, List.getElem_cons_succ, List.setIfInBounds_toArray, List.set_cons_succ, List.set_cons_zero]
    refine wpAnyX_take (i := 2) (v := .agg #[.int .i64 f.id, .string f.name, .string f.type, .int .i64 f.kind, .int .i64 f.rule]) rfl (by kernel_rfl) (by kernel_rfl) (fun _ _ _ h => h) (.inl ⟨rfl, fun w' hS => by simp [execOp, go_sem, hS.cell f0, hS.cell f1, hS.cell f2, hS.cell f3, hS.cell f4]⟩) (hS0) ?_
    simp only [Act.put, List.getElem_toArray, List.getElem_cons_zero, List.getElem_cons_succ, List.setIfInBounds_toArray, List.set_cons_succ, List.set_cons_zero]
    refine wpAnyX_one (j := 3) rfl (by kernel_rfl) rfl fun K hK => ?_
    go_wp2_with fail
    refine (typeOf_any sb ts f w0.drew ((unhide Hb).ext hS0) hn).mono ?_
    rintro e w1 ⟨tv, rfl, htv, hx1, _⟩
    have hS1 : Ext w0 w1 := hS0.trans hx1
    have Htv := hide htv
    clear htv
    go_wp2
    refine hK.out _ _ (hS1) ?_
    clear hK K
    refine wpAnyX_one (j := 4) rfl (by kernel_rfl) rfl fun K hK => ?_
    go_wp2_with fail
    refine (unhide HM tv _ w1 ((unhide Hb).ext hS1) (unhide Htv) hle).mono ?_
    rintro e w2 ⟨ids, l, rfl, hv2, hx2⟩
    have hS2 : Ext w0 w2 := hS1.trans hx2
    rw [← unhide Hx] at hv2 ⊢
    have R2 := hS2.heap r2
    obtain ⟨c0, c1, c2, c3, c4, cf⟩ := row5 R2
    have z2 := lt_of_heap R2
    have Hv2 := hide hv2
    clear hv2
    go_wp2
    refine hK.out _ _ (hS2) ?_
    clear hK K
    refine wpAnyX_end [5] [_] rfl (by intro j i hj; match j, hj with | 0, hj => cases hj; rfl) (by kernel_rfl) (by intro i hi; cases hi; rfl) fun K hK => ?_
    go_wp2
    refine hK.out _ _ ?_
    clear hK K
    go_wp2
    refine bodyPost_ret (v := .agg #[.int .i64 x.kind, .int .i64 x.n, .string x.s, .slice ids.a ids.len ids.cap, .slice l.a l.len l.cap]) ?_ rfl ⟨ids, l, rfl, ?_, (hx0.trans hS2).setCell5 (by omega) _ _ _ _ _⟩
    · simp [results, Tryz.results28, go_sem, c0, c1, c2, c3, c4, z2]
    · have hz1 : w0.heap.size ≤ w1.heap.size := hS1.size
      have hk : ValueAtP (Btw w1 w2) (k + 1) (((((w2.setCell ⟨w.heap.size + 1 + 1, 0, none⟩ (.int .i64 x.kind)).setCell ⟨w.heap.size + 1 + 1, 1, none⟩ (.int .i64 x.n)).setCell ⟨w.heap.size + 1 + 1, 2, none⟩ (.string x.s)).setCell ⟨w.heap.size + 1 + 1, 3, none⟩ (.slice ids.a ids.len ids.cap)).setCell ⟨w.heap.size + 1 + 1, 4, none⟩ (.slice l.a l.len l.cap)) [.int .i64 x.kind, .int .i64 x.n, .string x.s, .slice ids.a ids.len ids.cap, .slice l.a l.len l.cap] x :=
        (unhide Hv2).keep fun b ob hb hob => by
          have hne : b ≠ w.heap.size + 1 + 1 := by have := hb.1; omega
          rw [heap_setCell_other _ _ _ _ hne, heap_setCell_other _ _ _ _ hne, heap_setCell_other _ _ _ _ hne, heap_setCell_other _ _ _ _ hne, heap_setCell_other _ _ _ _ hne]; exact hob
      exact (hk.sub fun b hb => ⟨by have := hb.1; have := hx0.size; omega, by have := hb.2; simpa using this⟩)
  · have Hx : Hid (x = ⟨kindN f.kind, 0, ⟨#[]⟩, [], []⟩) := by unfold Hid; rw [E.out, if_neg h4, if_neg h5]
    have hk5 : (f.kind == 5) = false := by simpa using h5
    clear E h4 hf h5
    obtain ⟨c0, c1, c2, c3, c4, cf⟩ := row5 r2
    have z0 := lt_of_heap r2
    go_enter Tryz.func28, Tryz.ntmps28
    go_wp2_with fail
    rw [← unhide HW0]
    refine (kind_any f.kind w0).mono ?_
    rintro e w1 ⟨rfl, rfl⟩
    generalize kindN f.kind = kd at *
    go_wp2
    refine bodyPost_ret (v := .agg #[.int .i64 kd, .int .i64 0, .string ⟨#[]⟩, .slice none 0 0, .slice none 0 0]) ?_ rfl ?_
    · simp [results, Tryz.results28, go_sem, c0, c1, c2, c3, c4, z0]
    · rw [unhide Hx]
      exact ⟨⟨none, 0, 0⟩, ⟨none, 0, 0⟩, rfl, leafAt _ _ _ _ _, hx0.setCell5 (by omega) _ _ _ _ _⟩
end Go.Proofs.YtmdpdgldmedebaaGreatDoor

namespace Go.Proofs.YtmdpdgldmedebaaGreatDoor
set_option linter.unusedSimpArgs false
set_option linter.unusedVariables false
open Go.RowKit

theorem heaps4 {w w0 : World} {a b c d : Obj} (h : w0 = (((w.alloc a).alloc b).alloc c).alloc d) : Ext w w0 ∧ w0.heap.size = w.heap.size + 4 ∧ w0.heap[w.heap.size]? = some a ∧ w0.heap[w.heap.size + 1]? = some b ∧ w0.heap[w.heap.size + 1 + 1]? = some c ∧ w0.heap[w.heap.size + 1 + 1 + 1]? = some d := by
  obtain ⟨w1, hw1⟩ : ∃ w1, w1 = ((w.alloc a).alloc b).alloc c := ⟨_, rfl⟩
  rw [← hw1] at h
  obtain ⟨h1, h2, h3, h4, h5⟩ := heaps3 hw1
  subst h
  have hx : Ext w1 (w1.alloc d) := (Ext.refl w1).alloc _
  refine ⟨h1.alloc _, by simp [h2], hx.heap h3, hx.heap h4, hx.heap h5, ?_⟩
  have := heap_alloc_new w1 d
  rw [h2] at this
  exact this
theorem info28 : (Tryz.prog.info? 28).map (fun i => (i.zero, i.size, i.bytes)) = some (some (.agg #[.int .i64 0, .int .i64 0, .string ⟨#[]⟩, .slice none 0 0, .slice none 0 0]), 5, 80) := by kernel_rfl
theorem range_of_new5 (w : World) (u0 u1 u2 u3 u4 : Value) (t : TypeId) {g : Nat} (hg : g = w.heap.size) : (w.alloc (.cells #[u0, u1, u2, u3, u4] t)).rangeAt g 0 [u0, u1, u2, u3, u4] := by
  subst hg
  obtain ⟨h0, h1, h2, h3, h4, _⟩ := row5 (heap_alloc_new w (.cells #[u0, u1, u2, u3, u4] t))
  intro j v hv
  match j, hv with
  | 0, hv => cases hv; exact h0
  | 1, hv => cases hv; exact h1
  | 2, hv => cases hv; exact h2
  | 3, hv => cases hv; exact h3
  | 4, hv => cases hv; exact h4
theorem ones_take {l : List FieldM} {j : Nat} (h : j < l.length) : onesL (l.take (j + 1)) = onesL (l.take j) ++ (if (l[j].rule == 1) = true then [l[j]] else []) := by
  rw [List.take_succ_eq_append_getElem h]
  unfold onesL
  rw [List.filter_append]
  cases hr : l[j].rule == 1 <;> simp [hr]
theorem ones_len (l : List FieldM) (j : Nat) : (onesL (l.take j)).length ≤ j := by
  unfold onesL
  exact Nat.le_trans (List.length_filter_le _ _) (by rw [List.length_take]; omega)

/-- What the drawn statement reads. -/
def LmS (A c F : Nat) (sb : SV) (vL : Value) (f : FieldM) (w : World) : Prop := w.cell? ⟨A, 4, none⟩ = some vL ∧ w.cell? ⟨c, 0, none⟩ = some (.slice sb.a sb.len sb.cap) ∧ w.cell? ⟨F, 0, none⟩ = some (.int .i64 f.id) ∧ w.cell? ⟨F, 1, none⟩ = some (.string f.name) ∧ w.cell? ⟨F, 2, none⟩ = some (.string f.type) ∧ w.cell? ⟨F, 3, none⟩ = some (.int .i64 f.kind) ∧ w.cell? ⟨F, 4, none⟩ = some (.int .i64 f.rule)
theorem LmS.ext {A c F : Nat} {sb : SV} {vL : Value} {f : FieldM} {w w' : World} (h : LmS A c F sb vL f w) (he : Ext w w') : LmS A c F sb vL f w' :=
  ⟨he.cell h.1, he.cell h.2.1, he.cell h.2.2.1, he.cell h.2.2.2.1, he.cell h.2.2.2.2.1, he.cell h.2.2.2.2.2.1, he.cell h.2.2.2.2.2.2⟩
theorem LmS.grown {A c F : Nat} {sb : SV} {vL : Value} {f : FieldM} {w w' : World} {row : Option Nat} (h : LmS A c F sb vL f w) (hg : w.grownBy w' row) (hA : some A ≠ row) (hc : some c ≠ row) (hF : some F ≠ row) : LmS A c F sb vL f w' :=
  ⟨hg.cell h.1 hA, hg.cell h.2.1 hc, hg.cell h.2.2.1 hF, hg.cell h.2.2.2.1 hF, hg.cell h.2.2.2.2.1 hF, hg.cell h.2.2.2.2.2.1 hF, hg.cell h.2.2.2.2.2.2 hF⟩

set_option maxHeartbeats 12800000 in
set_option maxRecDepth 10000 in
theorem leastMessage_any (sb : SV) (ts : BookM) (hn : ts.Small) : ∀ k : Nat, LM sb ts k := by
  intro k
  induction k with
  | zero => intro _ _ _ _ _ h; exact h.elim
  | succ k ih =>
    intro tv t w hb ht hle
    have Hone := hide (leastOne_of sb ts hn k ih)
    obtain ⟨htl, hlf⟩ := hle
    have efl := ht.fields.1
    have hfs := ht.fields
    obtain ⟨nm, en, ⟨fa, fl, fc⟩, gs, is⟩ := tv
    simp only at efl hfs
    subst efl
    obtain ⟨x, hx⟩ : ∃ x, x = leastV ts (k + 1) t := ⟨_, rfl⟩
    rw [← hx]
    have Hx : Hid (x = ⟨2, 0, ⟨#[]⟩, (onesL t.fields).map (·.id), (onesL t.fields).map (leastF ts (leastV ts k))⟩) := hx
    clear hx ht ih
    show Calls Tryz.prog 24 #[.agg #[.slice sb.a sb.len sb.cap], .agg #[.string nm, .bool en, .slice fa t.fields.length fc, .slice gs.a gs.len gs.cap, .slice is.a is.len is.cap]] w _
    obtain ⟨w0, hw0⟩ : ∃ w0, w0 = (((w.alloc (.cells #[.slice sb.a sb.len sb.cap] 24)).alloc (.cells #[.string nm, .bool en, .slice fa t.fields.length fc, .slice gs.a gs.len gs.cap, .slice is.a is.len is.cap] 50)).alloc (.cells #[.int .i64 0, .int .i64 0, .string ⟨#[]⟩, .slice none 0 0, .slice none 0 0] 28)).alloc (.cells #[.int .i64 2, .int .i64 0, .string ⟨#[]⟩, .slice none 0 0, .slice none 0 0] 28) := ⟨_, rfl⟩
    obtain ⟨hx0, hz, r0, r1, r2, r3⟩ := heaps4 hw0
    have HW0 := hide hw0
    have Hb := hide hb
    have Hfs := hide hfs
    have Hlf := hide hlf
    clear hw0 hb hfs hlf
    have hti : t.fields.length ≤ 9223372036854775807 := by omega
    go_enter Tryz.func24, Tryz.ntmps24
    go_wp2
    rw [← unhide HW0]
    go_loopw [12] (fun i wr => ∃ (j n : Nat) (vi vL : Value), j ≤ t.fields.length ∧ i = .int .i64 j ∧ n = (onesL (t.fields.take j)).length ∧ wr.heap[w.heap.size + 1 + 1 + 1]? = some (.cells #[.int .i64 2, .int .i64 0, .string ⟨#[]⟩, vi, vL] 28 (0, 0)) ∧ wr.ownsRow (w.heap.size + 4) 3 1 vi n (((onesL (t.fields.take j)).map (·.id)).flatMap encI) ∧ VRow (k + 1) wr (w.heap.size + 4) (fun b => w.heap.size + 4 ≤ b) vi.ownBlock vL ((onesL (t.fields.take j)).map (leastF ts (leastV ts k))) ∧ Below (w.heap.size + 3) w0 wr) (fun i _ => t.fields.length - (intOf i).toNat)
    case atStart => exact ⟨0, 0, _, _, by omega, rfl, by simp [onesL], r3, World.ownsRow_nil _ _ _ _, VRow.nil _ _ _ _ _, Below.refl _ _⟩
    case round =>
      obtain ⟨j, n, vi, vL, hj, rfl, rfl, hA, hoi, hvr, hbl⟩ := hrel
      have hbw : Below w.heap.size w0 wr := hbl.mono (by omega)
      have hEr : Ext w wr := Below.trans hx0 hbw
      have hwz : w.heap.size + 4 ≤ wr.heap.size := by have := hbl.size; omega
      have hAz := lt_of_heap hA
      have hvLwr : ∀ b, vL.ownBlock = some b → b < wr.heap.size := by obtain ⟨css, hc1, _, _⟩ := hvr; exact fun b hb => (hc1.lt b hb).2
      have hvLwr' : ∀ b, vL.ownBlock = some b → w.heap.size + 4 ≤ b := by obtain ⟨css, hc1, _, _⟩ := hvr; exact fun b hb => (hc1.lt b hb).1
      obtain ⟨a0, a1, a2, a3, a4, af⟩ := row5 hA
      have bB : wr.cell? ⟨w.heap.size, 0, none⟩ = some (.slice sb.a sb.len sb.cap) := by rw [Below.cell hbl (by show w.heap.size < w.heap.size + 3; omega)]; exact cell_of_row _ _ 0 _ _ _ r0
      have r2' : wr.heap[w.heap.size + 1 + 1]? = some (.cells #[.int .i64 0, .int .i64 0, .string ⟨#[]⟩, .slice none 0 0, .slice none 0 0] 28 (0, 0)) := by rw [hbl.block _ (by omega)]; exact r2
      by_cases hlt : j < t.fields.length
      · obtain ⟨b, o, cs, hfa, hr, rfl⟩ := (unhide Hfs).2 j t.fields[j] (by simp [hlt])
        simp only at hfa
        subst hfa
        obtain ⟨c0, c1, c2, c3, c4⟩ := range5 (hEr.range hr)
        have hones := ones_take hlt
        have hlej := unhide Hlf t.fields[j] (List.getElem_mem hlt)
        have hol := ones_len t.fields j
        have hji : (j : Int) < (t.fields.length : Int) := by omega
        generalize t.fields[j] = f at *
        have hxF : Ext wr (wr.alloc (.cells #[.int .i64 f.id, .string f.name, .string f.type, .int .i64 f.kind, .int .i64 f.rule] 56)) := (Ext.refl wr).alloc _
        clear hr
        by_cases hr1 : f.rule = 1
        case neg =>
          have hrb : (f.rule == 1) = false := by simpa using hr1
          rw [hrb, if_neg (by simp), List.append_nil] at hones
          have Hones := hide hones
          have Hoi := hide hoi
          have Hvr := hide hvr
          have Hbl := hide hbl
          clear hones hr1 hoi hvr hbl hbw
          go_wp2
          exact ⟨⟨j + 1, _, vi, vL, by omega, by go_num, by rw [unhide Hones], hxF.heap hA, by rw [unhide Hones]; exact (unhide Hoi).alloc _, by rw [unhide Hones]; exact (unhide Hvr).ext hxF, (unhide Hbl).alloc (by omega) _⟩, by simp [intOf]; omega⟩
        have hrb : (f.rule == 1) = true := by simp [hr1]
        have hlf := hlej hr1
        rw [hrb, if_pos rfl] at hones
        have Hones := hide hones
        have Hoi := hide hoi
        have Hvr := hide hvr
        have Hbl := hide hbl
        have Hr1 := hide hr1
        clear hones hr1 hoi hvr hbl hbw hlej
        go_wp2_with (at_builtin; refine wpList_app1w _ _ 25 3 (.int .i64 0) 1 8 Tryz.underlying25 info3 rfl (by decide) (by decide) rfl rfl (w.heap.size + 4) _ (onesL (t.fields.take j)).length _ rfl (((unhide Hoi).alloc _).alloc _) (wr.heap.size + 1) 1 [.int .i64 f.id] rfl rfl ?c1 ?c2 ?c3 ?c4 ?_)
        case c1 => exact range_of_new1 _ _ _ (by simp)
        case c2 => intro u hu; simp at hu; subst hu; rfl
        case c3 => omega
        case c4 => simp; omega
        intro v1 w1 ho1 hg1 hw1
        obtain ⟨s1, hs1⟩ : ∃ s : SV, v1 = .slice s.a s.len s.cap := by obtain ⟨a', c', e'⟩ := owns_slice ho1; exact ⟨⟨a', _, c'⟩, e'⟩
        subst hs1
        have hWa : Ext wr ((wr.alloc (.cells #[.int .i64 f.id, .string f.name, .string f.type, .int .i64 f.kind, .int .i64 f.rule] 56)).alloc (.cells #[.int .i64 f.id] 3)) := ((Ext.refl wr).alloc _).alloc _
        have hoilt := (unhide Hoi).lt
        have hA1 : w1.heap[w.heap.size + 1 + 1 + 1]? = some (.cells #[.int .i64 2, .int .i64 0, .string ⟨#[]⟩, vi, vL] 28 (0, 0)) := by
          have h0 := hWa.heap hA
          rw [hg1.block _ (lt_of_heap h0) (fun e => by have := (hoilt _ e.symm).1; omega)]; exact h0
        have hF1 : w1.heap[wr.heap.size]? = some (.cells #[.int .i64 f.id, .string f.name, .string f.type, .int .i64 f.kind, .int .i64 f.rule] 56 (0, 0)) := by
          have h0 := ((Ext.refl (wr.alloc (.cells #[.int .i64 f.id, .string f.name, .string f.type, .int .i64 f.kind, .int .i64 f.rule] 56))).alloc (.cells #[.int .i64 f.id] 3)).heap (heap_alloc_new wr (.cells #[.int .i64 f.id, .string f.name, .string f.type, .int .i64 f.kind, .int .i64 f.rule] 56))
          rw [hg1.block _ (lt_of_heap h0) (fun e => by have := (hoilt _ e.symm).2; omega)]; exact h0
        have hz1 : wr.heap.size + 2 ≤ w1.heap.size := by have := hg1.size; simp at this; omega
        have hbl1 : Below (w.heap.size + 3) w0 w1 := (((unhide Hbl).alloc (by omega) _).alloc (by simp; omega) _).grown hg1 (by simp; omega) (fun k hk => by have := (hoilt k hk).1; omega)
        have hap : vL.ownBlock = none ∨ vL.ownBlock ≠ vi.ownBlock := by
          obtain ⟨css, hc1, _, _⟩ := unhide Hvr
          exact owns_apart hc1 (unhide Hoi) (by decide)
        have hvr1 := ((unhide Hvr).ext hWa).other (ex' := (Value.ownBlock (.slice s1.a s1.len s1.cap))) hg1 hap (by simpa using hw1)
        obtain ⟨a0, a1, a2, a3, a4, af⟩ := row5 hA1
        have hAz1 := lt_of_heap hA1
        have ho1' : w1.ownsRow (w.heap.size + 4) 3 1 (.slice s1.a s1.len s1.cap) ((onesL (t.fields.take j)).length + 1) (((onesL (t.fields.take j)).map (·.id)).flatMap encI ++ [.int .i64 f.id]) := ho1
        have Ho1 := hide ho1'
        have Hvr1 := hide hvr1
        have Hbl1 := hide hbl1
        clear ho1 ho1' hg1 hw1 hap hvr1 hbl1 Hoi Hvr Hbl hoilt hWa
        go_wp2_with fail
        obtain ⟨W, hW⟩ : ∃ W, W = w1.setCell ⟨w.heap.size + 1 + 1 + 1, 3, none⟩ (.slice s1.a s1.len s1.cap) := ⟨_, rfl⟩
        have hAW : W.heap[w.heap.size + 1 + 1 + 1]? = some (.cells #[.int .i64 2, .int .i64 0, .string ⟨#[]⟩, (.slice s1.a s1.len s1.cap), vL] 28 (0, 0)) := by
          rw [hW]
          have := heap_setCell_same w1 (w.heap.size + 1 + 1 + 1) 3 _ 28 (.slice s1.a s1.len s1.cap) hA1
          simpa using this
        have hFW : W.heap[wr.heap.size]? = some (.cells #[.int .i64 f.id, .string f.name, .string f.type, .int .i64 f.kind, .int .i64 f.rule] 56 (0, 0)) := by rw [hW, heap_setCell_other _ _ _ _ (show wr.heap.size ≠ w.heap.size + 1 + 1 + 1 by omega)]; exact hF1
        have hblW : Below (w.heap.size + 3) w0 W := by rw [hW]; exact (unhide Hbl1).setCell (by show w.heap.size + 3 ≤ w.heap.size + 1 + 1 + 1; omega) _
        have hoW : W.ownsRow (w.heap.size + 4) 3 1 (.slice s1.a s1.len s1.cap) ((onesL (t.fields.take j)).length + 1) (((onesL (t.fields.take j)).map (·.id)).flatMap encI ++ [.int .i64 f.id]) := by rw [hW]; exact ownsRow_setCell_below (unhide Ho1) (by show w.heap.size + 1 + 1 + 1 < w.heap.size + 4; omega) _
        have hvW : VRow (k + 1) W (w.heap.size + 4) (fun b => w.heap.size + 4 ≤ b) (Value.ownBlock (.slice s1.a s1.len s1.cap)) vL ((onesL (t.fields.take j)).map (leastF ts (leastV ts k))) := by rw [hW]; exact (unhide Hvr1).set (fun e => by have h := hvLwr' _ e; simp only at h; omega) (fun b hb => by simp only; omega) _
        have hzW : W.heap.size = w1.heap.size := by rw [hW]; simp
        rw [← hW]
        clear hW Ho1 Hvr1 Hbl1
        have hEW : Ext w W := Below.trans hx0 (hblW.mono (by omega))
        obtain ⟨g0, g1, g2, g3, g4, _⟩ := row5 hFW
        have hS0 : LmS (w.heap.size + 1 + 1 + 1) w.heap.size wr.heap.size sb vL f W := ⟨cell_of_row _ _ 4 _ _ _ hAW, by rw [Below.cell hblW (by show w.heap.size < w.heap.size + 3; omega)]; exact cell_of_row _ _ 0 _ _ _ r0, g0, g1, g2, g3, g4⟩
        have hSd : LmS (w.heap.size + 1 + 1 + 1) w.heap.size wr.heap.size sb vL f W.drew := hS0.ext ((Ext.refl W).drew)
        clear a0 a1 a2 a3 a4 af g0 g1 g2 g3 g4 hA1 hF1 hA bB
        refine wp_region_X (LmS (w.heap.size + 1 + 1 + 1) w.heap.size wr.heap.size sb vL f) (fun j => decide (8 ≤ j)) (by kernel_rfl) ?_
        refine wpAnyX_take (i := 0) (v := .pointer (some ⟨w.heap.size + 1 + 1 + 1, 4, none⟩)) rfl (by kernel_rfl) (by kernel_rfl) (fun _ _ _ h => h) (.inl ⟨rfl, fun w' hS => by simp [execOp, go_sem]⟩) (hSd) ?_
        simp only [Act.put, List.getElem_toArray, List.getElem_cons_zero, List.getElem_cons_succ, List.setIfInBounds_toArray, List.set_cons_succ, List.set_cons_zero]
        refine wpAnyX_take (i := 1) (v := vL) rfl (by kernel_rfl) (by kernel_rfl) (fun _ _ _ h => h) (.inl ⟨rfl, fun w' hS => by simp [execOp, go_sem, hS.1]⟩) (hSd) ?_
        simp only [Act.put, List.getElem_toArray, List.getElem_cons_zero, List.getElem_cons_succ, List.setIfInBounds_toArray, List.set_cons_succ, List.set_cons_zero]
        refine wpAnyX_take (i := 2) (v := .agg #[.slice sb.a sb.len sb.cap]) rfl (by kernel_rfl) (by kernel_rfl) (fun _ _ _ h => h) (.inl ⟨rfl, fun w' hS => by simp [execOp, go_sem, hS.2.1]⟩) (hSd) ?_
        simp only [Act.put, List.getElem_toArray, List.getElem_cons_zero, List.getElem_cons_succ, List.setIfInBounds_toArray, List.set_cons_succ, List.set_cons_zero]
        refine wpAnyX_take (i := 3) (v := .agg #[.int .i64 f.id, .string f.name, .string f.type, .int .i64 f.kind, .int .i64 f.rule]) rfl (by kernel_rfl) (by kernel_rfl) (fun _ _ _ h => h) (.inl ⟨rfl, fun w' hS => by simp [execOp, go_sem, hS.2.2.1, hS.2.2.2.1, hS.2.2.2.2.1, hS.2.2.2.2.2.1, hS.2.2.2.2.2.2]⟩) (hSd) ?_
        simp only [Act.put, List.getElem_toArray, List.getElem_cons_zero, List.getElem_cons_succ, List.setIfInBounds_toArray, List.set_cons_succ, List.set_cons_zero]
        refine wpAnyX_one (j := 4) rfl (by kernel_rfl) rfl fun K hK => ?_
        go_wp2_with fail
        refine (unhide Hone f W.drew ((unhide Hb).ext (hEW.drew)) hlf).mono ?_
        rintro e w3 ⟨xi, xl, rfl, hv3, hx3⟩
        have hx3' : Ext W w3 := ((Ext.refl W).drew).trans hx3
        have hS3 := hSd.ext hx3
        generalize hxd : leastF ts (leastV ts k) f = xv at *
        have Hv3 := hide hv3
        have Hxd := hide hxd
        clear hv3 hxd
        go_wp2
        refine hK.out _ _ (hS3) ?_
        clear hK K
        refine wpAnyX_one (j := 5) rfl (by kernel_rfl) rfl fun K hK => ?_
        go_wp2
        have hx4 : Ext w3 (w3.alloc (.cells #[.int .i64 xv.kind, .int .i64 xv.n, .string xv.s, .slice xi.a xi.len xi.cap, .slice xl.a xl.len xl.cap] 28)) := (Ext.refl w3).alloc _
        refine hK.out _ _ (hS3.ext hx4) ?_
        clear hK K
        have hW4 : Ext W (w3.alloc (.cells #[.int .i64 xv.kind, .int .i64 xv.n, .string xv.s, .slice xi.a xi.len xi.cap, .slice xl.a xl.len xl.cap] 28)) := hx3'.trans hx4
        have hv4 := hvW.ext hW4
        obtain ⟨css, hc1, hc2, hc3⟩ := hv4
        have hcl := hvW
        obtain ⟨css0, hd1, _, _⟩ := hcl
        have hvLlt := hd1.lt
        have hoWlt := hoW.lt
        have hxv4 : ValueAtP (fun b => w.heap.size + 4 ≤ b ∧ vL.ownBlock ≠ some b ∧ (Value.ownBlock (.slice s1.a s1.len s1.cap)) ≠ some b ∧ b < (w3.alloc (.cells #[.int .i64 xv.kind, .int .i64 xv.n, .string xv.s, .slice xi.a xi.len xi.cap, .slice xl.a xl.len xl.cap] 28)).heap.size) (k + 1) (w3.alloc (.cells #[.int .i64 xv.kind, .int .i64 xv.n, .string xv.s, .slice xi.a xi.len xi.cap, .slice xl.a xl.len xl.cap] 28)) [.int .i64 xv.kind, .int .i64 xv.n, .string xv.s, .slice xi.a xi.len xi.cap, .slice xl.a xl.len xl.cap] xv :=
          ((unhide Hv3).ext hx4).sub fun b hb => by
            have h1 : W.heap.size ≤ b := hb.1
            have h2 := hb.2
            refine ⟨by omega, fun e => ?_, fun e => ?_, by simp; omega⟩
            · have := (hvLlt b e).2; omega
            · have := (hoWlt b e).2; omega
        have Hc1 := hide hc1
        have hz3 : W.heap.size ≤ w3.heap.size := hx3'.size
        refine wpAnyX_one (j := 6) rfl (by kernel_rfl) rfl fun K hK => ?_
        refine wpList_app1w _ _ 26 28 (.agg #[.int .i64 0, .int .i64 0, .string ⟨#[]⟩, .slice none 0 0, .slice none 0 0]) 5 80 Tryz.underlying26 info28 rfl (by decide) (by decide) rfl rfl (w.heap.size + 4) _ _ _ rfl (unhide Hc1) w3.heap.size 1 [.int .i64 xv.kind, .int .i64 xv.n, .string xv.s, .slice xi.a xi.len xi.cap, .slice xl.a xl.len xl.cap] rfl rfl ?d1 ?d2 ?d3 ?d4 ?_
        case d1 => exact range_of_new5 _ _ _ _ _ _ _ rfl
        case d2 => exact hxv4.one
        case d3 => rw [List.length_map]; omega
        case d4 => simp; omega
        intro v6 w6 ho6 hg6 hw6
        obtain ⟨s6, hs6⟩ : ∃ s : SV, v6 = .slice s.a s.len s.cap := by obtain ⟨a', c', e'⟩ := owns_slice ho6; exact ⟨⟨a', _, c'⟩, e'⟩
        subst hs6
        have hs6lt : ∀ b, Value.ownBlock (.slice s6.a s6.len s6.cap) = some b → w.heap.size + 4 ≤ b := fun b hb => (ho6.lt b hb).1
        have hv6 := VRow.push hc2 hc3 hxv4 ho6 hg6 hw6
        have hA6 : w6.heap[w.heap.size + 1 + 1 + 1]? = some (.cells #[.int .i64 2, .int .i64 0, .string ⟨#[]⟩, .slice s1.a s1.len s1.cap, vL] 28 (0, 0)) := by
          have h0 := hW4.heap hAW
          rw [hg6.block _ (lt_of_heap h0) (fun e => by have := (hvLlt _ e.symm).1; omega)]; exact h0
        have hzA : w.heap.size + 1 + 1 + 1 < W.heap.size := lt_of_heap hAW
        have hzF : wr.heap.size < W.heap.size := lt_of_heap hFW
        have hS6 : LmS (w.heap.size + 1 + 1 + 1) w.heap.size wr.heap.size sb vL f w6 := (hS3.ext hx4).grown hg6 (fun e => by have := (hvLlt _ e.symm).1; omega) (fun e => by have := (hvLlt _ e.symm).1; omega) (fun e => by have := hvLwr _ e.symm; omega)
        have ho16 := (owns_ext hoW hW4).kept hg6 (owns_apart hoW hd1 (by decide))
        have hbl6 : Below (w.heap.size + 3) w0 w6 := (Below.trans hblW (hW4.mono (by omega))).grown hg6 (by simp; omega) (fun k hk => by have := (hvLlt k hk).1; omega)
        have hz6 := lt_of_heap hA6
        obtain ⟨a0, a1, a2, a3, a4, af⟩ := row5 hA6
        have Hv6 := hide hv6
        have Ho16 := hide ho16
        have Hbl6 := hide hbl6
        clear ho6 hg6 hw6 hc1 hc2 hc3 hd1 hv6 ho16 hbl6 hxv4 hvW hoW hblW
        go_wp2
        refine hK.out _ _ (hS6) ?_
        clear hK K
        refine wpAnyX_one (j := 7) rfl (by kernel_rfl) rfl fun K hK => ?_
        go_wp2
        refine hK.out _ _ (hS6) ?_
        clear hK K
        refine wpAnyX_end [8] [_] rfl (by intro j i hj; match j, hj with | 0, hj => cases hj; rfl) (by kernel_rfl) (by intro i hi; cases hi; rfl) fun K hK => ?_
        go_wp2
        refine hK.out _ _ ?_
        clear hK K
        go_wp2
        refine ⟨⟨j + 1, _, .slice s1.a s1.len s1.cap, .slice s6.a s6.len s6.cap, by omega, by go_num, rfl, ?_, ?_, ?_, ?_⟩, by simp [intOf]; omega⟩
        · have := heap_setCell_same w6 (w.heap.size + 1 + 1 + 1) 4 _ 28 (.slice s6.a s6.len s6.cap) hA6
          simpa using this
        · rw [unhide Hones, List.map_append, List.flatMap_append, List.length_append]
          exact ownsRow_setCell_below (unhide Ho16) (by show w.heap.size + 1 + 1 + 1 < w.heap.size + 4; omega) _
        · rw [unhide Hones, List.map_append]
          have h := (unhide Hv6).set (p := ⟨w.heap.size + 1 + 1 + 1, 4, none⟩) (fun e => by have h := hs6lt _ e; simp only at h; omega) (fun b hb => by simp only; omega) (.slice s6.a s6.len s6.cap)
          rw [← unhide Hxd] at h
          exact h
        · exact (unhide Hbl6).setCell (by show w.heap.size + 3 ≤ w.heap.size + 1 + 1 + 1; omega) _
      · have htk : t.fields.take j = t.fields := List.take_of_length_le (by omega)
        rw [htk] at hoi hvr
        obtain ⟨si, hsi⟩ : ∃ s : SV, vi = .slice s.a s.len s.cap := by obtain ⟨a', c', e'⟩ := owns_slice hoi; exact ⟨⟨a', _, c'⟩, e'⟩
        subst hsi
        obtain ⟨sl, rfl, hsl, hslok, hslb⟩ := hvr.slice
        obtain ⟨si', hsi', hint⟩ := ints_of_owns hoi (by simp)
        have hiok := ok_of_owns hoi
        have hilt := hoi.lt
        simp only [Value.slice.injEq] at hsi'
        obtain rfl : si = si' := by cases si; cases si'; simp_all
        have Hint := hide hint
        have Hsl := hide hsl
        obtain ⟨q0, q1, q2, q3, q4, qf⟩ := row5 r2'
        have hz2 := lt_of_heap r2'
        clear hint hsl hoi hvr
        go_wp2
        refine bodyPost_ret (v := .agg #[.int .i64 2, .int .i64 0, .string ⟨#[]⟩, .slice si.a si.len si.cap, .slice sl.a sl.len sl.cap]) ?_ rfl ?_
        · simp [results, Tryz.results24, go_sem, q0, q1, q2, q3, q4, hz2]
        · have hE : Ext w (((((wr.setCell ⟨w.heap.size + 1 + 1, 0, none⟩ (.int .i64 2)).setCell ⟨w.heap.size + 1 + 1, 1, none⟩ (.int .i64 0)).setCell ⟨w.heap.size + 1 + 1, 2, none⟩ (.string ⟨#[]⟩)).setCell ⟨w.heap.size + 1 + 1, 3, none⟩ (.slice si.a si.len si.cap)).setCell ⟨w.heap.size + 1 + 1, 4, none⟩ (.slice sl.a sl.len sl.cap)) := hEr.setCell5 (by omega) _ _ _ _ _
          rw [unhide Hx]
          refine ⟨si, sl, rfl, ?_, hE⟩
          have h0 : ValueAtP (fun b => w.heap.size + 4 ≤ b ∧ b < wr.heap.size) (k + 2) wr [.int .i64 2, .int .i64 0, .string ⟨#[]⟩, .slice si.a si.len si.cap, .slice sl.a sl.len sl.cap] ⟨2, 0, ⟨#[]⟩, (onesL t.fields).map (·.id), (onesL t.fields).map (leastF ts (leastV ts k))⟩ :=
            ⟨si, sl, rfl, unhide Hint, unhide Hsl, hiok, hslok, fun ad ha => hilt ad.block (by simp [Value.ownBlock, ha]), hslb⟩
          refine (h0.keep fun b ob hb hob => ?_).sub fun b hb => ⟨by have := hb.1; omega, by simpa using hb.2⟩
          have hne : b ≠ w.heap.size + 1 + 1 := by have := hb.1; omega
          rw [heap_setCell_other _ _ _ _ hne, heap_setCell_other _ _ _ _ hne, heap_setCell_other _ _ _ _ hne, heap_setCell_other _ _ _ _ hne, heap_setCell_other _ _ _ _ hne]; exact hob
end Go.Proofs.YtmdpdgldmedebaaGreatDoor

