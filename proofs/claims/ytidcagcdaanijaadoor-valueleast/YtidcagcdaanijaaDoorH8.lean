import Derived.Test.YtidcagcdaanijaaDoorH7
import Derived.Lib.SliceRun
namespace Go.Proofs.YtidcagcdaanijaaDoor
set_option linter.unusedSimpArgs false
set_option linter.unusedVariables false
set_option linter.unusedSimpArgs false
set_option linter.unusedVariables false
open Go.RowKit

theorem heaps4 {w w0 : World} {a b c d : Obj} (h : w0 = (((w.alloc a).alloc b).alloc c).alloc d) : Ext w w0 ∧ w0.heap.size = w.heap.size + 4 ∧ w0.heap[w.heap.size]? = some a ∧ w0.heap[w.heap.size + 1]? = some b ∧ w0.heap[w.heap.size + 1 + 1]? = some c ∧ w0.heap[w.heap.size + 1 + 1 + 1]? = some d := by
  obtain ⟨w1, hw1⟩ : ∃ w1, w1 = ((w.alloc a).alloc b).alloc c := ⟨_, rfl⟩
  rw [← hw1] at h
  obtain ⟨h1, h2, h3, h4, h5⟩ := heaps3 hw1
  subst h
  have hx : Ext w1 (w1.alloc d) := (Ext.refl w1).alloc _
  refine ⟨h1.alloc _, by simp [h2], hx.heap h3, hx.heap h4, hx.heap h5, ?_⟩
  have := heap_alloc_new w1 d
  rw [h2] at this
  exact this
theorem info28 : (Tryd.prog.info? 28).map (fun i => (i.zero, i.size, i.bytes)) = some (some (.agg #[.int .i64 0, .int .i64 0, .string ⟨#[]⟩, .slice none 0 0, .slice none 0 0]), 5, 80) := by kernel_rfl
theorem range_of_new5 (w : World) (u0 u1 u2 u3 u4 : Value) (t : TypeId) {g : Nat} (hg : g = w.heap.size) : (w.alloc (.cells #[u0, u1, u2, u3, u4] t)).rangeAt g 0 [u0, u1, u2, u3, u4] := by
  subst hg
  obtain ⟨h0, h1, h2, h3, h4, _⟩ := row5 (heap_alloc_new w (.cells #[u0, u1, u2, u3, u4] t))
  intro j v hv
  match j, hv with
  | 0, hv => cases hv; exact h0
  | 1, hv => cases hv; exact h1
  | 2, hv => cases hv; exact h2
  | 3, hv => cases hv; exact h3
  | 4, hv => cases hv; exact h4
theorem ones_take {l : List FieldM} {j : Nat} (h : j < l.length) : onesL (l.take (j + 1)) = onesL (l.take j) ++ (if (l[j].rule == 1) = true then [l[j]] else []) := by
  rw [List.take_succ_eq_append_getElem h]
  unfold onesL
  rw [List.filter_append]
  cases hr : l[j].rule == 1 <;> simp [hr]
theorem ones_len (l : List FieldM) (j : Nat) : (onesL (l.take j)).length ≤ j := by
  unfold onesL
  exact Nat.le_trans (List.length_filter_le _ _) (by rw [List.length_take]; omega)

/-- What the drawn statement reads. -/
def LmS (A c F : Nat) (sb : SV) (vL : Value) (f : FieldM) (w : World) : Prop := w.cell? ⟨A, 4, none⟩ = some vL ∧ w.cell? ⟨c, 0, none⟩ = some (.slice sb.a sb.len sb.cap) ∧ w.cell? ⟨F, 0, none⟩ = some (.int .i64 f.id) ∧ w.cell? ⟨F, 1, none⟩ = some (.string f.name) ∧ w.cell? ⟨F, 2, none⟩ = some (.string f.type) ∧ w.cell? ⟨F, 3, none⟩ = some (.int .i64 f.kind) ∧ w.cell? ⟨F, 4, none⟩ = some (.int .i64 f.rule)
theorem LmS.ext {A c F : Nat} {sb : SV} {vL : Value} {f : FieldM} {w w' : World} (h : LmS A c F sb vL f w) (he : Ext w w') : LmS A c F sb vL f w' :=
  ⟨he.cell h.1, he.cell h.2.1, he.cell h.2.2.1, he.cell h.2.2.2.1, he.cell h.2.2.2.2.1, he.cell h.2.2.2.2.2.1, he.cell h.2.2.2.2.2.2⟩
theorem LmS.grown {A c F : Nat} {sb : SV} {vL : Value} {f : FieldM} {w w' : World} {row : Option Nat} (h : LmS A c F sb vL f w) (hg : w.grownBy w' row) (hA : some A ≠ row) (hc : some c ≠ row) (hF : some F ≠ row) : LmS A c F sb vL f w' :=
  ⟨hg.cell h.1 hA, hg.cell h.2.1 hc, hg.cell h.2.2.1 hF, hg.cell h.2.2.2.1 hF, hg.cell h.2.2.2.2.1 hF, hg.cell h.2.2.2.2.2.1 hF, hg.cell h.2.2.2.2.2.2 hF⟩

set_option maxHeartbeats 12800000 in
set_option maxRecDepth 10000 in
theorem leastMessage_any (sb : SV) (ts : BookM) (hn : ts.Small) : ∀ k : Nat, LM sb ts k := by
  intro k
  induction k with
  | zero => intro _ _ _ _ _ h; exact h.elim
  | succ k ih =>
    intro tv t w hb ht hle
    have Hone := hide (leastOne_of sb ts hn k ih)
    obtain ⟨htl, hlf⟩ := hle
    have efl := ht.fields.1
    have hfs := ht.fields
    obtain ⟨nm, en, ⟨fa, fl, fc⟩, gs, is⟩ := tv
    simp only at efl hfs
    subst efl
    obtain ⟨x, hx⟩ : ∃ x, x = leastV ts (k + 1) t := ⟨_, rfl⟩
    rw [← hx]
    have Hx : Hid (x = ⟨2, 0, ⟨#[]⟩, (onesL t.fields).map (·.id), (onesL t.fields).map (leastF ts (leastV ts k))⟩) := hx
    clear hx ht ih
    show Calls Tryd.prog 19 #[.agg #[.slice sb.a sb.len sb.cap], .agg #[.string nm, .bool en, .slice fa t.fields.length fc, .slice gs.a gs.len gs.cap, .slice is.a is.len is.cap]] w _
    obtain ⟨w0, hw0⟩ : ∃ w0, w0 = (((w.alloc (.cells #[.slice sb.a sb.len sb.cap] 24)).alloc (.cells #[.string nm, .bool en, .slice fa t.fields.length fc, .slice gs.a gs.len gs.cap, .slice is.a is.len is.cap] 50)).alloc (.cells #[.int .i64 0, .int .i64 0, .string ⟨#[]⟩, .slice none 0 0, .slice none 0 0] 28)).alloc (.cells #[.int .i64 2, .int .i64 0, .string ⟨#[]⟩, .slice none 0 0, .slice none 0 0] 28) := ⟨_, rfl⟩
    obtain ⟨hx0, hz, r0, r1, r2, r3⟩ := heaps4 hw0
    have HW0 := hide hw0
    have Hb := hide hb
    have Hfs := hide hfs
    have Hlf := hide hlf
    clear hw0 hb hfs hlf
    have hti : t.fields.length ≤ 9223372036854775807 := by omega
    go_enter Tryd.func19, Tryd.ntmps19
    go_wp2
    rw [← unhide HW0]
    go_loopw [12] (fun i wr => ∃ (j n : Nat) (vi vL : Value), j ≤ t.fields.length ∧ i = .int .i64 j ∧ n = (onesL (t.fields.take j)).length ∧ wr.heap[w.heap.size + 1 + 1 + 1]? = some (.cells #[.int .i64 2, .int .i64 0, .string ⟨#[]⟩, vi, vL] 28 (0, 0)) ∧ wr.ownsRow (w.heap.size + 4) 3 1 vi n (((onesL (t.fields.take j)).map (·.id)).flatMap encI) ∧ VRow (k + 1) wr (w.heap.size + 4) (fun b => w.heap.size + 4 ≤ b) vi.ownBlock vL ((onesL (t.fields.take j)).map (leastF ts (leastV ts k))) ∧ Below (w.heap.size + 3) w0 wr) (fun i _ => t.fields.length - (intOf i).toNat)
    case atStart => exact ⟨0, 0, _, _, by omega, rfl, by simp [onesL], r3, World.ownsRow_nil _ _ _ _, VRow.nil _ _ _ _ _, Below.refl _ _⟩
    case round =>
      obtain ⟨j, n, vi, vL, hj, rfl, rfl, hA, hoi, hvr, hbl⟩ := hrel
      have hbw : Below w.heap.size w0 wr := hbl.mono (by omega)
      have hEr : Ext w wr := Below.trans hx0 hbw
      have hwz : w.heap.size + 4 ≤ wr.heap.size := by have := hbl.size; omega
      have hAz := lt_of_heap hA
      have hvLwr : ∀ b, vL.ownBlock = some b → b < wr.heap.size := by obtain ⟨css, hc1, _, _⟩ := hvr; exact fun b hb => (hc1.lt b hb).2
      have hvLwr' : ∀ b, vL.ownBlock = some b → w.heap.size + 4 ≤ b := by obtain ⟨css, hc1, _, _⟩ := hvr; exact fun b hb => (hc1.lt b hb).1
      obtain ⟨a0, a1, a2, a3, a4, af⟩ := row5 hA
      have bB : wr.cell? ⟨w.heap.size, 0, none⟩ = some (.slice sb.a sb.len sb.cap) := by rw [Below.cell hbl (by show w.heap.size < w.heap.size + 3; omega)]; exact cell_of_row _ _ 0 _ _ _ r0
      have r2' : wr.heap[w.heap.size + 1 + 1]? = some (.cells #[.int .i64 0, .int .i64 0, .string ⟨#[]⟩, .slice none 0 0, .slice none 0 0] 28 (0, 0)) := by rw [hbl.block _ (by omega)]; exact r2
      by_cases hlt : j < t.fields.length
      · obtain ⟨b, o, cs, hfa, hr, rfl⟩ := (unhide Hfs).2 j t.fields[j] (by simp [hlt])
        simp only at hfa
        subst hfa
        obtain ⟨c0, c1, c2, c3, c4⟩ := range5 (hEr.range hr)
        have hones := ones_take hlt
        have hlej := unhide Hlf t.fields[j] (List.getElem_mem hlt)
        have hol := ones_len t.fields j
        have hji : (j : Int) < (t.fields.length : Int) := by omega
        generalize t.fields[j] = f at *
        have hxF : Ext wr (wr.alloc (.cells #[.int .i64 f.id, .string f.name, .string f.type, .int .i64 f.kind, .int .i64 f.rule] 46)) := (Ext.refl wr).alloc _
        clear hr
        by_cases hr1 : f.rule = 1
        case neg =>
          have hrb : (f.rule == 1) = false := by simpa using hr1
          rw [hrb, if_neg (by simp), List.append_nil] at hones
          have Hones := hide hones
          have Hoi := hide hoi
          have Hvr := hide hvr
          have Hbl := hide hbl
          clear hones hr1 hoi hvr hbl hbw
          go_wp2
          exact ⟨⟨j + 1, _, vi, vL, by omega, by go_num, by rw [unhide Hones], hxF.heap hA, by rw [unhide Hones]; exact (unhide Hoi).alloc _, by rw [unhide Hones]; exact (unhide Hvr).ext hxF, (unhide Hbl).alloc (by omega) _⟩, by simp [intOf]; omega⟩
        have hrb : (f.rule == 1) = true := by simp [hr1]
        have hlf := hlej hr1
        rw [hrb, if_pos rfl] at hones
        have Hones := hide hones
        have Hoi := hide hoi
        have Hvr := hide hvr
        have Hbl := hide hbl
        have Hr1 := hide hr1
        clear hones hr1 hoi hvr hbl hbw hlej
        go_wp2_with (at_builtin; refine wpList_app1w _ _ 25 3 (.int .i64 0) 1 8 Tryd.underlying25 info3 rfl (by decide) (by decide) rfl rfl (w.heap.size + 4) _ (onesL (t.fields.take j)).length _ rfl (((unhide Hoi).alloc _).alloc _) (wr.heap.size + 1) 1 [.int .i64 f.id] rfl rfl ?c1 ?c2 ?c3 ?c4 ?_)
        case c1 => exact range_of_new1 _ _ _ (by simp)
        case c2 => intro u hu; simp at hu; subst hu; rfl
        case c3 => omega
        case c4 => simp; omega
        intro v1 w1 ho1 hg1 hw1
        obtain ⟨s1, hs1⟩ : ∃ s : SV, v1 = .slice s.a s.len s.cap := by obtain ⟨a', c', e'⟩ := owns_slice ho1; exact ⟨⟨a', _, c'⟩, e'⟩
        subst hs1
        have hWa : Ext wr ((wr.alloc (.cells #[.int .i64 f.id, .string f.name, .string f.type, .int .i64 f.kind, .int .i64 f.rule] 46)).alloc (.cells #[.int .i64 f.id] 3)) := ((Ext.refl wr).alloc _).alloc _
        have hoilt := (unhide Hoi).lt
        have hA1 : w1.heap[w.heap.size + 1 + 1 + 1]? = some (.cells #[.int .i64 2, .int .i64 0, .string ⟨#[]⟩, vi, vL] 28 (0, 0)) := by
          have h0 := hWa.heap hA
          rw [hg1.block _ (lt_of_heap h0) (fun e => by have := (hoilt _ e.symm).1; omega)]; exact h0
        have hF1 : w1.heap[wr.heap.size]? = some (.cells #[.int .i64 f.id, .string f.name, .string f.type, .int .i64 f.kind, .int .i64 f.rule] 46 (0, 0)) := by
          have h0 := ((Ext.refl (wr.alloc (.cells #[.int .i64 f.id, .string f.name, .string f.type, .int .i64 f.kind, .int .i64 f.rule] 46))).alloc (.cells #[.int .i64 f.id] 3)).heap (heap_alloc_new wr (.cells #[.int .i64 f.id, .string f.name, .string f.type, .int .i64 f.kind, .int .i64 f.rule] 46))
          rw [hg1.block _ (lt_of_heap h0) (fun e => by have := (hoilt _ e.symm).2; omega)]; exact h0
        have hz1 : wr.heap.size + 2 ≤ w1.heap.size := by have := hg1.size; simp at this; omega
        have hbl1 : Below (w.heap.size + 3) w0 w1 := (((unhide Hbl).alloc (by omega) _).alloc (by simp; omega) _).grown hg1 (by simp; omega) (fun k hk => by have := (hoilt k hk).1; omega)
        have hap : vL.ownBlock = none ∨ vL.ownBlock ≠ vi.ownBlock := by
          obtain ⟨css, hc1, _, _⟩ := unhide Hvr
          exact owns_apart hc1 (unhide Hoi) (by decide)
        have hvr1 := ((unhide Hvr).ext hWa).other (ex' := (Value.ownBlock (.slice s1.a s1.len s1.cap))) hg1 hap (by simpa using hw1)
        obtain ⟨a0, a1, a2, a3, a4, af⟩ := row5 hA1
        have hAz1 := lt_of_heap hA1
        have ho1' : w1.ownsRow (w.heap.size + 4) 3 1 (.slice s1.a s1.len s1.cap) ((onesL (t.fields.take j)).length + 1) (((onesL (t.fields.take j)).map (·.id)).flatMap encI ++ [.int .i64 f.id]) := ho1
        have Ho1 := hide ho1'
        have Hvr1 := hide hvr1
        have Hbl1 := hide hbl1
        clear ho1 ho1' hg1 hw1 hap hvr1 hbl1 Hoi Hvr Hbl hoilt hWa
        go_wp2_with fail
        obtain ⟨W, hW⟩ : ∃ W, W = w1.setCell ⟨w.heap.size + 1 + 1 + 1, 3, none⟩ (.slice s1.a s1.len s1.cap) := ⟨_, rfl⟩
        have hAW : W.heap[w.heap.size + 1 + 1 + 1]? = some (.cells #[.int .i64 2, .int .i64 0, .string ⟨#[]⟩, (.slice s1.a s1.len s1.cap), vL] 28 (0, 0)) := by
          rw [hW]
          have := heap_setCell_same w1 (w.heap.size + 1 + 1 + 1) 3 _ 28 (.slice s1.a s1.len s1.cap) hA1
          simpa using this
        have hFW : W.heap[wr.heap.size]? = some (.cells #[.int .i64 f.id, .string f.name, .string f.type, .int .i64 f.kind, .int .i64 f.rule] 46 (0, 0)) := by rw [hW, heap_setCell_other _ _ _ _ (show wr.heap.size ≠ w.heap.size + 1 + 1 + 1 by omega)]; exact hF1
        have hblW : Below (w.heap.size + 3) w0 W := by rw [hW]; exact (unhide Hbl1).setCell (by show w.heap.size + 3 ≤ w.heap.size + 1 + 1 + 1; omega) _
        have hoW : W.ownsRow (w.heap.size + 4) 3 1 (.slice s1.a s1.len s1.cap) ((onesL (t.fields.take j)).length + 1) (((onesL (t.fields.take j)).map (·.id)).flatMap encI ++ [.int .i64 f.id]) := by rw [hW]; exact ownsRow_setCell_below (unhide Ho1) (by show w.heap.size + 1 + 1 + 1 < w.heap.size + 4; omega) _
        have hvW : VRow (k + 1) W (w.heap.size + 4) (fun b => w.heap.size + 4 ≤ b) (Value.ownBlock (.slice s1.a s1.len s1.cap)) vL ((onesL (t.fields.take j)).map (leastF ts (leastV ts k))) := by rw [hW]; exact (unhide Hvr1).set (fun e => by have h := hvLwr' _ e; simp only at h; omega) (fun b hb => by simp only; omega) _
        have hzW : W.heap.size = w1.heap.size := by rw [hW]; simp
        rw [← hW]
        clear hW Ho1 Hvr1 Hbl1
        have hEW : Ext w W := Below.trans hx0 (hblW.mono (by omega))
        obtain ⟨g0, g1, g2, g3, g4, _⟩ := row5 hFW
        have hS0 : LmS (w.heap.size + 1 + 1 + 1) w.heap.size wr.heap.size sb vL f W := ⟨cell_of_row _ _ 4 _ _ _ hAW, by rw [Below.cell hblW (by show w.heap.size < w.heap.size + 3; omega)]; exact cell_of_row _ _ 0 _ _ _ r0, g0, g1, g2, g3, g4⟩
        have hSd : LmS (w.heap.size + 1 + 1 + 1) w.heap.size wr.heap.size sb vL f W.drew := hS0.ext ((Ext.refl W).drew)
        clear a0 a1 a2 a3 a4 af g0 g1 g2 g3 g4 hA1 hF1 hA bB
        refine wp_region_X (LmS (w.heap.size + 1 + 1 + 1) w.heap.size wr.heap.size sb vL f) (fun j => decide (8 ≤ j)) (by kernel_rfl) ?_
        refine wpAnyX_take (i := 0) (v := .pointer (some ⟨w.heap.size + 1 + 1 + 1, 4, none⟩)) rfl (by kernel_rfl) (by kernel_rfl) (fun _ _ _ h => h) (.inl ⟨rfl, fun w' hS => by simp [execOp, go_sem]⟩) (hSd) ?_
        simp only [Act.put, List.getElem_toArray, List.getElem_cons_zero, List.getElem_cons_succ, List.setIfInBounds_toArray, List.set_cons_succ, List.set_cons_zero]
        refine wpAnyX_take (i := 1) (v := vL) rfl (by kernel_rfl) (by kernel_rfl) (fun _ _ _ h => h) (.inl ⟨rfl, fun w' hS => by simp [execOp, go_sem, hS.1]⟩) (hSd) ?_
        simp only [Act.put, List.getElem_toArray, List.getElem_cons_zero, List.getElem_cons_succ, List.setIfInBounds_toArray, List.set_cons_succ, List.set_cons_zero]
        refine wpAnyX_take (i := 2) (v := .agg #[.slice sb.a sb.len sb.cap]) rfl (by kernel_rfl) (by kernel_rfl) (fun _ _ _ h => h) (.inl ⟨rfl, fun w' hS => by simp [execOp, go_sem, hS.2.1]⟩) (hSd) ?_
        simp only [Act.put, List.getElem_toArray, List.getElem_cons_zero, List.getElem_cons_succ, List.setIfInBounds_toArray, List.set_cons_succ, List.set_cons_zero]
        refine wpAnyX_take (i := 3) (v := .agg #[.int .i64 f.id, .string f.name, .string f.type, .int .i64 f.kind, .int .i64 f.rule]) rfl (by kernel_rfl) (by kernel_rfl) (fun _ _ _ h => h) (.inl ⟨rfl, fun w' hS => by simp [execOp, go_sem, hS.2.2.1, hS.2.2.2.1, hS.2.2.2.2.1, hS.2.2.2.2.2.1, hS.2.2.2.2.2.2]⟩) (hSd) ?_
        simp only [Act.put, List.getElem_toArray, List.getElem_cons_zero, List.getElem_cons_succ, List.setIfInBounds_toArray, List.set_cons_succ, List.set_cons_zero]
        refine wpAnyX_one (j := 4) rfl (by kernel_rfl) rfl fun K hK => ?_
        go_wp2_with fail
        refine (unhide Hone f W.drew ((unhide Hb).ext (hEW.drew)) hlf).mono ?_
        rintro e w3 ⟨xi, xl, rfl, hv3, hx3⟩
        have hx3' : Ext W w3 := ((Ext.refl W).drew).trans hx3
        have hS3 := hSd.ext hx3
        generalize hxd : leastF ts (leastV ts k) f = xv at *
        have Hv3 := hide hv3
        have Hxd := hide hxd
        clear hv3 hxd
        go_wp2
        refine hK.out _ _ (hS3) ?_
        clear hK K
        refine wpAnyX_one (j := 5) rfl (by kernel_rfl) rfl fun K hK => ?_
        go_wp2
        have hx4 : Ext w3 (w3.alloc (.cells #[.int .i64 xv.kind, .int .i64 xv.n, .string xv.s, .slice xi.a xi.len xi.cap, .slice xl.a xl.len xl.cap] 28)) := (Ext.refl w3).alloc _
        refine hK.out _ _ (hS3.ext hx4) ?_
        clear hK K
        have hW4 : Ext W (w3.alloc (.cells #[.int .i64 xv.kind, .int .i64 xv.n, .string xv.s, .slice xi.a xi.len xi.cap, .slice xl.a xl.len xl.cap] 28)) := hx3'.trans hx4
        have hv4 := hvW.ext hW4
        obtain ⟨css, hc1, hc2, hc3⟩ := hv4
        have hcl := hvW
        obtain ⟨css0, hd1, _, _⟩ := hcl
        have hvLlt := hd1.lt
        have hoWlt := hoW.lt
        have hxv4 : ValueAtP (fun b => w.heap.size + 4 ≤ b ∧ vL.ownBlock ≠ some b ∧ (Value.ownBlock (.slice s1.a s1.len s1.cap)) ≠ some b ∧ b < (w3.alloc (.cells #[.int .i64 xv.kind, .int .i64 xv.n, .string xv.s, .slice xi.a xi.len xi.cap, .slice xl.a xl.len xl.cap] 28)).heap.size) (k + 1) (w3.alloc (.cells #[.int .i64 xv.kind, .int .i64 xv.n, .string xv.s, .slice xi.a xi.len xi.cap, .slice xl.a xl.len xl.cap] 28)) [.int .i64 xv.kind, .int .i64 xv.n, .string xv.s, .slice xi.a xi.len xi.cap, .slice xl.a xl.len xl.cap] xv :=
          ((unhide Hv3).ext hx4).sub fun b hb => by
            have h1 : W.heap.size ≤ b := hb.1
            have h2 := hb.2
            refine ⟨by omega, fun e => ?_, fun e => ?_, by simp; omega⟩
            · have := (hvLlt b e).2; omega
            · have := (hoWlt b e).2; omega
        have Hc1 := hide hc1
        have hz3 : W.heap.size ≤ w3.heap.size := hx3'.size
        refine wpAnyX_one (j := 6) rfl (by kernel_rfl) rfl fun K hK => ?_
        refine wpList_app1w _ _ 26 28 (.agg #[.int .i64 0, .int .i64 0, .string ⟨#[]⟩, .slice none 0 0, .slice none 0 0]) 5 80 Tryd.underlying26 info28 rfl (by decide) (by decide) rfl rfl (w.heap.size + 4) _ _ _ rfl (unhide Hc1) w3.heap.size 1 [.int .i64 xv.kind, .int .i64 xv.n, .string xv.s, .slice xi.a xi.len xi.cap, .slice xl.a xl.len xl.cap] rfl rfl ?d1 ?d2 ?d3 ?d4 ?_
        case d1 => exact range_of_new5 _ _ _ _ _ _ _ rfl
        case d2 => exact hxv4.one
        case d3 => rw [List.length_map]; omega
        case d4 => simp; omega
        intro v6 w6 ho6 hg6 hw6
        obtain ⟨s6, hs6⟩ : ∃ s : SV, v6 = .slice s.a s.len s.cap := by obtain ⟨a', c', e'⟩ := owns_slice ho6; exact ⟨⟨a', _, c'⟩, e'⟩
        subst hs6
        have hs6lt : ∀ b, Value.ownBlock (.slice s6.a s6.len s6.cap) = some b → w.heap.size + 4 ≤ b := fun b hb => (ho6.lt b hb).1
        have hv6 := VRow.push hc2 hc3 hxv4 ho6 hg6 hw6
        have hA6 : w6.heap[w.heap.size + 1 + 1 + 1]? = some (.cells #[.int .i64 2, .int .i64 0, .string ⟨#[]⟩, .slice s1.a s1.len s1.cap, vL] 28 (0, 0)) := by
          have h0 := hW4.heap hAW
          rw [hg6.block _ (lt_of_heap h0) (fun e => by have := (hvLlt _ e.symm).1; omega)]; exact h0
        have hzA : w.heap.size + 1 + 1 + 1 < W.heap.size := lt_of_heap hAW
        have hzF : wr.heap.size < W.heap.size := lt_of_heap hFW
        have hS6 : LmS (w.heap.size + 1 + 1 + 1) w.heap.size wr.heap.size sb vL f w6 := (hS3.ext hx4).grown hg6 (fun e => by have := (hvLlt _ e.symm).1; omega) (fun e => by have := (hvLlt _ e.symm).1; omega) (fun e => by have := hvLwr _ e.symm; omega)
        have ho16 := (owns_ext hoW hW4).kept hg6 (owns_apart hoW hd1 (by decide))
        have hbl6 : Below (w.heap.size + 3) w0 w6 := (Below.trans hblW (hW4.mono (by omega))).grown hg6 (by simp; omega) (fun k hk => by have := (hvLlt k hk).1; omega)
        have hz6 := lt_of_heap hA6
        obtain ⟨a0, a1, a2, a3, a4, af⟩ := row5 hA6
        have Hv6 := hide hv6
        have Ho16 := hide ho16
        have Hbl6 := hide hbl6
        clear ho6 hg6 hw6 hc1 hc2 hc3 hd1 hv6 ho16 hbl6 hxv4 hvW hoW hblW
        go_wp2
        refine hK.out _ _ (hS6) ?_
        clear hK K
        refine wpAnyX_one (j := 7) rfl (by kernel_rfl) rfl fun K hK => ?_
        go_wp2
        refine hK.out _ _ (hS6) ?_
        clear hK K
        refine wpAnyX_end [8] [_] rfl (by intro j i hj; match j, hj with | 0, hj => cases hj; rfl) (by kernel_rfl) (by intro i hi; cases hi; rfl) fun K hK => ?_
        go_wp2
        refine hK.out _ _ ?_
        clear hK K
        go_wp2
        refine ⟨⟨j + 1, _, .slice s1.a s1.len s1.cap, .slice s6.a s6.len s6.cap, by omega, by go_num, rfl, ?_, ?_, ?_, ?_⟩, by simp [intOf]; omega⟩
        · have := heap_setCell_same w6 (w.heap.size + 1 + 1 + 1) 4 _ 28 (.slice s6.a s6.len s6.cap) hA6
          simpa using this
        · rw [unhide Hones, List.map_append, List.flatMap_append, List.length_append]
          exact ownsRow_setCell_below (unhide Ho16) (by show w.heap.size + 1 + 1 + 1 < w.heap.size + 4; omega) _
        · rw [unhide Hones, List.map_append]
          have h := (unhide Hv6).set (p := ⟨w.heap.size + 1 + 1 + 1, 4, none⟩) (fun e => by have h := hs6lt _ e; simp only at h; omega) (fun b hb => by simp only; omega) (.slice s6.a s6.len s6.cap)
          rw [← unhide Hxd] at h
          exact h
        · exact (unhide Hbl6).setCell (by show w.heap.size + 3 ≤ w.heap.size + 1 + 1 + 1; omega) _
      · have htk : t.fields.take j = t.fields := List.take_of_length_le (by omega)
        rw [htk] at hoi hvr
        obtain ⟨si, hsi⟩ : ∃ s : SV, vi = .slice s.a s.len s.cap := by obtain ⟨a', c', e'⟩ := owns_slice hoi; exact ⟨⟨a', _, c'⟩, e'⟩
        subst hsi
        obtain ⟨sl, rfl, hsl, hslok, hslb⟩ := hvr.slice
        obtain ⟨si', hsi', hint⟩ := ints_of_owns hoi (by simp)
        have hiok := ok_of_owns hoi
        have hilt := hoi.lt
        simp only [Value.slice.injEq] at hsi'
        obtain rfl : si = si' := by cases si; cases si'; simp_all
        have Hint := hide hint
        have Hsl := hide hsl
        obtain ⟨q0, q1, q2, q3, q4, qf⟩ := row5 r2'
        have hz2 := lt_of_heap r2'
        clear hint hsl hoi hvr
        go_wp2
        refine bodyPost_ret (v := .agg #[.int .i64 2, .int .i64 0, .string ⟨#[]⟩, .slice si.a si.len si.cap, .slice sl.a sl.len sl.cap]) ?_ rfl ?_
        · simp [results, Tryd.results19, go_sem, q0, q1, q2, q3, q4, hz2]
        · have hE : Ext w (((((wr.setCell ⟨w.heap.size + 1 + 1, 0, none⟩ (.int .i64 2)).setCell ⟨w.heap.size + 1 + 1, 1, none⟩ (.int .i64 0)).setCell ⟨w.heap.size + 1 + 1, 2, none⟩ (.string ⟨#[]⟩)).setCell ⟨w.heap.size + 1 + 1, 3, none⟩ (.slice si.a si.len si.cap)).setCell ⟨w.heap.size + 1 + 1, 4, none⟩ (.slice sl.a sl.len sl.cap)) := hEr.setCell5 (by omega) _ _ _ _ _
          rw [unhide Hx]
          refine ⟨si, sl, rfl, ?_, hE⟩
          have h0 : ValueAtP (fun b => w.heap.size + 4 ≤ b ∧ b < wr.heap.size) (k + 2) wr [.int .i64 2, .int .i64 0, .string ⟨#[]⟩, .slice si.a si.len si.cap, .slice sl.a sl.len sl.cap] ⟨2, 0, ⟨#[]⟩, (onesL t.fields).map (·.id), (onesL t.fields).map (leastF ts (leastV ts k))⟩ :=
            ⟨si, sl, rfl, unhide Hint, unhide Hsl, hiok, hslok, fun ad ha => hilt ad.block (by simp [Value.ownBlock, ha]), hslb⟩
          refine (h0.keep fun b ob hb hob => ?_).sub fun b hb => ⟨by have := hb.1; omega, by simpa using hb.2⟩
          have hne : b ≠ w.heap.size + 1 + 1 := by have := hb.1; omega
          rw [heap_setCell_other _ _ _ _ hne, heap_setCell_other _ _ _ _ hne, heap_setCell_other _ _ _ _ hne, heap_setCell_other _ _ _ _ hne, heap_setCell_other _ _ _ _ hne]; exact hob
end Go.Proofs.YtidcagcdaanijaaDoor

namespace Go.Proofs.YtidcagcdaanijaaDoor
set_option linter.unusedSimpArgs false
set_option linter.unusedVariables false
open Go.RowKit

set_option maxHeartbeats 1600000 in
theorem insertI_end (base : Nat) (w : World) (v : Value) (n : Nat) (xs : List Value) (g : Nat) (news : List Value) (ho : w.ownsRow base 3 1 v n xs) (hl : news.length = 1) (hnews : w.rangeAt g 0 news) (h1 : ∀ u ∈ news, u.oneCell' = true) (hn : n < 1048576) (hbase : base ≤ w.heap.size) :
    Calls Tryd.prog 51 #[v, .int .i64 n, .slice (some ⟨g, 0, none⟩) 1 1] w fun e w' => ∃ v', e = .returned v' ∧ w'.ownsRow base 3 1 v' (n + 1) (xs ++ news) ∧ w.grownBy w' v.ownBlock ∧ (v'.ownBlock = v.ownBlock ∨ ∃ g', v'.ownBlock = some g' ∧ w.heap.size ≤ g') := by
  obtain ⟨a, c, rfl⟩ := owns_slice ho
  have hok := ok_of_owns (s := ⟨a, n, c⟩) ho
  have hnc : n ≤ c := hok.1
  have hni : (n : Int) ≤ (n : Int) := Int.le_refl _
  have Ho := hide ho
  have hcc : a = none → c = 0 := hok.2
  clear ho hok
  have hcase : (a = none ∧ c = 0 ∧ n = 0) ∨ (∃ ad, a = some ad ∧ c = n) ∨ (∃ ad, a = some ad ∧ ¬ c = n) := by
    cases a with
    | none => exact .inl ⟨rfl, hcc rfl, by have := hcc rfl; omega⟩
    | some ad => by_cases h : c = n
                 · exact .inr (.inl ⟨ad, rfl, h⟩)
                 · exact .inr (.inr ⟨ad, rfl, h⟩)
  rcases hcase with ⟨rfl, rfl, rfl⟩ | ⟨ad, rfl, rfl⟩ | ⟨ad, rfl, hc⟩
  all_goals
    go_enter Tryd.func51, Tryd.ntmps51
    go_wp2_with (at_builtin; refine wpList_app1w _ _ 25 3 (.int .i64 0) 1 8 Tryd.underlying25 info3 rfl (by decide) (by decide) rfl rfl base _ _ _ rfl (unhide Ho) g 1 news rfl hl hnews h1 hn hbase ?_)
    intro v' w' h2 h3 h4
    have H2 := hide h2
    have H3 := hide h3
    have H4 := hide h4
    obtain ⟨a', c', rfl⟩ := owns_slice h2
    clear h2 h3 h4
    go_wp2
    go_ret
    exact ⟨_, rfl, unhide H2, unhide H3, unhide H4⟩

set_option maxHeartbeats 1600000 in
theorem insertV_end (base : Nat) (w : World) (v : Value) (n : Nat) (xs : List Value) (g : Nat) (news : List Value) (ho : w.ownsRow base 28 5 v n xs) (hl : news.length = 5) (hnews : w.rangeAt g 0 news) (h1 : ∀ u ∈ news, u.oneCell' = true) (hn : n < 1048576) (hbase : base ≤ w.heap.size) :
    Calls Tryd.prog 52 #[v, .int .i64 n, .slice (some ⟨g, 0, none⟩) 1 1] w fun e w' => ∃ v', e = .returned v' ∧ w'.ownsRow base 28 5 v' (n + 1) (xs ++ news) ∧ w.grownBy w' v.ownBlock ∧ (v'.ownBlock = v.ownBlock ∨ ∃ g', v'.ownBlock = some g' ∧ w.heap.size ≤ g') := by
  obtain ⟨a, c, rfl⟩ := owns_slice ho
  have hok := ok_of_owns (s := ⟨a, n, c⟩) ho
  have hnc : n ≤ c := hok.1
  have hni : (n : Int) ≤ (n : Int) := Int.le_refl _
  have Ho := hide ho
  have hcc : a = none → c = 0 := hok.2
  clear ho hok
  have hcase : (a = none ∧ c = 0 ∧ n = 0) ∨ (∃ ad, a = some ad ∧ c = n) ∨ (∃ ad, a = some ad ∧ ¬ c = n) := by
    cases a with
    | none => exact .inl ⟨rfl, hcc rfl, by have := hcc rfl; omega⟩
    | some ad => by_cases h : c = n
                 · exact .inr (.inl ⟨ad, rfl, h⟩)
                 · exact .inr (.inr ⟨ad, rfl, h⟩)
  rcases hcase with ⟨rfl, rfl, rfl⟩ | ⟨ad, rfl, rfl⟩ | ⟨ad, rfl, hc⟩
  all_goals
    go_enter Tryd.func52, Tryd.ntmps52
    go_wp2_with (at_builtin; refine wpList_app1w _ _ 26 28 (.agg #[.int .i64 0, .int .i64 0, .string ⟨#[]⟩, .slice none 0 0, .slice none 0 0]) 5 80 Tryd.underlying26 info28 rfl (by decide) (by decide) rfl rfl base _ _ _ rfl (unhide Ho) g 1 news rfl hl hnews h1 hn hbase ?_)
    intro v' w' h2 h3 h4
    have H2 := hide h2
    have H3 := hide h3
    have H4 := hide h4
    obtain ⟨a', c', rfl⟩ := owns_slice h2
    clear h2 h3 h4
    go_wp2
    go_ret
    exact ⟨_, rfl, unhide H2, unhide H3, unhide H4⟩
end Go.Proofs.YtidcagcdaanijaaDoor

namespace Go.Proofs.YtidcagcdaanijaaDoor
set_option linter.unusedSimpArgs false
set_option linter.unusedVariables false
open Go.RowKit

/-- The value of a part, a message's without what its bytes tell. -/
def bareM (p : PartM) : ValueM := ⟨p.kind, p.n, if p.kind = 1 then p.s else ⟨#[]⟩, [], []⟩
set_option maxHeartbeats 3200000 in
theorem bare_any (p : PartM) (w : World) : Calls Tryd.prog 32 #[.agg #[.int .i64 p.id, .int .i64 p.kind, .int .i64 p.n, .string p.s]] w fun e w' => e = .returned (.agg #[.int .i64 (bareM p).kind, .int .i64 (bareM p).n, .string (bareM p).s, .slice none 0 0, .slice none 0 0]) ∧ Ext w w' := by
  by_cases hk : p.kind = 1
  · have Hb : Hid (bareM p = ⟨p.kind, p.n, p.s, [], []⟩) := by unfold Hid bareM; rw [if_pos hk]
    have hkb : (p.kind == 1) = true := by simp [hk]
    clear hk
    generalize bareM p = bm at *
    go_enter Tryd.func32, Tryd.ntmps32
    go_wp2
    refine bodyPost_ret (v := .agg #[.int .i64 p.kind, .int .i64 p.n, .string p.s, .slice none 0 0, .slice none 0 0]) ?_ rfl ?_
    · simp [results, Tryd.results32, go_sem]
    · rw [unhide Hb]
      exact ⟨rfl, (((Ext.refl w).alloc _).alloc _).alloc _⟩
  · have Hb : Hid (bareM p = ⟨p.kind, p.n, ⟨#[]⟩, [], []⟩) := by unfold Hid bareM; rw [if_neg hk]
    have hkb : (p.kind == 1) = false := by simpa using hk
    clear hk
    generalize bareM p = bm at *
    go_enter Tryd.func32, Tryd.ntmps32
    go_wp2
    refine bodyPost_ret (v := .agg #[.int .i64 p.kind, .int .i64 p.n, .string ⟨#[]⟩, .slice none 0 0, .slice none 0 0]) ?_ rfl ?_
    · simp [results, Tryd.results32, go_sem]
    · rw [unhide Hb]
      exact ⟨rfl, (((Ext.refl w).alloc _).alloc _).alloc _⟩
set_option maxHeartbeats 800000 in
theorem size_any (K : Nat) (v : ValueM) (ids l : SV) (w : World) (hv : ValueAt K w [.int .i64 v.kind, .int .i64 v.n, .string v.s, .slice ids.a ids.len ids.cap, .slice l.a l.len l.cap] v) (hb : cntM K v ≤ 1048576) :
    Calls Tryd.prog 12 #[.agg #[.int .i64 v.kind, .int .i64 v.n, .string v.s, .slice ids.a ids.len ids.cap, .slice l.a l.len l.cap]] w fun e w' => e = .returned (.tuple #[.int .i64 (depM K v), .int .i64 (cntM K v)]) ∧ Ext w w' := by
  have hx0 : Ext w (w.alloc (.cells #[.int .i64 v.kind, .int .i64 v.n, .string v.s, .slice ids.a ids.len ids.cap, .slice l.a l.len l.cap] 28)) := (Ext.refl w).alloc _
  have Hv := hide (hv.ext hx0)
  clear hv
  have hd : depM K v ≤ 1048576 := Nat.le_trans dep_cnt hb
  go_enter Tryd.func12, Tryd.ntmps12
  go_wp2_with fail
  refine (sizeWithin_any K v ids l 2147483647 2147483647 _ (unhide Hv) hb).mono ?_
  rintro e w1 ⟨d, c, rfl, hsz, hx1⟩
  obtain ⟨e1, e2⟩ := hsz.all (by have := hsz.dep; omega) (by have := hsz.cnt; omega)
  subst e1 e2
  clear hsz
  go_wp2
  exact bodyPost_ret (v := .tuple #[.int .i64 (depM K v), .int .i64 (cntM K v)]) (by simp [results, Tryd.results12, go_sem]) rfl ⟨rfl, hx0.trans hx1⟩
end Go.Proofs.YtidcagcdaanijaaDoor

namespace Go.Proofs.YtidcagcdaanijaaDoor
set_option linter.unusedSimpArgs false
set_option linter.unusedVariables false
open Go.RowKit

set_option maxHeartbeats 12800000 in
set_option maxRecDepth 10000 in
theorem sameValue_true : ∀ (k m : Nat) (v : ValueM) (ids l ids' l' : SV) (w : World), SmallV k v → ValueAt k w [.int .i64 v.kind, .int .i64 v.n, .string v.s, .slice ids.a ids.len ids.cap, .slice l.a l.len l.cap] v → ValueAt m w [.int .i64 v.kind, .int .i64 v.n, .string v.s, .slice ids'.a ids'.len ids'.cap, .slice l'.a l'.len l'.cap] v →
    Calls Tryd.prog 10 #[.agg #[.int .i64 v.kind, .int .i64 v.n, .string v.s, .slice ids.a ids.len ids.cap, .slice l.a l.len l.cap], .agg #[.int .i64 v.kind, .int .i64 v.n, .string v.s, .slice ids'.a ids'.len ids'.cap, .slice l'.a l'.len l'.cap]] w fun e w' => e = .returned (.bool true) ∧ Ext w w' := by
  intro k
  induction k with
  | zero => intro _ _ _ _ _ _ _ h; exact h.elim
  | succ k ih =>
    intro m v ids l ids' l' w hsv hv hv'
    obtain ⟨i1, l1, he, hids, hl, _, _⟩ := hv
    simp only [List.cons.injEq, Value.slice.injEq, and_true, true_and] at he
    obtain ⟨⟨e1, e2, e3⟩, e4, e5, e6⟩ := he
    obtain rfl : l = l1 := by cases l; cases l1; simp_all
    obtain rfl : ids = i1 := by cases ids; cases i1; simp_all
    clear e1 e2 e3 e4 e5 e6
    obtain ⟨i1, l1, he, hids', hl', _, _⟩ := hv'.opens
    simp only [List.cons.injEq, Value.slice.injEq, and_true, true_and] at he
    obtain ⟨⟨e1, e2, e3⟩, e4, e5, e6⟩ := he
    obtain rfl : l' = l1 := by cases l'; cases l1; simp_all
    obtain rfl : ids' = i1 := by cases ids'; cases i1; simp_all
    clear e1 e2 e3 e4 e5 e6 hv'
    obtain ⟨_, hin, hln, hall⟩ := hsv
    obtain ⟨ia, il, ic⟩ := ids
    obtain ⟨la, ll, lc⟩ := l
    obtain ⟨ja, jl, jc⟩ := ids'
    obtain ⟨ma, ml, mc⟩ := l'
    have a1 := hids.1
    have a2 := hl.1
    have a3 := hids'.1
    have a4 := hl'.1
    simp only at a1 a2 a3 a4
    subst a1 a2 a3 a4
    obtain ⟨vk, vn, vs, vids, vl⟩ := v
    simp only at hids hl hids' hl' hin hln hall
    show Calls Tryd.prog 10 #[.agg #[.int .i64 vk, .int .i64 vn, .string vs, .slice ia vids.length ic, .slice la vl.length lc], .agg #[.int .i64 vk, .int .i64 vn, .string vs, .slice ja vids.length jc, .slice ma vl.length mc]] w _
    have Hids := hide hids
    have Hl := hide hl
    have Hids' := hide hids'
    have Hl' := hide hl'
    have Hall := hide hall
    obtain ⟨w0, hw0⟩ : ∃ w0, w0 = (w.alloc (.cells #[.int .i64 vk, .int .i64 vn, .string vs, .slice ia vids.length ic, .slice la vl.length lc] 28)).alloc (.cells #[.int .i64 vk, .int .i64 vn, .string vs, .slice ja vids.length jc, .slice ma vl.length mc] 28) := ⟨_, rfl⟩
    obtain ⟨hx0, hz, r0, r1⟩ := heaps2 hw0
    have HW0 := hide hw0
    clear hw0 hids hl hids' hl' hall
    obtain ⟨p0, p1, p2, p3, p4, _⟩ := row5 r0
    obtain ⟨q0, q1, q2, q3, q4, _⟩ := row5 r1
    have hii : vids.length ≤ 9223372036854775807 := by omega
    have hli : vl.length ≤ 9223372036854775807 := by omega
    go_enter Tryd.func10, Tryd.ntmps10
    go_wp2
    rw [← unhide HW0]
    go_loopw [47] (fun i wr => ∃ j : Nat, j ≤ vids.length ∧ i = .int .i64 j ∧ Ext w0 wr) (fun i _ => vids.length - (intOf i).toNat)
    case atStart => exact ⟨0, by omega, rfl, Ext.refl _⟩
    case round =>
      obtain ⟨j, hj, rfl, hxr⟩ := hrel
      have hEr := hx0.trans hxr
      have c3 := hxr.cell p3
      have d3 := hxr.cell q3
      by_cases hlt : j < vids.length
      · obtain ⟨ib, io, cs, hia, hr, rfl⟩ := (unhide Hids).2 j vids[j] (by simp [hlt])
        obtain ⟨jb, jo, cs2, hja, hr2, rfl⟩ := (unhide Hids').2 j vids[j] (by simp [hlt])
        simp only at hia hja
        subst hia hja
        have ci := hEr.cell (hr 0 _ rfl)
        have di := hEr.cell (hr2 0 _ rfl)
        rw [Nat.mul_one, Nat.add_zero] at ci di
        generalize vids[j] = id at *
        clear hr hr2
        go_wp2_with fail
        go_quiet (fail)
        go_wp2
        exact ⟨⟨j + 1, by omega, by go_num, hxr.drewN _⟩, by simp [intOf]; omega⟩
      · have c4 := hxr.cell p4
        clear c3 d3
        go_wp2
        go_loopw [65] (fun i wr => ∃ j : Nat, j ≤ vl.length ∧ i = .int .i64 j ∧ Ext w0 wr) (fun i _ => vl.length - (intOf i).toNat)
        case atStart => exact ⟨0, by omega, rfl, hxr⟩
        case round =>
          clear hxr hEr c4
          obtain ⟨j, hj, rfl, hxr⟩ := hrel
          have hEr := hx0.trans hxr
          have c4 := hxr.cell p4
          have d4 := hxr.cell q4
          by_cases hlt : j < vl.length
          · obtain ⟨xb, xo, cs, hla, hr, hxv⟩ := (unhide Hl).2 j vl[j] (by simp [hlt])
            obtain ⟨yb, yo, cs2, hma, hr2, hyv⟩ := (unhide Hl').2 j vl[j] (by simp [hlt])
            simp only at hla hma
            subst hla hma
            obtain ⟨xi, xl, rfl, _, _, _, _⟩ := hxv.opens
            obtain ⟨yi, yl, rfl, _, _, _, _⟩ := hyv.opens
            obtain ⟨x0, x1, x2, x3, x4⟩ := range5 (hEr.range hr)
            obtain ⟨y0, y1, y2, y3, y4⟩ := range5 (hEr.range hr2)
            have hsx := unhide Hall vl[j] (List.getElem_mem hlt)
            have Hxv := hide (hxv.ext hEr)
            have Hyv := hide (hyv.ext hEr)
            have hji : (j : Int) < (vl.length : Int) := by omega
            generalize vl[j] = x at *
            clear hr hr2 hxv hyv
            have hS0 : Ext wr wr.drew := (Ext.refl wr).drew
            go_wp2_with fail
            refine wp_region_X (fun w' => Ext wr w') (fun _ => false) (by kernel_rfl) ?_
            refine wpAnyX_take (i := 0) (v := .pointer (some ⟨w.heap.size, 4, none⟩)) rfl (by kernel_rfl) (by kernel_rfl) (fun _ _ _ h => h) (.inl ⟨rfl, fun w' hS => by simp [execOp, go_sem]⟩) (hS0) ?_
            simp only [Act.put, List.getElem_toArray, List.getElem_cons_zero, List.getElem_cons_succ, List.setIfInBounds_toArray, List.set_cons_succ, List.set_cons_zero]
            refine wpAnyX_take (i := 1) (v := .slice (some ⟨xb, xo, none⟩) vl.length lc) rfl (by kernel_rfl) (by kernel_rfl) (fun _ _ _ h => h) (.inl ⟨rfl, fun w' hS => by simp [execOp, go_sem, hS.cell c4]⟩) (hS0) ?_
            simp only [Act.put, List.getElem_toArray, List.getElem_cons_zero, List.getElem_cons_succ, List.setIfInBounds_toArray, List.set_cons_succ, List.set_cons_zero]
            refine wpAnyX_take (i := 2) (v := .int .i64 j) rfl (by kernel_rfl) (by kernel_rfl) (fun _ _ _ h => h) (.inl ⟨rfl, fun w' hS => by simp [execOp, go_sem]⟩) (hS0) ?_
            simp only [Act.put, List.getElem_toArray, List.getElem_cons_zero, List.getElem_cons_succ, List.setIfInBounds_toArray, List.set_cons_succ, List.set_cons_zero]
            refine wpAnyX_take (i := 3) (v := .pointer (some ⟨xb, xo + j * 5, none⟩)) rfl (by kernel_rfl) (by kernel_rfl) (fun _ _ _ h => h) (.inl ⟨rfl, fun w' hS => by simp [execOp, go_sem, hji, hlt]⟩) (hS0) ?_
            simp only [Act.put, List.getElem_toArray, List.getElem_cons_zero, List.getElem_cons_succ, List.setIfInBounds_toArray, List.set_cons_succ, List.set_cons_zero]
            refine wpAnyX_take (i := 4) (v := .agg #[.int .i64 x.kind, .int .i64 x.n, .string x.s, .slice xi.a xi.len xi.cap, .slice xl.a xl.len xl.cap]) rfl (by kernel_rfl) (by kernel_rfl) (fun _ _ _ h => h) (.inl ⟨rfl, fun w' hS => by simp [execOp, go_sem, hS.cell x0, hS.cell x1, hS.cell x2, hS.cell x3, hS.cell x4]⟩) (hS0) ?_
            simp only [Act.put, List.getElem_toArray, List.getElem_cons_zero, List.getElem_cons_succ, List.setIfInBounds_toArray, List.set_cons_succ, List.set_cons_zero]
            refine wpAnyX_take (i := 5) (v := .pointer (some ⟨w.heap.size + 1, 4, none⟩)) rfl (by kernel_rfl) (by kernel_rfl) (fun _ _ _ h => h) (.inl ⟨rfl, fun w' hS => by simp [execOp, go_sem]⟩) (hS0) ?_
            simp only [Act.put, List.getElem_toArray, List.getElem_cons_zero, List.getElem_cons_succ, List.setIfInBounds_toArray, List.set_cons_succ, List.set_cons_zero]
            refine wpAnyX_take (i := 6) (v := .slice (some ⟨yb, yo, none⟩) vl.length mc) rfl (by kernel_rfl) (by kernel_rfl) (fun _ _ _ h => h) (.inl ⟨rfl, fun w' hS => by simp [execOp, go_sem, hS.cell d4]⟩) (hS0) ?_
            simp only [Act.put, List.getElem_toArray, List.getElem_cons_zero, List.getElem_cons_succ, List.setIfInBounds_toArray, List.set_cons_succ, List.set_cons_zero]
            refine wpAnyX_take (i := 7) (v := .int .i64 j) rfl (by kernel_rfl) (by kernel_rfl) (fun _ _ _ h => h) (.inl ⟨rfl, fun w' hS => by simp [execOp, go_sem]⟩) (hS0) ?_
            simp only [Act.put, List.getElem_toArray, List.getElem_cons_zero, List.getElem_cons_succ, List.setIfInBounds_toArray, List.set_cons_succ, List.set_cons_zero]
            refine wpAnyX_take (i := 8) (v := .pointer (some ⟨yb, yo + j * 5, none⟩)) rfl (by kernel_rfl) (by kernel_rfl) (fun _ _ _ h => h) (.inl ⟨rfl, fun w' hS => by simp [execOp, go_sem, hji, hlt]⟩) (hS0) ?_
            simp only [Act.put, List.getElem_toArray, List.getElem_cons_zero, List.getElem_cons_succ, List.setIfInBounds_toArray, List.set_cons_succ, List.set_cons_zero]
            refine wpAnyX_take (i := 9) (v := .agg #[.int .i64 x.kind, .int .i64 x.n, .string x.s, .slice yi.a yi.len yi.cap, .slice yl.a yl.len yl.cap]) rfl (by kernel_rfl) (by kernel_rfl) (fun _ _ _ h => h) (.inl ⟨rfl, fun w' hS => by simp [execOp, go_sem, hS.cell y0, hS.cell y1, hS.cell y2, hS.cell y3, hS.cell y4]⟩) (hS0) ?_
            simp only [Act.put, List.getElem_toArray, List.getElem_cons_zero, List.getElem_cons_succ, List.setIfInBounds_toArray, List.set_cons_succ, List.set_cons_zero]
            refine wpAnyX_one (j := 10) rfl (by kernel_rfl) rfl fun K hK => ?_
            go_wp2_with fail
            refine (ih m x xi xl yi yl _ hsx ((unhide Hxv).ext hS0) ((unhide Hyv).ext hS0)).mono ?_
            rintro e w2 ⟨rfl, hx2⟩
            have hS2 : Ext wr w2 := hS0.trans hx2
            go_wp2
            refine hK.out _ _ (hS2) ?_
            clear hK K
            refine wpAnyX_one (j := 11) rfl (by kernel_rfl) rfl fun K hK => ?_
            go_wp2
            refine hK.out _ _ (hS2) ?_
            clear hK K
            refine wpAnyX_end [] [] rfl (by intro j i hj; simp at hj) (by kernel_rfl) (by intro i hi; simp at hi) fun K hK => ?_
            go_wp2
            refine hK.out _ _ ?_
            clear hK K
            go_wp2
            exact ⟨⟨j + 1, by omega, by go_num, hxr.trans hS2⟩, by simp [intOf]; omega⟩
          · go_wp2
            go_ret
            exact ⟨rfl, hEr⟩
end Go.Proofs.YtidcagcdaanijaaDoor

namespace Go.Proofs.YtidcagcdaanijaaDoor
set_option linter.unusedSimpArgs false
set_option linter.unusedVariables false
open Go.RowKit

theorem leastFold_zero (g : FieldM → Int) (hg : ∀ f, 0 ≤ g f) : ∀ (l : List FieldM) (acc : Int), leastFold g l acc ≠ 0 → ∀ f ∈ l, f.rule = 1 → g f ≠ 0
  | [], _, _, f, hf, _ => by cases hf
  | x :: r, acc, h, f, hf, hr => by
    rw [leastFold] at h
    by_cases hx : (x.rule == 1) = false
    · rw [if_pos hx] at h
      rcases List.mem_cons.1 hf with rfl | hf
      · rw [hr] at hx; cases hx
      · exact leastFold_zero g hg r acc h f hf hr
    · rw [if_neg hx] at h
      by_cases hz : g x = 0
      · rw [if_pos hz] at h; exact absurd rfl h
      · rw [if_neg hz] at h
        rcases List.mem_cons.1 hf with rfl | hf
        · exact hz
        · exact leastFold_zero g hg r _ h f hf hr
/-- What a good book's field names is there. -/
theorem good_type {ts : BookM} {f : FieldM} (hg : goodFieldM ts f = true) (hk : f.kind = 4 ∨ f.kind = 5) : ∃ u, findM ts f.type = some u ∧ u.enum = (f.kind == 4) := by
  unfold goodFieldM at hg
  split at hg
  · cases hg
  · rw [if_neg (show ¬ (f.kind = 1 ∨ f.kind = 2 ∨ f.kind = 3) by omega)] at hg
    cases hf : findM ts f.type with
    | none => rw [hf] at hg; cases hg
    | some u =>
      rw [hf] at hg
      exact ⟨u, rfl, by simpa using hg⟩
theorem leOk_of {ts : BookM} (hgood : goodM ts = 0) : ∀ (n : Nat) (name : ByteArray) (t : TypeM), findM ts name = some t → leastM ts n name ≠ 0 → LeOk ts n t
  | 0, _, _, _, h => absurd rfl h
  | n + 1, name, t, hf, h => by
    obtain ⟨_, hall⟩ := goodM_out hgood
    unfold leastM at h
    rw [hf] at h
    simp only at h
    split at h
    · exact absurd rfl h
    · rename_i hno
      have hen : t.enum = false := by cases he : t.enum <;> simp_all
      have hmsg := (hall t (findM_mem hf)).msg hen
      refine ⟨by omega, fun f hfm hr => ⟨fun h4 => ?_, fun h5 => ?_⟩⟩
      · obtain ⟨u, hu, hue⟩ := good_type (hmsg.2.2.1 f hfm) (.inl h4)
        rw [hu]
        have : u.enum = true := by rw [hue, h4]; rfl
        exact ((hall u (findM_mem hu)).enum this).2.2.1
      · obtain ⟨u, hu, _⟩ := good_type (hmsg.2.2.1 f hfm) (.inr h5)
        rw [hu]
        have hnz := leastFold_zero (fun f => if f.kind = 5 then leastM ts n f.type else 1) (fun f => by show 0 ≤ (if f.kind = 5 then leastM ts n f.type else 1); split; exact (leastM_bd ts n f.type).1; omega) t.fields 1 h f hfm hr
        simp only [h5, if_true] at hnz
        exact leOk_of hgood n f.type u hu hnz
/-- The message of a good book: its least can be made. -/
theorem msg_le {ts : BookM} {name : ByteArray} (h : msgE ts name = 0) : LeOk ts 4 (msgT ts name) := by
  obtain ⟨hg, hf, he⟩ := msg_good h
  have := goodM_least hg _ (findM_mem hf) he
  rw [find_name hf] at this
  exact leOk_of hg 4 name _ hf (by omega)
theorem leOk_type {ts : BookM} {name : ByteArray} {t : TypeM} (hg : goodM ts = 0) (hf : findM ts name = some t) (he : t.enum = false) : LeOk ts 4 t := by
  have := goodM_least hg _ (findM_mem hf) he
  rw [find_name hf] at this
  exact leOk_of hg 4 name _ hf (by omega)
end Go.Proofs.YtidcagcdaanijaaDoor

namespace Go.Proofs.YtidcagcdaanijaaDoor
set_option linter.unusedSimpArgs false
set_option linter.unusedVariables false
open Go.RowKit

/-- What Least answers. -/
def leastA (ts : BookM) (name : ByteArray) : ValueM := if msgE ts name = 0 then leastV ts 4 (msgT ts name) else ValueM.zero
theorem zeroAt (S : Nat → Prop) (k : Nat) (w : World) : ValueAtP S (k + 1) w [.int .i64 0, .int .i64 0, .string ⟨#[]⟩, .slice none 0 0, .slice none 0 0] ValueM.zero := leafAt S k w 0 0
theorem ValueAtP.set5 {S : Nat → Prop} {k : Nat} {w : World} {cs : List Value} {v : ValueM} (h : ValueAtP S k w cs v) {g : Nat} (hg : ∀ b, S b → b ≠ g) (u0 u1 u2 u3 u4 : Value) :
    ValueAtP S k (((((w.setCell ⟨g, 0, none⟩ u0).setCell ⟨g, 1, none⟩ u1).setCell ⟨g, 2, none⟩ u2).setCell ⟨g, 3, none⟩ u3).setCell ⟨g, 4, none⟩ u4) cs v :=
  h.keep fun b ob hb hob => by
    have hne := hg b hb
    rw [heap_setCell_other _ _ _ _ hne, heap_setCell_other _ _ _ _ hne, heap_setCell_other _ _ _ _ hne, heap_setCell_other _ _ _ _ hne, heap_setCell_other _ _ _ _ hne]; exact hob

set_option maxHeartbeats 3200000 in
theorem least_value (sb : SV) (ts : BookM) (name : ByteArray) (w : World) (hb : BookAt w sb ts) (hw : WordsAt w) (hn : ts.Fits) :
    Calls Tryd.prog 11 #[.agg #[.slice sb.a sb.len sb.cap], .string name] w fun e w' => ∃ ids l : SV, e = .returned (.tuple #[.agg #[.int .i64 (leastA ts name).kind, .int .i64 (leastA ts name).n, .string (leastA ts name).s, .slice ids.a ids.len ids.cap, .slice l.a l.len l.cap], .int .i64 (msgE ts name)]) ∧ ValueAtP (Btw w w') 5 w' [.int .i64 (leastA ts name).kind, .int .i64 (leastA ts name).n, .string (leastA ts name).s, .slice ids.a ids.len ids.cap, .slice l.a l.len l.cap] (leastA ts name) ∧ Ext w w' := by
  obtain ⟨w0, hw0⟩ : ∃ w0, w0 = (w.alloc (.cells #[.slice sb.a sb.len sb.cap] 24)).alloc (.cells #[.int .i64 0, .int .i64 0, .string ⟨#[]⟩, .slice none 0 0, .slice none 0 0] 28) := ⟨_, rfl⟩
  obtain ⟨hx0, hz, r0, r1⟩ := heaps2 hw0
  have HW0 := hide hw0
  clear hw0
  have Hb := hide (hb.ext hx0)
  have Hw := hide (hw.ext hx0)
  have b0 : w0.cell? ⟨w.heap.size, 0, none⟩ = some (.slice sb.a sb.len sb.cap) := cell_of_row _ _ 0 _ _ _ r0
  have E1 : Hid (msgE ts name = 0 → leastA ts name = leastV ts 4 (msgT ts name)) := fun h => if_pos h
  have E2 : Hid (¬ msgE ts name = 0 → leastA ts name = ValueM.zero) := fun h => if_neg h
  have HS := hide (@msg_small ts name)
  have HL := hide (@msg_le ts name)
  generalize leastA ts name = x at *
  generalize hme : msgE ts name = m at *
  generalize hmt : msgT ts name = T at *
  have Hme := hide hme
  have Hmt := hide hmt
  clear hb hw hme hmt
  have HSm : Hid (m = 0 → ts.Small) := fun h => (unhide HS h).1
  clear HS
  go_enter Tryd.func11, Tryd.ntmps11
  go_wp2_with fail
  rw [← unhide HW0]
  refine (messageOf_any sb ts name w0 (unhide Hb) (unhide Hw) hn).mono ?_
  rw [unhide Hme, unhide Hmt]
  rintro e w1 ⟨tv, rfl, htv, hx1, _⟩
  have z0 := lt_of_heap (hx1.heap r0)
  have hE1 := hx0.trans hx1
  have R1 := hx1.heap r1
  obtain ⟨c0, c1, c2, c3, c4, _⟩ := row5 R1
  have z1 := lt_of_heap R1
  have d0 := hx1.cell b0
  have Htv := hide htv
  clear htv
  by_cases hm : m = 0
  case neg =>
    have Hx := hide (unhide E2 hm)
    have hmb : (m != 0) = true := by simpa using hm
    clear E1 E2 HSm HL
    go_wp2
    refine bodyPost_ret (v := .tuple #[.agg #[.int .i64 0, .int .i64 0, .string ⟨#[]⟩, .slice none 0 0, .slice none 0 0], .int .i64 m]) ?_ rfl ?_
    · simp [results, Tryd.results11, go_sem, c0, c1, c2, c3, c4, z1]
    · rw [unhide Hx]
      exact ⟨⟨none, 0, 0⟩, ⟨none, 0, 0⟩, rfl, zeroAt _ _ _, (hE1.setCell5 (by omega) _ _ _ _ _).alloc _⟩
  have Hx := hide (unhide E1 hm)
  have hsm := unhide HSm hm
  have hle := unhide HL hm
  have hmb : (m != 0) = false := by simp [hm]
  have Hm := hide hm
  clear E1 E2 HSm HL hm
  have hx2 : Ext w1 (w1.alloc (.cells #[.string tv.name, .bool tv.enum, .slice tv.fields.a tv.fields.len tv.fields.cap, .slice tv.gone.a tv.gone.len tv.gone.cap, .slice tv.items.a tv.items.len tv.items.cap] 50)) := (Ext.refl w1).alloc _
  go_wp2_with fail
  refine (leastMessage_any sb ts hsm 4 tv T _ ((unhide Hb).ext (hx1.trans hx2)) ((unhide Htv).ext hx2) hle).mono ?_
  rintro e w3 ⟨ids, l, rfl, hv3, hx3⟩
  rw [← unhide Hx] at hv3 ⊢
  have h13 := hx2.trans hx3
  have R3 := h13.heap R1
  clear c0 c1 c2 c3 c4
  obtain ⟨c0, c1, c2, c3, c4, _⟩ := row5 R3
  have z3 := lt_of_heap R3
  have Hv3 := hide hv3
  clear hv3
  go_wp2
  refine bodyPost_ret (v := .tuple #[.agg #[.int .i64 x.kind, .int .i64 x.n, .string x.s, .slice ids.a ids.len ids.cap, .slice l.a l.len l.cap], .int .i64 0]) ?_ rfl ⟨ids, l, by rw [unhide Hm], ?_, (hE1.trans h13).setCell5 (by omega) _ _ _ _ _⟩
  · simp [results, Tryd.results11, go_sem, c0, c1, c2, c3, c4, z3]
  · refine ((unhide Hv3).set5 (g := w.heap.size + 1) (fun b hb => ?_) _ _ _ _ _).sub fun b hb => ⟨?_, by simpa using hb.2⟩
    · have h1 := hb.1
      simp at h1
      omega
    · have h1 := hb.1
      simp at h1
      have := hE1.size
      omega
end Go.Proofs.YtidcagcdaanijaaDoor

