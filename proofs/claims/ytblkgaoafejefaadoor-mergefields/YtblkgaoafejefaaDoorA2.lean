import Derived.Test.YtblkgaoafejefaaDoorA1
import Derived.Laws.IdiomCopy
namespace Go.Proofs.YtblkgaoafejefaaDoor
set_option linter.unusedSimpArgs false
set_option linter.unusedVariables false
open Go.RowKit

theorem row6 {w : World} {g : Nat} {t : TypeId} {c0 c1 c2 c3 c4 c5 : Value} (hb : w.heap[g]? = some (.cells #[c0, c1, c2, c3, c4, c5] t (0, 0))) :
    w.cell? ⟨g, 0, none⟩ = some c0 ∧ w.cell? ⟨g, 1, none⟩ = some c1 ∧ w.cell? ⟨g, 2, none⟩ = some c2 ∧ w.cell? ⟨g, 3, none⟩ = some c3 ∧ w.cell? ⟨g, 4, none⟩ = some c4 ∧ w.cell? ⟨g, 5, none⟩ = some c5 ∧ ∀ j, w.frozen? ⟨g, j, none⟩ = false :=
  ⟨cell_of_row w g 0 _ t _ hb, cell_of_row w g 1 _ t _ hb, cell_of_row w g 2 _ t _ hb, cell_of_row w g 3 _ t _ hb, cell_of_row w g 4 _ t _ hb, cell_of_row w g 5 _ t _ hb, fun j => frozen_of_row w g j _ t hb⟩
theorem row3 {w : World} {g : Nat} {t : TypeId} {c0 c1 c2 : Value} (hb : w.heap[g]? = some (.cells #[c0, c1, c2] t (0, 0))) :
    w.cell? ⟨g, 0, none⟩ = some c0 ∧ w.cell? ⟨g, 1, none⟩ = some c1 ∧ w.cell? ⟨g, 2, none⟩ = some c2 ∧ ∀ j, w.frozen? ⟨g, j, none⟩ = false :=
  ⟨cell_of_row w g 0 _ t _ hb, cell_of_row w g 1 _ t _ hb, cell_of_row w g 2 _ t _ hb, fun j => frozen_of_row w g j _ t hb⟩
theorem set6 {w : World} {g : Nat} {t : TypeId} {c0 c1 c2 c3 c4 c5 : Value} (hb : w.heap[g]? = some (.cells #[c0, c1, c2, c3, c4, c5] t (0, 0))) (d0 d1 d2 d3 d4 d5 : Value) :
    ∃ W, W = (((((w.setCell ⟨g, 0, none⟩ d0).setCell ⟨g, 1, none⟩ d1).setCell ⟨g, 2, none⟩ d2).setCell ⟨g, 3, none⟩ d3).setCell ⟨g, 4, none⟩ d4).setCell ⟨g, 5, none⟩ d5 ∧
      W.cell? ⟨g, 0, none⟩ = some d0 ∧ W.cell? ⟨g, 1, none⟩ = some d1 ∧ W.cell? ⟨g, 2, none⟩ = some d2 ∧ W.cell? ⟨g, 3, none⟩ = some d3 ∧ W.cell? ⟨g, 4, none⟩ = some d4 ∧ W.cell? ⟨g, 5, none⟩ = some d5 ∧ (∀ w0, Ext w0 w → w0.heap.size ≤ g → Ext w0 W) := by
  obtain ⟨q0, q1, q2, q3, q4, q5, _⟩ := row6 hb
  have h := World.cell?_setCells_in g [d0, d1, d2, d3, d4, d5] 0 w (fun j hj => by
    have : j = 0 ∨ j = 1 ∨ j = 2 ∨ j = 3 ∨ j = 4 ∨ j = 5 := by simp at hj; omega
    rcases this with rfl | rfl | rfl | rfl | rfl | rfl <;> simp [q0, q1, q2, q3, q4, q5])
  refine ⟨_, rfl, h 0 (by simp), h 1 (by simp), h 2 (by simp), h 3 (by simp), h 4 (by simp), h 5 (by simp), fun w0 hx hg => ?_⟩
  exact (((((hx.setCell hg _).setCell hg _).setCell hg _).setCell hg _).setCell hg _).setCell hg _
set_option maxHeartbeats 12800000 in
theorem fieldIn_any (tv : TV) (t : TypeM) (id : Int) (w : World) (ht : TypeAt w tv t) (hn : t.fields.length ≤ 9223372036854775807) :
    Calls Tryd.prog 43 #[.agg #[.string tv.name, .bool tv.enum, .slice tv.fields.a tv.fields.len tv.fields.cap, .slice tv.gone.a tv.gone.len tv.gone.cap, .slice tv.items.a tv.items.len tv.items.cap], .int .i64 id] w fun e w' => e = .returned (.agg #[.bool (thF (fieldM t id)).1, .int .i64 (thF (fieldM t id)).2.id, .string (thF (fieldM t id)).2.name, .string (thF (fieldM t id)).2.type, .int .i64 (thF (fieldM t id)).2.kind, .int .i64 (thF (fieldM t id)).2.rule]) ∧ Ext w w' := by
  have hcall := fun w' (hx : Ext w w') => fieldOf_any tv t id w' (ht.ext hx) hn
  obtain ⟨nm, en, ⟨fa, fl, fc⟩, ⟨ga, gl, gc⟩, ⟨ia, il, ic⟩⟩ := tv
  show Calls Tryd.prog 43 #[.agg #[.string nm, .bool en, .slice fa fl fc, .slice ga gl gc, .slice ia il ic], .int .i64 id] w _
  clear ht
  have hx : ∀ o1 o2 : Obj, Ext w ((w.alloc o1).alloc o2) := fun _ _ => ((Ext.refl w).alloc _).alloc _
  unfold thF
  generalize fieldM t id = o at *
  obtain ⟨g, hg⟩ : ∃ g, g = o.getD FieldM.zero := ⟨_, rfl⟩
  obtain ⟨b, hb⟩ : ∃ b, b = o.isSome := ⟨_, rfl⟩
  simp only [← hg, ← hb] at hcall ⊢
  clear hg hb
  obtain ⟨i, n, ty, kd, ru⟩ := g
  simp only at hcall ⊢
  obtain ⟨W, hW⟩ : ∃ W, W = (w.alloc (.cells #[.string nm, .bool en, .slice fa fl fc, .slice ga gl gc, .slice ia il ic] 46)).alloc (.cells #[.bool false, .int .i64 0, .string ⟨#[]⟩, .string ⟨#[]⟩, .int .i64 0, .int .i64 0] 85) := ⟨_, rfl⟩
  have rW : W.heap[w.heap.size + 1]? = some (.cells #[.bool false, .int .i64 0, .string ⟨#[]⟩, .string ⟨#[]⟩, .int .i64 0, .int .i64 0] 85 (0, 0)) := by rw [hW]; exact heap_alloc2_new _ _ _
  have hxW : Ext w W := by rw [hW]; exact hx _ _
  have HW := hide hW
  clear hW
  go_enter Tryd.func43, Tryd.ntmps43
  go_wp2_with fail
  rw [← unhide HW]
  refine (hcall W hxW).mono ?_
  rintro e w1 ⟨rfl, hx1⟩
  have r1 := hx1.heap rW
  obtain ⟨q0, q1, q2, q3, q4, q5, qf⟩ := row6 r1
  have hz := lt_of_heap r1
  have hx2 := hxW.trans hx1
  obtain ⟨W6, hW6, k0, k1, k2, k3, k4, k5, hx6⟩ := set6 r1 (.bool b) (.int .i64 i) (.string n) (.string ty) (.int .i64 kd) (.int .i64 ru)
  have hx7 := hx6 w hx2 (Nat.le_succ _)
  have hz6 : w.heap.size + 1 < W6.heap.size := World.block_lt_of_cell? _ _ k0
  have HW6 := hide hW6
  clear hcall rW HW r1 hx6 hW6
  go_wp2
  rw [← unhide HW6]
  clear HW6
  have e := (Ext.refl W6).alloc (.cells #[.int .i64 i, .string n, .string ty, .int .i64 kd, .int .i64 ru] 36)
  have k0 := e.cell k0
  have k1 := e.cell k1
  have k2 := e.cell k2
  have k3 := e.cell k3
  have k4 := e.cell k4
  have k5 := e.cell k5
  have hx8 := hx7.trans e
  generalize W6.alloc (.cells #[.int .i64 i, .string n, .string ty, .int .i64 kd, .int .i64 ru] 36) = W7 at *
  clear e hx7 q0 q1 q2 q3 q4 q5 qf
  exact bodyPost_ret (v := .agg #[.bool b, .int .i64 i, .string n, .string ty, .int .i64 kd, .int .i64 ru]) (by simp [results, Tryd.results43, go_sem, k0, k1, k2, k3, k4, k5]) rfl ⟨rfl, hx8⟩
set_option maxHeartbeats 1600000 in
theorem typeIn_any (tv : TV) (t : TypeM) (w : World) (ht : TypeAt w tv t) :
    Calls Tryd.prog 25 #[.agg #[.string tv.name, .bool tv.enum, .slice tv.fields.a tv.fields.len tv.fields.cap, .slice tv.gone.a tv.gone.len tv.gone.cap, .slice tv.items.a tv.items.len tv.items.cap]] w fun e w' => e = .returned (.agg #[.bool (typeIn t).1, .bool (typeIn t).2]) ∧ Ext w w' := by
  have e1 := ht.name
  have e2 := ht.enum
  obtain ⟨nm, en, ⟨fa, fl, fc⟩, ⟨ga, gl, gc⟩, ⟨ia, il, ic⟩⟩ := tv
  simp only at e1 e2
  obtain ⟨r1, hr1⟩ : ∃ r, r = (typeIn t).1 := ⟨_, rfl⟩
  have h1 : (!nm.toList.isEmpty) = r1 := by rw [hr1, e1]; unfold typeIn; cases t.name.toList <;> rfl
  have h2 : en = (typeIn t).2 := e2
  rw [← hr1, ← h2]
  have H1 := hide h1
  clear e1 e2 h1 h2 hr1 ht
  have hx : ∀ o1 o2 : Obj, Ext w ((w.alloc o1).alloc o2) := fun _ _ => ((Ext.refl w).alloc _).alloc _
  go_enter Tryd.func25, Tryd.ntmps25
  go_wp2
  exact bodyPost_ret (v := .agg #[.bool (!nm.toList.isEmpty), .bool en]) (by simp [results, Tryd.results25, go_sem]) rfl ⟨by rw [unhide H1], hx _ _⟩
set_option maxHeartbeats 1600000 in
theorem misplaced_any (there enum : Bool) (tv : TV) (w : World) (h1 : tv.fields.len ≤ 9223372036854775807) (h2 : tv.gone.len ≤ 9223372036854775807) (h3 : tv.items.len ≤ 9223372036854775807) :
    Calls Tryd.prog 29 #[.agg #[.bool there, .bool enum], .agg #[.string tv.name, .bool tv.enum, .slice tv.fields.a tv.fields.len tv.fields.cap, .slice tv.gone.a tv.gone.len tv.gone.cap, .slice tv.items.a tv.items.len tv.items.cap]] w fun e w' => e = .returned (.bool (misplacedB there enum tv.fields.len tv.gone.len tv.items.len)) ∧ Ext w w' := by
  obtain ⟨nm, en, ⟨fa, fl, fc⟩, ⟨ga, gl, gc⟩, ⟨ia, il, ic⟩⟩ := tv
  simp only at h1 h2 h3 ⊢
  have hx : ∀ o1 o2 : Obj, Ext w ((w.alloc o1).alloc o2) := fun _ _ => ((Ext.refl w).alloc _).alloc _
  obtain ⟨r, hr⟩ : ∃ r, r = misplacedB there enum fl gl il := ⟨_, rfl⟩
  rw [← hr]
  unfold misplacedB at hr
  have Hr := hide hr
  clear hr
  cases there <;> cases enum <;>
  · go_enter Tryd.func29, Tryd.ntmps29
    go_wp2
    all_goals
      go_ret
      refine ⟨?_, by first | exact hx _ _ | exact (hx _ _).drewN _⟩
      rw [unhide Hr]
      simp <;> omega
set_option maxHeartbeats 1600000 in
theorem isGone_any (tv : TV) (t : TypeM) (id : Int) (w : World) (ht : TypeAt w tv t) (hn : t.gone.length ≤ 9223372036854775807) :
    Calls Tryd.prog 45 #[.agg #[.string tv.name, .bool tv.enum, .slice tv.fields.a tv.fields.len tv.fields.cap, .slice tv.gone.a tv.gone.len tv.gone.cap, .slice tv.items.a tv.items.len tv.items.cap], .int .i64 id] w fun e w' => e = .returned (.bool (t.gone.contains id)) ∧ Ext w w' := by
  obtain ⟨nm, en, ⟨fa, fl, fc⟩, ⟨ga, gl, gc⟩, ⟨ia, il, ic⟩⟩ := tv
  have hl := ht.gone.1
  simp only at hl
  subst hl
  obtain ⟨l, hlg⟩ : ∃ l, l = t.gone := ⟨_, rfl⟩
  have hg : IntsAt w ⟨ga, t.gone.length, gc⟩ t.gone := ht.gone
  rw [← hlg] at hg hn ⊢
  clear ht hlg
  have hx : ∀ o1 : Obj, Ext w (w.alloc o1) := fun _ => (Ext.refl w).alloc _
  have hcon := fun w' (hx : Ext w w') => containsInt_any ⟨ga, l.length, gc⟩ l id w' (hg.ext hx) hn
  show Calls Tryd.prog 45 #[.agg #[.string nm, .bool en, .slice fa fl fc, .slice ga l.length gc, .slice ia il ic], .int .i64 id] w _
  generalize l.contains id = r at *
  clear hg
  go_enter Tryd.func45, Tryd.ntmps45
  go_wp2_with fail
  refine (hcon _ (hx _)).mono ?_
  rintro e w1 ⟨rfl, rfl⟩
  go_wp2
  go_ret
  exact ⟨rfl, hx _⟩
set_option maxHeartbeats 1600000 in
theorem itemIn_any (tv : TV) (t : TypeM) (n : Int) (w : World) (ht : TypeAt w tv t) (hn : t.items.length ≤ 9223372036854775807) :
    Calls Tryd.prog 48 #[.agg #[.string tv.name, .bool tv.enum, .slice tv.fields.a tv.fields.len tv.fields.cap, .slice tv.gone.a tv.gone.len tv.gone.cap, .slice tv.items.a tv.items.len tv.items.cap], .int .i64 n] w fun e w' => e = .returned (.agg #[.bool (thI (itemM t n)).1, .string (thI (itemM t n)).2.name, .int .i64 (thI (itemM t n)).2.n]) ∧ Ext w w' := by
  obtain ⟨name, enum, fs, gs, is⟩ := tv
  obtain ⟨b', n', c'⟩ := is
  obtain ⟨hl, hts⟩ := ht.items
  simp only at hl
  subst hl
  show Calls Tryd.prog 48 #[.agg #[.string name, .bool enum, .slice fs.a fs.len fs.cap, .slice gs.a gs.len gs.cap, .slice b' t.items.length c'], .int .i64 n] w _
  clear ht
  obtain ⟨W, hW⟩ : ∃ W, W = (w.alloc (.cells #[.string name, .bool enum, .slice fs.a fs.len fs.cap, .slice gs.a gs.len gs.cap, .slice b' t.items.length c'] 46)).alloc (.cells #[.bool false, .string ⟨#[]⟩, .int .i64 0] 94) := ⟨_, rfl⟩
  have rW : W.heap[w.heap.size + 1]? = some (.cells #[.bool false, .string ⟨#[]⟩, .int .i64 0] 94 (0, 0)) := by rw [hW]; exact heap_alloc2_new _ _ _
  have hxW : Ext w W := by rw [hW]; exact ((Ext.refl w).alloc _).alloc _
  have HW := hide hW
  clear hW
  obtain ⟨R, hR⟩ : ∃ R, R = itemM t n := ⟨_, rfl⟩
  rw [← hR]
  have HR := hide hR
  clear hR
  go_enter Tryd.func48, Tryd.ntmps48
  go_wp2
  rw [← unhide HW]
  go_loopw [10] (fun i wr => ∃ k : Nat, k ≤ t.items.length ∧ i = .int .i64 k ∧ NoneTo (fun i : ItemM => i.n == n) t.items k ∧ Ext W wr) (fun i wr => t.items.length - (intOf i).toNat)
  case atStart => exact ⟨0, by omega, rfl, NoneTo.zero _ _, Ext.refl _⟩
  case round =>
    obtain ⟨k, hk, rfl, hne, hx⟩ := hrel
    have hE : Ext w wr := hxW.trans hx
    have r1 := hx.heap rW
    obtain ⟨q0, q1, q2, qf⟩ := row3 r1
    have hz := lt_of_heap r1
    clear r1
    by_cases hlt : k < t.items.length
    · obtain ⟨b, o, cs, rfl, hr, rfl⟩ := hts k t.items[k] (by simp [hlt])
      obtain ⟨h0, h1⟩ := range2 (hE.range hr)
      have Hk : Hid (t.items[k]? = some t.items[k]) := by simp [Hid, hlt]
      generalize t.items[k] = it at *
      clear hts hr
      go_wp2
      · rename_i hit
        have e : R = some it := by rw [unhide HR]; exact NoneTo.some hne (unhide Hk) hit
        subst e
        refine bodyPost_ret (v := .agg #[.bool true, .string it.name, .int .i64 it.n]) (by clear qf; simp [results, Tryd.results48, go_sem, hz, q0, q1, q2]) rfl ⟨rfl, ?_⟩
        exact (((hE.setCell (Nat.le_succ _) _).setCell (Nat.le_succ _) _).setCell (Nat.le_succ _) _).alloc _
      · rename_i hit
        exact ⟨⟨k + 1, by omega, by go_num, NoneTo.succ hne (unhide Hk) hit, hx.alloc _⟩, by simp [intOf]; omega⟩
    · go_wp2
      have e : R = none := by rw [unhide HR]; exact NoneTo.none hne (by omega)
      subst e
      refine bodyPost_ret (v := .agg #[.bool false, .string ⟨#[]⟩, .int .i64 0]) (by clear qf; simp [results, Tryd.results48, go_sem, hz, q0, q1, q2]) rfl ⟨rfl, ?_⟩

      exact (((hE).setCell (Nat.le_succ _) _).setCell (Nat.le_succ _) _).setCell (Nat.le_succ _) _
end Go.Proofs.YtblkgaoafejefaaDoor
