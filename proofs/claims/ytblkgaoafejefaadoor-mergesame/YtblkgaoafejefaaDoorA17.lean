import Derived.Test.YtblkgaoafejefaaDoorA16
namespace Go.Proofs.YtblkgaoafejefaaDoor
set_option linter.unusedSimpArgs false
set_option linter.unusedVariables false
open Go.RowKit

theorem eqlF36 (x y : FieldM) (w : World) : (binOp .eql 36 (.agg #[.int .i64 x.id, .string x.name, .string x.type, .int .i64 x.kind, .int .i64 x.rule]) (.agg #[.int .i64 y.id, .string y.name, .string y.type, .int .i64 y.kind, .int .i64 y.rule])).run Tryd.prog w = .ok (.bool (eqF x y)) w := by
  obtain ⟨i, nm, ty, kd, ru⟩ := x
  obtain ⟨i2, nm2, ty2, kd2, ru2⟩ := y
  unfold eqF
  by_cases h1 : i = i2
  case neg => simp [go_sem, h1]
  by_cases h2 : nm.toList = nm2.toList
  case neg => simp [go_sem, h1, h2]
  by_cases h3 : ty.toList = ty2.toList
  case neg => simp [go_sem, h1, h2, h3]
  by_cases h4 : kd = kd2
  case neg => simp [go_sem, h1, h2, h3, h4]
  by_cases h5 : ru = ru2
  case neg => simp [go_sem, h1, h2, h3, h4, h5]
  simp [go_sem, h1, h2, h3, h4, h5]
theorem thF_eq (x y : Option FieldM) : eqF (thF x).2 (thF y).2 = true ∧ (thF x).1 = (thF y).1 ↔ x = y := by
  constructor
  · rintro ⟨h1, h2⟩
    have h := eq_thF x y
    unfold eqTF at h
    rw [h1, h2] at h
    simp at h
    exact (lawO lawF x y).1 h
  · rintro rfl
    exact ⟨(lawF _ _).2 rfl, rfl⟩
set_option maxHeartbeats 12800000 in
set_option maxRecDepth 20000 in
theorem mergeFields_calls (s1 s2 s3 : SV) (was a b : BookM) (nm : ByteArray) (id : Int) (w : World) (h1 : BookAt w s1 was) (h2 : BookAt w s2 a) (h3 : BookAt w s3 b) (hw : WordsAt w) (n1 : was.Fits) (n2 : a.Fits) (n3 : b.Fits) :
    Calls Tryd.prog 5 #[.agg #[.slice s1.a s1.len s1.cap], .agg #[.slice s2.a s2.len s2.cap], .agg #[.slice s3.a s3.len s3.cap], .string nm, .int .i64 id] w fun e w' => e = .returned (.bool true) ∧ Ext w w' := by
  obtain ⟨W, hW⟩ : ∃ W, W = ((w.alloc (.cells #[.slice s1.a s1.len s1.cap] 24)).alloc (.cells #[.slice s2.a s2.len s2.cap] 24)).alloc (.cells #[.slice s3.a s3.len s3.cap] 24) := ⟨_, rfl⟩
  have hxW : Ext w W := by rw [hW]; exact (((Ext.refl w).alloc _).alloc _).alloc _
  have r0 : W.heap[w.heap.size]? = some (.cells #[.slice s1.a s1.len s1.cap] 24 (0, 0)) := by rw [hW]; exact (((Ext.refl _).alloc _).alloc _).heap (heap_alloc_new w _)
  have r1 : W.heap[w.heap.size + 1]? = some (.cells #[.slice s2.a s2.len s2.cap] 24 (0, 0)) := by rw [hW]; exact ((Ext.refl _).alloc _).heap (heap_alloc2_new w _ _)
  have r2 : W.heap[w.heap.size + 1 + 1]? = some (.cells #[.slice s3.a s3.len s3.cap] 24 (0, 0)) := by rw [hW]; exact heap_at (by simp) (heap_alloc_new _ _)
  have B1 := books_any s1 s2 s3 was a b W (h1.ext hxW) (h2.ext hxW) (h3.ext hxW) (hw.ext hxW) n1 n2 n3
  obtain ⟨M, hM⟩ : ∃ M, M = booksM was a b := ⟨_, rfl⟩
  rw [← hM] at B1
  have HM := fun w' (hx : Ext w w') => merges_ok w' (hw.ext hx)
  have H1 := hide h1
  have H2 := hide h2
  have H3 := hide h3
  have HB := hide B1
  have HW := hide hW
  have HMM := hide hM
  clear hW B1 h1 h2 h3 hw n1 n2 n3 hM
  obtain ⟨X, L, E⟩ := M
  have HB := hide (unhide HB)
  obtain ⟨c0, _⟩ := row1 r0
  obtain ⟨c1, _⟩ := row1 r1
  obtain ⟨c2, _⟩ := row1 r2
  go_enter Tryd.func5, Tryd.ntmps5
  go_wp2_with fail
  rw [← unhide HW]
  refine (unhide HB).mono ?_
  rintro e w1 ⟨sx, fl, rfl, hbx, _, _, _, x1⟩
  have f1 := hxW.trans x1
  have x2 : Ext w1 (w1.alloc (.cells #[.slice sx.a sx.len sx.cap] 24)) := (Ext.refl w1).alloc _
  have r0 := x1.heap r0
  have r1 := x1.heap r1
  have r2 := x1.heap r2
  have rx := heap_alloc_new w1 (.cells #[.slice sx.a sx.len sx.cap] 24)
  have hlx := hbx.1
  have Hbx := hide (hbx.ext x2)
  have f2 := f1.trans x2
  clear hbx c0 c1 c2 HB
  by_cases hE : E = 0
  · subst hE
    obtain ⟨y1, y2, y3, hfl0, hX, _, _⟩ := books_ok (unhide HMM).symm
    have sm1 := hide (good_small y1)
    have sm2 := hide (good_small y2)
    have sm3 := hide (good_small y3)
    have smX : Hid X.Small := by have := books_small (was := was) (a := a) (b := b); rw [← unhide HMM] at this; exact this
    have hk := books_fields (good_B y1) (good_B y2) (good_B y3) hfl0 nm id
    rw [← hX] at hk
    have hset := settle_out (lawO lawF) hk
    simp only [tsOf] at hset
    have HA1 := fun w' (hx : Ext w w') => has_any s1 was nm id w' ((unhide H1).ext hx) (unhide sm1)
    have HA2 := fun w' (hx : Ext w w') => has_any s2 a nm id w' ((unhide H2).ext hx) (unhide sm2)
    have HA3 := fun w' (hx : Ext w w') => has_any s3 b nm id w' ((unhide H3).ext hx) (unhide sm3)
    have HAX := fun w' (hx : Ext (w1.alloc (.cells #[.slice sx.a sx.len sx.cap] 24)) w') => has_any sx X nm id w' ((unhide Hbx).ext hx) (unhide smX)
    generalize fieldM (findZ was nm) id = o1 at *
    generalize fieldM (findZ a nm) id = o2 at *
    generalize fieldM (findZ b nm) id = o3 at *
    generalize fieldM (findZ X nm) id = o4 at *
    have t12 := thF_eq o1 o2
    have t13 := thF_eq o1 o3
    have t23 := thF_eq o2 o3
    have t43 := thF_eq o4 o3
    have t42 := thF_eq o4 o2
    have HT : Hid (((eqF (thF o1).2 (thF o2).2 = true ∧ (thF o1).1 = (thF o2).1) ∧ (eqF (thF o4).2 (thF o3).2 = true ∧ (thF o4).1 = (thF o3).1)) ∨ (¬ (eqF (thF o1).2 (thF o2).2 = true ∧ (thF o1).1 = (thF o2).1) ∧ ((eqF (thF o1).2 (thF o3).2 = true ∧ (thF o1).1 = (thF o3).1) ∨ (eqF (thF o2).2 (thF o3).2 = true ∧ (thF o2).1 = (thF o3).1)) ∧ (eqF (thF o4).2 (thF o2).2 = true ∧ (thF o4).1 = (thF o2).1))) := by
      obtain ⟨u1, u2, u3, u4⟩ := hset
      rw [t12, t13, t23, t43, t42]
      by_cases e12 : o1 = o2
      · exact .inl ⟨e12, u1 e12⟩
      · rcases u4 with e | e | e
        · exact absurd e e12
        · exact .inr ⟨e12, .inl e, u2 e⟩
        · exact .inr ⟨e12, .inr e, u3 e⟩
    generalize thF o1 = p1 at *
    generalize thF o2 = p2 at *
    generalize thF o3 = p3 at *
    generalize thF o4 = p4 at *
    obtain ⟨i1, q1⟩ := p1
    obtain ⟨i2, q2⟩ := p2
    obtain ⟨i3, q3⟩ := p3
    obtain ⟨i4, q4⟩ := p4
    simp only at HA1 HA2 HA3 HAX
    have HA1 := hide HA1
    have HA2 := hide HA2
    have HA3 := hide HA3
    have HAX := hide HAX
    clear hk hset t12 t13 t23 t43 t42 hX hfl0 y1 y2 y3 smX sm1 sm2 sm3 H1 H2 H3 Hbx HMM hlx
    go_wp2_with fail
    refine (HM _ f2).mono ?_
    rintro e w3 ⟨rfl, x3⟩
    have f3 := f2.trans x3
    have x23 := x2.trans x3
    obtain ⟨c0, _⟩ := row1 (x23.heap r0)
    obtain ⟨c1, _⟩ := row1 (x23.heap r1)
    obtain ⟨c2, _⟩ := row1 (x23.heap r2)
    obtain ⟨cx, _⟩ := row1 (x3.heap rx)
    have Hx3 := hide x3
    clear r0 r1 r2 rx x1 x2 HM
    go_wp2_with fail
    refine (unhide HA1 w3 f3).mono ?_
    rintro e w4 ⟨rfl, x4⟩
    have c1 := x4.cell c1
    have c2 := x4.cell c2
    have cx := x4.cell cx
    have z1 := World.block_lt_of_cell? _ _ c1
    have z2 := World.block_lt_of_cell? _ _ c2
    have zx := World.block_lt_of_cell? _ _ cx
    simp only at z1 z2 zx
    have n4 := heap_alloc_new w4 (.cells #[.int .i64 q1.id, .string q1.name, .string q1.type, .int .i64 q1.kind, .int .i64 q1.rule] 36)
    have y4 : Ext w4 (w4.alloc (.cells #[.int .i64 q1.id, .string q1.name, .string q1.type, .int .i64 q1.kind, .int .i64 q1.rule] 36)) := (Ext.refl w4).alloc _
    have f4 := (f3.trans x4).trans y4
    go_wp2_with fail
    refine (unhide HA2 _ f4).mono ?_
    rintro e w5 ⟨rfl, x5⟩
    have c2 := (y4.trans x5).cell c2
    have cx := (y4.trans x5).cell cx
    have n4 := x5.heap n4
    have z2 := World.block_lt_of_cell? _ _ c2
    have zx := World.block_lt_of_cell? _ _ cx
    have zn4 := lt_of_heap n4
    simp only at z2 zx
    have n5 := heap_alloc_new w5 (.cells #[.int .i64 q2.id, .string q2.name, .string q2.type, .int .i64 q2.kind, .int .i64 q2.rule] 36)
    have y5 : Ext w5 (w5.alloc (.cells #[.int .i64 q2.id, .string q2.name, .string q2.type, .int .i64 q2.kind, .int .i64 q2.rule] 36)) := (Ext.refl w5).alloc _
    have f5 := (f4.trans x5).trans y5
    go_wp2_with fail
    refine (unhide HA3 _ f5).mono ?_
    rintro e w6 ⟨rfl, x6⟩
    have cx := (y5.trans x6).cell cx
    have n4 := (y5.trans x6).heap n4
    have n5 := x6.heap n5
    have zx := World.block_lt_of_cell? _ _ cx
    simp only at zx
    have n6 := heap_alloc_new w6 (.cells #[.int .i64 q3.id, .string q3.name, .string q3.type, .int .i64 q3.kind, .int .i64 q3.rule] 36)
    have y6 : Ext w6 (w6.alloc (.cells #[.int .i64 q3.id, .string q3.name, .string q3.type, .int .i64 q3.kind, .int .i64 q3.rule] 36)) := (Ext.refl w6).alloc _
    have f6 := (f5.trans x6).trans y6
    have xx := (((x4.trans y4).trans x5).trans y5).trans (x6.trans y6)
    go_wp2_with fail
    refine (unhide HAX _ ((unhide Hx3).trans xx)).mono ?_
    rintro e w7 ⟨rfl, x7⟩
    have n4 := (y6.trans x7).heap n4
    have n5 := (y6.trans x7).heap n5
    have n6 := x7.heap n6
    have zn4 := lt_of_heap n4
    have zn5 := lt_of_heap n5
    have zn6 := lt_of_heap n6
    have f7 := (f6.trans x7).alloc (.cells #[.int .i64 q4.id, .string q4.name, .string q4.type, .int .i64 q4.kind, .int .i64 q4.rule] 36)
    obtain ⟨a0, a1, a2, a3, a4, _⟩ := row5 n4
    obtain ⟨b0, b1, b2, b3, b4, _⟩ := row5 n5
    obtain ⟨d0, d1, d2, d3, d4, _⟩ := row5 n6
    have q := eqlF36
    clear n4 n5 n6 cx c2 c1 c0 HA1 HA2 HA3 HAX y4 y5 y6 x4 x5 x6 x7 xx x3 x23 Hx3
    have hT := unhide HT
    clear HT
    generalize e12 : eqF q1 q2 = k12 at hT
    generalize e13 : eqF q1 q3 = k13 at hT
    generalize e23 : eqF q2 q3 = k23 at hT
    generalize e43 : eqF q4 q3 = k43 at hT
    generalize e42 : eqF q4 q2 = k42 at hT
    have E12 : ∀ w, (binOp .eql 36 (.agg #[.int .i64 q1.id, .string q1.name, .string q1.type, .int .i64 q1.kind, .int .i64 q1.rule]) (.agg #[.int .i64 q2.id, .string q2.name, .string q2.type, .int .i64 q2.kind, .int .i64 q2.rule])).run Tryd.prog w = .ok (.bool k12) w := fun w => by rw [q, e12]
    have E13 : ∀ w, (binOp .eql 36 (.agg #[.int .i64 q1.id, .string q1.name, .string q1.type, .int .i64 q1.kind, .int .i64 q1.rule]) (.agg #[.int .i64 q3.id, .string q3.name, .string q3.type, .int .i64 q3.kind, .int .i64 q3.rule])).run Tryd.prog w = .ok (.bool k13) w := fun w => by rw [q, e13]
    have E23 : ∀ w, (binOp .eql 36 (.agg #[.int .i64 q2.id, .string q2.name, .string q2.type, .int .i64 q2.kind, .int .i64 q2.rule]) (.agg #[.int .i64 q3.id, .string q3.name, .string q3.type, .int .i64 q3.kind, .int .i64 q3.rule])).run Tryd.prog w = .ok (.bool k23) w := fun w => by rw [q, e23]
    have E43 : ∀ w, (binOp .eql 36 (.agg #[.int .i64 q4.id, .string q4.name, .string q4.type, .int .i64 q4.kind, .int .i64 q4.rule]) (.agg #[.int .i64 q3.id, .string q3.name, .string q3.type, .int .i64 q3.kind, .int .i64 q3.rule])).run Tryd.prog w = .ok (.bool k43) w := fun w => by rw [q, e43]
    have E42 : ∀ w, (binOp .eql 36 (.agg #[.int .i64 q4.id, .string q4.name, .string q4.type, .int .i64 q4.kind, .int .i64 q4.rule]) (.agg #[.int .i64 q2.id, .string q2.name, .string q2.type, .int .i64 q2.kind, .int .i64 q2.rule])).run Tryd.prog w = .ok (.bool k42) w := fun w => by rw [q, e42]
    clear e12 e13 e23 e43 e42 q
    rcases hT with ⟨⟨rfl, rfl⟩, rfl, rfl⟩ | ⟨hn, hor, rfl, rfl⟩
    · go_wp2
      go_ret
      exact ⟨rfl, f7⟩
    · rcases hor with ⟨rfl, rfl⟩ | ⟨rfl, rfl⟩
      · cases k12
        · go_wp2
          go_ret
          exact ⟨rfl, f7⟩
        · cases i1 <;> cases i4 <;> first
            | exact absurd ⟨rfl, rfl⟩ hn
            | (clear hn
               go_wp2
               go_ret
               exact ⟨rfl, f7⟩)
      · cases k12 <;> cases k13 <;> cases i1 <;> cases i4 <;> first
          | exact absurd ⟨rfl, rfl⟩ hn
          | (clear hn
             go_wp2
             go_ret
             exact ⟨rfl, f7⟩)
  · have hx0 : X = [] := by
      have := unhide HMM
      unfold booksM at this
      split at this
      · cases this; rfl
      · split at this
        · cases this; rfl
        · split at this
          · cases this; rfl
          · cases this; exact absurd rfl hE
    subst hx0
    replace hlx : sx.len = 0 := hlx
    obtain ⟨xa, xl, xc⟩ := sx
    simp only at hlx
    subst hlx
    obtain ⟨cx, _⟩ := row1 rx
    clear HMM Hbx r0 r1 r2
    go_wp2_with fail
    refine (HM _ f2).mono ?_
    rintro e w3 ⟨rfl, x3⟩
    go_wp2
    go_ret
    exact ⟨rfl, f2.trans x3⟩
end Go.Proofs.YtblkgaoafejefaaDoor
