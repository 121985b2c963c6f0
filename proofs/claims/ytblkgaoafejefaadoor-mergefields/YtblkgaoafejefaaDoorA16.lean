import Derived.Test.YtblkgaoafejefaaDoorA15
namespace Go.Proofs.YtblkgaoafejefaaDoor
set_option linter.unusedSimpArgs false
set_option linter.unusedVariables false
open Go.RowKit

set_option maxHeartbeats 6400000 in
theorem mergeSame_calls (s1 s2 : SV) (was a : BookM) (w : World) (h1 : BookAt w s1 was) (h2 : BookAt w s2 a) (hw : WordsAt w) (n1 : was.Fits) (n2 : a.Fits) :
    Calls Tryd.prog 4 #[.agg #[.slice s1.a s1.len s1.cap], .agg #[.slice s2.a s2.len s2.cap]] w fun e w' => e = .returned (.bool true) ∧ Ext w w' := by
  obtain ⟨W, hW⟩ : ∃ W, W = (w.alloc (.cells #[.slice s1.a s1.len s1.cap] 24)).alloc (.cells #[.slice s2.a s2.len s2.cap] 24) := ⟨_, rfl⟩
  have hxW : Ext w W := by rw [hW]; exact ((Ext.refl w).alloc _).alloc _
  have r0 : W.heap[w.heap.size]? = some (.cells #[.slice s1.a s1.len s1.cap] 24 (0, 0)) := by rw [hW]; exact heap_alloc2_old _ _ _
  have r1 : W.heap[w.heap.size + 1]? = some (.cells #[.slice s2.a s2.len s2.cap] 24 (0, 0)) := by rw [hW]; exact heap_alloc2_new _ _ _
  obtain ⟨x1, hx1⟩ : ∃ x, x = goodM was := ⟨_, rfl⟩
  obtain ⟨x2, hx2⟩ : ∃ x, x = goodM a := ⟨_, rfl⟩
  have G1 : ∀ w', Ext w w' → Calls Tryd.prog 9 #[.agg #[.slice s1.a s1.len s1.cap]] w' fun e w'' => e = .returned (.int .i64 x1) ∧ Ext w' w'' := fun w' hx => by rw [hx1]; exact good_any s1 was n1 w' (h1.ext hx) (hw.ext hx)
  have G2 : ∀ w', Ext w w' → Calls Tryd.prog 9 #[.agg #[.slice s2.a s2.len s2.cap]] w' fun e w'' => e = .returned (.int .i64 x2) ∧ Ext w' w'' := fun w' hx => by rw [hx2]; exact good_any s2 a n2 w' (h2.ext hx) (hw.ext hx)
  have B1 := fun w' (hx : Ext w w') => books_any s1 s2 s1 was a was w' (h1.ext hx) (h2.ext hx) (h1.ext hx) (hw.ext hx) n1 n2 n1
  have B2 := fun w' (hx : Ext w w') => books_any s1 s2 s2 was a a w' (h1.ext hx) (h2.ext hx) (h2.ext hx) (hw.ext hx) n1 n2 n2
  have B3 := fun w' (hx : Ext w w') => books_any s2 s2 s1 a a was w' (h2.ext hx) (h2.ext hx) (h1.ext hx) (hw.ext hx) n2 n2 n1
  have HM := fun w' (hx : Ext w w') => merges_ok w' (hw.ext hx)
  have HB1 := hide B1
  have HB2 := hide B2
  have HB3 := hide B3
  have HW := hide hW
  have HX1 := hide hx1
  have HX2 := hide hx2
  have H1 := hide h1
  have H2 := hide h2
  clear hW B1 B2 B3 hx1 hx2 h1 h2 hw n1 n2
  obtain ⟨c0, _⟩ := row1 r0
  obtain ⟨c1, _⟩ := row1 r1
  go_enter Tryd.func4, Tryd.ntmps4
  go_wp2_with fail
  rw [← unhide HW]
  refine (G1 W hxW).mono ?_
  rintro e wa ⟨rfl, xa⟩
  have c0 := xa.cell c0
  have c1 := xa.cell c1
  have fa := hxW.trans xa
  by_cases g1 : x1 = 0
  · go_wp2_with fail
    refine (G2 wa fa).mono ?_
    rintro e wb ⟨rfl, xb⟩
    have c0 := xb.cell c0
    have c1 := xb.cell c1
    have fb := fa.trans xb
    by_cases g2 : x2 = 0
    · subst g1 g2
      have y1 : goodM was = 0 := (unhide HX1).symm
      have y2 : goodM a = 0 := (unhide HX2).symm
      have sm1 := good_small y1
      have sm2 := good_small y2
      have e1 := books_1 (good_B y2) y1 y2
      have e2 := books_2 (good_B y2) y1 y2
      have e3 := books_3 (good_B y1) y2 y1
      have B1 := unhide HB1
      have B2 := unhide HB2
      have B3 := unhide HB3
      simp only [e1] at B1
      simp only [e2] at B2
      simp only [e3] at B3
      have HB1 := hide B1
      have HB2 := hide B2
      have HB3 := hide B3
      clear B1 B2 B3 e1 e2 e3 y1 y2 HX1 HX2 G1 G2
      go_wp2_with fail
      refine (unhide HB1 wb fb).mono ?_
      rintro e w1 ⟨sx, fl, rfl, hbx, _, _, _, k1⟩
      have c0 := k1.cell c0
      have c1 := k1.cell c1
      have q1 : Ext w1 (w1.alloc (.cells #[.slice sx.a sx.len sx.cap] 24)) := (Ext.refl w1).alloc _
      have rx := heap_alloc_new w1 (.cells #[.slice sx.a sx.len sx.cap] 24)
      have z0 := World.block_lt_of_cell? _ _ c0
      have z1 := World.block_lt_of_cell? _ _ c1
      simp only at z0 z1
      have f1 := (fb.trans k1).trans q1
      have Hbx := hide (hbx.ext q1)
      clear hbx
      go_wp2_with fail
      refine (unhide HB2 _ f1).mono ?_
      rintro e w2 ⟨sy, fl2, rfl, hby, _, _, _, k2⟩
      have c0 := (q1.trans k2).cell c0
      have c1 := (q1.trans k2).cell c1
      have q2 : Ext w2 (w2.alloc (.cells #[.slice sy.a sy.len sy.cap] 24)) := (Ext.refl w2).alloc _
      have ry := heap_alloc_new w2 (.cells #[.slice sy.a sy.len sy.cap] 24)
      have rx := (k2.trans q2).heap rx
      have z0 := World.block_lt_of_cell? _ _ c0
      have z1 := World.block_lt_of_cell? _ _ c1
      simp only at z0 z1
      have f2 := (f1.trans k2).trans q2
      have Hby := hide (hby.ext q2)
      have Hbx := hide ((unhide Hbx).ext (k2.trans q2))
      clear hby
      go_wp2_with fail
      refine (unhide HB3 _ f2).mono ?_
      rintro e w3 ⟨sz, fl3, rfl, hbz, _, _, _, k3⟩
      have c0 := (q2.trans k3).cell c0
      have c1 := (q2.trans k3).cell c1
      have q3 : Ext w3 (w3.alloc (.cells #[.slice sz.a sz.len sz.cap] 24)) := (Ext.refl w3).alloc _
      have rz := heap_alloc_new w3 (.cells #[.slice sz.a sz.len sz.cap] 24)
      have rx3 := k3.heap rx
      have ry3 := k3.heap ry
      have z0 := World.block_lt_of_cell? _ _ c0
      have z1 := World.block_lt_of_cell? _ _ c1
      simp only at z0 z1
      have f3 := (f2.trans k3).trans q3
      have hbz := hbz.ext q3
      have hbx := (unhide Hbx).ext (k3.trans q3)
      have hby := (unhide Hby).ext (k3.trans q3)
      have S1 := fun w' (hx : Ext (w3.alloc (.cells #[.slice sz.a sz.len sz.cap] 24)) w') => sameBook_true sx s2 a w' (hbx.ext hx) ((unhide H2).ext (f3.trans hx)) sm2
      have S2 := fun w' (hx : Ext (w3.alloc (.cells #[.slice sz.a sz.len sz.cap] 24)) w') => sameBook_true sy s2 a w' (hby.ext hx) ((unhide H2).ext (f3.trans hx)) sm2
      have S3 := fun w' (hx : Ext (w3.alloc (.cells #[.slice sz.a sz.len sz.cap] 24)) w') => sameBook_true sz s1 was w' (hbz.ext hx) ((unhide H1).ext (f3.trans hx)) sm1
      obtain ⟨d0, _⟩ := row1 rx3
      obtain ⟨d1, _⟩ := row1 ry3
      obtain ⟨d2, _⟩ := row1 rz
      have zx := lt_of_heap rx3
      have zy := lt_of_heap ry3
      have HS1 := hide S1
      have HS2 := hide S2
      have HS3 := hide S3
      clear S1 S2 S3 hbx hby hbz HB1 HB2 HB3 Hbx Hby rx ry rz r0 r1 rx3 ry3
      go_wp2_with fail
      refine (unhide HS1 _ (Ext.refl _)).mono ?_
      rintro e v1 ⟨rfl, j1⟩
      have c0 := q3.cell c0
      have c1 := q3.cell c1
      have d1 := q3.cell d1
      have c0 := j1.cell c0
      have c1 := j1.cell c1
      have d1 := j1.cell d1
      have d2 := j1.cell d2
      go_wp2_with fail
      refine (unhide HS2 v1 j1).mono ?_
      rintro e v2 ⟨rfl, j2⟩
      have c0 := j2.cell c0
      have c1 := j2.cell c1
      have d2 := j2.cell d2
      have j12 := j1.trans j2
      go_wp2_with fail
      refine (unhide HS3 v2 j12).mono ?_
      rintro e v3 ⟨rfl, j3⟩
      have j13 := j12.trans j3
      go_wp2_with fail
      refine (HM v3 (f3.trans j13)).mono ?_
      rintro e v4 ⟨rfl, j4⟩
      go_wp2
      go_ret
      exact ⟨rfl, (f3.trans j13).trans j4⟩
    · go_wp2_with fail
      refine (HM wb fb).mono ?_
      rintro e w1 ⟨rfl, k1⟩
      go_wp2
      go_ret
      exact ⟨rfl, fb.trans k1⟩
  · go_wp2_with fail
    refine (HM wa fa).mono ?_
    rintro e w1 ⟨rfl, k1⟩
    go_wp2
    go_ret
    exact ⟨rfl, fa.trans k1⟩
end Go.Proofs.YtblkgaoafejefaaDoor
