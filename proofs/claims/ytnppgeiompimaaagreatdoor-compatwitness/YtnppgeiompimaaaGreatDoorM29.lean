import Derived.Test.YtnppgeiompimaaaGreatDoorM28
namespace Go.Proofs.YtnppgeiompimaaaGreatDoor
set_option linter.unusedSimpArgs false
set_option linter.unusedVariables false
set_option linter.unusedSimpArgs false
set_option linter.unusedVariables false
open Go.RowKit

def okT (o : Option TypeM) : Bool := o.isSome && !(o.getD TypeM.zero).enum
def namedE (ws rs : BookM) (name : ByteArray) : Int := if goodM ws ≠ 0 ∨ goodM rs ≠ 0 then 1 else if okT (findM ws name) && okT (findM rs name) then 0 else 3
def namedA (ws rs : BookM) (name : ByteArray) : TypeM := if namedE ws rs name = 0 then (findM ws name).getD TypeM.zero else TypeM.zero
def namedB (ws rs : BookM) (name : ByteArray) : TypeM := if namedE ws rs name = 0 then (findM rs name).getD TypeM.zero else TypeM.zero
theorem zeroT_at (w : World) : TypeAt w ⟨⟨#[]⟩, false, ⟨none, 0, 0⟩, ⟨none, 0, 0⟩, ⟨none, 0, 0⟩⟩ TypeM.zero :=
  ⟨rfl, rfl, ⟨rfl, fun i x hx => by simp [TypeM.zero] at hx⟩, ⟨rfl, fun i x hx => by simp [TypeM.zero] at hx⟩, ⟨rfl, fun i x hx => by simp [TypeM.zero] at hx⟩, nil_ok, nil_ok, nil_ok⟩
set_option maxHeartbeats 6400000 in
set_option maxRecDepth 10000 in
theorem pairNamed_any (s1 s2 : SV) (ws rs : BookM) (name : ByteArray) (w : World) (h1 : BookAt w s1 ws) (h2 : BookAt w s2 rs) (hw : WordsAt w) (n1 : ws.Fits) (n2 : rs.Fits) :
    Calls Tryz.prog 22 #[.agg #[.slice s1.a s1.len s1.cap, .slice s2.a s2.len s2.cap], .string name] w fun e w' => ∃ tv uv : TV, e = .returned (.tuple #[.agg #[.string tv.name, .bool tv.enum, .slice tv.fields.a tv.fields.len tv.fields.cap, .slice tv.gone.a tv.gone.len tv.gone.cap, .slice tv.items.a tv.items.len tv.items.cap, .string uv.name, .bool uv.enum, .slice uv.fields.a uv.fields.len uv.fields.cap, .slice uv.gone.a uv.gone.len uv.gone.cap, .slice uv.items.a uv.items.len uv.items.cap, .int .i64 0, .int .i64 0], .int .i64 (namedE ws rs name)]) ∧ TypeAt w' tv (namedA ws rs name) ∧ TypeAt w' uv (namedB ws rs name) ∧ Ext w w' := by
  obtain ⟨W, hW⟩ : ∃ W, W = (w.alloc (.cells #[.slice s1.a s1.len s1.cap, .slice s2.a s2.len s2.cap] 52)).alloc (.cells #[.string ⟨#[]⟩, .bool false, .slice none 0 0, .slice none 0 0, .slice none 0 0, .string ⟨#[]⟩, .bool false, .slice none 0 0, .slice none 0 0, .slice none 0 0, .int .i64 0, .int .i64 0] 54) := ⟨_, rfl⟩
  obtain ⟨hxW, hzW, r0, r1⟩ := heaps2 hW
  obtain ⟨x1, hx1⟩ : ∃ x, x = goodM ws := ⟨_, rfl⟩
  obtain ⟨x2, hx2⟩ : ∃ x, x = goodM rs := ⟨_, rfl⟩
  have G1 : ∀ w', Ext w w' → Calls Tryz.prog 45 #[.agg #[.slice s1.a s1.len s1.cap]] w' fun e w'' => e = .returned (.int .i64 x1) ∧ Ext w' w'' := fun w' hx => by rw [hx1]; exact good_any s1 ws n1 w' (h1.ext hx) (hw.ext hx)
  have G2 : ∀ w', Ext w w' → Calls Tryz.prog 45 #[.agg #[.slice s2.a s2.len s2.cap]] w' fun e w'' => e = .returned (.int .i64 x2) ∧ Ext w' w'' := fun w' hx => by rw [hx2]; exact good_any s2 rs n2 w' (h2.ext hx) (hw.ext hx)
  have E1 : Hid (x1 ≠ 0 ∨ x2 ≠ 0 → namedE ws rs name = 1 ∧ namedA ws rs name = TypeM.zero ∧ namedB ws rs name = TypeM.zero) := fun h => by
    have e : namedE ws rs name = 1 := by unfold namedE; rw [← hx1, ← hx2, if_pos h]
    unfold namedA namedB
    rw [e]; exact ⟨rfl, rfl, rfl⟩
  have E2 : Hid (x1 = 0 → x2 = 0 → (okT (findM ws name) && okT (findM rs name)) = true → namedE ws rs name = 0 ∧ namedA ws rs name = (findM ws name).getD TypeM.zero ∧ namedB ws rs name = (findM rs name).getD TypeM.zero) := fun a b h => by
    have e : namedE ws rs name = 0 := by unfold namedE; rw [← hx1, ← hx2, if_neg (by simp [a, b]), if_pos h]
    unfold namedA namedB
    rw [e]; exact ⟨rfl, rfl, rfl⟩
  have E3 : Hid (x1 = 0 → x2 = 0 → (okT (findM ws name) && okT (findM rs name)) = false → namedE ws rs name = 3 ∧ namedA ws rs name = TypeM.zero ∧ namedB ws rs name = TypeM.zero) := fun a b h => by
    have e : namedE ws rs name = 3 := by unfold namedE; rw [← hx1, ← hx2, if_neg (by simp [a, b]), if_neg (by simp [h])]
    unfold namedA namedB
    rw [e]; exact ⟨rfl, rfl, rfl⟩
  generalize namedE ws rs name = nE at *
  generalize namedA ws rs name = nA at *
  generalize namedB ws rs name = nB at *
  have HX1 := hide hx1
  have HX2 := hide hx2
  have F1 := fun (hg : x1 = 0) (w' : World) (hx : Ext w w') => find_any s1 ws name w' (h1.ext hx) (good_small (hx1.symm.trans hg))
  have F2 := fun (hg : x2 = 0) (w' : World) (hx : Ext w w') => find_any s2 rs name w' (h2.ext hx) (good_small (hx2.symm.trans hg))
  have F1 := hide F1
  have F2 := hide F2
  have HW := hide hW
  clear hW hx1 hx2 h1 h2 hw n1 n2
  obtain ⟨b0, b1, _⟩ := rowN2 r0
  have fin : ∀ (V : World) (er : Int), Ext W V → nE = er → nA = TypeM.zero → nB = TypeM.zero → True := fun _ _ _ _ _ _ => trivial
  clear fin
  go_enter Tryz.func22, Tryz.ntmps22
  go_wp2_with fail
  rw [← unhide HW]
  refine (G1 W hxW).mono ?_
  rintro e wa ⟨rfl, xa⟩
  have fa := hxW.trans xa
  have b0 := xa.cell b0
  have b1 := xa.cell b1
  by_cases g1 : x1 = 0
  · go_wp2_with fail
    refine (G2 wa fa).mono ?_
    rintro e wb ⟨rfl, xb⟩
    have fb := fa.trans xb
    have b0 := xb.cell b0
    have b1 := xb.cell b1
    by_cases g2 : x2 = 0
    · go_wp2_with fail
      refine (unhide F1 g1 wb fb).mono ?_
      rintro e w1 ⟨tv, rfl, ht, y1, fr1⟩
      have e2 := ht.enum
      have HA := hide (fun b => unhide E2 g1 g2 b)
      have HB := hide (fun b => unhide E3 g1 g2 b)
      have g2' := hide g2
      have b1 := y1.cell b1
      have z1 := World.block_lt_of_cell? _ _ b1
      simp only at z1
      have n1 := heap_alloc_new w1 (.cells #[.string tv.name, .bool tv.enum, .slice tv.fields.a tv.fields.len tv.fields.cap, .slice tv.gone.a tv.gone.len tv.gone.cap, .slice tv.items.a tv.items.len tv.items.cap] 50)
      have q1 : Ext w1 (w1.alloc (.cells #[.string tv.name, .bool tv.enum, .slice tv.fields.a tv.fields.len tv.fields.cap, .slice tv.gone.a tv.gone.len tv.gone.cap, .slice tv.items.a tv.items.len tv.items.cap] 50)) := (Ext.refl w1).alloc _
      have f1 := (fb.trans y1).trans q1
      have fr1 : tv.Fresh wb := fr1
      have Ht := hide (And.intro (ht.ext q1) fr1)
      have ok1 : Hid (okT (findM ws name) = ((findM ws name).isSome && !tv.enum)) := by unfold Hid okT; rw [e2]
      clear e2 ht fr1
      generalize okT (findM ws name) = k1 at *
      generalize (findM ws name).isSome = i1 at *
      go_wp2_with fail
      refine (unhide F2 (unhide g2') _ f1).mono ?_
      rintro e w2 ⟨uv, rfl, hu, y2, fr2⟩
      have e2 := hu.enum
      have n1 := y2.heap n1
      have f2 := f1.trans y2
      have fr2 : uv.Fresh (w1.alloc (.cells #[.string tv.name, .bool tv.enum, .slice tv.fields.a tv.fields.len tv.fields.cap, .slice tv.gone.a tv.gone.len tv.gone.cap, .slice tv.items.a tv.items.len tv.items.cap] 50)) := fr2
      have Ht := hide (And.intro ((unhide Ht).1.ext y2) (unhide Ht).2)
      have Hu := hide (And.intro hu fr2)
      have ok2 : Hid (okT (findM rs name) = ((findM rs name).isSome && !uv.enum)) := by unfold Hid okT; rw [e2]
      clear e2 hu fr2
      generalize okT (findM rs name) = k2 at *
      generalize (findM rs name).isSome = i2 at *
      obtain ⟨a0, a1, a2, a3, a4, _⟩ := rowN5 n1
      have z2 := lt_of_heap n1
      have rR2 := ((((xa.trans xb).trans y1).trans q1).trans y2).heap r1
      have zRb := lt_of_heap ((xa.trans xb).heap r1)
      have zR1 := lt_of_heap (((xa.trans xb).trans y1).heap r1)
      have zR2 := lt_of_heap rR2
      have hsy := q1.size
      have off1 := (unhide Ht).2.off zRb
      have off2 := (unhide Hu).2.off (g := w.heap.size + 1) (by omega)
      have Hoff := hide (And.intro off1 off2)
      obtain ⟨d0, d1, d2, d3, d4, d5, d6, d7, d8, d9, d10, d11, df⟩ := rowN12 rR2
      obtain ⟨tn, te, tf, tg, ti⟩ := tv
      obtain ⟨un, ue, uf, ug, ui⟩ := uv
      simp only at ok1 ok2 a0 a1 a2 a3 a4
      clear off1 off2
      cases hkk : (k1 && k2) with
      | false =>
        obtain ⟨m1, m2, m3⟩ := unhide HB hkk
        subst m1 m2 m3
        obtain ⟨W6, hW6, r6, hx6, hk6, _⟩ := setN12 rR2 (.string ⟨#[]⟩) (.bool false) (.slice none 0 0) (.slice none 0 0) (.slice none 0 0) (.string ⟨#[]⟩) (.bool false) (.slice none 0 0) (.slice none 0 0) (.slice none 0 0) (.int .i64 0) (.int .i64 0)
        have f6 := hx6 w f2 (by omega)
        have HW6 := hide hW6
        have hex : (i1 = false ∨ te = true) ∨ (i2 = false ∨ ue = true) := by
          rw [unhide ok1, unhide ok2] at hkk
          cases i1 <;> cases te <;> cases i2 <;> cases ue <;> simp at hkk ⊢
        clear hW6 hx6 hk6 ok1 ok2 HA HB hkk F1 F2 E1 E2 E3 Ht Hu Hoff
        cases i1 <;> cases te <;> cases i2 <;> cases ue
        all_goals first
          | (exfalso; simp at hex; done)
          | (clear hex
             go_wp2
             rw [← unhide HW6]
             clear d0 d1 d2 d3 d4 d5 d6 d7 d8 d9 d10 d11 df a0 a1 a2 a3 a4
             have fin : ∀ bb : Bool, _ := fun bb => rowN12 (((Ext.refl W6).alloc (.cells #[.string un, .bool bb, .slice uf.a uf.len uf.cap, .slice ug.a ug.len ug.cap, .slice ui.a ui.len ui.cap] 50)).heap r6)
             first
               | (obtain ⟨k0', k1', k2', k3', k4', k5', k6', k7', k8', k9', k10', k11', _⟩ := fin false
                  refine bodyPost_ret (v := .tuple #[.agg #[.string ⟨#[]⟩, .bool false, .slice none 0 0, .slice none 0 0, .slice none 0 0, .string ⟨#[]⟩, .bool false, .slice none 0 0, .slice none 0 0, .slice none 0 0, .int .i64 0, .int .i64 0], .int .i64 3]) ?_ rfl ⟨⟨⟨#[]⟩, false, ⟨none, 0, 0⟩, ⟨none, 0, 0⟩, ⟨none, 0, 0⟩⟩, ⟨⟨#[]⟩, false, ⟨none, 0, 0⟩, ⟨none, 0, 0⟩, ⟨none, 0, 0⟩⟩, rfl, zeroT_at _, zeroT_at _, f6.alloc _⟩
                  clear fin
                  simp [results, Tryz.results22, go_sem, k0', k1', k2', k3', k4', k5', k6', k7', k8', k9', k10', k11']
                  done)
               | (obtain ⟨k0', k1', k2', k3', k4', k5', k6', k7', k8', k9', k10', k11', _⟩ := fin true
                  refine bodyPost_ret (v := .tuple #[.agg #[.string ⟨#[]⟩, .bool false, .slice none 0 0, .slice none 0 0, .slice none 0 0, .string ⟨#[]⟩, .bool false, .slice none 0 0, .slice none 0 0, .slice none 0 0, .int .i64 0, .int .i64 0], .int .i64 3]) ?_ rfl ⟨⟨⟨#[]⟩, false, ⟨none, 0, 0⟩, ⟨none, 0, 0⟩, ⟨none, 0, 0⟩⟩, ⟨⟨#[]⟩, false, ⟨none, 0, 0⟩, ⟨none, 0, 0⟩, ⟨none, 0, 0⟩⟩, rfl, zeroT_at _, zeroT_at _, f6.alloc _⟩
                  clear fin
                  simp [results, Tryz.results22, go_sem, k0', k1', k2', k3', k4', k5', k6', k7', k8', k9', k10', k11']
                  done))
      | true =>
        obtain ⟨m1, m2, m3⟩ := unhide HA hkk
        subst m1 m2 m3
        obtain ⟨W6, hW6, r6, hx6, hk6, _⟩ := setN12 rR2 (.string tn) (.bool te) (.slice tf.a tf.len tf.cap) (.slice tg.a tg.len tg.cap) (.slice ti.a ti.len ti.cap) (.string un) (.bool ue) (.slice uf.a uf.len uf.cap) (.slice ug.a ug.len ug.cap) (.slice ui.a ui.len ui.cap) (.int .i64 0) (.int .i64 0)
        have f6 := hx6 w f2 (by omega)
        have ht6 := (unhide Ht).1.keepAt (unhide Hoff).1 hk6
        have hu6 := (unhide Hu).1.keepAt (unhide Hoff).2 hk6
        have HW6 := hide hW6
        have hex : i1 = true ∧ te = false ∧ i2 = true ∧ ue = false := by
          rw [unhide ok1, unhide ok2] at hkk
          cases i1 <;> cases te <;> cases i2 <;> cases ue <;> simp at hkk ⊢
        clear hW6 hx6 hk6 ok1 ok2 HA HB hkk F1 F2 E1 E2 E3 Ht Hu Hoff
        obtain ⟨rfl, rfl, rfl, rfl⟩ := hex
        have Ht6 := hide ht6
        have Hu6 := hide hu6
        clear ht6 hu6
        go_wp2
        rw [← unhide HW6]
        clear d0 d1 d2 d3 d4 d5 d6 d7 d8 d9 d10 d11 df a0 a1 a2 a3 a4
        have e7 := (Ext.refl W6).alloc (.cells #[.string un, .bool false, .slice uf.a uf.len uf.cap, .slice ug.a ug.len ug.cap, .slice ui.a ui.len ui.cap] 50)
        have f7 := f6.trans e7
        obtain ⟨k0', k1', k2', k3', k4', k5', k6', k7', k8', k9', k10', k11', _⟩ := rowN12 (e7.heap r6)
        exact bodyPost_ret (v := .tuple #[.agg #[.string tn, .bool false, .slice tf.a tf.len tf.cap, .slice tg.a tg.len tg.cap, .slice ti.a ti.len ti.cap, .string un, .bool false, .slice uf.a uf.len uf.cap, .slice ug.a ug.len ug.cap, .slice ui.a ui.len ui.cap, .int .i64 0, .int .i64 0], .int .i64 0]) (by simp [results, Tryz.results22, go_sem, k0', k1', k2', k3', k4', k5', k6', k7', k8', k9', k10', k11']) rfl ⟨⟨tn, false, tf, tg, ti⟩, ⟨un, false, uf, ug, ui⟩, rfl, (unhide Ht6).ext e7, (unhide Hu6).ext e7, f7⟩
    · obtain ⟨m1, m2, m3⟩ := unhide E1 (.inr g2)
      subst m1 m2 m3
      have rR := (xa.trans xb).heap r1
      have zR := lt_of_heap rR
      have ff := fb
      clear F1 F2 E1 E2 E3 G1 G2
      obtain ⟨d0, d1, d2, d3, d4, d5, d6, d7, d8, d9, d10, d11, df⟩ := rowN12 rR
      obtain ⟨W6, hW6, r6, hx6, hk6, _⟩ := setN12 rR (.string ⟨#[]⟩) (.bool false) (.slice none 0 0) (.slice none 0 0) (.slice none 0 0) (.string ⟨#[]⟩) (.bool false) (.slice none 0 0) (.slice none 0 0) (.slice none 0 0) (.int .i64 0) (.int .i64 0)
      have f6 := hx6 w ff (by omega)
      have HW6 := hide hW6
      clear hW6 hx6 hk6
      go_wp2
      rw [← unhide HW6]
      clear d0 d1 d2 d3 d4 d5 d6 d7 d8 d9 d10 d11 df
      obtain ⟨k0', k1', k2', k3', k4', k5', k6', k7', k8', k9', k10', k11', _⟩ := rowN12 r6
      exact bodyPost_ret (v := .tuple #[.agg #[.string ⟨#[]⟩, .bool false, .slice none 0 0, .slice none 0 0, .slice none 0 0, .string ⟨#[]⟩, .bool false, .slice none 0 0, .slice none 0 0, .slice none 0 0, .int .i64 0, .int .i64 0], .int .i64 1]) (by simp [results, Tryz.results22, go_sem, k0', k1', k2', k3', k4', k5', k6', k7', k8', k9', k10', k11']) rfl ⟨⟨⟨#[]⟩, false, ⟨none, 0, 0⟩, ⟨none, 0, 0⟩, ⟨none, 0, 0⟩⟩, ⟨⟨#[]⟩, false, ⟨none, 0, 0⟩, ⟨none, 0, 0⟩, ⟨none, 0, 0⟩⟩, rfl, zeroT_at _, zeroT_at _, f6⟩
  · obtain ⟨m1, m2, m3⟩ := unhide E1 (.inl g1)
    subst m1 m2 m3
    have rR := xa.heap r1
    have zR := lt_of_heap rR
    have ff := fa
    clear F1 F2 E1 E2 E3 G1 G2
    obtain ⟨d0, d1, d2, d3, d4, d5, d6, d7, d8, d9, d10, d11, df⟩ := rowN12 rR
    obtain ⟨W6, hW6, r6, hx6, hk6, _⟩ := setN12 rR (.string ⟨#[]⟩) (.bool false) (.slice none 0 0) (.slice none 0 0) (.slice none 0 0) (.string ⟨#[]⟩) (.bool false) (.slice none 0 0) (.slice none 0 0) (.slice none 0 0) (.int .i64 0) (.int .i64 0)
    have f6 := hx6 w ff (by omega)
    have HW6 := hide hW6
    clear hW6 hx6 hk6
    go_wp2
    rw [← unhide HW6]
    clear d0 d1 d2 d3 d4 d5 d6 d7 d8 d9 d10 d11 df
    obtain ⟨k0', k1', k2', k3', k4', k5', k6', k7', k8', k9', k10', k11', _⟩ := rowN12 r6
    exact bodyPost_ret (v := .tuple #[.agg #[.string ⟨#[]⟩, .bool false, .slice none 0 0, .slice none 0 0, .slice none 0 0, .string ⟨#[]⟩, .bool false, .slice none 0 0, .slice none 0 0, .slice none 0 0, .int .i64 0, .int .i64 0], .int .i64 1]) (by simp [results, Tryz.results22, go_sem, k0', k1', k2', k3', k4', k5', k6', k7', k8', k9', k10', k11']) rfl ⟨⟨⟨#[]⟩, false, ⟨none, 0, 0⟩, ⟨none, 0, 0⟩, ⟨none, 0, 0⟩⟩, ⟨⟨#[]⟩, false, ⟨none, 0, 0⟩, ⟨none, 0, 0⟩, ⟨none, 0, 0⟩⟩, rfl, zeroT_at _, zeroT_at _, f6⟩
end Go.Proofs.YtnppgeiompimaaaGreatDoor

