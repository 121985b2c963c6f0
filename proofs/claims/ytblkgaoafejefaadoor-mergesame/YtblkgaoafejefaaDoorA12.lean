import Derived.Test.YtblkgaoafejefaaDoorA11
namespace Go.Proofs.YtblkgaoafejefaaDoor
set_option linter.unusedSimpArgs false
set_option linter.unusedVariables false
open Go.RowKit

set_option maxHeartbeats 12800000 in
set_option maxRecDepth 20000 in
theorem books_any (s1 s2 s3 : SV) (was a b : BookM) (w : World) (h1 : BookAt w s1 was) (h2 : BookAt w s2 a) (h3 : BookAt w s3 b) (hw : WordsAt w) (n1 : was.Fits) (n2 : a.Fits) (n3 : b.Fits) :
    Calls Tryd.prog 6 #[.agg #[.slice s1.a s1.len s1.cap], .agg #[.slice s2.a s2.len s2.cap], .agg #[.slice s3.a s3.len s3.cap]] w fun e w' => ∃ sx fl : SV, e = .returned (.tuple #[.agg #[.slice sx.a sx.len sx.cap], .slice fl.a fl.len fl.cap, .int .i64 (booksM was a b).2.2]) ∧ BookAt w' sx (booksM was a b).1 ∧ FlawsAt w' fl (booksM was a b).2.1 ∧ sx.ok ∧ fl.ok ∧ Ext w w' := by
  obtain ⟨W, hW⟩ : ∃ W, W = (((w.alloc (.cells #[.slice s1.a s1.len s1.cap] 24)).alloc (.cells #[.slice s2.a s2.len s2.cap] 24)).alloc (.cells #[.slice s3.a s3.len s3.cap] 24)).alloc (.cells #[.slice none 0 0] 24) := ⟨_, rfl⟩
  have hxW : Ext w W := by rw [hW]; exact ((((Ext.refl w).alloc _).alloc _).alloc _).alloc _
  have hzW : W.heap.size = w.heap.size + 4 := by rw [hW]; simp
  have hb0 : W.heap[w.heap.size]? = some (.cells #[.slice s1.a s1.len s1.cap] 24 (0, 0)) := by rw [hW]; exact ((((Ext.refl _).alloc _).alloc _).alloc _).heap (heap_alloc_new w _)
  have hb1 : W.heap[w.heap.size + 1]? = some (.cells #[.slice s2.a s2.len s2.cap] 24 (0, 0)) := by rw [hW]; exact (((Ext.refl _).alloc _).alloc _).heap (heap_alloc2_new w _ _)
  have hb2 : W.heap[w.heap.size + 1 + 1]? = some (.cells #[.slice s3.a s3.len s3.cap] 24 (0, 0)) := by rw [hW]; exact ((Ext.refl _).alloc _).heap (heap_at (by simp) (heap_alloc_new _ _))
  have hb3 : W.heap[w.heap.size + 1 + 1 + 1]? = some (.cells #[.slice none 0 0] 24 (0, 0)) := by rw [hW]; exact heap_at (by simp) (heap_alloc_new _ _)
  have HW := hide hW
  obtain ⟨x1, hx1⟩ : ∃ x, x = goodM was := ⟨_, rfl⟩
  obtain ⟨x2, hx2⟩ : ∃ x, x = goodM a := ⟨_, rfl⟩
  obtain ⟨x3, hx3⟩ : ∃ x, x = goodM b := ⟨_, rfl⟩
  have G1 : ∀ w', Ext w w' → Calls Tryd.prog 9 #[.agg #[.slice s1.a s1.len s1.cap]] w' fun e w'' => e = .returned (.int .i64 x1) ∧ Ext w' w'' := fun w' hx => by rw [hx1]; exact good_any s1 was n1 w' (h1.ext hx) (hw.ext hx)
  have G2 : ∀ w', Ext w w' → Calls Tryd.prog 9 #[.agg #[.slice s2.a s2.len s2.cap]] w' fun e w'' => e = .returned (.int .i64 x2) ∧ Ext w' w'' := fun w' hx => by rw [hx2]; exact good_any s2 a n2 w' (h2.ext hx) (hw.ext hx)
  have G3 : ∀ w', Ext w w' → Calls Tryd.prog 9 #[.agg #[.slice s3.a s3.len s3.cap]] w' fun e w'' => e = .returned (.int .i64 x3) ∧ Ext w' w'' := fun w' hx => by rw [hx3]; exact good_any s3 b n3 w' (h3.ext hx) (hw.ext hx)
  obtain ⟨M, hM⟩ : ∃ M, M = booksM was a b := ⟨_, rfl⟩
  rw [← hM]
  have E1 : Hid (x1 ≠ 0 ∨ x2 ≠ 0 ∨ x3 ≠ 0 → M = ([], [], 1)) := fun h => by rw [hM]; unfold booksM; rw [← hx1, ← hx2, ← hx3, if_pos h]
  have E2 : Hid (x1 = 0 → x2 = 0 → x3 = 0 → M = if flawsOf was a b (namesM was a b) ≠ [] then ([], flawsOf was a b (namesM was a b), 9) else if goodM (outOf was a b (namesM was a b)) ≠ 0 then ([], [], goodM (outOf was a b (namesM was a b))) else (outOf was a b (namesM was a b), [], 0)) := fun y1 y2 y3 => by rw [hM]; unfold booksM; rw [← hx1, ← hx2, ← hx3, if_neg (by simp [y1, y2, y3])]
  have HG1 := hide hx1
  have HG2 := hide hx2
  have HG3 := hide hx3
  have H1 := hide h1
  have H2 := hide h2
  have H3 := hide h3
  have Hw := hide hw
  clear hM hW hx1 hx2 hx3 h1 h2 h3 hw n1 n2 n3
  obtain ⟨c0, _⟩ := row1 hb0
  obtain ⟨c1, _⟩ := row1 hb1
  obtain ⟨c2, _⟩ := row1 hb2
  go_enter Tryd.func6, Tryd.ntmps6
  go_wp2_with fail
  rw [← unhide HW]
  refine (G1 W hxW).mono ?_
  rintro e Wa ⟨rfl, xa⟩
  have fa := hxW.trans xa
  have c0 := xa.cell c0
  have c1 := xa.cell c1
  have c2 := xa.cell c2
  clear G1 HW
  by_cases g1 : x1 = 0
  · go_wp2_with fail
    refine (G2 Wa fa).mono ?_
    rintro e Wb ⟨rfl, xb⟩
    have fb := fa.trans xb
    have c0 := xb.cell c0
    have c1 := xb.cell c1
    have c2 := xb.cell c2
    clear G2
    by_cases g2 : x2 = 0
    · go_wp2_with fail
      refine (G3 Wb fb).mono ?_
      rintro e Wc ⟨rfl, xc⟩
      have fc := fb.trans xc
      have c0 := xc.cell c0
      have c1 := xc.cell c1
      have c2 := xc.cell c2
      have rR := ((xa.trans xb).trans xc).heap hb3
      have zR := lt_of_heap rR
      have hb0 := ((xa.trans xb).trans xc).heap hb0
      have hb1 := ((xa.trans xb).trans xc).heap hb1
      have hb2 := ((xa.trans xb).trans xc).heap hb2
      clear G3 hb3
      by_cases g3 : x3 = 0
      · subst g1 g2 g3
        have hM := unhide E2 rfl rfl rfl
        have HM := hide hM
        clear hM E1 E2
        have y1 : goodM was = 0 := (unhide HG1).symm
        have y2 : goodM a = 0 := (unhide HG2).symm
        have y3 : goodM b = 0 := (unhide HG3).symm
        have S1 := hide (good_small y1)
        have S2 := hide (good_small y2)
        have S3 := hide (good_small y3)
        have I1 := hide (good_items y1)
        have I2 := hide (good_items y2)
        have I3 := hide (good_items y3)
        have hnl : (namesM was a b).length ≤ 12 := names_le y1 y2 y3
        have HFL := hide (flK_len y1 y2 y3)
        have HOS := hide (out_fits y1 y2 y3)
        have hl1 := (goodM_out y1).1
        have hl2 := (goodM_out y2).1
        have hl3 := (goodM_out y3).1
        obtain ⟨Wn, hWn⟩ : ∃ Wn, Wn = (Wc.alloc (.cells #[.slice none 0 0] 24)).alloc (.cells #[.slice s1.a s1.len s1.cap, .slice s2.a s2.len s2.cap, .slice s3.a s3.len s3.cap] 24) := ⟨_, rfl⟩
        have xn : Ext Wc Wn := by rw [hWn]; exact ((Ext.refl Wc).alloc _).alloc _
        have hbO : Wn.heap[Wc.heap.size]? = some (.cells #[.slice none 0 0] 24 (0, 0)) := by rw [hWn]; exact heap_alloc2_old _ _ _
        have hbB : Wn.heap[Wc.heap.size + 1]? = some (.cells #[.slice s1.a s1.len s1.cap, .slice s2.a s2.len s2.cap, .slice s3.a s3.len s3.cap] 24 (0, 0)) := by rw [hWn]; exact heap_alloc2_new _ _ _
        have hzn : Wn.heap.size = Wc.heap.size + 2 := by rw [hWn]; simp
        have HWn := hide hWn
        have fn := fc.trans xn
        obtain ⟨k0, k1, k2, _⟩ := row3 hbB
        have z0 : w.heap.size < Wc.heap.size := by have := ((xa.trans xb).trans xc).size; omega
        have z1 : w.heap.size + 1 < Wc.heap.size := by have := ((xa.trans xb).trans xc).size; omega
        have z2 : w.heap.size + 1 + 1 < Wc.heap.size := by have := ((xa.trans xb).trans xc).size; omega
        clear hWn y1 y2 y3 HG1 HG2 HG3
        go_wp2_with fail
        rw [← unhide HWn]
        refine (typeNames_any (Wc.heap.size + 1) 3 [(s1, was), (s2, a), (s3, b)] Wn (by simp) (fun k hk => ?_) (fun p hp => ?_) (fun p hp => ?_)).mono ?_
        · have : k = 0 ∨ k = 1 ∨ k = 2 := by simp at hk; omega
          rcases this with rfl | rfl | rfl
          · exact k0
          · exact k1
          · exact k2
        · simp only [List.mem_cons, List.not_mem_nil, or_false] at hp
          rcases hp with rfl | rfl | rfl
          · exact (unhide H1).ext fn
          · exact (unhide H2).ext fn
          · exact (unhide H3).ext fn
        · simp only [List.mem_cons, List.not_mem_nil, or_false] at hp
          rcases hp with rfl | rfl | rfl
          · show was.length ≤ 1000; omega
          · show a.length ≤ 1000; omega
          · show b.length ≤ 1000; omega
        rintro e W5 ⟨⟨na, nn, nc⟩, rfl, hnat, hnok, hnf, x5⟩
        rw [show unions ltN ([(s1, was), (s2, a), (s3, b)].flatMap fun p => p.2.map (·.name)) = namesM was a b by unfold namesM; simp [List.append_assoc]] at hnat
        have hnl2 := hnat.1
        simp only at hnl2
        subst hnl2
        have HA := hide hnat
        have f5 := fn.trans x5
        have x05 := xn.trans x5
        have c0 := x05.cell c0
        have c1 := x05.cell c1
        have c2 := x05.cell c2
        have hb0 := x05.heap hb0
        have hb1 := x05.heap hb1
        have hb2 := x05.heap hb2
        have rR := x05.heap rR
        have hbO := x5.heap hbO
        obtain ⟨O, hO⟩ : ∃ O, O = Wc.heap.size := ⟨_, rfl⟩
        rw [← hO] at hbO hzn
        have HO := hide hO
        have hO1 : w.heap.size + 4 ≤ O := by rw [hO]; omega
        have hO2 : O < W5.heap.size := by have := x5.size; omega
        obtain ⟨base, hbase⟩ : ∃ b, b = W5.heap.size := ⟨_, rfl⟩
        have hbw5 : base ≤ W5.heap.size := by omega
        have hb5w : W5.heap.size ≤ base := by omega
        clear hbase hnat hO HWn k0 k1 k2 hbB xn
        go_wp2
        rw [← unhide HO]
        go_loopw [10, 37] (fun l i wr => ∃ (k : Nat) (fl sx : SV) (outs : List (TV × TypeM)), k ≤ (namesM was a b).length ∧ i = .int .i64 k ∧ l = .slice fl.a fl.len fl.cap ∧ wr.ownsRow base 32 3 (.slice fl.a fl.len fl.cap) (flK was a b k).length ((flK was a b k).flatMap flawP) ∧ wr.heap[O]? = some (.cells #[.slice sx.a sx.len sx.cap] 24 (0, 0)) ∧ wr.ownsRow base 46 5 (.slice sx.a sx.len sx.cap) outs.length (tvCells outs) ∧ (∀ p ∈ outs, TyRows wr base p.1 p.2) ∧ tyOf outs = outK was a b k ∧ Fr base O O W5 wr) (fun _ i _ => (namesM was a b).length - (intOf i).toNat)
        case atStart => exact ⟨0, ⟨none, 0, 0⟩, ⟨none, 0, 0⟩, [], by omega, rfl, rfl, owns_nil _ _ _ _, hbO, owns_nil _ _ _ _, fun p hp => absurd hp List.not_mem_nil, rfl, Fr.refl _ _ _ _⟩
        case round =>
          obtain ⟨k, fl, sx, outs, hk, rfl, rfl, hfl, hrO, hou, htr, hto, hfr⟩ := hrel
          rename World => wo
          have hE : Ext w wo := f5.fr hfr (by omega) (by omega) (by omega)
          have hbw : base ≤ wo.heap.size := by have := hfr.size; omega
          have kb : ∀ i, i < O → wo.heap[i]? = W5.heap[i]? := fun i hi => hfr.block i (by omega) (by omega) (by omega)
          have hb0 := (kb w.heap.size (by omega)).trans hb0
          have hb1 := (kb (w.heap.size + 1) (by omega)).trans hb1
          have hb2 := (kb (w.heap.size + 1 + 1) (by omega)).trans hb2
          have rR := (kb (w.heap.size + 1 + 1 + 1) (by omega)).trans rR
          obtain ⟨c0, _⟩ := row1 hb0
          obtain ⟨c1, _⟩ := row1 hb1
          obtain ⟨c2, _⟩ := row1 hb2
          have zR := lt_of_heap rR
          have hol : outs.length ≤ 12 := by
            have := outK_len was a b k
            rw [← hto] at this
            unfold tyOf at this
            rw [List.length_map] at this
            omega
          have hfll := unhide HFL k hk
          by_cases hlt : k < (namesM was a b).length
          · obtain ⟨ib, io, cs, eia, hri, rfl⟩ := (unhide HA).2 k (namesM was a b)[k] (by simp [hlt])
            simp only at eia
            subst eia
            have hib : ib < W5.heap.size := World.block_lt_of_cell? _ _ (hri 0 _ rfl)
            have hibh : Wn.heap.size ≤ ib := hnf _ rfl
            have hic : wo.cell? ⟨ib, io + k, none⟩ = some (.string (namesM was a b)[k]) := by
              have h0 := hri 0 _ rfl
              rw [World.cell?_of_block (w := W5) (hfr.block ib (by omega) (by omega) (by omega))]
              simpa using h0
            have e1 : Hid (flK was a b (k + 1) = flK was a b k ++ (mergedM (namesM was a b)[k] (tsOf was a b (namesM was a b)[k])).2.2.map fun i => ((namesM was a b)[k], i)) := flK_succ was a b hlt
            have e2 : Hid (outK was a b (k + 1) = outK was a b k ++ (if (mergedM (namesM was a b)[k] (tsOf was a b (namesM was a b)[k])).2.1 = true then [(mergedM (namesM was a b)[k] (tsOf was a b (namesM was a b)[k])).1] else [])) := outK_succ was a b hlt
            generalize (namesM was a b)[k] = nm at *
            have hml := merged_len nm (tsOf was a b nm) (unhide I1 nm) (unhide I2 nm) (unhide I3 nm)
            have HTO := typesOf_any nm s1 s2 s3 was a b wo ((unhide H1).ext hE) ((unhide H2).ext hE) ((unhide H3).ext hE) (unhide S1) (unhide S2) (unhide S3)
            have HMG := fun (wt at1 bt : TV) (w' : World) (a1 : TypeAt w' wt (findZ was nm)) (a2 : TypeAt w' at1 (findZ a nm)) (a3 : TypeAt w' bt (findZ b nm)) => merged_any nm wt.name wt.enum wt.fields wt.gone wt.items at1.name at1.enum at1.fields at1.gone at1.items bt.name bt.enum bt.fields bt.gone bt.items (tsOf was a b nm) w' a1 a2 a3 (find_small' (unhide S1) nm) (find_small' (unhide S2) nm) (find_small' (unhide S3) nm) (unhide I1 nm) (unhide I2 nm) (unhide I3 nm)
            obtain ⟨R, hR⟩ : ∃ R, R = mergedM nm (tsOf was a b nm) := ⟨_, rfl⟩
            simp only [← hR] at HMG e1 e2 hml
            have HTO := hide HTO
            have HMG := hide HMG
            have hki : (k : Int) < ((namesM was a b).length : Int) := by omega
            generalize (namesM was a b).length = NL at *
            clear hR hri
            obtain ⟨RT, there, RF⟩ := R
            simp only at e1 e2 hml HMG
            go_wp2_with fail
            refine (unhide HTO).mono ?_
            rintro e W6 ⟨wt, at1, bt, rfl, a1, a2, a3, x6⟩
            go_wp2_with fail
            refine (unhide HMG wt at1 bt W6 a1 a2 a3).mono ?_
            rintro e W7 ⟨⟨tn, te, tf, tg, ti⟩, fl2, rfl, htr7, hfl7, x7⟩
            have x67 := x6.trans x7
            have hE7 := hE.trans x67
            have hfl' := owns_ext hfl x67
            have hou' := owns_ext hou x67
            have htr' : ∀ p ∈ outs, TyRows W7 base p.1 p.2 := fun p hp => (htr p hp).map fun _ h => owns_ext h x67
            have hrO7 := x67.heap hrO
            have hbw7 : base ≤ W7.heap.size := Nat.le_trans hbw x67.size
            have hfr7 := hfr.trans (Fr.of_ext x67 hbw)
            have c0 := x67.cell c0
            have c1 := x67.cell c1
            have c2 := x67.cell c2
            have hb67 : base ≤ W6.heap.size := Nat.le_trans hbw x6.size
            have htrn : TyRows W7 base ⟨tn, te, tf, tg, ti⟩ RT := ty_base htr7 hb67
            obtain ⟨T, hT⟩ : ∃ T, T = W7.heap.size := ⟨_, rfl⟩
            obtain ⟨W8, hW8⟩ : ∃ X, X = W7.alloc (.cells #[.string tn, .bool te, .slice tf.a tf.len tf.cap, .slice tg.a tg.len tg.cap, .slice ti.a ti.len ti.cap] 46) := ⟨_, rfl⟩
            have r8 : W8.heap[T]? = some (.cells #[.string tn, .bool te, .slice tf.a tf.len tf.cap, .slice tg.a tg.len tg.cap, .slice ti.a ti.len ti.cap] 46 (0, 0)) := by rw [hW8, hT]; exact heap_alloc_new _ _
            have x8 : Ext W7 W8 := by rw [hW8]; exact (Ext.refl W7).alloc _
            have HW8 := hide hW8
            have hT1 : W7.heap.size ≤ T := by omega
            have hTb : base ≤ T := by omega
            have HT := hide hT
            clear hW8 hT
            have hfl8 := owns_ext hfl' x8
            have hou8 := owns_ext hou' x8
            have htr8 : ∀ p ∈ outs, TyRows W8 base p.1 p.2 := fun p hp => (htr' p hp).map fun _ h => owns_ext h x8
            have htn8 : TyRows W8 base ⟨tn, te, tf, tg, ti⟩ RT := htrn.map fun _ h => owns_ext h x8
            have hrO8 := x8.heap hrO7
            have hf28 := owns_ext hfl7 x8
            have hat2 := slice_of_owns (flawC nm) (fun _ => rfl) hf28 rfl
            have hok2 := ok_of_owns hf28
            have hbw8 : base ≤ W8.heap.size := Nat.le_trans hbw7 x8.size
            have hat3 : SliceAt 3 (fun _ cs p => cs = flawP p) W8 fl2 (RF.map fun i => (nm, i)) := by
              refine ⟨by rw [List.length_map]; exact hat2.1, fun i x hx => ?_⟩
              rw [List.getElem?_map] at hx
              cases hp : RF[i]? with
              | none => rw [hp] at hx; cases hx
              | some p => rw [hp] at hx; cases hx; exact hat2.2 i p hp
            clear hfl hou htr hrO hfl' hou' htr' htrn hrO7 htr7 hfl7 hf28 hat2 a1 a2 a3
            go_wp2_with (at_builtin; rw [← unhide HW8]; refine wpList_appAll _ _ 25 32 (.agg #[.string ⟨#[]⟩, .int .i64 0, .int .i64 0]) 3 32 rfl rfl Tryd.underlying25 info32 rfl (by decide) (by decide) flawP (fun _ => rfl) one_flawP base _ (flK was a b k) hfl8 (by omega) rfl fl2 (RF.map fun i => (nm, i)) hat3 hok2 rfl (by rw [List.length_map]; omega) ?_)
            intro fl9 W9 ho9 hg9
            have ho9 : W9.ownsRow base 32 3 (.slice fl9.a fl9.len fl9.cap) (flK was a b (k + 1)).length ((flK was a b (k + 1)).flatMap flawP) := by rw [unhide e1, List.length_append, List.length_map, List.flatMap_append]; exact ho9
            have hf9 : W8.heap.size ≤ W9.heap.size := hg9.size
            have hou9 := hou8.kept hg9 (owns_apart hou8 hfl8 (by decide))
            have kk9 : ∀ {e : TypeId} {k : Nat} {v : Value} {n : Nat} {xs : List Value}, e ≠ 32 → W8.ownsRow base e k v n xs → W9.ownsRow base e k v n xs := fun he h => h.kept hg9 (owns_apart h hfl8 he)
            have htr9 : ∀ p ∈ outs, TyRows W9 base p.1 p.2 := fun p hp => ⟨(htr8 p hp).name, (htr8 p hp).enum, kk9 (by decide) (htr8 p hp).fields, kk9 (by decide) (htr8 p hp).gone, kk9 (by decide) (htr8 p hp).items⟩
            have htn9 : TyRows W9 base ⟨tn, te, tf, tg, ti⟩ RT := ⟨htn8.name, htn8.enum, kk9 (by decide) htn8.fields, kk9 (by decide) htn8.gone, kk9 (by decide) htn8.items⟩
            have hrO9 : W9.heap[O]? = some (.cells #[.slice sx.a sx.len sx.cap] 24 (0, 0)) := by rw [hg9.block O (lt_of_heap hrO8) (fun e => by have := (hfl8.lt O e.symm).1; omega)]; exact hrO8
            have hfr9 := (hfr7.trans (Fr.of_ext x8 hbw7)).trans (Fr.owned (base := base) (g := O) (h := O) hg9 hfl8 hbw8)
            have r9 : W9.heap[T]? = some (.cells #[.string tn, .bool te, .slice tf.a tf.len tf.cap, .slice tg.a tg.len tg.cap, .slice ti.a ti.len ti.cap] 46 (0, 0)) := by
              rw [hg9.block T (lt_of_heap r8) (fun e => by
                rcases hfl8.2 with ⟨e0, _⟩ | ⟨g, cap, cur, e0, _, hg, _⟩
                · rw [e0] at e; cases e
                · rw [e0] at e
                  simp only [Value.ownBlock, Option.some.injEq] at e
                  rw [← e, r8] at hg
                  simp at hg)]
              exact r8
            have hbw9 : base ≤ W9.heap.size := Nat.le_trans hbw8 hf9
            clear hfl8 hou8 htr8 htn8 hrO8 kk9 hat3 hg9 hfr7 HW8 r8
            obtain ⟨t0, t1, t2, t3, t4, _⟩ := row5 r9
            obtain ⟨o0, of⟩ := row1 hrO9
            have hTz := lt_of_heap r9
            rw [unhide HT] at t0 t1 t2 t3 t4 hTz
            have hOz := lt_of_heap hrO9
            cases there with
            | false =>
              have e2' : Hid (outK was a b (k + 1) = outK was a b k) := by unfold Hid; rw [unhide e2]; simp
              clear e2
              go_wp2
              exact ⟨⟨k + 1, fl9, sx, outs, by omega, by go_num, rfl, ho9, hrO9, hou9, htr9, by rw [unhide e2']; exact hto, hfr9⟩, by simp [intOf]; omega⟩
            | true =>
              have e2' : Hid (outK was a b (k + 1) = tyOf (outs ++ [(⟨tn, te, tf, tg, ti⟩, RT)])) := by unfold Hid; rw [unhide e2, ← hto]; simp [tyOf]
              clear e2 hto
              go_wp2_with (at_builtin; refine wpList_app1 _ _ 22 46 (.agg #[.string ⟨#[]⟩, .bool false, .slice none 0 0, .slice none 0 0, .slice none 0 0]) 5 96 Tryd.underlying22 info46 rfl (by decide) (by decide) rfl rfl base _ outs.length _ rfl (hou9.alloc _) W9.heap.size 1 (TV.cells ⟨tn, te, tf, tg, ti⟩) rfl rfl ?c1 ?c2 ?c3 ?c4 ?_)
              case c1 => exact range_of_new5 _ _ _ _ _ _ _ (by simp)
              case c2 => exact one_tv _
              case c3 => omega
              case c4 => simp; omega
              intro v10 W10 ho10 hg10
              have ho10' : W10.ownsRow base 46 5 v10 (outs ++ [((⟨tn, te, tf, tg, ti⟩ : TV), RT)]).length (tvCells (outs ++ [(⟨tn, te, tf, tg, ti⟩, RT)])) := by
                unfold tvCells at ho10 ⊢
                rw [List.length_append, List.length_singleton, List.flatMap_append]
                simpa using ho10
              obtain ⟨sx', rfl, _⟩ := sliceAt_of_owns (fun p : TV × TypeM => p.1.cells) (fun _ => rfl) (l := outs ++ [(⟨tn, te, tf, tg, ti⟩, RT)]) ho10' rfl
              have x9a : Ext W9 (W9.alloc (.cells #[.string tn, .bool te, .slice tf.a tf.len tf.cap, .slice tg.a tg.len tg.cap, .slice ti.a ti.len ti.cap] 46)) := (Ext.refl W9).alloc _
              have hoa := hou9.alloc (.cells #[.string tn, .bool te, .slice tf.a tf.len tf.cap, .slice tg.a tg.len tg.cap, .slice ti.a ti.len ti.cap] 46)
              have kk : ∀ {e : TypeId} {k : Nat} {v : Value} {n : Nat} {xs : List Value}, e ≠ 46 → W9.ownsRow base e k v n xs → W10.ownsRow base e k v n xs := fun he h => (owns_ext h x9a).kept hg10 (owns_apart (owns_ext h x9a) hoa he)
              have hrO10 : W10.heap[O]? = some (.cells #[.slice sx.a sx.len sx.cap] 24 (0, 0)) := by rw [hg10.block O (lt_of_heap (x9a.heap hrO9)) (fun e => by have := (hoa.lt O e.symm).1; omega)]; exact x9a.heap hrO9
              have hfr10 := hfr9.trans ((Fr.of_ext x9a hbw9).trans (Fr.owned (base := base) (g := O) (h := O) hg10 hoa (by simp; omega)))
              have hOb : O < base := by omega
              have ho11 : (W10.setCell ⟨O, 0, none⟩ (.slice sx'.a sx'.len sx'.cap)).heap[O]? = some (.cells #[.slice sx'.a sx'.len sx'.cap] 24 (0, 0)) := heap_setCell_same W10 O 0 _ 24 (.slice sx'.a sx'.len sx'.cap) hrO10
              have hst : ∀ {e : TypeId} {k : Nat} {v : Value} {n : Nat} {xs : List Value}, W10.ownsRow base e k v n xs → (W10.setCell ⟨O, 0, none⟩ (.slice sx'.a sx'.len sx'.cap)).ownsRow base e k v n xs := fun h => ownsRow_setCell_below h hOb _
              have hfl11 := hst (kk (by decide) ho9)
              have htr11 : ∀ p ∈ outs ++ [((⟨tn, te, tf, tg, ti⟩ : TV), RT)], TyRows (W10.setCell ⟨O, 0, none⟩ (.slice sx'.a sx'.len sx'.cap)) base p.1 p.2 := fun p hp => by
                rcases List.mem_append.1 hp with hp | hp
                · exact (htr9 p hp).map fun he h => hst (kk he h)
                · rw [List.mem_singleton] at hp; subst hp; exact htn9.map fun he h => hst (kk he h)
              have hou11 := hst ho10'
              have hfr11 := hfr10.trans (Fr.set (base := base) (g := O) W10 0 (.slice sx'.a sx'.len sx'.cap))
              obtain ⟨o0, of⟩ := row1 hrO10
              have hOz := lt_of_heap hrO10
              clear kk hst ho10 ho10' hg10 hoa hrO10 hrO9 hfr10 hfr9 htr9 htn9 hou9 ho9 t0 t1 t2 t3 t4
              go_wp2
              exact ⟨⟨k + 1, fl9, sx', _, by omega, by go_num, rfl, hfl11, ho11, hou11, htr11, (unhide e2').symm, hfr11⟩, by simp [intOf]; omega⟩
          · have hk12 : k = (namesM was a b).length := by omega
            subst hk12
            rw [flK_all] at hfl hfll
            rw [outK_all] at hto
            have hbk := book_of_rows hou htr
            rw [hto] at hbk
            have hfat := slice_of_owns flawP (fun _ => rfl) hfl rfl
            have hfok := ok_of_owns hfl
            have hsok := ok_of_owns hou
            have hflen := hfat.1
            obtain ⟨OUT, hOUT⟩ : ∃ o, o = outOf was a b (namesM was a b) := ⟨_, rfl⟩
            obtain ⟨FL, hFL⟩ : ∃ o, o = flawsOf was a b (namesM was a b) := ⟨_, rfl⟩
            rw [← hOUT] at hbk hto
            rw [← hFL] at hfat hflen hfll hfl
            have HM := unhide HM
            have HOS := unhide HOS
            rw [← hOUT, ← hFL] at HM
            rw [← hOUT] at HOS
            have HM := hide HM
            have HBK := hide hbk
            have HFAT := hide hfat
            obtain ⟨o0, of⟩ := row1 hrO
            have hOz := lt_of_heap hrO
            obtain ⟨r0, rf⟩ := row1 rR
            have hwb : w.heap.size + 1 + 1 + 1 < base := by omega
            obtain ⟨fa, flen, fcap⟩ := fl
            simp only at hflen
            subst hflen
            have HROW := hide (And.intro hou (And.intro htr hto))
            have HFLR := hide hfl
            clear hfl hou htr hto hbk hfat hrO hfr kb hb0 hb1 hb2 HFL hOUT hFL HA
            by_cases hf0 : FL = []
            · subst hf0
              have HG := fun w' (hx : Ext wo w') => good_any sx OUT HOS.fits w' ((unhide HBK).ext hx) ((unhide Hw).ext (hE.trans hx))
              obtain ⟨g, hg⟩ : ∃ g, g = goodM OUT := ⟨_, rfl⟩
              simp only [← hg] at HG
              have HM := unhide HM
              rw [← hg, if_neg (by simp)] at HM
              have HM := hide HM
              clear hg HOS
              go_wp2_with fail
              refine (HG wo (Ext.refl wo)).mono ?_
              rintro e Wg ⟨rfl, xg⟩
              have o0 := xg.cell o0
              have rR := xg.heap rR
              obtain ⟨r0, rf⟩ := row1 rR
              have zR := lt_of_heap rR
              have hEg := hE.trans xg
              have hoz := xg.size
              by_cases hg0 : g = 0
              · subst hg0
                have hm : M = (OUT, [], 0) := by rw [unhide HM]; simp
                subst hm
                clear HM HG
                go_wp2
                have k0 : (Wg.setCell ⟨w.heap.size + 1 + 1 + 1, 0, none⟩ (.slice sx.a sx.len sx.cap)).cell? ⟨w.heap.size + 1 + 1 + 1, 0, none⟩ = some (.slice sx.a sx.len sx.cap) := (row1 (heap_setCell_same Wg _ 0 _ 24 (.slice sx.a sx.len sx.cap) rR)).1
                have hEs := hEg.setCell (p := ⟨w.heap.size + 1 + 1 + 1, 0, none⟩) (by simp only; omega) (.slice sx.a sx.len sx.cap)
                refine bodyPost_ret (v := .tuple #[.agg #[.slice sx.a sx.len sx.cap], .slice none 0 0, .int .i64 0]) (by clear rf of; simp [results, Tryd.results6, go_sem, k0]) rfl ⟨sx, ⟨none, 0, 0⟩, rfl, ?_, nilFlaws _, hsok, nil_ok, hEs⟩
                obtain ⟨hou, htr, hto⟩ := unhide HROW
                have hb := book_of_rows (ownsRow_setCell_below (a := ⟨w.heap.size + 1 + 1 + 1, 0, none⟩) (owns_ext hou xg) hwb (.slice sx.a sx.len sx.cap)) (fun p hp => (htr p hp).map fun _ h => ownsRow_setCell_below (owns_ext h xg) hwb _)
                rw [hto] at hb
                exact hb
              · have hm : M = ([], [], g) := by rw [unhide HM, if_pos (by simpa using hg0)]
                subst hm
                clear HM HG
                go_wp2
                have k0 : (Wg.setCell ⟨w.heap.size + 1 + 1 + 1, 0, none⟩ (.slice none 0 0)).cell? ⟨w.heap.size + 1 + 1 + 1, 0, none⟩ = some (.slice none 0 0) := (row1 (heap_setCell_same Wg _ 0 _ 24 (.slice none 0 0) rR)).1
                have hEs := hEg.setCell (p := ⟨w.heap.size + 1 + 1 + 1, 0, none⟩) (by simp only; omega) (.slice none 0 0)
                exact bodyPost_ret (v := .tuple #[.agg #[.slice none 0 0], .slice none 0 0, .int .i64 g]) (by clear rf of; simp [results, Tryd.results6, go_sem, k0]) rfl ⟨⟨none, 0, 0⟩, ⟨none, 0, 0⟩, rfl, nilBook _, nilFlaws _, nil_ok, nil_ok, hEs⟩
            · have hm : M = ([], FL, 9) := by rw [unhide HM, if_pos hf0]
              subst hm
              have hfp : 0 < FL.length := List.length_pos_iff.2 hf0
              clear HM HOS HBK
              go_wp2
              have k0 : (wo.setCell ⟨w.heap.size + 1 + 1 + 1, 0, none⟩ (.slice none 0 0)).cell? ⟨w.heap.size + 1 + 1 + 1, 0, none⟩ = some (.slice none 0 0) := (row1 (heap_setCell_same wo _ 0 _ 24 (.slice none 0 0) rR)).1
              have hEs := hE.setCell (p := ⟨w.heap.size + 1 + 1 + 1, 0, none⟩) (by simp only; omega) (.slice none 0 0)
              refine bodyPost_ret (v := .tuple #[.agg #[.slice none 0 0], .slice fa FL.length fcap, .int .i64 9]) (by clear rf of; simp [results, Tryd.results6, go_sem, k0]) rfl ⟨⟨none, 0, 0⟩, ⟨fa, FL.length, fcap⟩, rfl, nilBook _, ?_, nil_ok, hfok, hEs⟩
              exact slice_of_owns flawP (fun _ => rfl) (s := ⟨fa, FL.length, fcap⟩) (ownsRow_setCell_below (a := ⟨w.heap.size + 1 + 1 + 1, 0, none⟩) (unhide HFLR) hwb (.slice none 0 0)) rfl
      · have hm := unhide E1 (.inr (.inr g3))
        subst hm
        obtain ⟨r0, rf⟩ := row1 rR
        clear E1 E2
        go_wp2
        have k0 : (Wc.setCell ⟨w.heap.size + 1 + 1 + 1, 0, none⟩ (.slice none 0 0)).cell? ⟨w.heap.size + 1 + 1 + 1, 0, none⟩ = some (.slice none 0 0) := (row1 (heap_setCell_same Wc _ 0 _ 24 (.slice none 0 0) rR)).1
        have hEs := fc.setCell (p := ⟨w.heap.size + 1 + 1 + 1, 0, none⟩) (by simp only; omega) (.slice none 0 0)
        exact bodyPost_ret (v := .tuple #[.agg #[.slice none 0 0], .slice none 0 0, .int .i64 1]) (by clear rf; simp [results, Tryd.results6, go_sem, k0]) rfl ⟨⟨none, 0, 0⟩, ⟨none, 0, 0⟩, rfl, nilBook _, nilFlaws _, nil_ok, nil_ok, hEs⟩
    · have hm := unhide E1 (.inr (.inl g2))
      subst hm
      have rR := (xa.trans xb).heap hb3
      obtain ⟨r0, rf⟩ := row1 rR
      have zR := lt_of_heap rR
      clear E1 E2
      go_wp2
      have k0 : (Wb.setCell ⟨w.heap.size + 1 + 1 + 1, 0, none⟩ (.slice none 0 0)).cell? ⟨w.heap.size + 1 + 1 + 1, 0, none⟩ = some (.slice none 0 0) := (row1 (heap_setCell_same Wb _ 0 _ 24 (.slice none 0 0) rR)).1
      have hEs := fb.setCell (p := ⟨w.heap.size + 1 + 1 + 1, 0, none⟩) (by simp only; omega) (.slice none 0 0)
      exact bodyPost_ret (v := .tuple #[.agg #[.slice none 0 0], .slice none 0 0, .int .i64 1]) (by clear rf; simp [results, Tryd.results6, go_sem, k0]) rfl ⟨⟨none, 0, 0⟩, ⟨none, 0, 0⟩, rfl, nilBook _, nilFlaws _, nil_ok, nil_ok, hEs⟩
  · have hm := unhide E1 (.inl g1)
    subst hm
    have rR := xa.heap hb3
    obtain ⟨r0, rf⟩ := row1 rR
    have zR := lt_of_heap rR
    clear E1 E2
    go_wp2
    have k0 : (Wa.setCell ⟨w.heap.size + 1 + 1 + 1, 0, none⟩ (.slice none 0 0)).cell? ⟨w.heap.size + 1 + 1 + 1, 0, none⟩ = some (.slice none 0 0) := (row1 (heap_setCell_same Wa _ 0 _ 24 (.slice none 0 0) rR)).1
    have hEs := fa.setCell (p := ⟨w.heap.size + 1 + 1 + 1, 0, none⟩) (by simp only; omega) (.slice none 0 0)
    exact bodyPost_ret (v := .tuple #[.agg #[.slice none 0 0], .slice none 0 0, .int .i64 1]) (by clear rf; simp [results, Tryd.results6, go_sem, k0]) rfl ⟨⟨none, 0, 0⟩, ⟨none, 0, 0⟩, rfl, nilBook _, nilFlaws _, nil_ok, nil_ok, hEs⟩
end Go.Proofs.YtblkgaoafejefaaDoor
