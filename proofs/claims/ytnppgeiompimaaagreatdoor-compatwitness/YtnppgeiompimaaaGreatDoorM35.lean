import Derived.Test.YtnppgeiompimaaaGreatDoorM34
namespace Go.Proofs.YtnppgeiompimaaaGreatDoor
set_option linter.unusedSimpArgs false
set_option linter.unusedVariables false
set_option linter.unusedSimpArgs false
set_option linter.unusedVariables false
open Go.RowKit

theorem range12 {w : World} {b o : Nat} {c0 c1 c2 c3 c4 c5 c6 c7 c8 c9 c10 c11 : Value} (h : w.rangeAt b o [c0, c1, c2, c3, c4, c5, c6, c7, c8, c9, c10, c11]) :
    w.cell? ⟨b, o, none⟩ = some c0 ∧ w.cell? ⟨b, o + 1, none⟩ = some c1 ∧ w.cell? ⟨b, o + 2, none⟩ = some c2 ∧ w.cell? ⟨b, o + 3, none⟩ = some c3 ∧ w.cell? ⟨b, o + 4, none⟩ = some c4 ∧ w.cell? ⟨b, o + 5, none⟩ = some c5 ∧ w.cell? ⟨b, o + 6, none⟩ = some c6 ∧ w.cell? ⟨b, o + 7, none⟩ = some c7 ∧ w.cell? ⟨b, o + 8, none⟩ = some c8 ∧ w.cell? ⟨b, o + 9, none⟩ = some c9 ∧ w.cell? ⟨b, o + 10, none⟩ = some c10 ∧ w.cell? ⟨b, o + 11, none⟩ = some c11 :=
  ⟨h 0 _ rfl, h 1 _ rfl, h 2 _ rfl, h 3 _ rfl, h 4 _ rfl, h 5 _ rfl, h 6 _ rfl, h 7 _ rfl, h 8 _ rfl, h 9 _ rfl, h 10 _ rfl, h 11 _ rfl⟩
theorem pair_range {w : World} {B : Nat} {b c : Nat} {l : List PV} (h : w.ownsRow B 54 12 (.slice (some ⟨b, 0, none⟩) l.length c) l.length (l.flatMap encP)) {i : Nat} {x : PV} (hx : l[i]? = some x) : w.rangeAt b (i * 12) (encP x) := by
  obtain ⟨hin⟩ := inhP
  intro k v hv
  have hi := (List.getElem?_eq_some_iff.1 hx).1
  have e : l[i]! = x := by
    rw [List.getElem!_eq_getElem?_getD, hx]; rfl
  exact cell_owns h (encP_at hi (by rw [e]; exact hv))
def foldJ (ws rs : BookM) (i : Nat) (q : PairM) (lp : List PairM) (j : Nat) : List PairM := (q.a.fields.take j).foldl (stepP ws rs i q) lp
theorem foldJ_succ {ws rs : BookM} {i : Nat} {q : PairM} {lp : List PairM} {j : Nat} (h : j < q.a.fields.length) : foldJ ws rs i q lp (j + 1) = stepP ws rs i q (foldJ ws rs i q lp j) q.a.fields[j] := by
  unfold foldJ
  rw [List.take_succ_eq_append_getElem h, List.foldl_append]; rfl
theorem foldJ_all {ws rs : BookM} {i : Nat} {q : PairM} {lp : List PairM} : foldJ ws rs i q lp q.a.fields.length = expandP ws rs i q lp := by unfold foldJ expandP; rw [List.take_length]
def Box12 (w : World) (b : Nat) (x : PV) : Prop := w.heap[b]? = some (.cells (encP x).toArray 54 (0, 0))
set_option maxHeartbeats 12800000 in
set_option maxRecDepth 10000 in
theorem reached_any (s1 s2 : SV) (ws rs : BookM) (pv : PV) (first : PairM) (w : World) (h1 : BookAt w s1 ws) (h2 : BookAt w s2 rs) (n1 : ws.Small) (n2 : rs.Small) (hw : goodM ws = 0) (hr : goodM rs = 0) (ha : Msg ws first.a) (hb : Msg rs first.b)
    (pa : TypeAt w pv.a first.a) (pb : TypeAt w pv.b first.b) (ps : pv.src = first.src) (pi : pv.id = first.id) (hfl : ∀ t, Msg ws t → t.fields.length ≤ 1000) (hfr : ∀ t, Msg rs t → t.fields.length ≤ 1000) :
    Calls Tryz.prog 23 #[.agg #[.slice s1.a s1.len s1.cap, .slice s2.a s2.len s2.cap], .agg (encP pv).toArray] w fun e w' => ∃ (sv : SV) (lv : List PV) (B T : Nat) (ob : Option Nat), e = .returned (.slice sv.a sv.len sv.cap) ∧ w'.ownsRow B 54 12 (.slice sv.a sv.len sv.cap) lv.length (lv.flatMap encP) ∧ PairsOk w' T ob lv (reachM ws rs first) ∧ Ext w w' := by
  obtain ⟨W2, hW2⟩ : ∃ W2, W2 = (w.alloc (.cells #[.slice s1.a s1.len s1.cap, .slice s2.a s2.len s2.cap] 52)).alloc (.cells (encP pv).toArray 54) := ⟨_, rfl⟩
  obtain ⟨hx2, hz2, r0, r1⟩ := heaps2 hW2
  obtain ⟨W, hW⟩ : ∃ W, W = (W2.alloc (.cells (encP pv).toArray 54)).alloc (.cells #[.slice (some ⟨W2.heap.size, 0, none⟩) 1 1] 57) := ⟨_, rfl⟩
  obtain ⟨hxW, hzW, rA, rT⟩ := heaps2 hW
  have hz2' : W2.heap.size = w.heap.size + 1 + 1 := hz2
  rw [hz2'] at rT rA hzW hW
  rw [hW2] at hW
  have HWt := fun f g w' (hx : Ext w w') => within_any s1 s2 ws rs f g w' (h1.ext hx) (h2.ext hx) n1 n2
  have hPJ : PJ W (w.heap.size + 1 + 1) (w.heap.size + 1 + 1 + 1) (.slice (some ⟨w.heap.size + 1 + 1, 0, none⟩) 1 1) [pv] := ⟨rT, ⟨rfl, .inr ⟨_, 1, _, rfl, Nat.le_refl _, rA, Nat.le_refl _, by unfold maxLen; omega, rfl, rfl⟩⟩⟩
  have hP1 : PairsOk W (w.heap.size + 1 + 1 + 1) (some (w.heap.size + 1 + 1)) [pv] [first] := ⟨rfl, fun i x p hx hp => by
    have hi : i = 0 := by have := (List.getElem?_eq_some_iff.1 hx).1; simp at this; omega
    subst hi; cases hx; cases hp
    exact PairOk.old pa pb ps pi (hx2.trans hxW) (by omega) (fun k hk => by cases hk; omega)⟩
  have hR1 : Reach ws rs first [first] := by
    obtain ⟨a, b, c, d⟩ := first
    exact reach_first ha hb
  have hE0 := hx2.trans hxW
  have HW := hide hW
  clear hW hW2 h1 h2 n1 n2 pa pb ps pi ha hb
  obtain ⟨a0, a1, _⟩ := rowN2 r0
  obtain ⟨d0, d1, d2, d3, d4, d5, d6, d7, d8, d9, d10, d11, _⟩ := rowN12 r1
  have HPJ := hide hPJ
  have HWt := hide HWt
  clear hPJ
  simp only [encP] at HW ⊢
  go_enter Tryz.func23, Tryz.ntmps23
  go_wp2
  rw [← unhide HW]
  clear a0 a1 d0 d1 d2 d3 d4 d5 d6 d7 d8 d9 d10 d11
  go_loopw [7] (fun u wr => ∃ (i : Nat) (lp : List PairM) (lv : List PV) (v : Value), u = .int .i64 i ∧ i ≤ lp.length ∧ Reach ws rs first lp ∧ reachM ws rs first = reachF ws rs (17 - i) i lp ∧ PJ wr (w.heap.size + 1 + 1) (w.heap.size + 1 + 1 + 1) v lv ∧ PairsOk wr (w.heap.size + 1 + 1 + 1) v.ownBlock lv lp ∧ Ext W2 wr) (fun u _ => 17 - (intOf u).toNat)
  case atStart => exact ⟨0, [first], [pv], _, rfl, by simp, hR1, rfl, unhide HPJ, hP1, hxW⟩
  case round =>
    obtain ⟨i, lp, lv, v, rfl, hi, hRe, hq, hJ, hP, hE⟩ := hrel
    have hlen := hRe.len hw hr
    have hll := hP.1
    obtain ⟨c0, _⟩ := row1 hJ.row
    have hown := hJ.own
    rcases hown.2 with ⟨e, e'⟩ | ⟨g, cap, cur, rfl, hBg, hg, hrest⟩
    · exfalso
      have := (List.getElem?_eq_some_iff.1 hRe.first).1
      omega
    · clear hrest
      by_cases hlt : i < lv.length
      · obtain ⟨x, hx⟩ : ∃ x, lv[i]? = some x := ⟨lv[i], by simp [hlt]⟩
        obtain ⟨q, hq'⟩ : ∃ q, lp[i]? = some q := ⟨lp[i]'(by omega), by simp⟩
        obtain ⟨e0, e1, e2, e3, e4, e5, e6, e7, e8, e9, e10, e11⟩ := range12 (pair_range hown hx)
        have hOk := hP.2 i x q hx hq'
        have hMq := hRe.msg q (List.mem_of_getElem? hq')
        have hnx : Hid (reachM ws rs first = reachF ws rs (17 - (i + 1)) (i + 1) (expandP ws rs i q lp)) := by
          rw [hq, show 17 - i = (17 - (i + 1)) + 1 by omega]
          show reachF ws rs ((17 - (i + 1)) + 1) i lp = _
          rw [reachF, hq']
        have HJ := hide hJ
        have HP := hide hP
        have zT := lt_of_heap hJ.row
        clear hq hJ hP hown
        have hxB : Ext wr (wr.alloc (.cells (encP x).toArray 54)) := (Ext.refl wr).alloc _
        have hB12 : Box12 (wr.alloc (.cells (encP x).toArray 54)) wr.heap.size x := heap_alloc_new wr _
        have hEB := hE.trans hxB
        obtain ⟨hfl1, HFx⟩ := hOk.a.fields
        have hql := hfl _ hMq.1
        have hqr := hfr _ hMq.2
        have hgz := lt_of_heap hg
        have hne8 : some wr.heap.size ≠ some g := fun e => by cases e; omega
        have HOk := hide (And.intro hOk HFx)
        have HJB := hide (PJ.ext (unhide HJ) hxB)
        have HPB := hide ((unhide HP).ext hxB)
        have HOB := hide (hOk.ext hxB)
        clear hOk HFx
        obtain ⟨⟨xn, xe, ⟨xfa, xfl, xfc⟩, xg, xi⟩, xb, xs, xid⟩ := x
        simp only at hfl1
        subst hfl1
        have Hx := hide hx
        have HB12 := hide hB12
        have hx' := hide hxB
        simp only [encP] at e0 e1 e2 e3 e4 e5 e6 e7 e8 e9 e10 e11
        clear hx hB12 hxB hE
        go_wp2
        rename World => wo
        clear e0 e1 e2 e3 e4 e5 e6 e7 e8 e9 e10 e11 c0
        go_loopw [31] (fun u wq => ∃ (j : Nat) (lv' : List PV) (v' : Value), u = .int .i64 j ∧ j ≤ q.a.fields.length ∧ PJ wq (w.heap.size + 1 + 1) (w.heap.size + 1 + 1 + 1) v' lv' ∧ PairsOk wq (w.heap.size + 1 + 1 + 1) v'.ownBlock lv' (foldJ ws rs i q lp j) ∧ PairOk wq (w.heap.size + 1 + 1 + 1) v'.ownBlock ⟨⟨xn, xe, ⟨xfa, q.a.fields.length, xfc⟩, xg, xi⟩, xb, xs, xid⟩ q ∧ Box12 wq wo.heap.size ⟨⟨xn, xe, ⟨xfa, q.a.fields.length, xfc⟩, xg, xi⟩, xb, xs, xid⟩ ∧ some wo.heap.size ≠ v'.ownBlock ∧ Ext W2 wq) (fun u _ => q.a.fields.length - (intOf u).toNat)
        case atStart => exact ⟨0, lv, _, rfl, by omega, unhide HJB, unhide HPB, unhide HOB, unhide HB12, hne8, hEB⟩
        case round =>
          obtain ⟨j, lv', v', rfl, hj, hJ, hP, hO, hB, hn, hE⟩ := hrel
          have hReJ : Reach ws rs first (foldJ ws rs i q lp j) := (reach_expand hw hr (fs := q.a.fields.take j) (fun f hf => List.mem_of_mem_take hf) hRe hq').1
          have hlJ := hReJ.len hw hr
          have hllJ := hP.1
          have h0J := (List.getElem?_eq_some_iff.1 hReJ.first).1
          by_cases hlj : j < q.a.fields.length
          · obtain ⟨ib, io, cs, eia, hri, rfl⟩ := hO.a.fields.2 j q.a.fields[j] (by simp [hlj])
            simp only at eia
            subst eia
            obtain ⟨i0, i1, i2, i3, i4⟩ := range5 hri
            have hfo := foldJ_succ (ws := ws) (rs := rs) (i := i) (lp := lp) hlj
            have hfm : q.a.fields[j] ∈ q.a.fields := List.getElem_mem hlj
            generalize q.a.fields[j] = f at *
            obtain ⟨d0, d1, d2, d3, d4, d5, d6, d7, d8, d9, d10, d11, _⟩ := rowN12 hB
            have z8 := lt_of_heap hB
            obtain ⟨a0, a1, _⟩ := rowN2 (hE.heap r0)
            have z0 := lt_of_heap (hE.heap r0)
            have zT := lt_of_heap hJ.row
            have hxF : Ext wr (wr.alloc (.cells #[.int .i64 f.id, .string f.name, .string f.type, .int .i64 f.kind, .int .i64 f.rule] 70)) := (Ext.refl wr).alloc _
            have rF : (wr.alloc (.cells #[.int .i64 f.id, .string f.name, .string f.type, .int .i64 f.kind, .int .i64 f.rule] 70)).heap[wr.heap.size]? = some (.cells #[.int .i64 f.id, .string f.name, .string f.type, .int .i64 f.kind, .int .i64 f.rule] 70 (0, 0)) := heap_alloc_new wr _
            have hcF := fieldOf_any xb q.b f.id _ ((hO.b).ext hxF) (by omega)
            have HJ1 := hide hJ
            have HP1 := hide hP
            have HO1 := hide hO
            have HB1 := hide hB
            clear hJ hP hO hB hri
            cases hfb : fieldM q.b f.id with
            | none =>
              have hst : foldJ ws rs i q lp (j + 1) = foldJ ws rs i q lp j := by rw [hfo]; unfold stepP; simp only [hfb]
              rw [hfb] at hcF
              have Hc := hide hcF
              have Hst := hide hst
              clear hcF hfo hst
              go_wp2_with fail
              refine (unhide Hc).mono ?_
              rintro e w3 ⟨rfl, x3⟩
              have f3 := (hxF.trans x3)
              have HX := hide f3
              clear d0 d1 d2 d3 d4 d5 d6 d7 d8 d9 d10 d11 i0 i1 i2 i3 i4 a0 a1 rF Hc
              go_wp2
              exact ⟨⟨j + 1, lv', v', by go_num, by omega, (unhide HJ1).ext ((unhide HX).alloc _), by rw [unhide Hst]; exact (unhide HP1).ext ((unhide HX).alloc _), (unhide HO1).ext ((unhide HX).alloc _), ((unhide HX).alloc _).heap (unhide HB1), hn, hE.trans ((unhide HX).alloc _)⟩, by simp [intOf]; omega⟩
            | some g' =>
              rw [hfb] at hcF
              have Hc := hide hcF
              clear hcF
              by_cases hk : f.kind = 5 ∧ g'.kind = 5
              · have hst : foldJ ws rs i q lp (j + 1) = addP (foldJ ws rs i q lp j) ⟨typeM ws f, typeM rs g', i, f.id⟩ := by rw [hfo]; unfold stepP; simp only [hfb]; rw [if_pos hk]
                have hwt := fun w' hx => unhide HWt f g' w' hx
                generalize typeM ws f = tf at *
                generalize typeM rs g' = tg at *
                have Hst := hide hst
                have hwt := hide hwt
                clear hst hfo hfb hfm
                obtain ⟨hk1, hk2⟩ := hk
                obtain ⟨fi, fn, ft, fk, fr⟩ := f
                obtain ⟨gi, gn, gt, gk, gr⟩ := g'
                simp only at hk1 hk2 i0 i1 i2 i3 i4 hxF rF Hc Hst hwt
                subst hk1 hk2
                go_wp2_with fail
                refine (unhide Hc).mono ?_
                rintro e w3 ⟨rfl, x3⟩
                have f3 := hxF.trans x3
                have rF3 := x3.heap rF
                obtain ⟨f0, f1, f2, f3', f4, _⟩ := rowN5 rF3
                have zF3 := lt_of_heap rF3
                clear d0 d1 d2 d3 d4 d5 d6 d7 d8 d9 d10 d11 i0 i1 i2 i3 i4 a0 a1 Hc
                obtain ⟨a0, a1, _⟩ := rowN2 ((hE.trans f3).heap r0)
                have z03 := lt_of_heap ((hE.trans f3).heap r0)
                have hxG : Ext w3 (w3.alloc (.cells #[.int .i64 gi, .string gn, .string gt, .int .i64 5, .int .i64 gr] 70)) := (Ext.refl w3).alloc _
                have hwt2 := unhide hwt _ (((hx2.trans hE).trans f3).trans hxG)
                have Hwt := hide hwt2
                have f3g := f3.trans hxG
                clear hwt hwt2
                go_wp2_with fail
                refine (unhide Hwt).mono ?_
                rintro e w5 ⟨tv, uv, rfl, ht, hu, x5, frt, fru⟩
                have f5 := f3g.trans x5
                have rF5 := (hxG.trans x5).heap rF3
                have hsG := f3g.size
                have zTG : w.heap.size + 1 + 1 + 1 < (w3.alloc (.cells #[.int .i64 gi, .string gn, .string gt, .int .i64 5, .int .i64 gr] 70)).heap.size := by omega
                have hobG : ∀ k, v'.ownBlock = some k → k < (w3.alloc (.cells #[.int .i64 gi, .string gn, .string gt, .int .i64 5, .int .i64 gr] 70)).heap.size := fun k hk => by have := ((unhide HJ1).own.lt k hk).2; omega
                obtain ⟨W6, hW6⟩ : ∃ W6, W6 = w5.alloc (.cells #[.string tv.name, .bool tv.enum, .slice tv.fields.a tv.fields.len tv.fields.cap, .slice tv.gone.a tv.gone.len tv.gone.cap, .slice tv.items.a tv.items.len tv.items.cap, .string uv.name, .bool uv.enum, .slice uv.fields.a uv.fields.len uv.fields.cap, .slice uv.gone.a uv.gone.len uv.gone.cap, .slice uv.items.a uv.items.len uv.items.cap, .int .i64 0, .int .i64 0] 54) := ⟨_, rfl⟩
                have h56 : Ext w5 W6 := by rw [hW6]; exact (Ext.refl w5).alloc _
                have r6 : W6.heap[w5.heap.size]? = some (.cells #[.string tv.name, .bool tv.enum, .slice tv.fields.a tv.fields.len tv.fields.cap, .slice tv.gone.a tv.gone.len tv.gone.cap, .slice tv.items.a tv.items.len tv.items.cap, .string uv.name, .bool uv.enum, .slice uv.fields.a uv.fields.len uv.fields.cap, .slice uv.gone.a uv.gone.len uv.gone.cap, .slice uv.items.a uv.items.len uv.items.cap, .int .i64 0, .int .i64 0] 54 (0, 0)) := by rw [hW6]; exact heap_alloc_new w5 _
                have HW6 := hide hW6
                have Hm := hide (And.intro zTG hobG)
                have Hf := hide (And.intro frt fru)
                have Htu := hide (And.intro ht hu)
                clear hW6 f0 f1 f2 f3' f4 a0 a1 Hwt zTG hobG frt fru ht hu
                go_wp2
                rw [← unhide HW6]
                refine wp_region_X (fun w' => w'.heap[wr.heap.size]? = some (.cells #[.int .i64 fi, .string fn, .string ft, .int .i64 5, .int .i64 fr] 70 (0, 0))) (fun _ => false) (by kernel_rfl) ?_
                obtain ⟨Wd, hWd⟩ : ∃ Wd, Wd = W6.drew := ⟨_, rfl⟩
                have fd : Ext W6 Wd := by rw [hWd]; exact (Ext.refl W6).drew
                rw [← hWd]
                clear hWd
                have hS0 : Wd.heap[wr.heap.size]? = some (.cells #[.int .i64 fi, .string fn, .string ft, .int .i64 5, .int .i64 fr] 70 (0, 0)) := (h56.trans fd).heap rF5
                have rd := fd.heap r6
                refine wpAnyX_take (i := 0) (v := .int .i64 i) rfl (by kernel_rfl) (by kernel_rfl) (fun _ _ _ h => h) (.inl ⟨rfl, fun w' hS => by simp [execOp, go_sem]⟩) (hS0) ?_
                simp only [Act.put, List.getElem_toArray, List.getElem_cons_zero, List.getElem_cons_succ, List.setIfInBounds_toArray, List.set_cons_succ, List.set_cons_zero]
                refine wpAnyX_take (i := 1) (v := .pointer (some ⟨wr.heap.size, 0, none⟩)) rfl (by kernel_rfl) (by kernel_rfl) (fun _ _ _ h => h) (.inl ⟨rfl, fun w' hS => by simp [execOp, go_sem]⟩) (hS0) ?_
                simp only [Act.put, List.getElem_toArray, List.getElem_cons_zero, List.getElem_cons_succ, List.setIfInBounds_toArray, List.set_cons_succ, List.set_cons_zero]
                refine wpAnyX_take (i := 2) (v := .int .i64 fi) rfl (by kernel_rfl) (by kernel_rfl) (fun _ _ _ h => h) (.inl ⟨rfl, fun w' hS => by simp [execOp, go_sem, (rowN5 hS).1]⟩) (hS0) ?_
                simp only [Act.put, List.getElem_toArray, List.getElem_cons_zero, List.getElem_cons_succ, List.setIfInBounds_toArray, List.set_cons_succ, List.set_cons_zero]
                refine wpAnyX_take (i := 3) (v := .pointer (some ⟨w5.heap.size, 10, none⟩)) rfl (by kernel_rfl) (by kernel_rfl) (fun _ _ _ h => h) (.inl ⟨rfl, fun w' hS => by simp [execOp, go_sem]⟩) (hS0) ?_
                simp only [Act.put, List.getElem_toArray, List.getElem_cons_zero, List.getElem_cons_succ, List.setIfInBounds_toArray, List.set_cons_succ, List.set_cons_zero]
                have h10 := heap_setCell_same Wd w5.heap.size 10 _ 54 (.int .i64 i) rd
                simp only [List.setIfInBounds_toArray, List.set_cons_succ, List.set_cons_zero] at h10
                have h11 := heap_setCell_same _ w5.heap.size 11 _ 54 (.int .i64 fi) h10
                simp only [List.setIfInBounds_toArray, List.set_cons_succ, List.set_cons_zero] at h11
                obtain ⟨W7, hW7⟩ : ∃ W7, W7 = Wd.setCell ⟨w5.heap.size, 10, none⟩ (.int .i64 i) := ⟨_, rfl⟩
                rw [← hW7] at h10 h11
                obtain ⟨W8, hW8⟩ : ∃ W8, W8 = W7.setCell ⟨w5.heap.size, 11, none⟩ (.int .i64 fi) := ⟨_, rfl⟩
                have f57 : Ext w5 W7 := by rw [hW7]; exact (h56.trans fd).setCell (Nat.le_refl _) _
                have f58 : Ext w5 W8 := by rw [hW8]; exact f57.setCell (Nat.le_refl _) _
                rw [← hW8] at h11
                have HW7 := hide hW7
                have HW8 := hide hW8
                have zd := lt_of_heap rd
                have zd7 := lt_of_heap h10
                obtain ⟨m0, m1, m2, m3, m4, m5, m6, m7, m8, m9, m10, m11, mf⟩ := rowN12 rd
                clear hW8 hW7
                refine wpAnyX_one (j := 4) rfl (by kernel_rfl) rfl fun K hK => ?_
                go_wp2
                rw [← unhide HW7]
                refine hK.out _ _ ((f57.heap rF5)) ?_
                clear hK K
                refine wpAnyX_take (i := 5) (v := .pointer (some ⟨w5.heap.size, 11, none⟩)) rfl (by kernel_rfl) (by kernel_rfl) (fun _ _ _ h => h) (.inl ⟨rfl, fun w' hS => by simp [execOp, go_sem]⟩) ((f57.heap rF5)) ?_
                simp only [Act.put, List.getElem_toArray, List.getElem_cons_zero, List.getElem_cons_succ, List.setIfInBounds_toArray, List.set_cons_succ, List.set_cons_zero]
                clear m0 m1 m2 m3 m4 m5 m6 m7 m8 m9 m10 m11 mf
                obtain ⟨m0, m1, m2, m3, m4, m5, m6, m7, m8, m9, m10, m11, mf⟩ := rowN12 h10
                refine wpAnyX_one (j := 6) rfl (by kernel_rfl) rfl fun K hK => ?_
                go_wp2
                rw [← unhide HW8]
                refine hK.out _ _ ((f58.heap rF5)) ?_
                clear hK K
                refine wpAnyX_end [] [] rfl (by intro j i hj; simp at hj) (by kernel_rfl) (by intro i hi; simp at hi) fun K hK => ?_
                go_wp2
                refine hK.out _ _ ?_
                clear hK K
                clear m0 m1 m2 m3 m4 m5 m6 m7 m8 m9 m10 m11 mf
                obtain ⟨m0, m1, m2, m3, m4, m5, m6, m7, m8, m9, m10, m11, _⟩ := rowN12 h11
                have zd8 := lt_of_heap h11
                have f8 := f5.trans f58
                have hs8 := f8.size
                have hA := addp_any ⟨tv, uv, i, fi⟩ (w.heap.size + 1 + 1) (w.heap.size + 1 + 1 + 1) v' lv' W8 ((unhide HJ1).ext f8) (by omega) (fun e => by rw [e] at hllJ; simp at hllJ; omega) (by omega)
                have HA := hide hA
                clear hA rd h11
                go_wp2_with fail
                refine (unhide HA).mono ?_
                rintro e w9 ⟨rfl, ⟨v9, hJ9, hb9⟩, hf9, hs9, hx9⟩
                have hnew : PairOk W8 (w.heap.size + 1 + 1 + 1) v'.ownBlock ⟨tv, uv, i, fi⟩ ⟨tf, tg, i, fi⟩ :=
                  PairOk.new ((unhide Htu).1.ext f58) ((unhide Htu).2.ext f58) rfl rfl (unhide Hf).1 (unhide Hf).2 (unhide Hm).1 (unhide Hm).2
                have hP9 := (((unhide HP1).ext f8).add hnew).frame hf9 hs9 hb9
                rw [← unhide Hst] at hP9
                have hO9 := ((unhide HO1).ext f8).frame hf9 hs9 hb9
                have hB9 := (hf9 wo.heap.size (by omega) (by omega) hn).trans (f8.heap (unhide HB1))
                have hn9 : some wo.heap.size ≠ v9.ownBlock := by
                  rcases hb9 with e | e
                  · rw [e]; exact hn
                  · intro h; have := e _ h.symm; omega
                have hE9 : Ext W2 w9 := hx9 W2 (hE.trans f8) (by omega) (by omega)
                have H9 := hide (And.intro hJ9 (And.intro hP9 (And.intro hO9 (And.intro hB9 hE9))))
                clear hJ9 hP9 hO9 hB9 hE9 hb9 hf9 hs9 hx9 hnew m0 m1 m2 m3 m4 m5 m6 m7 m8 m9 m10 m11 HA
                go_wp2
                obtain ⟨hJ9, hP9, hO9, hB9, hE9⟩ := unhide H9
                exact ⟨⟨j + 1, addV lv' ⟨tv, uv, i, fi⟩, v9, by go_num, by omega, hJ9, hP9, hO9, hB9, hn9, hE9⟩, by simp [intOf]; omega⟩
              · have hst : foldJ ws rs i q lp (j + 1) = foldJ ws rs i q lp j := by rw [hfo]; unfold stepP; simp only [hfb]; rw [if_neg hk]
                have Hst := hide hst
                clear hfo hst hfb
                have hkb : ((f.kind == 5) && (g'.kind == 5)) = false := by
                  rw [Bool.and_eq_false_iff]
                  by_cases h5 : f.kind = 5
                  · exact .inr (by simpa using fun h => hk ⟨h5, h⟩)
                  · exact .inl (by simpa using h5)
                clear hk
                cases hf5 : (f.kind == 5) with
                | false =>
                  clear hkb
                  go_wp2_with fail
                  refine (unhide Hc).mono ?_
                  rintro e w3 ⟨rfl, x3⟩
                  have f3 := hxF.trans x3
                  have HX := hide f3
                  have rF3 := x3.heap rF
                  obtain ⟨f0, f1, f2, f3', f4, _⟩ := rowN5 rF3
                  have zF3 := lt_of_heap rF3
                  clear d0 d1 d2 d3 d4 d5 d6 d7 d8 d9 d10 d11 i0 i1 i2 i3 i4 a0 a1 rF Hc f3
                  go_wp2
                  exact ⟨⟨j + 1, lv', v', by go_num, by omega, (unhide HJ1).ext ((unhide HX).alloc _), by rw [unhide Hst]; exact (unhide HP1).ext ((unhide HX).alloc _), (unhide HO1).ext ((unhide HX).alloc _), ((unhide HX).alloc _).heap (unhide HB1), hn, hE.trans ((unhide HX).alloc _)⟩, by simp [intOf]; omega⟩
                | true =>
                  rw [hf5, Bool.true_and] at hkb
                  go_wp2_with fail
                  refine (unhide Hc).mono ?_
                  rintro e w3 ⟨rfl, x3⟩
                  have f3 := hxF.trans x3
                  have HX := hide f3
                  have rF3 := x3.heap rF
                  obtain ⟨f0, f1, f2, f3', f4, _⟩ := rowN5 rF3
                  have zF3 := lt_of_heap rF3
                  clear d0 d1 d2 d3 d4 d5 d6 d7 d8 d9 d10 d11 i0 i1 i2 i3 i4 a0 a1 rF Hc f3
                  go_wp2
                  exact ⟨⟨j + 1, lv', v', by go_num, by omega, (unhide HJ1).ext ((unhide HX).alloc _), by rw [unhide Hst]; exact (unhide HP1).ext ((unhide HX).alloc _), (unhide HO1).ext ((unhide HX).alloc _), ((unhide HX).alloc _).heap (unhide HB1), hn, hE.trans ((unhide HX).alloc _)⟩, by simp [intOf]; omega⟩
          · have hje : j = q.a.fields.length := by omega
            subst hje
            rw [foldJ_all] at hP
            have HJ1 := hide hJ
            have HP1 := hide hP
            have hRx : Reach ws rs first (expandP ws rs i q lp) := by rw [foldJ_all] at hReJ; exact hReJ
            have hlx : i + 1 ≤ (expandP ws rs i q lp).length := by
              obtain ⟨m, hm⟩ := (reach_expand hw hr (fs := q.a.fields) (fun f hf => hf) hRe hq').2.1
              have : expandP ws rs i q lp = lp ++ m := hm
              rw [this, List.length_append]; omega
            clear hJ hP
            go_wp2
            exact ⟨⟨i + 1, expandP ws rs i q lp, lv', v', by go_num, hlx, hRx, unhide hnx, unhide HJ1, unhide HP1, hE⟩, by simp [intOf]; omega⟩
      · have hie : i = lp.length := by omega
        have hend : reachF ws rs (17 - i) i lp = lp := by
          rw [show 17 - i = (16 - i) + 1 by omega, reachF, hie, List.getElem?_eq_none (Nat.le_refl _)]
        rw [hend] at hq
        have Hq := hide hq
        have HJ := hide hJ
        have HP := hide hP
        clear hq hJ hP hown hend
        go_wp2
        exact bodyPost_ret (v := .slice (some ⟨g, 0, none⟩) lv.length cap) (by simp [results, Tryz.results23, go_sem]; omega) rfl ⟨⟨some ⟨g, 0, none⟩, lv.length, cap⟩, lv, _, _, _, rfl, (unhide HJ).own, by rw [unhide Hq]; exact unhide HP, hx2.trans hE⟩
end Go.Proofs.YtnppgeiompimaaaGreatDoor

