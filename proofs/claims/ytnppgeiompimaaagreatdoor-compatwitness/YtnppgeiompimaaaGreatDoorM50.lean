import Derived.Test.YtnppgeiompimaaaGreatDoorM49
namespace Go.Proofs.YtnppgeiompimaaaGreatDoor
set_option linter.unusedSimpArgs false
set_option linter.unusedVariables false
set_option linter.unusedSimpArgs false
set_option linter.unusedVariables false
open Go.RowKit

def aroundP (w : BookM) (id : Int) (vs : List ValueM) (f : FieldM) : List (Int × ValueM) := if f.id = id then vs.map (fun x => (id, x)) else if f.rule = 1 then [(f.id, leastF w (leastV w 4) f)] else []
theorem around_step {w : BookM} {id : Int} {vs : List ValueM} {l : List FieldM} {j : Nat} {f : FieldM} (h : l[j]? = some f) : aroundL w id vs (l.take (j + 1)) = aroundL w id vs (l.take j) ++ aroundP w id vs f := by
  unfold aroundL
  rw [List.take_add_one, h, List.flatMap_append]
  simp [aroundP]
theorem aroundP_len {w : BookM} {id : Int} {vs : List ValueM} {f : FieldM} : (aroundP w id vs f).length ≤ vs.length + 1 := by
  unfold aroundP
  split
  · simp
  · split <;> simp
set_option maxHeartbeats 25600000 in
set_option maxRecDepth 10000 in
theorem around_any (s1 s2 : SV) (ws : BookM) (tv uv : TV) (t : TypeM) (sr pid id : Int) (sv : SV) (vs : List ValueM) (S : Nat → Prop) (Kh : Nat) (w : World) (hSb : ∀ b, S b → b < w.heap.size) (h1 : BookAt w s1 ws) (hw : WordsAt w) (n1 : ws.Fits) (hgw : goodM ws = 0) (ht : TypeAt w tv t) (hmt : Msg ws t)
    (hv : SliceAt 5 (ValueAtP S (Kh + 5)) w sv vs) (hva : ∀ ad, sv.a = some ad → ad.block < w.heap.size) (hvl : vs.length ≤ 1000) :
    Calls Tryz.prog 42 #[.agg #[.slice s1.a s1.len s1.cap, .slice s2.a s2.len s2.cap], .agg #[.string tv.name, .bool tv.enum, .slice tv.fields.a tv.fields.len tv.fields.cap, .slice tv.gone.a tv.gone.len tv.gone.cap, .slice tv.items.a tv.items.len tv.items.cap, .string uv.name, .bool uv.enum, .slice uv.fields.a uv.fields.len uv.fields.cap, .slice uv.gone.a uv.gone.len uv.gone.cap, .slice uv.items.a uv.items.len uv.items.cap, .int .i64 sr, .int .i64 pid], .int .i64 id, .slice sv.a sv.len sv.cap] w fun e w' => ∃ ids' l' : SV, e = .returned (.agg #[.int .i64 2, .int .i64 0, .string ⟨#[]⟩, .slice ids'.a ids'.len ids'.cap, .slice l'.a l'.len l'.cap]) ∧
      ValueAtP (fun b => (S b ∨ w.heap.size ≤ b) ∧ b < w'.heap.size) (Kh + 6) w' [.int .i64 2, .int .i64 0, .string ⟨#[]⟩, .slice ids'.a ids'.len ids'.cap, .slice l'.a l'.len l'.cap] (aroundM ws t id vs) ∧ Ext w w' := by
  have HLC := fun g (hg : fieldM t g.id = some g) w' (hx : Ext w w') => leastG_any s1 ws tv t g w' (h1.ext hx) (hw.ext hx) n1 (good_small hgw) hgw hmt ht.name hg
  have Hfind := fun g (hg : g ∈ t.fields) => hmt.find hgw hg
  have hul := hmt.len hgw
  obtain ⟨PJ, hPJ⟩ : ∃ PJ : Nat → List (Int × ValueM), PJ = fun j => aroundL ws id vs (t.fields.take j) := ⟨_, rfl⟩
  have hP0 : PJ 0 = [] := by rw [hPJ]; rfl
  have hPs : ∀ (j : Nat) (g : FieldM), t.fields[j]? = some g → PJ (j + 1) = PJ j ++ aroundP ws id vs g := fun j g hg => by rw [hPJ]; exact around_step hg
  have hPl : ∀ j, (PJ j).length ≤ 1001 * j := fun j => by
    induction j with
    | zero => rw [hP0]; simp
    | succ j ihj =>
      cases hg : t.fields[j]? with
      | none =>
        have : PJ (j + 1) = PJ j := by rw [hPJ]; simp only; rw [List.take_add_one, hg]; simp
        rw [this]; omega
      | some g =>
        rw [hPs j g hg, List.length_append]
        have a := aroundP_len (w := ws) (id := id) (vs := vs) (f := g)
        omega
  have hPA : aroundM ws t id vs = ⟨2, 0, ⟨#[]⟩, (PJ t.fields.length).map (·.1), (PJ t.fields.length).map (·.2)⟩ := by
    rw [hPJ]
    simp only
    rw [List.take_length]
    rfl
  generalize aroundM ws t id vs = Y at *
  have hPs1 : ∀ (j : Nat) (g : FieldM), t.fields[j]? = some g → g.id = id → (PJ (j + 1)).map (·.1) = (PJ j).map (·.1) ++ vs.map (fun _ => id) ∧ (PJ (j + 1)).map (·.2) = (PJ j).map (·.2) ++ vs := fun j g hg e => by
    rw [hPs j g hg]; unfold aroundP; rw [if_pos e, List.map_append, List.map_append]; simp [Function.comp_def]
  obtain ⟨LF, hLF⟩ : ∃ LF, LF = leastF ws (leastV ws 4) := ⟨_, rfl⟩
  rw [← hLF] at HLC
  have hPs2 : ∀ (j : Nat) (g : FieldM), t.fields[j]? = some g → g.id ≠ id → g.rule = 1 → (PJ (j + 1)).map (·.1) = (PJ j).map (·.1) ++ [g.id] ∧ (PJ (j + 1)).map (·.2) = (PJ j).map (·.2) ++ [LF g] := fun j g hg e er => by
    rw [hPs j g hg, hLF]; unfold aroundP; rw [if_neg e, if_pos er, List.map_append, List.map_append]; exact ⟨rfl, rfl⟩
  have hPs3 : ∀ (j : Nat) (g : FieldM), t.fields[j]? = some g → g.id ≠ id → g.rule ≠ 1 → PJ (j + 1) = PJ j := fun j g hg e er => by
    rw [hPs j g hg]; unfold aroundP; rw [if_neg e, if_neg er, List.append_nil]
  obtain ⟨W0, hW0⟩ : ∃ W0, W0 = ((((w.alloc (.cells #[.slice s1.a s1.len s1.cap, .slice s2.a s2.len s2.cap] 52)).alloc (.cells #[.string tv.name, .bool tv.enum, .slice tv.fields.a tv.fields.len tv.fields.cap, .slice tv.gone.a tv.gone.len tv.gone.cap, .slice tv.items.a tv.items.len tv.items.cap, .string uv.name, .bool uv.enum, .slice uv.fields.a uv.fields.len uv.fields.cap, .slice uv.gone.a uv.gone.len uv.gone.cap, .slice uv.items.a uv.items.len uv.items.cap, .int .i64 sr, .int .i64 pid] 54)).alloc (.cells #[.int .i64 0, .int .i64 0, .string ⟨#[]⟩, .slice none 0 0, .slice none 0 0] 37)).alloc (.cells #[.int .i64 2, .int .i64 0, .string ⟨#[]⟩, .slice none 0 0, .slice none 0 0] 37)) := ⟨_, rfl⟩
  obtain ⟨hxW, hzW, r0, r1, r3, r4⟩ := heaps4c hW0
  obtain ⟨W, hW⟩ : ∃ W, W = W0.alloc (.cells #[.pointer (some ⟨w.heap.size + 1 + 1 + 1, 0, none⟩)] 111) := ⟨_, rfl⟩
  have x0W : Ext W0 W := by rw [hW]; exact (Ext.refl W0).alloc _
  have r5 : W.heap[w.heap.size + 4]? = some (.cells #[.pointer (some ⟨w.heap.size + 1 + 1 + 1, 0, none⟩)] 111 (0, 0)) := by rw [hW, ← hzW]; exact heap_alloc_new W0 _
  have h6a : w.heap.size + 5 ≤ W.heap.size := by rw [hW]; simp [hzW]
  have h6b : W.heap.size ≤ w.heap.size + 5 := by rw [hW]; simp [hzW]
  have HzW := hide hzW
  clear hzW
  have hxw := hxW.trans x0W
  obtain ⟨hfl, hfs⟩ := ht.fields
  have Hfs := hide hfs
  have HLC := hide HLC
  have Hfind := hide Hfind
  have HP1 := hide hPs1
  have HP2 := hide hPs2
  have HP3 := hide hPs3
  have HPA := hide hPA
  have HP0 := hide hP0
  have HW0 := hide hW0
  have HW := hide hW
  have hPl := hide hPl
  have Hvs := hide hv
  have Hva := hide hva
  obtain ⟨hvlen, _⟩ := hv
  clear hPJ hLF hfs hPs hPs1 hPs2 hPs3 hPA hP0 hW0 hW h1 hw ht hmt hgw n1 hva
  obtain ⟨un, ue, ⟨ufa, ufl, ufc⟩, ug, ui⟩ := tv
  simp only at hfl
  subst hfl
  obtain ⟨sva, svl, svc⟩ := sv
  simp only at hvlen
  subst hvlen
  go_enter Tryz.func42, Tryz.ntmps42
  go_wp2_with fail
  rw [← unhide HW0]
  refine (putter_any _ W0).mono ?_
  rintro e w' ⟨rfl, hw'⟩
  rw [hw', ← unhide HW, unhide HzW]
  clear hw' w'
  obtain ⟨d0, d1, d2, d3, d4, d5, d6, d7, d8, d9, d10, d11, _⟩ := rowN12 (x0W.heap r1)
  have z1 := lt_of_heap (x0W.heap r1)
  go_wp2
  go_loopw [19] (fun iu wr => ∃ (j : Nat) (vi vL : Value), iu = .int .i64 j ∧ j ≤ t.fields.length ∧ PutP (Kh + 5) wr W.heap.size (w.heap.size + 1 + 1 + 1) (fun b => S b ∨ W.heap.size ≤ b) vi vL ((PJ j).map (·.1)) ((PJ j).map (·.2)) ∧ PFr W wr (w.heap.size + 1 + 1 + 1) none none) (fun iu _ => t.fields.length - (intOf iu).toNat)
  case atStart => exact ⟨0, .slice none 0 0, .slice none 0 0, rfl, by omega, ⟨x0W.heap r4, by rw [unhide HP0]; exact World.ownsRow_nil _ _ _ _, by rw [unhide HP0]; exact VRow.nil _ _ _ _ _⟩, PFr.refl _ _ _ _⟩
  case round =>
    obtain ⟨j, vi, vL, rfl, hj, hPw, hF⟩ := hrel
    have hwr := hF.size
    have nn : ∀ b : Nat, some b ≠ (none : Option Nat) := fun b e => by cases e
    have q0 := hF.heap (x0W.heap r0) (by omega) (nn _) (nn _)
    have q1 := hF.heap (x0W.heap r1) (by omega) (nn _) (nn _)
    have q3 := hF.heap (x0W.heap r3) (by omega) (nn _) (nn _)
    have q5 := hF.heap r5 (by omega) (nn _) (nn _)
    have hEw : Ext w wr := hF.toExt hxw (by omega) (fun _ e => by cases e) (fun _ e => by cases e)
    clear d0 d1 d2 d3 d4 d5 d6 d7 d8 d9 d10 d11 z1
    by_cases hlt : j < t.fields.length
    · obtain ⟨g, hg⟩ : ∃ g, t.fields[j]? = some g := ⟨t.fields[j], by simp [hlt]⟩
      obtain ⟨ib, io, cs, eia, hri, rfl⟩ := unhide Hfs j g hg
      subst eia
      obtain ⟨i0, i1, i2, i3, i4⟩ := range5 (hEw.range hri)
      have hgm := List.mem_of_getElem? hg
      have hfd := unhide Hfind g hgm
      have hPl := unhide hPl j
      obtain ⟨wA, hwA⟩ : ∃ wA, wA = wr.alloc (.cells #[.int .i64 g.id, .string g.name, .string g.type, .int .i64 g.kind, .int .i64 g.rule] 70) := ⟨_, rfl⟩
      have xA : Ext wr wA := by rw [hwA]; exact (Ext.refl wr).alloc _
      have rA : wA.heap[wr.heap.size]? = some (.cells #[.int .i64 g.id, .string g.name, .string g.type, .int .i64 g.kind, .int .i64 g.rule] 70 (0, 0)) := by rw [hwA]; exact heap_alloc_new wr _
      have hzA : wr.heap.size + 1 ≤ wA.heap.size ∧ wA.heap.size ≤ wr.heap.size + 1 := by rw [hwA]; simp
      have hjb : ((PJ j).map (·.1)).length ≤ 1001 * j ∧ ((PJ j).map (·.2)).length ≤ 1001 * j := by rw [List.length_map, List.length_map]; exact ⟨hPl, hPl⟩
      have hP1 := hPw.ext xA
      have hlt1 := hPw.lt1
      have hlt2 := hPw.lt2
      have h1s := fun e => unhide HP1 j g hg e
      have h2s := fun e er => unhide HP2 j g hg e er
      have h3s := fun e er => unhide HP3 j g hg e er
      have hvsA : SliceAt 5 (ValueAtP S (Kh + 5)) wA ⟨sva, vs.length, svc⟩ vs := SliceAt.ext (unhide Hvs) (hEw.trans xA) fun cs x h => h.ext (hEw.trans xA)
      have hput := put_any (Kh + 4) id ⟨sva, vs.length, svc⟩ vs wA W.heap.size (w.heap.size + 1 + 1 + 1) (w.heap.size + 4) (fun b => S b ∨ W.heap.size ≤ b) S vi vL ((PJ j).map (·.1)) ((PJ j).map (·.2)) hP1 (xA.heap q5) (by omega) (by omega) (by omega) (by omega) (fun b hb e => by rcases hb with hb | hb; (have := hSb b hb; omega); omega)
        (fun b hb => ⟨.inl hb, fun e => by have := (hlt1 b e).1; have := hSb b hb; omega, fun e => by have := (hlt2 b e).1; have := hSb b hb; omega, by have := hSb b hb; omega⟩) hvsA
        (fun ad ha => by
          have := unhide Hva ad ha
          exact ⟨fun e => by have := (hlt1 _ e).1; omega, fun e => by have := (hlt2 _ e).1; omega, by omega⟩) (by omega) (by omega)
      have Hput := hide hput
      have HwA := hide hwA
      have HPw := hide hPw
      have HP1' := hide hP1
      have HF := hide hF
      have Hjb := hide hjb
      have H1s := hide h1s
      have H2s := hide h2s
      have H3s := hide h3s
      have hfd' := hide hfd
      have b5 := (row1 (xA.heap q5)).1
      clear hput hwA hPw hP1 hF hjb hPl hri hg h1s h2s h3s hvsA hfd
      by_cases hid : g.id = id
      · have hib : (g.id == id) = true := by simp [hid]
        have Hid := hide hid
        clear hid
        go_wp2_with fail
        rw [← unhide HwA]
        refine (unhide Hput).mono ?_
        rintro e w2 ⟨rfl, vi2, vL2, hP2, hF12, hvi2, hvL2⟩
        have hF2 : PFr W w2 (w.heap.size + 1 + 1 + 1) none none := ((unhide HF).ext xA).trans hF12 (.inr fun k hk => by have := (hlt1 k hk).1; omega) (.inr fun k hk => by have := (hlt2 k hk).1; omega)
        have HP2' := hide hP2
        have HF2 := hide hF2
        clear Hput hP2 hF12 hF2 hvi2 hvL2
        go_wp2
        exact ⟨⟨j + 1, vi2, vL2, by go_num, by omega, by rw [(unhide H1s (unhide Hid)).1, (unhide H1s (unhide Hid)).2]; exact unhide HP2', unhide HF2⟩, by simp [intOf]; omega⟩
      · have hib : (g.id == id) = false := by simpa using hid
        by_cases hr1 : g.rule = 1
        · have hrb : (g.rule == 1) = true := by simp [hr1]
          obtain ⟨hI, hV⟩ := unhide H2s hid hr1
          have HI := hide hI
          have HV := hide hV
          clear hid hr1 hI hV Hput
          obtain ⟨a0, a1, _⟩ := rowN2 (xA.heap q0)
          obtain ⟨d0, d1, d2, d3, d4, d5, d6, d7, d8, d9, d10, d11, _⟩ := rowN12 (xA.heap q1)
          obtain ⟨g0, g1, g2, g3, g4, _⟩ := rowN5 rA
          go_wp2_with fail
          rw [← unhide HwA]
          refine wp_region_X (fun w' => w'.cell? ⟨w.heap.size, 0, none⟩ = some (.slice s1.a s1.len s1.cap) ∧ w'.cell? ⟨w.heap.size + 1, 0, none⟩ = some (.string un) ∧ w'.cell? ⟨w.heap.size + 1, 1, none⟩ = some (.bool ue) ∧ w'.cell? ⟨w.heap.size + 1, 2, none⟩ = some (.slice (some ⟨ib, io, none⟩) t.fields.length ufc) ∧ w'.cell? ⟨w.heap.size + 1, 3, none⟩ = some (.slice ug.a ug.len ug.cap) ∧ w'.cell? ⟨w.heap.size + 1, 4, none⟩ = some (.slice ui.a ui.len ui.cap) ∧ w'.cell? ⟨wr.heap.size, 0, none⟩ = some (.int .i64 g.id)) (fun _ => false) (by kernel_rfl) ?_
          obtain ⟨Wd, hWd⟩ : ∃ Wd, Wd = wA.drew := ⟨_, rfl⟩
          have fd : Ext wA Wd := by rw [hWd]; exact (Ext.refl wA).drew
          rw [← hWd]
          clear hWd
          have hSx : ∀ {w'}, Ext wA w' → w'.cell? ⟨w.heap.size, 0, none⟩ = some (.slice s1.a s1.len s1.cap) ∧ w'.cell? ⟨w.heap.size + 1, 0, none⟩ = some (.string un) ∧ w'.cell? ⟨w.heap.size + 1, 1, none⟩ = some (.bool ue) ∧ w'.cell? ⟨w.heap.size + 1, 2, none⟩ = some (.slice (some ⟨ib, io, none⟩) t.fields.length ufc) ∧ w'.cell? ⟨w.heap.size + 1, 3, none⟩ = some (.slice ug.a ug.len ug.cap) ∧ w'.cell? ⟨w.heap.size + 1, 4, none⟩ = some (.slice ui.a ui.len ui.cap) ∧ w'.cell? ⟨wr.heap.size, 0, none⟩ = some (.int .i64 g.id) := fun h => ⟨h.cell a0, h.cell d0, h.cell d1, h.cell d2, h.cell d3, h.cell d4, h.cell g0⟩
          refine wpAnyX_take (i := 0) (v := .func (.func 114) #[] #[.pointer (some ⟨w.heap.size + 4, 0, none⟩)]) rfl (by kernel_rfl) (by kernel_rfl) (fun _ _ _ h => h) (.inl ⟨rfl, fun w' hS => by simp [execOp, go_sem]⟩) ((hSx fd)) ?_
          simp only [Act.put, List.getElem_toArray, List.getElem_cons_zero, List.getElem_cons_succ, List.setIfInBounds_toArray, List.set_cons_succ, List.set_cons_zero]
          refine wpAnyX_take (i := 1) (v := .pointer (some ⟨wr.heap.size, 0, none⟩)) rfl (by kernel_rfl) (by kernel_rfl) (fun _ _ _ h => h) (.inl ⟨rfl, fun w' hS => by simp [execOp, go_sem]⟩) ((hSx fd)) ?_
          simp only [Act.put, List.getElem_toArray, List.getElem_cons_zero, List.getElem_cons_succ, List.setIfInBounds_toArray, List.set_cons_succ, List.set_cons_zero]
          refine wpAnyX_take (i := 2) (v := .int .i64 g.id) rfl (by kernel_rfl) (by kernel_rfl) (fun _ _ _ h => h) (.inl ⟨rfl, fun w' hS => by simp [execOp, go_sem, hS.2.2.2.2.2.2]⟩) ((hSx fd)) ?_
          simp only [Act.put, List.getElem_toArray, List.getElem_cons_zero, List.getElem_cons_succ, List.setIfInBounds_toArray, List.set_cons_succ, List.set_cons_zero]
          refine wpAnyX_take (i := 3) (v := .pointer (some ⟨w.heap.size, 0, none⟩)) rfl (by kernel_rfl) (by kernel_rfl) (fun _ _ _ h => h) (.inl ⟨rfl, fun w' hS => by simp [execOp, go_sem]⟩) ((hSx fd)) ?_
          simp only [Act.put, List.getElem_toArray, List.getElem_cons_zero, List.getElem_cons_succ, List.setIfInBounds_toArray, List.set_cons_succ, List.set_cons_zero]
          refine wpAnyX_take (i := 4) (v := .agg #[.slice s1.a s1.len s1.cap]) rfl (by kernel_rfl) (by kernel_rfl) (fun _ _ _ h => h) (.inl ⟨rfl, fun w' hS => by simp [execOp, go_sem, hS.1]⟩) ((hSx fd)) ?_
          simp only [Act.put, List.getElem_toArray, List.getElem_cons_zero, List.getElem_cons_succ, List.setIfInBounds_toArray, List.set_cons_succ, List.set_cons_zero]
          refine wpAnyX_take (i := 5) (v := .pointer (some ⟨w.heap.size + 1, 0, none⟩)) rfl (by kernel_rfl) (by kernel_rfl) (fun _ _ _ h => h) (.inl ⟨rfl, fun w' hS => by simp [execOp, go_sem]⟩) ((hSx fd)) ?_
          simp only [Act.put, List.getElem_toArray, List.getElem_cons_zero, List.getElem_cons_succ, List.setIfInBounds_toArray, List.set_cons_succ, List.set_cons_zero]
          refine wpAnyX_take (i := 6) (v := .agg #[.string un, .bool ue, .slice (some ⟨ib, io, none⟩) t.fields.length ufc, .slice ug.a ug.len ug.cap, .slice ui.a ui.len ui.cap]) rfl (by kernel_rfl) (by kernel_rfl) (fun _ _ _ h => h) (.inl ⟨rfl, fun w' hS => by simp [execOp, go_sem, hS.2.1, hS.2.2.1, hS.2.2.2.1, hS.2.2.2.2.1, hS.2.2.2.2.2.1]⟩) ((hSx fd)) ?_
          simp only [Act.put, List.getElem_toArray, List.getElem_cons_zero, List.getElem_cons_succ, List.setIfInBounds_toArray, List.set_cons_succ, List.set_cons_zero]
          refine wpAnyX_take (i := 7) (v := .pointer (some ⟨wr.heap.size, 0, none⟩)) rfl (by kernel_rfl) (by kernel_rfl) (fun _ _ _ h => h) (.inl ⟨rfl, fun w' hS => by simp [execOp, go_sem]⟩) ((hSx fd)) ?_
          simp only [Act.put, List.getElem_toArray, List.getElem_cons_zero, List.getElem_cons_succ, List.setIfInBounds_toArray, List.set_cons_succ, List.set_cons_zero]
          refine wpAnyX_take (i := 8) (v := .int .i64 g.id) rfl (by kernel_rfl) (by kernel_rfl) (fun _ _ _ h => h) (.inl ⟨rfl, fun w' hS => by simp [execOp, go_sem, hS.2.2.2.2.2.2]⟩) ((hSx fd)) ?_
          simp only [Act.put, List.getElem_toArray, List.getElem_cons_zero, List.getElem_cons_succ, List.setIfInBounds_toArray, List.set_cons_succ, List.set_cons_zero]
          refine wpAnyX_one (j := 9) rfl (by kernel_rfl) rfl fun K hK => ?_
          go_wp2_with fail
          refine (unhide HLC g (unhide hfd') Wd ((hEw.trans xA).trans fd)).mono ?_
          rintro e w3 ⟨oi, ol, rfl, hov, x3⟩
          have f3 := fd.trans x3
          generalize LF g = y at *
          have Hov := hide hov
          clear hov
          go_wp2
          refine hK.out _ _ ((hSx f3)) ?_
          clear hK K
          refine wpAnyX_one (j := 10) rfl (by kernel_rfl) rfl fun K hK => ?_
          go_wp2
          obtain ⟨W5, hW5⟩ : ∃ W5, W5 = w3.alloc (.cells #[.int .i64 y.kind, .int .i64 y.n, .string y.s, .slice oi.a oi.len oi.cap, .slice ol.a ol.len ol.cap] 37) := ⟨_, rfl⟩
          have x5 : Ext w3 W5 := by rw [hW5]; exact (Ext.refl w3).alloc _
          have r5' : W5.rangeAt w3.heap.size 0 [.int .i64 y.kind, .int .i64 y.n, .string y.s, .slice oi.a oi.len oi.cap, .slice ol.a ol.len ol.cap] := by rw [hW5]; exact range_of_new5 _ _ _ _ _ _ _ rfl
          have hz5 : w3.heap.size + 1 ≤ W5.heap.size := by rw [hW5]; simp
          rw [← hW5]
          clear hW5
          have f5 := f3.trans x5
          refine hK.out _ _ ((hSx f5)) ?_
          clear hK K
          have hP5 := (unhide HP1').ext f5
          have hF2s := (unhide HF).size
          have hfds := fd.size
          have hx3s := x3.size
          have hjb := unhide Hjb
          have hsl : SliceAt 5 (ValueAtP (fun b => Wd.heap.size ≤ b ∧ b < W5.heap.size) (Kh + 5)) W5 ⟨some ⟨w3.heap.size, 0, none⟩, 1, 1⟩ [y] := ⟨rfl, fun i x hx => by
            have hi : i = 0 := by have := (List.getElem?_eq_some_iff.1 hx).1; simp at this; omega
            subst hi
            simp at hx
            subst hx
            exact ⟨w3.heap.size, 0, _, rfl, by simpa using r5', (((unhide Hov).ext x5).le (by omega)).sub fun b hb => ⟨hb.1, by have := hb.2; omega⟩⟩⟩
          have hput := put_any (Kh + 4) g.id ⟨some ⟨w3.heap.size, 0, none⟩, 1, 1⟩ [y] W5 W.heap.size (w.heap.size + 1 + 1 + 1) (w.heap.size + 4) (fun b => S b ∨ W.heap.size ≤ b) (fun b => Wd.heap.size ≤ b ∧ b < W5.heap.size) vi vL ((PJ j).map (·.1)) ((PJ j).map (·.2)) hP5 ((xA.trans f5).heap q5) (by omega) (by omega) (by omega) (by omega) (fun b hb e => by rcases hb with hb | hb; (have := hSb b hb; omega); omega)
            (fun b hb => ⟨.inr (by omega), fun e => by have := (hlt1 b e).2; omega, fun e => by have := (hlt2 b e).2; omega, hb.2⟩) hsl
            (fun ad ha => by
              cases ha
              exact ⟨fun e => by have : w3.heap.size < wr.heap.size := (hlt1 _ e).2; omega, fun e => by have : w3.heap.size < wr.heap.size := (hlt2 _ e).2; omega, by show w3.heap.size ≠ _; omega⟩) (by simp only [List.length_cons, List.length_nil]; omega) (by simp only [List.length_cons, List.length_nil]; omega)
          have Hput := hide hput
          clear hput hsl hP5
          refine wpAnyX_one (j := 11) rfl (by kernel_rfl) rfl fun K hK => ?_
          go_wp2_with fail
          refine (unhide Hput).mono ?_
          rintro e w6 ⟨rfl, vi3, vL3, hP3, hF53, hvi3, hvL3⟩
          have hF6 : PFr W w6 (w.heap.size + 1 + 1 + 1) none none := ((unhide HF).ext (xA.trans f5)).trans hF53 (.inr fun k hk => by have := (hlt1 k hk).1; omega) (.inr fun k hk => by have := (hlt2 k hk).1; omega)
          have hk6 : ∀ {p : Addr} {c : Value}, wA.cell? p = some c → p.block ≠ w.heap.size + 1 + 1 + 1 → some p.block ≠ vi.ownBlock → some p.block ≠ vL.ownBlock → w6.cell? p = some c := fun h a b c => hF53.cell (f5.cell h) a b c
          have n1 : ∀ b, b < W.heap.size → some b ≠ vi.ownBlock ∧ some b ≠ vL.ownBlock := fun b hb => ⟨fun e => by have := (hlt1 b e.symm).1; omega, fun e => by have := (hlt2 b e.symm).1; omega⟩
          have ngi : some wr.heap.size ≠ vi.ownBlock ∧ some wr.heap.size ≠ vL.ownBlock := ⟨fun e => by have := (hlt1 _ e.symm).2; omega, fun e => by have := (hlt2 _ e.symm).2; omega⟩
          have hS6 : w6.cell? ⟨w.heap.size, 0, none⟩ = some (.slice s1.a s1.len s1.cap) ∧ w6.cell? ⟨w.heap.size + 1, 0, none⟩ = some (.string un) ∧ w6.cell? ⟨w.heap.size + 1, 1, none⟩ = some (.bool ue) ∧ w6.cell? ⟨w.heap.size + 1, 2, none⟩ = some (.slice (some ⟨ib, io, none⟩) t.fields.length ufc) ∧ w6.cell? ⟨w.heap.size + 1, 3, none⟩ = some (.slice ug.a ug.len ug.cap) ∧ w6.cell? ⟨w.heap.size + 1, 4, none⟩ = some (.slice ui.a ui.len ui.cap) ∧ w6.cell? ⟨wr.heap.size, 0, none⟩ = some (.int .i64 g.id) := by
            have m0 := n1 w.heap.size (by omega)
            have m1 := n1 (w.heap.size + 1) (by omega)
            exact ⟨hk6 a0 (by show w.heap.size ≠ _; omega) m0.1 m0.2, hk6 d0 (by show w.heap.size + 1 ≠ _; omega) m1.1 m1.2, hk6 d1 (by show w.heap.size + 1 ≠ _; omega) m1.1 m1.2, hk6 d2 (by show w.heap.size + 1 ≠ _; omega) m1.1 m1.2, hk6 d3 (by show w.heap.size + 1 ≠ _; omega) m1.1 m1.2, hk6 d4 (by show w.heap.size + 1 ≠ _; omega) m1.1 m1.2, hk6 g0 (by show wr.heap.size ≠ _; omega) ngi.1 ngi.2⟩
          have HP3' := hide hP3
          have HF6 := hide hF6
          clear Hput hP3 hF53 hF6 hvi3 hvL3 hk6 n1 ngi hlt1 hlt2
          go_wp2
          refine hK.out _ _ (hS6) ?_
          clear hK K
          refine wpAnyX_end [] [] rfl (by intro j i hj; simp at hj) (by kernel_rfl) (by intro i hi; simp at hi) fun K hK => ?_
          go_wp2
          refine hK.out _ _ ?_
          clear hK K
          go_wp2
          exact ⟨⟨j + 1, vi3, vL3, by go_num, by omega, by rw [unhide HI, unhide HV]; exact unhide HP3', unhide HF6⟩, by simp [intOf]; omega⟩
        · have hrb : (g.rule == 1) = false := by simpa using hr1
          have hsm := unhide H3s hid hr1
          have Hsm := hide hsm
          clear hid hr1 hsm Hput
          go_wp2
          rw [← unhide HwA]
          exact ⟨⟨j + 1, vi, vL, by go_num, by omega, by rw [unhide Hsm]; exact unhide HP1', (unhide HF).ext xA⟩, by simp [intOf]; omega⟩
    · have hje : j = t.fields.length := by omega
      subst hje
      obtain ⟨hT, hoi, hvr⟩ := hPw
      obtain ⟨si, hsi⟩ : ∃ s : SV, vi = .slice s.a s.len s.cap := by obtain ⟨a', c', e'⟩ := owns_slice hoi; exact ⟨⟨a', _, c'⟩, e'⟩
      subst hsi
      obtain ⟨sl, rfl, hsl, hslok, hslb⟩ := hvr.slice
      obtain ⟨si', hsi', hint⟩ := ints_of_owns hoi (by simp)
      have hiok := ok_of_owns hoi
      have hilt := hoi.lt
      simp only [Value.slice.injEq] at hsi'
      obtain rfl : si = si' := by cases si; cases si'; simp_all
      obtain ⟨W6, hW6, r6, hx6, hk6, hs6⟩ := setN5 q3 (.int .i64 2) (.int .i64 0) (.string ⟨#[]⟩) (.slice si.a si.len si.cap) (.slice sl.a sl.len sl.cap)
      have f6 := hx6 w hEw (by omega)
      have hv6 : ValueAtP (fun b => (S b ∨ w.heap.size ≤ b) ∧ b < W6.heap.size) (Kh + 5 + 1) W6 [.int .i64 2, .int .i64 0, .string ⟨#[]⟩, .slice si.a si.len si.cap, .slice sl.a sl.len sl.cap] ⟨2, 0, ⟨#[]⟩, (PJ t.fields.length).map (·.1), (PJ t.fields.length).map (·.2)⟩ := by
        have h0 : ValueAtP (fun b => (S b ∨ W.heap.size ≤ b) ∧ b < wr.heap.size) (Kh + 5 + 1) wr [.int .i64 2, .int .i64 0, .string ⟨#[]⟩, .slice si.a si.len si.cap, .slice sl.a sl.len sl.cap] ⟨2, 0, ⟨#[]⟩, (PJ t.fields.length).map (·.1), (PJ t.fields.length).map (·.2)⟩ :=
          ⟨si, sl, rfl, hint, hsl, hiok, hslok, fun ad ha => by have := hilt ad.block (by simp [Value.ownBlock, ha]); exact ⟨.inr this.1, this.2⟩, fun ad ha => by have := hslb ad ha; exact ⟨.inr this.1, this.2⟩⟩
        refine (h0.keep fun b ob hb hob => ?_).sub fun b hb => ⟨hb.1.elim .inl fun h => .inr (by omega), by have := hb.2; rw [hs6]; exact this⟩
        have hb1 : b ≠ w.heap.size + 1 + 1 := by
          rcases hb.1 with h | h
          · have := hSb b h; omega
          · omega
        rw [hk6 b hb1]; exact hob
      obtain ⟨k0', k1', k2', k3', k4', _⟩ := rowN5 r6
      obtain ⟨t0, t1, t2, t3, t4, _⟩ := rowN5 hT
      obtain ⟨y0, y1, y2, y3, y4, _⟩ := rowN5 q3
      have zT := lt_of_heap hT
      have z3 := lt_of_heap q3
      have HW6 := hide hW6
      have H6 := hide (And.intro hv6 f6)
      clear hW6 hx6 hk6 hs6 f6 hv6 hiok hilt hint hsl hslok hslb hoi hvr hsi'
      go_wp2
      rw [← unhide HW6]
      exact bodyPost_ret (v := .agg #[.int .i64 2, .int .i64 0, .string ⟨#[]⟩, .slice si.a si.len si.cap, .slice sl.a sl.len sl.cap]) (by simp [results, Tryz.results42, go_sem, k0', k1', k2', k3', k4']) rfl ⟨si, sl, rfl, by rw [unhide HPA]; exact (unhide H6).1, (unhide H6).2⟩
end Go.Proofs.YtnppgeiompimaaaGreatDoor

namespace Go.Proofs.YtnppgeiompimaaaGreatDoor
set_option linter.unusedSimpArgs false
set_option linter.unusedVariables false
open Go.RowKit

/-- Values in a block of their own. -/
theorem one_slice {w : World} {S : Nat → Prop} {k g : Nat} {cs : List Value} {y : ValueM} (hr : w.rangeAt g 0 cs) (h : ValueAtP S k w cs y) : SliceAt 5 (ValueAtP S k) w ⟨some ⟨g, 0, none⟩, 1, 1⟩ [y] := ⟨rfl, fun i x hx => by
  have hi : i = 0 := by have := (List.getElem?_eq_some_iff.1 hx).1; simp at this; omega
  subst hi
  simp at hx
  subst hx
  exact ⟨g, 0, cs, rfl, by simpa using hr, h⟩⟩
theorem two_slice {w : World} {S : Nat → Prop} {k g : Nat} {cs ds : List Value} {y z : ValueM} (hr : w.rangeAt g 0 cs) (hr2 : w.rangeAt g 5 ds) (h : ValueAtP S k w cs y) (h2 : ValueAtP S k w ds z) : SliceAt 5 (ValueAtP S k) w ⟨some ⟨g, 0, none⟩, 2, 2⟩ [y, z] := ⟨rfl, fun i x hx => by
  have hi : i < 2 := by have := (List.getElem?_eq_some_iff.1 hx).1; simpa using this
  match i, hi with
  | 0, _ =>
    simp at hx
    subst hx
    exact ⟨g, 0, cs, rfl, by simpa using hr, h⟩
  | 1, _ =>
    simp at hx
    subst hx
    exact ⟨g, 0, ds, rfl, by simpa using hr2, h2⟩⟩
theorem range_row10 {w : World} {b : Nat} {t : TypeId} {c0 c1 c2 c3 c4 c5 c6 c7 c8 c9 : Value} (h : w.heap[b]? = some (.cells #[c0, c1, c2, c3, c4, c5, c6, c7, c8, c9] t (0, 0))) : w.rangeAt b 0 [c0, c1, c2, c3, c4] ∧ w.rangeAt b 5 [c5, c6, c7, c8, c9] := by
  have hc : ∀ i, w.cell? ⟨b, i, none⟩ = (#[c0, c1, c2, c3, c4, c5, c6, c7, c8, c9] : Array Value)[i]? := fun i => cell_of_row w b i _ t _ h
  constructor
  · intro j u hu
    rcases j with _ | _ | _ | _ | _ | j
    · simp at hu; subst hu; exact hc 0
    · simp at hu; subst hu; exact hc 1
    · simp at hu; subst hu; exact hc 2
    · simp at hu; subst hu; exact hc 3
    · simp at hu; subst hu; exact hc 4
    · simp at hu
  · intro j u hu
    rcases j with _ | _ | _ | _ | _ | j
    · simp at hu; subst hu; exact hc 5
    · simp at hu; subst hu; exact hc 6
    · simp at hu; subst hu; exact hc 7
    · simp at hu; subst hu; exact hc 8
    · simp at hu; subst hu; exact hc 9
    · simp at hu
set_option maxHeartbeats 25600000 in
set_option maxRecDepth 10000 in
theorem unread_any (s1 s2 : SV) (ws rs : BookM) (p : PairM) (tv uv : TV) (sr pid : Int) (x : FlawM) (f g : FieldM) (w : World) (h1 : BookAt w s1 ws) (h2 : BookAt w s2 rs) (hw : WordsAt w) (n1 : ws.Fits) (hgw : goodM ws = 0) (hgr : goodM rs = 0) (ht : TypeAt w tv p.a) (hu : TypeAt w uv p.b) (hmt : Msg ws p.a) (hmu : Msg rs p.b)
    (hf : fieldM p.a x.id = some f) (hg : fieldM p.b x.id = some g) :
    Calls Tryz.prog 43 #[.agg #[.slice s1.a s1.len s1.cap, .slice s2.a s2.len s2.cap], .agg #[.string tv.name, .bool tv.enum, .slice tv.fields.a tv.fields.len tv.fields.cap, .slice tv.gone.a tv.gone.len tv.gone.cap, .slice tv.items.a tv.items.len tv.items.cap, .string uv.name, .bool uv.enum, .slice uv.fields.a uv.fields.len uv.fields.cap, .slice uv.gone.a uv.gone.len uv.gone.cap, .slice uv.items.a uv.items.len uv.items.cap, .int .i64 sr, .int .i64 pid], .agg #[.string x.type, .int .i64 x.id, .int .i64 x.why]] w fun e w' => ∃ sv : SV, e = .returned (.slice sv.a sv.len sv.cap) ∧
      SliceAt 5 (ValueAtP (Btw w w') 5) w' sv (unreadM ws rs p x) ∧ (∀ ad, sv.a = some ad → ad.block < w'.heap.size) ∧ Ext w w' := by
  obtain ⟨W, hW⟩ : ∃ W, W = ((w.alloc (.cells #[.slice s1.a s1.len s1.cap, .slice s2.a s2.len s2.cap] 52)).alloc (.cells #[.string tv.name, .bool tv.enum, .slice tv.fields.a tv.fields.len tv.fields.cap, .slice tv.gone.a tv.gone.len tv.gone.cap, .slice tv.items.a tv.items.len tv.items.cap, .string uv.name, .bool uv.enum, .slice uv.fields.a uv.fields.len uv.fields.cap, .slice uv.gone.a uv.gone.len uv.gone.cap, .slice uv.items.a uv.items.len uv.items.cap, .int .i64 sr, .int .i64 pid] 54)).alloc (.cells #[.string x.type, .int .i64 x.id, .int .i64 x.why] 62) := ⟨_, rfl⟩
  obtain ⟨hxW, hzW, r0, r1, r2⟩ := heaps3c hW
  have hid := fieldM_id hf
  have HL : ∀ w', Ext w w' → Calls Tryz.prog 67 #[.agg #[.slice s1.a s1.len s1.cap], .agg #[.string tv.name, .bool tv.enum, .slice tv.fields.a tv.fields.len tv.fields.cap, .slice tv.gone.a tv.gone.len tv.gone.cap, .slice tv.items.a tv.items.len tv.items.cap], .int .i64 x.id] w' fun e w'' => ∃ ids l : SV, e = .returned (.agg #[.int .i64 (leastId ws p.a x.id).kind, .int .i64 (leastId ws p.a x.id).n, .string (leastId ws p.a x.id).s, .slice ids.a ids.len ids.cap, .slice l.a l.len l.cap]) ∧ ValueAtP (Btw w' w'') 5 w'' [.int .i64 (leastId ws p.a x.id).kind, .int .i64 (leastId ws p.a x.id).n, .string (leastId ws p.a x.id).s, .slice ids.a ids.len ids.cap, .slice l.a l.len l.cap] (leastId ws p.a x.id) ∧ Ext w' w'' := fun w' hx => by
    have := leastG_any s1 ws tv p.a f w' (h1.ext hx) (hw.ext hx) n1 (good_small hgw) hgw hmt ht.name (by rw [hid]; exact hf)
    rw [hid] at this
    unfold leastId
    rw [hf]
    exact this
  have HF1 := fun w' (hx : Ext w w') => fieldOf_any tv p.a x.id w' (ht.ext hx) (by have := hmt.len hgw; omega)
  have HF2 := fun w' (hx : Ext w w') => fieldOf_any uv p.b x.id w' (hu.ext hx) (by have := hmu.len hgr; omega)
  rw [hf] at HF1
  rw [hg] at HF2
  have HS := fun w' (hx : Ext w w') => strange_any s1 s2 ws rs f g w' (h1.ext hx) (h2.ext hx) (good_small hgw) (good_small hgr) (items_good hgw f) (items_good hgr g)
  have hU : unreadM ws rs p x = if x.why = 2 then [leastId ws p.a x.id, leastId ws p.a x.id] else if x.why = 3 then [⟨0, (strangeM ws rs f g).getD 0, ⟨#[]⟩, [], []⟩] else [leastId ws p.a x.id] := by
    unfold unreadM; rw [hf, hg]; rfl
  generalize unreadM ws rs p x = U at *
  generalize leastId ws p.a x.id = y at *
  generalize strangeM ws rs f g = st at *
  have HL := hide HL
  have HF1 := hide HF1
  have HF2 := hide HF2
  have HS := hide HS
  have HU := hide hU
  have HW := hide hW
  clear hW h1 h2 hw n1 hgw hgr ht hu hmt hmu hf hg hid hU
  obtain ⟨c0, c1, c2⟩ := row3c r2
  obtain ⟨a0, a1, _⟩ := rowN2 r0
  obtain ⟨d0, d1, d2, d3, d4, d5, d6, d7, d8, d9, d10, d11, _⟩ := rowN12 r1
  have z0 := lt_of_heap r0
  have z1 := lt_of_heap r1
  have z2 := lt_of_heap r2
  go_enter Tryz.func43, Tryz.ntmps43
  by_cases hy2 : x.why = 2
  · have hyb : (x.why == 2) = true := by simp [hy2]
    have hU2 : U = [y, y] := by rw [unhide HU, if_pos hy2]
    have HU2 := hide hU2
    clear hy2 hU2 HU HF1 HF2 HS
    go_wp2_with fail
    rw [← unhide HW]
    refine wp_region_X (fun w' => w'.cell? ⟨w.heap.size, 0, none⟩ = some (.slice s1.a s1.len s1.cap) ∧ w'.cell? ⟨w.heap.size + 1, 0, none⟩ = some (.string tv.name) ∧ w'.cell? ⟨w.heap.size + 1, 1, none⟩ = some (.bool tv.enum) ∧ w'.cell? ⟨w.heap.size + 1, 2, none⟩ = some (.slice tv.fields.a tv.fields.len tv.fields.cap) ∧ w'.cell? ⟨w.heap.size + 1, 3, none⟩ = some (.slice tv.gone.a tv.gone.len tv.gone.cap) ∧ w'.cell? ⟨w.heap.size + 1, 4, none⟩ = some (.slice tv.items.a tv.items.len tv.items.cap) ∧ w'.cell? ⟨w.heap.size + 1 + 1, 1, none⟩ = some (.int .i64 x.id)) (fun _ => false) (by kernel_rfl) ?_
    obtain ⟨Wd, hWd⟩ : ∃ Wd, Wd = W.drew := ⟨_, rfl⟩
    have fd : Ext W Wd := by rw [hWd]; exact (Ext.refl W).drew
    rw [← hWd]
    clear hWd
    have hSx : ∀ {w'}, Ext W w' → w'.cell? ⟨w.heap.size, 0, none⟩ = some (.slice s1.a s1.len s1.cap) ∧ w'.cell? ⟨w.heap.size + 1, 0, none⟩ = some (.string tv.name) ∧ w'.cell? ⟨w.heap.size + 1, 1, none⟩ = some (.bool tv.enum) ∧ w'.cell? ⟨w.heap.size + 1, 2, none⟩ = some (.slice tv.fields.a tv.fields.len tv.fields.cap) ∧ w'.cell? ⟨w.heap.size + 1, 3, none⟩ = some (.slice tv.gone.a tv.gone.len tv.gone.cap) ∧ w'.cell? ⟨w.heap.size + 1, 4, none⟩ = some (.slice tv.items.a tv.items.len tv.items.cap) ∧ w'.cell? ⟨w.heap.size + 1 + 1, 1, none⟩ = some (.int .i64 x.id) := fun h => ⟨h.cell a0, h.cell d0, h.cell d1, h.cell d2, h.cell d3, h.cell d4, h.cell c1⟩
    refine wpAnyX_take (i := 0) (v := .pointer (some ⟨w.heap.size, 0, none⟩)) rfl (by kernel_rfl) (by kernel_rfl) (fun _ _ _ h => h) (.inl ⟨rfl, fun w' hS => by simp [execOp, go_sem]⟩) ((hSx fd)) ?_
    simp only [Act.put, List.getElem_toArray, List.getElem_cons_zero, List.getElem_cons_succ, List.setIfInBounds_toArray, List.set_cons_succ, List.set_cons_zero]
    refine wpAnyX_take (i := 1) (v := .agg #[.slice s1.a s1.len s1.cap]) rfl (by kernel_rfl) (by kernel_rfl) (fun _ _ _ h => h) (.inl ⟨rfl, fun w' hS => by simp [execOp, go_sem, hS.1]⟩) ((hSx fd)) ?_
    simp only [Act.put, List.getElem_toArray, List.getElem_cons_zero, List.getElem_cons_succ, List.setIfInBounds_toArray, List.set_cons_succ, List.set_cons_zero]
    refine wpAnyX_take (i := 2) (v := .pointer (some ⟨w.heap.size + 1, 0, none⟩)) rfl (by kernel_rfl) (by kernel_rfl) (fun _ _ _ h => h) (.inl ⟨rfl, fun w' hS => by simp [execOp, go_sem]⟩) ((hSx fd)) ?_
    simp only [Act.put, List.getElem_toArray, List.getElem_cons_zero, List.getElem_cons_succ, List.setIfInBounds_toArray, List.set_cons_succ, List.set_cons_zero]
    refine wpAnyX_take (i := 3) (v := .agg #[.string tv.name, .bool tv.enum, .slice tv.fields.a tv.fields.len tv.fields.cap, .slice tv.gone.a tv.gone.len tv.gone.cap, .slice tv.items.a tv.items.len tv.items.cap]) rfl (by kernel_rfl) (by kernel_rfl) (fun _ _ _ h => h) (.inl ⟨rfl, fun w' hS => by simp [execOp, go_sem, hS.2.1, hS.2.2.1, hS.2.2.2.1, hS.2.2.2.2.1, hS.2.2.2.2.2.1]⟩) ((hSx fd)) ?_
    simp only [Act.put, List.getElem_toArray, List.getElem_cons_zero, List.getElem_cons_succ, List.setIfInBounds_toArray, List.set_cons_succ, List.set_cons_zero]
    refine wpAnyX_take (i := 4) (v := .pointer (some ⟨w.heap.size + 1 + 1, 1, none⟩)) rfl (by kernel_rfl) (by kernel_rfl) (fun _ _ _ h => h) (.inl ⟨rfl, fun w' hS => by simp [execOp, go_sem]⟩) ((hSx fd)) ?_
    simp only [Act.put, List.getElem_toArray, List.getElem_cons_zero, List.getElem_cons_succ, List.setIfInBounds_toArray, List.set_cons_succ, List.set_cons_zero]
    refine wpAnyX_take (i := 5) (v := .int .i64 x.id) rfl (by kernel_rfl) (by kernel_rfl) (fun _ _ _ h => h) (.inl ⟨rfl, fun w' hS => by simp [execOp, go_sem, hS.2.2.2.2.2.2]⟩) ((hSx fd)) ?_
    simp only [Act.put, List.getElem_toArray, List.getElem_cons_zero, List.getElem_cons_succ, List.setIfInBounds_toArray, List.set_cons_succ, List.set_cons_zero]
    refine wpAnyX_take (i := 7) (v := .pointer (some ⟨w.heap.size, 0, none⟩)) rfl (by kernel_rfl) (by kernel_rfl) (fun _ _ _ h => h) (.inl ⟨rfl, fun w' hS => by simp [execOp, go_sem]⟩) ((hSx fd)) ?_
    simp only [Act.put, List.getElem_toArray, List.getElem_cons_zero, List.getElem_cons_succ, List.setIfInBounds_toArray, List.set_cons_succ, List.set_cons_zero]
    refine wpAnyX_take (i := 8) (v := .agg #[.slice s1.a s1.len s1.cap]) rfl (by kernel_rfl) (by kernel_rfl) (fun _ _ _ h => h) (.inl ⟨rfl, fun w' hS => by simp [execOp, go_sem, hS.1]⟩) ((hSx fd)) ?_
    simp only [Act.put, List.getElem_toArray, List.getElem_cons_zero, List.getElem_cons_succ, List.setIfInBounds_toArray, List.set_cons_succ, List.set_cons_zero]
    refine wpAnyX_take (i := 9) (v := .pointer (some ⟨w.heap.size + 1, 0, none⟩)) rfl (by kernel_rfl) (by kernel_rfl) (fun _ _ _ h => h) (.inl ⟨rfl, fun w' hS => by simp [execOp, go_sem]⟩) ((hSx fd)) ?_
    simp only [Act.put, List.getElem_toArray, List.getElem_cons_zero, List.getElem_cons_succ, List.setIfInBounds_toArray, List.set_cons_succ, List.set_cons_zero]
    refine wpAnyX_take (i := 10) (v := .agg #[.string tv.name, .bool tv.enum, .slice tv.fields.a tv.fields.len tv.fields.cap, .slice tv.gone.a tv.gone.len tv.gone.cap, .slice tv.items.a tv.items.len tv.items.cap]) rfl (by kernel_rfl) (by kernel_rfl) (fun _ _ _ h => h) (.inl ⟨rfl, fun w' hS => by simp [execOp, go_sem, hS.2.1, hS.2.2.1, hS.2.2.2.1, hS.2.2.2.2.1, hS.2.2.2.2.2.1]⟩) ((hSx fd)) ?_
    simp only [Act.put, List.getElem_toArray, List.getElem_cons_zero, List.getElem_cons_succ, List.setIfInBounds_toArray, List.set_cons_succ, List.set_cons_zero]
    refine wpAnyX_take (i := 11) (v := .pointer (some ⟨w.heap.size + 1 + 1, 1, none⟩)) rfl (by kernel_rfl) (by kernel_rfl) (fun _ _ _ h => h) (.inl ⟨rfl, fun w' hS => by simp [execOp, go_sem]⟩) ((hSx fd)) ?_
    simp only [Act.put, List.getElem_toArray, List.getElem_cons_zero, List.getElem_cons_succ, List.setIfInBounds_toArray, List.set_cons_succ, List.set_cons_zero]
    refine wpAnyX_take (i := 12) (v := .int .i64 x.id) rfl (by kernel_rfl) (by kernel_rfl) (fun _ _ _ h => h) (.inl ⟨rfl, fun w' hS => by simp [execOp, go_sem, hS.2.2.2.2.2.2]⟩) ((hSx fd)) ?_
    simp only [Act.put, List.getElem_toArray, List.getElem_cons_zero, List.getElem_cons_succ, List.setIfInBounds_toArray, List.set_cons_succ, List.set_cons_zero]
    refine wpAnyX_one (j := 6) rfl (by kernel_rfl) rfl fun K hK => ?_
    go_wp2_with fail
    refine (unhide HL Wd (hxW.trans fd)).mono ?_
    rintro e w3 ⟨oi, ol, rfl, hov, x3⟩
    have f3 := fd.trans x3
    have Hov := hide hov
    clear hov
    go_wp2
    refine hK.out _ _ ((hSx f3)) ?_
    clear hK K
    refine wpAnyX_one (j := 13) rfl (by kernel_rfl) rfl fun K hK => ?_
    go_wp2_with fail
    refine (unhide HL w3 (hxW.trans f3)).mono ?_
    rintro e w4 ⟨pi, pl, rfl, hpv, x4⟩
    have f4 := f3.trans x4
    obtain ⟨W5, hW5⟩ : ∃ W5, W5 = w4.alloc (.cells #[.int .i64 y.kind, .int .i64 y.n, .string y.s, .slice oi.a oi.len oi.cap, .slice ol.a ol.len ol.cap, .int .i64 y.kind, .int .i64 y.n, .string y.s, .slice pi.a pi.len pi.cap, .slice pl.a pl.len pl.cap] 37) := ⟨_, rfl⟩
    have x5 : Ext w4 W5 := by rw [hW5]; exact (Ext.refl w4).alloc _
    have hz5 : W5.heap.size = w4.heap.size + 1 := by rw [hW5]; simp
    have r5 : W5.heap[w4.heap.size]? = some (.cells #[.int .i64 y.kind, .int .i64 y.n, .string y.s, .slice oi.a oi.len oi.cap, .slice ol.a ol.len ol.cap, .int .i64 y.kind, .int .i64 y.n, .string y.s, .slice pi.a pi.len pi.cap, .slice pl.a pl.len pl.cap] 37 (0, 0)) := by rw [hW5]; exact heap_alloc_new w4 _
    obtain ⟨rr1, rr2⟩ := range_row10 r5
    have hsl := two_slice rr1 rr2 (((unhide Hov).ext (x4.trans x5)).sub fun b hb => (show Btw w W5 b from ⟨by have := hb.1; have := (hxW.trans fd).size; omega, by have := hb.2; have := x4.size; omega⟩)) ((hpv.ext x5).sub fun b hb => (show Btw w W5 b from ⟨by have := hb.1; have := (hxW.trans f3).size; omega, by have := hb.2; omega⟩))
    have Hsl := hide hsl
    have HW5 := hide hW5
    have Hz5 := hide hz5
    have f5 := f4.trans x5
    clear hpv hsl hW5 hz5 rr1 rr2
    go_wp2
    refine hK.out _ _ ((hSx f4)) ?_
    clear hK K
    refine wpAnyX_one (j := 14) rfl (by kernel_rfl) rfl fun K hK => ?_
    go_wp2
    rw [← unhide HW5]
    refine hK.out _ _ ((hSx f5)) ?_
    clear hK K
    refine wpAnyX_take (i := 15) (v := .slice (some ⟨w4.heap.size, 0, none⟩) 2 2) rfl (by kernel_rfl) (by kernel_rfl) (fun _ _ _ h => h) (.inl ⟨rfl, fun w' hS => by simp [execOp, go_sem]⟩) ((hSx f5)) ?_
    simp only [Act.put, List.getElem_toArray, List.getElem_cons_zero, List.getElem_cons_succ, List.setIfInBounds_toArray, List.set_cons_succ, List.set_cons_zero]
    refine wpAnyX_end [] [] rfl (by intro j i hj; simp at hj) (by kernel_rfl) (by intro i hi; simp at hi) fun K hK => ?_
    go_wp2
    refine hK.out _ _ ?_
    clear hK K
    go_wp2
    go_ret
    exact ⟨⟨some ⟨w4.heap.size, 0, none⟩, 2, 2⟩, rfl, by rw [unhide HU2]; exact unhide Hsl, fun ad ha => by cases ha; rw [unhide Hz5]; exact Nat.lt_succ_self _, hxW.trans f5⟩
  · have hyb : (x.why == 2) = false := by simpa using hy2
    by_cases hy3 : x.why = 3
    · have hyc : (x.why == 3) = true := by simp [hy3]
      have hU2 : U = [⟨0, st.getD 0, ⟨#[]⟩, [], []⟩] := by rw [unhide HU, if_neg hy2, if_pos hy3]
      have HU2 := hide hU2
      clear hy2 hy3 hU2 HU HL
      go_wp2_with fail
      rw [← unhide HW]
      refine (unhide HF1 W hxW).mono ?_
      rintro e w1 ⟨rfl, x1⟩
      have y1 : Ext w1 (w1.alloc (.cells #[.int .i64 f.id, .string f.name, .string f.type, .int .i64 f.kind, .int .i64 f.rule] 70)) := (Ext.refl w1).alloc _
      have rf : (w1.alloc (.cells #[.int .i64 f.id, .string f.name, .string f.type, .int .i64 f.kind, .int .i64 f.rule] 70)).heap[w1.heap.size]? = some (.cells #[.int .i64 f.id, .string f.name, .string f.type, .int .i64 f.kind, .int .i64 f.rule] 70 (0, 0)) := heap_alloc_new w1 _
      have f1 := (hxW.trans x1).trans y1
      have hc2 := hide (unhide HF2 _ f1)
      obtain ⟨c0, c1, c2⟩ := row3c (x1.heap r2)
      obtain ⟨d0, d1, d2, d3, d4, d5, d6, d7, d8, d9, d10, d11, _⟩ := rowN12 (x1.heap r1)
      have z1 := lt_of_heap (x1.heap r1)
      have z2 := lt_of_heap (x1.heap r2)
      go_wp2_with fail
      refine (unhide hc2).mono ?_
      rintro e w2 ⟨rfl, x2⟩
      have y2 : Ext w2 (w2.alloc (.cells #[.int .i64 g.id, .string g.name, .string g.type, .int .i64 g.kind, .int .i64 g.rule] 70)) := (Ext.refl w2).alloc _
      have rg : (w2.alloc (.cells #[.int .i64 g.id, .string g.name, .string g.type, .int .i64 g.kind, .int .i64 g.rule] 70)).heap[w2.heap.size]? = some (.cells #[.int .i64 g.id, .string g.name, .string g.type, .int .i64 g.kind, .int .i64 g.rule] 70 (0, 0)) := heap_alloc_new w2 _
      have f2 := (f1.trans x2).trans y2
      have hc3 := hide (unhide HS _ f2)
      have rf2 := x2.heap rf
      obtain ⟨f0, f1', f2', f3', f4', _⟩ := rowN5 rf2
      have zf := lt_of_heap rf2
      obtain ⟨a0, a1, _⟩ := rowN2 (((x1.trans y1).trans x2).heap r0)
      have z0 := lt_of_heap (((x1.trans y1).trans x2).heap r0)
      clear c0 c1 c2 d0 d1 d2 d3 d4 d5 d6 d7 d8 d9 d10 d11 z1 z2 hc2
      go_wp2_with fail
      refine (unhide hc3).mono ?_
      rintro e w3 ⟨rfl, x3⟩
      obtain ⟨W5, hW5⟩ : ∃ W5, W5 = w3.alloc (.cells #[.int .i64 0, .int .i64 (st.getD 0), .string ⟨#[]⟩, .slice none 0 0, .slice none 0 0] 37) := ⟨_, rfl⟩
      have x5 : Ext w3 W5 := by rw [hW5]; exact (Ext.refl w3).alloc _
      have hz5 : W5.heap.size = w3.heap.size + 1 := by rw [hW5]; simp
      have r5' : W5.rangeAt w3.heap.size 0 [.int .i64 0, .int .i64 (st.getD 0), .string ⟨#[]⟩, .slice none 0 0, .slice none 0 0] := by rw [hW5]; exact range_of_new5 _ _ _ _ _ _ _ rfl
      have hsl := one_slice (k := 5) r5' (leafAtS (Btw w W5) 4 W5 0 (st.getD 0) ⟨#[]⟩)
      have Hsl := hide hsl
      have HW5 := hide hW5
      have Hz5 := hide hz5
      clear hsl hW5 hz5 f0 f1' f2' f3' f4' a0 a1
      go_wp2
      rw [← unhide HW5]
      go_ret
      exact ⟨⟨some ⟨w3.heap.size, 0, none⟩, 1, 1⟩, rfl, by rw [unhide HU2]; exact unhide Hsl, fun ad ha => by cases ha; rw [unhide Hz5]; exact Nat.lt_succ_self _, (f2.trans x3).trans x5⟩
    · have hyc : (x.why == 3) = false := by simpa using hy3
      have hU2 : U = [y] := by rw [unhide HU, if_neg hy2, if_neg hy3]
      have HU2 := hide hU2
      clear hy2 hy3 hU2 HU HF1 HF2 HS
      go_wp2_with fail
      rw [← unhide HW]
      refine (unhide HL W hxW).mono ?_
      rintro e w1 ⟨oi, ol, rfl, hov, x1⟩
      obtain ⟨W5, hW5⟩ : ∃ W5, W5 = w1.alloc (.cells #[.int .i64 y.kind, .int .i64 y.n, .string y.s, .slice oi.a oi.len oi.cap, .slice ol.a ol.len ol.cap] 37) := ⟨_, rfl⟩
      have x5 : Ext w1 W5 := by rw [hW5]; exact (Ext.refl w1).alloc _
      have hz5 : W5.heap.size = w1.heap.size + 1 := by rw [hW5]; simp
      have r5' : W5.rangeAt w1.heap.size 0 [.int .i64 y.kind, .int .i64 y.n, .string y.s, .slice oi.a oi.len oi.cap, .slice ol.a ol.len ol.cap] := by rw [hW5]; exact range_of_new5 _ _ _ _ _ _ _ rfl
      have hsl := one_slice r5' (((hov.ext x5).sub fun b hb => (show Btw w W5 b from ⟨by have := hb.1; have := hxW.size; omega, by have := hb.2; omega⟩)))
      have Hsl := hide hsl
      have HW5 := hide hW5
      have Hz5 := hide hz5
      clear hov hsl hW5 hz5
      go_wp2
      rw [← unhide HW5]
      go_ret
      exact ⟨⟨some ⟨w1.heap.size, 0, none⟩, 1, 1⟩, rfl, by rw [unhide HU2]; exact unhide Hsl, fun ad ha => by cases ha; rw [unhide Hz5]; exact Nat.lt_succ_self _, (hxW.trans x1).trans x5⟩
end Go.Proofs.YtnppgeiompimaaaGreatDoor

