import Derived.Test.YtblkgaoafejefaaDoorW11
import Derived.Lib.SliceRun
namespace Go.Proofs.YtblkgaoafejefaaDoor
set_option linter.unusedSimpArgs false
set_option linter.unusedVariables false
open Go.RowKit

theorem info36 : (Tryd.prog.info? 36).map (fun i => (i.zero, i.size, i.bytes)) = some (some (.agg #[.int .i64 0, .string ⟨#[]⟩, .string ⟨#[]⟩, .int .i64 0, .int .i64 0]), 5, 56) := by kernel_rfl
theorem info73 : (Tryd.prog.info? 73).map (fun i => (i.zero, i.size, i.bytes)) = some (some (.agg #[.string ⟨#[]⟩, .int .i64 0]), 2, 24) := by kernel_rfl
theorem one_field (f : FieldM) : ∀ u ∈ f.cells, u.oneCell' = true := by intro u hu; simp at hu; rcases hu with rfl | rfl | rfl | rfl | rfl <;> rfl
theorem one_item (f : ItemM) : ∀ u ∈ f.cells, u.oneCell' = true := by intro u hu; simp at hu; rcases hu with rfl | rfl <;> rfl
theorem one_int (n : Int) : ∀ u ∈ [Value.int .i64 n], u.oneCell' = true := by intro u hu; simp at hu; subst hu; rfl
theorem owns_new0 (w : World) (e : TypeId) (k : Nat) : (w.alloc (.cells #[] e)).ownsRow w.heap.size e k (.slice (some ⟨w.heap.size, 0, none⟩) 0 0) 0 [] :=
  ⟨by simp, .inr ⟨w.heap.size, 0, #[], rfl, Nat.le_refl _, heap_alloc_new w _, Nat.le_refl _, by simp, by simp, by simp⟩⟩

set_option maxHeartbeats 400000 in
theorem cloneFields_any (s : SV) (l : List FieldM) (w : World) (hs : FieldsAt w s l) (hok : s.ok) (hl : l.length ≤ 1048576) :
    Calls Tryd.prog 37 #[.slice s.a s.len s.cap] w fun e w' => ∃ s' : SV, e = .returned (.slice s'.a s'.len s'.cap) ∧ FieldsAt w' s' l ∧ s'.ok ∧ s'.Fresh w ∧ Ext w w' := by
  have q : ∀ (w : World) (a : Option Addr) (n c n' c' : Nat), (binOp .eql 42 (.slice a n c) (.slice none n' c')).run Tryd.prog w = .ok (.bool a.isNone) w := fun w a n c n' c' => Lib.run_eql_slice_nil w _ _ a n c n' c' Tryd.underlying42
  obtain ⟨a, n, cap⟩ := s
  cases a with
  | none =>
    obtain ⟨e0, e1⟩ := hok.nil rfl
    simp only at e0 e1
    subst e0 e1
    show Calls Tryd.prog 37 #[.slice none 0 0] w _
    go_enter Tryd.func37, Tryd.ntmps37
    go_wp2
    go_ret
    exact ⟨⟨none, 0, 0⟩, rfl, hs, hok, fun _ h => (by cases h), Ext.refl w⟩
  | some ad =>
    have hs1 : FieldsAt (w.alloc (.cells #[] 36)) ⟨some ad, n, cap⟩ l := hs.ext ((Ext.refl w).alloc _)
    have hx0 : Ext w (w.alloc (.cells #[] 36)) := (Ext.refl w).alloc _
    show Calls Tryd.prog 37 #[.slice (some ad) n cap] w _
    go_enter Tryd.func37, Tryd.ntmps37
    go_wp2_with (at_builtin; refine wpList_plain rfl fun _ hK => wp_app_all _ _ 42 36 _ 5 56 rfl Tryd.underlying42 info36 rfl (by decide) (by decide) FieldM.cells (fun _ => rfl) one_field w.heap.size _ (owns_new0 w 36 5) w hx0 (Nat.le_refl _) (by simp) rfl ⟨some ad, n, cap⟩ l hs1 (fun h => by cases h) hl rfl fun s' w' h1 h2 h3 h4 => hK _ _ ?_)
    go_ret
    exact ⟨s', rfl, h1, ok_of_owns h4, fresh_of_owns h4 (Nat.le_refl _), h2⟩

set_option maxHeartbeats 400000 in
theorem cloneInts_any (s : SV) (l : List Int) (w : World) (hs : IntsAt w s l) (hok : s.ok) (hl : l.length ≤ 1048576) :
    Calls Tryd.prog 38 #[.slice s.a s.len s.cap] w fun e w' => ∃ s' : SV, e = .returned (.slice s'.a s'.len s'.cap) ∧ IntsAt w' s' l ∧ s'.ok ∧ s'.Fresh w ∧ Ext w w' := by
  have q : ∀ (w : World) (a : Option Addr) (n c n' c' : Nat), (binOp .eql 43 (.slice a n c) (.slice none n' c')).run Tryd.prog w = .ok (.bool a.isNone) w := fun w a n c n' c' => Lib.run_eql_slice_nil w _ _ a n c n' c' Tryd.underlying43
  obtain ⟨a, n, cap⟩ := s
  cases a with
  | none =>
    obtain ⟨e0, e1⟩ := hok.nil rfl
    simp only at e0 e1
    subst e0 e1
    show Calls Tryd.prog 38 #[.slice none 0 0] w _
    go_enter Tryd.func38, Tryd.ntmps38
    go_wp2
    go_ret
    exact ⟨⟨none, 0, 0⟩, rfl, hs, hok, fun _ h => (by cases h), Ext.refl w⟩
  | some ad =>
    have hs1 : IntsAt (w.alloc (.cells #[] 3)) ⟨some ad, n, cap⟩ l := hs.ext ((Ext.refl w).alloc _)
    have hx0 : Ext w (w.alloc (.cells #[] 3)) := (Ext.refl w).alloc _
    show Calls Tryd.prog 38 #[.slice (some ad) n cap] w _
    go_enter Tryd.func38, Tryd.ntmps38
    go_wp2_with (at_builtin; refine wpList_plain rfl fun _ hK => wp_app_all _ _ 43 3 _ 1 8 rfl Tryd.underlying43 info3 rfl (by decide) (by decide) (fun n => [Value.int .i64 n]) (fun _ => rfl) one_int w.heap.size _ (owns_new0 w 3 1) w hx0 (Nat.le_refl _) (by simp) rfl ⟨some ad, n, cap⟩ l hs1 (fun h => by cases h) hl rfl fun s' w' h1 h2 h3 h4 => hK _ _ ?_)
    go_ret
    exact ⟨s', rfl, h1, ok_of_owns h4, fresh_of_owns h4 (Nat.le_refl _), h2⟩

set_option maxHeartbeats 400000 in
theorem cloneItems_any (s : SV) (l : List ItemM) (w : World) (hs : ItemsAt w s l) (hok : s.ok) (hl : l.length ≤ 1048576) :
    Calls Tryd.prog 39 #[.slice s.a s.len s.cap] w fun e w' => ∃ s' : SV, e = .returned (.slice s'.a s'.len s'.cap) ∧ ItemsAt w' s' l ∧ s'.ok ∧ s'.Fresh w ∧ Ext w w' := by
  have q : ∀ (w : World) (a : Option Addr) (n c n' c' : Nat), (binOp .eql 44 (.slice a n c) (.slice none n' c')).run Tryd.prog w = .ok (.bool a.isNone) w := fun w a n c n' c' => Lib.run_eql_slice_nil w _ _ a n c n' c' Tryd.underlying44
  obtain ⟨a, n, cap⟩ := s
  cases a with
  | none =>
    obtain ⟨e0, e1⟩ := hok.nil rfl
    simp only at e0 e1
    subst e0 e1
    show Calls Tryd.prog 39 #[.slice none 0 0] w _
    go_enter Tryd.func39, Tryd.ntmps39
    go_wp2
    go_ret
    exact ⟨⟨none, 0, 0⟩, rfl, hs, hok, fun _ h => (by cases h), Ext.refl w⟩
  | some ad =>
    have hs1 : ItemsAt (w.alloc (.cells #[] 73)) ⟨some ad, n, cap⟩ l := hs.ext ((Ext.refl w).alloc _)
    have hx0 : Ext w (w.alloc (.cells #[] 73)) := (Ext.refl w).alloc _
    show Calls Tryd.prog 39 #[.slice (some ad) n cap] w _
    go_enter Tryd.func39, Tryd.ntmps39
    go_wp2_with (at_builtin; refine wpList_plain rfl fun _ hK => wp_app_all _ _ 44 73 _ 2 24 rfl Tryd.underlying44 info73 rfl (by decide) (by decide) ItemM.cells (fun _ => rfl) one_item w.heap.size _ (owns_new0 w 73 2) w hx0 (Nat.le_refl _) (by simp) rfl ⟨some ad, n, cap⟩ l hs1 (fun h => by cases h) hl rfl fun s' w' h1 h2 h3 h4 => hK _ _ ?_)
    go_ret
    exact ⟨s', rfl, h1, ok_of_owns h4, fresh_of_owns h4 (Nat.le_refl _), h2⟩

set_option maxHeartbeats 800000 in
theorem find_any (s : SV) (ts : BookM) (name : ByteArray) (w : World) (hs : BookAt w s ts) (hn : ts.Small) :
    Calls Tryd.prog 19 #[.agg #[.slice s.a s.len s.cap], .string name] w fun e w' => ∃ tv : TV, e = .returned (.tuple #[.agg #[.string tv.name, .bool tv.enum, .slice tv.fields.a tv.fields.len tv.fields.cap, .slice tv.gone.a tv.gone.len tv.gone.cap, .slice tv.items.a tv.items.len tv.items.cap], .bool (findM ts name).isSome]) ∧ TypeAt w' tv ((findM ts name).getD TypeM.zero) ∧ Ext w w' := by
  have hlen := hn.1
  have hsm : ((findM ts name).getD TypeM.zero).fields.length ≤ 1048576 ∧ ((findM ts name).getD TypeM.zero).gone.length ≤ 1048576 ∧ ((findM ts name).getD TypeM.zero).items.length ≤ 1048576 := by
    cases hf : findM ts name with
    | none => simp [TypeM.zero]
    | some t => have := hn.2 t (findM_mem hf); exact ⟨this.fields, this.gone, this.items⟩
  obtain ⟨hs1, hs2, hs3⟩ := hsm
  obtain ⟨T, hT⟩ : ∃ T, (findM ts name).getD TypeM.zero = T := ⟨_, rfl⟩
  rw [hT] at hs1 hs2 hs3
  have hx0 : Ext w ((w.alloc (.cells #[.slice s.a s.len s.cap] 24)).alloc (.cells #[.string ⟨#[]⟩, .bool false, .slice none 0 0, .slice none 0 0, .slice none 0 0] 46)) := ((Ext.refl w).alloc _).alloc _
  have HT := hide hT
  clear hT
  go_enter Tryd.func19, Tryd.ntmps19
  go_wp2_with fail
  refine (lookUp_any s ts name _ (hs.ext hx0) (by omega)).mono ?_
  rintro e w1 ⟨tv, rfl, htv, hx1⟩
  rw [unhide HT] at htv
  have hr1 := hx1.heap (heap_alloc2_new _ _ _)
  have hz1 : w.heap.size + 1 < w1.heap.size := lt_of_heap hr1
  have hE1 : Ext w w1 := hx0.trans hx1
  obtain ⟨nm, en, fs, gs, is⟩ := tv
  replace htv := htv.ext hx1
  have hfs := htv.fields
  have hgs := htv.gone
  have his := htv.items
  have fok := htv.fok
  have gok := htv.gok
  have iok := htv.iok
  have Hnm := hide htv.name
  have Hen := hide htv.enum
  simp only at hfs hgs his fok gok iok Hnm Hen
  clear htv
  have hx1' : Ext w1 (w1.alloc (.cells #[.string nm, .bool en, .slice fs.a fs.len fs.cap, .slice gs.a gs.len gs.cap, .slice is.a is.len is.cap] 46)) := (Ext.refl w1).alloc _
  go_wp2_with fail
  refine (cloneFields_any fs T.fields _ (hfs.ext hx1') fok hs1).mono ?_
  rintro e w2 ⟨fs', rfl, hfs', fok', ffs, hx2⟩
  have hb2 := hx2.heap (heap_alloc_new _ _)
  obtain ⟨a0, a1, a2, a3, a4, af⟩ := row5 hb2
  have hb2' := heap_setCell_same w2 w1.heap.size 2 _ 46 (.slice fs'.a fs'.len fs'.cap) hb2
  have hE2 : Ext w1 (w2.setCell ⟨w1.heap.size, 2, none⟩ (.slice fs'.a fs'.len fs'.cap)) := (hx1'.trans hx2).setCell (by simp) _
  replace hfs' := hfs'.setCell ⟨w1.heap.size, 2, none⟩ (.slice fs'.a fs'.len fs'.cap) (fun ad ha => by have := ffs ad ha; simp at this; simp; omega)
  have hz2 : w1.heap.size < w2.heap.size := lt_of_heap hb2
  go_wp2_with fail
  refine (cloneInts_any gs T.gone _ (hgs.ext hE2) gok hs2).mono ?_
  rintro e w3 ⟨gs', rfl, hgs', gok', fgs, hx3⟩
  have hb3 := hx3.heap hb2'
  clear a0 a1 a2 a3 a4 af
  simp only [List.setIfInBounds_toArray, List.set_cons_succ, List.set_cons_zero] at hb3
  obtain ⟨a0, a1, a2, a3, a4, af⟩ := row5 hb3
  have hb3' := heap_setCell_same w3 w1.heap.size 3 _ 46 (.slice gs'.a gs'.len gs'.cap) hb3
  have hE3 : Ext w1 (w3.setCell ⟨w1.heap.size, 3, none⟩ (.slice gs'.a gs'.len gs'.cap)) := (hE2.trans hx3).setCell (by simp) _
  have ffs3 : ∀ ad, fs'.a = some ad → ad.block ≠ w1.heap.size := fun ad ha => by have := ffs ad ha; simp at this; omega
  have fgs3 : ∀ ad, gs'.a = some ad → ad.block ≠ w1.heap.size := fun ad ha => by have := fgs ad ha; simp at this; omega
  replace hfs' := (hfs'.ext hx3).setCell ⟨w1.heap.size, 3, none⟩ (.slice gs'.a gs'.len gs'.cap) ffs3
  replace hgs' := hgs'.setCell ⟨w1.heap.size, 3, none⟩ (.slice gs'.a gs'.len gs'.cap) fgs3
  have hz3 : w1.heap.size < w3.heap.size := lt_of_heap hb3
  clear hb2 hb2' hx2
  go_wp2_with fail
  refine (cloneItems_any is T.items _ (his.ext hE3) iok hs3).mono ?_
  rintro e w4 ⟨is', rfl, his', iok', fis, hx4⟩
  have hb4 := hx4.heap hb3'
  clear a0 a1 a2 a3 a4 af
  simp only [List.setIfInBounds_toArray, List.set_cons_succ, List.set_cons_zero] at hb4
  obtain ⟨a0, a1, a2, a3, a4, af⟩ := row5 hb4
  have fis3 : ∀ ad, is'.a = some ad → ad.block ≠ w1.heap.size := fun ad ha => by have := fis ad ha; simp at this; omega
  have hE4 : Ext w1 (w4.setCell ⟨w1.heap.size, 4, none⟩ (.slice is'.a is'.len is'.cap)) := (hE3.trans hx4).setCell (by simp) _
  replace hfs' := (hfs'.ext hx4).setCell ⟨w1.heap.size, 4, none⟩ (.slice is'.a is'.len is'.cap) ffs3
  replace hgs' := (hgs'.ext hx4).setCell ⟨w1.heap.size, 4, none⟩ (.slice is'.a is'.len is'.cap) fgs3
  replace his' := his'.setCell ⟨w1.heap.size, 4, none⟩ (.slice is'.a is'.len is'.cap) fis3
  obtain ⟨r0, r1, r2, r3, r4, rf⟩ := row5 ((hE3.trans hx4).heap hr1)
  have hz4 : w.heap.size + 1 < w4.heap.size := lt_of_heap ((hE3.trans hx4).heap hr1)
  have hz4' : w1.heap.size < w4.heap.size := lt_of_heap hb4
  clear hb3 hb3' hx3 hb4 hx4 hx1 hr1
  go_wp2
  refine bodyPost_ret (v := .tuple #[.agg #[.string nm, .bool en, .slice fs'.a fs'.len fs'.cap, .slice gs'.a gs'.len gs'.cap, .slice is'.a is'.len is'.cap], .bool (findM ts name).isSome]) ?_ rfl ⟨⟨nm, en, fs', gs', is'⟩, rfl, ?_, ?_⟩
  · simp [results, Tryd.results19, go_sem, r0, r1, r2, r3, r4]
  · rw [unhide HT]
    have kf : ∀ ad, fs'.a = some ad → ad.block ≠ w.heap.size + 1 := fun ad ha => by have := ffs ad ha; simp at this; omega
    have kg : ∀ ad, gs'.a = some ad → ad.block ≠ w.heap.size + 1 := fun ad ha => by have := fgs ad ha; simp at this; omega
    have ki : ∀ ad, is'.a = some ad → ad.block ≠ w.heap.size + 1 := fun ad ha => by have := fis ad ha; simp at this; omega
    exact ⟨unhide Hnm, unhide Hen, ((((hfs'.setCell _ _ kf).setCell _ _ kf).setCell _ _ kf).setCell _ _ kf).setCell _ _ kf, ((((hgs'.setCell _ _ kg).setCell _ _ kg).setCell _ _ kg).setCell _ _ kg).setCell _ _ kg, ((((his'.setCell _ _ ki).setCell _ _ ki).setCell _ _ ki).setCell _ _ ki).setCell _ _ ki, fok', gok', iok'⟩
  · exact ((((((hE1.trans hE4).setCell (by simp) _).setCell (by simp) _).setCell (by simp) _).setCell (by simp) _).setCell (by simp) _)
end Go.Proofs.YtblkgaoafejefaaDoor
