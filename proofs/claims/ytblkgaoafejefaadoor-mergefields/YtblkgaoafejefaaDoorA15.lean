import Derived.Test.YtblkgaoafejefaaDoorA14
import Derived.Test.YtblkgaoafejefaaDoorK2
namespace Go.Proofs.YtblkgaoafejefaaDoor
set_option linter.unusedSimpArgs false
set_option linter.unusedVariables false
open Go.RowKit

def mF : FieldM := ⟨3, ⟨#[120]⟩, ⟨#[]⟩, 2, 3⟩
def mA : BookM := [⟨⟨#[97]⟩, false, [], [], []⟩]
def mB : BookM := [⟨⟨#[97]⟩, false, [mF], [], []⟩]
theorem good_mA : goodM mA = 0 := by kernel_rfl
theorem good_mB : goodM mB = 0 := by kernel_rfl
theorem books_m : booksM mA mB mA = (mB, [], 0) := books_1 (good_B good_mB) good_mA good_mB
theorem same_mB : sameBookB mB mB = true := by kernel_rfl
theorem same_mA : sameBookB mA mB = false := by kernel_rfl
/-- A slice of one type in a block of its own. -/
theorem book_one {w : World} {g c : Nat} {tv : TV} {t : TypeM} (hb : w.heap[g]? = some (.cells #[.string tv.name, .bool tv.enum, .slice tv.fields.a tv.fields.len tv.fields.cap, .slice tv.gone.a tv.gone.len tv.gone.cap, .slice tv.items.a tv.items.len tv.items.cap] 46 (0, 0))) (ht : TypeAt w tv t) : BookAt w ⟨some ⟨g, 0, none⟩, 1, c⟩ [t] := by
  refine ⟨rfl, fun i x hx => ?_⟩
  have : i = 0 := by
    have := (List.getElem?_eq_some_iff.1 hx).1
    simp at this; omega
  subst this
  simp only [List.getElem?_cons_zero, Option.some.injEq] at hx
  subst hx
  refine ⟨g, 0, tv.cells, rfl, fun j v hj => ?_, tv, rfl, ht⟩
  rw [cell_of_row w g _ _ 46 _ hb]
  simp only [Nat.zero_mul, Nat.zero_add, ← Array.getElem?_toList]
  exact hj
theorem nilFields (w : World) : FieldsAt w ⟨none, 0, 0⟩ [] := ⟨rfl, fun i x hx => by simp at hx⟩
theorem nilInts (w : World) : IntsAt w ⟨none, 0, 0⟩ [] := ⟨rfl, fun i x hx => by simp at hx⟩
theorem nilItems (w : World) : ItemsAt w ⟨none, 0, 0⟩ [] := ⟨rfl, fun i x hx => by simp at hx⟩
theorem small_mA : BookM.Small mA := good_small good_mA
theorem small_mB : BookM.Small mB := good_small good_mB
set_option maxHeartbeats 3200000 in
theorem merges_ok (w : World) (hw : WordsAt w) : Calls Tryd.prog 8 #[] w fun e w' => e = .returned (.bool true) ∧ Ext w w' := by
  obtain ⟨W, hW⟩ : ∃ W, W = ((((w.alloc (.cells #[.int .i64 3, .string ⟨#[120]⟩, .string ⟨#[]⟩, .int .i64 2, .int .i64 3] 36)).alloc (.cells #[.string ⟨#[97]⟩, .bool false, .slice none 0 0, .slice none 0 0, .slice none 0 0] 46)).alloc (.cells #[.slice (some ⟨w.heap.size + 1, 0, none⟩) 1 1] 24)).alloc (.cells #[.string ⟨#[97]⟩, .bool false, .slice (some ⟨w.heap.size, 0, none⟩) 1 1, .slice none 0 0, .slice none 0 0] 46)).alloc (.cells #[.slice (some ⟨w.heap.size + 1 + 1 + 1, 0, none⟩) 1 1] 24) := ⟨_, rfl⟩
  have hxW : Ext w W := by rw [hW]; exact (((((Ext.refl w).alloc _).alloc _).alloc _).alloc _).alloc _
  have r0 : W.heap[w.heap.size]? = some (.cells #[.int .i64 3, .string ⟨#[120]⟩, .string ⟨#[]⟩, .int .i64 2, .int .i64 3] 36 (0, 0)) := by rw [hW]; exact (((((Ext.refl _).alloc _).alloc _).alloc _).alloc _).heap (heap_alloc_new w _)
  have r1 : W.heap[w.heap.size + 1]? = some (.cells #[.string ⟨#[97]⟩, .bool false, .slice none 0 0, .slice none 0 0, .slice none 0 0] 46 (0, 0)) := by rw [hW]; exact ((((Ext.refl _).alloc _).alloc _).alloc _).heap (heap_alloc2_new w _ _)
  have r2 : W.heap[w.heap.size + 1 + 1]? = some (.cells #[.slice (some ⟨w.heap.size + 1, 0, none⟩) 1 1] 24 (0, 0)) := by rw [hW]; exact (((Ext.refl _).alloc _).alloc _).heap (heap_at (by simp) (heap_alloc_new _ _))
  have r3 : W.heap[w.heap.size + 1 + 1 + 1]? = some (.cells #[.string ⟨#[97]⟩, .bool false, .slice (some ⟨w.heap.size, 0, none⟩) 1 1, .slice none 0 0, .slice none 0 0] 46 (0, 0)) := by rw [hW]; exact ((Ext.refl _).alloc _).heap (heap_at (by simp) (heap_alloc_new _ _))
  have r4 : W.heap[w.heap.size + 1 + 1 + 1 + 1]? = some (.cells #[.slice (some ⟨w.heap.size + 1 + 1 + 1, 0, none⟩) 1 1] 24 (0, 0)) := by rw [hW]; exact heap_at (by simp) (heap_alloc_new _ _)
  have ok0 : SV.ok ⟨some ⟨w.heap.size, 0, none⟩, 1, 1⟩ := ⟨Nat.le_refl _, fun h => by cases h⟩
  have bA : BookAt W ⟨some ⟨w.heap.size + 1, 0, none⟩, 1, 1⟩ mA := book_one (tv := ⟨⟨#[97]⟩, false, ⟨none, 0, 0⟩, ⟨none, 0, 0⟩, ⟨none, 0, 0⟩⟩) r1 ⟨rfl, rfl, nilFields W, nilInts W, nilItems W, nil_ok, nil_ok, nil_ok⟩
  have bF : FieldsAt W ⟨some ⟨w.heap.size, 0, none⟩, 1, 1⟩ [mF] := by
    refine ⟨rfl, fun i x hx => ?_⟩
    have : i = 0 := by
      have := (List.getElem?_eq_some_iff.1 hx).1
      simp at this; omega
    subst this
    simp only [List.getElem?_cons_zero, Option.some.injEq] at hx
    subst hx
    refine ⟨w.heap.size, 0, mF.cells, rfl, fun j v hj => ?_, rfl⟩
    rw [cell_of_row W _ _ _ 36 _ r0]
    simp only [Nat.zero_mul, Nat.zero_add, ← Array.getElem?_toList]
    exact hj
  have bB : BookAt W ⟨some ⟨w.heap.size + 1 + 1 + 1, 0, none⟩, 1, 1⟩ mB := book_one (tv := ⟨⟨#[97]⟩, false, ⟨some ⟨w.heap.size, 0, none⟩, 1, 1⟩, ⟨none, 0, 0⟩, ⟨none, 0, 0⟩⟩) r3 ⟨rfl, rfl, bF, nilInts W, nilItems W, ok0, nil_ok, nil_ok⟩
  have hB := books_any _ _ _ mA mB mA W bA bB bA (hw.ext hxW) small_mA.fits small_mB.fits small_mA.fits
  rw [books_m] at hB
  have HB := hide hB
  have HW := hide hW
  clear hW hB
  obtain ⟨c2, _⟩ := row1 r2
  obtain ⟨c4, _⟩ := row1 r4
  go_enter Tryd.func8, Tryd.ntmps8
  go_wp2_with fail
  rw [← unhide HW]
  refine (unhide HB).mono ?_
  rintro e w1 ⟨sx, fl, rfl, hbk, hfa, hok, hfok, x1⟩
  have h1 := hxW.trans x1
  have c2 := x1.cell c2
  have c4 := x1.cell c4
  have z2 := World.block_lt_of_cell? _ _ c2
  have z4 := World.block_lt_of_cell? _ _ c4
  simp only at z2 z4
  have x2 : Ext w1 (w1.alloc (.cells #[.slice sx.a sx.len sx.cap] 24)) := (Ext.refl w1).alloc _
  have hs := same_any _ sx mB mB _ (bB.ext (x1.trans x2)) (hbk.ext x2) small_mB.fits small_mB.fits
  have hs2 := fun w' (hx : Ext (w1.alloc (.cells #[.slice sx.a sx.len sx.cap] 24)) w') => same_any _ sx mA mB w' (bA.ext ((x1.trans x2).trans hx)) (hbk.ext (x2.trans hx)) small_mA.fits small_mB.fits
  rw [same_mB] at hs
  simp only [same_mA] at hs2
  have HS := hide hs
  have HS2 := hide hs2
  have r5 := heap_alloc_new w1 (.cells #[.slice sx.a sx.len sx.cap] 24)
  clear hs hs2 bA bB bF hbk hfa HB r0 r1 r2 r3 r4
  go_wp2_with fail
  refine (unhide HS).mono ?_
  rintro e w3 ⟨rfl, x3⟩
  have c5 := (row1 (x3.heap r5)).1
  have c2 := (x2.trans x3).cell c2
  have h3 := (h1.trans x2).trans x3
  go_wp2_with fail
  refine (unhide HS2 w3 x3).mono ?_
  rintro e w4 ⟨rfl, x4⟩
  go_wp2
  go_ret
  exact ⟨rfl, h3.trans x4⟩
theorem books_small {was a b : BookM} : (booksM was a b).1.Small := by
  have hnil : BookM.Small [] := ⟨by decide, fun t ht => absurd ht List.not_mem_nil⟩
  unfold booksM
  split
  · exact hnil
  · rename_i h0
    split
    · exact hnil
    · split
      · exact hnil
      · rename_i h; exact good_small (Decidable.byContradiction h)
theorem books_flaws {was a b : BookM} : ((booksM was a b).2.2 = 9 ↔ 0 < (booksM was a b).2.1.length) := by
  unfold booksM
  split
  · simp
  · split
    · rename_i h; simp [List.length_pos_iff.2 h]
    · split
      · rename_i h
        have := good_err (ts := outOf was a b (namesM was a b))
        simp only [List.length_nil, Nat.lt_irrefl, iff_false]
        omega
      · simp
theorem books_len {was a b : BookM} : (booksM was a b).2.1.length ≤ 1048576 := by
  unfold booksM
  split
  · simp
  · rename_i h
    have h1 : goodM was = 0 := Classical.byContradiction fun hh => h (.inl hh)
    have h2 : goodM a = 0 := Classical.byContradiction fun hh => h (.inr (.inl hh))
    have h3 : goodM b = 0 := Classical.byContradiction fun hh => h (.inr (.inr hh))
    have hl := flK_len h1 h2 h3 _ (Nat.le_refl _)
    rw [flK_all] at hl
    have := names_le h1 h2 h3
    split
    · simp only; omega
    · split <;> simp
set_option maxHeartbeats 6400000 in
theorem mergeSides_calls (s1 s2 s3 : SV) (was a b : BookM) (w : World) (h1 : BookAt w s1 was) (h2 : BookAt w s2 a) (h3 : BookAt w s3 b) (hw : WordsAt w) (n1 : was.Fits) (n2 : a.Fits) (n3 : b.Fits) :
    Calls Tryd.prog 3 #[.agg #[.slice s1.a s1.len s1.cap], .agg #[.slice s2.a s2.len s2.cap], .agg #[.slice s3.a s3.len s3.cap]] w fun e w' => e = .returned (.bool true) ∧ Ext w w' := by
  obtain ⟨W, hW⟩ : ∃ W, W = ((w.alloc (.cells #[.slice s1.a s1.len s1.cap] 24)).alloc (.cells #[.slice s2.a s2.len s2.cap] 24)).alloc (.cells #[.slice s3.a s3.len s3.cap] 24) := ⟨_, rfl⟩
  have hxW : Ext w W := by rw [hW]; exact (((Ext.refl w).alloc _).alloc _).alloc _
  have r0 : W.heap[w.heap.size]? = some (.cells #[.slice s1.a s1.len s1.cap] 24 (0, 0)) := by rw [hW]; exact (((Ext.refl _).alloc _).alloc _).heap (heap_alloc_new w _)
  have r1 : W.heap[w.heap.size + 1]? = some (.cells #[.slice s2.a s2.len s2.cap] 24 (0, 0)) := by rw [hW]; exact ((Ext.refl _).alloc _).heap (heap_alloc2_new w _ _)
  have r2 : W.heap[w.heap.size + 1 + 1]? = some (.cells #[.slice s3.a s3.len s3.cap] 24 (0, 0)) := by rw [hW]; exact heap_at (by simp) (heap_alloc_new _ _)
  have B1 := books_any s1 s2 s3 was a b W (h1.ext hxW) (h2.ext hxW) (h3.ext hxW) (hw.ext hxW) n1 n2 n3
  have B2 := fun w' (hx : Ext W w') => books_any s1 s3 s2 was b a w' (h1.ext (hxW.trans hx)) (h3.ext (hxW.trans hx)) (h2.ext (hxW.trans hx)) (hw.ext (hxW.trans hx)) n1 n3 n2
  simp only [books_swap was a b] at B2
  have hsm := books_small (was := was) (a := a) (b := b)
  have hfl := books_flaws (was := was) (a := a) (b := b)
  have hln := books_len (was := was) (a := a) (b := b)
  generalize booksM was a b = M at *
  obtain ⟨X, L, E⟩ := M
  simp only at B1 B2 hsm hfl hln
  have HB1 := hide B1
  have HB2 := hide B2
  have HM := fun w' (hx : Ext w w') => merges_ok w' (hw.ext hx)
  have HW := hide hW
  have Hfl := hide hfl
  clear hW B1 B2 h1 h2 h3 hw n1 n2 n3 hfl
  obtain ⟨c0, _⟩ := row1 r0
  obtain ⟨c1, _⟩ := row1 r1
  obtain ⟨c2, _⟩ := row1 r2
  go_enter Tryd.func3, Tryd.ntmps3
  go_wp2_with fail
  rw [← unhide HW]
  refine (unhide HB1).mono ?_
  rintro e w1 ⟨sx, fl, rfl, hbk, hfa, hok, hfok, x1⟩
  have x2 : Ext w1 (w1.alloc (.cells #[.slice sx.a sx.len sx.cap] 24)) := (Ext.refl w1).alloc _
  have c0 := x1.cell c0
  have c1 := x1.cell c1
  have c2 := x1.cell c2
  have z0 := World.block_lt_of_cell? _ _ c0
  have z1 := World.block_lt_of_cell? _ _ c1
  have z2 := World.block_lt_of_cell? _ _ c2
  simp only at z0 z1 z2
  have r5 := heap_alloc_new w1 (.cells #[.slice sx.a sx.len sx.cap] 24)
  have Hbk := hide hbk
  have Hfa := hide hfa
  have l1 := hfa.1
  obtain ⟨fa, fll, fc⟩ := fl
  simp only at l1
  subst l1
  clear hbk hfa r0 r1 r2
  go_wp2_with fail
  refine (unhide HB2 _ (x1.trans x2)).mono ?_
  rintro e w3 ⟨sy, fm, rfl, hbk2, hfa2, hok2, hfok2, x3⟩
  have x4 : Ext w3 (w3.alloc (.cells #[.slice sy.a sy.len sy.cap] 24)) := (Ext.refl w3).alloc _
  have r5 := x3.heap r5
  have z5 := lt_of_heap r5
  obtain ⟨c5, _⟩ := row1 r5
  have x13 := x2.trans x3
  have x14 := x13.trans x4
  have hs := sameBook_true sx sy X _ ((unhide Hbk).ext x14) (hbk2.ext x4) hsm
  have HS := hide hs
  have Hfa2 := hide hfa2
  have l2 := hfa2.1
  have hx4 := (hxW.trans x1).trans x14
  have HFE : Hid (FlawsAt (w3.alloc (.cells #[.slice sy.a sy.len sy.cap] 24)) ⟨fa, L.length, fc⟩ L ∧ FlawsAt (w3.alloc (.cells #[.slice sy.a sy.len sy.cap] 24)) fm L) := ⟨(unhide Hfa).ext x14, hfa2.ext x4⟩
  obtain ⟨ma, ml, mc⟩ := fm
  simp only at l2
  subst l2
  clear hbk2 hfa2 hs HB1 HB2 Hbk Hfa Hfa2 c0 c1 c2
  go_wp2_with fail
  refine (unhide HS).mono ?_
  rintro e w5 ⟨rfl, x5⟩
  have hx5 := hx4.trans x5
  have HFE : Hid (FlawsAt w5 ⟨fa, L.length, fc⟩ L ∧ FlawsAt w5 ⟨ma, L.length, mc⟩ L) := ⟨(unhide HFE).1.ext x5, (unhide HFE).2.ext x5⟩
  go_wp2_with fail
  refine (HM w5 hx5).mono ?_
  rintro e w6 ⟨rfl, x6⟩
  have hx6 := hx5.trans x6
  have HFE : Hid (FlawsAt w6 ⟨fa, L.length, fc⟩ L ∧ FlawsAt w6 ⟨ma, L.length, mc⟩ L) := ⟨(unhide HFE).1.ext x6, (unhide HFE).2.ext x6⟩
  clear HS HM
  go_wp2
  go_loopw [52] (fun i wr => ∃ k : Nat, k ≤ L.length ∧ i = .int .i64 k ∧ Ext w6 wr) (fun i _ => L.length - (intOf i).toNat)
  case atStart => exact ⟨0, by omega, rfl, Ext.refl w6⟩
  case round =>
    obtain ⟨k, hk, rfl, hx⟩ := hrel
    by_cases hlt : k < L.length
    · obtain ⟨b, o, cs, e1, hr, rfl⟩ := (unhide HFE).1.2 k L[k] (by simp [hlt])
      obtain ⟨b', o', cs', e2, hr', rfl⟩ := (unhide HFE).2.2 k L[k] (by simp [hlt])
      simp only at e1 e2
      subst e1 e2
      have hrx := hx.range hr
      have hrx' := hx.range hr'
      have f0 := hrx 0 _ rfl
      have f1 := hrx 1 _ rfl
      have f2 := hrx 2 _ rfl
      have g0 := hrx' 0 _ rfl
      have g1 := hrx' 1 _ rfl
      have g2 := hrx' 2 _ rfl
      simp only [Nat.add_zero] at f0 g0
      generalize L[k] = p at *
      obtain ⟨pn, pi⟩ := p
      simp only at f0 f1 f2 g0 g1 g2
      clear hr hr' hrx hrx'
      go_wp2_with fail
      go_quiet (fail)
      go_wp2
      exact ⟨⟨k + 1, by omega, by go_num, hx.drewN _⟩, by simp [intOf]; omega⟩
    · go_wp2
      go_ret
      refine ⟨ret_bool ?_, hx6.trans hx⟩
      have hfl := unhide Hfl
      by_cases h9 : E = 9
      · have := hfl.1 h9
        simp [h9]
        omega
      · have : ¬ 0 < L.length := fun h => h9 (hfl.2 h)
        have h0 : L.length = 0 := by omega
        simp [h9, h0]
end Go.Proofs.YtblkgaoafejefaaDoor
