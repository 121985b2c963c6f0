import Derived.Test.YtmghhakebhgckaaGreatDoorG3
namespace Go.Proofs.YtmghhakebhgckaaGreatDoor
set_option linter.unusedSimpArgs false
set_option linter.unusedVariables false
set_option linter.unusedSimpArgs false
set_option linter.unusedVariables false
open Go.RowKit

/-- A type that is being read: its five cells in block h, and its three lists in rows of its own, from block 'base' on. -/
structure TyOwn (w : World) (h base : Nat) (tv : TV) (fs : List FieldM) (gs : List Int) (is : List ItemM) : Prop where
  row : w.heap[h]? = some (.cells #[.string tv.name, .bool tv.enum, .slice tv.fields.a tv.fields.len tv.fields.cap, .slice tv.gone.a tv.gone.len tv.gone.cap, .slice tv.items.a tv.items.len tv.items.cap] 30 (0, 0))
  fields : w.ownsRow base 34 5 (.slice tv.fields.a tv.fields.len tv.fields.cap) fs.length (fs.flatMap FieldM.cells)
  gone : w.ownsRow base 3 1 (.slice tv.gone.a tv.gone.len tv.gone.cap) gs.length (gs.flatMap encI)
  items : w.ownsRow base 55 2 (.slice tv.items.a tv.items.len tv.items.cap) is.length (is.flatMap ItemM.cells)
theorem TyOwn.grown {w w' : World} {g h base : Nat} {tv : TV} {fs : List FieldM} {gs : List Int} {is : List ItemM} (t : TyOwn w h base tv fs gs is) (hg : w.grownBy w' (some g)) (hgb : g < base) (hgh : h ≠ g) : TyOwn w' h base tv fs gs is :=
  ⟨heap_grown hg t.row hgh, kept_some t.fields hg hgb, kept_some t.gone hg hgb, kept_some t.items hg hgb⟩
theorem TyOwn.drewN {w : World} {h base : Nat} {tv : TV} {fs : List FieldM} {gs : List Int} {is : List ItemM} (t : TyOwn w h base tv fs gs is) (n : Nat) : TyOwn (w.drewN n) h base tv fs gs is := ⟨t.row, t.fields, t.gone, t.items⟩

/-- Below 'base' nothing has turned but in the blocks g and h. -/
structure Fr (base g h : Nat) (w w' : World) : Prop where
  os : w'.os = w.os
  tape : w'.tape = w.tape
  output : w'.output = w.output
  size : w.heap.size ≤ w'.heap.size
  block : ∀ i, i < base → i ≠ g → i ≠ h → w'.heap[i]? = w.heap[i]?
theorem Fr.refl (base g h : Nat) (w : World) : Fr base g h w w := ⟨rfl, rfl, rfl, Nat.le_refl _, fun _ _ _ _ => rfl⟩
theorem Fr.trans {base g h : Nat} {a b c : World} (x : Fr base g h a b) (y : Fr base g h b c) : Fr base g h a c :=
  ⟨y.os.trans x.os, y.tape.trans x.tape, y.output.trans x.output, Nat.le_trans x.size y.size, fun i h1 h2 h3 => (y.block i h1 h2 h3).trans (x.block i h1 h2 h3)⟩
theorem Fr.of_grown {base g h : Nat} {w w' : World} (hg : w.grownBy w' (some g)) (hb : base ≤ w.heap.size) : Fr base g h w w' :=
  ⟨hg.os, hg.tape, hg.output, hg.size, fun i h1 h2 _ => hg.block i (by omega) (fun e => h2 (Option.some.inj e))⟩
theorem Fr.of_ext {base g h : Nat} {w w' : World} (he : Ext w w') (hb : base ≤ w.heap.size) : Fr base g h w w' := Fr.of_grown (he.grows _) hb
theorem Fr.set {base g h : Nat} (w : World) (o : Nat) (u : Value) : Fr base g h w (w.setCell ⟨h, o, none⟩ u) :=
  ⟨rfl, rfl, rfl, by simp [World.setCell], fun i _ _ h3 => Below.heap_setCell _ _ _ _ h3⟩
theorem Fr.owned {base g h : Nat} {w w' : World} {e : TypeId} {k : Nat} {v : Value} {n : Nat} {xs : List Value} (hg : w.grownBy w' v.ownBlock) (ho : w.ownsRow base e k v n xs) (hb : base ≤ w.heap.size) : Fr base g h w w' :=
  ⟨hg.os, hg.tape, hg.output, hg.size, fun i h1 _ _ => hg.block i (by omega) (fun e => by have := (ho.lt i e.symm).1; omega)⟩

structure LineR where
  fs : List FieldM
  gs : List Int
  is : List ItemM
  pos : Nat
  bad : Bool
def lineP0 (s : ByteArray) (k : Nat) (bad : Bool) (fs : List FieldM) (gs : List Int) (is : List ItemM) : LineR :=
  let l := s.toList
  let k1 := skipP l k
  if seesWordV l k bad then ⟨fs, gs ++ (goneP s k1 bad).ids, is, (goneP s k1 bad).pos, (goneP s k1 bad).bad⟩
  else
    let n := numVal l k1 bad
    let k2 := numAt l k1 bad
    let b2 := numBad l k1 bad
    let x := wordStr s k2 b2
    let k3 := wordAt l k2 b2
    let b3 := wordBad l k2 b2
    if seesV l k3 b3 59 then ⟨fs, gs, is ++ [⟨x, n⟩], skipP l k3, b3⟩
    else ⟨fs ++ [(fieldP s (skipP l k3) b3 n x).f], gs, is, (fieldP s (skipP l k3) b3 n x).pos, (fieldP s (skipP l k3) b3 n x).bad⟩
def lineP (s : ByteArray) (k : Nat) (bad : Bool) (fs : List FieldM) (gs : List Int) (is : List ItemM) : LineR :=
  let r := lineP0 s k bad fs gs is
  ⟨r.fs, r.gs, r.is, signAt s.toList r.pos r.bad 59, signBad s.toList r.pos r.bad 59⟩

theorem goneLoop_len (l : List UInt8) : ∀ (fuel k : Nat) (bad : Bool) (acc : List Int), k ≤ l.length → acc.length ≤ k + (if bad then 1 else 0) → (goneLoop l fuel k bad acc).ids.length ≤ l.length + 1
  | 0, k, bad, acc, hk, h => by
    unfold goneLoop; simp only; split at h <;> omega
  | fuel + 1, k, bad, acc, hk, h => by
    unfold goneLoop
    split
    · split
      · simp only; split at h <;> omega
      · rename_i hm _
        have hb := moreV_bad hm
        subst hb
        simp only [Bool.false_eq_true, if_false] at h
        have h1 := skipP_le hk
        have h2 := skipP_le h1.2
        have h3 := numAt_le (bad := false) h2.2
        refine goneLoop_len l fuel _ _ _ h3.2 ?_
        rw [List.length_append, List.length_singleton]
        cases hn : numBad l (skipP l (skipP l k)) false
        · have := numAt_lt h2.2 hn
          simp only [Bool.false_eq_true, if_false]; omega
        · simp only [if_true]; omega
    · simp only; split at h <;> omega
theorem goneP_len (s : ByteArray) (k : Nat) (bad : Bool) (hk : k ≤ s.toList.length) : (goneP s k bad).ids.length ≤ s.toList.length + 1 :=
  goneLoop_len _ _ _ _ _ (wordAt_le hk).2 (by simp)

theorem goneLoop_pos (l : List UInt8) : ∀ (fuel k : Nat) (bad : Bool) (acc : List Int), k ≤ l.length → k ≤ (goneLoop l fuel k bad acc).pos ∧ (goneLoop l fuel k bad acc).pos ≤ l.length
  | 0, k, bad, acc, hk => by unfold goneLoop; exact ⟨Nat.le_refl _, hk⟩
  | fuel + 1, k, bad, acc, hk => by
    have h1 := skipP_le hk
    have h2 := skipP_le h1.2
    have h3 := numAt_le (bad := bad) h2.2
    unfold goneLoop
    split
    · split
      · exact ⟨by simp only; omega, h2.2⟩
      · have := goneLoop_pos l fuel (numAt l (skipP l (skipP l k)) bad) (numBad l (skipP l (skipP l k)) bad) (acc ++ [numVal l (skipP l (skipP l k)) bad]) h3.2
        omega
    · exact ⟨h1.1, h1.2⟩
theorem goneP_pos (s : ByteArray) (k : Nat) (bad : Bool) (hk : k ≤ s.toList.length) : (goneP s k bad).pos ≤ s.toList.length :=
  (goneLoop_pos _ _ _ _ _ (wordAt_le hk).2).2

set_option maxHeartbeats 1600000 in
theorem line_gone (g h base : Nat) (s : ByteArray) (k : Nat) (bad : Bool) (tv : TV) (fs : List FieldM) (gs : List Int) (is : List ItemM) (w : World) (hgh : g < h) (hhb : h < base) (hbw : base ≤ w.heap.size)
    (hr : RdAt w g s k bad) (ht : TyOwn w h base tv fs gs is) (hk : k ≤ s.size) (hs : s.size ≤ 524288) (hgl : gs.length + s.size < 1048576) (hsee : seesWordV s.toList k bad = true) :
    Calls Tryz.prog 100 #[.pointer (some ⟨g, 0, none⟩), .pointer (some ⟨h, 0, none⟩)] w fun e w' => e = .returned (.tuple #[]) ∧ RdAt w' g s (lineP s k bad fs gs is).pos (lineP s k bad fs gs is).bad ∧
      (∃ tv' : TV, TyOwn w' h base tv' (lineP s k bad fs gs is).fs (lineP s k bad fs gs is).gs (lineP s k bad fs gs is).is ∧ tv'.name = tv.name ∧ tv'.enum = tv.enum) ∧ Fr base g h w w' := by
  have Hsee := hide hsee
  have hsk := skipP_le (l := s.toList) (k := k) (by rw [size_toList]; exact hk)
  rw [size_toList] at hsk
  clear hsee
  go_enter Tryz.func100, Tryz.ntmps100
  go_wp2_with fail
  refine (seesWord_any g s k bad w hr hk (by omega)).mono ?_
  rintro e w1 ⟨rfl, hr1, hg1⟩
  rw [unhide Hsee]
  have ht1 := ht.grown hg1 (by omega) (by omega)
  have hbw1 : base ≤ w1.heap.size := Nat.le_trans hbw hg1.size
  obtain ⟨nm, en, sf, sg, si⟩ := tv
  have hrow := ht1.row
  simp only at hrow
  obtain ⟨a0, a1, a2, a3, a4, af⟩ := row5 hrow
  go_wp2_with fail
  refine wp_region_X (fun w' => w'.cell? ⟨h, 3, none⟩ = some (.slice sg.a sg.len sg.cap)) (fun j => decide (8 ≤ j)) (by kernel_rfl) ?_
  refine wpAnyX_take (i := 0) (v := .pointer (some ⟨h, 0, none⟩)) rfl (by kernel_rfl) (by kernel_rfl) (fun _ _ _ h => h) (.inl ⟨rfl, fun w' hS => by simp [execOp, go_sem]⟩) a3 ?_
  simp only [Act.put, List.setIfInBounds_toArray, List.set_cons_succ, List.set_cons_zero]
  refine wpAnyX_take (i := 1) (v := .pointer (some ⟨h, 0, none⟩)) rfl (by kernel_rfl) (by kernel_rfl) (fun _ _ _ h => h) (.inl ⟨rfl, fun w' hS => by simp [execOp, go_sem]⟩) a3 ?_
  simp only [Act.put, List.setIfInBounds_toArray, List.set_cons_succ, List.set_cons_zero]
  refine wpAnyX_take (i := 2) (v := .pointer (some ⟨h, 0, none⟩)) rfl (by kernel_rfl) (by kernel_rfl) (fun _ _ _ h => h) (.inl ⟨rfl, fun w' hS => by simp [execOp, go_sem]⟩) a3 ?_
  simp only [Act.put, List.setIfInBounds_toArray, List.set_cons_succ, List.set_cons_zero]
  refine wpAnyX_take (i := 3) (v := .pointer (some ⟨h, 3, none⟩)) rfl (by kernel_rfl) (by kernel_rfl) (fun _ _ _ h => h) (.inl ⟨rfl, fun w' hS => by simp [execOp, go_sem]⟩) a3 ?_
  simp only [Act.put, List.setIfInBounds_toArray, List.set_cons_succ, List.set_cons_zero]
  refine wpAnyX_take (i := 4) (v := .slice sg.a sg.len sg.cap) rfl (by kernel_rfl) (by kernel_rfl) (fun _ _ _ h => h) (.inl ⟨rfl, fun w' hS => by simp [execOp, go_sem, hS]⟩) a3 ?_
  simp only [Act.put, List.setIfInBounds_toArray, List.set_cons_succ, List.set_cons_zero]
  refine wpAnyX_take (i := 5) (v := .pointer (some ⟨g, 0, none⟩)) rfl (by kernel_rfl) (by kernel_rfl) (fun _ _ _ h => h) (.inl ⟨rfl, fun w' hS => by simp [execOp, go_sem]⟩) a3 ?_
  simp only [Act.put, List.setIfInBounds_toArray, List.set_cons_succ, List.set_cons_zero]
  refine wpAnyX_one (j := 6) rfl (by kernel_rfl) rfl fun K hK => ?_
  go_wp2_with fail
  refine (gone_any g s (skipP s.toList k) bad w1.drew hr1 hsk.2 hs).mono ?_
  rintro e w2 ⟨sv, rfl, hsv, hok, hfr, hr2, hg2⟩
  have hg12 : w1.grownBy w2 (some g) := grown_trans (grown_drewN w1 1 _) hg2
  have ht2 := ht1.grown hg12 (by omega) (by omega)
  obtain ⟨R, hR⟩ : ∃ R, goneP s (skipP s.toList k) bad = R := ⟨_, rfl⟩
  rw [hR] at hsv hr2
  have b3 : w2.cell? ⟨h, 3, none⟩ = some (.slice sg.a sg.len sg.cap) := (row5 ht2.row).2.2.2.1
  go_wp2
  refine hK.out _ _ b3 ?_
  clear hK K
  refine wpAnyX_one (j := 7) rfl (by kernel_rfl) rfl fun K hK => ?_
  have Hsg := hide ht2.gone
  have hbw2 : base ≤ w2.heap.size := Nat.le_trans hbw1 hg12.size
  refine wpList_appAll _ _ 27 3 (.int .i64 0) 1 8 rfl rfl Tryz.underlying27 info3 rfl (by decide) (by decide) encI (fun _ => rfl) one_int base (.slice sg.a sg.len sg.cap) gs (unhide Hsg) hbw2 rfl sv R.ids hsv hok rfl (by
    have := goneP_len s (skipP s.toList k) bad (by rw [size_toList]; exact hsk.2)
    rw [hR, size_toList] at this
    omega) fun sg' w3 ho3 hg3 => ?_
  have hr3 : RdAt w3 g s R.pos R.bad := by
    have hx := hg3.block g (lt_of_heap hr2) (fun e => by have := ((unhide Hsg).lt g e.symm).1; omega)
    unfold RdAt; rw [hx]; exact hr2
  have hrow3 : w3.heap[h]? = some (.cells #[.string nm, .bool en, .slice sf.a sf.len sf.cap, .slice sg.a sg.len sg.cap, .slice si.a si.len si.cap] 30 (0, 0)) := by
    rw [hg3.block h (lt_of_heap ht2.row) (fun e => by have := ((unhide Hsg).lt h e.symm).1; omega)]; exact ht2.row
  have hf3 := ht2.fields.kept hg3 (owns_apart ht2.fields (unhide Hsg) (by decide))
  have hi3 := ht2.items.kept hg3 (owns_apart ht2.items (unhide Hsg) (by decide))
  have hFr3 : Fr base g h w w3 := (Fr.of_grown hg1 hbw).trans ((Fr.of_grown hg12 hbw1).trans (Fr.owned hg3 (unhide Hsg) hbw2))
  simp only at hf3 hi3
  clear hsv hg3 Hsg
  obtain ⟨a0, a1, a2, a3, a4, af⟩ := row5 hrow3
  go_wp2
  refine hK.out _ _ a3 ?_
  clear hK K
  refine wpAnyX_end [8, 9, 10] [_, _, _] rfl (by intro j i hj; match j, hj with | 0, hj => cases hj; rfl | 1, hj => cases hj; rfl | 2, hj => cases hj; rfl) (by kernel_rfl) (by intro i hi; cases hi; rfl) fun K hK => ?_
  go_wp2
  refine hK.out _ _ ?_
  clear hK K
  have hE : Hid (lineP0 s k bad fs gs is = ⟨fs, gs ++ R.ids, is, R.pos, R.bad⟩) := by unfold Hid lineP0; simp only; rw [unhide Hsee, ← hR]; rfl
  have hpos : R.pos ≤ s.size := by
    have := goneP_pos s (skipP s.toList k) bad (by rw [size_toList]; exact hsk.2)
    rw [hR, size_toList] at this; exact this
  have hr4 := hr3.other (p := ⟨h, 3, none⟩) (show g ≠ h by omega) (.slice sg'.a sg'.len sg'.cap)
  have ht4 : TyOwn (w3.setCell ⟨h, 3, none⟩ (.slice sg'.a sg'.len sg'.cap)) h base ⟨nm, en, sf, sg', si⟩ fs (gs ++ R.ids) is :=
    ⟨heap_setCell_same w3 h 3 _ 30 _ hrow3, ownsRow_setCell_below hf3 hhb _, ownsRow_setCell_below ho3 hhb _, ownsRow_setCell_below hi3 hhb _⟩
  have hFr4 := hFr3.trans (Fr.set (base := base) (g := g) w3 3 (.slice sg'.a sg'.len sg'.cap))
  have E1 : Hid (lineP s k bad fs gs is = ⟨fs, gs ++ R.ids, is, signAt s.toList R.pos R.bad 59, signBad s.toList R.pos R.bad 59⟩) := by unfold Hid lineP; simp only; rw [unhide hE]
  have hbw3 : base ≤ (w3.setCell ⟨h, 3, none⟩ (.slice sg'.a sg'.len sg'.cap)).heap.size := Nat.le_trans hbw hFr4.size
  clear hr3 hrow3 hf3 hi3 ho3 hFr3 a0 a1 a2 a3 a4 af hE
  go_wp2_with fail
  refine (sign_any g s R.pos R.bad 59 _ hr4 hpos (by omega)).mono ?_
  rintro e w5 ⟨rfl, hr5, hg5⟩
  go_wp2
  go_end0
  exact ⟨rfl, by rw [unhide E1]; exact hr5, ⟨_, by rw [unhide E1]; exact ht4.grown hg5 (by omega) (by omega), rfl, rfl⟩, hFr4.trans (Fr.of_grown hg5 hbw3)⟩
end Go.Proofs.YtmghhakebhgckaaGreatDoor

namespace Go.Proofs.YtmghhakebhgckaaGreatDoor
set_option linter.unusedSimpArgs false
set_option linter.unusedVariables false
open Go.RowKit

theorem range_of_new2 (w : World) (u0 u1 : Value) (t : TypeId) {g : Nat} (hg : g = w.heap.size) : (w.alloc (.cells #[u0, u1] t)).rangeAt g 0 [u0, u1] := by
  subst hg
  exact World.rangeAt_of_block (heap_alloc_new w _) 0 2
theorem range_of_new5 (w : World) (u0 u1 u2 u3 u4 : Value) (t : TypeId) {g : Nat} (hg : g = w.heap.size) : (w.alloc (.cells #[u0, u1, u2, u3, u4] t)).rangeAt g 0 [u0, u1, u2, u3, u4] := by
  subst hg
  exact World.rangeAt_of_block (heap_alloc_new w _) 0 5

set_option maxHeartbeats 1600000 in
theorem line_item (g h base : Nat) (s : ByteArray) (k : Nat) (bad : Bool) (tv : TV) (fs : List FieldM) (gs : List Int) (is : List ItemM) (w : World) (hgh : g < h) (hhb : h < base) (hbw : base ≤ w.heap.size)
    (hr : RdAt w g s k bad) (ht : TyOwn w h base tv fs gs is) (hk : k ≤ s.size) (hs : s.size ≤ 524288) (hil : is.length < 1048576) (hsee : seesWordV s.toList k bad = false)
    (k2 : Nat) (b2 : Bool) (n : Int) (x : ByteArray) (k3 : Nat) (b3 : Bool) (hn : numVal s.toList (skipP s.toList k) bad = n) (hk2 : numAt s.toList (skipP s.toList k) bad = k2) (hb2 : numBad s.toList (skipP s.toList k) bad = b2) (hx : wordStr s k2 b2 = x) (hk3 : wordAt s.toList k2 b2 = k3) (hb3 : wordBad s.toList k2 b2 = b3)
    (hsemi : seesV s.toList k3 b3 59 = true) :
    Calls Tryz.prog 100 #[.pointer (some ⟨g, 0, none⟩), .pointer (some ⟨h, 0, none⟩)] w fun e w' => e = .returned (.tuple #[]) ∧ RdAt w' g s (lineP s k bad fs gs is).pos (lineP s k bad fs gs is).bad ∧
      (∃ tv' : TV, TyOwn w' h base tv' (lineP s k bad fs gs is).fs (lineP s k bad fs gs is).gs (lineP s k bad fs gs is).is ∧ tv'.name = tv.name ∧ tv'.enum = tv.enum) ∧ Fr base g h w w' := by
  have hsk := skipP_le (l := s.toList) (k := k) (by rw [size_toList]; exact hk)
  have hn2 := numAt_le (l := s.toList) (bad := bad) hsk.2
  have hn3 := wordAt_le (l := s.toList) (bad := b2) (hk2 ▸ hn2.2)
  have hsk4 := skipP_le (l := s.toList) (hk3 ▸ hn3.2)
  rw [size_toList] at hsk hn2 hn3 hsk4
  rw [hk2] at hn2
  rw [hk3] at hn3
  have E1 : Hid (lineP s k bad fs gs is = ⟨fs, gs, is ++ [⟨x, n⟩], signAt s.toList (skipP s.toList k3) b3 59, signBad s.toList (skipP s.toList k3) b3 59⟩) := by
    unfold Hid lineP lineP0; simp only; rw [hsee, hk2, hb2, hx, hk3, hb3, hn, hsemi]; rfl
  have Hsee := hide hsee
  have Hn := hide hn
  have Hk2 := hide hk2
  have Hb2 := hide hb2
  have Hx := hide hx
  have Hk3 := hide hk3
  have Hb3 := hide hb3
  have Hsemi := hide hsemi
  clear hsee hn hk2 hb2 hx hk3 hb3 hsemi
  go_enter Tryz.func100, Tryz.ntmps100
  go_wp2_with fail
  refine (seesWord_any g s k bad w hr hk (by omega)).mono ?_
  rintro e w1 ⟨rfl, hr1, hg1⟩
  rw [unhide Hsee]
  go_wp2_with fail
  refine (number_any g s _ bad w1 hr1 hsk.2 (by omega)).mono ?_
  rintro e w2 ⟨rfl, hr2, hg2⟩
  rw [unhide Hn]
  rw [unhide Hk2, unhide Hb2] at hr2
  go_wp2_with fail
  refine (word_any g s _ b2 w2 hr2 hn2.2 (by omega)).mono ?_
  rintro e w3 ⟨rfl, hr3, hg3⟩
  rw [unhide Hx]
  rw [unhide Hk3, unhide Hb3] at hr3
  go_wp2_with fail
  refine (sees_any g s k3 b3 59 w3 hr3 hn3.2 (by omega)).mono ?_
  rintro e w4 ⟨rfl, hr4, hg4⟩
  rw [unhide Hsemi]
  have hg14 := grown_trans hg1 (grown_trans hg2 (grown_trans hg3 hg4))
  have ht4 := ht.grown hg14 (by omega) (by omega)
  have hbw4 : base ≤ w4.heap.size := Nat.le_trans hbw hg14.size
  have hFr4 : Fr base g h w w4 := Fr.of_grown hg14 hbw
  clear hg1 hg2 hg3 hg4 hg14 hr1 hr2 hr3
  obtain ⟨nm, en, sf, sg, si⟩ := tv
  have hrow := ht4.row
  have hi4 := ht4.items
  simp only at hrow hi4
  obtain ⟨a0, a1, a2, a3, a4, af⟩ := row5 hrow
  go_wp2_with (at_builtin; refine wpList_app1 _ _ 28 55 (.agg #[.string ⟨#[]⟩, .int .i64 0]) 2 24 Tryz.underlying28 info55 rfl (by decide) (by decide) rfl rfl base _ is.length _ rfl (hi4.alloc _) w4.heap.size 1 [.string x, .int .i64 n] rfl rfl ?c1 ?c2 ?c3 ?c4 ?_)
  case c1 => exact range_of_new2 _ _ _ _ (by simp)
  case c2 => exact one_item ⟨x, n⟩
  case c3 => exact hil
  case c4 => simp; omega
  intro v5 w5 ho5 hg5
  have ho5' : w5.ownsRow base 55 2 v5 (is ++ [(⟨x, n⟩ : ItemM)]).length ((is ++ [(⟨x, n⟩ : ItemM)]).flatMap ItemM.cells) := by
    rw [List.length_append, List.length_singleton, List.flatMap_append]
    simpa using ho5
  obtain ⟨si', hsi', _⟩ := sliceAt_of_owns ItemM.cells (fun _ => rfl) ho5' rfl
  rw [hsi'] at ho5' ⊢
  have hx4 : Ext w4 (w4.alloc (.cells #[.string x, .int .i64 n] 55)) := (Ext.refl w4).alloc _
  have hr5 : RdAt w5 g s (skipP s.toList k3 : Nat) b3 := by
    have h0 := hr4.ext hx4
    have hx := hg5.block g (lt_of_heap h0) (fun e => by have := (hi4.lt g e.symm).1; omega)
    unfold RdAt; rw [hx]; exact h0
  have hrow5 : w5.heap[h]? = some (.cells #[.string nm, .bool en, .slice sf.a sf.len sf.cap, .slice sg.a sg.len sg.cap, .slice si.a si.len si.cap] 30 (0, 0)) := by
    have h0 := hx4.heap hrow
    rw [hg5.block h (lt_of_heap h0) (fun e => by have := (hi4.lt h e.symm).1; omega)]; exact h0
  have hf5 := (owns_ext ht4.fields hx4).kept hg5 (owns_apart ht4.fields hi4 (by decide))
  have hg5' := (owns_ext ht4.gone hx4).kept hg5 (owns_apart ht4.gone hi4 (by decide))
  have hFr5 : Fr base g h w w5 := hFr4.trans ((Fr.of_ext hx4 hbw4).trans (Fr.owned hg5 (hi4.alloc _) (by simp; omega)))
  simp only at hf5 hg5'
  clear hsi' ho5 hi4 hg5 hrow a0 a1 a2 a3 a4 af
  obtain ⟨a0, a1, a2, a3, a4, af⟩ := row5 hrow5
  have hr6 := hr5.other (p := ⟨h, 4, none⟩) (show g ≠ h by omega) (.slice si'.a si'.len si'.cap)
  have ht6 : TyOwn (w5.setCell ⟨h, 4, none⟩ (.slice si'.a si'.len si'.cap)) h base ⟨nm, en, sf, sg, si'⟩ fs gs (is ++ [⟨x, n⟩]) :=
    ⟨heap_setCell_same w5 h 4 _ 30 _ hrow5, ownsRow_setCell_below hf5 hhb _, ownsRow_setCell_below hg5' hhb _, ownsRow_setCell_below ho5' hhb _⟩
  have hFr6 := hFr5.trans (Fr.set (base := base) (g := g) w5 4 (.slice si'.a si'.len si'.cap))
  have hbw6 : base ≤ (w5.setCell ⟨h, 4, none⟩ (.slice si'.a si'.len si'.cap)).heap.size := Nat.le_trans hbw hFr6.size
  clear hr5 hf5 hg5' ho5' hrow5
  go_wp2_with fail
  refine (sign_any g s _ b3 59 _ hr6 hsk4.2 (by omega)).mono ?_
  rintro e w7 ⟨rfl, hr7, hg7⟩
  go_wp2
  go_end0
  exact ⟨rfl, by rw [unhide E1]; exact hr7, ⟨_, by rw [unhide E1]; exact ht6.grown hg7 (by omega) (by omega), rfl, rfl⟩, hFr6.trans (Fr.of_grown hg7 hbw6)⟩
end Go.Proofs.YtmghhakebhgckaaGreatDoor

namespace Go.Proofs.YtmghhakebhgckaaGreatDoor
set_option linter.unusedSimpArgs false
set_option linter.unusedVariables false
open Go.RowKit

theorem fieldP_pos (s : ByteArray) (k : Nat) (bad : Bool) (id : Int) (rule : ByteArray) (hk : k ≤ s.toList.length) : (fieldP s k bad id rule).pos ≤ s.toList.length := by
  unfold fieldP
  exact (wordAt_le (wordAt_le hk).2).2

set_option maxHeartbeats 1600000 in
theorem line_field (w0 : World) (g h base : Nat) (s : ByteArray) (k : Nat) (bad : Bool) (tv : TV) (fs : List FieldM) (gs : List Int) (is : List ItemM) (w : World) (hgh : g < h) (hhb : h < base) (hbw : base ≤ w.heap.size)
    (hr : RdAt w g s k bad) (ht : TyOwn w h base tv fs gs is) (hk : k ≤ s.size) (hs : s.size ≤ 524288) (hil : fs.length < 1048576) (hx0 : Ext w0 w) (hg0 : w0.heap.size ≤ g) (hn1 : NamesAt w0 1 rulesL) (hn2 : NamesAt w0 2 kindsL) (hsee : seesWordV s.toList k bad = false)
    (k2 : Nat) (b2 : Bool) (n : Int) (x : ByteArray) (k3 : Nat) (b3 : Bool) (hn : numVal s.toList (skipP s.toList k) bad = n) (hk2 : numAt s.toList (skipP s.toList k) bad = k2) (hb2 : numBad s.toList (skipP s.toList k) bad = b2) (hx : wordStr s k2 b2 = x) (hk3 : wordAt s.toList k2 b2 = k3) (hb3 : wordBad s.toList k2 b2 = b3)
    (hsemi : seesV s.toList k3 b3 59 = false) :
    Calls Tryz.prog 100 #[.pointer (some ⟨g, 0, none⟩), .pointer (some ⟨h, 0, none⟩)] w fun e w' => e = .returned (.tuple #[]) ∧ RdAt w' g s (lineP s k bad fs gs is).pos (lineP s k bad fs gs is).bad ∧
      (∃ tv' : TV, TyOwn w' h base tv' (lineP s k bad fs gs is).fs (lineP s k bad fs gs is).gs (lineP s k bad fs gs is).is ∧ tv'.name = tv.name ∧ tv'.enum = tv.enum) ∧ Fr base g h w w' := by
  have hsk := skipP_le (l := s.toList) (k := k) (by rw [size_toList]; exact hk)
  have hq2 := numAt_le (l := s.toList) (bad := bad) hsk.2
  have hn3 := wordAt_le (l := s.toList) (bad := b2) (hk2 ▸ hq2.2)
  have hsk4 := skipP_le (l := s.toList) (hk3 ▸ hn3.2)
  rw [size_toList] at hsk hq2 hn3 hsk4
  rw [hk2] at hq2
  rw [hk3] at hn3
  have E1 : Hid (lineP s k bad fs gs is = ⟨fs ++ [(fieldP s (skipP s.toList k3) b3 n x).f], gs, is, signAt s.toList (fieldP s (skipP s.toList k3) b3 n x).pos (fieldP s (skipP s.toList k3) b3 n x).bad 59, signBad s.toList (fieldP s (skipP s.toList k3) b3 n x).pos (fieldP s (skipP s.toList k3) b3 n x).bad 59⟩) := by
    unfold Hid lineP lineP0; simp only; rw [hsee, hk2, hb2, hx, hk3, hb3, hn, hsemi]; rfl
  have Hsee := hide hsee
  have Hn := hide hn
  have Hk2 := hide hk2
  have Hb2 := hide hb2
  have Hx := hide hx
  have Hk3 := hide hk3
  have Hb3 := hide hb3
  have Hsemi := hide hsemi
  clear hsee hn hk2 hb2 hx hk3 hb3 hsemi
  go_enter Tryz.func100, Tryz.ntmps100
  go_wp2_with fail
  refine (seesWord_any g s k bad w hr hk (by omega)).mono ?_
  rintro e w1 ⟨rfl, hr1, hg1⟩
  rw [unhide Hsee]
  go_wp2_with fail
  refine (number_any g s _ bad w1 hr1 hsk.2 (by omega)).mono ?_
  rintro e w2 ⟨rfl, hr2, hg2⟩
  rw [unhide Hn]
  rw [unhide Hk2, unhide Hb2] at hr2
  go_wp2_with fail
  refine (word_any g s _ b2 w2 hr2 hq2.2 (by omega)).mono ?_
  rintro e w3 ⟨rfl, hr3, hg3⟩
  rw [unhide Hx]
  rw [unhide Hk3, unhide Hb3] at hr3
  go_wp2_with fail
  refine (sees_any g s k3 b3 59 w3 hr3 hn3.2 (by omega)).mono ?_
  rintro e w4 ⟨rfl, hr4, hg4⟩
  rw [unhide Hsemi]
  have hg14 := grown_trans hg1 (grown_trans hg2 (grown_trans hg3 hg4))
  have ht4 := ht.grown hg14 (by omega) (by omega)
  have hbw4 : base ≤ w4.heap.size := Nat.le_trans hbw hg14.size
  have hFr4 : Fr base g h w w4 := Fr.of_grown hg14 hbw
  have HG := hg14
  clear hg1 hg2 hg3 hg4 hg14 hr1 hr2 hr3
  have hx4 : Ext w0 w4 := hx0.grownSome HG hg0
  obtain ⟨nm, en, sf, sg, si⟩ := tv
  have hrow := ht4.row
  obtain ⟨R, hR⟩ : ∃ R, fieldP s (skipP s.toList k3) b3 n x = R := ⟨_, rfl⟩
  have hRp : R.pos ≤ s.size := by
    have := fieldP_pos s (skipP s.toList k3) b3 n x (by rw [size_toList]; exact hsk4.2)
    rw [hR, size_toList] at this; exact this
  rw [hR] at E1
  have HR := hide hR
  simp only at hrow
  obtain ⟨a0, a1, a2, a3, a4, af⟩ := row5 hrow
  clear hR
  go_wp2_with fail
  refine wp_region_X (fun w' => w'.cell? ⟨h, 2, none⟩ = some (.slice sf.a sf.len sf.cap)) (fun j => decide (11 ≤ j)) (by kernel_rfl) ?_
  refine wpAnyX_take (i := 0) (v := .pointer (some ⟨h, 0, none⟩)) rfl (by kernel_rfl) (by kernel_rfl) (fun _ _ _ h => h) (.inl ⟨rfl, fun w' hS => by simp [execOp, go_sem]⟩) a2 ?_
  simp only [Act.put, List.setIfInBounds_toArray, List.set_cons_succ, List.set_cons_zero]
  refine wpAnyX_take (i := 1) (v := .pointer (some ⟨h, 0, none⟩)) rfl (by kernel_rfl) (by kernel_rfl) (fun _ _ _ h => h) (.inl ⟨rfl, fun w' hS => by simp [execOp, go_sem]⟩) a2 ?_
  simp only [Act.put, List.setIfInBounds_toArray, List.set_cons_succ, List.set_cons_zero]
  refine wpAnyX_take (i := 2) (v := .pointer (some ⟨h, 0, none⟩)) rfl (by kernel_rfl) (by kernel_rfl) (fun _ _ _ h => h) (.inl ⟨rfl, fun w' hS => by simp [execOp, go_sem]⟩) a2 ?_
  simp only [Act.put, List.setIfInBounds_toArray, List.set_cons_succ, List.set_cons_zero]
  refine wpAnyX_take (i := 3) (v := .pointer (some ⟨h, 2, none⟩)) rfl (by kernel_rfl) (by kernel_rfl) (fun _ _ _ h => h) (.inl ⟨rfl, fun w' hS => by simp [execOp, go_sem]⟩) a2 ?_
  simp only [Act.put, List.setIfInBounds_toArray, List.set_cons_succ, List.set_cons_zero]
  refine wpAnyX_take (i := 4) (v := .slice sf.a sf.len sf.cap) rfl (by kernel_rfl) (by kernel_rfl) (fun _ _ _ h => h) (.inl ⟨rfl, fun w' hS => by simp [execOp, go_sem, hS]⟩) a2 ?_
  simp only [Act.put, List.setIfInBounds_toArray, List.set_cons_succ, List.set_cons_zero]
  refine wpAnyX_take (i := 5) (v := .pointer (some ⟨g, 0, none⟩)) rfl (by kernel_rfl) (by kernel_rfl) (fun _ _ _ h => h) (.inl ⟨rfl, fun w' hS => by simp [execOp, go_sem]⟩) a2 ?_
  simp only [Act.put, List.setIfInBounds_toArray, List.set_cons_succ, List.set_cons_zero]
  refine wpAnyX_take (i := 6) (v := .int .i64 n) rfl (by kernel_rfl) (by kernel_rfl) (fun _ _ _ h => h) (.inl ⟨rfl, fun w' hS => by simp [execOp, go_sem]⟩) a2 ?_
  simp only [Act.put, List.setIfInBounds_toArray, List.set_cons_succ, List.set_cons_zero]
  refine wpAnyX_take (i := 7) (v := .string x) rfl (by kernel_rfl) (by kernel_rfl) (fun _ _ _ h => h) (.inl ⟨rfl, fun w' hS => by simp [execOp, go_sem]⟩) a2 ?_
  simp only [Act.put, List.setIfInBounds_toArray, List.set_cons_succ, List.set_cons_zero]
  refine wpAnyX_one (j := 8) rfl (by kernel_rfl) rfl fun K hK => ?_
  go_wp2_with fail
  refine (field_any w0 g s (skipP s.toList k3) b3 n x w4.drew (hx4.drew) hg0 hn1 hn2 hr4 hsk4.2 hs R (unhide HR)).mono ?_
  rintro e w5 ⟨rfl, hr5, hg5⟩
  have hg45 : w4.grownBy w5 (some g) := grown_trans (grown_drewN w4 1 _) hg5
  have ht5 := ht4.grown hg45 (by omega) (by omega)
  have hbw5 : base ≤ w5.heap.size := Nat.le_trans hbw4 hg45.size
  have hFr5 : Fr base g h w w5 := hFr4.trans (Fr.of_grown hg45 hbw4)
  have hrow5 := ht5.row
  have hf5 := ht5.fields
  simp only at hrow5 hf5
  clear a0 a1 a2 a3 a4 af hrow hg5 hg45
  obtain ⟨a0, a1, a2, a3, a4, af⟩ := row5 hrow5
  go_wp2
  refine hK.out _ _ a2 ?_
  clear hK K
  refine wpAnyX_one (j := 9) rfl (by kernel_rfl) rfl fun K hK => ?_
  have hx5 : Ext w5 (w5.alloc (.cells #[.int .i64 R.f.id, .string R.f.name, .string R.f.type, .int .i64 R.f.kind, .int .i64 R.f.rule] 34)) := (Ext.refl w5).alloc _
  go_wp2
  refine hK.out _ _ (hx5.cell a2) ?_
  clear hK K
  refine wpAnyX_one (j := 10) rfl (by kernel_rfl) rfl fun K hK => ?_
  refine wpList_app1 _ _ 26 34 (.agg #[.int .i64 0, .string ⟨#[]⟩, .string ⟨#[]⟩, .int .i64 0, .int .i64 0]) 5 56 Tryz.underlying26 info34 rfl (by decide) (by decide) rfl rfl base _ fs.length _ rfl (hf5.alloc _) w5.heap.size 1 R.f.cells rfl rfl ?c1 ?c2 ?c3 ?c4 ?_
  case c1 => exact range_of_new5 _ _ _ _ _ _ _ (by simp)
  case c2 => exact one_field R.f
  case c3 => exact hil
  case c4 => simp; omega
  intro v6 w6 ho6 hg6
  have ho6' : w6.ownsRow base 34 5 v6 (fs ++ [R.f]).length ((fs ++ [R.f]).flatMap FieldM.cells) := by
    rw [List.length_append, List.length_singleton, List.flatMap_append]
    simpa using ho6
  obtain ⟨sf', hsf', _⟩ := sliceAt_of_owns FieldM.cells (fun _ => rfl) ho6' rfl
  rw [hsf'] at ho6' ⊢
  have hr6 : RdAt w6 g s R.pos R.bad := by
    have h0 := hr5.ext hx5
    have hx := hg6.block g (lt_of_heap h0) (fun e => by have := (hf5.lt g e.symm).1; omega)
    unfold RdAt; rw [hx]; exact h0
  have hrow6 : w6.heap[h]? = some (.cells #[.string nm, .bool en, .slice sf.a sf.len sf.cap, .slice sg.a sg.len sg.cap, .slice si.a si.len si.cap] 30 (0, 0)) := by
    have h0 := hx5.heap hrow5
    rw [hg6.block h (lt_of_heap h0) (fun e => by have := (hf5.lt h e.symm).1; omega)]; exact h0
  have hi6 := (owns_ext ht5.items hx5).kept hg6 (owns_apart ht5.items hf5 (by decide))
  have hg6' := (owns_ext ht5.gone hx5).kept hg6 (owns_apart ht5.gone hf5 (by decide))
  have hFr6 : Fr base g h w w6 := hFr5.trans ((Fr.of_ext hx5 hbw5).trans (Fr.owned hg6 (hf5.alloc _) (by simp; omega)))
  simp only at hi6 hg6'
  clear hsf' ho6 hf5 hg6 hrow5 a0 a1 a2 a3 a4 af
  obtain ⟨a0, a1, a2, a3, a4, af⟩ := row5 hrow6
  go_wp2
  refine hK.out _ _ a2 ?_
  clear hK K
  refine wpAnyX_end [11, 12, 13] [_, _, _] rfl (by intro j i hj; match j, hj with | 0, hj => cases hj; rfl | 1, hj => cases hj; rfl | 2, hj => cases hj; rfl) (by kernel_rfl) (by intro i hi; cases hi; rfl) fun K hK => ?_
  go_wp2
  refine hK.out _ _ ?_
  clear hK K
  have hr7 := hr6.other (p := ⟨h, 2, none⟩) (show g ≠ h by omega) (.slice sf'.a sf'.len sf'.cap)
  have ht7 : TyOwn (w6.setCell ⟨h, 2, none⟩ (.slice sf'.a sf'.len sf'.cap)) h base ⟨nm, en, sf', sg, si⟩ (fs ++ [R.f]) gs is :=
    ⟨heap_setCell_same w6 h 2 _ 30 _ hrow6, ownsRow_setCell_below ho6' hhb _, ownsRow_setCell_below hg6' hhb _, ownsRow_setCell_below hi6 hhb _⟩
  have hFr7 := hFr6.trans (Fr.set (base := base) (g := g) w6 2 (.slice sf'.a sf'.len sf'.cap))
  have hbw7 : base ≤ (w6.setCell ⟨h, 2, none⟩ (.slice sf'.a sf'.len sf'.cap)).heap.size := Nat.le_trans hbw hFr7.size
  clear hr6 hi6 hg6' ho6' hrow6 a0 a1 a2 a3 a4 af
  go_wp2_with fail
  refine (sign_any g s R.pos R.bad 59 _ hr7 hRp (by omega)).mono ?_
  rintro e w8 ⟨rfl, hr8, hg8⟩
  go_wp2
  go_end0
  exact ⟨rfl, by rw [unhide E1]; exact hr8, ⟨_, by rw [unhide E1]; exact ht7.grown hg8 (by omega) (by omega), rfl, rfl⟩, hFr7.trans (Fr.of_grown hg8 hbw7)⟩
end Go.Proofs.YtmghhakebhgckaaGreatDoor

namespace Go.Proofs.YtmghhakebhgckaaGreatDoor
set_option linter.unusedSimpArgs false
set_option linter.unusedVariables false
open Go.RowKit

theorem line_any (w0 : World) (g h base : Nat) (s : ByteArray) (k : Nat) (bad : Bool) (tv : TV) (fs : List FieldM) (gs : List Int) (is : List ItemM) (w : World) (hgh : g < h) (hhb : h < base) (hbw : base ≤ w.heap.size)
    (hr : RdAt w g s k bad) (ht : TyOwn w h base tv fs gs is) (hk : k ≤ s.size) (hs : s.size ≤ 524288) (hfl : fs.length < 1048576) (hgl : gs.length + s.size < 1048576) (hil : is.length < 1048576) (hx0 : Ext w0 w) (hg0 : w0.heap.size ≤ g) (hn1 : NamesAt w0 1 rulesL) (hn2 : NamesAt w0 2 kindsL) :
    Calls Tryz.prog 100 #[.pointer (some ⟨g, 0, none⟩), .pointer (some ⟨h, 0, none⟩)] w fun e w' => e = .returned (.tuple #[]) ∧ RdAt w' g s (lineP s k bad fs gs is).pos (lineP s k bad fs gs is).bad ∧
      (∃ tv' : TV, TyOwn w' h base tv' (lineP s k bad fs gs is).fs (lineP s k bad fs gs is).gs (lineP s k bad fs gs is).is ∧ tv'.name = tv.name ∧ tv'.enum = tv.enum) ∧ Fr base g h w w' := by
  cases hsee : seesWordV s.toList k bad
  · cases hsemi : seesV s.toList (wordAt s.toList (numAt s.toList (skipP s.toList k) bad) (numBad s.toList (skipP s.toList k) bad)) (wordBad s.toList (numAt s.toList (skipP s.toList k) bad) (numBad s.toList (skipP s.toList k) bad)) 59
    · exact line_field w0 g h base s k bad tv fs gs is w hgh hhb hbw hr ht hk hs hfl hx0 hg0 hn1 hn2 hsee _ _ _ _ _ _ rfl rfl rfl rfl rfl rfl hsemi
    · exact line_item g h base s k bad tv fs gs is w hgh hhb hbw hr ht hk hs hil hsee _ _ _ _ _ _ rfl rfl rfl rfl rfl rfl hsemi
  · exact line_gone g h base s k bad tv fs gs is w hgh hhb hbw hr ht hk hs hgl hsee

theorem lineP0_pos (s : ByteArray) (k : Nat) (bad : Bool) (fs : List FieldM) (gs : List Int) (is : List ItemM) (hk : k ≤ s.toList.length) : k ≤ (lineP0 s k bad fs gs is).pos ∧ (lineP0 s k bad fs gs is).pos ≤ s.toList.length := by
  have h1 := skipP_le hk
  have h2 := numAt_le (bad := bad) h1.2
  have h3 := wordAt_le (bad := numBad s.toList (skipP s.toList k) bad) h2.2
  have h4 := skipP_le h3.2
  unfold lineP0
  simp only
  split
  · have hw := wordAt_le (bad := bad) h1.2
    have := goneLoop_pos s.toList (2 * s.size + 2) (wordAt s.toList (skipP s.toList k) bad) (goneBad s.toList s (skipP s.toList k) bad) [] hw.2
    unfold goneP
    exact ⟨by simp only; omega, by simp only; omega⟩
  · split
    · exact ⟨by simp only; omega, h4.2⟩
    · have h5 := wordAt_le (bad := fieldBad (wordStr s (numAt s.toList (skipP s.toList k) bad) (numBad s.toList (skipP s.toList k) bad)) (wordBad s.toList (numAt s.toList (skipP s.toList k) bad) (numBad s.toList (skipP s.toList k) bad))) h4.2
      unfold fieldP
      simp only
      generalize wordBad s.toList (skipP s.toList _) _ = b9
      have h6 := wordAt_le (bad := b9) h5.2
      omega
theorem lineP_pos (s : ByteArray) (k : Nat) (bad : Bool) (fs : List FieldM) (gs : List Int) (is : List ItemM) (hk : k ≤ s.toList.length) : k ≤ (lineP s k bad fs gs is).pos ∧ (lineP s k bad fs gs is).pos ≤ s.toList.length := by
  have h0 := lineP0_pos s k bad fs gs is hk
  unfold lineP
  simp only
  have h7 := skipP_le h0.2
  unfold signAt
  split
  · rename_i hh; have := seesV_lt hh; omega
  · omega
/-- A line that went well has gone on. -/
theorem lineP_lt (s : ByteArray) (k : Nat) (bad : Bool) (fs : List FieldM) (gs : List Int) (is : List ItemM) (hk : k ≤ s.toList.length) (h : (lineP s k bad fs gs is).bad = false) : k < (lineP s k bad fs gs is).pos := by
  have h0 := lineP0_pos s k bad fs gs is hk
  have h7 := skipP_le h0.2
  unfold lineP at h ⊢
  simp only at h ⊢
  unfold signBad at h
  unfold signAt
  cases hs : seesV s.toList (lineP0 s k bad fs gs is).pos (lineP0 s k bad fs gs is).bad 59
  · rw [hs] at h; cases h
  · simp only [if_true]; omega
end Go.Proofs.YtmghhakebhgckaaGreatDoor

namespace Go.Proofs.YtmghhakebhgckaaGreatDoor
set_option linter.unusedSimpArgs false
set_option linter.unusedVariables false
open Go.RowKit

def bn (b : Bool) : Nat := if b then 1 else 0
theorem goneLoop_cnt (l : List UInt8) (k0 : Nat) : ∀ (fuel k : Nat) (bad : Bool) (acc : List Int), k ≤ l.length → acc.length + k0 ≤ k + bn bad → (goneLoop l fuel k bad acc).ids.length + k0 ≤ (goneLoop l fuel k bad acc).pos + bn (goneLoop l fuel k bad acc).bad
  | 0, k, bad, acc, hk, h => by unfold goneLoop; exact h
  | fuel + 1, k, bad, acc, hk, h => by
    have h1 := skipP_le hk
    have h2 := skipP_le h1.2
    unfold goneLoop
    split
    · split
      · simp only; omega
      · rename_i hm _
        have hb := moreV_bad hm
        subst hb
        simp only [bn, Bool.false_eq_true, if_false] at h
        have h3 := numAt_le (bad := false) h2.2
        refine goneLoop_cnt l k0 fuel _ _ _ h3.2 ?_
        rw [List.length_append, List.length_singleton]
        cases hn : numBad l (skipP l (skipP l k)) false
        · have := numAt_lt h2.2 hn
          simp only [bn, Bool.false_eq_true, if_false]; omega
        · simp only [bn, if_true]; omega
    · simp only; omega

theorem lineP_cnt (s : ByteArray) (k : Nat) (fs : List FieldM) (gs : List Int) (is : List ItemM) (hk : k ≤ s.toList.length) (hA : fs.length + is.length ≤ k) (hG : gs.length ≤ k) :
    (lineP s k false fs gs is).fs.length + (lineP s k false fs gs is).is.length ≤ (lineP s k false fs gs is).pos + bn (lineP s k false fs gs is).bad ∧ (lineP s k false fs gs is).gs.length ≤ (lineP s k false fs gs is).pos + bn (lineP s k false fs gs is).bad := by
  have hp := lineP_pos s k false fs gs is hk
  have h0 := lineP0_pos s k false fs gs is hk
  have h7 := skipP_le h0.2
  have hfi : (lineP s k false fs gs is).fs.length + (lineP s k false fs gs is).is.length ≤ k + 1 := by
    unfold lineP lineP0
    simp only
    split
    · simp only; omega
    · split
      · simp only [List.length_append, List.length_singleton]; omega
      · simp only [List.length_append, List.length_singleton]; omega
  constructor
  · cases hb : (lineP s k false fs gs is).bad
    · have := lineP_lt s k false fs gs is hk hb
      simp only [bn, Bool.false_eq_true, if_false]; omega
    · simp only [bn, if_true]; omega
  · have hgs : (lineP0 s k false fs gs is).gs.length ≤ (lineP0 s k false fs gs is).pos + bn (lineP0 s k false fs gs is).bad := by
      have h1 := skipP_le hk
      unfold lineP0 at h0 ⊢
      simp only at h0 ⊢
      split
      · have hw := wordAt_le (bad := false) h1.2
        have hc := goneLoop_cnt s.toList (wordAt s.toList (skipP s.toList k) false) (2 * s.size + 2) (wordAt s.toList (skipP s.toList k) false) (goneBad s.toList s (skipP s.toList k) false) [] hw.2 (by simp)
        simp only [List.length_append]
        unfold goneP
        omega
      · rename_i hsee
        rw [if_neg hsee] at h0
        split
        · rename_i h9; rw [if_pos h9] at h0; simp only at h0 ⊢; omega
        · rename_i h9; rw [if_neg h9] at h0; simp only at h0 ⊢; omega
    unfold lineP
    simp only
    generalize lineP0 s k false fs gs is = r at *
    unfold signAt signBad
    cases hs : seesV s.toList r.pos r.bad 59
    · simp only [bn, Bool.false_eq_true, if_false, if_true]
      cases hb : r.bad <;> rw [hb] at hgs <;> simp [bn] at hgs <;> omega
    · simp only [if_true]; omega

structure TypeR where
  t : TypeM
  pos : Nat
  bad : Bool
def typeLoop (s : ByteArray) : Nat → Nat → Bool → List FieldM → List Int → List ItemM → LineR
  | 0, k, bad, fs, gs, is => ⟨fs, gs, is, k, bad⟩
  | fuel + 1, k, bad, fs, gs, is =>
    if moreV s.toList k bad then
      if seesV s.toList (skipP s.toList k) bad 125 then ⟨fs, gs, is, skipP s.toList (skipP s.toList k), bad⟩
      else
        let r := lineP s (skipP s.toList (skipP s.toList k)) bad fs gs is
        typeLoop s fuel r.pos r.bad r.fs r.gs r.is
    else ⟨fs, gs, is, skipP s.toList k, bad⟩
def headEnum (x : ByteArray) : Bool := x.toList == [101, 110, 117, 109]
def headBad (x : ByteArray) (bad : Bool) : Bool := if headEnum x then bad else if x.toList == [109, 101, 115, 115, 97, 103, 101] then bad else true
def typeP (s : ByteArray) (k : Nat) (bad : Bool) : TypeR :=
  let l := s.toList
  let x := wordStr s k bad
  let k1 := wordAt l k bad
  let b1 := headBad x (wordBad l k bad)
  let nm := wordStr s k1 b1
  let k2 := wordAt l k1 b1
  let b2 := wordBad l k1 b1
  let k3 := signAt l k2 b2 123
  let b3 := signBad l k2 b2 123
  let r := typeLoop s (2 * s.size + 2) k3 b3 [] [] []
  ⟨⟨nm, headEnum x, r.fs, r.gs, r.is⟩, signAt l r.pos r.bad 125, signBad l r.pos r.bad 125⟩
theorem signAt_le {l : List UInt8} {k : Nat} {bad : Bool} {c : UInt8} (hk : k ≤ l.length) : k ≤ signAt l k bad c ∧ signAt l k bad c ≤ l.length := by
  have h := skipP_le hk
  unfold signAt
  split
  · rename_i h2; have := seesV_lt h2; omega
  · exact h
end Go.Proofs.YtmghhakebhgckaaGreatDoor

namespace Go.Proofs.YtmghhakebhgckaaGreatDoor
set_option linter.unusedSimpArgs false
set_option linter.unusedVariables false
open Go.RowKit

theorem Ext.fr {a w w' : World} {base g h : Nat} (he : Ext a w) (hf : Fr base g h w w') (h1 : a.heap.size ≤ g) (h2 : a.heap.size ≤ h) (h3 : a.heap.size ≤ base) : Ext a w' :=
  ⟨hf.os.trans he.os, hf.tape.trans he.tape, hf.output.trans he.output, Nat.le_trans he.size hf.size, fun i hi => (hf.block i (by omega) (by omega) (by omega)).trans (Below.block he i hi)⟩

theorem tyOwn_zero {w : World} {h base : Nat} {nm : ByteArray} {en : Bool} (hrow : w.heap[h]? = some (.cells #[.string nm, .bool en, .slice none 0 0, .slice none 0 0, .slice none 0 0] 30 (0, 0))) : TyOwn w h base ⟨nm, en, ⟨none, 0, 0⟩, ⟨none, 0, 0⟩, ⟨none, 0, 0⟩⟩ [] [] [] :=
  ⟨hrow, World.ownsRow_nil _ _ _ _, World.ownsRow_nil _ _ _ _, World.ownsRow_nil _ _ _ _⟩

theorem typeLoop_le (s : ByteArray) : ∀ (fuel k : Nat) (bad : Bool) (fs : List FieldM) (gs : List Int) (is : List ItemM), k ≤ s.toList.length → k ≤ (typeLoop s fuel k bad fs gs is).pos ∧ (typeLoop s fuel k bad fs gs is).pos ≤ s.toList.length
  | 0, k, bad, fs, gs, is, hk => by unfold typeLoop; exact ⟨Nat.le_refl _, hk⟩
  | fuel + 1, k, bad, fs, gs, is, hk => by
    have h1 := skipP_le hk
    have h2 := skipP_le h1.2
    unfold typeLoop
    split
    · split
      · exact ⟨by simp only; omega, h2.2⟩
      · have h3 := lineP_pos s (skipP s.toList (skipP s.toList k)) bad fs gs is h2.2
        have := typeLoop_le s fuel (lineP s (skipP s.toList (skipP s.toList k)) bad fs gs is).pos (lineP s (skipP s.toList (skipP s.toList k)) bad fs gs is).bad (lineP s (skipP s.toList (skipP s.toList k)) bad fs gs is).fs (lineP s (skipP s.toList (skipP s.toList k)) bad fs gs is).gs (lineP s (skipP s.toList (skipP s.toList k)) bad fs gs is).is h3.2
        simp only
        omega
    · exact ⟨h1.1, h1.2⟩

theorem grown_fr {w w1 w2 : World} {g : Nat} (h : w.grownBy w1 (some g)) (hf : Fr (w.heap.size + 2) g (w.heap.size + 1) w1 w2) : w.grownBy w2 (some g) :=
  ⟨hf.os.trans h.os, hf.tape.trans h.tape, hf.output.trans h.output, Nat.le_trans h.size hf.size, fun i hi hn => (hf.block i (by omega) (fun e => hn (by rw [e])) (by omega)).trans (h.block i hi hn)⟩
theorem own5 {w : World} {base b : Nat} {e : TypeId} {size : Nat} {v : Value} {n : Nat} {xs : List Value} (h : w.ownsRow base e size v n xs) (hb : b < base) (u0 u1 u2 u3 u4 : Value) : (((((w.setCell ⟨b, 0, none⟩ u0).setCell ⟨b, 1, none⟩ u1).setCell ⟨b, 2, none⟩ u2).setCell ⟨b, 3, none⟩ u3).setCell ⟨b, 4, none⟩ u4).ownsRow base e size v n xs :=
  ownsRow_setCell_below (ownsRow_setCell_below (ownsRow_setCell_below (ownsRow_setCell_below (ownsRow_setCell_below h hb _) hb _) hb _) hb _) hb _
theorem owns_base {w : World} {base base' : Nat} {e : TypeId} {size : Nat} {v : Value} {n : Nat} {xs : List Value} (h : w.ownsRow base e size v n xs) (hb : base' ≤ base) : w.ownsRow base' e size v n xs := by
  refine ⟨h.1, ?_⟩
  rcases h.2 with h0 | ⟨g, cap, cur, hv, hg, r⟩
  · exact .inl h0
  · exact .inr ⟨g, cap, cur, hv, Nat.le_trans hb hg, r⟩

set_option maxHeartbeats 3200000 in
theorem nextType_any (w0 : World) (g : Nat) (s : ByteArray) (k : Nat) (bad : Bool) (w : World) (hx0 : Ext w0 w) (hg0 : w0.heap.size ≤ g) (hn1 : NamesAt w0 1 rulesL) (hn2 : NamesAt w0 2 kindsL)
    (hr : RdAt w g s k bad) (hk : k ≤ s.size) (hs : s.size ≤ 400000) (R : TypeR) (hR : typeP s k bad = R) :
    Calls Tryz.prog 68 #[.pointer (some ⟨g, 0, none⟩)] w fun e w' => ∃ tv : TV, e = .returned (.agg #[.string tv.name, .bool tv.enum, .slice tv.fields.a tv.fields.len tv.fields.cap, .slice tv.gone.a tv.gone.len tv.gone.cap, .slice tv.items.a tv.items.len tv.items.cap]) ∧ tv.name = R.t.name ∧ tv.enum = R.t.enum ∧
      w'.ownsRow w.heap.size 34 5 (.slice tv.fields.a tv.fields.len tv.fields.cap) R.t.fields.length (R.t.fields.flatMap FieldM.cells) ∧ w'.ownsRow w.heap.size 3 1 (.slice tv.gone.a tv.gone.len tv.gone.cap) R.t.gone.length (R.t.gone.flatMap encI) ∧ w'.ownsRow w.heap.size 55 2 (.slice tv.items.a tv.items.len tv.items.cap) R.t.items.length (R.t.items.flatMap ItemM.cells) ∧
      RdAt w' g s R.pos R.bad ∧ w.grownBy w' (some g) := by
  have hgl : g < w.heap.size := lt_of_heap hr
  obtain ⟨x, hx⟩ : ∃ x, wordStr s k bad = x := ⟨_, rfl⟩
  obtain ⟨k1, hk1⟩ : ∃ x, wordAt s.toList k bad = x := ⟨_, rfl⟩
  obtain ⟨b0, hb0⟩ : ∃ x, wordBad s.toList k bad = x := ⟨_, rfl⟩
  obtain ⟨b1, hb1⟩ : ∃ y, headBad x b0 = y := ⟨_, rfl⟩
  obtain ⟨en, hen⟩ : ∃ y, headEnum x = y := ⟨_, rfl⟩
  obtain ⟨nm, hnm⟩ : ∃ y, wordStr s k1 b1 = y := ⟨_, rfl⟩
  obtain ⟨k2, hk2⟩ : ∃ y, wordAt s.toList k1 b1 = y := ⟨_, rfl⟩
  obtain ⟨b2, hb2⟩ : ∃ y, wordBad s.toList k1 b1 = y := ⟨_, rfl⟩
  obtain ⟨k3, hk3⟩ : ∃ y, signAt s.toList k2 b2 123 = y := ⟨_, rfl⟩
  obtain ⟨b3, hb3⟩ : ∃ y, signBad s.toList k2 b2 123 = y := ⟨_, rfl⟩
  obtain ⟨L, hL⟩ : ∃ y, typeLoop s (2 * s.size + 2) k3 b3 [] [] [] = y := ⟨_, rfl⟩
  have l1 := wordAt_le (l := s.toList) (k := k) (bad := bad) (by rw [size_toList]; exact hk)
  rw [hk1] at l1
  have l2 := wordAt_le (bad := b1) l1.2
  rw [hk2] at l2
  have l3 := signAt_le (bad := b2) (c := 123) l2.2
  rw [hk3] at l3
  have l4 := typeLoop_le s (2 * s.size + 2) k3 b3 [] [] [] l3.2
  rw [hL] at l4
  rw [size_toList] at l1 l2 l3 l4
  have hRR : R = ⟨⟨nm, en, L.fs, L.gs, L.is⟩, signAt s.toList L.pos L.bad 125, signBad s.toList L.pos L.bad 125⟩ := by
    rw [← hR]; unfold typeP; simp only; rw [hx, hk1, hb0, hb1, hen, hnm, hk2, hb2, hk3, hb3, hL]
  subst hRR
  have Hx := hide hx
  have Hk1 := hide hk1
  have Hb0 := hide hb0
  have Hb1 := hide hb1
  have Hen := hide hen
  have Hnm := hide hnm
  have Hk2 := hide hk2
  have Hb2 := hide hb2
  have Hk3 := hide hk3
  have Hb3 := hide hb3
  have HL := hide hL
  clear hR hx hk1 hb0 hb1 hen hnm hk2 hb2 hk3 hb3 hL
  simp only
  have hxz : Ext w ((w.alloc (.cells #[.string ⟨#[]⟩, .bool false, .slice none 0 0, .slice none 0 0, .slice none 0 0] 30)).alloc (.cells #[.string ⟨#[]⟩, .bool false, .slice none 0 0, .slice none 0 0, .slice none 0 0] 30)) := ((Ext.refl w).alloc _).alloc _
  go_enter Tryz.func68, Tryz.ntmps68
  go_wp2_with fail
  refine (word_any g s k bad _ (hr.ext hxz) hk (by omega)).mono ?_
  rintro e w1 ⟨rfl, hr1, hg1⟩
  rw [unhide Hx]
  rw [unhide Hk1, unhide Hb0] at hr1
  have hA := heap_grown hg1 (heap_alloc2_old _ _ _) (by omega)
  have hH := heap_grown hg1 (heap_alloc2_new _ _ _) (by omega)
  have hgw1 : w.grownBy w1 (some g) := grown_trans (hxz.grows _) hg1
  have hcs : ∃ W : World, RdAt W g s k1 b1 ∧ W.heap[w.heap.size]? = some (.cells #[.string ⟨#[]⟩, .bool false, .slice none 0 0, .slice none 0 0, .slice none 0 0] 30 (0, 0)) ∧ W.heap[w.heap.size + 1]? = some (.cells #[.string ⟨#[]⟩, .bool en, .slice none 0 0, .slice none 0 0, .slice none 0 0] 30 (0, 0)) ∧ w.grownBy W (some g) ∧
      (((x.toList == [101, 110, 117, 109]) = true ∧ W = w1.setCell ⟨w.heap.size + 1, 1, none⟩ (.bool true)) ∨ (((x.toList == [101, 110, 117, 109]) = false ∧ (x.toList == [109, 101, 115, 115, 97, 103, 101]) = true) ∧ W = w1) ∨ (((x.toList == [101, 110, 117, 109]) = false ∧ (x.toList == [109, 101, 115, 115, 97, 103, 101]) = false) ∧ W = w1.setCell ⟨g, 2, none⟩ (.bool true))) := by
    have hb := unhide Hb1
    have he := unhide Hen
    unfold headBad at hb
    unfold headEnum at hb he
    cases h1 : (x.toList == [101, 110, 117, 109])
    · rw [h1] at hb he
      cases h2 : (x.toList == [109, 101, 115, 115, 97, 103, 101])
      · rw [h2] at hb
        simp only [Bool.false_eq_true, if_false] at hb
        rw [← hb, ← he]
        exact ⟨_, hr1.setBad true, by rw [heap_setCell_other _ _ _ _ (show w.heap.size ≠ g by omega)]; exact hA, by rw [heap_setCell_other _ _ _ _ (show w.heap.size + 1 ≠ g by omega)]; exact hH, grown_trans hgw1 (grown_setCell _ _ _ _), .inr (.inr ⟨⟨rfl, rfl⟩, rfl⟩)⟩
      · rw [h2] at hb
        simp only [Bool.false_eq_true, if_false, if_true] at hb
        rw [← hb, ← he]
        exact ⟨_, hr1, hA, hH, hgw1, .inr (.inl ⟨⟨rfl, rfl⟩, rfl⟩)⟩
    · rw [h1] at hb he
      simp only [if_true] at hb
      rw [← hb, ← he]
      exact ⟨_, hr1.other (show g ≠ w.heap.size + 1 by omega) _, by rw [heap_setCell_other _ _ _ _ (show w.heap.size ≠ w.heap.size + 1 by omega)]; exact hA, heap_setCell_same w1 (w.heap.size + 1) 1 _ 30 _ hH, grown_setNew hgw1 (by simp) _, .inl ⟨rfl, rfl⟩⟩
  obtain ⟨W, hrW, hAW, hHW, hgW, hcase⟩ := hcs
  have HW := hide (And.intro hrW (And.intro hAW (And.intro hHW hgW)))
  obtain ⟨c0, c1, c2, cf⟩ := hr1.cells
  obtain ⟨d0, d1, d2, d3, d4, df⟩ := row5 hH
  have hz1 : w.heap.size + 1 < w1.heap.size := lt_of_heap hH
  clear hrW hAW hHW hgW hA hg1 hgw1
  rcases hcase with ⟨h1, rfl⟩ | ⟨⟨h1, h2⟩, rfl⟩ | ⟨⟨h1, h2⟩, rfl⟩
  all_goals
    go_wp2_with fail
    obtain ⟨hrW, hAW, hHW, hgW⟩ := unhide HW
    refine (word_any g s k1 b1 _ hrW l1.2 (by omega)).mono ?_
    rintro e w2 ⟨rfl, hr2, hg2⟩
    rw [unhide Hnm]
    rw [unhide Hk2, unhide Hb2] at hr2
    have hA2 := heap_grown hg2 hAW (by omega)
    have hH2 := heap_grown hg2 hHW (by omega)
    have hgw2 := grown_trans hgW hg2
    have hz2 : w.heap.size + 1 < w2.heap.size := lt_of_heap hH2
    clear HW hrW hAW hHW hgW hg2 c0 c1 c2 cf d0 d1 d2 d3 d4 df hr1
    try clear h2
    clear h1
    obtain ⟨d0, d1, d2, d3, d4, df⟩ := row5 hH2
    have hr3 := hr2.other (p := ⟨w.heap.size + 1, 0, none⟩) (show g ≠ w.heap.size + 1 by omega) (.string nm)
    have hH3 := heap_setCell_same w2 (w.heap.size + 1) 0 _ 30 (.string nm) hH2
    simp only [List.setIfInBounds_toArray, List.set_cons_zero] at hH3
    have hA3 : (w2.setCell ⟨w.heap.size + 1, 0, none⟩ (.string nm)).heap[w.heap.size]? = some (.cells #[.string ⟨#[]⟩, .bool false, .slice none 0 0, .slice none 0 0, .slice none 0 0] 30 (0, 0)) := by
      rw [heap_setCell_other _ _ _ _ (show w.heap.size ≠ w.heap.size + 1 by omega)]; exact hA2
    have hgw3 := grown_setNew hgw2 (p := ⟨w.heap.size + 1, 0, none⟩) (by simp) (.string nm)
    go_wp2_with fail
    refine (sign_any g s k2 b2 123 _ hr3 l2.2 (by omega)).mono ?_
    rintro e w4 ⟨rfl, hr4, hg4⟩
    rw [unhide Hk3, unhide Hb3] at hr4
    have hA4 := heap_grown hg4 hA3 (by omega)
    have hH4 := heap_grown hg4 hH3 (by omega)
    have hgw4 := grown_trans hgw3 hg4
    have hz4 : w.heap.size + 1 < w4.heap.size := lt_of_heap hH4
    clear hr2 hr3 hA2 hH2 hA3 hH3 hgw2 hgw3 hg4 d0 d1 d2 d3 d4 df
    have HS := hide (And.intro hr4 (And.intro hA4 (And.intro hH4 hgw4)))
    clear hr4 hA4 hH4 hgw4
    go_wp2
    go_loopw [] (fun wr => ∃ (j : Nat) (b : Bool) (fs : List FieldM) (gs : List Int) (is : List ItemM) (tv : TV) (fuel : Nat), k3 ≤ j ∧ j ≤ s.size ∧ RdAt wr g s j b ∧ TyOwn wr (w.heap.size + 1) (w.heap.size + 2) tv fs gs is ∧ tv.name = nm ∧ tv.enum = en ∧ Fr (w.heap.size + 2) g (w.heap.size + 1) w4 wr ∧ fs.length + is.length ≤ j + bn b ∧ gs.length ≤ j + bn b ∧ 2 * (s.size - j) + (if b then 0 else 1) < fuel ∧ typeLoop s fuel j b fs gs is = L) (fun wr => rdMeas s.size wr g)
    case atStart =>
      obtain ⟨hr4, hA4, hH4, hgw4⟩ := unhide HS
      exact ⟨k3, b3, [], [], [], ⟨nm, en, ⟨none, 0, 0⟩, ⟨none, 0, 0⟩, ⟨none, 0, 0⟩⟩, 2 * s.size + 2, Nat.le_refl _, l3.2, hr4, tyOwn_zero hH4, rfl, rfl, Fr.refl _ _ _ _, by simp, by simp, by split <;> omega, unhide HL⟩
    case round =>
      obtain ⟨j, b, fs, gs, is, tv, fuel, hkj, hj, hrr, htr, hnm, hen, hFr, hcf, hcg, hfuel, hP⟩ := hrel
      have Hms := hide (rdMeas_of hrr s.size)
      obtain ⟨fuel, rfl⟩ : ∃ f, fuel = f + 1 := ⟨fuel - 1, by omega⟩
      have HP := hide hP
      have Htr := hide htr
      have Hne := hide (And.intro hnm hen)
      have Hcnt := hide (And.intro hcf (And.intro hcg hfuel))
      clear hP htr hnm hen hcf hcg hfuel HL
      have hzr : w.heap.size + 2 ≤ wr.heap.size := Nat.le_trans hz4 hFr.size
      have hsk := skipP_le (l := s.toList) (k := j) (by rw [size_toList]; exact hj)
      rw [size_toList] at hsk
      go_wp2_with fail
      refine (more_any g s j b wr hrr hj (by omega)).mono ?_
      rintro e w5 ⟨rfl, hr5, hg5⟩
      cases hm : moreV s.toList j b
      · have Hm := hide hm
        clear hm
        have EP : Hid (L = ⟨fs, gs, is, skipP s.toList j, b⟩) := by unfold Hid; rw [← unhide HP]; unfold typeLoop; rw [unhide Hm]; rfl
        have hgx : wr.grownBy w5 (some g) := hg5
        have htx := (unhide Htr).grown hgx (by omega) (by omega)
        have hbx : w.heap.size + 2 ≤ w5.heap.size := Nat.le_trans hzr hgx.size
        have hAx : w5.heap[w.heap.size]? = some (.cells #[.string ⟨#[]⟩, .bool false, .slice none 0 0, .slice none 0 0, .slice none 0 0] 30 (0, 0)) := by
          refine heap_grown hgx ?_ (by omega)
          rw [hFr.block w.heap.size (by omega) (by omega) (by omega)]; exact (unhide HS).2.1
        have hgwx : w.grownBy w5 (some g) := grown_fr (unhide HS).2.2.2 (hFr.trans (Fr.of_grown hgx hzr))
        clear hFr HS
        go_wp2_with fail
        refine (sign_any g s L.pos L.bad 125 w5 (by rw [unhide EP]; exact hr5) l4.2 (by omega)).mono ?_
        rintro e w7 ⟨rfl, hr7, hg7⟩
        have ht7 := htx.grown hg7 (by omega) (by omega)
        have hA7 := heap_grown hg7 hAx (by omega)
        have hgw7 := grown_trans hgwx hg7
        have hz7 : w.heap.size + 1 < w7.heap.size := lt_of_heap ht7.row
        obtain ⟨tn, te, sf, sg, si⟩ := tv
        have hrow7 := ht7.row
        have f7 := ht7.fields
        have g7 := ht7.gone
        have i7 := ht7.items
        obtain ⟨e1, e2⟩ := unhide Hne
        simp only at hrow7 f7 g7 i7 e1 e2
        subst e1 e2
        clear ht7 htx Htr Hne hAx hgwx hg7 hgx
        obtain ⟨d0, d1, d2, d3, d4, df⟩ := row5 hrow7
        obtain ⟨a0, a1, a2, a3, a4, af⟩ := row5 hA7
        go_wp2
        refine bodyPost_ret (v := .agg #[.string tn, .bool te, .slice sf.a sf.len sf.cap, .slice sg.a sg.len sg.cap, .slice si.a si.len si.cap]) (by simp [results, Tryz.results68, go_sem, a0, a1, a2, a3, a4]) rfl ⟨⟨tn, te, sf, sg, si⟩, rfl, rfl, rfl, ?_, ?_, ?_, ?_, ?_⟩
        · rw [unhide EP]; exact owns_base (own5 f7 (by omega) _ _ _ _ _) (by omega)
        · rw [unhide EP]; exact owns_base (own5 g7 (by omega) _ _ _ _ _) (by omega)
        · rw [unhide EP]; exact owns_base (own5 i7 (by omega) _ _ _ _ _) (by omega)
        · exact ((((hr7.other (show g ≠ w.heap.size by omega) _).other (show g ≠ w.heap.size by omega) _).other (show g ≠ w.heap.size by omega) _).other (show g ≠ w.heap.size by omega) _).other (show g ≠ w.heap.size by omega) _
        · exact grown_setNew (grown_setNew (grown_setNew (grown_setNew (grown_setNew hgw7 (by simp) _) (by simp) _) (by simp) _) (by simp) _) (by simp) _
      · have Hm := hide hm
        clear hm
        go_wp2_with fail
        refine (sees_any g s (skipP s.toList j) b 125 w5 hr5 hsk.2 (by omega)).mono ?_
        rintro e w6 ⟨rfl, hr6, hg6⟩
        cases hm2 : seesV s.toList (skipP s.toList j) b 125
        · have Hm2 := hide hm2
          clear hm2
          have hsk2 := skipP_le (l := s.toList) (k := skipP s.toList j) (by rw [size_toList]; exact hsk.2)
          rw [size_toList] at hsk2
          have hb0 : b = false := moreV_bad (unhide Hm)
          subst hb0
          obtain ⟨cnt1, cnt2, cnt3⟩ := unhide Hcnt
          simp only [bn, Bool.false_eq_true, if_false, Nat.add_zero] at cnt1 cnt2 cnt3
          have hgx : wr.grownBy w6 (some g) := grown_trans hg5 hg6
          have htx := (unhide Htr).grown hgx (by omega) (by omega)
          have hbx : w.heap.size + 2 ≤ w6.heap.size := Nat.le_trans hzr hgx.size
          have hFx := hFr.trans (Fr.of_grown hgx hzr)
          have hxx : Ext w0 w6 := (hx0.grownSome (unhide HS).2.2.2 hg0).fr hFx hg0 (by have := hx0.size; omega) (by have := hx0.size; omega)
          obtain ⟨R2, hR2⟩ : ∃ R2, lineP s (skipP s.toList (skipP s.toList j)) false fs gs is = R2 := ⟨_, rfl⟩
          have hlc := lineP_cnt s (skipP s.toList (skipP s.toList j)) fs gs is (by rw [size_toList]; exact hsk2.2) (by omega) (by omega)
          have hlp := lineP_pos s (skipP s.toList (skipP s.toList j)) false fs gs is (by rw [size_toList]; exact hsk2.2)
          have hll := lineP_lt s (skipP s.toList (skipP s.toList j)) false fs gs is (by rw [size_toList]; exact hsk2.2)
          rw [hR2] at hlc hlp hll
          rw [size_toList] at hlp
          have EP : Hid (typeLoop s fuel R2.pos R2.bad R2.fs R2.gs R2.is = L) := by
            unfold Hid; rw [← unhide HP]; conv => rhs; unfold typeLoop
            rw [unhide Hm, unhide Hm2]; simp only [if_true, Bool.false_eq_true, if_false]; rw [hR2]
          have Hrest : Hid (k3 ≤ R2.pos ∧ R2.pos ≤ s.size ∧ 2 * (s.size - R2.pos) + (if R2.bad then 0 else 1) < fuel ∧ 2 * (s.size - R2.pos) + (if R2.bad then 0 else 1) < 2 * (s.size - j) + 1) := by
            unfold Hid
            cases hb : R2.bad
            · have := hll hb
              simp only [Bool.false_eq_true, if_false]
              refine ⟨by omega, by omega, by omega, by omega⟩
            · simp only [if_true]
              refine ⟨by omega, by omega, by omega, by omega⟩
          have Hc2 := hide hlc
          have HR2 := hide hR2
          clear hll hlc hR2
          go_wp2_with fail
          refine (line_any w0 g (w.heap.size + 1) (w.heap.size + 2) s (skipP s.toList (skipP s.toList j)) false tv fs gs is w6 (by omega) (by omega) hbx hr6 htx hsk2.2 (by omega) (by omega) (by omega) (by omega) hxx hg0 hn1 hn2).mono ?_
          rintro e w7 ⟨rfl, hr7, ⟨tv7, ht7, hn7, he7⟩, hF7⟩
          rw [unhide HR2] at hr7 ht7
          have Hms7 := hide (rdMeas_of hr7 s.size)
          obtain ⟨e1, e2⟩ := unhide Hne
          clear htx hxx
          go_wp2
          obtain ⟨r1, r2, r3, r4⟩ := unhide Hrest
          exact ⟨⟨R2.pos, R2.bad, R2.fs, R2.gs, R2.is, tv7, fuel, r1, r2, hr7, ht7, hn7.trans e1, he7.trans e2, hFx.trans hF7, (unhide Hc2).1, (unhide Hc2).2, r3, unhide EP⟩, by rw [unhide Hms, unhide Hms7]; exact r4⟩
        · have Hm2 := hide hm2
          clear hm2
          have EP : Hid (L = ⟨fs, gs, is, skipP s.toList (skipP s.toList j), b⟩) := by unfold Hid; rw [← unhide HP]; unfold typeLoop; rw [unhide Hm, unhide Hm2]; rfl
          have hgx : wr.grownBy w6 (some g) := grown_trans hg5 hg6
          have htx := (unhide Htr).grown hgx (by omega) (by omega)
          have hbx : w.heap.size + 2 ≤ w6.heap.size := Nat.le_trans hzr hgx.size
          have hAx : w6.heap[w.heap.size]? = some (.cells #[.string ⟨#[]⟩, .bool false, .slice none 0 0, .slice none 0 0, .slice none 0 0] 30 (0, 0)) := by
            refine heap_grown hgx ?_ (by omega)
            rw [hFr.block w.heap.size (by omega) (by omega) (by omega)]; exact (unhide HS).2.1
          have hgwx : w.grownBy w6 (some g) := grown_fr (unhide HS).2.2.2 (hFr.trans (Fr.of_grown hgx hzr))
          clear hFr HS
          go_wp2_with fail
          refine (sign_any g s L.pos L.bad 125 w6 (by rw [unhide EP]; exact hr6) l4.2 (by omega)).mono ?_
          rintro e w7 ⟨rfl, hr7, hg7⟩
          have ht7 := htx.grown hg7 (by omega) (by omega)
          have hA7 := heap_grown hg7 hAx (by omega)
          have hgw7 := grown_trans hgwx hg7
          have hz7 : w.heap.size + 1 < w7.heap.size := lt_of_heap ht7.row
          obtain ⟨tn, te, sf, sg, si⟩ := tv
          have hrow7 := ht7.row
          have f7 := ht7.fields
          have g7 := ht7.gone
          have i7 := ht7.items
          obtain ⟨e1, e2⟩ := unhide Hne
          simp only at hrow7 f7 g7 i7 e1 e2
          subst e1 e2
          clear ht7 htx Htr Hne hAx hgwx hg7 hgx
          obtain ⟨d0, d1, d2, d3, d4, df⟩ := row5 hrow7
          obtain ⟨a0, a1, a2, a3, a4, af⟩ := row5 hA7
          go_wp2
          refine bodyPost_ret (v := .agg #[.string tn, .bool te, .slice sf.a sf.len sf.cap, .slice sg.a sg.len sg.cap, .slice si.a si.len si.cap]) (by simp [results, Tryz.results68, go_sem, a0, a1, a2, a3, a4]) rfl ⟨⟨tn, te, sf, sg, si⟩, rfl, rfl, rfl, ?_, ?_, ?_, ?_, ?_⟩
          · rw [unhide EP]; exact owns_base (own5 f7 (by omega) _ _ _ _ _) (by omega)
          · rw [unhide EP]; exact owns_base (own5 g7 (by omega) _ _ _ _ _) (by omega)
          · rw [unhide EP]; exact owns_base (own5 i7 (by omega) _ _ _ _ _) (by omega)
          · exact ((((hr7.other (show g ≠ w.heap.size by omega) _).other (show g ≠ w.heap.size by omega) _).other (show g ≠ w.heap.size by omega) _).other (show g ≠ w.heap.size by omega) _).other (show g ≠ w.heap.size by omega) _
          · exact grown_setNew (grown_setNew (grown_setNew (grown_setNew (grown_setNew hgw7 (by simp) _) (by simp) _) (by simp) _) (by simp) _) (by simp) _
end Go.Proofs.YtmghhakebhgckaaGreatDoor

namespace Go.Proofs.YtmghhakebhgckaaGreatDoor
set_option linter.unusedSimpArgs false
set_option linter.unusedVariables false
open Go.RowKit

theorem info30 : (Tryz.prog.info? 30).map (fun i => (i.zero, i.size, i.bytes)) = some (some (.agg #[.string ⟨#[]⟩, .bool false, .slice none 0 0, .slice none 0 0, .slice none 0 0]), 5, 96) := by kernel_rfl
theorem one_tv (t : TV) : ∀ u ∈ t.cells, u.oneCell' = true := by intro u hu; simp at hu; rcases hu with rfl | rfl | rfl | rfl | rfl <;> rfl

structure TyRows (w : World) (base : Nat) (tv : TV) (t : TypeM) : Prop where
  name : tv.name = t.name
  enum : tv.enum = t.enum
  fields : w.ownsRow base 34 5 (.slice tv.fields.a tv.fields.len tv.fields.cap) t.fields.length (t.fields.flatMap FieldM.cells)
  gone : w.ownsRow base 3 1 (.slice tv.gone.a tv.gone.len tv.gone.cap) t.gone.length (t.gone.flatMap encI)
  items : w.ownsRow base 55 2 (.slice tv.items.a tv.items.len tv.items.cap) t.items.length (t.items.flatMap ItemM.cells)
def SV.blk (s : SV) : Option Nat := s.a.map (·.block)
/-- Two slices do not lie in one block. -/
def SV.apart (s s' : SV) : Prop := s.blk = none ∨ s.blk ≠ s'.blk
structure TV.apart (t t' : TV) : Prop where
  fields : t.fields.apart t'.fields
  gone : t.gone.apart t'.gone
  items : t.items.apart t'.items
/-- A book that is being read: its types in a row of its own, their lists in rows of their own, no two in one block. -/
structure BkOwn (w : World) (base : Nat) (s : SV) (tvs : List TV) (ts : List TypeM) : Prop where
  outer : w.ownsRow base 30 5 (.slice s.a s.len s.cap) tvs.length (tvs.flatMap TV.cells)
  len : tvs.length = ts.length
  inner : ∀ (i : Nat) (tv : TV) (t : TypeM), tvs[i]? = some tv → ts[i]? = some t → TyRows w base tv t
  apart : ∀ (i j : Nat) (tv tv' : TV), i ≠ j → tvs[i]? = some tv → tvs[j]? = some tv' → tv.apart tv'

theorem ownBlock_blk (s : SV) : (Value.slice s.a s.len s.cap).ownBlock = s.blk := by
  unfold SV.blk
  cases h : s.a <;> simp [Value.ownBlock]
theorem TyRows.map {w w' : World} {base : Nat} {tv : TV} {t : TypeM} (h : TyRows w base tv t) (k : ∀ {e : TypeId} {size : Nat} {v : Value} {n : Nat} {xs : List Value}, e ≠ 30 → w.ownsRow base e size v n xs → w'.ownsRow base e size v n xs) : TyRows w' base tv t :=
  ⟨h.name, h.enum, k (by decide) h.fields, k (by decide) h.gone, k (by decide) h.items⟩
theorem BkOwn.map {w w' : World} {base : Nat} {s : SV} {tvs : List TV} {ts : List TypeM} (h : BkOwn w base s tvs ts) (k : ∀ {e : TypeId} {size : Nat} {v : Value} {n : Nat} {xs : List Value}, w.ownsRow base e size v n xs → w'.ownsRow base e size v n xs) : BkOwn w' base s tvs ts :=
  ⟨k h.outer, h.len, fun i tv t h1 h2 => (h.inner i tv t h1 h2).map fun _ => k, h.apart⟩

theorem bk_base {w : World} {base base' : Nat} {s : SV} {tvs : List TV} {ts : List TypeM} (h : BkOwn w base s tvs ts) (hb : base' ≤ base) : BkOwn w base' s tvs ts :=
  ⟨owns_base h.outer hb, h.len, fun i tv t h1 h2 => ⟨(h.inner i tv t h1 h2).name, (h.inner i tv t h1 h2).enum, owns_base (h.inner i tv t h1 h2).fields hb, owns_base (h.inner i tv t h1 h2).gone hb, owns_base (h.inner i tv t h1 h2).items hb⟩, h.apart⟩
theorem ty_base {w : World} {base base' : Nat} {tv : TV} {t : TypeM} (h : TyRows w base tv t) (hb : base' ≤ base) : TyRows w base' tv t :=
  ⟨h.name, h.enum, owns_base h.fields hb, owns_base h.gone hb, owns_base h.items hb⟩
theorem sv_apart_new {w w' : World} {base B : Nat} {e e' : TypeId} {size size' : Nat} {s s' : SV} {n n' : Nat} {xs xs' : List Value} (h : w.ownsRow base e size (.slice s.a s.len s.cap) n xs) (h' : w'.ownsRow B e' size' (.slice s'.a s'.len s'.cap) n' xs') (hB : w.heap.size ≤ B) : s.apart s' ∧ s'.apart s := by
  have l := h.lt
  have l' := h'.lt
  rw [ownBlock_blk] at l l'
  unfold SV.apart
  cases hb : s.blk with
  | none =>
    refine ⟨.inl rfl, ?_⟩
    cases hb' : s'.blk with
    | none => exact .inl rfl
    | some k => right; intro e; cases e
  | some k =>
    have := l k hb
    cases hb' : s'.blk with
    | none => exact ⟨.inr (by intro e; cases e), .inl rfl⟩
    | some k' =>
      have := l' k' hb'
      exact ⟨.inr (by intro e; cases e; omega), .inr (by intro e; cases e; omega)⟩
theorem tv_apart_new {w w' : World} {base B : Nat} {tv tv' : TV} {t t' : TypeM} (h : TyRows w base tv t) (h' : TyRows w' B tv' t') (hB : w.heap.size ≤ B) : tv.apart tv' ∧ tv'.apart tv :=
  ⟨⟨(sv_apart_new h.fields h'.fields hB).1, (sv_apart_new h.gone h'.gone hB).1, (sv_apart_new h.items h'.items hB).1⟩, ⟨(sv_apart_new h.fields h'.fields hB).2, (sv_apart_new h.gone h'.gone hB).2, (sv_apart_new h.items h'.items hB).2⟩⟩
theorem get_snoc {α : Type} {l : List α} {x y : α} {i : Nat} (h : (l ++ [x])[i]? = some y) : l[i]? = some y ∨ (i = l.length ∧ y = x) := by
  by_cases hi : i < l.length
  · rw [List.getElem?_append_left hi] at h; exact .inl h
  · rw [List.getElem?_append_right (by omega)] at h
    have : i - l.length = 0 := by
      cases hz : i - l.length with
      | zero => rfl
      | succ m => rw [hz] at h; simp at h
    rw [this] at h
    simp at h
    exact .inr ⟨by omega, h.symm⟩
/-- One more type: its rows lie above all that was there. -/
theorem bk_push {w w1 w2 : World} {base B : Nat} {s s' : SV} {tvs : List TV} {ts : List TypeM} {tv : TV} {t : TypeM} (h : BkOwn w base s tvs ts) (hB : w.heap.size ≤ B) (hn : TyRows w1 B tv t)
    (kold : ∀ (i : Nat) (tv : TV) (t : TypeM), tvs[i]? = some tv → ts[i]? = some t → TyRows w2 base tv t) (knew : TyRows w2 base tv t) (ko : w2.ownsRow base 30 5 (.slice s'.a s'.len s'.cap) (tvs.length + 1) ((tvs ++ [tv]).flatMap TV.cells)) : BkOwn w2 base s' (tvs ++ [tv]) (ts ++ [t]) := by
  refine ⟨by rw [List.length_append]; exact ko, by simp [h.len], fun i a b h1 h2 => ?_, fun i j a b hij h1 h2 => ?_⟩
  · rcases get_snoc h1 with h1 | ⟨e1, rfl⟩
    · have : i < tvs.length := by
        by_cases hi : i < tvs.length
        · exact hi
        · rw [List.getElem?_eq_none (by omega)] at h1; cases h1
      rcases get_snoc h2 with h2 | ⟨e2, _⟩
      · exact kold i a b h1 h2
      · have := h.len; omega
    · rcases get_snoc h2 with h2 | ⟨e2, rfl⟩
      · rw [List.getElem?_eq_none (by have := h.len; omega)] at h2; cases h2
      · exact knew
  · have old : ∀ {i : Nat} {a : TV}, tvs[i]? = some a → ∃ b, ts[i]? = some b := by
      intro i a hi
      have hl : i < tvs.length := by
        by_cases hl : i < tvs.length
        · exact hl
        · rw [List.getElem?_eq_none (by omega)] at hi; cases hi
      exact ⟨ts[i]'(by have := h.len; omega), List.getElem?_eq_getElem _⟩
    rcases get_snoc h1 with k1 | ⟨e1, q1⟩
    · rcases get_snoc h2 with k2 | ⟨e2, q2⟩
      · exact h.apart i j a b hij k1 k2
      · obtain ⟨b', hb'⟩ := old k1
        rw [q2]; exact (tv_apart_new (h.inner i a b' k1 hb') hn hB).1
    · rcases get_snoc h2 with k2 | ⟨e2, q2⟩
      · obtain ⟨b', hb'⟩ := old k2
        rw [q1]; exact (tv_apart_new (h.inner j b b' k2 hb') hn hB).2
      · omega

structure BookR where
  ts : List TypeM
  pos : Nat
  bad : Bool
def bookLoop (s : ByteArray) : Nat → Nat → Bool → List TypeM → BookR
  | 0, k, bad, ts => ⟨ts, k, bad⟩
  | fuel + 1, k, bad, ts =>
    if moreV s.toList k bad then bookLoop s fuel (typeP s (skipP s.toList k) bad).pos (typeP s (skipP s.toList k) bad).bad (ts ++ [(typeP s (skipP s.toList k) bad).t])
    else ⟨ts, skipP s.toList k, bad⟩
def bookP (s : ByteArray) : BookR := bookLoop s (2 * s.size + 2) 0 false []

theorem typeP_pos (s : ByteArray) (k : Nat) (bad : Bool) (hk : k ≤ s.toList.length) : k ≤ (typeP s k bad).pos ∧ (typeP s k bad).pos ≤ s.toList.length ∧ ((typeP s k bad).bad = false → k < (typeP s k bad).pos) := by
  have l1 := wordAt_le (bad := bad) hk
  unfold typeP
  simp only
  generalize headBad (wordStr s k bad) (wordBad s.toList k bad) = b1
  have l2 := wordAt_le (bad := b1) l1.2
  generalize wordBad s.toList (wordAt s.toList k bad) b1 = b2
  have l3 := signAt_le (bad := b2) (c := 123) l2.2
  generalize signBad s.toList (wordAt s.toList (wordAt s.toList k bad) b1) b2 123 = b3
  have l4 := typeLoop_le s (2 * s.size + 2) _ b3 [] [] [] l3.2
  generalize typeLoop s (2 * s.size + 2) (signAt s.toList (wordAt s.toList (wordAt s.toList k bad) b1) b2 123) b3 [] [] [] = L at *
  have l5 := signAt_le (bad := L.bad) (c := 125) l4.2
  refine ⟨by omega, l5.2, fun h => ?_⟩
  unfold signBad at h
  unfold signAt at l5 ⊢
  have l6 := skipP_le l4.2
  cases hs : seesV s.toList L.pos L.bad 125
  · rw [hs] at h; cases h
  · simp only [if_true]; omega

set_option maxHeartbeats 3200000 in
theorem book_any (w0 : World) (g : Nat) (s : ByteArray) (w : World) (hx0 : Ext w0 w) (hg0 : w0.heap.size ≤ g) (hn1 : NamesAt w0 1 rulesL) (hn2 : NamesAt w0 2 kindsL)
    (hr : RdAt w g s (0 : Nat) false) (hs : s.size ≤ 400000) (R : BookR) (hR : bookP s = R) :
    Calls Tryz.prog 44 #[.pointer (some ⟨g, 0, none⟩)] w fun e w' => ∃ (sv : SV) (tvs : List TV), e = .returned (.agg #[.slice sv.a sv.len sv.cap]) ∧ BkOwn w' w.heap.size sv tvs R.ts ∧ RdAt w' g s R.pos R.bad ∧ w.grownBy w' (some g) := by
  have hgl : g < w.heap.size := lt_of_heap hr
  have HR := hide (show bookLoop s (2 * s.size + 2) 0 false [] = R from hR)
  clear hR
  have hxz : Ext w ((w.alloc (.cells #[.slice none 0 0] 24)).alloc (.cells #[.slice none 0 0] 24)) := ((Ext.refl w).alloc _).alloc _
  go_enter Tryz.func44, Tryz.ntmps44
  go_wp2
  go_loopw [] (fun wr => ∃ (j : Nat) (b : Bool) (ts : List TypeM) (tvs : List TV) (sv : SV) (fuel : Nat), j ≤ s.size ∧ RdAt wr g s j b ∧ wr.heap[w.heap.size + 1]? = some (.cells #[.slice sv.a sv.len sv.cap] 24 (0, 0)) ∧ wr.heap[w.heap.size]? = some (.cells #[.slice none 0 0] 24 (0, 0)) ∧ BkOwn wr (w.heap.size + 2) sv tvs ts ∧ w.grownBy wr (some g) ∧ ts.length ≤ j + bn b ∧ 2 * (s.size - j) + (if b then 0 else 1) < fuel ∧ bookLoop s fuel j b ts = R) (fun wr => rdMeas s.size wr g)
  case atStart =>
    refine ⟨0, false, [], [], ⟨none, 0, 0⟩, 2 * s.size + 2, by omega, hr.ext hxz, heap_alloc2_new _ _ _, heap_alloc2_old _ _ _, ⟨World.ownsRow_nil _ _ _ _, rfl, fun i tv t h => by simp at h, fun i j tv tv' _ h => by simp at h⟩, hxz.grows _, by simp, by simp, unhide HR⟩
  case round =>
    obtain ⟨j, b, ts, tvs, sv, fuel, hj, hrr, hB, hA, hbk, hgr, hcnt, hfuel, hP⟩ := hrel
    have Hms := hide (rdMeas_of hrr s.size)
    obtain ⟨fuel, rfl⟩ : ∃ f, fuel = f + 1 := ⟨fuel - 1, by omega⟩
    have HP := hide hP
    have Hbk := hide hbk
    have Hcnt := hide (And.intro hcnt hfuel)
    clear hP hbk hcnt hfuel HR
    have hzr : w.heap.size + 1 < wr.heap.size := lt_of_heap hB
    have hsk := skipP_le (l := s.toList) (k := j) (by rw [size_toList]; exact hj)
    rw [size_toList] at hsk
    go_wp2_with fail
    refine (more_any g s j b wr hrr hj (by omega)).mono ?_
    rintro e w5 ⟨rfl, hr5, hg5⟩
    have hB5 := heap_grown hg5 hB (by omega)
    have hA5 := heap_grown hg5 hA (by omega)
    have hbk5 := (unhide Hbk).map (w' := w5) (fun h => kept_some h hg5 (by omega))
    have hgw5 := grown_trans hgr hg5
    have hz5 : w.heap.size + 1 < w5.heap.size := lt_of_heap hB5
    have cB : w5.cell? ⟨w.heap.size + 1, 0, none⟩ = some (.slice sv.a sv.len sv.cap) := cell_of_row _ _ 0 _ _ _ hB5
    have cA : w5.cell? ⟨w.heap.size, 0, none⟩ = some (.slice none 0 0) := cell_of_row _ _ 0 _ _ _ hA5
    have fA : w5.frozen? ⟨w.heap.size, 0, none⟩ = false := frozen_of_row _ _ 0 _ _ hA5
    clear Hbk hg5 hgr hB hA hrr
    have Hbk5 := hide hbk5
    clear hbk5
    cases hm : moreV s.toList j b
    · have Hm := hide hm
      clear hm
      have EP : Hid (R = ⟨ts, skipP s.toList j, b⟩) := by unfold Hid; rw [← unhide HP]; unfold bookLoop; rw [unhide Hm]; rfl
      go_wp2
      refine bodyPost_ret (v := .agg #[.slice sv.a sv.len sv.cap]) (by simp [results, Tryz.results44, go_sem, cA]) rfl ⟨sv, tvs, rfl, ?_, ?_, ?_⟩
      · rw [unhide EP]
        exact bk_base ((unhide Hbk5).map fun h => ownsRow_setCell_below h (show w.heap.size < w.heap.size + 2 by omega) _) (by omega)
      · rw [unhide EP]; exact hr5.other (show g ≠ w.heap.size by omega) _
      · exact grown_setNew hgw5 (by simp) _
    · have Hm := hide hm
      clear hm
      go_wp2_with fail
      refine wp_region_X (fun w' => w'.cell? ⟨w.heap.size + 1, 0, none⟩ = some (.slice sv.a sv.len sv.cap)) (fun j => decide (6 ≤ j)) (by kernel_rfl) ?_
      refine wpAnyX_take (i := 0) (v := .pointer (some ⟨w.heap.size + 1, 0, none⟩)) rfl (by kernel_rfl) (by kernel_rfl) (fun _ _ _ h => h) (.inl ⟨rfl, fun w' hS => by simp [execOp, go_sem]⟩) cB ?_
      simp only [Act.put, List.setIfInBounds_toArray, List.set_cons_succ, List.set_cons_zero]
      refine wpAnyX_take (i := 1) (v := .slice sv.a sv.len sv.cap) rfl (by kernel_rfl) (by kernel_rfl) (fun _ _ _ h => h) (.inl ⟨rfl, fun w' hS => by simp [execOp, go_sem, hS]⟩) cB ?_
      simp only [Act.put, List.setIfInBounds_toArray, List.set_cons_succ, List.set_cons_zero]
      refine wpAnyX_take (i := 2) (v := .pointer (some ⟨g, 0, none⟩)) rfl (by kernel_rfl) (by kernel_rfl) (fun _ _ _ h => h) (.inl ⟨rfl, fun w' hS => by simp [execOp, go_sem]⟩) cB ?_
      simp only [Act.put, List.setIfInBounds_toArray, List.set_cons_succ, List.set_cons_zero]
      refine wpAnyX_one (j := 3) rfl (by kernel_rfl) rfl fun K hK => ?_
      go_wp2_with fail
      have hxb : Ext w0 w5 := hx0.grownSome hgw5 hg0
      obtain ⟨R2, hR2⟩ : ∃ R2, typeP s (skipP s.toList j) b = R2 := ⟨_, rfl⟩
      have htp := typeP_pos s (skipP s.toList j) b (by rw [size_toList]; exact hsk.2)
      rw [hR2, size_toList] at htp
      have hbf : b = false := moreV_bad (unhide Hm)
      have Hrest : Hid (R2.pos ≤ s.size ∧ (ts ++ [R2.t]).length ≤ R2.pos + bn R2.bad ∧ 2 * (s.size - R2.pos) + (if R2.bad then 0 else 1) < fuel ∧ 2 * (s.size - R2.pos) + (if R2.bad then 0 else 1) < 2 * (s.size - j) + (if b then 0 else 1)) := by
        unfold Hid
        have hc := unhide Hcnt
        subst hbf
        simp only [bn, Bool.false_eq_true, if_false, List.length_append, List.length_singleton] at hc ⊢
        cases hb : R2.bad
        · have := htp.2.2 hb
          simp only [Bool.false_eq_true, if_false]
          refine ⟨by omega, by omega, by omega, by omega⟩
        · simp only [if_true]
          refine ⟨by omega, by omega, by omega, by omega⟩
      have hcl : tvs.length < 1048576 := by
        have hc := (unhide Hcnt).1
        have := (unhide Hbk5).len
        subst hbf
        simp only [bn, Bool.false_eq_true, if_false] at hc
        omega
      have EP : Hid (bookLoop s fuel R2.pos R2.bad (ts ++ [R2.t]) = R) := by
        unfold Hid; rw [← unhide HP]; conv => rhs; unfold bookLoop
        rw [unhide Hm]; simp only [if_true]; rw [hR2]
      have HR2 := hide hR2
      clear hR2 htp HP Hcnt hbf
      refine (nextType_any w0 g s (skipP s.toList j) b w5.drew hxb.drew hg0 hn1 hn2 hr5 hsk.2 hs R2 (unhide HR2)).mono ?_
      rintro e w6 ⟨tv, rfl, tn, te, tf, tg, ti, hr6, hg6⟩
      have hnew : TyRows w6 w5.heap.size tv R2.t := ⟨tn, te, tf, tg, ti⟩
      have Hnew := hide hnew
      have hg56 : w5.grownBy w6 (some g) := grown_trans (grown_drewN w5 1 _) hg6
      have hbk6 := (unhide Hbk5).map (w' := w6) (fun h => kept_some h hg56 (by omega))
      have hB6 := heap_grown hg56 hB5 (by omega)
      have hA6 := heap_grown hg56 hA5 (by omega)
      have hgw6 := grown_trans hgw5 hg56
      have hz6 : w5.heap.size ≤ w6.heap.size := hg56.size
      have ho6 := hbk6.outer
      clear cA fA tn te tf tg ti hnew hg6 hxb
      have Hbk6 := hide hbk6
      clear hbk6
      have cB6 : w6.cell? ⟨w.heap.size + 1, 0, none⟩ = some (.slice sv.a sv.len sv.cap) := cell_of_row _ _ 0 _ _ _ hB6
      clear cB
      go_wp2
      refine hK.out _ _ cB6 ?_
      clear hK K
      refine wpAnyX_one (j := 4) rfl (by kernel_rfl) rfl fun K hK => ?_
      have hx6 : Ext w6 (w6.alloc (.cells #[.string tv.name, .bool tv.enum, .slice tv.fields.a tv.fields.len tv.fields.cap, .slice tv.gone.a tv.gone.len tv.gone.cap, .slice tv.items.a tv.items.len tv.items.cap] 30)) := (Ext.refl w6).alloc _
      go_wp2
      refine hK.out _ _ (hx6.cell cB6) ?_
      clear hK K
      refine wpAnyX_one (j := 5) rfl (by kernel_rfl) rfl fun K hK => ?_
      refine wpList_app1 _ _ 22 30 (.agg #[.string ⟨#[]⟩, .bool false, .slice none 0 0, .slice none 0 0, .slice none 0 0]) 5 96 Tryz.underlying22 info30 rfl (by decide) (by decide) rfl rfl (w.heap.size + 2) _ tvs.length _ rfl (ho6.alloc _) w6.heap.size 1 tv.cells rfl rfl ?c1 ?c2 ?c3 ?c4 ?_
      case c1 => exact range_of_new5 _ _ _ _ _ _ _ (by simp)
      case c2 => exact one_tv tv
      case c3 => exact hcl
      case c4 => simp; omega
      intro v7 w7 ho7 hg7
      have ho7' : w7.ownsRow (w.heap.size + 2) 30 5 v7 (tvs ++ [tv]).length ((tvs ++ [tv]).flatMap TV.cells) := by
        rw [List.length_append, List.length_singleton, List.flatMap_append]
        simpa using ho7
      obtain ⟨sv', hsv', _⟩ := sliceAt_of_owns TV.cells (fun _ => rfl) ho7' rfl
      rw [hsv'] at ho7' ⊢
      have hr7 : RdAt w7 g s R2.pos R2.bad := by
        have h0 := hr6.ext hx6
        have hx := hg7.block g (lt_of_heap h0) (fun e => by have := (ho6.lt g e.symm).1; omega)
        unfold RdAt; rw [hx]; exact h0
      have hB7 : w7.heap[w.heap.size + 1]? = some (.cells #[.slice sv.a sv.len sv.cap] 24 (0, 0)) := by
        have h0 := hx6.heap hB6
        rw [hg7.block _ (lt_of_heap h0) (fun e => by have := (ho6.lt _ e.symm).1; omega)]; exact h0
      have hA7 : w7.heap[w.heap.size]? = some (.cells #[.slice none 0 0] 24 (0, 0)) := by
        have h0 := hx6.heap hA6
        rw [hg7.block _ (lt_of_heap h0) (fun e => by have := (ho6.lt _ e.symm).1; omega)]; exact h0
      have hbk7 : BkOwn w7 (w.heap.size + 2) sv' (tvs ++ [tv]) (ts ++ [R2.t]) := by
        have kk : ∀ {e : TypeId} {size : Nat} {v : Value} {n base : Nat} {xs : List Value}, e ≠ 30 → w6.ownsRow base e size v n xs → w7.ownsRow base e size v n xs :=
          fun hne h => (owns_ext h hx6).kept hg7 (owns_apart h ho6 hne)
        refine bk_push (unhide Hbk5) (Nat.le_refl _) (unhide Hnew) (fun i a b h1 h2 => ((unhide Hbk6).inner i a b h1 h2).map kk) (ty_base ((unhide Hnew).map kk) (by omega)) ?_
        rw [← List.length_singleton (a := tv), ← List.length_append]; exact ho7'
      have hgw7 : w.grownBy w7 (some g) := by
        refine grown_own (grown_trans hgw6 (hx6.grows _)) hg7 (owns_base (ho6.alloc _) (by omega))
      have hz7 : w.heap.size + 1 < w7.heap.size := lt_of_heap hB7
      have Hbk7 := hide hbk7
      have cB7 : w7.cell? ⟨w.heap.size + 1, 0, none⟩ = some (.slice sv.a sv.len sv.cap) := cell_of_row _ _ 0 _ _ _ hB7
      have fB7 : w7.frozen? ⟨w.heap.size + 1, 0, none⟩ = false := frozen_of_row _ _ 0 _ _ hB7
      clear hbk7 ho7 ho7' hsv' ho6 hg7 hB6 hA6 hx6 cB6 Hbk6 Hnew Hbk5
      go_wp2
      refine hK.out _ _ cB7 ?_
      clear hK K
      refine wpAnyX_end [6, 7] [_, _] rfl (by intro j i hj; match j, hj with | 0, hj => cases hj; rfl | 1, hj => cases hj; rfl) (by kernel_rfl) (by intro i hi; cases hi; rfl) fun K hK => ?_
      go_wp2
      refine hK.out _ _ ?_
      clear hK K
      have hr8 := hr7.other (p := ⟨w.heap.size + 1, 0, none⟩) (show g ≠ w.heap.size + 1 by omega) (.slice sv'.a sv'.len sv'.cap)
      have Hms8 := hide (rdMeas_of hr8 s.size)
      go_wp2
      obtain ⟨r1, r2, r3, r4⟩ := unhide Hrest
      exact ⟨⟨R2.pos, R2.bad, ts ++ [R2.t], tvs ++ [tv], sv', fuel, r1, hr8, heap_setCell_same w7 _ 0 _ 24 _ hB7, (by rw [heap_setCell_other _ _ _ _ (by simp)]; exact hA7), (unhide Hbk7).map fun h => ownsRow_setCell_below h (show w.heap.size + 1 < w.heap.size + 2 by omega) _, grown_setNew hgw7 (by simp) _, r2, r3, unhide EP⟩, by rw [unhide Hms, unhide Hms8]; exact r4⟩
end Go.Proofs.YtmghhakebhgckaaGreatDoor

