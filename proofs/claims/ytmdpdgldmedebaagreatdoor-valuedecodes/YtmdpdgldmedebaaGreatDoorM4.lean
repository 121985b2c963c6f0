import Derived.Test.YtmdpdgldmedebaaGreatDoorM3
namespace Go.Proofs.YtmdpdgldmedebaaGreatDoor
set_option linter.unusedSimpArgs false
set_option linter.unusedVariables false
set_option linter.unusedSimpArgs false
set_option linter.unusedVariables false
open Go.RowKit

def fieldOkAt (b : BookM) (l : List FieldM) (i : Nat) : Bool := goodFieldM b (l.getD i FieldM.zero)
def goodMessageM (b : BookM) (t : TypeM) : Bool :=
  if 0 < t.items.length ∨ 5 < t.fields.length then false
  else (List.range t.fields.length).all (fieldOkAt b t.fields) && (goodNamesL (t.fields.map (·.name)) && goodIdsL (t.fields.map (·.id)) t.gone)

/-- How large a type may be for the walks. -/
structure TypeM.Small (t : TypeM) : Prop where
  name : t.name.size ≤ 1048576
  fields : t.fields.length ≤ 1048576
  gone : t.gone.length ≤ 1048576
  items : t.items.length ≤ 1048576
  fname : ∀ x ∈ t.fields, x.name.size ≤ 1048576 ∧ x.type.size ≤ 1048576
  iname : ∀ x ∈ t.items, x.name.size ≤ 1048576
/-- How large a type can be at all. -/
structure TypeM.Fits (t : TypeM) : Prop where
  name : t.name.size ≤ 9223372036854775807
  fields : t.fields.length ≤ 9223372036854775807
  gone : t.gone.length ≤ 9223372036854775807
  items : t.items.length ≤ 9223372036854775807
  fname : ∀ x ∈ t.fields, x.name.size ≤ 9223372036854775807 ∧ x.type.size ≤ 9223372036854775807
  iname : ∀ x ∈ t.items, x.name.size ≤ 9223372036854775807
theorem TypeM.Small.fits {t : TypeM} (h : t.Small) : t.Fits :=
  ⟨Nat.le_trans h.name (by decide), Nat.le_trans h.fields (by decide), Nat.le_trans h.gone (by decide), Nat.le_trans h.items (by decide), fun x hx => ⟨Nat.le_trans (h.fname x hx).1 (by decide), Nat.le_trans (h.fname x hx).2 (by decide)⟩, fun x hx => Nat.le_trans (h.iname x hx) (by decide)⟩

set_option maxHeartbeats 1600000 in
theorem goodMessage_any (s : SV) (ts : BookM) (tv : TV) (t : TypeM) (w : World) (hs : BookAt w s ts) (ht : TypeAt w tv t) (hw : WordsAt w) (hm : ts.length ≤ 9223372036854775807) (hn : t.Fits) :
    Calls Tryz.prog 89 #[.agg #[.slice s.a s.len s.cap], .agg #[.string tv.name, .bool tv.enum, .slice tv.fields.a tv.fields.len tv.fields.cap, .slice tv.gone.a tv.gone.len tv.gone.cap, .slice tv.items.a tv.items.len tv.items.cap]] w fun e w' => e = .returned (.bool (goodMessageM ts t)) ∧ Ext w w' := by
  obtain ⟨name, enum, ⟨fa, fn, fc⟩, ⟨ga, gn, gc⟩, ⟨ia, il, ic⟩⟩ := tv
  obtain ⟨hf, hts⟩ := ht.fields
  have hg := ht.gone
  have hgl := ht.gone.1
  have hi := ht.items.1
  simp only at hf hgl hi
  subst hf hgl hi
  have hn1 := hn.fields
  have hn2 := hn.gone
  have hn3 := hn.items
  have hsz := hn.fname
  show Calls Tryz.prog 89 #[.agg #[.slice s.a s.len s.cap], .agg #[.string name, .bool enum, .slice fa t.fields.length fc, .slice ga t.gone.length gc, .slice ia t.items.length ic]] w _
  by_cases h1 : 0 < t.items.length
  · have e : goodMessageM ts t = false := by simp [goodMessageM, h1]
    rw [e]; clear e hts ht hsz hg hn
    go_enter Tryz.func89, Tryz.ntmps89
    go_wp2
    go_ret
    exact ⟨rfl, ((Ext.refl w).alloc _).alloc _⟩
  by_cases h2 : 5 < t.fields.length
  · have e : goodMessageM ts t = false := by simp [goodMessageM, h2]
    rw [e]; clear e hts ht hsz hg hn
    go_enter Tryz.func89, Tryz.ntmps89
    go_wp2
    go_ret
    exact ⟨rfl, ((Ext.refl w).alloc _).alloc _⟩
  have E : Hid (goodMessageM ts t = ((List.range t.fields.length).all (fieldOkAt ts t.fields) && (goodNamesL (t.fields.map (·.name)) && goodIdsL (t.fields.map (·.id)) t.gone))) := by
    unfold Hid goodMessageM; rw [if_neg (by omega)]
  clear ht hn
  go_enter Tryz.func89, Tryz.ntmps89
  go_wp2
  go_loopw [5, 6, 22] (fun vn vi i wr => ∃ k : Nat, k ≤ t.fields.length ∧ i = .int .i64 k ∧ AllTo (fieldOkAt ts t.fields) k ∧ wr.ownsRow (w.heap.size + 2) 9 1 vn k (((t.fields.map (·.name)).take k).flatMap encS) ∧ wr.ownsRow (w.heap.size + 2) 3 1 vi k (((t.fields.map (·.id)).take k).flatMap encI) ∧ Ext ((w.alloc (Obj.cells #[.slice s.a s.len s.cap] 24)).alloc (Obj.cells #[.string name, .bool enum, .slice fa t.fields.length fc, .slice ga t.gone.length gc, .slice ia t.items.length ic] 50)) wr) (fun vn vi i wr => t.fields.length - (intOf i).toNat)
  case atStart => exact ⟨0, by omega, rfl, AllTo.zero _, World.ownsRow_nil _ _ _ _, World.ownsRow_nil _ _ _ _, Ext.refl _⟩
  case round =>
    obtain ⟨k, hk, rfl, hne, hon, hoi, hx⟩ := hrel
    have hE : Ext w wr := (((Ext.refl w).alloc _).alloc _).trans hx
    have hzs : w.heap.size + 1 < wr.heap.size := by have := hx.size; simp at this; omega
    by_cases hlt : k < t.fields.length
    · obtain ⟨b, o, cs, rfl, hr, rfl⟩ := hts k t.fields[k] (by simp [hlt])
      obtain ⟨c0, c1, c2, c3, c4⟩ := range5 (hE.range hr)
      have q0 := (hx.whole (heap_alloc2_old _ _ _)).1 0 (.slice s.a s.len s.cap) rfl
      have hzz : w.heap.size < wr.heap.size := by omega
      have hsk := hsz t.fields[k] (List.getElem_mem hlt)
      have hs1 := hs.ext (hE.alloc (.cells #[.int .i64 t.fields[k].id, .string t.fields[k].name, .string t.fields[k].type, .int .i64 t.fields[k].kind, .int .i64 t.fields[k].rule] 56))
      have hkk : t.fields.getD k FieldM.zero = t.fields[k] := by simp [List.getD, hlt]
      clear hts hr hsz
      cases hok : goodFieldM ts t.fields[k]
      · have e : fieldOkAt ts t.fields k = false := by unfold fieldOkAt; rw [hkk, hok]
        have Hok : Hid (goodFieldM ts t.fields[k] = false) := hok
        clear hok hkk hon hoi
        go_wp2_with fail
        refine (goodField_any s ts t.fields[k] _ hs1 (by omega)).mono ?_
        rintro e' w1 ⟨rfl, hx1⟩
        rw [Hok.out]
        go_wp2
        go_ret
        exact ⟨ret_bool (E.out.trans (by rw [not_all_range hlt e]; rfl)).symm, (hE.alloc _).trans hx1⟩
      have e : fieldOkAt ts t.fields k = true := by unfold fieldOkAt; rw [hkk, hok]
      have Hok : Hid (goodFieldM ts t.fields[k] = true) := hok
      clear hok hkk
      go_wp2_with fail
      refine (goodField_any s ts t.fields[k] _ hs1 (by omega)).mono ?_
      rintro e' w0 ⟨rfl, hx0⟩
      rw [Hok.out]
      obtain ⟨p, pf⟩ := hx0.whole (heap_alloc_new _ _)
      have p0 := p 0 (.int .i64 t.fields[k].id) rfl
      have p1 := p 1 (.string t.fields[k].name) rfl
      have hz0 : wr.heap.size < w0.heap.size := by have := hx0.size; simp at this; omega
      have hB0 : Below (wr.heap.size + 1) (wr.alloc (.cells #[.int .i64 t.fields[k].id, .string t.fields[k].name, .string t.fields[k].type, .int .i64 t.fields[k].kind, .int .i64 t.fields[k].rule] 56)) w0 := hx0.mono (by simp)
      clear p pf
      have hon0 := owns_ext (hon.alloc (.cells #[.int .i64 t.fields[k].id, .string t.fields[k].name, .string t.fields[k].type, .int .i64 t.fields[k].kind, .int .i64 t.fields[k].rule] 56)) hx0
      have hoi0 := owns_ext (hoi.alloc (.cells #[.int .i64 t.fields[k].id, .string t.fields[k].name, .string t.fields[k].type, .int .i64 t.fields[k].kind, .int .i64 t.fields[k].rule] 56)) hx0
      have hxx0 : Ext _ w0 := (hx.alloc _).trans hx0
      have hzw : w.heap.size + 2 ≤ w0.heap.size := by omega
      have HB : ∀ j, u5.ownBlock = some j → j < wr.heap.size := fun j hj => (hon.lt j hj).2
      clear hon hoi hx hx0 hB0 hs1 q0 c0 c1 c2 c3 c4
      go_wp2_with (at_builtin; refine wpList_app1 _ _ 141 9 (.string ⟨#[]⟩) 1 16 Tryz.underlying141 info9 rfl (by decide) (by decide) rfl rfl (w.heap.size + 2) _ k _ rfl (hon0.alloc _) w0.heap.size 1 [.string t.fields[k].name] rfl rfl ?c1 ?c2 ?c3 ?c4 ?_)
      case c1 => exact range_of_new1 _ _ _ (by simp)
      case c2 => intro u hu; simp at hu; subst hu; rfl
      case c3 => omega
      case c4 => simp; omega
      intro v1 w1 hon1 hg1
      have hoi1 := (hoi0.alloc (.cells #[.string t.fields[k].name] 9)).kept hg1 (owns_apart hoi0 hon0 (by decide))
      have hx1 : Ext _ w1 := (hxx0.alloc _).owned hg1 (hon0.alloc _) (by simp)
      have hc : w1.cell? ⟨wr.heap.size, 0, none⟩ = some (.int .i64 t.fields[k].id) := hg1.cell (by rw [World.cell?_alloc_lt _ _ _ hz0]; exact p0) (by
        intro e
        exact absurd (show wr.heap.size < wr.heap.size from HB _ e.symm) (by omega))
      have hz1 : w.heap.size + 2 ≤ w1.heap.size := by have := hx1.size; simp at this; omega
      have Hon : Hid (w1.ownsRow (w.heap.size + 2) 9 1 v1 (k + 1) (((t.fields.map (·.name)).take (k + 1)).flatMap encS)) := by
        unfold Hid
        rw [flat_take (by simpa using hlt)]
        simpa [encS] using hon1
      clear hon1 hon0 hoi0 hg1 hxx0
      go_wp2_with (at_builtin; refine wpList_app1 _ _ 25 3 (.int .i64 0) 1 8 Tryz.underlying25 info3 rfl (by decide) (by decide) rfl rfl (w.heap.size + 2) _ k _ rfl (hoi1.alloc _) w1.heap.size 1 [.int .i64 t.fields[k].id] rfl rfl ?c1 ?c2 ?c3 ?c4 ?_)
      case c1 => exact range_of_new1 _ _ _ (by simp)
      case c2 => intro u hu; simp at hu; subst hu; rfl
      case c3 => omega
      case c4 => simp; omega
      intro v2 w2 hoi2 hg2
      have hon2 := (Hon.out.alloc (.cells #[.int .i64 t.fields[k].id] 3)).kept hg2 (owns_apart Hon.out hoi1 (by decide))
      have hx2 : Ext _ w2 := (hx1.alloc _).owned hg2 (hoi1.alloc _) (by simp)
      have Hoi : Hid (w2.ownsRow (w.heap.size + 2) 3 1 v2 (k + 1) (((t.fields.map (·.id)).take (k + 1)).flatMap encI)) := by
        unfold Hid
        rw [flat_take (by simpa using hlt)]
        simpa [encI] using hoi2
      clear hoi2 hoi1 hg2
      go_wp2
      exact ⟨⟨k + 1, by omega, by go_num, hne.succ e, hon2, Hoi.out, hx2⟩, by simp [intOf]; omega⟩
    · obtain rfl : k = t.fields.length := by omega
      have e1 : (t.fields.map (·.name)).take t.fields.length = t.fields.map (·.name) := by rw [List.take_of_length_le (by simp)]
      have e2 : (t.fields.map (·.id)).take t.fields.length = t.fields.map (·.id) := by rw [List.take_of_length_le (by simp)]
      rw [e1] at hon
      rw [e2] at hoi
      obtain ⟨sn, rfl, hsn, hcn⟩ := strs_of_owns hon (by simp)
      obtain ⟨si, rfl, hsi⟩ := ints_of_owns hoi (by simp)
      have hwr := hw.ext hE
      have E2 : Hid (goodMessageM ts t = (goodNamesL (t.fields.map (·.name)) && goodIdsL (t.fields.map (·.id)) t.gone)) := E.out.trans (by rw [AllTo.all hne (by omega)]; rfl)
      have q3 := (hx.whole (heap_alloc2_new _ _ _)).1 3 (.slice ga t.gone.length gc) rfl
      clear hon hoi e1 e2 hts E hne
      cases h5 : goodNamesL (t.fields.map (·.name))
      · have H5 : Hid (goodNamesL (t.fields.map (·.name)) = false) := h5
        clear h5
        go_wp2_with fail
        refine (goodNames_any sn _ wr hsn hwr (by simp; omega) hcn (fun x hx => ?_)).mono ?_
        · obtain ⟨y, hy, rfl⟩ := List.mem_map.1 hx
          have := (hsz y hy).1
          omega
        rintro e w1 ⟨rfl, hx1⟩
        rw [H5.out]
        go_wp2
        go_ret
        exact ⟨ret_bool (E2.out.trans (by rw [H5.out]; rfl)).symm, hE.trans hx1⟩
      · have H5 : Hid (goodNamesL (t.fields.map (·.name)) = true) := h5
        clear h5
        go_wp2_with fail
        refine (goodNames_any sn _ wr hsn hwr (by simp; omega) hcn (fun x hx => ?_)).mono ?_
        · obtain ⟨y, hy, rfl⟩ := List.mem_map.1 hx
          have := (hsz y hy).1
          omega
        rintro e w1 ⟨rfl, hx1⟩
        rw [H5.out]
        have q3' := hx1.cell q3
        have hg1 := hg.ext (hE.trans hx1)
        go_wp2_with fail
        refine (goodIds_any si ⟨ga, t.gone.length, gc⟩ _ t.gone w1 (hsi.ext hx1) hg1 (by simp; omega) (by omega)).mono ?_
        rintro e w2 ⟨rfl, hx2⟩
        go_wp2
        go_ret
        exact ⟨ret_bool (E2.out.trans (by rw [H5.out]; rfl)).symm, (hE.trans hx1).trans hx2⟩
end Go.Proofs.YtmdpdgldmedebaaGreatDoor

namespace Go.Proofs.YtmdpdgldmedebaaGreatDoor
set_option linter.unusedSimpArgs false
set_option linter.unusedVariables false
open Go.RowKit

def BookM.Small (ts : BookM) : Prop := ts.length ≤ 1048576 ∧ ∀ t ∈ ts, t.Small
def BookM.Fits (ts : BookM) : Prop := ts.length ≤ 9223372036854775807 ∧ ∀ t ∈ ts, t.Fits
theorem BookM.Small.fits {ts : BookM} (h : ts.Small) : ts.Fits := ⟨Nat.le_trans h.1 (by decide), fun t ht => (h.2 t ht).fits⟩
theorem findM_mem {ts : BookM} {name : ByteArray} {t : TypeM} (h : findM ts name = some t) : t ∈ ts := List.mem_of_find?_eq_some h

def goodTypeM (b : BookM) (t : TypeM) : Bool := namedL t.name.toList && (if t.enum then goodEnumM t else goodMessageM b t)

set_option maxHeartbeats 1600000 in
theorem goodType_any (s : SV) (ts : BookM) (tv : TV) (t : TypeM) (w : World) (hs : BookAt w s ts) (ht : TypeAt w tv t) (hw : WordsAt w) (hm : ts.length ≤ 9223372036854775807) (hn : t.Fits) :
    Calls Tryz.prog 65 #[.agg #[.slice s.a s.len s.cap], .agg #[.string tv.name, .bool tv.enum, .slice tv.fields.a tv.fields.len tv.fields.cap, .slice tv.gone.a tv.gone.len tv.gone.cap, .slice tv.items.a tv.items.len tv.items.cap]] w fun e w' => e = .returned (.bool (goodTypeM ts t)) ∧ Ext w w' := by
  have hsn := hn.name
  rw [← ht.name] at hsn
  have E : Hid (goodTypeM ts t = (namedL tv.name.toList && (if tv.enum then goodEnumM t else goodMessageM ts t))) := by
    unfold Hid goodTypeM; rw [ht.name, ht.enum]
  have Ht : Hid (TypeAt w tv t) := ht
  have Hn : Hid t.Fits := hn
  clear ht hn
  obtain ⟨name, enum, fs, gs, is⟩ := tv
  simp only at E hsn
  have hx0 : Ext w ((w.alloc (.cells #[.slice s.a s.len s.cap] 24)).alloc (.cells #[.string name, .bool enum, .slice fs.a fs.len fs.cap, .slice gs.a gs.len gs.cap, .slice is.a is.len is.cap] 50)) := ((Ext.refl w).alloc _).alloc _
  show Calls Tryz.prog 65 #[.agg #[.slice s.a s.len s.cap], .agg #[.string name, .bool enum, .slice fs.a fs.len fs.cap, .slice gs.a gs.len gs.cap, .slice is.a is.len is.cap]] w _
  cases h1 : namedL name.toList
  · have H1 : Hid (namedL name.toList = false) := h1
    clear h1
    go_enter Tryz.func65, Tryz.ntmps65
    go_wp2_with fail
    refine (named_any name _ (hw.ext hx0) (by omega)).mono ?_
    rintro e w1 ⟨rfl, rfl⟩
    rw [H1.out]
    go_wp2
    go_ret
    exact ⟨ret_bool (E.out.trans (by rw [H1.out]; rfl)).symm, hx0⟩
  have H1 : Hid (namedL name.toList = true) := h1
  clear h1
  cases enum
  · have E2 : Hid (goodTypeM ts t = goodMessageM ts t) := E.out.trans (by rw [H1.out]; rfl)
    clear E
    go_enter Tryz.func65, Tryz.ntmps65
    go_wp2_with fail
    refine (named_any name _ (hw.ext hx0) (by omega)).mono ?_
    rintro e w1 ⟨rfl, rfl⟩
    rw [H1.out]
    go_wp2_with fail
    refine (goodMessage_any s ts ⟨name, false, fs, gs, is⟩ t _ (hs.ext hx0) (Ht.out.ext hx0) (hw.ext hx0) hm Hn.out).mono ?_
    rintro e w2 ⟨rfl, hx2⟩
    go_wp2
    go_ret
    exact ⟨ret_bool E2.out.symm, hx0.trans hx2⟩
  · have E2 : Hid (goodTypeM ts t = goodEnumM t) := E.out.trans (by rw [H1.out]; rfl)
    clear E
    go_enter Tryz.func65, Tryz.ntmps65
    go_wp2_with fail
    refine (named_any name _ (hw.ext hx0) (by omega)).mono ?_
    rintro e w1 ⟨rfl, rfl⟩
    rw [H1.out]
    go_wp2_with fail
    refine (goodEnum_any ⟨name, true, fs, gs, is⟩ t _ (Ht.out.ext hx0) (hw.ext hx0) ⟨Hn.out.fields, Hn.out.gone, Hn.out.items⟩ Hn.out.iname).mono ?_
    rintro e w2 ⟨rfl, hx2⟩
    go_wp2
    go_ret
    exact ⟨ret_bool E2.out.symm, hx0.trans hx2⟩

def goodLeastB (n : Int) : Bool := decide (1 ≤ n) && decide (n ≤ 12)
set_option maxHeartbeats 400000 in
theorem goodLeast_any (n : Int) (w : World) : Calls Tryz.prog 66 #[.int .i64 n] w fun e w' => e = .returned (.bool (goodLeastB n)) ∧ w' = w := by
  unfold goodLeastB
  go_enter Tryz.func66, Tryz.ntmps66
  go_wp2
  all_goals
    go_ret
    rename_i h
    exact ⟨by simp [h]; try omega, rfl⟩

def leastFold (g : FieldM → Int) : List FieldM → Int → Int
  | [], acc => acc
  | f :: r, acc => if (f.rule == 1) = false then leastFold g r acc else if g f = 0 then 0 else leastFold g r (acc + g f)
def leastM (b : BookM) : Nat → ByteArray → Int
  | 0, _ => 0
  | n + 1, name => match findM b name with
    | none => 0
    | some t => if t.enum = true ∨ 5 < t.fields.length then 0 else leastFold (fun f => if f.kind = 5 then leastM b n f.type else 1) t.fields 1
def needM (b : BookM) (n : Nat) (f : FieldM) : Int := if f.kind = 5 then leastM b n f.type else 1

theorem leastFold_bd (g : FieldM → Int) (M : Int) (hM : 0 ≤ M) (hg : ∀ f, 0 ≤ g f ∧ g f ≤ M) : ∀ (l : List FieldM) (acc : Int), 0 ≤ acc → 0 ≤ leastFold g l acc ∧ leastFold g l acc ≤ acc + l.length * M
  | [], acc, h => by simp [leastFold, h]
  | f :: r, acc, h => by
    have hh := hg f
    have e : ((f :: r).length : Int) * M = r.length * M + M := by simp [Int.add_mul]
    have hr : 0 ≤ (r.length : Int) * M := Int.mul_nonneg (by omega) hM
    unfold leastFold
    split
    · have := leastFold_bd g M hM hg r acc h; omega
    · split
      · omega
      · have := leastFold_bd g M hM hg r (acc + g f) (by omega); omega
theorem leastM_bd (b : BookM) : ∀ (n : Nat) (name : ByteArray), 0 ≤ leastM b n name ∧ leastM b n name ≤ 6 ^ n
  | 0, _ => by simp [leastM]
  | n + 1, name => by
    have hp : (1 : Int) ≤ 6 ^ n := Int.pow_pos (by decide)
    have e6 : (6 : Int) ^ (n + 1) = 6 * 6 ^ n := by rw [Int.pow_succ]; omega
    unfold leastM
    split
    · omega
    · rename_i t _
      split
      · omega
      · rename_i h
        have h5 : t.fields.length ≤ 5 := by omega
        have := leastFold_bd (fun f => if f.kind = 5 then leastM b n f.type else 1) (6 ^ n) (by omega) (fun f => by
          split
          · exact leastM_bd b n f.type
          · omega) t.fields 1 (by omega)
        have hm : (t.fields.length : Int) * 6 ^ n ≤ 5 * 6 ^ n := Int.mul_le_mul_of_nonneg_right (by omega) (by omega)
        omega
theorem needM_bd (b : BookM) (n : Nat) (hn : n ≤ 4) (f : FieldM) : 0 ≤ needM b n f ∧ needM b n f ≤ 1296 := by
  have h := leastM_bd b n f.type
  have : (6 : Int) ^ n ≤ 1296 := by
    have : n = 0 ∨ n = 1 ∨ n = 2 ∨ n = 3 ∨ n = 4 := by omega
    rcases this with rfl | rfl | rfl | rfl | rfl <;> decide
  unfold needM
  split <;> omega
end Go.Proofs.YtmdpdgldmedebaaGreatDoor

