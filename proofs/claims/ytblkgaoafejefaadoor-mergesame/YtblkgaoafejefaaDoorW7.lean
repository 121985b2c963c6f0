import Derived.Test.YtblkgaoafejefaaDoorW6
namespace Go.Proofs.YtblkgaoafejefaaDoor
set_option linter.unusedSimpArgs false
set_option linter.unusedVariables false
open Go.RowKit

theorem info9 : (Tryd.prog.info? 9).map (fun i => (i.zero, i.size, i.bytes)) = some (some (.string ⟨#[]⟩), 1, 16) := by kernel_rfl
theorem info3 : (Tryd.prog.info? 3).map (fun i => (i.zero, i.size, i.bytes)) = some (some (.int .i64 0), 1, 8) := by kernel_rfl

theorem flat_take {α β : Type} {l : List α} {k : Nat} (hk : k < l.length) (enc : α → List β) : (l.take (k + 1)).flatMap enc = (l.take k).flatMap enc ++ enc l[k] := by
  rw [List.take_succ_eq_append_getElem hk, List.flatMap_append]
  simp
theorem range_of_new1 (w : World) (u : Value) (t : TypeId) {g : Nat} (hg : g = w.heap.size) : (w.alloc (.cells #[u] t)).rangeAt g 0 [u] := fun j v hv => by
  subst hg
  match j, hv with
  | 0, hv => simp at hv; subst hv; simp
def encS (x : ByteArray) : List Value := [.string x]
def encI (x : Int) : List Value := [.int .i64 x]
theorem strs_of_owns {w : World} {base : Nat} {v : Value} {n : Nat} {l : List ByteArray} (h : w.ownsRow base 9 1 v n (l.flatMap encS)) (hn : n = l.length) : ∃ s : SV, v = .slice s.a s.len s.cap ∧ StrsAt w s l ∧ s.len ≤ s.cap := by
  obtain ⟨s, h1, h2⟩ := sliceAt_of_owns encS (fun _ => rfl) h hn
  refine ⟨s, h1, h2, ?_⟩
  rcases h.2 with ⟨rfl, h0⟩ | ⟨g, cap, cur, rfl, _, _, hc, _⟩
  · simp only [Value.slice.injEq] at h1; omega
  · simp only [Value.slice.injEq] at h1; omega
theorem ints_of_owns {w : World} {base : Nat} {v : Value} {n : Nat} {l : List Int} (h : w.ownsRow base 3 1 v n (l.flatMap encI)) (hn : n = l.length) : ∃ s : SV, v = .slice s.a s.len s.cap ∧ IntsAt w s l := sliceAt_of_owns encI (fun _ => rfl) h hn

def goodEnumM (t : TypeM) : Bool :=
  if 0 < t.fields.length ∨ 0 < t.gone.length then false
  else if t.items.length < 1 ∨ 6 < t.items.length then false
  else goodNamesL (t.items.map (·.name)) && risingL (t.items.map (·.n)) (-1099511627776) 1099511627776

set_option maxHeartbeats 1600000 in
theorem goodEnum_any (tv : TV) (t : TypeM) (w : World) (ht : TypeAt w tv t) (hw : WordsAt w) (hn : t.fields.length ≤ 9223372036854775807 ∧ t.gone.length ≤ 9223372036854775807 ∧ t.items.length ≤ 9223372036854775807) (hsz : ∀ x ∈ t.items, x.name.size ≤ 9223372036854775807) :
    Calls Tryd.prog 33 #[.agg #[.string tv.name, .bool tv.enum, .slice tv.fields.a tv.fields.len tv.fields.cap, .slice tv.gone.a tv.gone.len tv.gone.cap, .slice tv.items.a tv.items.len tv.items.cap]] w fun e w' => e = .returned (.bool (goodEnumM t)) ∧ Ext w w' := by
  obtain ⟨name, enum, ⟨fa, fn, fc⟩, ⟨ga, gn, gc⟩, ⟨ia, il, ic⟩⟩ := tv
  have hf := ht.fields.1
  have hg := ht.gone.1
  obtain ⟨hi, hts⟩ := ht.items
  simp only at hf hg hi
  subst hf hg hi
  obtain ⟨hn1, hn2, hn3⟩ := hn
  show Calls Tryd.prog 33 #[.agg #[.string name, .bool enum, .slice fa t.fields.length fc, .slice ga t.gone.length gc, .slice ia t.items.length ic]] w _
  by_cases h1 : 0 < t.fields.length
  · have e : goodEnumM t = false := by simp [goodEnumM, h1]
    rw [e]; clear e hts ht
    go_enter Tryd.func33, Tryd.ntmps33
    go_wp2
    go_ret
    exact ⟨rfl, (Ext.refl w).alloc _⟩
  by_cases h2 : 0 < t.gone.length
  · have e : goodEnumM t = false := by simp [goodEnumM, h2]
    rw [e]; clear e hts ht
    go_enter Tryd.func33, Tryd.ntmps33
    go_wp2
    go_ret
    exact ⟨rfl, (Ext.refl w).alloc _⟩
  by_cases h3 : t.items.length < 1
  · have e : goodEnumM t = false := by simp [goodEnumM, h3]
    rw [e]; clear e hts ht
    go_enter Tryd.func33, Tryd.ntmps33
    go_wp2
    go_ret
    exact ⟨rfl, (Ext.refl w).alloc _⟩
  by_cases h4 : 6 < t.items.length
  · have e : goodEnumM t = false := by simp [goodEnumM, h4]
    rw [e]; clear e hts ht
    go_enter Tryd.func33, Tryd.ntmps33
    go_wp2
    go_ret
    exact ⟨rfl, (Ext.refl w).alloc _⟩
  have E : Hid (goodEnumM t = (goodNamesL (t.items.map (·.name)) && risingL (t.items.map (·.n)) (-1099511627776) 1099511627776)) := by
    unfold Hid goodEnumM; rw [if_neg (by omega), if_neg (by omega)]
  clear ht
  go_enter Tryd.func33, Tryd.ntmps33
  go_wp2
  go_loopw [3, 4, 30] (fun vn vi i wr => ∃ k : Nat, k ≤ t.items.length ∧ i = .int .i64 k ∧ wr.ownsRow (w.heap.size + 1) 9 1 vn k (((t.items.map (·.name)).take k).flatMap encS) ∧ wr.ownsRow (w.heap.size + 1) 3 1 vi k (((t.items.map (·.n)).take k).flatMap encI) ∧ Ext (w.alloc (Obj.cells #[.string name, .bool enum, .slice fa t.fields.length fc, .slice ga t.gone.length gc, .slice ia t.items.length ic] 46)) wr) (fun vn vi i wr => t.items.length - (intOf i).toNat)
  case atStart => exact ⟨0, by omega, rfl, World.ownsRow_nil _ _ _ _, World.ownsRow_nil _ _ _ _, Ext.refl _⟩
  case round =>
    obtain ⟨k, hk, rfl, hon, hoi, hx⟩ := hrel
    have hE : Ext w wr := ((Ext.refl w).alloc _).trans hx
    have hzs : w.heap.size + 1 ≤ wr.heap.size := by have := hx.size; simp at this; omega
    by_cases hlt : k < t.items.length
    · obtain ⟨b, o, cs, rfl, hr, rfl⟩ := hts k t.items[k] (by simp [hlt])
      obtain ⟨c0, c1⟩ := range2 (hE.range hr)
      have hsk := hsz t.items[k] (List.getElem_mem hlt)
      clear hts hr hsz
      go_wp2_with (at_builtin; refine wpList_app1 _ _ 40 9 (.string ⟨#[]⟩) 1 16 Tryd.underlying40 info9 rfl (by decide) (by decide) rfl rfl (w.heap.size + 1) _ k _ rfl ((hon.alloc _).alloc _) (wr.heap.size + 1) 1 [.string t.items[k].name] rfl rfl ?c1 ?c2 ?c3 ?c4 ?_)
      case c1 => exact range_of_new1 _ _ _ (by simp)
      case c2 => intro u hu; simp at hu; subst hu; rfl
      case c3 => omega
      case c4 => simp; omega
      intro v1 w1 hon1 hg1
      have hon' := (hon.alloc (.cells #[.string t.items[k].name, .int .i64 t.items[k].n] 73)).alloc (.cells #[.string t.items[k].name] 9)
      have hoi' := (hoi.alloc (.cells #[.string t.items[k].name, .int .i64 t.items[k].n] 73)).alloc (.cells #[.string t.items[k].name] 9)
      have hoi1 := hoi'.kept hg1 (owns_apart hoi' hon' (by decide))
      have hx1 : Ext _ w1 := ((hx.alloc _).alloc _).owned hg1 hon' (by simp)
      have hc : w1.cell? ⟨wr.heap.size, 1, none⟩ = some (.int .i64 t.items[k].n) := hg1.cell (by simp) (by
        intro e
        have := (hon.lt _ e.symm).2
        simp at this)
      have hz1 : w.heap.size + 1 ≤ w1.heap.size := by have := hx1.size; simp at this; omega
      have Hon : Hid (w1.ownsRow (w.heap.size + 1) 9 1 v1 (k + 1) (((t.items.map (·.name)).take (k + 1)).flatMap encS)) := by
        unfold Hid
        rw [flat_take (by simpa using hlt)]
        simpa [encS] using hon1
      clear hon1 hon hoi hon' hoi' hg1 hx
      go_wp2_with (at_builtin; refine wpList_app1 _ _ 43 3 (.int .i64 0) 1 8 Tryd.underlying43 info3 rfl (by decide) (by decide) rfl rfl (w.heap.size + 1) _ k _ rfl (hoi1.alloc _) w1.heap.size 1 [.int .i64 t.items[k].n] rfl rfl ?c1 ?c2 ?c3 ?c4 ?_)
      case c1 => exact range_of_new1 _ _ _ (by simp)
      case c2 => intro u hu; simp at hu; subst hu; rfl
      case c3 => omega
      case c4 => simp; omega
      intro v2 w2 hoi2 hg2
      have hon2 := (Hon.out.alloc (.cells #[.int .i64 t.items[k].n] 3)).kept hg2 (owns_apart Hon.out hoi1 (by decide))
      have hx2 : Ext _ w2 := (hx1.alloc _).owned hg2 (hoi1.alloc _) (by simp)
      have Hoi : Hid (w2.ownsRow (w.heap.size + 1) 3 1 v2 (k + 1) (((t.items.map (·.n)).take (k + 1)).flatMap encI)) := by
        unfold Hid
        rw [flat_take (by simpa using hlt)]
        simpa [encI] using hoi2
      clear hoi2 hoi1 hg2
      go_wp2
      exact ⟨⟨k + 1, by omega, by go_num, hon2, Hoi.out, hx2⟩, by simp [intOf]; omega⟩
    · obtain rfl : k = t.items.length := by omega
      have e1 : (t.items.map (·.name)).take t.items.length = t.items.map (·.name) := by rw [List.take_of_length_le (by simp)]
      have e2 : (t.items.map (·.n)).take t.items.length = t.items.map (·.n) := by rw [List.take_of_length_le (by simp)]
      rw [e1] at hon
      rw [e2] at hoi
      obtain ⟨sn, rfl, hsn, hcn⟩ := strs_of_owns hon (by simp)
      obtain ⟨si, rfl, hsi⟩ := ints_of_owns hoi (by simp)
      have hwr := hw.ext hE
      clear hon hoi e1 e2 hts
      cases h5 : goodNamesL (t.items.map (·.name))
      · have H5 : Hid (goodNamesL (t.items.map (·.name)) = false) := h5
        clear h5
        go_wp2_with fail
        refine (goodNames_any sn _ wr hsn hwr (by simp; omega) hcn (fun x hx => ?_)).mono ?_
        · obtain ⟨y, hy, rfl⟩ := List.mem_map.1 hx
          have := hsz y hy
          omega
        rintro e w1 ⟨rfl, hx1⟩
        rw [H5.out]
        go_wp2
        go_ret
        exact ⟨ret_bool (E.out.trans (by rw [H5.out]; rfl)).symm, hE.trans hx1⟩
      · have H5 : Hid (goodNamesL (t.items.map (·.name)) = true) := h5
        clear h5
        go_wp2_with fail
        refine (goodNames_any sn _ wr hsn hwr (by simp; omega) hcn (fun x hx => ?_)).mono ?_
        · obtain ⟨y, hy, rfl⟩ := List.mem_map.1 hx
          have := hsz y hy
          omega
        rintro e w1 ⟨rfl, hx1⟩
        rw [H5.out]
        go_wp2_with fail
        refine (rising_any si _ _ _ w1 (hsi.ext hx1) (by simp; omega)).mono ?_
        rintro e w2 ⟨rfl, hx2⟩
        go_wp2
        go_ret
        exact ⟨ret_bool (E.out.trans (by rw [H5.out]; rfl)).symm, (hE.trans hx1).trans hx2⟩
end Go.Proofs.YtblkgaoafejefaaDoor
