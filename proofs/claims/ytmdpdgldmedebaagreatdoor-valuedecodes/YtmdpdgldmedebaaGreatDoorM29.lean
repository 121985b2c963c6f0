import Derived.Test.YtmdpdgldmedebaaGreatDoorM28
namespace Go.Proofs.YtmdpdgldmedebaaGreatDoor
set_option linter.unusedSimpArgs false
set_option linter.unusedVariables false
set_option linter.unusedSimpArgs false
set_option linter.unusedVariables false
open Go.RowKit

theorem contains_cons (b : UInt8) (l sub : List UInt8) : Lib.contains (b :: l) sub = (sub.isPrefixOf (b :: l) || Lib.contains l sub) := by
  have h := Lib.index_ge l sub
  unfold Lib.contains
  rw [Lib.index]
  cases hp : sub.isPrefixOf (b :: l)
  · by_cases h1 : Lib.index l sub = -1
    · rw [h1]; decide
    · have h2 : (Lib.index l sub == -1) = false := by rw [beq_eq_false_iff_ne]; exact h1
      simp only [Bool.false_eq_true, if_false, h2, Bool.false_or, decide_eq_decide]
      omega
  · simp
theorem contains_nil (c : UInt8) (l : List UInt8) : Lib.contains [] (c :: l) = false := by
  unfold Lib.contains; rw [Lib.index]; rfl

/-- Words, each with a blank behind, and one ahead of all. -/
def spaced (ws : List (List UInt8)) : List UInt8 := 32 :: ws.flatMap fun w => w ++ [32]
def NoBlank (l : List UInt8) : Prop := ∀ c ∈ l, c ≠ 32
theorem prefix_word : ∀ (l w rest : List UInt8), NoBlank l → NoBlank w → (l ++ [32]).isPrefixOf (w ++ 32 :: rest) = (l == w)
  | [], [], rest, _, _ => by simp
  | [], c :: w, rest, _, hw => by
    have := hw c (by simp)
    simp [List.isPrefixOf, this.symm]
  | d :: l, [], rest, hl, _ => by
    have := hl d (by simp)
    simp [List.isPrefixOf, this]
  | d :: l, c :: w, rest, hl, hw => by
    have ih := prefix_word l w rest (fun x hx => hl x (by simp [hx])) (fun x hx => hw x (by simp [hx]))
    simp only [List.cons_append, List.isPrefixOf, ih]
    rfl
theorem contains_past (t : List UInt8) (sub : List UInt8) : ∀ w : List UInt8, NoBlank w → Lib.contains (w ++ t) (32 :: sub) = Lib.contains t (32 :: sub)
  | [], _ => rfl
  | c :: w, hw => by
    have hc := hw c (by simp)
    rw [List.cons_append, contains_cons, contains_past t sub w (fun x hx => hw x (by simp [hx]))]
    simp [List.isPrefixOf, hc.symm]
theorem contains_spaced : ∀ (ws : List (List UInt8)) (l : List UInt8), (∀ w ∈ ws, NoBlank w) → NoBlank l → Lib.contains (spaced ws) (32 :: (l ++ [32])) = ws.contains l
  | [], l, _, _ => by
    unfold spaced
    rw [List.flatMap_nil, contains_cons, contains_nil]
    cases l <;> simp [List.isPrefixOf]
  | w :: ws, l, hws, hl => by
    have hw := hws w (by simp)
    have ih := contains_spaced ws l (fun x hx => hws x (by simp [hx])) hl
    have e : spaced (w :: ws) = 32 :: (w ++ spaced ws) := by unfold spaced; simp
    rw [e, contains_cons, contains_past _ _ w hw, ih]
    have hp : (32 :: (l ++ [32])).isPrefixOf (32 :: (w ++ spaced ws)) = (l == w) := by
      have := prefix_word l w (ws.flatMap fun w => w ++ [32]) hl hw
      simp only [List.isPrefixOf]
      unfold spaced
      rw [this]; simp
    rw [hp, List.contains_cons]
theorem letters_noBlank {l : List UInt8} (h : l.all letterB = true) : NoBlank l := fun c hc e => by
  have := List.all_eq_true.1 h c hc
  rw [e] at this
  exact absurd this (by decide)

/-- The table's variable is there. -/
def MaxAt (w : World) : Prop := ∃ m : Int, w.cell? ⟨1, 0, none⟩ = some (.int .i64 m)
theorem MaxAt.ext {w w' : World} (h : MaxAt w) (hx : Ext w w') : MaxAt w' := let ⟨m, h⟩ := h; ⟨m, hx.cell h⟩
theorem words_spaced : spaced wordsL = [32, 98, 111, 111, 108, 32, 101, 110, 117, 109, 32, 103, 111, 110, 101, 32, 105, 110, 116, 32, 109, 97, 110, 121, 32, 109, 97, 121, 98, 101, 32, 109, 101, 115, 115, 97, 103, 101, 32, 111, 110, 101, 32, 116, 101, 120, 116, 32] := by decide
theorem words_noBlank : ∀ w ∈ wordsL, NoBlank w := by unfold NoBlank; decide

set_option maxHeartbeats 1600000 in
set_option maxRecDepth 4000 in
theorem isName_any (s : ByteArray) (w : World) (hs : s.size ≤ 9223372036854775807) (hm : MaxAt w) :
    Calls Tryz.prog 47 #[.string s] w fun e w' => e = .returned (.bool (namedL s.toList)) ∧ Ext w w' := by
  have hsz := size_toList s
  cases h0 : s.toList.isEmpty
  · have hne : 1 ≤ s.size := by
      rw [← hsz]
      cases hh : s.toList with
      | nil => rw [hh] at h0; cases h0
      | cons c l => simp
    by_cases h12 : 12 < s.size
    · rw [namedL_short (.inr h12)]
      go_enter Tryz.func47, Tryz.ntmps47
      go_wp2
      go_ret
      exact ⟨rfl, Ext.refl _⟩
    · have Ht := hide (trim_any s w hs h0)
      have hN : Hid (namedL s.toList = (s.toList.all letterB && !wordsL.contains s.toList)) := by
        unfold Hid namedL
        rw [hsz]
        simp [hne, show s.size ≤ 12 by omega]
      cases ha : s.toList.all letterB
      · have hN2 : Hid (namedL s.toList = false) := by unfold Hid; rw [unhide hN, ha]; rfl
        rw [ha] at Ht
        go_enter Tryz.func47, Tryz.ntmps47
        go_wp2_with fail
        refine (unhide Ht).mono ?_
        rintro e w1 ⟨t, rfl, ht, hx1⟩
        go_wp2
        go_ret
        exact ⟨by rw [unhide hN2]; rfl, hx1⟩
      · have hN2 : Hid (namedL s.toList = !wordsL.contains s.toList) := by unfold Hid; rw [unhide hN, ha]; rfl
        have hC := hide (contains_spaced wordsL s.toList words_noBlank (letters_noBlank ha))
        rw [words_spaced] at hC
        rw [ha] at Ht
        have hs12 : s.size ≤ 12 := by omega
        go_enter Tryz.func47, Tryz.ntmps47
        go_wp2_with fail
        refine (unhide Ht).mono ?_
        rintro e w1 ⟨t, rfl, ht, hx1⟩
        obtain ⟨m, hm1⟩ := hm.ext hx1
        have h32 : (ByteArray.mk #[32]).size = 1 := rfl
        have hsa : (ByteArray.mk #[32] ++ s).size ≤ 13 := by rw [ByteArray.size_append]; omega
        go_wp2_with fail
        refine (Tryz.strings_Contains _ _ m w1 (by decide) hm1).mono ?_
        rintro e w2 ⟨rfl, rfl⟩
        have hd : (ByteArray.mk #[32] ++ s ++ ByteArray.mk #[32]).data.toList = 32 :: (s.toList ++ [32]) := by
          rw [ByteArray.data_append, ByteArray.data_append, Array.toList_append, Array.toList_append, bytes_toList]; rfl
        rw [hd, unhide hC]
        clear hd
        obtain ⟨wc, hwc⟩ : ∃ wc, wordsL.contains s.toList = wc := ⟨_, rfl⟩
        rw [hwc] at hN2 ⊢
        clear hwc
        go_wp2
        go_ret
        exact ⟨by rw [unhide hN2]; rfl, hx1⟩
  · rw [namedL_short (.inl (by rw [← hsz, List.isEmpty_iff.1 h0]; decide))]
    go_enter Tryz.func47, Tryz.ntmps47
    go_wp2
    go_ret
    exact ⟨rfl, Ext.refl _⟩
end Go.Proofs.YtmdpdgldmedebaaGreatDoor

namespace Go.Proofs.YtmdpdgldmedebaaGreatDoor
set_option linter.unusedSimpArgs false
set_option linter.unusedVariables false
open Go.RowKit

theorem named_noBlank {b : ByteArray} (h : namedL b.toList = true) : NoBlank b.toList := by
  unfold namedL at h
  simp only [Bool.and_eq_true] at h
  exact letters_noBlank h.1.2
theorem named_size {b : ByteArray} (h : namedL b.toList = true) : b.size ≤ 12 := by
  unfold namedL at h
  simp only [Bool.and_eq_true, decide_eq_true_eq] at h
  rw [← size_toList]; exact h.1.1.2
theorem toList_inj {a b : ByteArray} (h : a.toList = b.toList) : a = b := by
  rw [bytes_toList, bytes_toList] at h; exact bext h

/-- The first k names are names, each once, and stand in the text with blanks between. -/
structure NamesTo (l : List ByteArray) (k : Nat) (used : ByteArray) : Prop where
  text : used.data.toList = spaced ((l.take k).map (·.toList))
  ok : AllTo (nameOkAt l) k
theorem NamesTo.start (l : List ByteArray) : NamesTo l 0 ⟨#[32]⟩ := ⟨rfl, AllTo.zero _⟩
theorem NamesTo.named {l : List ByteArray} {k : Nat} {used : ByteArray} (h : NamesTo l k used) : ∀ x ∈ l.take k, namedL x.toList = true := fun x hx => by
  obtain ⟨i, hi, rfl⟩ := List.getElem_of_mem hx
  have hi' : i < k ∧ i < l.length := by simp at hi; omega
  have := h.ok i hi'.1
  unfold nameOkAt at this
  rw [Bool.and_eq_true] at this
  simpa [List.getD, hi'.2] using this.1
theorem NamesTo.size {l : List ByteArray} {k : Nat} {used : ByteArray} (h : NamesTo l k used) : used.size ≤ 1 + 13 * k := by
  have key : ∀ m : List ByteArray, (∀ x ∈ m, namedL x.toList = true) → (spaced (m.map (·.toList))).length ≤ 1 + 13 * m.length := by
    intro m
    induction m with
    | nil => intro _; decide
    | cons a m ih =>
      intro hm
      have h1 := ih fun x hx => hm x (by simp [hx])
      have h2 := named_size (hm a (by simp))
      unfold spaced at h1 ⊢
      simp only [List.map_cons, List.flatMap_cons, List.length_cons, List.length_append, List.length_nil, size_toList] at h1 ⊢
      omega
  have := key _ h.named
  rw [← h.text, blen] at this
  have h3 : (l.take k).length ≤ k := List.length_take_le _ _
  omega
theorem NamesTo.check {l : List ByteArray} {k : Nat} {used : ByteArray} (h : NamesTo l k used) {x : ByteArray} (hx : namedL x.toList = true) : Lib.contains used.data.toList (32 :: (x.toList ++ [32])) = Lib.containsS (l.take k) x := by
  rw [h.text, contains_spaced _ _ (fun w hw => by
    obtain ⟨y, hy, rfl⟩ := List.mem_map.1 hw
    exact named_noBlank (h.named y hy)) (named_noBlank hx)]
  rw [Bool.eq_iff_iff, Lib.containsS_iff, List.contains_iff_mem, List.mem_map]
  exact ⟨fun ⟨y, hy, e⟩ => toList_inj e ▸ hy, fun h => ⟨x, h, rfl⟩⟩
theorem nameOk_of {l : List ByteArray} {k : Nat} (hk : k < l.length) : nameOkAt l k = (namedL l[k].toList && !Lib.containsS (l.take k) l[k]) := by
  unfold nameOkAt
  simp [List.getD, hk]
theorem NamesTo.next {l : List ByteArray} {k : Nat} {used : ByteArray} (h : NamesTo l k used) (hk : k < l.length) (h1 : namedL l[k].toList = true) (h2 : Lib.containsS (l.take k) l[k] = false) : NamesTo l (k + 1) (used ++ (l[k] ++ ⟨#[32]⟩)) := by
  refine ⟨?_, h.ok.succ (by rw [nameOk_of hk, h1, h2]; rfl)⟩
  rw [ByteArray.data_append, ByteArray.data_append, Array.toList_append, Array.toList_append, h.text, List.take_succ_eq_append_getElem hk]
  unfold spaced
  rw [List.map_append, List.flatMap_append]
  simp only [List.map_cons, List.map_nil, List.flatMap_cons, List.flatMap_nil, List.append_nil, bytes_toList, List.cons_append]
theorem sp_data (x : ByteArray) : (ByteArray.mk #[32] ++ x ++ ByteArray.mk #[32]).data.toList = 32 :: (x.toList ++ [32]) := by
  rw [ByteArray.data_append, ByteArray.data_append, Array.toList_append, Array.toList_append, bytes_toList]; rfl

/-- The first k numbers rise. -/
def RiseTo (l : List Int) (lo hi : Int) (k : Nat) (before : Int) : Prop := AllTo (risesAt lo hi l) k ∧ (k = 0 → before = lo - 1) ∧ (0 < k → l.getD (k - 1) 0 = before ∧ lo ≤ before)
theorem RiseTo.start (l : List Int) (lo hi : Int) : RiseTo l lo hi 0 (lo - 1) := ⟨AllTo.zero _, fun _ => rfl, fun h => by omega⟩
theorem RiseTo.iff {l : List Int} {lo hi : Int} {k : Nat} {before : Int} (h : RiseTo l lo hi k before) (hk : k < l.length) : risesAt lo hi l k = true ↔ (before < l[k] ∧ l[k] ≤ hi) := by
  rw [risesAt_iff hk]
  by_cases h0 : k = 0
  · have := h.2.1 h0
    constructor
    · rintro ⟨a, b, _⟩; exact ⟨by omega, b⟩
    · rintro ⟨a, b⟩; exact ⟨by omega, b, .inl h0⟩
  · obtain ⟨h1, h2⟩ := h.2.2 (by omega)
    have e : l.getD (k - 1) 0 = l[k - 1] := by simp [List.getD, show k - 1 < l.length by omega]
    rw [e] at h1
    constructor
    · rintro ⟨a, b, c⟩; exact ⟨by omega, b⟩
    · rintro ⟨a, b⟩; exact ⟨by omega, b, .inr (by omega)⟩
theorem RiseTo.next {l : List Int} {lo hi : Int} {k : Nat} {before : Int} (h : RiseTo l lo hi k before) (hk : k < l.length) (h1 : before < l[k]) (h2 : l[k] ≤ hi) : RiseTo l lo hi (k + 1) l[k] := by
  have hr := (h.iff hk).2 ⟨h1, h2⟩
  refine ⟨h.1.succ hr, fun h => by omega, fun _ => ⟨by simp [List.getD, hk], ?_⟩⟩
  exact ((risesAt_iff hk).1 hr).1
theorem all_range_of {p : Nat → Bool} {n : Nat} (h : AllTo p n) : (List.range n).all p = true := by
  rw [List.all_eq_true]
  exact fun k hk => h k (List.mem_range.1 hk)
end Go.Proofs.YtmdpdgldmedebaaGreatDoor

namespace Go.Proofs.YtmdpdgldmedebaaGreatDoor
set_option linter.unusedSimpArgs false
set_option linter.unusedVariables false
open Go.RowKit

theorem enum_no {t : TypeM} {k : Nat} (hk : k < t.items.length) (h : nameOkAt (t.items.map (·.name)) k = false ∨ risesAt (-1099511627776) 1099511627776 (t.items.map (·.n)) k = false) : goodEnumM t = false := by
  unfold goodEnumM
  split
  · rfl
  · split
    · rfl
    · rcases h with h | h
      · unfold goodNamesL
        rw [not_all_range (by simpa using hk) h]; rfl
      · unfold risingL
        rw [not_all_range (n := (t.items.map (·.n)).length) (by simpa using hk) h]
        simp
theorem enum_end {t : TypeM} {used : ByteArray} {before : Int} (h1 : NamesTo (t.items.map (·.name)) t.items.length used) (h2 : RiseTo (t.items.map (·.n)) (-1099511627776) 1099511627776 t.items.length before) :
    goodEnumM t = (decide (0 < t.items.length) && decide (t.items.length < 7) && decide (t.fields.length = 0) && decide (t.gone.length = 0)) := by
  have e1 : goodNamesL (t.items.map (·.name)) = true := h1.ok.all (by simp)
  have e2 : risingL (t.items.map (·.n)) (-1099511627776) 1099511627776 = true := h2.1.all (by simp)
  unfold goodEnumM
  rw [e1, e2]
  by_cases h3 : 0 < t.fields.length ∨ 0 < t.gone.length
  · rw [if_pos h3]
    symm
    rcases h3 with h3 | h3
    · rw [show decide (t.fields.length = 0) = false by rw [decide_eq_false_iff_not]; omega]; simp
    · rw [show decide (t.gone.length = 0) = false by rw [decide_eq_false_iff_not]; omega]; simp
  · rw [if_neg h3, show decide (t.fields.length = 0) = true by rw [decide_eq_true_eq]; omega, show decide (t.gone.length = 0) = true by rw [decide_eq_true_eq]; omega]
    by_cases h4 : t.items.length < 1 ∨ 6 < t.items.length
    · rw [if_pos h4]
      symm
      rcases h4 with h4 | h4
      · rw [show decide (0 < t.items.length) = false by rw [decide_eq_false_iff_not]; omega]; rfl
      · rw [show decide (t.items.length < 7) = false by rw [decide_eq_false_iff_not]; omega]; simp
    · rw [if_neg h4, show decide (0 < t.items.length) = true by rw [decide_eq_true_eq]; omega, show decide (t.items.length < 7) = true by rw [decide_eq_true_eq]; omega]
      rfl

set_option maxHeartbeats 6400000 in
set_option maxRecDepth 4000 in
theorem goodTypeR_enum (s : SV) (tv : TV) (t : TypeM) (w : World) (ht : TypeAt w tv t) (he : t.enum = true) (hn : t.Small) (hm : MaxAt w) :
    Calls Tryz.prog 48 #[.agg #[.slice s.a s.len s.cap], .agg #[.string tv.name, .bool tv.enum, .slice tv.fields.a tv.fields.len tv.fields.cap, .slice tv.gone.a tv.gone.len tv.gone.cap, .slice tv.items.a tv.items.len tv.items.cap]] w fun e w' => e = .returned (.bool (goodEnumM t)) ∧ Ext w w' := by
  obtain ⟨name, enum, ⟨fa, fn, fc⟩, ⟨ga, gn, gc⟩, ⟨ia, il, ic⟩⟩ := tv
  have hen := ht.enum
  have hf := ht.fields.1
  have hg := ht.gone.1
  obtain ⟨hi, hts⟩ := ht.items
  simp only at hen hf hg hi hts
  subst hf hg hi
  rw [he] at hen
  subst hen
  have hn1 := hn.fields
  have hn2 := hn.gone
  have hn3 := hn.items
  have Hnm := hide hn.iname
  clear ht he hn
  show Calls Tryz.prog 48 #[.agg #[.slice s.a s.len s.cap], .agg #[.string name, .bool true, .slice fa t.fields.length fc, .slice ga t.gone.length gc, .slice ia t.items.length ic]] w _
  have hx0 : Ext w ((w.alloc (.cells #[.slice s.a s.len s.cap] 24)).alloc (.cells #[.string name, .bool true, .slice fa t.fields.length fc, .slice ga t.gone.length gc, .slice ia t.items.length ic] 50)) := ((Ext.refl w).alloc _).alloc _
  have hA := heap_alloc2_new w (.cells #[.slice s.a s.len s.cap] 24) (.cells #[.string name, .bool true, .slice fa t.fields.length fc, .slice ga t.gone.length gc, .slice ia t.items.length ic] 50)
  have Hts := hide hts
  clear hts
  go_enter Tryz.func48, Tryz.ntmps48
  go_wp2
  go_loopw [5, 6, 22] (fun u b i wr => ∃ (k : Nat) (used : ByteArray) (before : Int), k ≤ t.items.length ∧ i = .int .i64 k ∧ u = .string used ∧ b = .int .i64 before ∧ NamesTo (t.items.map (·.name)) k used ∧ RiseTo (t.items.map (·.n)) (-1099511627776) 1099511627776 k before ∧ Ext w wr ∧ wr.heap[w.heap.size + 1]? = some (.cells #[.string name, .bool true, .slice fa t.fields.length fc, .slice ga t.gone.length gc, .slice ia t.items.length ic] 50 (0, 0))) (fun _ _ i _ => t.items.length - (intOf i).toNat)
  case atStart => exact ⟨0, ⟨#[32]⟩, -1099511627777, by omega, rfl, rfl, rfl, NamesTo.start _, RiseTo.start _ _ _, hx0, hA⟩
  case round =>
    obtain ⟨k, used, before, hk, rfl, rfl, rfl, hN, hR, hx, hB⟩ := hrel
    obtain ⟨q0, q1, q2, q3, q4, _⟩ := row5 hB
    have hus := hN.size
    by_cases hlt : k < t.items.length
    · obtain ⟨b, o, cs, rfl, hr, hcs⟩ := unhide Hts k t.items[k] (by simp [hlt])
      have hns := unhide Hnm t.items[k] (List.getElem_mem hlt)
      have hklen : k < (t.items.map (·.name)).length := by simpa using hlt
      have hkl2 : k < (t.items.map (·.n)).length := by simpa using hlt
      have en : (t.items.map (·.name))[k] = t.items[k].name := by simp
      have em : (t.items.map (·.n))[k] = t.items[k].n := by simp
      have Hok := hide (nameOk_of hklen)
      have Hiff := hide (hR.iff hkl2)
      have Hnext := fun h1 h2 => hide (hN.next hklen h1 h2)
      have Hrn := fun h1 h2 => hide (hR.next hkl2 h1 h2)
      have Hchk := fun (hc : namedL t.items[k].name.toList = true) => hide (hN.check hc)
      rw [en] at Hok Hnext
      rw [em] at Hiff Hrn
      clear en em
      obtain ⟨f, hf⟩ : ∃ f, t.items[k] = f := ⟨_, rfl⟩
      rw [hf] at hcs hns Hok Hiff Hnext Hrn Hchk
      subst hcs
      clear hf
      obtain ⟨h0, h1⟩ := range2 (hx.range hr)
      have hxB : Ext wr (wr.alloc (.cells [.string f.name, .int .i64 f.n].toArray 71)) := (Ext.refl wr).alloc _
      have hB0 := heap_alloc_new wr (.cells #[.string f.name, .int .i64 f.n] 71)
      have Hin := fun w hm => hide (isName_any f.name w (by omega) hm)
      obtain ⟨nm, hnm⟩ : ∃ nm, namedL f.name.toList = nm := ⟨_, rfl⟩
      rw [hnm] at Hin Hok Hnext
      go_wp2_with fail
      refine (unhide (Hin _ (hm.ext (hx.trans hxB)))).mono ?_
      rintro e w1 ⟨rfl, hx1⟩
      have hx01 := (hx.trans hxB).trans hx1
      have hB1 := hx1.heap hB0
      cases nm
      · have e : Hid (goodEnumM t = false) := enum_no hlt (.inl (by rw [unhide Hok]; rfl))
        go_wp2
        go_ret
        exact ⟨by rw [unhide e]; rfl, hx01⟩
      · have Hc := Hchk hnm
        obtain ⟨m, hm1⟩ := hm.ext hx01
        obtain ⟨d0, d1, _⟩ := (show w1.cell? ⟨wr.heap.size, 0, none⟩ = some (.string f.name) ∧ w1.cell? ⟨wr.heap.size, 1, none⟩ = some (.int .i64 f.n) ∧ True from ⟨cell_of_row _ _ 0 _ _ _ hB1, cell_of_row _ _ 1 _ _ _ hB1, trivial⟩)
        have h32 : (ByteArray.mk #[32]).size = 1 := rfl
        have hz12 := named_size hnm
        have hsa : (ByteArray.mk #[32] ++ f.name).size ≤ 13 := by rw [ByteArray.size_append]; omega
        clear hnm Hin Hchk
        obtain ⟨ct, hct⟩ : ∃ ct, Lib.containsS ((t.items.map (·.name)).take k) f.name = ct := ⟨_, rfl⟩
        rw [hct] at Hc Hok Hnext
        have HnH : Hid (ct = false → NamesTo (t.items.map (·.name)) (k + 1) (used ++ (f.name ++ ⟨#[32]⟩))) := fun h => unhide (Hnext rfl h)
        have HrH : Hid (before < f.n → f.n ≤ 1099511627776 → RiseTo (t.items.map (·.n)) (-1099511627776) 1099511627776 (k + 1) f.n) := fun h1 h2 => unhide (Hrn h1 h2)
        clear hct Hnext Hrn
        go_wp2_with fail
        refine (Tryz.strings_Contains _ _ m w1 (by omega) hm1).mono ?_
        rintro e w2 ⟨rfl, rfl⟩
        rw [sp_data, unhide Hc]
        cases ct
        · by_cases hb1 : before < f.n
          · by_cases hb2 : f.n ≤ 1099511627776
            · have hus2 : (f.name ++ ByteArray.mk #[32]).size ≤ 13 := by rw [ByteArray.size_append]; omega
              have hN2 := hide (unhide HnH rfl)
              have hR2 := hide (unhide HrH hb1 hb2)
              have hB2 := hx1.heap (hxB.heap hB)
              go_wp2
              go_roundw
              case rel => exact ⟨k + 1, _, f.n, by omega, by go_num, rfl, rfl, unhide hN2, unhide hR2, hx01, hB2⟩
              case measure => simp [intOf]; omega
            · have e : Hid (goodEnumM t = false) := enum_no hlt (.inr (by
                cases hh : risesAt (-1099511627776) 1099511627776 (t.items.map (·.n)) k
                · rfl
                · exact absurd ((unhide Hiff).1 hh).2 hb2))
              go_wp2
              go_ret
              exact ⟨by rw [unhide e]; rfl, hx01⟩
          · have e : Hid (goodEnumM t = false) := enum_no hlt (.inr (by
              cases hh : risesAt (-1099511627776) 1099511627776 (t.items.map (·.n)) k
              · rfl
              · exact absurd ((unhide Hiff).1 hh).1 hb1))
            go_wp2
            go_ret
            exact ⟨by rw [unhide e]; rfl, hx01⟩
        · have e : Hid (goodEnumM t = false) := enum_no hlt (.inl (by rw [unhide Hok]; rfl))
          go_wp2
          go_ret
          exact ⟨by rw [unhide e]; rfl, hx01⟩
    · have ek : k = t.items.length := by omega
      subst ek
      have E := hide (enum_end hN hR)
      by_cases c1 : 0 < t.items.length
      · by_cases c2 : t.items.length < 7
        · by_cases c3 : t.fields.length = 0
          · have E2 : Hid (goodEnumM t = decide (t.gone.length = 0)) := by unfold Hid; rw [unhide E]; simp [c1, c2, c3]
            clear E
            by_cases c4 : t.gone.length = 0
            · have E3 : Hid (goodEnumM t = true) := by unfold Hid; rw [unhide E2]; simp [c4]
              clear E2
              go_wp2
              go_ret
              exact ⟨by rw [unhide E3]; rfl, hx⟩
            · have E3 : Hid (goodEnumM t = false) := by unfold Hid; rw [unhide E2]; simp [c4]
              have c5 : ((t.gone.length : Int) == 0) = false := by rw [beq_eq_false_iff_ne]; omega
              clear E2
              go_wp2
              go_ret
              exact ⟨by rw [unhide E3]; rfl, hx⟩
          · have E3 : Hid (goodEnumM t = false) := by unfold Hid; rw [unhide E]; simp [c3]
            have c5 : ((t.fields.length : Int) == 0) = false := by rw [beq_eq_false_iff_ne]; omega
            clear E
            go_wp2
            go_ret
            exact ⟨by rw [unhide E3]; rfl, hx⟩
        · have E3 : Hid (goodEnumM t = false) := by unfold Hid; rw [unhide E]; simp [c2]
          clear E
          go_wp2
          go_ret
          exact ⟨by rw [unhide E3]; rfl, hx⟩
      · have E3 : Hid (goodEnumM t = false) := by unfold Hid; rw [unhide E]; simp [c1]
        clear E
        go_wp2
        go_ret
        exact ⟨by rw [unhide E3]; rfl, hx⟩
end Go.Proofs.YtmdpdgldmedebaaGreatDoor

