import Derived.Test.YtmghhakebhgckaaGreatDoorG4
import Derived.Shelf.GgSortFunc.InsertionK
import Derived.Shelf.GgSortFunc.Insertion
import Derived.Test.YtmghhakebhgckaaGreatDoorShelf
import Derived.Laws.Cover1
import Derived.Shelf.SlSortCmp.WholeK
import Derived.Shelf.SlSortCmp.NoneTotal
import Derived.Ground.SlsfProg
import Derived.Sort.Walk0
namespace Go.Proofs.YtmghhakebhgckaaGreatDoor
set_option linter.unusedSimpArgs false
set_option linter.unusedVariables false
set_option linter.unusedSimpArgs false
set_option linter.unusedVariables false
open Go.RowKit Go.Sort Go.Shelf

/-! A row of the call's own, sorted in place. -/
theorem size_putCells (off : Nat) (F c : Array Value) : (putCells id off F c).size = c.size := by simp [putCells]
theorem take_putCells (F c : Array Value) (h : F.size ≤ c.size) : (putCells id 0 F c).toList.take F.size = F.toList := by
  apply List.ext_getElem
  · simp [putCells, h]
  · intro i h1 h2
    have hi : i < F.size := by simpa using h2
    simp [putCells, hi]
theorem heap_putRow (w : World) (g m : Nat) (F cur : Array Value) (e : TypeId) (os : Array Obj) (hg : w.heap[g]? = some (.cells cur e (0, 0))) :
    (grow (putRow id (Sort.ahead w m) g 0 F) os).heap[g]? = some (.cells (putCells id 0 F cur) e (0, 0)) := by
  have hlt := lt_of_heap hg
  simp only [grow, putRow, mapBlock, Sort.heap_ahead]
  rw [Array.getElem?_append_left (by simpa using hlt), Array.getElem?_modify, if_pos rfl, hg]
  rfl
theorem grown_putRow (w : World) (g m : Nat) (F : Array Value) (os : Array Obj) : w.grownBy (grow (putRow id (Sort.ahead w m) g 0 F) os) (some g) := by
  refine ⟨rfl, rfl, rfl, by simp [grow, putRow, mapBlock], fun i hi hn => ?_⟩
  simp only [grow, putRow, mapBlock, Sort.heap_ahead]
  rw [Array.getElem?_append_left (by simpa using hi), Array.getElem?_modify, if_neg (fun e => hn (by rw [e]))]
theorem owns_putRow {w : World} {base : Nat} {e : TypeId} {k n g cap : Nat} {xs : List Value} (h : w.ownsRow base e k (.slice (some ⟨g, 0, none⟩) n cap) n xs) (m : Nat) (F : Array Value) (hF : F.size = n * k) (os : Array Obj) :
    (grow (putRow id (Sort.ahead w m) g 0 F) os).ownsRow base e k (.slice (some ⟨g, 0, none⟩) n cap) n F.toList := by
  refine ⟨by simpa using hF, ?_⟩
  rcases h.2 with ⟨e, _⟩ | ⟨g', cap', cur, ev, hb, hg, hc, hm, hs, ht⟩
  · cases e
  · simp only [Value.slice.injEq, Option.some.injEq, Addr.mk.injEq] at ev
    obtain ⟨⟨e1, _⟩, _, e2⟩ := ev
    subst e1 e2
    have hle : F.size ≤ cur.size := by rw [hF, hs]; exact Nat.mul_le_mul_right k hc
    exact .inr ⟨g, cap, putCells id 0 F cur, rfl, hb, heap_putRow w g m F cur e os hg, hc, hm, by rw [size_putCells, hs], by rw [← hF, take_putCells F cur hle]⟩

theorem flat_get {α : Type} {k : Nat} (enc : α → List Value) (hk : ∀ x, (enc x).length = k) : ∀ (l : List α) (i j : Nat) (x : α), l[i]? = some x → j < k → (l.flatMap enc)[i * k + j]? = (enc x)[j]?
  | [], i, j, x, hx, hj => by simp at hx
  | y :: l, 0, j, x, hx, hj => by
    simp only [List.getElem?_cons_zero, Option.some.injEq] at hx
    subst hx
    rw [List.flatMap_cons, Nat.zero_mul, Nat.zero_add, List.getElem?_append_left (by rw [hk]; exact hj)]
  | y :: l, i + 1, j, x, hx, hj => by
    rw [List.flatMap_cons, List.getElem?_append_right (by rw [hk, Nat.add_mul]; omega), hk, show (i + 1) * k + j - k = i * k + j by rw [Nat.add_mul]; omega]
    exact flat_get enc hk l i j x (by simpa using hx) hj
theorem flat_len {α : Type} {k : Nat} (enc : α → List Value) (hk : ∀ x, (enc x).length = k) (l : List α) : (l.flatMap enc).length = l.length * k := by
  induction l with
  | nil => simp
  | cons x l ih => rw [List.flatMap_cons, List.length_append, ih, hk, List.length_cons, Nat.add_mul]; omega
theorem flatK_list {α : Type} [Inhabited α] {k : Nat} (enc : α → List Value) (hk : ∀ x, (enc x).length = k) (d : Array α) : (flatK enc k d).toList = d.toList.flatMap enc := by
  apply List.ext_getElem?
  intro t
  by_cases ht : t < d.size * k
  · have k0 : 0 < k := by rcases Nat.eq_zero_or_pos k with h | h; · subst h; simp at ht
                          · exact h
    have h1 : t / k < d.size := (Nat.div_lt_iff_lt_mul k0).2 ht
    have h2 : t % k < k := Nat.mod_lt _ k0
    have h3 := flat_get enc hk d.toList (t / k) (t % k) (d[t / k]) (by simp [h1]) h2
    rw [show t / k * k + t % k = t by rw [Nat.mul_comm]; exact Nat.div_add_mod t k] at h3
    rw [h3]
    have h4 := get_flatK enc k d t ht
    rw [getElem!_pos d (t / k) h1] at h4
    rw [getElem!_pos (flatK enc k d) t (by simpa using ht)] at h4
    have h5 : t % k < (enc d[t / k]).length := by rw [hk]; exact h2
    rw [getElem!_pos (enc d[t / k]) (t % k) h5] at h4
    simp only [Array.getElem?_toList]
    rw [Array.getElem?_eq_getElem (by simpa using ht), h4, List.getElem?_eq_getElem h5]
  · rw [List.getElem?_eq_none (by simpa using ht), List.getElem?_eq_none (by rw [flat_len enc hk]; simpa using ht)]

theorem holds_of_owns {w : World} {base : Nat} {e : TypeId} {k n g cap : Nat} (F : Array Value) (h : w.ownsRow base e k (.slice (some ⟨g, 0, none⟩) n cap) n F.toList) : Holds id w g 0 F := by
  rcases h.2 with ⟨e, _⟩ | ⟨g', cap', cur, ev, hb, hg, hc, hm, hs, ht⟩
  · cases e
  · simp only [Value.slice.injEq, Option.some.injEq, Addr.mk.injEq] at ev
    obtain ⟨⟨e1, _⟩, _, e2⟩ := ev
    subst e1 e2
    intro j hj
    have hl := h.1
    simp only [Array.length_toList] at hl
    refine ⟨?_, frozen_of_row w g _ cur e hg⟩
    rw [cell_of_row w g _ cur e _ hg, Nat.zero_add]
    have : F.toList[j]? = some F[j] := by simp [hj]
    rw [← ht, List.getElem?_take, if_pos (by omega)] at this
    rw [getElem!_pos F j hj]
    simpa using this

/-- What a sort makes of a row of the call's own: what it holds then, and that nothing else has turned. -/
theorem sortedK_own {α : Type} [Inhabited α] {w : World} {base : Nat} {e : TypeId} {k : Nat} {v : Value} {l : List α} (enc : α → List Value) (hk : ∀ x, (enc x).length = k) (h : w.ownsRow base e k v l.length (l.flatMap enc)) (hne : l ≠ []) :
    ∃ g cap, v = .slice (some ⟨g, 0, none⟩) l.length cap ∧ g < w.heap.size ∧ HoldsK enc k w g 0 l.toArray ∧
      ∀ (d' : Array α) (m : Nat) (os : Array Obj), d'.size = l.length → (sortWorldK enc k w g 0 m d' os).ownsRow base e k v l.length (d'.toList.flatMap enc) ∧ w.grownBy (sortWorldK enc k w g 0 m d' os) (some g) := by
  have h' := h
  rcases h.2 with ⟨_, h0⟩ | ⟨g, cap, cur, rfl, hb, hg, hc, hm, hs, ht⟩
  · exact absurd (List.length_eq_zero_iff.1 h0) hne
  · refine ⟨g, cap, rfl, lt_of_heap hg, ?_, fun d' m os hd => ⟨?_, grown_putRow w g m _ os⟩⟩
    · refine holds_of_owns (e := e) (k := k) (base := base) (n := l.length) (cap := cap) _ ?_
      rw [flatK_list enc hk]; exact h'
    · have := owns_putRow h' m (flatK enc k d') (by rw [size_flatK, hd]) os
      rw [flatK_list enc hk] at this
      exact this
theorem sortWorld_id {α : Type} [Inhabited α] (enc : α → Value) (w : World) (g m : Nat) (d : Array α) (os : Array Obj) : sortWorld enc w g 0 m d os = grow (putRow id (Sort.ahead w m) g 0 (d.map enc)) os := by
  unfold sortWorld putRow
  congr 2
  funext c
  unfold putCells
  congr 1
  funext i x
  by_cases h : i < d.size
  · rw [if_pos ⟨Nat.zero_le _, by omega⟩, if_pos ⟨Nat.zero_le _, by rw [Array.size_map]; omega⟩, Nat.sub_zero, getElem!_pos d i h, getElem!_pos (d.map enc) i (by simpa using h)]
    simp
  · rw [if_neg (by omega), if_neg (by rw [Array.size_map]; omega)]
theorem sorted1_own {α : Type} [Inhabited α] {w : World} {base : Nat} {e : TypeId} {v : Value} {l : List α} (enc : α → Value) (h : w.ownsRow base e 1 v l.length (l.flatMap fun x => [enc x])) (hne : l ≠ []) :
    ∃ g cap, v = .slice (some ⟨g, 0, none⟩) l.length cap ∧ g < w.heap.size ∧ Holds enc w g 0 l.toArray ∧
      ∀ (d' : Array α) (m : Nat) (os : Array Obj), d'.size = l.length → (sortWorld enc w g 0 m d' os).ownsRow base e 1 v l.length (d'.toList.flatMap fun x => [enc x]) ∧ w.grownBy (sortWorld enc w g 0 m d' os) (some g) := by
  have hm' : ∀ l : List α, (l.flatMap fun x => [enc x]) = (l.toArray.map enc).toList := fun l => by
    simp [List.flatMap_def]
    induction l with
    | nil => rfl
    | cons x l ih => simp [ih]
  have h' := h
  rcases h.2 with ⟨_, h0⟩ | ⟨g, cap, cur, rfl, hb, hg, hc, hm, hs, ht⟩
  · exact absurd (List.length_eq_zero_iff.1 h0) hne
  · refine ⟨g, cap, rfl, lt_of_heap hg, ?_, fun d' m os hd => ?_⟩
    · have := holds_of_owns (e := e) (k := 1) (base := base) (n := l.length) (cap := cap) (g := g) (w := w) (l.toArray.map enc) (by rw [← hm' l]; exact h')
      intro j hj
      have h2 := this j (by simpa using hj)
      rw [getElem!_pos (l.toArray.map enc) j (by simpa using hj)] at h2
      rw [getElem!_pos l.toArray j hj]
      simpa using h2
    · rw [sortWorld_id]
      refine ⟨?_, grown_putRow w g m _ os⟩
      have := owns_putRow h' m (d'.map enc) (by simp [hd]) os
      rw [hm' d'.toList]
      simpa using this
end Go.Proofs.YtmghhakebhgckaaGreatDoor

namespace Go.Proofs.YtmghhakebhgckaaGreatDoor
set_option linter.unusedSimpArgs false
set_option linter.unusedVariables false
open Go.RowKit

/-- The kind of a name of a book: none, an enum's, a message's. -/
def kindO : Option TypeM → Int
  | none => 0
  | some t => if t.enum then 4 else 5
def kindM (ts : BookM) (name : ByteArray) : Int := kindO (findM ts name)

set_option maxHeartbeats 800000 in
theorem kindOfType_any (s : SV) (ts : BookM) (name : ByteArray) (w : World) (hs : BookAt w s ts) (hn : ts.length ≤ 1048576) :
    Calls Tryz.prog 79 #[.agg #[.slice s.a s.len s.cap], .string name] w fun e w' => e = .returned (.int .i64 (kindM ts name)) ∧ Ext w w' := by
  have hx0 : Ext w (w.alloc (.cells #[.slice s.a s.len s.cap] 24)) := (Ext.refl w).alloc _
  go_enter Tryz.func79, Tryz.ntmps79
  go_wp2_with fail
  refine (lookUp_any s ts name _ (hs.ext hx0) (by omega)).mono ?_
  rintro e w1 ⟨tv, rfl, htv, hx1⟩
  have hE1 : Ext w w1 := hx0.trans hx1
  cases hf : findM ts name with
  | none =>
    have E : Hid (kindM ts name = 0) := by simp [Hid, kindM, kindO, hf]
    clear htv
    simp only [Option.isSome_none]
    go_wp2
    go_ret
    exact ⟨ret_int E.out.symm, hE1.alloc _⟩
  | some t =>
    rw [hf] at htv
    simp only [Option.getD_some] at htv
    simp only [Option.isSome_some]
    have een := htv.enum
    clear htv
    obtain ⟨nm, en, sf, sg, si⟩ := tv
    simp only at een
    subst een
    cases he : t.enum
    · have E : Hid (kindM ts name = 5) := by simp [Hid, kindM, kindO, hf, he]
      go_wp2
      go_ret
      exact ⟨ret_int E.out.symm, hE1.alloc _⟩
    · have E : Hid (kindM ts name = 4) := by simp [Hid, kindM, kindO, hf, he]
      go_wp2
      go_ret
      exact ⟨ret_int E.out.symm, hE1.alloc _⟩

theorem rows_type {w : World} {base : Nat} {tv : TV} {t : TypeM} (h : TyRows w base tv t) : TypeAt w tv t := by
  obtain ⟨sf, e1, hf⟩ := sliceAt_of_owns FieldM.cells (fun _ => rfl) h.fields rfl
  obtain ⟨sg, e2, hg⟩ := sliceAt_of_owns encI (fun _ => rfl) h.gone rfl
  obtain ⟨si, e3, hi⟩ := sliceAt_of_owns ItemM.cells (fun _ => rfl) h.items rfl
  obtain ⟨nm, en, ⟨fa, fl, fc⟩, ⟨ga, gl, gc⟩, ⟨ia, il, ic⟩⟩ := tv
  obtain ⟨fa', fl', fc'⟩ := sf
  obtain ⟨ga', gl', gc'⟩ := sg
  obtain ⟨ia', il', ic'⟩ := si
  simp only [Value.slice.injEq] at e1 e2 e3
  obtain ⟨rfl, rfl, rfl⟩ := e1
  obtain ⟨rfl, rfl, rfl⟩ := e2
  obtain ⟨rfl, rfl, rfl⟩ := e3
  exact ⟨h.name, h.enum, hf, hg, hi, ok_of_owns h.fields, ok_of_owns h.gone, ok_of_owns h.items⟩
theorem bk_outer {w : World} {base : Nat} {s : SV} {tvs : List TV} {ts : List TypeM} (h : BkOwn w base s tvs ts) : SliceAt 5 (fun _ cs tv => cs = tv.cells) w s tvs := by
  obtain ⟨sf, e1, hf⟩ := sliceAt_of_owns TV.cells (fun _ => rfl) h.outer rfl
  obtain ⟨a, l, c⟩ := s
  obtain ⟨fa', fl', fc'⟩ := sf
  simp only [Value.slice.injEq] at e1
  obtain ⟨rfl, rfl, rfl⟩ := e1
  exact hf
theorem bk_get {tvs : List TV} {ts : List TypeM} (hl : tvs.length = ts.length) {i : Nat} {t : TypeM} (h : ts[i]? = some t) : ∃ tv, tvs[i]? = some tv := by
  have := (List.getElem?_eq_some_iff.1 h).1
  exact ⟨tvs[i]'(by omega), List.getElem?_eq_getElem _⟩
theorem bk_book {w : World} {base : Nat} {s : SV} {tvs : List TV} {ts : List TypeM} (h : BkOwn w base s tvs ts) : BookAt w s ts := by
  obtain ⟨hl, ho⟩ := bk_outer h
  refine ⟨by rw [hl, h.len], fun i t ht => ?_⟩
  obtain ⟨tv, htv⟩ := bk_get h.len ht
  obtain ⟨b, o, cs, h1, h2, h3⟩ := ho i tv htv
  exact ⟨b, o, cs, h1, h2, tv, h3, rows_type (h.inner i tv t htv ht)⟩

theorem owns_set {w : World} {base : Nat} {e : TypeId} {k n g cap o : Nat} {xs : List Value} (h : w.ownsRow base e k (.slice (some ⟨g, 0, none⟩) n cap) n xs) (ho : o < n * k) (u : Value) :
    (w.setCell ⟨g, o, none⟩ u).ownsRow base e k (.slice (some ⟨g, 0, none⟩) n cap) n (xs.set o u) := by
  refine ⟨by rw [List.length_set]; exact h.1, ?_⟩
  rcases h.2 with ⟨e, _⟩ | ⟨g', cap', cur, ev, hb, hg, hc, hm, hs, ht⟩
  · cases e
  · simp only [Value.slice.injEq, Option.some.injEq, Addr.mk.injEq] at ev
    obtain ⟨⟨e1, _⟩, _, e2⟩ := ev
    subst e1 e2
    refine .inr ⟨g, cap, cur.setIfInBounds o u, rfl, hb, heap_setCell_same w g o _ e _ hg, hc, hm, by simpa using hs, ?_⟩
    rw [← ht, Array.toList_setIfInBounds, List.take_set]
theorem flat_set {α : Type} {k : Nat} (enc : α → List Value) (hk : ∀ x, (enc x).length = k) (u : Value) (j : Nat) (hj : j < k) : ∀ (l : List α) (i : Nat) (x x' : α), l[i]? = some x → enc x' = (enc x).set j u → (l.flatMap enc).set (i * k + j) u = (l.set i x').flatMap enc
  | [], i, x, x', hx, _ => by simp at hx
  | y :: l, 0, x, x', hx, he => by
    simp only [List.getElem?_cons_zero, Option.some.injEq] at hx
    subst hx
    rw [List.flatMap_cons, Nat.zero_mul, Nat.zero_add, List.set_append_left _ _ (by rw [hk]; exact hj), List.set_cons_zero, List.flatMap_cons, he]
  | y :: l, i + 1, x, x', hx, he => by
    rw [List.flatMap_cons, List.set_append_right _ _ (by rw [hk, Nat.add_mul]; omega), hk, show (i + 1) * k + j - k = i * k + j by rw [Nat.add_mul]; omega, flat_set enc hk u j hj l i x x' (by simpa using hx) he, List.set_cons_succ, List.flatMap_cons]

/-- One field's kind is written: the book has it, and nothing else has turned. -/
theorem bk_setKind {w : World} {base : Nat} {s : SV} {tvs : List TV} {ts : List TypeM} {i j : Nat} {tv : TV} {t : TypeM} {f : FieldM} (h : BkOwn w base s tvs ts) (hi : tvs[i]? = some tv) (hti : ts[i]? = some t) (hj : t.fields[j]? = some f) (kd : Int) :
    ∃ g cap, tv.fields = ⟨some ⟨g, 0, none⟩, t.fields.length, cap⟩ ∧ base ≤ g ∧ g < w.heap.size ∧ w.rangeAt g (j * 5) f.cells ∧ (∀ o, w.frozen? ⟨g, o, none⟩ = false) ∧
      BkOwn (w.setCell ⟨g, j * 5 + 3, none⟩ (.int .i64 kd)) base s tvs (ts.set i { t with fields := t.fields.set j { f with kind := kd } }) := by
  have hr := h.inner i tv t hi hti
  have hjl := (List.getElem?_eq_some_iff.1 hj).1
  have hf := hr.fields
  rcases hf.2 with ⟨_, h0⟩ | ⟨g, cap, cur, ev, hb, hg, hc, hm, hs, ht⟩
  · omega
  · rw [ev] at hf
    have esv : tv.fields = ⟨some ⟨g, 0, none⟩, t.fields.length, cap⟩ := by
      obtain ⟨nm, en, ⟨fa, fl, fc⟩, sg, si⟩ := tv
      simp only [Value.slice.injEq] at ev
      obtain ⟨rfl, rfl, rfl⟩ := ev
      rfl
    have hblk : tv.fields.blk = some g := by rw [esv]; rfl
    have hsl := bk_outer h
    have hgr := grown_setCell w g (j * 5 + 3) (.int .i64 kd)
    have hsf := owns_set hf (o := j * 5 + 3) (by omega) (.int .i64 kd)
    rw [flat_set FieldM.cells (fun _ => rfl) (.int .i64 kd) 3 (by omega) t.fields j f { f with kind := kd } hj rfl] at hsf
    have hgo : (Value.slice (some ⟨g, 0, none⟩) t.fields.length cap).ownBlock = some g := rfl
    have hap : ∀ {e : TypeId} {size : Nat} {v : Value} {n : Nat} {xs : List Value}, e ≠ 34 → w.ownsRow base e size v n xs → (w.setCell ⟨g, j * 5 + 3, none⟩ (.int .i64 kd)).ownsRow base e size v n xs :=
      fun hne hh => hh.kept hgr (by have := owns_apart hh hf hne; rw [hgo] at this; exact this)
    refine ⟨g, cap, esv, hb, lt_of_heap hg, ?_, fun o => frozen_of_row w g o cur _ hg, ⟨hap (by decide) h.outer, by rw [List.length_set]; exact h.len, fun i' tv' t' h1 h2 => ?_, h.apart⟩⟩
    · have hfl := (rows_type hr).fields
      obtain ⟨b, o, cs, h1, h2, rfl⟩ := hfl.2 j f hj
      rw [esv] at h1
      simp only [Option.some.injEq, Addr.mk.injEq] at h1
      obtain ⟨rfl, rfl, _⟩ := h1
      rw [Nat.zero_add] at h2
      exact h2
    · by_cases e : i' = i
      · subst e
        rw [hi] at h1
        cases h1
        rw [List.getElem?_set_self (List.getElem?_eq_some_iff.1 hti).1] at h2
        cases h2
        refine ⟨hr.name, hr.enum, ?_, hap (by decide) hr.gone, hap (by decide) hr.items⟩
        rw [ev]
        rw [List.length_set]
        exact hsf
      · rw [List.getElem?_set_ne (Ne.symm e)] at h2
        have hr' := h.inner i' tv' t' h1 h2
        refine ⟨hr'.name, hr'.enum, hr'.fields.kept hgr ?_, hap (by decide) hr'.gone, hap (by decide) hr'.items⟩
        rw [ownBlock_blk]
        have := (h.apart i' i tv' tv e h1 hi).fields
        unfold SV.apart at this
        rw [hblk] at this
        exact this
end Go.Proofs.YtmghhakebhgckaaGreatDoor

namespace Go.Proofs.YtmghhakebhgckaaGreatDoor
set_option linter.unusedSimpArgs false
set_option linter.unusedVariables false
open Go.RowKit

def mix {α : Type} (f : α → α) (l : List α) (i : Nat) : List α := (l.take i).map f ++ l.drop i
theorem mix_zero {α : Type} (f : α → α) (l : List α) : mix f l 0 = l := by simp [mix]
theorem mix_all {α : Type} (f : α → α) (l : List α) : mix f l l.length = l.map f := by simp [mix]
theorem mix_len {α : Type} (f : α → α) (l : List α) (i : Nat) : (mix f l i).length = l.length := by simp [mix]; omega
theorem mix_get {α : Type} (f : α → α) (l : List α) (i : Nat) : (mix f l i)[i]? = l[i]? := by
  unfold mix
  by_cases h : i ≤ l.length
  · rw [List.getElem?_append_right (by simp; omega)]; simp [Nat.min_eq_left h]
  · rw [List.getElem?_eq_none (by simp; omega), List.getElem?_eq_none (by omega)]
theorem mix_set {α : Type} (f : α → α) {l : List α} {i : Nat} {x : α} (h : l[i]? = some x) : (mix f l i).set i (f x) = mix f l (i + 1) := by
  have hi := (List.getElem?_eq_some_iff.1 h).1
  have hx := (List.getElem?_eq_some_iff.1 h).2
  unfold mix
  rw [List.set_append_right _ _ (by simp; omega), List.take_add_one, h]
  simp only [List.length_map, List.length_take, Nat.min_eq_left (Nat.le_of_lt hi), Nat.sub_self, Option.toList_some, List.map_append, List.map_cons, List.map_nil, List.append_assoc, List.cons_append, List.nil_append]
  congr 1
  rw [List.drop_eq_getElem_cons hi, List.set_cons_zero]
theorem mix_same {α : Type} (f : α → α) {l : List α} {i : Nat} {x : α} (h : l[i]? = some x) (hf : f x = x) : mix f l (i + 1) = mix f l i := by
  rw [← mix_set f h, hf]
  have hg := mix_get f l i
  rw [h] at hg
  apply List.ext_getElem?
  intro j
  by_cases e : i = j
  · subst e
    rw [List.getElem?_set_self (by rw [mix_len]; exact (List.getElem?_eq_some_iff.1 h).1), hg]
  · rw [List.getElem?_set_ne e]

def setF (ts : BookM) (f : FieldM) : FieldM := if f.type.toList = [] then f else { f with kind := kindM ts f.type }
def setT (ts : BookM) (t : TypeM) : TypeM := { t with fields := t.fields.map (setF ts) }
/-- What setKinds makes of a book. -/
def kindsP (ts : BookM) : BookM := ts.map (setT ts)
def headsM (ts : BookM) : List (ByteArray × Bool) := ts.map fun t => (t.name, t.enum)
theorem kindM_heads : ∀ {ts ts' : BookM}, headsM ts = headsM ts' → ∀ n, kindM ts n = kindM ts' n
  | [], [], _, _ => rfl
  | [], _ :: _, h, _ => by simp [headsM] at h
  | _ :: _, [], h, _ => by simp [headsM] at h
  | t :: ts, t' :: ts', h, n => by
    simp only [headsM, List.map_cons, List.cons.injEq, Prod.mk.injEq] at h
    have ih := kindM_heads (ts := ts) (ts' := ts') h.2 n
    unfold kindM findM at *
    rw [List.find?_cons, List.find?_cons, h.1.1]
    cases (t'.name.toList == n.toList)
    · exact ih
    · simp [kindO, h.1.2]
theorem heads_set {ts : BookM} {i : Nat} {t t' : TypeM} (h : ts[i]? = some t) (hn : t'.name = t.name) (he : t'.enum = t.enum) : headsM (ts.set i t') = headsM ts := by
  unfold headsM
  rw [List.map_set]
  apply List.ext_getElem?
  intro j
  by_cases e : i = j
  · subst e
    rw [List.getElem?_set_self (by simpa using (List.getElem?_eq_some_iff.1 h).1), List.getElem?_map, h, hn, he]; rfl
  · rw [List.getElem?_set_ne e]
theorem heads_mix (ts0 ts : BookM) (i : Nat) : headsM (mix (setT ts0) ts i) = headsM ts := by
  unfold headsM mix
  rw [List.map_append, List.map_map]
  have : (fun t : TypeM => (t.name, t.enum)) ∘ setT ts0 = fun t => (t.name, t.enum) := by funext t; rfl
  rw [this, ← List.map_append, List.take_append_drop]
theorem heap_ne {w : World} {a b : Nat} {c c' : Array Value} {e e' : TypeId} {f f' : Nat × Nat} (h : w.heap[a]? = some (.cells c e f)) (h' : w.heap[b]? = some (.cells c' e' f')) (hne : e ≠ e') : a ≠ b := by
  intro x; subst x; rw [h] at h'; simp only [Option.some.injEq, Obj.cells.injEq] at h'; exact hne h'.2.1
theorem bk_ext {w w' : World} {base : Nat} {s : SV} {tvs : List TV} {ts : List TypeM} (h : BkOwn w base s tvs ts) (hx : Ext w w') : BkOwn w' base s tvs ts := h.map fun h => owns_ext h hx
theorem owns_heap {w : World} {base : Nat} {e : TypeId} {k n g cap : Nat} {xs : List Value} (h : w.ownsRow base e k (.slice (some ⟨g, 0, none⟩) n cap) n xs) : ∃ cur, w.heap[g]? = some (.cells cur e (0, 0)) := by
  rcases h.2 with ⟨e, _⟩ | ⟨g', cap', cur, ev, hb, hg, _⟩
  · cases e
  · simp only [Value.slice.injEq, Option.some.injEq, Addr.mk.injEq] at ev
    obtain ⟨⟨e1, _⟩, _, _⟩ := ev
    subst e1
    exact ⟨cur, hg⟩

/-- What lies in a block of a book's own tag stays. -/
def Keep24 (w w' : World) : Prop := ∀ (b : Nat) (c : Array Value) (f : Nat × Nat), w.heap[b]? = some (.cells c 24 f) → w'.heap[b]? = some (.cells c 24 f)
theorem Keep24.of_ext {w w' : World} (h : Ext w w') : Keep24 w w' := fun _ _ _ hb => h.heap hb
theorem Keep24.trans {a b c : World} (h : Keep24 a b) (k : Keep24 b c) : Keep24 a c := fun _ _ _ hb => k _ _ _ (h _ _ _ hb)
theorem Keep24.setCell {a w : World} (h : Keep24 a w) {g o : Nat} {c : Array Value} {e : TypeId} {f : Nat × Nat} (hg : w.heap[g]? = some (.cells c e f)) (hne : 24 ≠ e) (u : Value) : Keep24 a (w.setCell ⟨g, o, none⟩ u) := fun b c' f' hb => by
  have := h b c' f' hb
  rw [heap_setCell_other _ _ _ _ (heap_ne this hg hne)]; exact this

set_option maxHeartbeats 3200000 in
theorem setKinds_any (base : Nat) (s : SV) (tvs : List TV) (ts : BookM) (w : World) (hbk : BkOwn w base s tvs ts) (hb : base ≤ w.heap.size) (hn : ts.length ≤ 1048576) (hnf : ∀ t ∈ ts, t.fields.length ≤ 1048576) :
    Calls Tryz.prog 46 #[.agg #[.slice s.a s.len s.cap]] w fun e w' => e = .returned (.tuple #[]) ∧ BkOwn w' base s tvs (kindsP ts) ∧ Below base w w' ∧ Keep24 w w' := by
  obtain ⟨a, n, cap⟩ := s
  have hl : n = ts.length := by rw [← hbk.len]; exact (bk_outer hbk).1
  subst hl
  have hx0 : Ext w (w.alloc (.cells #[.slice a ts.length cap] 24)) := (Ext.refl w).alloc _
  have Hbk := hide (bk_ext hbk hx0)
  have hlen := hbk.len
  clear hbk
  go_enter Tryz.func46, Tryz.ntmps46
  go_wp2
  go_loopw [9] (fun i wr => ∃ k : Nat, k ≤ ts.length ∧ i = .int .i64 k ∧ wr.heap[w.heap.size]? = some (.cells #[.slice a ts.length cap] 24 (0, 0)) ∧ BkOwn wr base ⟨a, ts.length, cap⟩ tvs (mix (setT ts) ts k) ∧ Below base w wr ∧ Keep24 w wr) (fun i wr => ts.length - (intOf i).toNat)
  case atStart => exact ⟨0, by omega, rfl, heap_alloc_new _ _, by rw [mix_zero]; exact unhide Hbk, Below.mono hx0 hb, Keep24.of_ext hx0⟩
  case round =>
    obtain ⟨k, hk, rfl, hB, hbk, hbe, hkp⟩ := hrel
    rename World => wo
    clear Hbk
    by_cases hlt : k < ts.length
    · obtain ⟨tv, htv⟩ : ∃ tv, tvs[k]? = some tv := ⟨tvs[k]'(by omega), List.getElem?_eq_getElem _⟩
      obtain ⟨b, o, cs, ha, hr, rfl⟩ := (bk_outer hbk).2 k tv htv
      simp only at ha
      subst ha
      obtain ⟨h0, h1, h2, h3, h4⟩ := range5 hr
      have Hbk := hide hbk
      have Htv := hide htv
      clear hbk htv hr
      obtain ⟨nm, en, ⟨fa, fl, fc⟩, ⟨ga, gl, gc⟩, ⟨ia, il, ic⟩⟩ := tv
      simp only at h0 h1 h2 h3 h4
      have hx1 : Ext wo (wo.alloc (.cells #[.string nm, .bool en, .slice fa fl fc, .slice ga gl gc, .slice ia il ic] 30)) := (Ext.refl wo).alloc _
      have hB1 := hx1.heap hB
      obtain ⟨t, ht⟩ : ∃ t, ts[k]? = some t := ⟨ts[k], List.getElem?_eq_getElem _⟩
      have hmk : (mix (setT ts) ts k)[k]? = some t := by rw [mix_get]; exact ht
      have hfl : fl = t.fields.length := by
        have := (rows_type ((unhide Hbk).inner k _ t (unhide Htv) hmk)).fields.1
        exact this
      subst hfl
      have hfn := hnf t (List.mem_of_getElem? ht)
      have Hk := hide (And.intro ht hmk)
      have Hbk1 : Hid (BkOwn (wo.alloc (.cells #[.string nm, .bool en, .slice fa t.fields.length fc, .slice ga gl gc, .slice ia il ic] 30)) base ⟨some ⟨b, o, none⟩, ts.length, cap⟩ tvs ((mix (setT ts) ts k).set k { t with fields := mix (setF ts) t.fields 0 })) := by
        unfold Hid
        rw [mix_zero]
        have e : (mix (setT ts) ts k).set k t = mix (setT ts) ts k := by
          apply List.ext_getElem?
          intro j
          by_cases e : k = j
          · subst e
            rw [List.getElem?_set_self (by rw [mix_len]; exact hlt), hmk]
          · rw [List.getElem?_set_ne e]
        rw [e]
        exact bk_ext (unhide Hbk) hx1
      have hbe1 := hbe.trans (Below.mono hx1 (Nat.le_trans hb hbe.size))
      have hT1 := heap_alloc_new wo (.cells #[.string nm, .bool en, .slice fa t.fields.length fc, .slice ga gl gc, .slice ia il ic] 30)
      clear ht hmk
      go_wp2
      go_loopw [16] (fun i wq => ∃ j : Nat, j ≤ t.fields.length ∧ i = .int .i64 j ∧ wq.heap[w.heap.size]? = some (.cells #[.slice (some ⟨b, o, none⟩) ts.length cap] 24 (0, 0)) ∧ wq.heap[wo.heap.size]? = some (.cells #[.string nm, .bool en, .slice fa t.fields.length fc, .slice ga gl gc, .slice ia il ic] 30 (0, 0)) ∧ BkOwn wq base ⟨some ⟨b, o, none⟩, ts.length, cap⟩ tvs ((mix (setT ts) ts k).set k { t with fields := mix (setF ts) t.fields j }) ∧ Below base w wq ∧ Keep24 w wq) (fun i wq => t.fields.length - (intOf i).toNat)
      case atStart => exact ⟨0, by omega, rfl, hB1, hT1, unhide Hbk1, hbe1, hkp.trans (Keep24.of_ext hx1)⟩
      case round =>
        obtain ⟨j, hj, rfl, hBr, hTr, hbkq, hber, hkr⟩ := hrel
        clear Hbk Hbk1 hB hB1 hT1 hbe1 hx1
        by_cases hltj : j < t.fields.length
        · obtain ⟨f, hf⟩ : ∃ f, t.fields[j]? = some f := ⟨t.fields[j], List.getElem?_eq_getElem _⟩
          have hmj : (mix (setF ts) t.fields j)[j]? = some f := by rw [mix_get]; exact hf
          have hck : ((mix (setT ts) ts k).set k { t with fields := mix (setF ts) t.fields j })[k]? = some { t with fields := mix (setF ts) t.fields j } := List.getElem?_set_self (by rw [mix_len]; exact hlt)
          obtain ⟨b', o', cs, hfa, hr, rfl⟩ := (rows_type (hbkq.inner k _ _ (unhide Htv) hck)).fields.2 j f hmj
          simp only at hfa
          subst hfa
          obtain ⟨f0, f1, f2, f3, f4⟩ := range5 hr
          have Hbkq := hide hbkq
          have Hf := hide (And.intro hf (And.intro hmj hck))
          clear hbkq hf hmj hck hr
          obtain ⟨fid, fnm, fty, fkd, frl⟩ := f
          simp only at f0 f1 f2 f3 f4
          obtain ⟨a0, a1, a2, a3, a4, af⟩ := row5 hTr
          have cB : wr.cell? ⟨w.heap.size, 0, none⟩ = some (.slice (some ⟨b, o, none⟩) ts.length cap) := cell_of_row _ _ 0 _ _ _ hBr
          have hx2 : Ext wr (wr.alloc (.cells #[.int .i64 fid, .string fnm, .string fty, .int .i64 fkd, .int .i64 frl] 34)) := (Ext.refl wr).alloc _
          have cB2 := hx2.cell cB
          have a2' := hx2.cell a2
          have zT := lt_of_heap hTr
          have zB := lt_of_heap hBr
          go_wp2_with fail
          · rename_i hty
            have Hset : Hid (setF ts ⟨fid, fnm, fty, fkd, frl⟩ = ⟨fid, fnm, fty, kindM ts fty, frl⟩) := by
              unfold Hid setF
              rw [if_neg (by simpa using hty)]
            clear hty
            refine wp_region_X (fun w' => w'.cell? ⟨wo.heap.size, 2, none⟩ = some (.slice (some ⟨b', o', none⟩) t.fields.length fc) ∧ w'.cell? ⟨w.heap.size, 0, none⟩ = some (.slice (some ⟨b, o, none⟩) ts.length cap) ∧ w'.cell? ⟨wr.heap.size, 2, none⟩ = some (.string fty)) (fun j => decide (7 ≤ j)) (by kernel_rfl) ?_
            have hS : ∀ (W : World), Ext (wr.alloc (.cells #[.int .i64 fid, .string fnm, .string fty, .int .i64 fkd, .int .i64 frl] 34)) W → W.cell? ⟨wo.heap.size, 2, none⟩ = some (.slice (some ⟨b', o', none⟩) t.fields.length fc) ∧ W.cell? ⟨w.heap.size, 0, none⟩ = some (.slice (some ⟨b, o, none⟩) ts.length cap) ∧ W.cell? ⟨wr.heap.size, 2, none⟩ = some (.string fty) :=
              fun W hW => ⟨hW.cell a2', hW.cell cB2, hW.cell (cell_of_row _ _ 2 _ _ _ (heap_alloc_new _ _))⟩
            have hS0 := hS _ (Ext.refl _)
            refine wpAnyX_take (i := 0) (v := .pointer (some ⟨wo.heap.size, 2, none⟩)) rfl (by kernel_rfl) (by kernel_rfl) (fun _ _ _ h => h) (.inl ⟨rfl, fun w' hS => by simp [execOp, go_sem]⟩) hS0 ?_
            simp only [Act.put, List.setIfInBounds_toArray, List.set_cons_succ, List.set_cons_zero]
            refine wpAnyX_take (i := 1) (v := .slice (some ⟨b', o', none⟩) t.fields.length fc) rfl (by kernel_rfl) (by kernel_rfl) (fun _ _ _ h => h) (.inl ⟨rfl, fun w' hS => by simp [execOp, go_sem, hS.1]⟩) hS0 ?_
            simp only [Act.put, List.setIfInBounds_toArray, List.set_cons_succ, List.set_cons_zero]
            refine wpAnyX_take (i := 2) (v := .int .i64 j) rfl (by kernel_rfl) (by kernel_rfl) (fun _ _ _ h => h) (.inl ⟨rfl, fun w' hS => by simp [execOp, go_sem]⟩) hS0 ?_
            simp only [Act.put, List.setIfInBounds_toArray, List.set_cons_succ, List.set_cons_zero]
            refine wpAnyX_take (i := 3) (v := .agg #[.slice (some ⟨b, o, none⟩) ts.length cap]) rfl (by kernel_rfl) (by kernel_rfl) (fun _ _ _ h => h) (.inl ⟨rfl, fun w' hS => by simp [execOp, go_sem, hS.2.1]⟩) hS0 ?_
            simp only [Act.put, List.setIfInBounds_toArray, List.set_cons_succ, List.set_cons_zero]
            refine wpAnyX_take (i := 4) (v := .pointer (some ⟨wr.heap.size, 2, none⟩)) rfl (by kernel_rfl) (by kernel_rfl) (fun _ _ _ h => h) (.inl ⟨rfl, fun w' hS => by simp [execOp, go_sem]⟩) hS0 ?_
            simp only [Act.put, List.setIfInBounds_toArray, List.set_cons_succ, List.set_cons_zero]
            refine wpAnyX_take (i := 5) (v := .string fty) rfl (by kernel_rfl) (by kernel_rfl) (fun _ _ _ h => h) (.inl ⟨rfl, fun w' hS => by simp [execOp, go_sem, hS.2.2]⟩) hS0 ?_
            simp only [Act.put, List.setIfInBounds_toArray, List.set_cons_succ, List.set_cons_zero]
            refine wpAnyX_one (j := 6) rfl (by kernel_rfl) rfl fun K hK => ?_
            go_wp2_with fail
            refine (kindOfType_any ⟨some ⟨b, o, none⟩, ts.length, cap⟩ _ fty _ (bk_book (bk_ext (unhide Hbkq) hx2.drew)) (by simp only [List.length_set, mix_len]; exact hn)).mono ?_
            rintro e w3 ⟨rfl, hx3⟩
            have Ek : Hid (kindM ((mix (setT ts) ts k).set k { t with fields := mix (setF ts) t.fields j }) fty = kindM ts fty) := by
              unfold Hid
              exact kindM_heads ((heads_set (t' := { t with fields := mix (setF ts) t.fields j }) (unhide Hk).2 rfl rfl).trans (heads_mix ts ts k)) fty
            rw [unhide Ek]
            have hx3' : Ext (wr.alloc (.cells #[.int .i64 fid, .string fnm, .string fty, .int .i64 fkd, .int .i64 frl] 34)) w3 := ((Ext.refl _).drew).trans hx3
            have hx03 : Ext wr w3 := hx2.trans hx3'
            have hS3 := hS w3 hx3'
            obtain ⟨g', cap', esv, hgb, hgl, hrg, hfz, hnew⟩ := bk_setKind (bk_ext (unhide Hbkq) hx03) (unhide Htv) (unhide Hf).2.2 (unhide Hf).2.1 (kindM ts fty)
            simp only [SV.mk.injEq, Option.some.injEq, Addr.mk.injEq] at esv
            obtain ⟨⟨eb, eo, -⟩, -, ec⟩ := esv
            subst eb ec
            have hrow3 := owns_heap (show w3.ownsRow base 34 5 (.slice (some ⟨b', 0, none⟩) (mix (setF ts) t.fields j).length fc) (mix (setF ts) t.fields j).length _ from by
              have := ((bk_ext (unhide Hbkq) hx03).inner k _ _ (unhide Htv) (unhide Hf).2.2).fields
              simp only [eo] at this
              rw [mix_len] at this ⊢
              exact this)
            obtain ⟨cur, hcur⟩ := hrow3
            obtain ⟨g0, g1, g2, g3, g4⟩ := range5 hrg
            have c3 : w3.cell? ⟨b', o' + j * 5 + 3, none⟩ = some (.int .i64 fkd) := by rw [eo, Nat.zero_add]; exact g3
            have z3 : w3.frozen? ⟨b', o' + j * 5 + 3, none⟩ = false := hfz _
            have hB3 := hx03.heap hBr
            have hT3 := hx03.heap hTr
            have hneB := heap_ne hB3 hcur (by decide)
            have hneT := heap_ne hT3 hcur (by decide)
            have Hnew : Hid (BkOwn (w3.setCell ⟨b', o' + j * 5 + 3, none⟩ (.int .i64 (kindM ts fty))) base ⟨some ⟨b, o, none⟩, ts.length, cap⟩ tvs ((mix (setT ts) ts k).set k { t with fields := mix (setF ts) t.fields (j + 1) })) := by
              unfold Hid
              rw [eo, Nat.zero_add]
              rw [List.set_set] at hnew
              have := mix_set (setF ts) (unhide Hf).1
              rw [unhide Hset] at this
              simp only at hnew
              rw [this] at hnew
              exact hnew
            have hbe3 : Below base w (w3.setCell ⟨b', o' + j * 5 + 3, none⟩ (.int .i64 (kindM ts fty))) := (hber.trans (Below.mono hx03 (Nat.le_trans hb hber.size))).setCell hgb _
            have Hkp3 : Hid (Keep24 w (w3.setCell ⟨b', o' + j * 5 + 3, none⟩ (.int .i64 (kindM ts fty)))) := (hkr.trans (Keep24.of_ext hx03)).setCell hcur (by decide) _
            clear hnew hrg g0 g1 g2 g3 g4 hfz hcur eo f0 f1 f2 f3 f4 a0 a1 a2 a3 a4 af a2' cB cB2 hS hS0
            go_wp2
            refine hK.out _ _ hS3 ?_
            clear hK K
            refine wpAnyX_end [7, 8, 9] [_, _, _] rfl (by intro j i hj; match j, hj with | 0, hj => cases hj; rfl | 1, hj => cases hj; rfl | 2, hj => cases hj; rfl) (by kernel_rfl) (by intro i hi; cases hi; rfl) fun K hK => ?_
            go_wp2
            refine hK.out _ _ ?_
            clear hK K
            go_wp2
            exact ⟨⟨j + 1, by omega, by go_num, by rw [heap_setCell_other _ _ _ _ hneB]; exact hB3, by rw [heap_setCell_other _ _ _ _ hneT]; exact hT3, unhide Hnew, hbe3, unhide Hkp3⟩, by simp [intOf]; omega⟩
          · rename_i hty
            have Hset : Hid (setF ts ⟨fid, fnm, fty, fkd, frl⟩ = ⟨fid, fnm, fty, fkd, frl⟩) := by
              unfold Hid setF
              rw [if_pos (by simpa using hty)]
            refine ⟨⟨j + 1, by omega, by go_num, hx2.heap hBr, hx2.heap hTr, ?_, hber.trans (Below.mono hx2 (Nat.le_trans hb hber.size)), hkr.trans (Keep24.of_ext hx2)⟩, by simp [intOf]; omega⟩
            rw [mix_same (setF ts) (unhide Hf).1 (unhide Hset)]
            exact bk_ext (unhide Hbkq) hx2
        · have e : j = t.fields.length := by omega
          subst e
          have Hbkq := hide hbkq
          clear hbkq
          go_wp2
          refine ⟨⟨k + 1, by omega, by go_num, hBr, ?_, hber, hkr⟩, by simp [intOf]; omega⟩
          rw [← mix_set (setT ts) (unhide Hk).1]
          have := unhide Hbkq
          rw [mix_all] at this
          exact this
    · go_wp2
      go_end0
      have e : k = ts.length := by omega
      subst e
      rw [mix_all] at hbk
      exact ⟨rfl, hbk, hbe, hkp⟩
end Go.Proofs.YtmghhakebhgckaaGreatDoor

namespace Go.Proofs
set_option linter.unusedSimpArgs false
set_option linter.unusedVariables false
open Go.Shelf Go.RowKit Go.Lib Go.Sort
end Go.Proofs
namespace Go.Proofs.YtmghhakebhgckaaGreatDoor
set_option linter.unusedSimpArgs false
set_option linter.unusedVariables false
open Go.RowKit Go.Sort Go.Shelf Go.Lib

theorem isNaNS_any (x : ByteArray) (w : World) : Calls Tryz.prog 103 #[.string x] w fun e w' => e = .returned (.bool false) ∧ w' = w := by
  go_enter Tryz.func103, Tryz.ntmps103
  go_wp2
  go_ret
  exact ⟨by simp, rfl⟩
def cmpS (x y : ByteArray) : Int := if Op.bytesLess x.toList y.toList then -1 else if x.toList == y.toList then 0 else 1
theorem compareS_any (x y : ByteArray) (w : World) : Calls Tryz.prog 71 #[.string x, .string y] w fun e w' => e = .returned (.int .i64 (cmpS x y)) ∧ w' = w := by
  go_enter Tryz.func71, Tryz.ntmps71
  go_wp2_with (go_at_call 103; refine (isNaNS_any _ _).mono ?_; rintro e w' ⟨rfl, hw⟩; rw [hw])
  all_goals go_ret
  all_goals (refine ⟨?_, rfl⟩; unfold cmpS)
  all_goals simp_all
theorem lt_cmpS {α : Type} (key : α → ByteArray) (x y : α) : ltOf (fun x y : α => cmpS (key x) (key y)) x y = ltStr (key x).toList (key y).toList := by
  unfold ltOf cmpS ltStr
  simp only [bytesLess_eq]
  by_cases h : (key x).toList < (key y).toList
  · simp [h]
  · simp only [h, decide_false, Bool.false_eq_true, if_false]
    split <;> decide
theorem swo_cmpS {α : Type} (key : α → ByteArray) : SWO (ltOf fun x y : α => cmpS (key x) (key y)) where
  irrefl x := by rw [lt_cmpS]; exact swo_ltStr.irrefl _
  trans x y z h1 h2 := by rw [lt_cmpS] at *; exact swo_ltStr.trans _ _ _ h1 h2
  ntrans x y z h1 h2 := by rw [lt_cmpS] at *; exact swo_ltStr.ntrans _ _ _ h1 h2
theorem lt_cmpI {α : Type} (key : α → Int) (x y : α) : ltOf (fun x y : α => Lib.compareInt (key x) (key y)) x y = decide (key x < key y) := by
  unfold ltOf Lib.compareInt
  by_cases h1 : key x < key y
  · simp [h1]
  · by_cases h2 : key y < key x <;> simp [h1, h2]
theorem swo_cmpI {α : Type} (key : α → Int) : SWO (ltOf fun x y : α => Lib.compareInt (key x) (key y)) where
  irrefl x := by rw [lt_cmpI]; simp
  trans x y z h1 h2 := by rw [lt_cmpI] at *; simp at *; omega
  ntrans x y z h1 h2 := by rw [lt_cmpI] at *; simp at *; omega

theorem grow_drew0 (w : World) (o o' : Obj) : (w.alloc o).alloc o' = grow (w.drewN 0) #[o, o'] := by
  rw [alloc_eq_grow, alloc_eq_grow, grow_grow]; rfl

set_option maxHeartbeats 1000000 in
theorem closureT (x y : TV) (W : World) : Calls Tryz.prog 70 #[.agg #[.string x.name, .bool x.enum, .slice x.fields.a x.fields.len x.fields.cap, .slice x.gone.a x.gone.len x.gone.cap, .slice x.items.a x.items.len x.items.cap], .agg #[.string y.name, .bool y.enum, .slice y.fields.a y.fields.len y.fields.cap, .slice y.gone.a y.gone.len y.gone.cap, .slice y.items.a y.items.len y.items.cap]] W fun e w' => e = .returned (.int .i64 (cmpS x.name y.name)) ∧ ∃ q os', w' = grow (W.drewN q) os' := by
  have hcon := fun W' => compareS_any x.name y.name W'
  generalize cmpS x.name y.name = r at hcon ⊢
  go_enter Tryz.func70, Tryz.ntmps70
  go_wp2_with (go_at_call 71; refine (hcon _).mono ?_; rintro e w' ⟨rfl, rfl⟩)
  go_ret
  exact ⟨rfl, 0, _, grow_drew0 _ _ _⟩
set_option maxHeartbeats 1000000 in
theorem closureF (x y : FieldM) (W : World) : Calls Tryz.prog 73 #[.agg #[.int .i64 x.id, .string x.name, .string x.type, .int .i64 x.kind, .int .i64 x.rule], .agg #[.int .i64 y.id, .string y.name, .string y.type, .int .i64 y.kind, .int .i64 y.rule]] W fun e w' => e = .returned (.int .i64 (Lib.compareInt x.id y.id)) ∧ ∃ q os', w' = grow (W.drewN q) os' := by
  have hcon := fun W' => Tryz.cmp_Compare_int x.id y.id W'
  generalize Lib.compareInt x.id y.id = r at hcon ⊢
  go_enter Tryz.func73, Tryz.ntmps73
  go_wp2_with (go_at_call 74; refine (hcon _).mono ?_; rintro e w' ⟨rfl, rfl⟩)
  go_ret
  exact ⟨rfl, 0, _, grow_drew0 _ _ _⟩
set_option maxHeartbeats 1000000 in
theorem closureI (x y : ItemM) (W : World) : Calls Tryz.prog 76 #[.agg #[.string x.name, .int .i64 x.n], .agg #[.string y.name, .int .i64 y.n]] W fun e w' => e = .returned (.int .i64 (Lib.compareInt x.n y.n)) ∧ ∃ q os', w' = grow (W.drewN q) os' := by
  have hcon := fun W' => Tryz.cmp_Compare_int x.n y.n W'
  generalize Lib.compareInt x.n y.n = r at hcon ⊢
  go_enter Tryz.func76, Tryz.ntmps76
  go_wp2_with (go_at_call 74; refine (hcon _).mono ?_; rintro e w' ⟨rfl, rfl⟩)
  go_ret
  exact ⟨rfl, 0, _, grow_drew0 _ _ _⟩
theorem closureG (x y : Int) (W : World) : Calls Tryz.prog 78 #[.int .i64 x, .int .i64 y] W fun e w' => e = .returned (.int .i64 (Lib.compareInt x y)) ∧ ∃ q os', w' = grow (W.drewN q) os' := by
  have hcon := fun W' => Tryz.cmp_Compare_int x y W'
  generalize Lib.compareInt x y = r at hcon ⊢
  go_enter Tryz.func78, Tryz.ntmps78
  go_wp2_with (go_at_call 74; refine (hcon _).mono ?_; rintro e w' ⟨rfl, rfl⟩)
  go_ret
  exact ⟨rfl, 0, #[], by rw [grow_empty]; rfl⟩

theorem perm_list {α : Type} [Inhabited α] {l : List α} {d' : Array α} (h : PermIn 0 l.toArray.size l.toArray d') : d'.toList.Perm l ∧ d'.size = l.length := by
  obtain ⟨h1, _, h3⟩ := h
  have e : d'.extract 0 l.toArray.size = d' := by rw [← h1]; simp
  rw [e] at h3
  simpa using And.intro h3 h1
theorem sorted_list {α : Type} [Inhabited α] {lt : α → α → Bool} {n : Nat} {d' : Array α} (h : SortedIn lt 0 n d') (hn : d'.size = n) : d'.toList.Pairwise fun x y => lt y x = false := by
  rw [List.pairwise_iff_getElem]
  intro i j hi hj hij
  have := h i j (Nat.zero_le _) hij (by simpa [hn] using hj)
  rw [getElem!_pos d' j (by simpa using hj), getElem!_pos d' i (by simpa using hi)] at this
  simpa using this

/-- slices.SortFunc on a row of the call's own, at structs. -/
theorem sortK_own {α : Type} [Inhabited α] {ρ : Ren} (L : SlLaysF0.n6 Tryz.prog ρ) (k : Nat) (aE : ∀ w, (isAgg (ρ.t 24)).run Tryz.prog w = .ok true w) (zE : ∀ w, (Go.sizeOf (ρ.t 24)).run Tryz.prog w = .ok k w) (enc : α → List Value) (hk : ∀ x, (enc x).length = k) (h1 : ∀ x, ∀ v ∈ enc x, v.oneCell' = true) (cf : α → α → Int) (hO : SWO (ltOf cf)) (g : Nat)
    (eg : ∀ args w, (callFunc g args).run Tryz.prog w = .ok (.enter g args) w) (hcmp : ∀ x y W, Calls Tryz.prog g #[.agg (enc x).toArray, .agg (enc y).toArray] W fun e w' => e = .returned (.int .i64 (cf x y)) ∧ ∃ q os', w' = grow (W.drewN q) os')
    {w : World} {base : Nat} {e : TypeId} {s : SV} {l : List α} (ho : w.ownsRow base e k (.slice s.a s.len s.cap) l.length (l.flatMap enc)) (hsz : l.length < 4611686018427387904) :
    Calls Tryz.prog (ρ.f 6) #[.slice s.a s.len s.cap, .func (.func g) #[] #[]] w fun r w' => r = .returned (.tuple #[]) ∧ ∃ l' : List α, l'.Perm l ∧ l'.Pairwise (fun x y => ltOf cf y x = false) ∧ w'.ownsRow base e k (.slice s.a s.len s.cap) l'.length (l'.flatMap enc) ∧ w.grownBy w' s.blk := by
  obtain ⟨a, n, cap⟩ := s
  by_cases hne : l = []
  · subst hne
    have hn : n = 0 := by
      rcases ho.2 with ⟨ev, _⟩ | ⟨g', cap', cur, ev, _⟩
      · simp only [Value.slice.injEq] at ev; exact ev.2.1
      · simp only [Value.slice.injEq] at ev; simpa using ev.2.1
    subst hn
    exact (AnyF.slices_SortFunc_none L a cap _ w).mono fun r w' ⟨h1, h2⟩ => ⟨h1, [], List.Perm.refl _, List.Pairwise.nil, by rw [h2]; exact ho, by rw [h2]; exact ⟨rfl, rfl, rfl, Nat.le_refl _, fun _ _ _ => rfl⟩⟩
  · obtain ⟨b, cap', ev, hb, hH, hput⟩ := sortedK_own enc hk ho hne
    simp only [Value.slice.injEq] at ev
    obtain ⟨rfl, rfl, rfl⟩ := ev
    refine (AnyQ.slices_SortFunc L k aE zE enc hk h1 cf hO g #[] b 0 cap l.toArray w eg (fun m os dk hd x y => by rw [Array.append_empty]; exact hcmp x y _) hH hb (by simpa using hsz)).mono ?_
    rintro r w' ⟨hr, d', m, os, hp, hs, rfl⟩
    obtain ⟨hp1, hp2⟩ := perm_list hp
    obtain ⟨hq1, hq2⟩ := hput d' m os hp2
    refine ⟨hr, d'.toList, hp1, sorted_list hs (by simpa using hp2), ?_, hq2⟩
    rw [show d'.toList.length = l.length from by simpa using hp2]
    exact hq1
/-- .. at elements of one cell. -/
theorem sort1_own {α : Type} [Inhabited α] {ρ : Ren} (L : SlLaysF.n6 Tryz.prog ρ) (enc : α → Value) (h1 : OneCell enc) (cf : α → α → Int) (hO : SWO (ltOf cf)) (g : Nat)
    (eg : ∀ args w, (callFunc g args).run Tryz.prog w = .ok (.enter g args) w) (hcmp : ∀ x y W, Calls Tryz.prog g #[enc x, enc y] W fun e w' => e = .returned (.int .i64 (cf x y)) ∧ ∃ q os', w' = grow (W.drewN q) os')
    {w : World} {base : Nat} {e : TypeId} {s : SV} {l : List α} (ho : w.ownsRow base e 1 (.slice s.a s.len s.cap) l.length (l.flatMap fun x => [enc x])) (hsz : l.length < 4611686018427387904) :
    Calls Tryz.prog (ρ.f 6) #[.slice s.a s.len s.cap, .func (.func g) #[] #[]] w fun r w' => r = .returned (.tuple #[]) ∧ ∃ l' : List α, l'.Perm l ∧ l'.Pairwise (fun x y => ltOf cf y x = false) ∧ w'.ownsRow base e 1 (.slice s.a s.len s.cap) l'.length (l'.flatMap fun x => [enc x]) ∧ w.grownBy w' s.blk := by
  obtain ⟨a, n, cap⟩ := s
  by_cases hne : l = []
  · subst hne
    have hn : n = 0 := by
      rcases ho.2 with ⟨ev, _⟩ | ⟨g', cap', cur, ev, _⟩
      · simp only [Value.slice.injEq] at ev; exact ev.2.1
      · simp only [Value.slice.injEq] at ev; simpa using ev.2.1
    subst hn
    exact (AnyF.slices_SortFunc_none { L with } a cap _ w).mono fun r w' ⟨h1, h2⟩ => ⟨h1, [], List.Perm.refl _, List.Pairwise.nil, by rw [h2]; exact ho, by rw [h2]; exact ⟨rfl, rfl, rfl, Nat.le_refl _, fun _ _ _ => rfl⟩⟩
  · obtain ⟨b, cap', ev, hb, hH, hput⟩ := sorted1_own enc ho hne
    simp only [Value.slice.injEq] at ev
    obtain ⟨rfl, rfl, rfl⟩ := ev
    refine (Any.slices_SortFunc L enc h1 cf hO g #[] b 0 cap l.toArray w eg (fun m os dk hd x y => by rw [Array.append_empty]; exact hcmp x y _) hH hb (by simpa using hsz)).mono ?_
    rintro r w' ⟨hr, d', m, os, hp, hs, rfl⟩
    obtain ⟨hp1, hp2⟩ := perm_list hp
    obtain ⟨hq1, hq2⟩ := hput d' m os hp2
    refine ⟨hr, d'.toList, hp1, sorted_list hs (by simpa using hp2), ?_, hq2⟩
    rw [show d'.toList.length = l.length from by simpa using hp2]
    exact hq1

theorem inhF : Nonempty (Inhabited FieldM) := ⟨⟨⟨0, ⟨#[]⟩, ⟨#[]⟩, 0, 0⟩⟩⟩
theorem inhI : Nonempty (Inhabited ItemM) := ⟨⟨⟨⟨#[]⟩, 0⟩⟩⟩
theorem inhT : Nonempty (Inhabited (TV × TypeM)) := ⟨⟨(⟨⟨#[]⟩, false, ⟨none, 0, 0⟩, ⟨none, 0, 0⟩, ⟨none, 0, 0⟩⟩, TypeM.zero)⟩⟩

theorem sortTypes_any {w : World} {base : Nat} {s : SV} {ps : List (TV × TypeM)} (ho : w.ownsRow base 30 5 (.slice s.a s.len s.cap) ps.length (ps.flatMap fun p => p.1.cells)) (hsz : ps.length < 4611686018427387904) :
    Calls Tryz.prog 69 #[.slice s.a s.len s.cap, .func (.func 70) #[] #[]] w fun r w' => r = .returned (.tuple #[]) ∧ ∃ l' : List (TV × TypeM), l'.Perm ps ∧ l'.Pairwise (fun x y => ltStr y.1.name.toList x.1.name.toList = false) ∧ w'.ownsRow base 30 5 (.slice s.a s.len s.cap) l'.length (l'.flatMap fun p => p.1.cells) ∧ w.grownBy w' s.blk := by
  obtain ⟨hin⟩ := inhT
  have h := sortK_own Tryz.sortT 5 Tryz.isAgg30 Tryz.sizeOf30 (fun p : TV × TypeM => p.1.cells) (fun _ => rfl) (fun x => one_tv x.1) (fun x y => cmpS x.1.name y.1.name) (swo_cmpS _) 70 (enters_of Tryz.func70 (by kernel_rfl) rfl) (fun x y W => closureT x.1 y.1 W) ho hsz
  change Calls Tryz.prog 69 _ _ _ at h
  exact h.mono fun r w' ⟨h1, l', h2, h3, h4⟩ => ⟨h1, l', h2, h3.imp fun {x y} hh => by rw [lt_cmpS] at hh; exact hh, h4⟩
theorem sortFields_any {w : World} {base : Nat} {s : SV} {l : List FieldM} (ho : w.ownsRow base 34 5 (.slice s.a s.len s.cap) l.length (l.flatMap FieldM.cells)) (hsz : l.length < 4611686018427387904) :
    Calls Tryz.prog 72 #[.slice s.a s.len s.cap, .func (.func 73) #[] #[]] w fun r w' => r = .returned (.tuple #[]) ∧ ∃ l' : List FieldM, l'.Perm l ∧ l'.Pairwise (fun x y => x.id ≤ y.id) ∧ w'.ownsRow base 34 5 (.slice s.a s.len s.cap) l'.length (l'.flatMap FieldM.cells) ∧ w.grownBy w' s.blk := by
  obtain ⟨hin⟩ := inhF
  have h := sortK_own Tryz.sortF 5 Tryz.isAgg34 Tryz.sizeOf34 FieldM.cells (fun _ => rfl) one_field (fun x y => Lib.compareInt x.id y.id) (swo_cmpI _) 73 (enters_of Tryz.func73 (by kernel_rfl) rfl) (fun x y W => closureF x y W) ho hsz
  change Calls Tryz.prog 72 _ _ _ at h
  exact h.mono fun r w' ⟨h1, l', h2, h3, h4⟩ => ⟨h1, l', h2, h3.imp fun {x y} hh => by rw [lt_cmpI] at hh; simpa using hh, h4⟩
theorem sortItems_any {w : World} {base : Nat} {s : SV} {l : List ItemM} (ho : w.ownsRow base 55 2 (.slice s.a s.len s.cap) l.length (l.flatMap ItemM.cells)) (hsz : l.length < 4611686018427387904) :
    Calls Tryz.prog 75 #[.slice s.a s.len s.cap, .func (.func 76) #[] #[]] w fun r w' => r = .returned (.tuple #[]) ∧ ∃ l' : List ItemM, l'.Perm l ∧ l'.Pairwise (fun x y => x.n ≤ y.n) ∧ w'.ownsRow base 55 2 (.slice s.a s.len s.cap) l'.length (l'.flatMap ItemM.cells) ∧ w.grownBy w' s.blk := by
  obtain ⟨hin⟩ := inhI
  have h := sortK_own Tryz.sortI 2 Tryz.isAgg55 Tryz.sizeOf55 ItemM.cells (fun _ => rfl) one_item (fun x y => Lib.compareInt x.n y.n) (swo_cmpI _) 76 (enters_of Tryz.func76 (by kernel_rfl) rfl) (fun x y W => closureI x y W) ho hsz
  change Calls Tryz.prog 75 _ _ _ at h
  exact h.mono fun r w' ⟨h1, l', h2, h3, h4⟩ => ⟨h1, l', h2, h3.imp fun {x y} hh => by rw [lt_cmpI] at hh; simpa using hh, h4⟩
theorem sortGone_any {w : World} {base : Nat} {s : SV} {l : List Int} (ho : w.ownsRow base 3 1 (.slice s.a s.len s.cap) l.length (l.flatMap encI)) (hsz : l.length < 4611686018427387904) :
    Calls Tryz.prog 77 #[.slice s.a s.len s.cap, .func (.func 78) #[] #[]] w fun r w' => r = .returned (.tuple #[]) ∧ ∃ l' : List Int, l'.Perm l ∧ l'.Pairwise (fun x y => x ≤ y) ∧ w'.ownsRow base 3 1 (.slice s.a s.len s.cap) l'.length (l'.flatMap encI) ∧ w.grownBy w' s.blk := by
  have h := sort1_own Tryz.sortG (Value.int .i64) (fun _ => rfl) (fun x y : Int => Lib.compareInt x y) (swo_cmpI id) 78 (enters_of Tryz.func78 (by kernel_rfl) rfl) (fun x y W => closureG x y W) (l := l) ho hsz
  change Calls Tryz.prog 77 _ _ _ at h
  exact h.mono fun r w' ⟨h1, l', h2, h3, h4⟩ => ⟨h1, l', h2, h3.imp fun {x y} hh => by rw [show ltOf (fun x y : Int => Lib.compareInt x y) y x = decide (y < x) from lt_cmpI (fun z : Int => z) y x] at hh; simpa using hh, h4⟩
end Go.Proofs.YtmghhakebhgckaaGreatDoor

namespace Go.Proofs.YtmghhakebhgckaaGreatDoor
set_option linter.unusedSimpArgs false
set_option linter.unusedVariables false
open Go.RowKit Go.Sort

/-- A type whose lists are sorted; which of equals comes first is left open. -/
structure TySort (t t' : TypeM) : Prop where
  name : t'.name = t.name
  enum : t'.enum = t.enum
  fperm : t'.fields.Perm t.fields
  fsort : t'.fields.Pairwise fun x y => x.id ≤ y.id
  iperm : t'.items.Perm t.items
  isort : t'.items.Pairwise fun x y => x.n ≤ y.n
  gperm : t'.gone.Perm t.gone
  gsort : t'.gone.Pairwise fun x y => x ≤ y
/-- A book that is sorted: its types by their names, and each one's lists. -/
structure SortOf (ts ts' : BookM) : Prop where
  mid : ∃ ts1 : BookM, ts1.Perm ts ∧ ts1.Pairwise (fun x y => ltStr y.name.toList x.name.toList = false) ∧ ts'.length = ts1.length ∧ ∀ (i : Nat) (t t' : TypeM), ts1[i]? = some t → ts'[i]? = some t' → TySort t t'

theorem heap_kept {w w' : World} {base b k n : Nat} {e e' : TypeId} {c : Array Value} {f : Nat × Nat} {s : SV} {xs : List Value} (h : w.heap[b]? = some (.cells c e f)) (ho : w.ownsRow base e' k (.slice s.a s.len s.cap) n xs) (hne : e ≠ e') (hg : w.grownBy w' s.blk) : w'.heap[b]? = some (.cells c e f) := by
  rw [hg.block b (lt_of_heap h) (fun eb => ?_)]
  · exact h
  · rcases ho.2 with ⟨ev, _⟩ | ⟨g', cap', cur, ev, hb, hgg, _⟩
    · simp only [Value.slice.injEq] at ev
      unfold SV.blk at eb
      rw [ev.1] at eb
      cases eb
    · simp only [Value.slice.injEq] at ev
      unfold SV.blk at eb
      rw [ev.1] at eb
      simp only [Option.map_some, Option.some.injEq] at eb
      subst eb
      exact heap_ne h hgg hne rfl
theorem grown_below {w w' : World} {base k n : Nat} {e : TypeId} {s : SV} {xs : List Value} (ho : w.ownsRow base e k (.slice s.a s.len s.cap) n xs) (hg : w.grownBy w' s.blk) (hb : base ≤ w.heap.size) : Below base w w' :=
  ⟨hg.os, hg.tape, hg.output, hg.size, fun i hi => hg.block i (by omega) (fun eb => by
    have := (ho.lt i (by rw [ownBlock_blk]; exact eb.symm)).1
    omega)⟩

theorem owns_apartS {w : World} {base base' : Nat} {e e' : TypeId} {size size' : Nat} {v : Value} {s' : SV} {n n' : Nat} {xs xs' : List Value}
    (h : w.ownsRow base e size v n xs) (h' : w.ownsRow base' e' size' (.slice s'.a s'.len s'.cap) n' xs') (hne : e ≠ e') : v.ownBlock = none ∨ v.ownBlock ≠ s'.blk := by
  have := owns_apart h h' hne
  rw [ownBlock_blk] at this
  exact this

/-- One list of one type is another now; nothing else has turned. -/
theorem bk_up {w w' : World} {base : Nat} {s : SV} {tvs : List TV} {ts : List TypeM} {i : Nat} {tv : TV} {t t' : TypeM} (h : BkOwn w base s tvs ts) (hi : tvs[i]? = some tv) (hti : ts[i]? = some t)
    (ho : w'.ownsRow base 30 5 (.slice s.a s.len s.cap) tvs.length (tvs.flatMap TV.cells)) (hnew : TyRows w' base tv t') (hold : ∀ (j : Nat) (tv' : TV) (t'' : TypeM), j ≠ i → tvs[j]? = some tv' → ts[j]? = some t'' → TyRows w' base tv' t'') : BkOwn w' base s tvs (ts.set i t') := by
  refine ⟨ho, by rw [List.length_set]; exact h.len, fun j a b h1 h2 => ?_, h.apart⟩
  by_cases e : j = i
  · subst e
    rw [hi] at h1
    cases h1
    rw [List.getElem?_set_self (List.getElem?_eq_some_iff.1 hti).1] at h2
    cases h2
    exact hnew
  · rw [List.getElem?_set_ne (Ne.symm e)] at h2
    exact hold j a b e h1 h2
theorem bk_upF {w w' : World} {base : Nat} {s : SV} {tvs : List TV} {ts : List TypeM} {i : Nat} {tv : TV} {t : TypeM} {l : List FieldM} (h : BkOwn w base s tvs ts) (hi : tvs[i]? = some tv) (hti : ts[i]? = some t)
    (hg : w.grownBy w' tv.fields.blk) (hl : w'.ownsRow base 34 5 (.slice tv.fields.a tv.fields.len tv.fields.cap) l.length (l.flatMap FieldM.cells)) : BkOwn w' base s tvs (ts.set i { t with fields := l }) := by
  have hr := h.inner i tv t hi hti
  have k : ∀ {e : TypeId} {size : Nat} {v : Value} {n : Nat} {xs : List Value}, e ≠ 34 → w.ownsRow base e size v n xs → w'.ownsRow base e size v n xs := fun hne hh => hh.kept hg (owns_apartS hh hr.fields hne)
  refine bk_up h hi hti (k (by decide) h.outer) ⟨hr.name, hr.enum, hl, k (by decide) hr.gone, k (by decide) hr.items⟩ fun j tv' t'' hj h1 h2 => ?_
  have hr' := h.inner j tv' t'' h1 h2
  exact ⟨hr'.name, hr'.enum, hr'.fields.kept hg (by rw [ownBlock_blk]; exact (h.apart j i tv' tv hj h1 hi).fields), k (by decide) hr'.gone, k (by decide) hr'.items⟩
theorem bk_upG {w w' : World} {base : Nat} {s : SV} {tvs : List TV} {ts : List TypeM} {i : Nat} {tv : TV} {t : TypeM} {l : List Int} (h : BkOwn w base s tvs ts) (hi : tvs[i]? = some tv) (hti : ts[i]? = some t)
    (hg : w.grownBy w' tv.gone.blk) (hl : w'.ownsRow base 3 1 (.slice tv.gone.a tv.gone.len tv.gone.cap) l.length (l.flatMap encI)) : BkOwn w' base s tvs (ts.set i { t with gone := l }) := by
  have hr := h.inner i tv t hi hti
  have k : ∀ {e : TypeId} {size : Nat} {v : Value} {n : Nat} {xs : List Value}, e ≠ 3 → w.ownsRow base e size v n xs → w'.ownsRow base e size v n xs := fun hne hh => hh.kept hg (owns_apartS hh hr.gone hne)
  refine bk_up h hi hti (k (by decide) h.outer) ⟨hr.name, hr.enum, k (by decide) hr.fields, hl, k (by decide) hr.items⟩ fun j tv' t'' hj h1 h2 => ?_
  have hr' := h.inner j tv' t'' h1 h2
  exact ⟨hr'.name, hr'.enum, k (by decide) hr'.fields, hr'.gone.kept hg (by rw [ownBlock_blk]; exact (h.apart j i tv' tv hj h1 hi).gone), k (by decide) hr'.items⟩
theorem bk_upI {w w' : World} {base : Nat} {s : SV} {tvs : List TV} {ts : List TypeM} {i : Nat} {tv : TV} {t : TypeM} {l : List ItemM} (h : BkOwn w base s tvs ts) (hi : tvs[i]? = some tv) (hti : ts[i]? = some t)
    (hg : w.grownBy w' tv.items.blk) (hl : w'.ownsRow base 55 2 (.slice tv.items.a tv.items.len tv.items.cap) l.length (l.flatMap ItemM.cells)) : BkOwn w' base s tvs (ts.set i { t with items := l }) := by
  have hr := h.inner i tv t hi hti
  have k : ∀ {e : TypeId} {size : Nat} {v : Value} {n : Nat} {xs : List Value}, e ≠ 55 → w.ownsRow base e size v n xs → w'.ownsRow base e size v n xs := fun hne hh => hh.kept hg (owns_apartS hh hr.items hne)
  refine bk_up h hi hti (k (by decide) h.outer) ⟨hr.name, hr.enum, k (by decide) hr.fields, k (by decide) hr.gone, hl⟩ fun j tv' t'' hj h1 h2 => ?_
  have hr' := h.inner j tv' t'' h1 h2
  exact ⟨hr'.name, hr'.enum, k (by decide) hr'.fields, k (by decide) hr'.gone, hr'.items.kept hg (by rw [ownBlock_blk]; exact (h.apart j i tv' tv hj h1 hi).items)⟩

def TV.apart2 (a b : TV) : Prop := a.apart b ∧ b.apart a
theorem bk_pair {w : World} {base : Nat} {s : SV} {tvs : List TV} {ts : List TypeM} (h : BkOwn w base s tvs ts) : tvs.Pairwise TV.apart2 := by
  rw [List.pairwise_iff_getElem]
  intro i j hi hj hij
  exact ⟨h.apart i j _ _ (by omega) (List.getElem?_eq_getElem hi) (List.getElem?_eq_getElem hj), h.apart j i _ _ (by omega) (List.getElem?_eq_getElem hj) (List.getElem?_eq_getElem hi)⟩
theorem apart_of_pair {tvs : List TV} (h : tvs.Pairwise TV.apart2) : ∀ (i j : Nat) (tv tv' : TV), i ≠ j → tvs[i]? = some tv → tvs[j]? = some tv' → tv.apart tv' := by
  rw [List.pairwise_iff_getElem] at h
  intro i j a b hij h1 h2
  obtain ⟨hi, rfl⟩ := List.getElem?_eq_some_iff.1 h1
  obtain ⟨hj, rfl⟩ := List.getElem?_eq_some_iff.1 h2
  rcases Nat.lt_or_gt_of_ne hij with hh | hh
  · exact (h i j hi hj hh).1
  · exact (h j i hj hi hh).2
theorem flat_zip {tvs : List TV} {ts : List TypeM} (h : tvs.length = ts.length) : ((tvs.zip ts).flatMap fun p => p.1.cells) = tvs.flatMap TV.cells := by
  rw [← List.flatMap_map (f := Prod.fst) (g := TV.cells), List.map_fst_zip (by omega)]
/-- The types in another order. -/
theorem bk_perm {w w' : World} {base : Nat} {s : SV} {tvs : List TV} {ts : List TypeM} {l' : List (TV × TypeM)} (h : BkOwn w base s tvs ts) (hp : l'.Perm (tvs.zip ts)) (hg : w.grownBy w' s.blk) (ho : w'.ownsRow base 30 5 (.slice s.a s.len s.cap) l'.length (l'.flatMap fun p => p.1.cells)) : BkOwn w' base s (l'.map Prod.fst) (l'.map Prod.snd) := by
  refine ⟨?_, by simp, fun i tv t h1 h2 => ?_, ?_⟩
  · rw [List.length_map, List.flatMap_map]; exact ho
  · rw [List.getElem?_map] at h1 h2
    cases hx : l'[i]? with
    | none => rw [hx] at h1; cases h1
    | some p =>
      rw [hx] at h1 h2
      simp only [Option.map_some, Option.some.injEq] at h1 h2
      subst h1 h2
      have hm : p ∈ tvs.zip ts := hp.mem_iff.1 (List.mem_of_getElem? hx)
      obtain ⟨j, hj⟩ := List.getElem?_of_mem hm
      rw [List.getElem?_zip_eq_some] at hj
      have hr := h.inner j _ _ hj.1 hj.2
      exact hr.map fun hne hh => hh.kept hg (owns_apartS hh h.outer hne)
  · refine apart_of_pair ?_
    have hpm : (l'.map Prod.fst).Perm tvs := by
      have := hp.map Prod.fst
      rwa [List.map_fst_zip (by have := h.len; omega)] at this
    exact (hpm.pairwise_iff (fun {a b} (hab : TV.apart2 a b) => (⟨hab.2, hab.1⟩ : TV.apart2 b a))).2 (bk_pair h)
end Go.Proofs.YtmghhakebhgckaaGreatDoor

namespace Go.Proofs.YtmghhakebhgckaaGreatDoor
set_option linter.unusedSimpArgs false
set_option linter.unusedVariables false
open Go.RowKit Go.Sort

structure SortTo (ts1 tsc : BookM) (k : Nat) : Prop where
  len : tsc.length = ts1.length
  at_ : ∀ (i : Nat) (t t' : TypeM), ts1[i]? = some t → tsc[i]? = some t' → (i < k → TySort t t') ∧ (k ≤ i → t' = t)
theorem SortTo.zero (ts : BookM) : SortTo ts ts 0 := ⟨rfl, fun i t t' h1 h2 => ⟨fun h => by omega, fun _ => by rw [h1] at h2; cases h2; rfl⟩⟩
theorem SortTo.next {ts1 tsc : BookM} {k : Nat} {t t' : TypeM} (h : SortTo ts1 tsc k) (ht : ts1[k]? = some t) (hs : TySort t t') : SortTo ts1 (tsc.set k t') (k + 1) := by
  refine ⟨by rw [List.length_set]; exact h.len, fun i a b h1 h2 => ?_⟩
  by_cases e : i = k
  · subst e
    rw [ht] at h1
    cases h1
    have hk : i < tsc.length := by rw [h.len]; exact (List.getElem?_eq_some_iff.1 ht).1
    rw [List.getElem?_set_self hk] at h2
    cases h2
    exact ⟨fun _ => hs, fun hh => by omega⟩
  · rw [List.getElem?_set_ne (Ne.symm e)] at h2
    have := h.at_ i a b h1 h2
    exact ⟨fun hh => this.1 (by omega), fun hh => this.2 (by omega)⟩
theorem Keep24.grown {w w' : World} {base k n : Nat} {e' : TypeId} {s : SV} {xs : List Value} (ho : w.ownsRow base e' k (.slice s.a s.len s.cap) n xs) (hne : 24 ≠ e') (hg : w.grownBy w' s.blk) : Keep24 w w' := fun _ _ _ hb => heap_kept hb ho hne hg
theorem names_of {w : World} {base : Nat} {s : SV} {tvs : List TV} {ts : List TypeM} (h : BkOwn w base s tvs ts) {p : TV × TypeM} (hp : p ∈ tvs.zip ts) : p.1.name = p.2.name := by
  obtain ⟨j, hj⟩ := List.getElem?_of_mem hp
  rw [List.getElem?_zip_eq_some] at hj
  exact (h.inner j _ _ hj.1 hj.2).name

structure TySmall (t : TypeM) : Prop where
  f : t.fields.length ≤ 1048576
  g : t.gone.length ≤ 1048576
  i : t.items.length ≤ 1048576

set_option maxHeartbeats 3200000 in
theorem sortBook_any (base : Nat) (s : SV) (tvs : List TV) (ts : BookM) (w : World) (hbk : BkOwn w base s tvs ts) (hb : base ≤ w.heap.size) (hn : ts.length ≤ 1048576) (hnl : ∀ t ∈ ts, TySmall t) :
    Calls Tryz.prog 45 #[.agg #[.slice s.a s.len s.cap]] w fun e w' => e = .returned (.tuple #[]) ∧ ∃ (tvs' : List TV) (ts' : BookM), BkOwn w' base s tvs' ts' ∧ SortOf ts ts' ∧ Below base w w' ∧ Keep24 w w' := by
  obtain ⟨a, n, cap⟩ := s
  have hl : n = ts.length := by rw [← hbk.len]; exact (bk_outer hbk).1
  subst hl
  have hx0 : Ext w (w.alloc (.cells #[.slice a ts.length cap] 24)) := (Ext.refl w).alloc _
  have hbk0 := bk_ext hbk hx0
  have hlen := hbk.len
  have Hbk0 := hide hbk0
  have hps : (w.alloc (.cells #[.slice a ts.length cap] 24)).ownsRow base 30 5 (.slice a ts.length cap) (tvs.zip ts).length ((tvs.zip ts).flatMap fun p => p.1.cells) := by
    rw [flat_zip hlen, show (tvs.zip ts).length = tvs.length from by rw [List.length_zip]; omega]; exact hbk0.outer
  have Hps := hide hps
  clear hbk hbk0 hps
  go_enter Tryz.func45, Tryz.ntmps45
  go_wp2_with fail
  refine (sortTypes_any (s := ⟨a, ts.length, cap⟩) (ps := tvs.zip ts) (unhide Hps) (by rw [List.length_zip]; omega)).mono ?_
  rintro e w1 ⟨rfl, l', hp, hsrt, ho1, hg1⟩
  have hB1 := heap_kept (heap_alloc_new w (.cells #[.slice a ts.length cap] 24)) (unhide Hps) (by decide) hg1
  have hbe1 := (Below.mono hx0 hb).trans (grown_below (unhide Hps) hg1 (by simp; omega))
  have hkp1 := (Keep24.of_ext hx0).trans (Keep24.grown (unhide Hps) (by decide) hg1)
  have hbk1 := bk_perm (unhide Hbk0) hp hg1 ho1
  have hpt : (l'.map Prod.snd).Perm ts := by
    have := hp.map Prod.snd
    rwa [List.map_snd_zip (by omega)] at this
  have hst : (l'.map Prod.snd).Pairwise fun x y : TypeM => ltStr y.name.toList x.name.toList = false := by
    rw [List.pairwise_map]
    refine List.Pairwise.imp_of_mem (fun {x y} hx hy hh => ?_) hsrt
    rw [← names_of (unhide Hbk0) (hp.mem_iff.1 hx), ← names_of (unhide Hbk0) (hp.mem_iff.1 hy)]
    exact hh
  obtain ⟨tvs1, htv1⟩ : ∃ x, l'.map Prod.fst = x := ⟨_, rfl⟩
  obtain ⟨ts1, hts1⟩ : ∃ x, l'.map Prod.snd = x := ⟨_, rfl⟩
  rw [htv1, hts1] at hbk1
  rw [hts1] at hpt hst
  have hlen1 := hbk1.len
  have hle : ts1.length = ts.length := hpt.length_eq
  have Hbk1 := hide hbk1
  have Hpt := hide hpt
  have Hst := hide hst
  have hsm : ∀ t ∈ ts1, TySmall t := fun t ht => hnl t (hpt.mem_iff.1 ht)
  have Hsm := hide hsm
  have cB : w1.cell? ⟨w.heap.size, 0, none⟩ = some (.slice a ts.length cap) := cell_of_row _ _ 0 _ _ _ hB1
  clear hbk1 hpt hst hsm hnl Hbk0 Hps ho1 hg1 hp hsrt htv1 hts1 l' hlen
  go_wp2
  go_loopw [10] (fun i wr => ∃ (k : Nat) (tsc : BookM), k ≤ ts.length ∧ i = .int .i64 k ∧ BkOwn wr base ⟨a, ts.length, cap⟩ tvs1 tsc ∧ SortTo ts1 tsc k ∧ Below base w wr ∧ Keep24 w wr) (fun i wr => ts.length - (intOf i).toNat)
  case atStart => exact ⟨0, ts1, by omega, rfl, unhide Hbk1, SortTo.zero _, hbe1, hkp1⟩
  case round =>
    obtain ⟨k, tsc, hk, rfl, hbk, hto, hbe, hkp⟩ := hrel
    clear Hbk1 hbe1 hB1 cB hkp1
    by_cases hlt : k < ts.length
    · obtain ⟨tv, htv⟩ : ∃ tv, tvs1[k]? = some tv := ⟨tvs1[k]'(by omega), List.getElem?_eq_getElem _⟩
      obtain ⟨b, o, cs, ha, hr, rfl⟩ := (bk_outer hbk).2 k tv htv
      simp only at ha
      subst ha
      obtain ⟨h0, h1, h2, h3, h4⟩ := range5 hr
      obtain ⟨t, ht⟩ : ∃ t, ts1[k]? = some t := ⟨ts1[k]'(by omega), List.getElem?_eq_getElem _⟩
      have htc : tsc[k]? = some t := by
        have hk' : k < tsc.length := by rw [hto.len]; omega
        have := (hto.at_ k t (tsc[k]) ht (List.getElem?_eq_getElem hk')).2 (Nat.le_refl _)
        rw [List.getElem?_eq_getElem hk', this]
      have htsm := unhide Hsm t (List.mem_of_getElem? ht)
      obtain ⟨m1, m2, m3⟩ := htsm
      obtain ⟨nm, en, ⟨fa, fl, fc⟩, ⟨ga, gl, gc⟩, ⟨ia, il, ic⟩⟩ := tv
      have hx1 : Ext wr (wr.alloc (.cells #[.string nm, .bool en, .slice fa fl fc, .slice ga gl gc, .slice ia il ic] 30)) := (Ext.refl wr).alloc _
      have hb1 := bk_ext hbk hx1
      have hbs : base ≤ (wr.alloc (.cells #[.string nm, .bool en, .slice fa fl fc, .slice ga gl gc, .slice ia il ic] 30)).heap.size := Nat.le_trans (Nat.le_trans hb hbe.size) hx1.size
      have hbe1 := hbe.trans (Below.mono hx1 (Nat.le_trans hb hbe.size))
      have hkp1 := hkp.trans (Keep24.of_ext hx1)
      have hT1 := heap_alloc_new wr (.cells #[.string nm, .bool en, .slice fa fl fc, .slice ga gl gc, .slice ia il ic] 30)
      have Hr1 := hide (hb1.inner k _ t htv htc)
      have Hb1 := hide hb1
      have Htv := hide (And.intro htv htc)
      have Ht := hide ht
      have Hto := hide hto
      simp only at h0 h1 h2 h3 h4
      clear hbk htv htc ht hb1 hto hr hx1
      go_wp2_with fail
      refine (sortFields_any (s := ⟨fa, fl, fc⟩) (unhide Hr1).fields (by omega)).mono ?_
      rintro e w2 ⟨rfl, l1, p1, s1, o1, g1⟩
      have hT2 := heap_kept hT1 (unhide Hr1).fields (by decide) g1
      have hb2 := bk_upF (unhide Hb1) (unhide Htv).1 (unhide Htv).2 g1 o1
      have hbe2 := hbe1.trans (grown_below (unhide Hr1).fields g1 hbs)
      have hkp2 := hkp1.trans (Keep24.grown (unhide Hr1).fields (by decide) g1)
      have hbs2 := Nat.le_trans hbs g1.size
      have htc2 : (tsc.set k { t with fields := l1 })[k]? = some { t with fields := l1 } := List.getElem?_set_self (List.getElem?_eq_some_iff.1 (unhide Htv).2).1
      have Hr2 := hide (hb2.inner k _ _ (unhide Htv).1 htc2)
      have Hb2 := hide hb2
      have Htc2 := hide htc2
      clear hb2 htc2 hT1 hbe1 Hb1 Hr1 o1 g1
      obtain ⟨a0, a1, a2, a3, a4, af⟩ := row5 hT2
      go_wp2_with fail
      refine (sortItems_any (s := ⟨ia, il, ic⟩) (unhide Hr2).items (by simp only; omega)).mono ?_
      rintro e w3 ⟨rfl, l2, p2, s2, o2, g2⟩
      have hT3 := heap_kept hT2 (unhide Hr2).items (by decide) g2
      have hb3 := bk_upI (unhide Hb2) (unhide Htv).1 (unhide Htc2) g2 o2
      have hbe3 := hbe2.trans (grown_below (unhide Hr2).items g2 hbs2)
      have hkp3 := hkp2.trans (Keep24.grown (unhide Hr2).items (by decide) g2)
      have hbs3 := Nat.le_trans hbs2 g2.size
      rw [List.set_set] at hb3
      have htc3 : (tsc.set k { t with fields := l1, items := l2 })[k]? = some { t with fields := l1, items := l2 } := List.getElem?_set_self (List.getElem?_eq_some_iff.1 (unhide Htv).2).1
      have Hr3 := hide (hb3.inner k _ _ (unhide Htv).1 htc3)
      have Hb3 := hide hb3
      have Htc3 := hide htc3
      clear hb3 htc3 hT2 hbe2 Hb2 Hr2 o2 g2 Htc2 a0 a1 a2 a3 a4 af
      obtain ⟨a0, a1, a2, a3, a4, af⟩ := row5 hT3
      go_wp2_with fail
      refine (sortGone_any (s := ⟨ga, gl, gc⟩) (unhide Hr3).gone (by simp only; omega)).mono ?_
      rintro e w4 ⟨rfl, l3, p3, s3, o3, g3⟩
      have hb4 := bk_upG (unhide Hb3) (unhide Htv).1 (unhide Htc3) g3 o3
      have hbe4 := hbe3.trans (grown_below (unhide Hr3).gone g3 hbs3)
      have hkp4 := hkp3.trans (Keep24.grown (unhide Hr3).gone (by decide) g3)
      rw [List.set_set] at hb4
      have Hb4 := hide hb4
      have Hts : Hid (TySort t { t with fields := l1, items := l2, gone := l3 }) := ⟨rfl, rfl, p1, s1, p2, s2, p3, s3⟩
      clear hb4 hT3 hbe3 Hb3 Hr3 o3 g3 Htc3 a0 a1 a2 a3 a4 af
      go_wp2
      exact ⟨⟨k + 1, _, by omega, by go_num, unhide Hb4, (unhide Hto).next (unhide Ht) (unhide Hts), hbe4, hkp4⟩, by simp [intOf]; omega⟩
    · go_wp2
      go_end0
      have e : k = ts.length := by omega
      subst e
      refine ⟨rfl, tvs1, tsc, hbk, ⟨ts1, unhide Hpt, unhide Hst, hto.len, fun i t t' h1 h2 => (hto.at_ i t t' h1 h2).1 ?_⟩, hbe, hkp⟩
      have := (List.getElem?_eq_some_iff.1 h1).1
      omega
end Go.Proofs.YtmghhakebhgckaaGreatDoor

namespace Go.Proofs.YtmghhakebhgckaaGreatDoor
set_option linter.unusedSimpArgs false
set_option linter.unusedVariables false
open Go.RowKit Go.Sort

/-! How many there can be. -/
theorem typeLoop_cnt (s : ByteArray) : ∀ (fuel k : Nat) (bad : Bool) (fs : List FieldM) (gs : List Int) (is : List ItemM), k ≤ s.toList.length → fs.length + is.length ≤ k + bn bad → gs.length ≤ k + bn bad →
    (typeLoop s fuel k bad fs gs is).fs.length + (typeLoop s fuel k bad fs gs is).is.length ≤ s.toList.length + 1 ∧ (typeLoop s fuel k bad fs gs is).gs.length ≤ s.toList.length + 1
  | 0, k, bad, fs, gs, is, hk, h1, h2 => by
    unfold typeLoop
    have : bn bad ≤ 1 := by cases bad <;> decide
    exact ⟨by simp only; omega, by simp only; omega⟩
  | fuel + 1, k, bad, fs, gs, is, hk, h1, h2 => by
    have hb : bn bad ≤ 1 := by cases bad <;> decide
    have hk1 := skipP_le hk
    have hk2 := skipP_le hk1.2
    unfold typeLoop
    split
    · rename_i hm
      have hbf := moreV_bad hm
      subst hbf
      simp only [bn, Bool.false_eq_true, if_false, Nat.add_zero] at h1 h2
      split
      · exact ⟨by simp only; omega, by simp only; omega⟩
      · have hc := lineP_cnt s (skipP s.toList (skipP s.toList k)) fs gs is hk2.2 (by omega) (by omega)
        have hp := lineP_pos s (skipP s.toList (skipP s.toList k)) false fs gs is hk2.2
        exact typeLoop_cnt s fuel _ _ _ _ _ hp.2 hc.1 hc.2
    · exact ⟨by simp only; omega, by simp only; omega⟩
theorem typeP_cnt (s : ByteArray) (k : Nat) (bad : Bool) (hk : k ≤ s.toList.length) : (typeP s k bad).t.fields.length + (typeP s k bad).t.items.length ≤ s.toList.length + 1 ∧ (typeP s k bad).t.gone.length ≤ s.toList.length + 1 := by
  have l1 := wordAt_le (bad := bad) hk
  unfold typeP
  simp only
  generalize headBad (wordStr s k bad) (wordBad s.toList k bad) = b1
  have l2 := wordAt_le (bad := b1) l1.2
  generalize wordBad s.toList (wordAt s.toList k bad) b1 = b2
  have l3 := signAt_le (bad := b2) (c := 123) l2.2
  generalize signBad s.toList (wordAt s.toList (wordAt s.toList k bad) b1) b2 123 = b3
  exact typeLoop_cnt s (2 * s.size + 2) _ b3 [] [] [] l3.2 (by simp) (by simp)
theorem wordStr_size (s : ByteArray) (k : Nat) (bad : Bool) : (wordStr s k bad).size ≤ s.size := by
  unfold wordStr
  split
  · rw [ByteArray.size_extract]; omega
  · exact Nat.zero_le _
structure NmOk (s : ByteArray) (fs : List FieldM) (is : List ItemM) : Prop where
  f : ∀ x ∈ fs, x.name.size ≤ s.size ∧ x.type.size ≤ s.size
  i : ∀ x ∈ is, x.name.size ≤ s.size
theorem fieldP_nm (s : ByteArray) (k : Nat) (bad : Bool) (id : Int) (rule : ByteArray) : (fieldP s k bad id rule).f.name.size ≤ s.size ∧ (fieldP s k bad id rule).f.type.size ≤ s.size := by
  unfold fieldP
  refine ⟨wordStr_size _ _ _, ?_⟩
  simp only
  split
  · exact wordStr_size _ _ _
  · exact Nat.zero_le _
theorem lineP_nm (s : ByteArray) (k : Nat) (bad : Bool) (fs : List FieldM) (gs : List Int) (is : List ItemM) (h : NmOk s fs is) : NmOk s (lineP s k bad fs gs is).fs (lineP s k bad fs gs is).is := by
  unfold lineP lineP0
  simp only
  split
  · exact h
  · split
    · refine ⟨h.f, fun x hx => ?_⟩
      rcases List.mem_append.1 hx with hx | hx
      · exact h.i x hx
      · rw [List.mem_singleton.1 hx]; exact wordStr_size _ _ _
    · refine ⟨fun x hx => ?_, h.i⟩
      rcases List.mem_append.1 hx with hx | hx
      · exact h.f x hx
      · rw [List.mem_singleton.1 hx]; exact fieldP_nm _ _ _ _ _
theorem typeLoop_nm (s : ByteArray) : ∀ (fuel k : Nat) (bad : Bool) (fs : List FieldM) (gs : List Int) (is : List ItemM), NmOk s fs is → NmOk s (typeLoop s fuel k bad fs gs is).fs (typeLoop s fuel k bad fs gs is).is
  | 0, k, bad, fs, gs, is, h => by unfold typeLoop; exact h
  | fuel + 1, k, bad, fs, gs, is, h => by
    unfold typeLoop
    split
    · split
      · exact h
      · exact typeLoop_nm s fuel _ _ _ _ _ (lineP_nm s _ _ fs gs is h)
    · exact h
theorem typeP_small (s : ByteArray) (k : Nat) (bad : Bool) (hk : k ≤ s.toList.length) (hs : s.size ≤ 400000) : (typeP s k bad).t.Small := by
  have hc := typeP_cnt s k bad hk
  rw [size_toList] at hc
  have hnm : NmOk s (typeP s k bad).t.fields (typeP s k bad).t.items := typeLoop_nm s _ _ _ [] [] [] ⟨by simp, by simp⟩
  have hn : (typeP s k bad).t.name.size ≤ s.size := wordStr_size _ _ _
  exact ⟨by omega, by omega, by omega, by omega, fun x hx => by have := hnm.f x hx; omega, fun x hx => by have := hnm.i x hx; omega⟩
theorem bookLoop_cnt (s : ByteArray) (hs : s.size ≤ 400000) : ∀ (fuel k : Nat) (bad : Bool) (ts : List TypeM), k ≤ s.toList.length → ts.length ≤ k + bn bad → (∀ t ∈ ts, t.Small) →
    (bookLoop s fuel k bad ts).ts.length ≤ s.toList.length + 1 ∧ ∀ t ∈ (bookLoop s fuel k bad ts).ts, t.Small
  | 0, k, bad, ts, hk, h1, h2 => by
    have : bn bad ≤ 1 := by cases bad <;> decide
    unfold bookLoop
    exact ⟨by simp only; omega, h2⟩
  | fuel + 1, k, bad, ts, hk, h1, h2 => by
    have hb : bn bad ≤ 1 := by cases bad <;> decide
    have hk1 := skipP_le hk
    unfold bookLoop
    split
    · rename_i hm
      have hbf := moreV_bad hm
      subst hbf
      simp only [bn, Bool.false_eq_true, if_false, Nat.add_zero] at h1
      have hp := typeP_pos s (skipP s.toList k) false hk1.2
      refine bookLoop_cnt s hs fuel _ _ _ hp.2.1 ?_ fun t ht => ?_
      · rw [List.length_append, List.length_singleton]
        cases hbb : (typeP s (skipP s.toList k) false).bad
        · have := hp.2.2 hbb
          simp only [bn, Bool.false_eq_true, if_false]; omega
        · simp only [bn, if_true]; omega
      · rcases List.mem_append.1 ht with ht | ht
        · exact h2 t ht
        · rw [List.mem_singleton.1 ht]; exact typeP_small s _ _ hk1.2 hs
    · exact ⟨by simp only; omega, h2⟩
theorem bookP_cnt (s : ByteArray) (hs : s.size ≤ 400000) : BookM.Small (bookP s).ts := by
  have h := bookLoop_cnt s hs (2 * s.size + 2) 0 false [] (Nat.zero_le _) (by simp) (by simp)
  rw [size_toList] at h
  exact ⟨by unfold bookP; omega, h.2⟩
theorem small_ty {ts : BookM} (h : ts.Small) : ∀ t ∈ ts, TySmall t := fun t ht => ⟨(h.2 t ht).fields, (h.2 t ht).gone, (h.2 t ht).items⟩
theorem sortOf_small {ts ts' : BookM} (h : SortOf ts ts') (hs : ts.Small) : ts'.Small := by
  obtain ⟨ts1, hp, _, hlen, hat⟩ := h.mid
  refine ⟨by rw [hlen, hp.length_eq]; exact hs.1, fun t' ht' => ?_⟩
  obtain ⟨i, hi⟩ := List.getElem?_of_mem ht'
  have hlt := (List.getElem?_eq_some_iff.1 hi).1
  have ht1 : ts1[i]? = some (ts1[i]'(by omega)) := List.getElem?_eq_getElem _
  have hsm := hs.2 _ (hp.mem_iff.1 (List.mem_of_getElem? ht1))
  have hx := hat i _ t' ht1 hi
  exact ⟨by rw [hx.name]; exact hsm.name, by rw [hx.fperm.length_eq]; exact hsm.fields, by rw [hx.gperm.length_eq]; exact hsm.gone, by rw [hx.iperm.length_eq]; exact hsm.items,
    fun x hx' => hsm.fname x (hx.fperm.mem_iff.1 hx'), fun x hx' => hsm.iname x (hx.iperm.mem_iff.1 hx')⟩
theorem kinds_small {ts : BookM} (hs : ts.Small) : BookM.Small (kindsP ts) := by
  refine ⟨by unfold kindsP; rw [List.length_map]; exact hs.1, fun t ht => ?_⟩
  unfold kindsP at ht
  obtain ⟨u, hu, rfl⟩ := List.mem_map.1 ht
  have h := hs.2 u hu
  refine ⟨h.name, by simpa [setT] using h.fields, h.gone, h.items, fun x hx => ?_, h.iname⟩
  simp only [setT] at hx
  obtain ⟨f, hf, rfl⟩ := List.mem_map.1 hx
  have := h.fname f hf
  unfold setF
  split
  · exact this
  · exact this

/-- What Parse answers of a text: the error, and the book's types. -/
def ParseM (s : ByteArray) (er : Int) (us : BookM) : Prop :=
  (4000 < s.size ∧ er = 7 ∧ us = []) ∨ (s.size ≤ 4000 ∧ (bookP s).bad = true ∧ er = 1 ∧ us = []) ∨
  (∃ ts : BookM, s.size ≤ 4000 ∧ (bookP s).bad = false ∧ SortOf (bookP s).ts ts ∧ goodM (kindsP ts) ≠ 0 ∧ er = goodM (kindsP ts) ∧ us = []) ∨
  (∃ ts : BookM, s.size ≤ 4000 ∧ (bookP s).bad = false ∧ SortOf (bookP s).ts ts ∧ goodM (kindsP ts) = 0 ∧ er = 0 ∧ us = kindsP ts)
theorem ParseM.long {s : ByteArray} (h : 4000 < s.size) : ParseM s 7 [] := .inl ⟨h, rfl, rfl⟩
theorem ParseM.form {s : ByteArray} (h : s.size ≤ 4000) (h2 : (bookP s).bad = true) : ParseM s 1 [] := .inr (.inl ⟨h, h2, rfl, rfl⟩)
theorem ParseM.bad {s : ByteArray} (ts : BookM) (h : s.size ≤ 4000) (h2 : (bookP s).bad = false) (h3 : SortOf (bookP s).ts ts) (h4 : goodM (kindsP ts) ≠ 0) : ParseM s (goodM (kindsP ts)) [] := .inr (.inr (.inl ⟨ts, h, h2, h3, h4, rfl, rfl⟩))
theorem ParseM.ok {s : ByteArray} (ts : BookM) (h : s.size ≤ 4000) (h2 : (bookP s).bad = false) (h3 : SortOf (bookP s).ts ts) (h4 : goodM (kindsP ts) = 0) : ParseM s 0 (kindsP ts) := .inr (.inr (.inr ⟨ts, h, h2, h3, h4, rfl, rfl⟩))

set_option maxHeartbeats 3200000 in
theorem parse_any (s : ByteArray) (w : World) (hn1 : NamesAt w 1 rulesL) (hn2 : NamesAt w 2 kindsL) (hw : WordsAt w) (hsz : s.size ≤ 9223372036854775807) :
    Calls Tryz.prog 26 #[.string s] w fun e w' => ∃ (sv : SV) (er : Int) (ts : BookM), e = .returned (.tuple #[.agg #[.slice sv.a sv.len sv.cap], .int .i64 er]) ∧ BookAt w' sv ts ∧ sv.ok ∧ ParseM s er ts ∧ Ext w w' := by
  have nilB : ∀ w' : World, BookAt w' ⟨none, 0, 0⟩ [] := fun w' => ⟨rfl, fun i x h => by simp at h⟩
  have hx0 : Ext w (w.alloc (.cells #[.slice none 0 0] 24)) := (Ext.refl w).alloc _
  have cA0 : (w.alloc (.cells #[.slice none 0 0] 24)).cell? ⟨w.heap.size, 0, none⟩ = some (.slice none 0 0) := cell_of_row _ _ 0 _ _ _ (heap_alloc_new _ _)
  by_cases h4 : 4000 < s.size
  · go_enter Tryz.func26, Tryz.ntmps26
    go_wp2
    refine bodyPost_ret (v := .tuple #[.agg #[.slice none 0 0], .int .i64 7]) (by simp [results, Tryz.results26, go_sem, cA0]) rfl ⟨⟨none, 0, 0⟩, 7, [], rfl, nilB _, ⟨Nat.le_refl _, fun _ => rfl⟩, .long h4, hx0⟩
  · have hle : s.size ≤ 4000 := by omega
    have hx1 : Ext w ((w.alloc (.cells #[.slice none 0 0] 24)).alloc (.cells #[.string s, .int .i64 0, .bool false] 75)) := hx0.alloc _
    have hr1 : RdAt ((w.alloc (.cells #[.slice none 0 0] 24)).alloc (.cells #[.string s, .int .i64 0, .bool false] 75)) (w.heap.size + 1) s (0 : Nat) false := heap_alloc2_new _ _ _
    have hA1 := heap_alloc2_old w (.cells #[.slice none 0 0] 24) (.cells #[.string s, .int .i64 0, .bool false] 75)
    obtain ⟨R, hR⟩ : ∃ R, bookP s = R := ⟨_, rfl⟩
    have HR := hide hR
    clear hR
    go_enter Tryz.func26, Tryz.ntmps26
    go_wp2_with fail
    refine (book_any w (w.heap.size + 1) s _ hx1 (by omega) hn1 hn2 hr1 (by omega) R (unhide HR)).mono ?_
    rintro e w2 ⟨sv, tvs, rfl, hbk2, hr2, hg2⟩
    have hA2 := heap_grown hg2 hA1 (by omega)
    have hx2 : Ext w w2 := hx1.grownSome hg2 (by omega)
    have hz2 : w.heap.size + 2 ≤ w2.heap.size := by have := hg2.size; simpa using this
    have hbk2' : BkOwn w2 (w.heap.size + 2) sv tvs R.ts := by simpa using hbk2
    obtain ⟨_, _, cb2, _⟩ := hr2.cells
    have Hbk2 := hide hbk2'
    clear hbk2 hbk2' hr1 hA1 hx1 hg2
    have hx3 : Ext w2 (w2.alloc (.cells #[.slice sv.a sv.len sv.cap] 24)) := (Ext.refl w2).alloc _
    have cb3 := hx3.cell cb2
    have cA3 : (w2.alloc (.cells #[.slice sv.a sv.len sv.cap] 24)).cell? ⟨w.heap.size, 0, none⟩ = some (.slice none 0 0) := hx3.cell (cell_of_row w2 w.heap.size 0 _ _ _ hA2)
    have fA3 : (w2.alloc (.cells #[.slice sv.a sv.len sv.cap] 24)).frozen? ⟨w.heap.size, 0, none⟩ = false := frozen_of_row _ _ 0 _ _ (hx3.heap hA2)
    have hD3 := heap_alloc_new w2 (.cells #[.slice sv.a sv.len sv.cap] 24)
    have hA3 := hx3.heap hA2
    cases hbad : R.bad
    · rw [hbad] at cb2 cb3
      have hsm : BookM.Small R.ts := by have := bookP_cnt s (by omega); rw [unhide HR] at this; exact this
      have Hbad := hide hbad
      have Hsm := hide hsm
      have hsm1 := hsm.1
      clear hbad hsm
      go_wp2_with fail
      refine (sortBook_any (w.heap.size + 2) sv tvs R.ts _ (bk_ext (unhide Hbk2) hx3) (by have := hx3.size; omega) hsm1 (small_ty (unhide Hsm))).mono ?_
      rintro e w4 ⟨rfl, tvs4, ts4, hbk4, hso, hbe4, hkp4⟩
      have hsm4 := sortOf_small hso (unhide Hsm)
      have hD4 := hkp4 _ _ _ hD3
      have hA4 := hkp4 _ _ _ hA3
      have hx4 : Ext w w4 := Below.trans (B := w.heap.size) (hx2.trans hx3) (Below.mono hbe4 (by omega))
      have cD4 : w4.cell? ⟨w2.heap.size, 0, none⟩ = some (.slice sv.a sv.len sv.cap) := cell_of_row w4 _ 0 _ _ _ hD4
      have hz4 := lt_of_heap hD4
      have Hbk4 := hide hbk4
      have Hso := hide hso
      have Hsm4 := hide hsm4
      have hsm41 := hsm4.1
      clear hbk4 hso hsm4 cb2 cb3 cA3 hbe4 hkp4 hD3 hA3
      go_wp2_with fail
      refine (setKinds_any (w.heap.size + 2) sv tvs4 ts4 w4 (unhide Hbk4) (by omega) hsm41 (fun t ht => ((unhide Hsm4).2 t ht).fields)).mono ?_
      rintro e w5 ⟨rfl, hbk5, hbe5, hkp5⟩
      have hsm5 := kinds_small (unhide Hsm4)
      have hD5 := hkp5 _ _ _ hD4
      have hA5 := hkp5 _ _ _ hA4
      have hx5 : Ext w w5 := Below.trans (B := w.heap.size) hx4 (Below.mono hbe5 (by omega))
      have cD5 : w5.cell? ⟨w2.heap.size, 0, none⟩ = some (.slice sv.a sv.len sv.cap) := cell_of_row w5 _ 0 _ _ _ hD5
      have hw5 := hw.ext hx5
      have hok : sv.ok := ok_of_owns hbk5.outer
      have HB5 := hide hbk5
      clear hbk5 hD4 hA4 cD4 hbe5 hkp5
      obtain ⟨er, her⟩ : ∃ er, goodM (kindsP ts4) = er := ⟨_, rfl⟩
      have Her := hide her
      clear her
      go_wp2_with fail
      refine (good_any sv (kindsP ts4) hsm5.fits w5 (bk_book (unhide HB5)) hw5).mono ?_
      rintro e w6 ⟨rfl, hx6⟩
      rw [unhide Her]
      have cA6 : w6.cell? ⟨w.heap.size, 0, none⟩ = some (.slice none 0 0) := hx6.cell (cell_of_row w5 _ 0 _ _ _ hA5)
      have fA6 : w6.frozen? ⟨w.heap.size, 0, none⟩ = false := frozen_of_row w6 _ 0 _ _ (hx6.heap hA5)
      have cD6 := hx6.cell cD5
      have hx06 : Ext w w6 := hx5.trans hx6
      have hB6 := bk_ext (unhide HB5) hx6
      have HB6 := hide hB6
      clear hB6 HB5 hx6 hA5 hD5 cD5 hw5 hsm5
      cases hz : (er == 0)
      · have hpm : ParseM s er [] := by
          have := ParseM.bad (s := s) ts4 hle (by rw [unhide HR]; exact unhide Hbad) (by rw [unhide HR]; exact unhide Hso) (by rw [unhide Her]; simpa using hz)
          rw [unhide Her] at this; exact this
        have Hpm := hide hpm
        clear hpm
        go_wp2
        refine bodyPost_ret (v := .tuple #[.agg #[.slice none 0 0], .int .i64 er]) (by simp [results, Tryz.results26, go_sem, cA6]) rfl ⟨⟨none, 0, 0⟩, er, [], rfl, nilB _, ⟨Nat.le_refl _, fun _ => rfl⟩, unhide Hpm, hx06.setCell (by simp) _⟩
      · have e0 : er = 0 := by simpa using hz
        subst e0
        have hpm : ParseM s 0 (kindsP ts4) := ParseM.ok (s := s) ts4 hle (by rw [unhide HR]; exact unhide Hbad) (by rw [unhide HR]; exact unhide Hso) (unhide Her)
        have Hpm := hide hpm
        clear hpm hz
        go_wp2
        refine bodyPost_ret (v := .tuple #[.agg #[.slice sv.a sv.len sv.cap], .int .i64 0]) (by simp [results, Tryz.results26, go_sem, cA6]) rfl ⟨sv, 0, kindsP ts4, rfl, ?_, hok, unhide Hpm, hx06.setCell (by simp) _⟩
        exact bk_book ((unhide HB6).map fun h => ownsRow_setCell_below h (show w.heap.size < w.heap.size + 2 by omega) _)
    · rw [hbad] at cb2 cb3
      go_wp2
      refine bodyPost_ret (v := .tuple #[.agg #[.slice none 0 0], .int .i64 1]) (by simp [results, Tryz.results26, go_sem, cA3]) rfl ⟨⟨none, 0, 0⟩, 1, [], rfl, nilB _, ⟨Nat.le_refl _, fun _ => rfl⟩, .form hle (by rw [unhide HR]; exact hbad), (hx2.trans hx3).setCell (by simp) _⟩
end Go.Proofs.YtmghhakebhgckaaGreatDoor

