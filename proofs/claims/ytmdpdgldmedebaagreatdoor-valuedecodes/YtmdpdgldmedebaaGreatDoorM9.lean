import Derived.Test.YtmdpdgldmedebaaGreatDoorM8
namespace Go.Proofs.YtmdpdgldmedebaaGreatDoor
set_option linter.unusedSimpArgs false
set_option linter.unusedVariables false
set_option linter.unusedSimpArgs false
set_option linter.unusedVariables false
open Go.RowKit

theorem all_range {p : Nat → Bool} {n : Nat} (h : (List.range n).all p = true) {k : Nat} (hk : k < n) : p k = true := by
  rw [List.all_eq_true] at h
  exact h k (List.mem_range.2 hk)
/-- What rises from each to the next rises all along. -/
theorem pairwise_next {α : Type} {r : α → α → Prop} (ht : ∀ x y z, r x y → r y z → r x z) (l : List α) (h : ∀ (k : Nat) (x y : α), l[k]? = some x → l[k + 1]? = some y → r x y) : l.Pairwise r := by
  rw [List.pairwise_iff_getElem]
  intro i j hi hj hij
  have key : ∀ d, ∀ (hd : i + 1 + d < l.length), r l[i] l[i + 1 + d] := by
    intro d
    induction d with
    | zero => intro hd; exact h i _ _ (List.getElem?_eq_getElem hi) (List.getElem?_eq_getElem hd)
    | succ d ih => intro hd; exact ht _ _ _ (ih (by omega)) (h (i + 1 + d) _ _ (List.getElem?_eq_getElem (by omega)) (List.getElem?_eq_getElem hd))
  have := key (j - (i + 1)) (by omega)
  have e : i + 1 + (j - (i + 1)) = j := by omega
  simp only [e] at this
  exact this
theorem risingL_out {l : List Int} {lo hi : Int} (h : risingL l lo hi = true) : l.Pairwise (fun x y => x < y) ∧ ∀ x ∈ l, lo ≤ x ∧ x ≤ hi := by
  unfold risingL at h
  refine ⟨pairwise_next (fun x y z h1 h2 => by omega) l fun k x y hx hy => ?_, fun x hx => ?_⟩
  · obtain ⟨h2, rfl⟩ := List.getElem?_eq_some_iff.1 hy
    obtain ⟨h1, rfl⟩ := List.getElem?_eq_some_iff.1 hx
    have := (risesAt_iff h2).1 (all_range h h2)
    rcases this.2.2 with h0 | h0
    · omega
    · simpa using h0
  · obtain ⟨i, hi, rfl⟩ := List.getElem_of_mem hx
    have := (risesAt_iff hi).1 (all_range h hi)
    exact ⟨this.1, this.2.1⟩
/-- What a good type is. -/
structure GoodT (ts : BookM) (t : TypeM) : Prop where
  name : namedL t.name.toList = true
  enum : t.enum = true → t.fields = [] ∧ t.gone = [] ∧ 1 ≤ t.items.length ∧ t.items.length ≤ 6 ∧ goodNamesL (t.items.map (·.name)) = true ∧ risingL (t.items.map (·.n)) (-1099511627776) 1099511627776 = true
  msg : t.enum = false → t.items = [] ∧ t.fields.length ≤ 5 ∧ (∀ f ∈ t.fields, goodFieldM ts f = true) ∧ goodNamesL (t.fields.map (·.name)) = true ∧ goodIdsL (t.fields.map (·.id)) t.gone = true
theorem goodM_out {ts : BookM} (h : goodM ts = 0) : ts.length ≤ 4 ∧ ∀ t ∈ ts, GoodT ts t := by
  unfold goodM at h
  split at h
  · cases h
  · rename_i h4
    split at h
    · rename_i hall
      have hget : ∀ k (hk : k < ts.length), ts.getD k TypeM.zero = ts[k] := fun k hk => by simp [List.getD, hk]
      refine ⟨by omega, fun t ht => ?_⟩
      · obtain ⟨i, hi, rfl⟩ := List.getElem_of_mem ht
        have hok := all_range hall hi
        unfold typeOkAt at hok
        rw [hget _ hi, Bool.and_eq_true] at hok
        have hg := hok.2
        unfold goodTypeM at hg
        rw [Bool.and_eq_true] at hg
        refine ⟨hg.1, fun he => ?_, fun he => ?_⟩
        · have := hg.2
          rw [he, if_pos rfl] at this
          unfold goodEnumM at this
          split at this
          · cases this
          · rename_i h1
            split at this
            · cases this
            · rw [Bool.and_eq_true] at this
              exact ⟨List.length_eq_zero_iff.1 (by omega), List.length_eq_zero_iff.1 (by omega), by omega, by omega, this.1, this.2⟩
        · have := hg.2
          rw [he] at this
          simp only [Bool.false_eq_true, if_false] at this
          unfold goodMessageM at this
          split at this
          · cases this
          · rw [Bool.and_eq_true, Bool.and_eq_true] at this
            refine ⟨List.length_eq_zero_iff.1 (by omega), by omega, fun f hf => ?_, this.2.1, this.2.2⟩
            obtain ⟨j, hj, rfl⟩ := List.getElem_of_mem hf
            have hfo := all_range this.1 hj
            unfold fieldOkAt at hfo
            simpa [List.getD, hj] using hfo
    · cases h
theorem goodIds_out {ids gone : List Int} (h : goodIdsL ids gone = true) : risingL ids 1 30 = true ∧ risingL gone 1 30 = true := by
  unfold goodIdsL at h
  rw [Bool.and_eq_true, Bool.and_eq_true] at h
  exact h.1
theorem goodField_out {ts : BookM} {f : FieldM} (h : goodFieldM ts f = true) : (1 ≤ f.rule ∧ f.rule ≤ 3) ∧ 1 ≤ f.kind ∧ f.kind ≤ 5 := by
  unfold goodFieldM at h
  split at h
  · cases h
  · split at h
    · omega
    · split at h
      · omega
      · cases h
theorem rise_len : ∀ (l : List Int) (lo hi : Int), l.Pairwise (fun x y => x < y) → (∀ x ∈ l, lo ≤ x ∧ x ≤ hi) → (l.length : Int) ≤ max 0 (hi - lo + 1)
  | [], lo, hi, _, _ => by simp; omega
  | a :: l, lo, hi, hp, hb => by
    rw [List.pairwise_cons] at hp
    have ha := hb a (by simp)
    have ih := rise_len l (a + 1) hi hp.2 (fun x hx => ⟨by have := hp.1 x hx; omega, (hb x (by simp [hx])).2⟩)
    rw [List.length_cons]
    omega
theorem named_len {b : ByteArray} (h : namedL b.toList = true) : b.toList.length ≤ 12 := by
  unfold namedL at h
  simp only [Bool.and_eq_true, decide_eq_true_eq] at h
  exact h.1.1.2
theorem size_of_named {b : ByteArray} (h : namedL b.toList = true) : b.size ≤ 12 := by
  have := named_len h
  rwa [size_toList] at this
theorem names_out {l : List ByteArray} (h : goodNamesL l = true) : ∀ x ∈ l, namedL x.toList = true := by
  intro x hx
  obtain ⟨i, hi, rfl⟩ := List.getElem_of_mem hx
  have := all_range h hi
  unfold nameOkAt at this
  rw [Bool.and_eq_true] at this
  simpa [List.getD, hi] using this.1
theorem type_size {ts : BookM} {f : FieldM} (hg : goodFieldM ts f = true) (hts : ∀ t ∈ ts, namedL t.name.toList = true) : f.type.size ≤ 12 := by
  unfold goodFieldM at hg
  rw [← size_toList]
  split at hg
  · cases hg
  · split at hg
    · rw [List.isEmpty_iff.1 hg]; simp
    · split at hg
      · cases hfd : findM ts f.type with
        | none => rw [hfd] at hg; cases hg
        | some u =>
          have hun : u.name.toList = f.type.toList := by
            have := List.find?_some hfd
            simpa using this
          rw [← hun]; exact named_len (hts u (findM_mem hfd))
      · cases hg
/-- A good book is small. -/
theorem good_small {ts : BookM} (h : goodM ts = 0) : ts.Small := by
  obtain ⟨h1, h3⟩ := goodM_out h
  refine ⟨by omega, fun t ht => ?_⟩
  have g := h3 t ht
  have hnm := size_of_named g.name
  cases he : t.enum
  · obtain ⟨g1, g2, g3, g4, g5⟩ := g.msg he
    obtain ⟨_, g7⟩ := goodIds_out g5
    obtain ⟨g8, g9⟩ := risingL_out g7
    have hroom := rise_len t.gone 1 30 g8 g9
    refine ⟨by omega, by omega, by omega, by rw [g1]; simp, fun x hx => ?_, fun x hx => by rw [g1] at hx; exact absurd hx List.not_mem_nil⟩
    have hx1 := size_of_named (names_out g4 _ (List.mem_map_of_mem hx))
    have hx2 := type_size (g3 x hx) fun u hu => (h3 u hu).name
    exact ⟨by omega, by omega⟩
  · obtain ⟨g1, g2, g3, g4, g5, g6⟩ := g.enum he
    refine ⟨by omega, by rw [g1]; simp, by rw [g2]; simp, by omega, fun x hx => by rw [g1] at hx; exact absurd hx List.not_mem_nil, fun x hx => ?_⟩
    have hx1 := size_of_named (names_out g5 _ (List.mem_map_of_mem hx))
    omega
theorem goodM_least {ts : BookM} (h : goodM ts = 0) : ∀ t ∈ ts, t.enum = false → 1 ≤ leastM ts 4 t.name ∧ leastM ts 4 t.name ≤ 12 := by
  unfold goodM at h
  split at h
  · cases h
  · split at h
    · split at h
      · rename_i hall
        intro t ht he
        obtain ⟨i, hi, rfl⟩ := List.getElem_of_mem ht
        have := all_range hall hi
        unfold leastOkAt goodLeastB at this
        rw [show ts.getD i TypeM.zero = ts[i] by simp [List.getD, hi], he] at this
        simpa using this
      · cases h
    · cases h
theorem find_name {ts : BookM} {name : ByteArray} {t : TypeM} (h : findM ts name = some t) : t.name = name := by
  have := List.find?_some h
  exact bytes_ext (by rw [← bytes_toList, ← bytes_toList]; simpa using this)
end Go.Proofs.YtmdpdgldmedebaaGreatDoor

namespace Go.Proofs.YtmdpdgldmedebaaGreatDoor
set_option linter.unusedSimpArgs false
set_option linter.unusedVariables false
open Go.RowKit

/-- What is wrong ahead of all that is asked of a message's values, and the message. -/
def msgE (ts : BookM) (name : ByteArray) : Int := if goodM ts ≠ 0 then 1 else if (findM ts name).isSome = false ∨ ((findM ts name).getD TypeM.zero).enum = true then 3 else 0
def msgT (ts : BookM) (name : ByteArray) : TypeM := if msgE ts name = 0 then (findM ts name).getD TypeM.zero else TypeM.zero
theorem msgE_bad {ts : BookM} {name : ByteArray} (h : goodM ts ≠ 0) : msgE ts name = 1 ∧ msgT ts name = TypeM.zero := by
  have e : msgE ts name = 1 := by unfold msgE; rw [if_pos h]
  exact ⟨e, by unfold msgT; rw [e]; rfl⟩
theorem msgE_none {ts : BookM} {name : ByteArray} (h : goodM ts = 0) (hf : (findM ts name).isSome = false ∨ ((findM ts name).getD TypeM.zero).enum = true) : msgE ts name = 3 ∧ msgT ts name = TypeM.zero := by
  have e : msgE ts name = 3 := by unfold msgE; rw [if_neg (by simp [h]), if_pos hf]
  exact ⟨e, by unfold msgT; rw [e]; rfl⟩
theorem msgE_ok {ts : BookM} {name : ByteArray} (h : goodM ts = 0) (hf : (findM ts name).isSome = true) (he : ((findM ts name).getD TypeM.zero).enum = false) : msgE ts name = 0 ∧ msgT ts name = (findM ts name).getD TypeM.zero := by
  have e : msgE ts name = 0 := by unfold msgE; rw [if_neg (by simp [h]), if_neg (by simp [hf, he])]
  exact ⟨e, by unfold msgT; rw [e]; rfl⟩

theorem heaps2 {w w0 : World} {a b : Obj} (h : w0 = (w.alloc a).alloc b) : Ext w w0 ∧ w0.heap.size = w.heap.size + 2 ∧ w0.heap[w.heap.size]? = some a ∧ w0.heap[w.heap.size + 1]? = some b := by
  subst h
  refine ⟨((Ext.refl w).alloc _).alloc _, by simp, ((Ext.refl _).alloc _).heap (heap_alloc_new w a), ?_⟩
  have := heap_alloc_new (w.alloc a) b
  simpa using this
theorem row1 {w : World} {g : Nat} {t : TypeId} {c : Value} (hb : w.heap[g]? = some (.cells #[c] t (0, 0))) : w.cell? ⟨g, 0, none⟩ = some c ∧ w.frozen? ⟨g, 0, none⟩ = false := ⟨cell_of_row w g 0 _ t _ hb, frozen_of_row w g 0 _ t hb⟩

theorem zero_fresh (w : World) : TV.Fresh w ⟨⟨#[]⟩, false, ⟨none, 0, 0⟩, ⟨none, 0, 0⟩, ⟨none, 0, 0⟩⟩ := ⟨fun ad ha => (by cases ha), fun ad ha => (by cases ha), fun ad ha => (by cases ha)⟩

set_option maxHeartbeats 3200000 in
theorem messageOf_any (sb : SV) (ts : BookM) (name : ByteArray) (w : World) (hb : BookAt w sb ts) (hw : WordsAt w) (hn : ts.Fits) :
    Calls Tryz.prog 23 #[.agg #[.slice sb.a sb.len sb.cap], .string name] w fun e w' => ∃ tv : TV, e = .returned (.tuple #[.agg #[.string tv.name, .bool tv.enum, .slice tv.fields.a tv.fields.len tv.fields.cap, .slice tv.gone.a tv.gone.len tv.gone.cap, .slice tv.items.a tv.items.len tv.items.cap], .int .i64 (msgE ts name)]) ∧ TypeAt w' tv (msgT ts name) ∧ Ext w w' ∧ tv.Fresh w := by
  obtain ⟨w0, hw0⟩ : ∃ w0, w0 = (w.alloc (.cells #[.slice sb.a sb.len sb.cap] 24)).alloc (.cells #[.string ⟨#[]⟩, .bool false, .slice none 0 0, .slice none 0 0, .slice none 0 0] 50) := ⟨_, rfl⟩
  obtain ⟨hx0, hz, r0, r1⟩ := heaps2 hw0
  have HW0 := hide hw0
  clear hw0
  have hb0 := hb.ext hx0
  have hw1 := hw.ext hx0
  have b0 : w0.cell? ⟨w.heap.size, 0, none⟩ = some (.slice sb.a sb.len sb.cap) := cell_of_row _ _ 0 _ _ _ r0
  clear hb hw
  have M1 := hide (@msgE_bad ts name)
  have M2 := hide (@msgE_none ts name)
  have M3 := hide (@msgE_ok ts name)
  generalize msgE ts name = R at *
  generalize msgT ts name = T at *
  go_enter Tryz.func23, Tryz.ntmps23
  go_wp2_with fail
  refine (good_any sb ts hn _ (by rw [← unhide HW0]; exact hb0) (by rw [← unhide HW0]; exact hw1)).mono ?_
  rw [← unhide HW0]
  rintro e w1 ⟨rfl, hx1⟩
  have R1 := hx1.heap r1
  obtain ⟨c0, c1, c2, c3, c4, cf⟩ := row5 R1
  have z1 := lt_of_heap R1
  have g0 := hx1.cell b0
  have hE1 := hx0.trans hx1
  by_cases hg : goodM ts = 0
  case neg =>
    obtain ⟨e1, e2⟩ := unhide M1 hg
    have He1 := hide e1
    have He2 := hide e2
    have hgb : (goodM ts == 0) = false := by simpa using hg
    clear M1 M2 M3 e1 e2 hg
    go_wp2
    refine bodyPost_ret (v := .tuple #[.agg #[.string ⟨#[]⟩, .bool false, .slice none 0 0, .slice none 0 0, .slice none 0 0], .int .i64 1]) ?_ rfl ⟨⟨⟨#[]⟩, false, ⟨none, 0, 0⟩, ⟨none, 0, 0⟩, ⟨none, 0, 0⟩⟩, by rw [unhide He1], ?_, ?_, ?_⟩
    · simp [results, Tryz.results23, go_sem, c0, c1, c2, c3, c4, cf, z1]
    · rw [unhide He2]; exact zeroTypeAt _
    · exact hE1.setCell5 (by omega) _ _ _ _ _
    · exact zero_fresh w
  have hsm := good_small hg
  have hgb : (goodM ts == 0) = true := by simpa using hg
  have Hg := hide hg
  clear hg
  go_wp2_with fail
  refine (find_any sb ts name _ (hb0.ext hx1) hsm).mono ?_
  rintro e w2 ⟨tv, rfl, htv, hx2, hfr⟩
  have hE2 := hE1.trans hx2
  have R2 := hx2.heap R1
  have z2 : w1.heap.size ≤ w2.heap.size := hx2.size
  have hfr1 : tv.Fresh w1 := hfr
  clear c0 c1 c2 c3 c4 cf g0
  obtain ⟨c0, c1, c2, c3, c4, cf⟩ := row5 R2
  have hx3 : Ext w2 (w2.alloc (.cells #[.string tv.name, .bool tv.enum, .slice tv.fields.a tv.fields.len tv.fields.cap, .slice tv.gone.a tv.gone.len tv.gone.cap, .slice tv.items.a tv.items.len tv.items.cap] 50)) := (Ext.refl w2).alloc _
  have hE3 := hE2.trans hx3
  have Htv := hide htv
  have een := htv.enum
  have hzz : w.heap.size + 1 < w2.heap.size := by omega
  clear htv hfr
  have M2' : Hid ((findM ts name).isSome = false ∨ tv.enum = true → R = 3 ∧ T = TypeM.zero) := fun h => unhide M2 (unhide Hg) (by rw [← een]; exact h)
  have M3' : Hid ((findM ts name).isSome = true → tv.enum = false → R = 0 ∧ T = (findM ts name).getD TypeM.zero) := fun h h' => unhide M3 (unhide Hg) h (by rw [← een]; exact h')
  clear M1 M2 M3 een
  have hhx : w.heap.size + 1 ≠ w2.heap.size := by omega
  cases hok : (findM ts name).isSome
  · obtain ⟨e1, e2⟩ := unhide M2' (.inl hok)
    have He1 := hide e1
    have He2 := hide e2
    clear M2' M3' e1 e2 hok
    go_wp2
    refine bodyPost_ret (v := .tuple #[.agg #[.string ⟨#[]⟩, .bool false, .slice none 0 0, .slice none 0 0, .slice none 0 0], .int .i64 3]) ?_ rfl ⟨⟨⟨#[]⟩, false, ⟨none, 0, 0⟩, ⟨none, 0, 0⟩, ⟨none, 0, 0⟩⟩, by rw [unhide He1], ?_, ?_, zero_fresh w⟩
    · simp [results, Tryz.results23, go_sem, c0, c1, c2, c3, c4, hzz]
    · rw [unhide He2]; exact zeroTypeAt _
    · exact (hE2.setCell5 (by omega) _ _ _ _ _).alloc _
  · obtain ⟨nm, en, fs, gs, is⟩ := tv
    cases en
    · obtain ⟨e1, e2⟩ := unhide M3' hok rfl
      have He1 := hide e1
      have He2 := hide e2
      clear M2' M3' e1 e2 hok
      go_wp2
      refine bodyPost_ret (v := .tuple #[.agg #[.string nm, .bool false, .slice fs.a fs.len fs.cap, .slice gs.a gs.len gs.cap, .slice is.a is.len is.cap], .int .i64 0]) ?_ rfl ⟨⟨nm, false, fs, gs, is⟩, by rw [unhide He1], ?_, ?_, ?_⟩
      · simp [results, Tryz.results23, go_sem, c0, c1, c2, c3, c4, hzz]
      · rw [unhide He2]; exact ((unhide Htv).setCell5 ((hfr1.off (by omega))) _ _ _ _ _).ext ((Ext.refl _).alloc _)
      · exact (hE2.setCell5 (by omega) _ _ _ _ _).alloc _
      · exact hfr1.mono (by have := hE1.size; omega)
    · obtain ⟨e1, e2⟩ := unhide M2' (.inr rfl)
      have He1 := hide e1
      have He2 := hide e2
      clear M2' M3' e1 e2 hok
      go_wp2
      refine bodyPost_ret (v := .tuple #[.agg #[.string ⟨#[]⟩, .bool false, .slice none 0 0, .slice none 0 0, .slice none 0 0], .int .i64 3]) ?_ rfl ⟨⟨⟨#[]⟩, false, ⟨none, 0, 0⟩, ⟨none, 0, 0⟩, ⟨none, 0, 0⟩⟩, by rw [unhide He1], ?_, ?_, zero_fresh w⟩
      · simp [results, Tryz.results23, go_sem, c0, c1, c2, c3, c4, hzz]
      · rw [unhide He2]; exact zeroTypeAt _
      · exact (hE2.setCell5 (by omega) _ _ _ _ _).alloc _
end Go.Proofs.YtmdpdgldmedebaaGreatDoor

namespace Go.Proofs.YtmdpdgldmedebaaGreatDoor
set_option linter.unusedSimpArgs false
set_option linter.unusedVariables false
open Go.RowKit

/-- A value's height is at most the number. -/
def Fits : Nat → ValueM → Prop
  | 0, _ => False
  | k + 1, v => ∀ x ∈ v.l, Fits k x
theorem Fits.succ : ∀ {k : Nat} {v : ValueM}, Fits k v → Fits (k + 1) v
  | 0, _, h => h.elim
  | _ + 1, _, h => fun x hx => Fits.succ (h x hx)
theorem Fits.le {k m : Nat} {v : ValueM} (h : Fits k v) (hm : k ≤ m) : Fits m v := by
  obtain ⟨d, rfl⟩ := Nat.exists_eq_add_of_le hm
  induction d with
  | zero => exact h
  | succ d ih => exact (ih (by omega)).succ
theorem Fits.inner {k : Nat} {v : ValueM} (h : Fits k v) : ∀ x ∈ v.l, Fits k x := by
  cases k with
  | zero => exact h.elim
  | succ k => exact fun x hx => (h x hx).succ
theorem ValueAt.fits : ∀ {k : Nat} {w : World} {cs : List Value} {v : ValueM}, ValueAt k w cs v → Fits k v
  | 0, _, _, _, h => h.elim
  | _ + 1, _, _, _, ⟨_, _, _, _, h3, _, _⟩ => fun x hx => by
    obtain ⟨i, hi, rfl⟩ := List.getElem_of_mem hx
    obtain ⟨_, _, _, _, _, h⟩ := h3.2 i _ (List.getElem?_eq_getElem hi)
    exact h.fits
/-- A value's own five cells, and its lists, whose elements are told with the same number. -/
theorem ValueAt.opens {k : Nat} {w : World} {cs : List Value} {v : ValueM} (h : ValueAt k w cs v) : ∃ ids l : SV, cs = [.int .i64 v.kind, .int .i64 v.n, .string v.s, .slice ids.a ids.len ids.cap, .slice l.a l.len l.cap] ∧ IntsAt w ids v.ids ∧ SliceAt 5 (ValueAt k) w l v.l ∧ ids.ok ∧ l.ok := by
  cases k with
  | zero => exact h.elim
  | succ k =>
    obtain ⟨i, l, h1, h2, h3, h4, h5⟩ := h
    exact ⟨i, l, h1, h2, ⟨h3.1, fun j x hx => let ⟨b, o, cs, a1, a2, a3⟩ := h3.2 j x hx; ⟨b, o, cs, a1, a2, a3.mono⟩⟩, h4, h5⟩

def sumL (f : ValueM → Nat) : List ValueM → Nat
  | [] => 0
  | x :: r => f x + sumL f r
def maxL (f : ValueM → Nat) : List ValueM → Nat
  | [] => 0
  | x :: r => max (f x) (maxL f r)
theorem sumL_congr {f g : ValueM → Nat} : ∀ {l : List ValueM}, (∀ x ∈ l, f x = g x) → sumL f l = sumL g l
  | [], _ => rfl
  | x :: r, h => by rw [sumL, sumL, h x (by simp), sumL_congr (fun y hy => h y (by simp [hy]))]
theorem maxL_congr {f g : ValueM → Nat} : ∀ {l : List ValueM}, (∀ x ∈ l, f x = g x) → maxL f l = maxL g l
  | [], _ => rfl
  | x :: r, h => by rw [maxL, maxL, h x (by simp), maxL_congr (fun y hy => h y (by simp [hy]))]
theorem sumL_mem {f : ValueM → Nat} : ∀ {l : List ValueM} {x : ValueM}, x ∈ l → f x ≤ sumL f l
  | y :: r, x, h => by
    rw [sumL]
    rcases List.mem_cons.1 h with rfl | h
    · omega
    · have := sumL_mem (f := f) h; omega
theorem maxL_mem {f : ValueM → Nat} : ∀ {l : List ValueM} {x : ValueM}, x ∈ l → f x ≤ maxL f l
  | y :: r, x, h => by
    rw [maxL]
    rcases List.mem_cons.1 h with rfl | h
    · omega
    · have := maxL_mem (f := f) h; omega
theorem maxL_le {f : ValueM → Nat} {m : Nat} : ∀ {l : List ValueM}, (∀ x ∈ l, f x ≤ m) → maxL f l ≤ m
  | [], _ => Nat.zero_le _
  | x :: r, h => by rw [maxL]; have := h x (by simp); have := maxL_le (l := r) fun y hy => h y (by simp [hy]); omega
def cntM : Nat → ValueM → Nat
  | 0, _ => 1
  | k + 1, v => 1 + sumL (cntM k) v.l
def depM : Nat → ValueM → Nat
  | 0, _ => 1
  | k + 1, v => 1 + maxL (depM k) v.l
theorem cnt_succ : ∀ {k : Nat} {v : ValueM}, Fits k v → cntM (k + 1) v = cntM k v
  | 0, _, h => h.elim
  | k + 1, v, h => by
    show 1 + sumL (cntM (k + 1)) v.l = 1 + sumL (cntM k) v.l
    rw [sumL_congr fun x hx => cnt_succ (h x hx)]
theorem dep_succ : ∀ {k : Nat} {v : ValueM}, Fits k v → depM (k + 1) v = depM k v
  | 0, _, h => h.elim
  | k + 1, v, h => by
    show 1 + maxL (depM (k + 1)) v.l = 1 + maxL (depM k) v.l
    rw [maxL_congr fun x hx => dep_succ (h x hx)]
theorem cnt_le {k m : Nat} {v : ValueM} (h : Fits k v) (hm : k ≤ m) : cntM m v = cntM k v := by
  obtain ⟨d, rfl⟩ := Nat.exists_eq_add_of_le hm
  induction d with
  | zero => rfl
  | succ d ih => rw [← Nat.add_assoc, cnt_succ (h.le (by omega)), ih (by omega)]
theorem dep_le {k m : Nat} {v : ValueM} (h : Fits k v) (hm : k ≤ m) : depM m v = depM k v := by
  obtain ⟨d, rfl⟩ := Nat.exists_eq_add_of_le hm
  induction d with
  | zero => rfl
  | succ d ih => rw [← Nat.add_assoc, dep_succ (h.le (by omega)), ih (by omega)]
theorem cnt_step {k : Nat} {v : ValueM} (h : Fits k v) : cntM k v = 1 + sumL (cntM k) v.l := by
  rw [← cnt_succ h]; rfl
theorem dep_step {k : Nat} {v : ValueM} (h : Fits k v) : depM k v = 1 + maxL (depM k) v.l := by
  rw [← dep_succ h]; rfl
/-- Of a value that is no deeper, also the number may be. -/
theorem fits_dep : ∀ {m k : Nat} {v : ValueM}, Fits k v → depM k v ≤ m → Fits m v
  | 0, k, v, h, hd => by rw [dep_step h] at hd; omega
  | m + 1, k, v, h, hd => fun x hx => fits_dep (h.inner x hx) (by rw [dep_step h] at hd; have := maxL_mem (f := depM k) hx; omega)
theorem ValueAt.low : ∀ {m k : Nat} {w : World} {cs : List Value} {v : ValueM}, ValueAt k w cs v → Fits m v → ValueAt m w cs v
  | 0, _, _, _, _, _, h => h.elim
  | m + 1, k, w, cs, v, h, hf => by
    obtain ⟨i, l, h1, h2, h3, h4, h5⟩ := h.opens
    exact ⟨i, l, h1, h2, ⟨h3.1, fun j x hx => let ⟨b, o, cs, a1, a2, a3⟩ := h3.2 j x hx; ⟨b, o, cs, a1, a2, a3.low (hf x (List.mem_of_getElem? hx))⟩⟩, h4, h5⟩

/-- How deep those of a list are, that stand at d. -/
def bD (k : Nat) (l : List ValueM) (d : Nat) : Nat := maxL (fun x => d - 1 + depM k x) l
/-- How many there are in those of a list, themselves not. -/
def inC (k : Nat) (l : List ValueM) : Nat := sumL (fun x => sumL (cntM k) x.l) l
theorem sum_inC {k : Nat} : ∀ {l : List ValueM}, (∀ x ∈ l, Fits k x) → sumL (cntM k) l = l.length + inC k l
  | [], _ => rfl
  | x :: r, h => by
    rw [sumL, sum_inC (fun y hy => h y (by simp [hy])), cnt_step (h x (by simp)), List.length_cons]
    unfold inC; rw [sumL]; omega
theorem bD_nil (k d : Nat) : bD k [] d = 0 := rfl
theorem bD_in (k d : Nat) : ∀ (l : List ValueM), 0 < l.length → bD k l (d + 1) = d + maxL (depM k) l
  | [], h => by simp at h
  | [x], _ => by unfold bD; simp [maxL]
  | x :: y :: r, _ => by
    have := bD_in k d (y :: r) (by simp)
    unfold bD at this ⊢
    show max (d + 1 - 1 + depM k x) (maxL (fun x => d + 1 - 1 + depM k x) (y :: r)) = d + max (depM k x) (maxL (depM k) (y :: r))
    rw [this]; omega
theorem bD_cons {k d : Nat} {x : ValueM} {r : List ValueM} (hx : Fits k x) (hd : 1 ≤ d) : bD k (x :: r) d = max (max d (bD k x.l (d + 1))) (bD k r d) := by
  show max (d - 1 + depM k x) (bD k r d) = _
  rw [dep_step hx]
  cases hl : x.l with
  | nil => rw [bD_nil]; simp only [maxL]; omega
  | cons y t => rw [bD_in k d (y :: t) (by simp)]; omega
end Go.Proofs.YtmdpdgldmedebaaGreatDoor

