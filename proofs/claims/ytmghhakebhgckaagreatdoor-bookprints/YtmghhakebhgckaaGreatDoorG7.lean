import Derived.Test.YtmghhakebhgckaaGreatDoorG6
namespace Go.Proofs.YtmghhakebhgckaaGreatDoor
set_option linter.unusedSimpArgs false
set_option linter.unusedVariables false
set_option linter.unusedSimpArgs false
set_option linter.unusedVariables false
open Go.RowKit Go.Sort

/-- A strictly sorted list has no other sorted permutation. -/
theorem perm_strict {α : Type} {lt : α → α → Prop} : ∀ (l l' : List α), l'.Perm l → l.Pairwise lt → l'.Pairwise (fun a b => ¬ lt b a) → l' = l
  | [], l', hp, _, _ => hp.eq_nil
  | x :: xs, [], hp, _, _ => by have := hp.length_eq; simp at this
  | x :: xs, y :: ys, hp, h1, h2 => by
    rw [List.pairwise_cons] at h1 h2
    have e : y = x := by
      have hy : y ∈ x :: xs := hp.mem_iff.1 (by simp)
      have hx : x ∈ y :: ys := hp.mem_iff.2 (by simp)
      rcases List.mem_cons.1 hy with e | hy
      · exact e
      · rcases List.mem_cons.1 hx with e | hx
        · exact e.symm
        · exact absurd (h1.1 y hy) (h2.1 x hx)
    subst e
    rw [perm_strict xs ys (List.perm_cons y |>.1 hp) h1.2 h2.2]

/-- A book whose lists rise strictly. -/
structure Rising (ts : BookM) : Prop where
  names : ts.Pairwise fun x y => ltStr x.name.toList y.name.toList = true
  fields : ∀ t ∈ ts, t.fields.Pairwise fun x y => x.id < y.id
  items : ∀ t ∈ ts, t.items.Pairwise fun x y => x.n < y.n
  gone : ∀ t ∈ ts, t.gone.Pairwise fun x y => x < y
theorem TySort.self {t t' : TypeM} (h : TySort t t') (hf : t.fields.Pairwise fun x y => x.id < y.id) (hi : t.items.Pairwise fun x y => x.n < y.n) (hg : t.gone.Pairwise fun x y => x < y) : t' = t := by
  have e1 := perm_strict _ _ h.fperm hf (h.fsort.imp fun hh => by omega)
  have e2 := perm_strict _ _ h.iperm hi (h.isort.imp fun hh => by omega)
  have e3 := perm_strict _ _ h.gperm hg (h.gsort.imp fun hh => by omega)
  have e4 := h.name
  have e5 := h.enum
  obtain ⟨n, e, f, g, i⟩ := t
  obtain ⟨n', e', f', g', i'⟩ := t'
  simp only at e1 e2 e3 e4 e5
  subst e1 e2 e3 e4 e5
  rfl
theorem sortOf_self {ts ts' : BookM} (h : SortOf ts ts') (hr : Rising ts) : ts' = ts := by
  obtain ⟨ts1, hp, hs, hl, hat⟩ := h.mid
  have e : ts1 = ts := perm_strict _ _ hp hr.names (hs.imp fun hh => by simp [hh])
  subst e
  apply List.ext_getElem?
  intro i
  by_cases hi : i < ts1.length
  · have h1 : ts1[i]? = some ts1[i] := List.getElem?_eq_getElem hi
    have h2 : ts'[i]? = some (ts'[i]'(by omega)) := List.getElem?_eq_getElem _
    have hm := List.mem_of_getElem? h1
    rw [h1, h2, (hat i _ _ h1 h2).self (hr.fields _ hm) (hr.items _ hm) (hr.gone _ hm)]
  · rw [List.getElem?_eq_none (by omega), List.getElem?_eq_none (by omega)]

/-- A book as its text tells it: a field that names a type is without a kind. -/
def bareF (f : FieldM) : FieldM := if f.kind = 4 ∨ f.kind = 5 then { f with kind := 0 } else f
def bareT (t : TypeM) : TypeM := { t with fields := t.fields.map bareF }
def bareB (ts : BookM) : BookM := ts.map bareT
theorem heads_bare (ts : BookM) : headsM (bareB ts) = headsM ts := by
  unfold headsM bareB
  rw [List.map_map]
  rfl
theorem Rising.bare {ts : BookM} (h : Rising ts) : Rising (bareB ts) := by
  have hid : ∀ f, (bareF f).id = f.id := fun f => by unfold bareF; split <;> rfl
  refine ⟨?_, fun t ht => ?_, fun t ht => ?_, fun t ht => ?_⟩
  · unfold bareB
    rw [List.pairwise_map]
    exact h.names
  all_goals
    unfold bareB at ht
    obtain ⟨u, hu, rfl⟩ := List.mem_map.1 ht
  · simp only [bareT]
    rw [List.pairwise_map]
    exact (h.fields u hu).imp fun hh => by rw [hid, hid]; exact hh
  · exact h.items u hu
  · exact h.gone u hu
/-- What setKinds makes of a good book's bare form: itself. -/
theorem kinds_bare (ts : BookM) (hg : ∀ t ∈ ts, ∀ f ∈ t.fields, goodFieldM ts f = true) (hnm : ∀ t ∈ ts, t.name.toList ≠ []) : kindsP (bareB ts) = ts := by
  unfold kindsP bareB
  rw [List.map_map]
  conv => rhs; rw [← List.map_id ts]
  refine List.map_congr_left fun t ht => ?_
  simp only [Function.comp, bareT, setT, id]
  have : (t.fields.map bareF).map (setF (List.map bareT ts)) = t.fields := by
    rw [List.map_map]
    conv => rhs; rw [← List.map_id t.fields]
    refine List.map_congr_left fun f hf => ?_
    have hgf := hg t ht f hf
    have hk : kindM (List.map bareT ts) f.type = kindM ts f.type := kindM_heads (heads_bare ts) _
    simp only [Function.comp, id]
    unfold goodFieldM at hgf
    split at hgf
    · cases hgf
    · split at hgf
      · rename_i _ h3
        have hty : f.type.toList = [] := by simpa using hgf
        have hb : bareF f = f := by unfold bareF; rw [if_neg (by omega)]
        rw [hb]; unfold setF; rw [if_pos hty]
      · split at hgf
        · rename_i _ _ h4
          have hb : bareF f = { f with kind := 0 } := by unfold bareF; rw [if_pos h4]
          rw [hb]
          unfold setF
          simp only
          cases hfd : findM ts f.type with
          | none => rw [hfd] at hgf; cases hgf
          | some u =>
            rw [hfd] at hgf
            have hun : u.name.toList = f.type.toList := by
              have := List.find?_some hfd
              simpa using this
            have hne : f.type.toList ≠ [] := by rw [← hun]; exact hnm u (findM_mem hfd)
            rw [if_neg hne, hk]
            have hku : kindM ts f.type = f.kind := by
              unfold kindM kindO
              rw [hfd]
              simp only
              have hb : u.enum = (f.kind == 4) := by simpa using hgf
              rw [hb]
              rcases h4 with h4 | h4 <;> rw [h4] <;> rfl
            rw [hku]
        · cases hgf
  rw [this]
end Go.Proofs.YtmghhakebhgckaaGreatDoor

namespace Go.Proofs.YtmghhakebhgckaaGreatDoor
set_option linter.unusedSimpArgs false
set_option linter.unusedVariables false
open Go.RowKit Go.Sort

theorem all_range {p : Nat → Bool} {n : Nat} (h : (List.range n).all p = true) {k : Nat} (hk : k < n) : p k = true := by
  rw [List.all_eq_true] at h
  exact h k (List.mem_range.2 hk)
/-- What rises from each to the next rises all along. -/
theorem pairwise_next {α : Type} {r : α → α → Prop} (ht : ∀ x y z, r x y → r y z → r x z) (l : List α) (h : ∀ (k : Nat) (x y : α), l[k]? = some x → l[k + 1]? = some y → r x y) : l.Pairwise r := by
  rw [List.pairwise_iff_getElem]
  intro i j hi hj hij
  have key : ∀ d, ∀ (hd : i + 1 + d < l.length), r l[i] l[i + 1 + d] := by
    intro d
    induction d with
    | zero => intro hd; exact h i _ _ (List.getElem?_eq_getElem hi) (List.getElem?_eq_getElem hd)
    | succ d ih => intro hd; exact ht _ _ _ (ih (by omega)) (h (i + 1 + d) _ _ (List.getElem?_eq_getElem (by omega)) (List.getElem?_eq_getElem hd))
  have := key (j - (i + 1)) (by omega)
  have e : i + 1 + (j - (i + 1)) = j := by omega
  simp only [e] at this
  exact this
theorem risingL_out {l : List Int} {lo hi : Int} (h : risingL l lo hi = true) : l.Pairwise (fun x y => x < y) ∧ ∀ x ∈ l, lo ≤ x ∧ x ≤ hi := by
  unfold risingL at h
  refine ⟨pairwise_next (fun x y z h1 h2 => by omega) l fun k x y hx hy => ?_, fun x hx => ?_⟩
  · obtain ⟨h2, rfl⟩ := List.getElem?_eq_some_iff.1 hy
    obtain ⟨h1, rfl⟩ := List.getElem?_eq_some_iff.1 hx
    have := (risesAt_iff h2).1 (all_range h h2)
    rcases this.2.2 with h0 | h0
    · omega
    · simpa using h0
  · obtain ⟨i, hi, rfl⟩ := List.getElem_of_mem hx
    have := (risesAt_iff hi).1 (all_range h hi)
    exact ⟨this.1, this.2.1⟩

/-- What a good type is. -/
structure GoodT (ts : BookM) (t : TypeM) : Prop where
  name : namedL t.name.toList = true
  enum : t.enum = true → t.fields = [] ∧ t.gone = [] ∧ 1 ≤ t.items.length ∧ t.items.length ≤ 6 ∧ goodNamesL (t.items.map (·.name)) = true ∧ risingL (t.items.map (·.n)) (-1099511627776) 1099511627776 = true
  msg : t.enum = false → t.items = [] ∧ t.fields.length ≤ 5 ∧ (∀ f ∈ t.fields, goodFieldM ts f = true) ∧ goodNamesL (t.fields.map (·.name)) = true ∧ goodIdsL (t.fields.map (·.id)) t.gone = true
theorem goodM_out {ts : BookM} (h : goodM ts = 0) : ts.length ≤ 4 ∧ (ts.Pairwise fun x y => ltStr x.name.toList y.name.toList = true) ∧ ∀ t ∈ ts, GoodT ts t := by
  unfold goodM at h
  split at h
  · cases h
  · rename_i h4
    split at h
    · rename_i hall
      have hget : ∀ k (hk : k < ts.length), ts.getD k TypeM.zero = ts[k] := fun k hk => by simp [List.getD, hk]
      refine ⟨by omega, pairwise_next (r := fun x y : TypeM => ltStr x.name.toList y.name.toList = true) (fun x y z h1 h2 => swo_ltStr.trans x.name.toList y.name.toList z.name.toList h1 h2) ts fun k x y hx hy => ?_, fun t ht => ?_⟩
      · obtain ⟨h2, rfl⟩ := List.getElem?_eq_some_iff.1 hy
        obtain ⟨h1, rfl⟩ := List.getElem?_eq_some_iff.1 hx
        have := all_range hall h2
        unfold typeOkAt at this
        simp only [Nat.add_sub_cancel, hget _ h1, hget _ h2, Bool.and_eq_true, Bool.or_eq_true, beq_iff_eq, Nat.add_one_ne_zero, false_or] at this
        have hb := this.1
        rw [bytesLess_eq] at hb
        exact hb
      · obtain ⟨i, hi, rfl⟩ := List.getElem_of_mem ht
        have hok := all_range hall hi
        unfold typeOkAt at hok
        rw [hget _ hi, Bool.and_eq_true] at hok
        have hg := hok.2
        unfold goodTypeM at hg
        rw [Bool.and_eq_true] at hg
        refine ⟨hg.1, fun he => ?_, fun he => ?_⟩
        · have := hg.2
          rw [he, if_pos rfl] at this
          unfold goodEnumM at this
          split at this
          · cases this
          · rename_i h1
            split at this
            · cases this
            · rw [Bool.and_eq_true] at this
              exact ⟨List.length_eq_zero_iff.1 (by omega), List.length_eq_zero_iff.1 (by omega), by omega, by omega, this.1, this.2⟩
        · have := hg.2
          rw [he] at this
          simp only [Bool.false_eq_true, if_false] at this
          unfold goodMessageM at this
          split at this
          · cases this
          · rw [Bool.and_eq_true, Bool.and_eq_true] at this
            refine ⟨List.length_eq_zero_iff.1 (by omega), by omega, fun f hf => ?_, this.2.1, this.2.2⟩
            obtain ⟨j, hj, rfl⟩ := List.getElem_of_mem hf
            have hfo := all_range this.1 hj
            unfold fieldOkAt at hfo
            simpa [List.getD, hj] using hfo
    · cases h
theorem goodIds_out {ids gone : List Int} (h : goodIdsL ids gone = true) : risingL ids 1 30 = true ∧ risingL gone 1 30 = true := by
  unfold goodIdsL at h
  rw [Bool.and_eq_true, Bool.and_eq_true] at h
  exact h.1
theorem goodField_out {ts : BookM} {f : FieldM} (h : goodFieldM ts f = true) : (1 ≤ f.rule ∧ f.rule ≤ 3) ∧ 1 ≤ f.kind ∧ f.kind ≤ 5 := by
  unfold goodFieldM at h
  split at h
  · cases h
  · split at h
    · omega
    · split at h
      · omega
      · cases h
theorem good_rising {ts : BookM} (h : goodM ts = 0) : Rising ts := by
  obtain ⟨_, hn, ht⟩ := goodM_out h
  refine ⟨hn, fun t hm => ?_, fun t hm => ?_, fun t hm => ?_⟩
  all_goals
    have g := ht t hm
    cases he : t.enum
  · have := (risingL_out (goodIds_out (g.msg he).2.2.2.2).1).1
    rw [List.pairwise_map] at this
    exact this
  · rw [(g.enum he).1]; exact List.Pairwise.nil
  · rw [(g.msg he).1]; exact List.Pairwise.nil
  · have := (risingL_out (g.enum he).2.2.2.2.2).1
    rw [List.pairwise_map] at this
    exact this
  · exact (risingL_out (goodIds_out (g.msg he).2.2.2.2).2).1
  · rw [(g.enum he).2.1]; exact List.Pairwise.nil
theorem good_pr {ts : BookM} (h : goodM ts = 0) : ∀ t ∈ ts, PrOk t := by
  obtain ⟨_, hn, ht⟩ := goodM_out h
  intro t hm
  have g := ht t hm
  cases he : t.enum
  · have hi := (risingL_out (goodIds_out (g.msg he).2.2.2.2).1).2
    have hg := (risingL_out (goodIds_out (g.msg he).2.2.2.2).2).2
    refine ⟨fun f hf => ?_, fun n hn => ?_, fun x hx => ?_⟩
    · have h1 := hi f.id (List.mem_map.2 ⟨f, hf, rfl⟩)
      have h2 := goodField_out ((g.msg he).2.2.1 f hf)
      exact ⟨⟨by omega, by omega⟩, h2.1, h2.2.1, h2.2.2⟩
    · have := hg n hn
      omega
    · rw [(g.msg he).1] at hx; cases hx
  · have hr := (risingL_out (g.enum he).2.2.2.2.2).2
    refine ⟨fun f hf => ?_, fun n hn => ?_, fun x hx => ?_⟩
    · rw [(g.enum he).1] at hf; cases hf
    · rw [(g.enum he).2.1] at hn; cases hn
    · have := hr x.n (List.mem_map.2 ⟨x, hx, rfl⟩)
      omega
theorem good_kinds {ts : BookM} (h : goodM ts = 0) : kindsP (bareB ts) = ts := by
  obtain ⟨_, hn, ht⟩ := goodM_out h
  refine kinds_bare ts (fun t hm f hf => ?_) (fun t hm e => ?_)
  · have g := ht t hm
    cases he : t.enum
    · exact (g.msg he).2.2.1 f hf
    · rw [(g.enum he).1] at hf; cases hf
  · have := (ht t hm).name
    rw [e] at this
    simp [namedL] at this
end Go.Proofs.YtmghhakebhgckaaGreatDoor

namespace Go.Proofs.YtmghhakebhgckaaGreatDoor
set_option linter.unusedSimpArgs false
set_option linter.unusedVariables false
open Go.RowKit

/-- What the program's own start lays. -/
structure Laid (w : World) : Prop where
  words : WordsAt w
  rules : NamesAt w 1 rulesL
  kinds : NamesAt w 2 kindsL
  tab : TabAt w
theorem Laid.ext {w w' : World} (h : Laid w) (hx : Ext w w') : Laid w' := ⟨h.words.ext hx, h.rules.ext hx, h.kinds.ext hx, h.tab.ext hx⟩
/-- What is left to show without the program: a good book's text tells its bare form, and is not too long. -/
def BackP : Prop := ∀ ts : BookM, goodM ts = 0 → (bookP ⟨(bookB ts).toArray⟩).bad = false ∧ (bookP ⟨(bookB ts).toArray⟩).ts = bareB ts ∧ (bookB ts).length ≤ 4000
def BooksOk : Prop := ∀ w : World, Laid w → Calls Tryz.prog 28 #[] w fun e w' => e = .returned (.bool true) ∧ Ext w w'

theorem parse_back (hB : BackP) {ts ts' : BookM} {er : Int} (hg : goodM ts = 0) (h : ParseM ⟨(bookB ts).toArray⟩ er ts') : er = 0 ∧ ts' = ts := by
  obtain ⟨h1, h2, h3⟩ := hB ts hg
  have hsz : (ByteArray.mk (bookB ts).toArray).size = (bookB ts).length := by simp [ByteArray.size]
  have key : ∀ us, SortOf (bookP ⟨(bookB ts).toArray⟩).ts us → kindsP us = ts := fun us hs => by
    rw [h2] at hs
    rw [sortOf_self hs (good_rising hg).bare]
    exact good_kinds hg
  rcases h with ⟨h, rfl, rfl⟩ | ⟨_, h, rfl, rfl⟩ | ⟨us, _, _, hs, hne, rfl, rfl⟩ | ⟨us, _, _, hs, _, rfl, rfl⟩
  · rw [hsz] at h; omega
  · rw [h1] at h; cases h
  · exact absurd (by rw [key us hs]; exact hg) hne
  · exact ⟨rfl, key us hs⟩

set_option maxHeartbeats 3200000 in
theorem bookBack_walk (hB : BackP) (hbk : BooksOk) (s : SV) (ts : BookM) (w : World) (hs : BookAt w s ts) (hn : ts.Fits) (hgs : goodM ts = 0 → ts.Small) (hl : Laid w) :
    Calls Tryz.prog 6 #[.agg #[.slice s.a s.len s.cap]] w fun e w' => e = .returned (.bool true) ∧ Ext w w' := by
  have hx0 : Ext w (w.alloc (.cells #[.slice s.a s.len s.cap] 24)) := (Ext.refl w).alloc _
  have hA0 := heap_alloc_new w (.cells #[.slice s.a s.len s.cap] 24)
  obtain ⟨er, her⟩ : ∃ er, goodM ts = er := ⟨_, rfl⟩
  have HB := hide hB
  have Hbk := hide hbk
  clear hB hbk
  cases hz : (er == 0)
  · go_enter Tryz.func6, Tryz.ntmps6
    go_wp2_with fail
    refine (print_bad s ts _ (hs.ext hx0) hn (hl.words.ext hx0) er her hz).mono ?_
    rintro e w1 ⟨rfl, hx1⟩
    have hx01 := hx0.trans hx1
    have cA1 : w1.cell? ⟨w.heap.size, 0, none⟩ = some (.slice s.a s.len s.cap) := cell_of_row _ _ 0 _ _ _ (hx1.heap hA0)
    have hne : er ≠ 0 := by simpa using hz
    have hnd : decide (er = 0) = false := by simpa using hz
    go_wp2_with fail
    refine (good_any s ts hn w1 (hs.ext hx01) (hl.words.ext hx01)).mono ?_
    rintro e w2 ⟨rfl, hx2⟩
    rw [her]
    have hx02 := hx01.trans hx2
    go_wp2_with fail
    refine (unhide Hbk w2 (hl.ext hx02)).mono ?_
    rintro e w3 ⟨rfl, hx3⟩
    have hx03 := hx02.trans hx3
    go_wp2
    go_ret
    exact ⟨rfl, hx03⟩
  · have e0 : er = 0 := by simpa using hz
    subst e0
    clear hz
    have hlen := (unhide HB ts her).2.2
    have hsm := hgs her
    clear hgs
    have hszB : (ByteArray.mk (bookB ts).toArray).size = (bookB ts).length := by simp [ByteArray.size]
    have HP := hide (fun (er : Int) (ts' : BookM) (h : ParseM ⟨(bookB ts).toArray⟩ er ts') => parse_back (unhide HB) her h)
    obtain ⟨t, ht⟩ : ∃ t, ByteArray.mk (bookB ts).toArray = t := ⟨_, rfl⟩
    have htz : t.size ≤ 4000 := by rw [← ht, hszB]; exact hlen
    have Hpr := hide (print_good s ts _ (hs.ext hx0) hsm (hl.words.ext hx0) (hl.rules.ext hx0) (hl.kinds.ext hx0) (hl.tab.ext hx0) her (good_pr her) (by omega))
    rw [ht] at HP Hpr
    clear ht hszB hlen
    go_enter Tryz.func6, Tryz.ntmps6
    go_wp2_with fail
    refine (unhide Hpr).mono ?_
    rintro e w1 ⟨rfl, hx1⟩
    have hx01 := hx0.trans hx1
    have hA1 := hx1.heap hA0
    go_wp2_with fail
    refine (unhide Hbk w1 (hl.ext hx01)).mono ?_
    rintro e w2 ⟨rfl, hx2⟩
    have hx02 := hx01.trans hx2
    have hA2 := hx2.heap hA1
    have hl2 := hl.ext hx02
    go_wp2_with fail
    refine (parse_any t w2 hl2.rules hl2.kinds hl2.words (by omega)).mono ?_
    rintro e w3 ⟨sv, er, ts', rfl, hbk3, hok3, hpm, hx3⟩
    obtain ⟨he, ht'⟩ := unhide HP er ts' hpm
    subst he ht'
    have hx03 := hx02.trans hx3
    have hA3 := hx3.heap hA2
    have hx4 : Ext w3 (w3.alloc (.cells #[.slice sv.a sv.len sv.cap] 24)) := (Ext.refl w3).alloc _
    have cA4 : (w3.alloc (.cells #[.slice sv.a sv.len sv.cap] 24)).cell? ⟨w.heap.size, 0, none⟩ = some (.slice s.a s.len s.cap) := cell_of_row _ _ 0 _ _ _ (hx4.heap hA3)
    have zA3 := lt_of_heap hA3
    have htzi : (t.size : Int) ≤ 4000 := by omega
    go_wp2_with fail
    refine (sameBook_true s sv ts' _ (hs.ext (hx03.trans hx4)) (hbk3.ext hx4) hsm).mono ?_
    rintro e w5 ⟨rfl, hx5⟩
    have hx05 := (hx03.trans hx4).trans hx5
    go_wp2
    go_ret
    exact ⟨by simp [htzi], hx05⟩
end Go.Proofs.YtmghhakebhgckaaGreatDoor

namespace Go.Proofs.YtmghhakebhgckaaGreatDoor
set_option linter.unusedSimpArgs false
set_option linter.unusedVariables false
open Go.RowKit

theorem parseM_small {s : ByteArray} {er : Int} {ts : BookM} (h : ParseM s er ts) : ts.Small := by
  rcases h with ⟨h, rfl, rfl⟩ | ⟨_, h, rfl, rfl⟩ | ⟨us, _, _, hs, hne, rfl, rfl⟩ | ⟨us, h1, _, hs, hg, rfl, rfl⟩
  · exact ⟨by simp, by simp⟩
  · exact ⟨by simp, by simp⟩
  · exact ⟨by simp, by simp⟩
  · exact kinds_small (sortOf_small hs (bookP_cnt s (by omega)))
theorem parseM_ok {s : ByteArray} {er : Int} {ts : BookM} (h : ParseM s er ts) (he : er = 0) : goodM ts = 0 := by
  rcases h with ⟨h, rfl, rfl⟩ | ⟨_, h, rfl, rfl⟩ | ⟨us, _, _, hs, hne, rfl, rfl⟩ | ⟨us, h1, _, hs, hg, rfl, rfl⟩
  · cases he
  · cases he
  · exact absurd he hne
  · exact hg
theorem parseM_no {s : ByteArray} {er : Int} {ts : BookM} (h : ParseM s er ts) (he : er ≠ 0) : ts = [] := by
  rcases h with ⟨h, rfl, rfl⟩ | ⟨_, h, rfl, rfl⟩ | ⟨us, _, _, hs, hne, rfl, rfl⟩ | ⟨us, h1, _, hs, hg, rfl, rfl⟩
  · rfl
  · rfl
  · rfl
  · exact absurd rfl he

set_option maxHeartbeats 3200000 in
theorem bookOnce_walk (hB : BackP) (hbk : BooksOk) (s : ByteArray) (w : World) (hsz : s.size ≤ 9223372036854775807) (hl : Laid w) :
    Calls Tryz.prog 7 #[.string s] w fun e w' => e = .returned (.bool true) ∧ Ext w w' := by
  have HB := hide hB
  have Hbk := hide hbk
  clear hB hbk
  go_enter Tryz.func7, Tryz.ntmps7
  go_wp2_with fail
  refine (parse_any s w hl.rules hl.kinds hl.words hsz).mono ?_
  rintro e w1 ⟨sv, er, ts, rfl, hb1, hok1, hpm, hx1⟩
  have hx2 : Ext w1 (w1.alloc (.cells #[.slice sv.a sv.len sv.cap] 24)) := (Ext.refl w1).alloc _
  have hA2 := heap_alloc_new w1 (.cells #[.slice sv.a sv.len sv.cap] 24)
  have hx02 := hx1.trans hx2
  have hl2 := hl.ext hx02
  have hb2 := hb1.ext hx2
  have hsm := parseM_small hpm
  obtain ⟨a, n, cap⟩ := sv
  have hn : n = ts.length := hb1.1
  subst hn
  cases hz : (er == 0)
  · have hne : er ≠ 0 := by simpa using hz
    have hnd : decide (er = 0) = false := by simpa using hz
    have hts := parseM_no hpm hne
    subst hts
    clear hpm hsm
    go_wp2_with fail
    refine (unhide Hbk _ hl2).mono ?_
    rintro e w3 ⟨rfl, hx3⟩
    have hx03 := hx02.trans hx3
    go_wp2
    go_ret
    exact ⟨rfl, hx03⟩
  · have e0 : er = 0 := by simpa using hz
    subst e0
    have her := parseM_ok hpm rfl
    clear hz hpm
    have hlen := (unhide HB ts her).2.2
    have hszB : (ByteArray.mk (bookB ts).toArray).size = (bookB ts).length := by simp [ByteArray.size]
    have HP := hide (fun (er : Int) (ts' : BookM) (h : ParseM ⟨(bookB ts).toArray⟩ er ts') => parse_back (unhide HB) her h)
    obtain ⟨t, ht⟩ : ∃ t, ByteArray.mk (bookB ts).toArray = t := ⟨_, rfl⟩
    have htz : t.size ≤ 4000 := by rw [← ht, hszB]; exact hlen
    have Hpr := hide (fun (W : World) (hb : BookAt W ⟨a, ts.length, cap⟩ ts) (hw : Laid W) => print_good ⟨a, ts.length, cap⟩ ts W hb hsm hw.words hw.rules hw.kinds hw.tab her (good_pr her) (by omega))
    rw [ht] at HP Hpr
    have Her := hide her
    clear ht hszB hlen her
    go_wp2_with fail
    refine (unhide Hbk _ hl2).mono ?_
    rintro e w3 ⟨rfl, hx3⟩
    have hx03 := hx02.trans hx3
    have hA3 := hx3.heap hA2
    have hb3 := hb2.ext hx3
    have cA3 : w3.cell? ⟨w1.heap.size, 0, none⟩ = some (.slice a ts.length cap) := cell_of_row _ _ 0 _ _ _ hA3
    go_wp2_with fail
    refine (unhide Hpr w3 hb3 (hl.ext hx03)).mono ?_
    rintro e w4 ⟨rfl, hx4⟩
    have hx04 := hx03.trans hx4
    have hA4 := hx4.heap hA3
    have hl4 := hl.ext hx04
    go_wp2_with fail
    refine (parse_any t w4 hl4.rules hl4.kinds hl4.words (by omega)).mono ?_
    rintro e w5 ⟨sv, er, ts', rfl, hb5, hok5, hpm5, hx5⟩
    obtain ⟨he, ht'⟩ := unhide HP er ts' hpm5
    subst he
    rw [ht'] at hb5
    clear hpm5 ht'
    have hx6 : Ext w5 (w5.alloc (.cells #[.slice sv.a sv.len sv.cap] 24)) := (Ext.refl w5).alloc _
    have hx36 := (hx4.trans hx5).trans hx6
    have hA6 := hx36.heap hA3
    have cA6 : (w5.alloc (.cells #[.slice sv.a sv.len sv.cap] 24)).cell? ⟨w1.heap.size, 0, none⟩ = some (.slice a ts.length cap) := cell_of_row _ _ 0 _ _ _ hA6
    have zA := lt_of_heap (hx5.heap hA4)
    go_wp2_with fail
    refine (sameBook_true ⟨a, ts.length, cap⟩ sv ts _ (hb3.ext hx36) (hb5.ext hx6) hsm).mono ?_
    rintro e w7 ⟨rfl, hx7⟩
    have hx07 := (hx03.trans hx36).trans hx7
    have cA7 : w7.cell? ⟨w1.heap.size, 0, none⟩ = some (.slice a ts.length cap) := cell_of_row _ _ 0 _ _ _ (hx7.heap hA6)
    go_wp2_with fail
    refine (good_any ⟨a, ts.length, cap⟩ ts hsm.fits w7 (hb3.ext (hx36.trans hx7)) (hl.words.ext hx07)).mono ?_
    rintro e w8 ⟨rfl, hx8⟩
    rw [unhide Her]
    have hx08 := hx07.trans hx8
    go_wp2
    go_ret
    exact ⟨rfl, hx08⟩
end Go.Proofs.YtmghhakebhgckaaGreatDoor

namespace Go.Proofs.YtmghhakebhgckaaGreatDoor
set_option linter.unusedSimpArgs false
set_option linter.unusedVariables false
open Go.RowKit Go.Sort
def booksS : ByteArray := ⟨#[109, 101, 115, 115, 97, 103, 101, 32, 98, 123, 49, 32, 111, 110, 101, 32, 105, 110, 116, 32, 120, 59, 125, 101, 110, 117, 109, 32, 97, 123, 48, 32, 110, 111, 59, 125]⟩
def booksA : TypeM := ⟨⟨#[97]⟩, true, [], [], [⟨⟨#[110, 111]⟩, 0⟩]⟩
def booksB : TypeM := ⟨⟨#[98]⟩, false, [⟨1, ⟨#[120]⟩, ⟨#[]⟩, 2, 1⟩], [], []⟩
theorem books_bad : (bookP booksS).bad = false := by kernel_rfl
theorem books_ts : (bookP booksS).ts = [booksB, booksA] := by kernel_rfl
theorem books_kinds : kindsP [booksA, booksB] = [booksA, booksB] := by kernel_rfl
theorem books_good : goodM [booksA, booksB] = 0 := by kernel_rfl
theorem books_parse {er : Int} {ts : BookM} (h : ParseM booksS er ts) : er = 0 ∧ ts = [booksA, booksB] := by
  have key : ∀ us, SortOf (bookP booksS).ts us → kindsP us = [booksA, booksB] := fun us hs => by
    rw [books_ts] at hs
    obtain ⟨ts1, hp, h2, h3, h4⟩ := hs.mid
    have hs' : SortOf [booksA, booksB] us := ⟨ts1, hp.trans (List.Perm.swap _ _ _), h2, h3, h4⟩
    rw [sortOf_self hs' (good_rising books_good)]
    exact books_kinds
  have hsz : booksS.size = 36 := rfl
  rcases h with ⟨h, rfl, rfl⟩ | ⟨_, h, rfl, rfl⟩ | ⟨us, _, _, hs, hne, rfl, rfl⟩ | ⟨us, _, _, hs, _, rfl, rfl⟩
  · omega
  · rw [books_bad] at h; cases h
  · exact absurd (by rw [key us hs]; exact books_good) hne
  · exact ⟨rfl, key us hs⟩
theorem books_least : leastM [booksA, booksB] 4 ⟨#[98]⟩ = 2 := by kernel_rfl
theorem books_small : BookM.Small [booksA, booksB] := by
  refine ⟨by decide, fun t ht => ?_⟩
  have : t = booksA ∨ t = booksB := by simpa using ht
  rcases this with rfl | rfl
  · refine ⟨by decide, by decide, by decide, by decide, (fun x hx => absurd hx List.not_mem_nil), fun x hx => ?_⟩
    rw [List.mem_singleton.1 (show x ∈ [ItemM.mk ⟨#[110, 111]⟩ 0] from hx)]; decide
  · refine ⟨by decide, by decide, by decide, by decide, fun x hx => ?_, (fun x hx => absurd hx List.not_mem_nil)⟩
    rw [List.mem_singleton.1 (show x ∈ [FieldM.mk 1 ⟨#[120]⟩ ⟨#[]⟩ 2 1] from hx)]; decide
set_option maxHeartbeats 3200000 in
theorem books_ok : BooksOk := by
  intro w hl
  have Hp := hide (parse_any booksS w hl.rules hl.kinds hl.words (by decide))
  unfold booksS at Hp
  go_enter Tryz.func28, Tryz.ntmps28
  go_wp2_with fail
  refine (unhide Hp).mono ?_
  rintro e w1 ⟨sv, er, ts, rfl, hb1, hok1, hpm, hx1⟩
  obtain ⟨he, hts⟩ := books_parse hpm
  subst he
  rw [hts] at hb1
  clear hpm hts
  have hx2 : Ext w1 (w1.alloc (.cells #[.slice sv.a sv.len sv.cap] 24)) := (Ext.refl w1).alloc _
  have hb2 := hb1.ext hx2
  obtain ⟨a, n, cap⟩ := sv
  have hn : n = 2 := hb1.1
  subst hn
  obtain ⟨b, o, cs, ha, hr, tv, rfl, htv⟩ := hb2.2 0 booksA rfl
  obtain ⟨b', o', cs', ha', hr', tv', rfl, htv'⟩ := hb2.2 1 booksB rfl
  simp only at ha
  subst ha
  simp only [Option.some.injEq, Addr.mk.injEq] at ha'
  obtain ⟨e1, e2, -⟩ := ha'
  subst e1 e2
  obtain ⟨h0, h1, h2, h3, h4⟩ := range5 hr
  obtain ⟨g0, g1, g2, g3, g4⟩ := range5 hr'
  have een := htv.enum
  have eln := htv'.fields.1
  obtain ⟨nm, en, sf, sg, si⟩ := tv
  obtain ⟨nm', en', ⟨fa', fl', fc'⟩, sg', si'⟩ := tv'
  simp only at een eln h1 g2
  rw [een] at h1
  rw [eln] at g2
  have h1' : (w1.alloc (.cells #[.slice (some ⟨b, o, none⟩) 2 cap] 24)).cell? ⟨b, o + 1, none⟩ = some (.bool true) := by simpa [booksA] using h1
  have g2' : (w1.alloc (.cells #[.slice (some ⟨b, o, none⟩) 2 cap] 24)).cell? ⟨b, o + 5 + 2, none⟩ = some (.slice fa' 1 fc') := by simpa [booksB] using g2
  have Hb2 := hide hb2
  clear een eln h0 h1 h2 h3 h4 g0 g1 g2 g3 g4 hr hr' htv htv' hb1 hb2
  go_wp2_with fail
  refine (least_any ⟨some ⟨b, o, none⟩, 2, cap⟩ _ books_small.fits _ _ (unhide Hb2)).mono ?_
  rintro e w3 ⟨rfl, hx3⟩
  rw [books_least]
  have hx03 := (hx1.trans hx2).trans hx3
  go_wp2
  go_ret
  exact ⟨rfl, hx03⟩
end Go.Proofs.YtmghhakebhgckaaGreatDoor

namespace Go.Proofs.YtmghhakebhgckaaGreatDoor
set_option linter.unusedSimpArgs false
set_option linter.unusedVariables false
open Go.RowKit

/-- At place k of the text the rest is r. -/
structure At (l : List UInt8) (k : Nat) (r : List UInt8) : Prop where
  le : k ≤ l.length
  rest : l.drop k = r
theorem At.zero (l : List UInt8) : At l 0 l := ⟨Nat.zero_le _, rfl⟩
theorem At.len {l r : List UInt8} {k : Nat} (h : At l k r) : l.length = k + r.length := by
  have := congrArg List.length h.rest
  rw [List.length_drop] at this
  have := h.le
  omega
theorem At.next {l x r : List UInt8} {k : Nat} (h : At l k (x ++ r)) : At l (k + x.length) r := by
  refine ⟨?_, ?_⟩
  · have := h.len; rw [List.length_append] at this; omega
  · rw [← List.drop_drop, h.rest, List.drop_left]
theorem At.get {l r : List UInt8} {k : Nat} {c : UInt8} (h : At l k (c :: r)) : l[k]? = some c := by
  have := congrArg (fun x : List UInt8 => x[0]?) h.rest
  simpa [List.getElem?_drop] using this
/-- The next sign is none of p's. -/
def stops (p : UInt8 → Bool) : List UInt8 → Prop
  | [] => True
  | c :: _ => p c = false
theorem takeWhile_stop {p : UInt8 → Bool} : ∀ {x r : List UInt8}, x.all p = true → stops p r → (x ++ r).takeWhile p = x
  | [], [], _, _ => rfl
  | [], c :: r, _, h => by simp only [List.nil_append]; rw [List.takeWhile_cons]; rw [show p c = false from h]; rfl
  | c :: x, r, hx, h => by
    rw [List.all_cons, Bool.and_eq_true] at hx
    rw [List.cons_append, List.takeWhile_cons, hx.1, if_pos rfl, takeWhile_stop hx.2 h]
theorem run_at {p : UInt8 → Bool} {l x r : List UInt8} {k : Nat} (h : At l k (x ++ r)) (hx : x.all p = true) (hr : stops p r) : runP p l k = k + x.length := by
  unfold runP
  rw [h.rest, takeWhile_stop hx hr]
theorem skip_at {l x r : List UInt8} {k : Nat} (h : At l k (x ++ r)) (hx : x.all spaceB = true) (hr : stops spaceB r) : skipP l k = k + x.length := run_at h hx hr
theorem more_at {l x r : List UInt8} {c : UInt8} {k : Nat} (h : At l k (x ++ c :: r)) (hx : x.all spaceB = true) (hc : spaceB c = false) : moreV l k false = true := by
  unfold moreV
  rw [skip_at h hx hc]
  have := h.len
  rw [List.length_append, List.length_cons] at this
  simp
  omega
theorem more_end {l x : List UInt8} {k : Nat} (h : At l k x) (hx : x.all spaceB = true) : moreV l k false = false := by
  unfold moreV
  rw [skip_at (x := x) (r := []) (by rw [List.append_nil]; exact h) hx trivial]
  have := h.len
  simp
  omega
theorem sees_at {l x r : List UInt8} {c : UInt8} {k : Nat} (h : At l k (x ++ c :: r)) (hx : x.all spaceB = true) (hc : spaceB c = false) (c' : UInt8) : seesV l k false c' = (c == c') := by
  unfold seesV
  rw [more_at h hx hc, skip_at h hx hc, h.next.get, Bool.true_and]
  simp
theorem seesWord_at {l x r : List UInt8} {c : UInt8} {k : Nat} (h : At l k (x ++ c :: r)) (hx : x.all spaceB = true) (hc : spaceB c = false) : seesWordV l k false = letterB c := by
  unfold seesWordV
  rw [more_at h hx hc, skip_at h hx hc, h.next.get, Bool.true_and]
theorem sign_at {l x r : List UInt8} {c : UInt8} {k : Nat} (h : At l k (x ++ c :: r)) (hx : x.all spaceB = true) (hc : spaceB c = false) : signAt l k false c = k + x.length + 1 ∧ signBad l k false c = false ∧ At l (k + x.length + 1) r := by
  have hs : seesV l k false c = true := by rw [sees_at h hx hc]; simp
  refine ⟨?_, ?_, ?_⟩
  · unfold signAt; rw [hs, if_pos rfl, skip_at h hx hc]
  · unfold signBad; rw [hs]; rfl
  · exact (At.next (x := [c]) (show At l (k + x.length) ([c] ++ r) from h.next))
theorem letter_nospace {c : UInt8} (h : letterB c = true) : spaceB c = false := by
  unfold letterB at h
  unfold spaceB
  simp only [Bool.and_eq_true, decide_eq_true_eq] at h
  simp
  omega
/-- A word behind blanks. -/
theorem word_at {s : ByteArray} {x y r : List UInt8} {k : Nat} (h : At s.toList k (x ++ (y ++ r))) (hx : x.all spaceB = true) (hy : y.all letterB = true) (hne : y ≠ []) (hr : stops letterB r) :
    wordAt s.toList k false = k + x.length + y.length ∧ wordBad s.toList k false = false ∧ (wordStr s k false).toList = y ∧ At s.toList (k + x.length + y.length) r := by
  obtain ⟨c, y', rfl⟩ : ∃ c y', y = c :: y' := by
    cases y with
    | nil => exact absurd rfl hne
    | cons c y' => exact ⟨c, y', rfl⟩
  have hc : letterB c = true := by rw [List.all_cons, Bool.and_eq_true] at hy; exact hy.1
  have h' : At s.toList k (x ++ c :: (y' ++ r)) := h
  have hs : seesWordV s.toList k false = true := by rw [seesWord_at h' hx (letter_nospace hc), hc]
  have hrun : runP letterB s.toList (skipP s.toList k) = k + x.length + (c :: y').length := by
    rw [skip_at h' hx (letter_nospace hc)]
    exact run_at h.next hy hr
  refine ⟨?_, ?_, ?_, h.next.next⟩
  · unfold wordAt; rw [hs, if_pos rfl, hrun]
  · unfold wordBad; rw [hs]; rfl
  · unfold wordStr
    have hle := (skipP_le h.le).2
    rw [size_toList] at hle
    rw [hs, if_pos rfl, extract_run letterB s _ hle, skip_at h' hx (letter_nospace hc), h.next.rest, takeWhile_stop hy hr]

theorem digit_of (d : Nat) (h : d < 10) : digitB (UInt8.ofNat (48 + d)) = true ∧ ((UInt8.ofNat (48 + d)).toNat : Int) = 48 + d := by
  have : (UInt8.ofNat (48 + d)).toNat = 48 + d := by rw [UInt8.toNat_ofNat']; omega
  refine ⟨?_, by rw [this]; omega⟩
  unfold digitB
  rw [this]
  simp
  omega
theorem dec_lt {u : Nat} (h : u < 10) : Lib.decDigits u = [UInt8.ofNat (48 + u)] := by rw [Lib.decDigits, dif_pos h]
theorem dec_ge {u : Nat} (h : ¬ u < 10) : Lib.decDigits u = Lib.decDigits (u / 10) ++ [UInt8.ofNat (48 + u % 10)] := by rw [Lib.decDigits, dif_neg h]
theorem dec_all (u : Nat) : (Lib.decDigits u).all digitB = true := by
  induction u using Nat.strongRecOn with
  | _ u ih =>
    by_cases h : u < 10
    · rw [dec_lt h, List.all_cons, (digit_of u h).1]; rfl
    · rw [dec_ge h, List.all_append, ih (u / 10) (by omega), List.all_cons, (digit_of (u % 10) (by omega)).1]; rfl
theorem dec_num (u : Nat) (hu : u ≤ 1099511627776) : numL (Lib.decDigits u) = u := by
  induction u using Nat.strongRecOn with
  | _ u ih =>
    by_cases h : u < 10
    · rw [dec_lt h]
      show numStep 0 _ = _
      unfold numStep
      rw [if_pos (by omega), (digit_of u h).2]; omega
    · rw [dec_ge h]
      unfold numL
      rw [List.foldl_append]
      have := ih (u / 10) (by omega) (by omega)
      unfold numL at this
      rw [this]
      show numStep _ _ = _
      unfold numStep
      rw [if_pos (by omega), (digit_of (u % 10) (by omega)).2]; omega
theorem dec_ne (u : Nat) : Lib.decDigits u ≠ [] := by
  by_cases h : u < 10
  · rw [dec_lt h]; simp
  · rw [dec_ge h]; simp
theorem dec_head (u : Nat) (hu : 0 < u) : (Lib.decDigits u).head? ≠ some 48 := by
  induction u using Nat.strongRecOn with
  | _ u ih =>
    by_cases h : u < 10
    · rw [dec_lt h]
      intro e
      simp only [List.head?_cons, Option.some.injEq] at e
      have := (digit_of u h).2
      rw [e] at this
      have h48 : ((48 : UInt8).toNat : Int) = 48 := rfl
      omega
    · rw [dec_ge h, List.head?_append]
      have h1 := ih (u / 10) (by omega) (by omega)
      have h2 := dec_ne (u / 10)
      cases hd : Lib.decDigits (u / 10) with
      | nil => exact absurd hd h2
      | cons c r => rw [hd] at h1; simpa using h1
theorem dec_bad (u : Nat) (hu : u ≤ 1099511627776) (m : Bool) (hm : m = true → 0 < u) : numBadC m (Lib.decDigits u) = false := by
  unfold numBadC
  rw [dec_num u hu]
  have h1 : (Lib.decDigits u).isEmpty = false := by simpa using dec_ne u
  have h3 : decide ((1099511627776 : Int) < (u : Int)) = false := by simp; omega
  rw [h1, h3]
  by_cases h0 : u = 0
  · subst h0
    have : m = false := by cases m; rfl; exact absurd (hm rfl) (by omega)
    subst this
    rw [dec_lt (by omega)]
    rfl
  · have := dec_head u (by omega)
    have e : ((Lib.decDigits u).head? == some 48) = false := by simpa using this
    rw [e]; rfl
theorem digit_head {u : Nat} : ∃ c y, Lib.decDigits u = c :: y ∧ digitB c = true := by
  have h := dec_all u
  cases hd : Lib.decDigits u with
  | nil => exact absurd hd (dec_ne u)
  | cons c y => rw [hd, List.all_cons, Bool.and_eq_true] at h; exact ⟨c, y, rfl, h.1⟩
theorem digit_nospace {c : UInt8} (h : digitB c = true) : spaceB c = false ∧ (c == 45) = false ∧ letterB c = false := by
  unfold digitB at h
  simp only [Bool.and_eq_true, decide_eq_true_eq] at h
  refine ⟨?_, ?_, ?_⟩
  · unfold spaceB; simp; omega
  · have : c ≠ 45 := by
      intro e; subst e
      have : ((45 : UInt8).toNat : Int) = 45 := rfl
      omega
    simpa using this
  · unfold letterB; simp; omega
/-- A number behind blanks. -/
theorem number_at {l x r : List UInt8} {n : Int} {k : Nat} (h : At l k (x ++ (Lib.itoa n ++ r))) (hx : x.all spaceB = true) (hn : -1099511627776 ≤ n ∧ n ≤ 1099511627776) (hr : stops digitB r) :
    numVal l k false = n ∧ numBad l k false = false ∧ numAt l k false = k + x.length + (Lib.itoa n).length ∧ At l (k + x.length + (Lib.itoa n).length) r := by
  have hend := h.next.next
  unfold Lib.itoa at h hend ⊢
  by_cases h0 : n < 0
  · rw [if_pos h0] at h hend ⊢
    have h' : At l k (x ++ 45 :: (Lib.decDigits n.natAbs ++ r)) := h
    have hs : seesV l k false 45 = true := by rw [sees_at h' hx (by decide)]; decide
    have hk : skipP l k = k + x.length := skip_at h' hx (show spaceB 45 = false by decide)
    have hf : numFrom l k false = k + x.length + 1 := by unfold numFrom; rw [hs, if_pos rfl, hk]
    have h1 : At l (k + x.length + 1) (Lib.decDigits n.natAbs ++ r) := At.next (x := [45]) (show At l (k + x.length) ([45] ++ _) from h'.next)
    have hd : digitsAt l (numFrom l k false) = Lib.decDigits n.natAbs := by unfold digitsAt; rw [hf, h1.rest, takeWhile_stop (dec_all _) hr]
    have hb : numBadC true (Lib.decDigits n.natAbs) = false := dec_bad _ (by omega) true (fun _ => by omega)
    refine ⟨?_, ?_, ?_, hend⟩
    · unfold numVal
      rw [hs, hd, hb, if_neg (by decide), if_pos rfl, dec_num _ (by omega)]; omega
    · unfold numBad
      rw [hs, hd, hb]; rfl
    · unfold numAt
      rw [hf, run_at h1 (dec_all _) hr, List.length_cons]; omega
  · rw [if_neg h0] at h hend ⊢
    obtain ⟨c, y, hcy, hc⟩ := digit_head (u := n.toNat)
    have hc2 := digit_nospace hc
    have h' : At l k (x ++ c :: (y ++ r)) := by rw [hcy] at h; exact h
    have hs : seesV l k false 45 = false := by rw [sees_at h' hx hc2.1]; exact hc2.2.1
    have hk : skipP l k = k + x.length := skip_at h' hx hc2.1
    have hf : numFrom l k false = k + x.length := by unfold numFrom; rw [hs, hk]; rfl
    have hd : digitsAt l (numFrom l k false) = Lib.decDigits n.toNat := by unfold digitsAt; rw [hf, h.next.rest, takeWhile_stop (dec_all _) hr]
    have hb : numBadC false (Lib.decDigits n.toNat) = false := dec_bad _ (by omega) false (fun e => by cases e)
    refine ⟨?_, ?_, ?_, hend⟩
    · unfold numVal
      rw [hs, hd, hb, if_neg (by decide), if_neg (by decide), dec_num _ (by omega)]; omega
    · unfold numBad
      rw [hs, hd, hb]; rfl
    · unfold numAt
      rw [hf, run_at h.next (dec_all _) hr]
end Go.Proofs.YtmghhakebhgckaaGreatDoor

namespace Go.Proofs.YtmghhakebhgckaaGreatDoor
set_option linter.unusedSimpArgs false
set_option linter.unusedVariables false
open Go.RowKit

theorem ba_ext {a b : ByteArray} (h : a.toList = b.toList) : a = b := by
  rw [Lib.toList_data, Lib.toList_data] at h
  obtain ⟨⟨a⟩⟩ := a
  obtain ⟨⟨b⟩⟩ := b
  simp only at h
  subst h
  rfl
theorem At.cast {l r r' : List UInt8} {k : Nat} (h : At l k r) (e : r = r') : At l k r' := e ▸ h
theorem itoa_head (n : Int) : ∃ c y, Lib.itoa n = c :: y ∧ spaceB c = false ∧ letterB c = false := by
  unfold Lib.itoa
  split
  · exact ⟨45, _, rfl, by decide, by decide⟩
  · obtain ⟨c, y, h1, h2⟩ := digit_head (u := n.toNat)
    have := digit_nospace h2
    exact ⟨c, y, h1, this.1, this.2.2⟩
/-- An item's line. -/
theorem item_at {s : ByteArray} {x r : List UInt8} {n : Int} {nm : ByteArray} {k : Nat} (fs : List FieldM) (gs : List Int) (is : List ItemM) (h : At s.toList k (x ++ (Lib.itoa n ++ ([32] ++ (nm.toList ++ 59 :: r))))) (hx : x.all spaceB = true)
    (hn : -1099511627776 ≤ n ∧ n ≤ 1099511627776) (hl : nm.toList.all letterB = true) (hne : nm.toList ≠ []) :
    ∃ pos, lineP s k false fs gs is = ⟨fs, gs, is ++ [⟨nm, n⟩], pos, false⟩ ∧ At s.toList pos r := by
  obtain ⟨c, y, hcy, hc1, hc2⟩ := itoa_head n
  have h' : At s.toList k (x ++ c :: (y ++ ([32] ++ (nm.toList ++ 59 :: r)))) := by rw [hcy] at h; exact h
  have hsw : seesWordV s.toList k false = false := by rw [seesWord_at h' hx hc1, hc2]
  have hk1 : skipP s.toList k = k + x.length := skip_at h' hx hc1
  have h1 : At s.toList (k + x.length) ([] ++ (Lib.itoa n ++ ([32] ++ (nm.toList ++ 59 :: r)))) := h.next
  obtain ⟨n1, n2, n3, n4⟩ := number_at h1 rfl hn (show digitB 32 = false by decide)
  obtain ⟨K1, e1⟩ : ∃ K1, k + x.length + ([] : List UInt8).length + (Lib.itoa n).length = K1 := ⟨_, rfl⟩
  rw [e1] at n3 n4
  obtain ⟨w1, w2, w3, w4⟩ := word_at (s := s) (x := [32]) (y := nm.toList) (r := 59 :: r) n4 (by decide) hl hne (show letterB 59 = false by decide)
  obtain ⟨K2, e2⟩ : ∃ K2, K1 + [(32 : UInt8)].length + nm.toList.length = K2 := ⟨_, rfl⟩
  rw [e2] at w1 w4
  have w4' : At s.toList K2 ([] ++ 59 :: r) := w4
  have hse : seesV s.toList K2 false 59 = true := by rw [sees_at w4' rfl (by decide) 59]; decide
  have hsk : skipP s.toList K2 = K2 := skip_at w4' rfl (show spaceB 59 = false by decide)
  obtain ⟨s1, s2, s3⟩ := sign_at w4' rfl (by decide)
  have hnm : wordStr s K1 false = nm := ba_ext w3
  refine ⟨_, ?_, s3⟩
  unfold lineP lineP0
  simp only [hsw, hk1, n1, n2, n3, w1, w2, hnm, hse, hsk, Bool.false_eq_true, if_false, if_true, s1, s2]
theorem letters_head {y r : List UInt8} (hy : y.all letterB = true) (hne : y ≠ []) : ∃ c z, y ++ r = c :: z ∧ letterB c = true := by
  cases y with
  | nil => exact absurd rfl hne
  | cons c y => rw [List.all_cons, Bool.and_eq_true] at hy; exact ⟨c, y ++ r, rfl, hy.1⟩
/-- A field's line. -/
theorem field_at {s : ByteArray} {x r : List UInt8} {n : Int} {ru tw nm : ByteArray} {k : Nat} (fs : List FieldM) (gs : List Int) (is : List ItemM) (h : At s.toList k (x ++ (Lib.itoa n ++ ([32] ++ (ru.toList ++ ([32] ++ (tw.toList ++ ([32] ++ (nm.toList ++ 59 :: r)))))))) ) (hx : x.all spaceB = true)
    (hn : -1099511627776 ≤ n ∧ n ≤ 1099511627776) (hu : ru.toList.all letterB = true) (hune : ru.toList ≠ []) (ht : tw.toList.all letterB = true) (htne : tw.toList ≠ []) (hl : nm.toList.all letterB = true) (hne : nm.toList ≠ []) (hru : (nameIdx rulesL ru.toList == 0) = false) :
    ∃ pos, lineP s k false fs gs is = ⟨fs ++ [⟨n, nm, if nameIdx kindsL tw.toList == 0 then tw else ⟨#[]⟩, nameIdx kindsL tw.toList, nameIdx rulesL ru.toList⟩], gs, is, pos, false⟩ ∧ At s.toList pos r := by
  obtain ⟨c, y, hcy, hc1, hc2⟩ := itoa_head n
  have h' : At s.toList k (x ++ c :: (y ++ ([32] ++ (ru.toList ++ ([32] ++ (tw.toList ++ ([32] ++ (nm.toList ++ 59 :: r)))))))) := by rw [hcy] at h; exact h
  have hsw : seesWordV s.toList k false = false := by rw [seesWord_at h' hx hc1, hc2]
  have hk1 : skipP s.toList k = k + x.length := skip_at h' hx hc1
  have h1 : At s.toList (k + x.length) ([] ++ (Lib.itoa n ++ ([32] ++ (ru.toList ++ ([32] ++ (tw.toList ++ ([32] ++ (nm.toList ++ 59 :: r)))))))) := h.next
  obtain ⟨n1, n2, n3, n4⟩ := number_at h1 rfl hn (show digitB 32 = false by decide)
  obtain ⟨K1, e1⟩ : ∃ K1, k + x.length + ([] : List UInt8).length + (Lib.itoa n).length = K1 := ⟨_, rfl⟩
  rw [e1] at n3 n4
  obtain ⟨w1, w2, w3, w4⟩ := word_at (s := s) (x := [32]) (y := ru.toList) n4 (by decide) hu hune (show letterB 32 = false by decide)
  obtain ⟨K2, e2⟩ : ∃ K2, K1 + [(32 : UInt8)].length + ru.toList.length = K2 := ⟨_, rfl⟩
  rw [e2] at w1 w4
  obtain ⟨c2, z2, hz2, hc2l⟩ := letters_head (r := [32] ++ (nm.toList ++ 59 :: r)) ht htne
  have w4' : At s.toList K2 ([32] ++ c2 :: z2) := by rw [← hz2]; exact w4
  have hse : seesV s.toList K2 false 59 = false := by
    rw [sees_at w4' (by decide) (letter_nospace hc2l) 59]
    have : c2 ≠ 59 := by intro e; subst e; exact absurd hc2l (by decide)
    simpa using this
  have hsk : skipP s.toList K2 = K2 + 1 := skip_at w4' (by decide) (letter_nospace hc2l)
  have w5 : At s.toList (K2 + 1) ([] ++ (tw.toList ++ ([32] ++ (nm.toList ++ 59 :: r)))) := w4.next
  have hb0 : fieldBad ru false = false := by unfold fieldBad; rw [hru]; rfl
  obtain ⟨v1, v2, v3, v4⟩ := word_at (s := s) (x := []) (y := tw.toList) w5 rfl ht htne (show letterB 32 = false by decide)
  obtain ⟨K3, e3⟩ : ∃ K3, K2 + 1 + ([] : List UInt8).length + tw.toList.length = K3 := ⟨_, rfl⟩
  rw [e3] at v1 v4
  obtain ⟨u1, u2, u3, u4⟩ := word_at (s := s) (x := [32]) (y := nm.toList) v4 (by decide) hl hne (show letterB 59 = false by decide)
  obtain ⟨K4, e4⟩ : ∃ K4, K3 + [(32 : UInt8)].length + nm.toList.length = K4 := ⟨_, rfl⟩
  rw [e4] at u1 u4
  have u4' : At s.toList K4 ([] ++ 59 :: r) := u4
  obtain ⟨s1, s2, s3⟩ := sign_at u4' rfl (by decide)
  have hru' : wordStr s K1 false = ru := ba_ext w3
  have htw : wordStr s (K2 + 1) false = tw := ba_ext v3
  have hnm : wordStr s K3 false = nm := ba_ext u3
  have hF : fieldP s (K2 + 1) false n ru = ⟨⟨n, nm, if nameIdx kindsL tw.toList == 0 then tw else ⟨#[]⟩, nameIdx kindsL tw.toList, nameIdx rulesL ru.toList⟩, K4, false⟩ := by
    unfold fieldP
    simp only [hb0, htw, v1, v2, hnm, u1, u2]
  refine ⟨_, ?_, s3⟩
  unfold lineP lineP0
  simp only [hsw, hk1, n1, n2, n3, w1, w2, hru', hse, hsk, Bool.false_eq_true, if_false, hF, s1, s2]
end Go.Proofs.YtmghhakebhgckaaGreatDoor

namespace Go.Proofs.YtmghhakebhgckaaGreatDoor
set_option linter.unusedSimpArgs false
set_option linter.unusedVariables false
open Go.RowKit

theorem goneLoop_at {l r : List UInt8} : ∀ (ns : List Int) (fuel k : Nat) (acc : List Int), At l k (ns.flatMap (fun n => 32 :: Lib.itoa n) ++ 59 :: r) → (∀ n ∈ ns, -1099511627776 ≤ n ∧ n ≤ 1099511627776) → ns.length < fuel →
    ∃ pos, goneLoop l fuel k false acc = ⟨acc ++ ns, pos, false⟩ ∧ At l pos (59 :: r)
  | ns, 0, k, acc, _, _, hf => by omega
  | [], fuel + 1, k, acc, h, _, _ => by
    have h' : At l k ([] ++ 59 :: r) := h
    have hm := more_at h' rfl (by decide)
    have hk : skipP l k = k := skip_at h' rfl (show spaceB 59 = false by decide)
    have hs : seesV l k false 59 = true := by rw [sees_at h' rfl (by decide)]; decide
    refine ⟨k, ?_, h⟩
    unfold goneLoop
    simp only [hm, hk, hs, if_true, List.append_nil]
  | n :: ns, fuel + 1, k, acc, h, hn, hf => by
    have h0 : At l k ([32] ++ (Lib.itoa n ++ (ns.flatMap (fun n => 32 :: Lib.itoa n) ++ 59 :: r))) := by
      refine h.cast ?_
      simp [List.flatMap_cons]
    obtain ⟨c, y, hcy, hc1, hc2⟩ := itoa_head n
    have h1 : At l k ([32] ++ c :: (y ++ (ns.flatMap (fun n => 32 :: Lib.itoa n) ++ 59 :: r))) := by rw [hcy] at h0; exact h0
    have hm := more_at h1 (by decide) hc1
    have hk : skipP l k = k + 1 := skip_at h1 (by decide) hc1
    have h2 : At l (k + 1) ([] ++ (Lib.itoa n ++ (ns.flatMap (fun n => 32 :: Lib.itoa n) ++ 59 :: r))) := h0.next
    have h2' : At l (k + 1) ([] ++ c :: (y ++ (ns.flatMap (fun n => 32 :: Lib.itoa n) ++ 59 :: r))) := h1.next
    have hk2 : skipP l (k + 1) = k + 1 := skip_at h2' rfl hc1
    have hs : seesV l (k + 1) false 59 = false := by
      rw [sees_at h2' rfl hc1]
      unfold Lib.itoa at hcy
      split at hcy
      · cases hcy; decide
      · obtain ⟨c', y', e1, e2⟩ := digit_head (u := n.toNat)
        rw [e1] at hcy
        cases hcy
        have : c ≠ 59 := by intro e; subst e; exact absurd e2 (by decide)
        simpa using this
    obtain ⟨n1, n2, n3, n4⟩ := number_at h2 rfl (hn n (by simp)) (by
      cases ns with
      | nil => exact (show digitB 59 = false by decide)
      | cons m ns => exact (show digitB 32 = false by decide))
    obtain ⟨K1, e1⟩ : ∃ K1, k + 1 + ([] : List UInt8).length + (Lib.itoa n).length = K1 := ⟨_, rfl⟩
    rw [e1] at n3 n4
    obtain ⟨pos, hp1, hp2⟩ := goneLoop_at ns fuel K1 (acc ++ [n]) n4 (fun m hm => hn m (by simp [hm])) (by simp at hf; omega)
    refine ⟨pos, ?_, hp2⟩
    unfold goneLoop
    simp only [hm, hk, hk2, hs, n1, n2, n3, if_true, Bool.false_eq_true, if_false, hp1]
    simp
/-- A line of gone ids. -/
theorem gone_at {s : ByteArray} {x r : List UInt8} {ns : List Int} {k : Nat} (fs : List FieldM) (gs : List Int) (is : List ItemM) (h : At s.toList k (x ++ ([103, 111, 110, 101] ++ (ns.flatMap (fun n => 32 :: Lib.itoa n) ++ 59 :: r)))) (hx : x.all spaceB = true)
    (hn : ∀ n ∈ ns, -1099511627776 ≤ n ∧ n ≤ 1099511627776) (hf : ns.length < 2 * s.size + 2) :
    ∃ pos, lineP s k false fs gs is = ⟨fs, gs ++ ns, is, pos, false⟩ ∧ At s.toList pos r := by
  have h' : At s.toList k (x ++ 103 :: ([111, 110, 101] ++ (ns.flatMap (fun n => 32 :: Lib.itoa n) ++ 59 :: r))) := h
  have hsw : seesWordV s.toList k false = true := by rw [seesWord_at h' hx (by decide)]; decide
  have hk1 : skipP s.toList k = k + x.length := skip_at h' hx (show spaceB 103 = false by decide)
  have h1 : At s.toList (k + x.length) ([] ++ ([103, 111, 110, 101] ++ (ns.flatMap (fun n => 32 :: Lib.itoa n) ++ 59 :: r))) := h.next
  obtain ⟨w1, w2, w3, w4⟩ := word_at (s := s) (x := []) (y := [103, 111, 110, 101]) h1 rfl (by decide) (by decide) (by
    cases ns with
    | nil => exact (show letterB 59 = false by decide)
    | cons m ns => exact (show letterB 32 = false by decide))
  obtain ⟨K1, e1⟩ : ∃ K1, k + x.length + ([] : List UInt8).length + [(103 : UInt8), 111, 110, 101].length = K1 := ⟨_, rfl⟩
  rw [e1] at w1 w4
  obtain ⟨pos, hp1, hp2⟩ := goneLoop_at ns (2 * s.size + 2) K1 [] w4 hn hf
  have hgb : goneBad s.toList s (k + x.length) false = false := by unfold goneBad; rw [w3, w2]; rfl
  have hG : goneP s (k + x.length) false = ⟨ns, pos, false⟩ := by
    unfold goneP
    rw [w1, hgb, hp1, List.nil_append]
  have hp2' : At s.toList pos ([] ++ 59 :: r) := hp2
  obtain ⟨s1, s2, s3⟩ := sign_at hp2' rfl (by decide)
  refine ⟨_, ?_, s3⟩
  unfold lineP lineP0
  simp only [hsw, hk1, hG, if_true, s1, s2]
end Go.Proofs.YtmghhakebhgckaaGreatDoor

namespace Go.Proofs.YtmghhakebhgckaaGreatDoor
set_option linter.unusedSimpArgs false
set_option linter.unusedVariables false
open Go.RowKit

theorem typeLoop_step {s : ByteArray} {x z : List UInt8} {c : UInt8} {k fuel : Nat} {fs : List FieldM} {gs : List Int} {is : List ItemM} (h : At s.toList k (x ++ c :: z)) (hx : x.all spaceB = true) (hc : spaceB c = false) (hne : (c == 125) = false) :
    typeLoop s (fuel + 1) k false fs gs is = typeLoop s fuel (lineP s (k + x.length) false fs gs is).pos (lineP s (k + x.length) false fs gs is).bad (lineP s (k + x.length) false fs gs is).fs (lineP s (k + x.length) false fs gs is).gs (lineP s (k + x.length) false fs gs is).is := by
  have hm := more_at h hx hc
  have hk : skipP s.toList k = k + x.length := skip_at h hx hc
  have h2 : At s.toList (k + x.length) ([] ++ c :: z) := h.next
  have hk2 : skipP s.toList (k + x.length) = k + x.length := skip_at h2 rfl hc
  have hs : seesV s.toList (k + x.length) false 125 = false := by rw [sees_at h2 rfl hc]; exact hne
  conv => lhs; unfold typeLoop
  simp only [hm, hk, hk2, hs, if_true, Bool.false_eq_true, if_false]
theorem typeLoop_end {s : ByteArray} {x r : List UInt8} {k fuel : Nat} {fs : List FieldM} {gs : List Int} {is : List ItemM} (h : At s.toList k (x ++ 125 :: r)) (hx : x.all spaceB = true) :
    typeLoop s (fuel + 1) k false fs gs is = ⟨fs, gs, is, k + x.length, false⟩ ∧ At s.toList (k + x.length) (125 :: r) := by
  have hm := more_at h hx (by decide)
  have hk : skipP s.toList k = k + x.length := skip_at h hx (show spaceB 125 = false by decide)
  have h2 : At s.toList (k + x.length) ([] ++ 125 :: r) := h.next
  have hk2 : skipP s.toList (k + x.length) = k + x.length := skip_at h2 rfl (show spaceB 125 = false by decide)
  have hs : seesV s.toList (k + x.length) false 125 = true := by rw [sees_at h2 rfl (by decide)]; decide
  refine ⟨?_, h2⟩
  unfold typeLoop
  simp only [hm, hk, hk2, hs, if_true]
theorem itoaB_list (n : Int) : (itoaB n).toList = Lib.itoa n := by unfold itoaB; rw [Lib.toList_data]
/-- A name of letters. -/
structure Ltr (b : ByteArray) : Prop where
  all : b.toList.all letterB = true
  ne : b.toList ≠ []
theorem items_at {s : ByteArray} {r : List UInt8} : ∀ (l : List ItemM) (fuel k : Nat) (fs : List FieldM) (gs : List Int) (is : List ItemM), At s.toList k (10 :: (l.flatMap itemB ++ r)) → (∀ i ∈ l, Ltr i.name ∧ -1099511627776 ≤ i.n ∧ i.n ≤ 1099511627776) → l.length ≤ fuel →
    ∃ k', typeLoop s fuel k false fs gs is = typeLoop s (fuel - l.length) k' false fs gs (is ++ l) ∧ At s.toList k' (10 :: r)
  | [], fuel, k, fs, gs, is, h, _, _ => ⟨k, by simp, h⟩
  | i :: l, 0, k, fs, gs, is, h, _, hf => by simp at hf
  | i :: l, fuel + 1, k, fs, gs, is, h, hi, hf => by
    have hi0 := hi i (by simp)
    have h0 : At s.toList k ([10, 32, 32] ++ (Lib.itoa i.n ++ ([32] ++ (i.name.toList ++ 59 :: (10 :: (l.flatMap itemB ++ r)))))) := by
      refine h.cast ?_
      simp [List.flatMap_cons, itemB, lineB, itoaB_list]
    obtain ⟨c, y, hcy, hc1, hc2⟩ := itoa_head i.n
    have h1 : At s.toList k ([10, 32, 32] ++ c :: (y ++ ([32] ++ (i.name.toList ++ 59 :: (10 :: (l.flatMap itemB ++ r)))))) := by rw [hcy] at h0; exact h0
    have hne : (c == 125) = false := by
      unfold Lib.itoa at hcy
      split at hcy
      · cases hcy; decide
      · obtain ⟨c', y', e1, e2⟩ := digit_head (u := i.n.toNat)
        rw [e1] at hcy
        cases hcy
        have : c ≠ 125 := by intro e; subst e; exact absurd e2 (by decide)
        simpa using this
    obtain ⟨pos, hp1, hp2⟩ := item_at (x := []) fs gs is (h0.next) rfl hi0.2 hi0.1.all hi0.1.ne
    rw [typeLoop_step h1 (by decide) hc1 hne, hp1]
    obtain ⟨k', e1, e2⟩ := items_at l fuel pos fs gs (is ++ [i]) hp2 (fun j hj => hi j (by simp [hj])) (by simp at hf; omega)
    refine ⟨k', ?_, e2⟩
    simp only [e1, List.append_assoc, List.singleton_append, List.length_cons]
    congr 1
    omega
/-- A field that its line tells, but for the kind of a type. -/
structure FldOk (f : FieldM) : Prop where
  ru : Ltr (ruleWordM f)
  tw : Ltr (typeWordM f)
  nm : Ltr f.name
  id : -1099511627776 ≤ f.id ∧ f.id ≤ 1099511627776
  rule : (nameIdx rulesL (ruleWordM f).toList == 0) = false
  back : (⟨f.id, f.name, if nameIdx kindsL (typeWordM f).toList == 0 then typeWordM f else ⟨#[]⟩, nameIdx kindsL (typeWordM f).toList, nameIdx rulesL (ruleWordM f).toList⟩ : FieldM) = bareF f
theorem fields_at {s : ByteArray} {r : List UInt8} : ∀ (l : List FieldM) (fuel k : Nat) (fs : List FieldM) (gs : List Int) (is : List ItemM), At s.toList k (10 :: (l.flatMap fieldB ++ r)) → (∀ f ∈ l, FldOk f) → l.length ≤ fuel →
    ∃ k', typeLoop s fuel k false fs gs is = typeLoop s (fuel - l.length) k' false (fs ++ l.map bareF) gs is ∧ At s.toList k' (10 :: r)
  | [], fuel, k, fs, gs, is, h, _, _ => ⟨k, by simp, h⟩
  | f :: l, 0, k, fs, gs, is, h, _, hf => by simp at hf
  | f :: l, fuel + 1, k, fs, gs, is, h, hi, hf => by
    have o := hi f (by simp)
    have h0 : At s.toList k ([10, 32, 32] ++ (Lib.itoa f.id ++ ([32] ++ ((ruleWordM f).toList ++ ([32] ++ ((typeWordM f).toList ++ ([32] ++ (f.name.toList ++ 59 :: (10 :: (l.flatMap fieldB ++ r)))))))))) := by
      refine h.cast ?_
      simp [List.flatMap_cons, fieldB, lineB, itoaB_list]
    obtain ⟨c, y, hcy, hc1, hc2⟩ := itoa_head f.id
    have h1 : At s.toList k ([10, 32, 32] ++ c :: (y ++ ([32] ++ ((ruleWordM f).toList ++ ([32] ++ ((typeWordM f).toList ++ ([32] ++ (f.name.toList ++ 59 :: (10 :: (l.flatMap fieldB ++ r)))))))))) := by rw [hcy] at h0; exact h0
    have hne : (c == 125) = false := by
      unfold Lib.itoa at hcy
      split at hcy
      · cases hcy; decide
      · obtain ⟨c', y', e1, e2⟩ := digit_head (u := f.id.toNat)
        rw [e1] at hcy
        cases hcy
        have : c ≠ 125 := by intro e; subst e; exact absurd e2 (by decide)
        simpa using this
    obtain ⟨pos, hp1, hp2⟩ := field_at (x := []) fs gs is (h0.next) rfl o.id o.ru.all o.ru.ne o.tw.all o.tw.ne o.nm.all o.nm.ne o.rule
    rw [o.back] at hp1
    rw [typeLoop_step h1 (by decide) hc1 hne, hp1]
    obtain ⟨k', e1, e2⟩ := fields_at l fuel pos (fs ++ [bareF f]) gs is hp2 (fun j hj => hi j (by simp [hj])) (by simp at hf; omega)
    refine ⟨k', ?_, e2⟩
    simp only [e1, List.append_assoc, List.singleton_append, List.length_cons, List.map_cons]
    congr 1
    omega
/-- A type's lines up to its end. -/
theorem lines_at {s : ByteArray} {r : List UInt8} {t : TypeM} {k fuel : Nat} (h : At s.toList k (10 :: (t.items.flatMap itemB ++ (t.fields.flatMap fieldB ++ (goneB t.gone ++ 125 :: r))))) (hi : ∀ i ∈ t.items, Ltr i.name ∧ -1099511627776 ≤ i.n ∧ i.n ≤ 1099511627776) (hf : ∀ f ∈ t.fields, FldOk f)
    (hg : ∀ n ∈ t.gone, -1099511627776 ≤ n ∧ n ≤ 1099511627776) (hfu : t.items.length + t.fields.length + 1 < fuel) (hgl : t.gone.length < 2 * s.size + 2) :
    ∃ k', typeLoop s fuel k false [] [] [] = ⟨t.fields.map bareF, t.gone, t.items, k', false⟩ ∧ At s.toList k' (125 :: r) := by
  obtain ⟨k1, e1, h1⟩ := items_at t.items fuel k [] [] [] h hi (by omega)
  obtain ⟨k2, e2, h2⟩ := fields_at t.fields (fuel - t.items.length) k1 [] [] ([] ++ t.items) h1 hf (by omega)
  rw [e1, e2]
  simp only [List.nil_append]
  unfold goneB at h2
  obtain ⟨m, hm⟩ : ∃ m, fuel - t.items.length - t.fields.length = m + 2 := ⟨fuel - t.items.length - t.fields.length - 2, by omega⟩
  rw [hm]
  by_cases h0 : 0 < t.gone.length
  · rw [if_pos h0] at h2
    have h3 : At s.toList k2 ([10, 32, 32] ++ 103 :: ([111, 110, 101] ++ (t.gone.flatMap (fun n => 32 :: Lib.itoa n) ++ 59 :: (10 :: 125 :: r)))) := by
      refine h2.cast ?_
      have hb : (ByteArray.mk #[103, 111, 110, 101]).toList = [103, 111, 110, 101] := by rw [Lib.toList_data]
      simp [lineB, hb, List.flatMap_map, itoaB_list]
    obtain ⟨pos, hp1, hp2⟩ := gone_at (x := []) (t.fields.map bareF) [] t.items (h3.next) rfl hg hgl
    rw [typeLoop_step h3 (by decide) (by decide) (by decide), hp1]
    obtain ⟨e4, h4⟩ := typeLoop_end (fuel := m) (fs := t.fields.map bareF) (gs := [] ++ t.gone) (is := t.items) (x := [10]) (show At s.toList pos ([10] ++ 125 :: r) from hp2) (by decide)
    exact ⟨_, by rw [e4]; simp, h4⟩
  · rw [if_neg h0] at h2
    have hg0 : t.gone = [] := List.length_eq_zero_iff.1 (by omega)
    obtain ⟨e4, h4⟩ := typeLoop_end (fuel := m + 1) (fs := t.fields.map bareF) (gs := []) (is := t.items) (x := [10]) (show At s.toList k2 ([10] ++ 125 :: r) from h2) (by decide)
    exact ⟨_, by rw [e4, hg0], h4⟩
end Go.Proofs.YtmghhakebhgckaaGreatDoor

namespace Go.Proofs.YtmghhakebhgckaaGreatDoor
set_option linter.unusedSimpArgs false
set_option linter.unusedVariables false
open Go.RowKit

/-- A type that its text tells. -/
structure TyOk (t : TypeM) : Prop where
  nm : Ltr t.name
  i : ∀ i ∈ t.items, Ltr i.name ∧ -1099511627776 ≤ i.n ∧ i.n ≤ 1099511627776
  f : ∀ f ∈ t.fields, FldOk f
  g : ∀ n ∈ t.gone, -1099511627776 ≤ n ∧ n ≤ 1099511627776
  len : t.items.length + t.fields.length ≤ 11
def kwB (t : TypeM) : List UInt8 := if t.enum then [101, 110, 117, 109] else [109, 101, 115, 115, 97, 103, 101]
theorem typeB_eq (t : TypeM) (r : List UInt8) : typeB t ++ r = kwB t ++ ([32] ++ (t.name.toList ++ ([32] ++ 123 :: (10 :: (t.items.flatMap itemB ++ (t.fields.flatMap fieldB ++ (goneB t.gone ++ 125 :: (10 :: r)))))))) := by
  unfold typeB headB kwB
  cases t.enum <;> simp
theorem goneB_len (l : List Int) : l.length ≤ (goneB l).length := by
  unfold goneB
  split
  · unfold lineB
    have : ∀ l : List Int, l.length ≤ ((l.map itoaB).flatMap fun x => 32 :: x.toList).length := by
      intro l
      induction l with
      | nil => simp
      | cons a l ih => rw [List.map_cons, List.flatMap_cons, List.length_append, List.length_cons, List.length_cons]; omega
    have := this l
    simp only [List.length_append]
    omega
  · omega
theorem type_at {s : ByteArray} {x r : List UInt8} {t : TypeM} {k : Nat} (h : At s.toList k (x ++ (typeB t ++ r))) (hx : x.all spaceB = true) (ht : TyOk t) :
    ∃ pos, typeP s (skipP s.toList k) false = ⟨bareT t, pos, false⟩ ∧ At s.toList pos (10 :: r) ∧ moreV s.toList k false = true := by
  rw [typeB_eq] at h
  have hsz : 6 + t.gone.length ≤ s.size := by
    have hlen := h.len
    have := goneB_len t.gone
    simp only [List.length_append, List.length_cons, List.length_nil, size_toList] at hlen
    have hk4 : 4 ≤ (kwB t).length := by unfold kwB; cases t.enum <;> decide
    omega
  obtain ⟨c, z, hz, hc⟩ : ∃ c z, kwB t = c :: z ∧ letterB c = true := by unfold kwB; cases t.enum; exact ⟨109, _, rfl, by decide⟩; exact ⟨101, _, rfl, by decide⟩
  have hkall : (kwB t).all letterB = true := by unfold kwB; cases t.enum <;> decide
  have hkne : kwB t ≠ [] := by rw [hz]; simp
  have h' : At s.toList k (x ++ c :: (z ++ ([32] ++ (t.name.toList ++ ([32] ++ 123 :: (10 :: (t.items.flatMap itemB ++ (t.fields.flatMap fieldB ++ (goneB t.gone ++ 125 :: (10 :: r))))))))))  := by rw [hz] at h; exact h
  have hm := more_at h' hx (letter_nospace hc)
  have hk : skipP s.toList k = k + x.length := skip_at h' hx (letter_nospace hc)
  obtain ⟨w1, w2, w3, w4⟩ := word_at (s := s) (x := []) (y := kwB t) (show At s.toList (k + x.length) ([] ++ _) from h.next) rfl hkall hkne (show letterB 32 = false by decide)
  obtain ⟨K1, e1⟩ : ∃ K1, k + x.length + ([] : List UInt8).length + (kwB t).length = K1 := ⟨_, rfl⟩
  rw [e1] at w1 w4
  obtain ⟨v1, v2, v3, v4⟩ := word_at (s := s) (x := [32]) (y := t.name.toList) w4 (by decide) ht.nm.all ht.nm.ne (show letterB 32 = false by decide)
  obtain ⟨K2, e2⟩ : ∃ K2, K1 + [(32 : UInt8)].length + t.name.toList.length = K2 := ⟨_, rfl⟩
  rw [e2] at v1 v4
  obtain ⟨s1, s2, s3⟩ := sign_at (x := [32]) (c := 123) v4 (by decide) (by decide)
  obtain ⟨K3, e3⟩ : ∃ K3, K2 + [(32 : UInt8)].length + 1 = K3 := ⟨_, rfl⟩
  rw [e3] at s1 s3
  obtain ⟨K4, l1, l2⟩ := lines_at (fuel := 2 * s.size + 2) s3 ht.i ht.f ht.g (by have := ht.len; omega) (by omega)
  obtain ⟨u1, u2, u3⟩ := sign_at (x := []) (c := 125) (show At s.toList K4 ([] ++ 125 :: (10 :: r)) from l2) rfl (by decide)
  have hhb : headBad (wordStr s (k + x.length) false) false = false := by
    simp only [headBad, headEnum, w3]
    unfold kwB
    cases t.enum <;> decide
  have hhe : headEnum (wordStr s (k + x.length) false) = t.enum := by
    simp only [headEnum, w3]
    unfold kwB
    cases t.enum <;> decide
  have hnm : wordStr s K1 false = t.name := ba_ext v3
  refine ⟨_, ?_, u3, hm⟩
  rw [hk]
  unfold typeP
  simp only [w1, w2, hhb, hhe, hnm, v1, v2, s1, s2, l1, u1, u2]
  rfl
theorem bookLoop_at {s : ByteArray} : ∀ (ts : BookM) (x : List UInt8) (fuel k : Nat) (acc : BookM), At s.toList k (x ++ bookB ts) → x.all spaceB = true → (∀ t ∈ ts, TyOk t) → ts.length < fuel →
    (bookLoop s fuel k false acc).bad = false ∧ (bookLoop s fuel k false acc).ts = acc ++ bareB ts
  | ts, x, 0, k, acc, _, _, _, hf => by omega
  | [], x, fuel + 1, k, acc, h, hx, _, _ => by
    have hm := more_end (x := x) (by refine h.cast ?_; simp [bookB]) hx
    unfold bookLoop
    simp only [hm, Bool.false_eq_true, if_false]
    simp [bareB]
  | t :: ts, x, fuel + 1, k, acc, h, hx, ht, hf => by
    have h0 : At s.toList k (x ++ (typeB t ++ bookB ts)) := by refine h.cast ?_; simp [bookB]
    obtain ⟨pos, h1, h2, h3⟩ := type_at h0 hx (ht t (by simp))
    have ih := bookLoop_at ts [10] fuel pos (acc ++ [bareT t]) h2 (by decide) (fun u hu => ht u (by simp [hu])) (by simp at hf; omega)
    unfold bookLoop
    simp only [h3, if_true, h1]
    refine ⟨ih.1, ?_⟩
    rw [ih.2]
    simp [bareB]
theorem bookP_at (ts : BookM) (ht : ∀ t ∈ ts, TyOk t) (hl : ts.length ≤ 4) : (bookP ⟨(bookB ts).toArray⟩).bad = false ∧ (bookP ⟨(bookB ts).toArray⟩).ts = bareB ts := by
  have e : (ByteArray.mk (bookB ts).toArray).toList = bookB ts := by rw [Lib.toList_data]
  have h := bookLoop_at (s := ⟨(bookB ts).toArray⟩) ts [] (2 * (ByteArray.mk (bookB ts).toArray).size + 2) 0 [] (by rw [e]; exact At.zero _) rfl ht (by
    have : ts.length ≤ (bookB ts).length := by
      have : ∀ l : BookM, l.length ≤ (bookB l).length := by
        intro l
        induction l with
        | nil => simp
        | cons a l ih =>
          unfold bookB at ih ⊢
          rw [List.flatMap_cons, List.length_append, List.length_cons]
          have : 1 ≤ (typeB a).length := by unfold typeB; simp only [List.length_append, List.length_cons, List.length_nil]; omega
          omega
      exact this ts
    have hs : (ByteArray.mk (bookB ts).toArray).size = (bookB ts).length := by simp [ByteArray.size]
    omega)
  unfold bookP
  rw [List.nil_append] at h
  exact h
end Go.Proofs.YtmghhakebhgckaaGreatDoor

namespace Go.Proofs.YtmghhakebhgckaaGreatDoor
set_option linter.unusedSimpArgs false
set_option linter.unusedVariables false
open Go.RowKit

theorem named_ltr {b : ByteArray} (h : namedL b.toList = true) : Ltr b := by
  unfold namedL at h
  simp only [Bool.and_eq_true, decide_eq_true_eq] at h
  exact ⟨h.1.2, fun e => by rw [e] at h; simp at h⟩
theorem names_out {l : List ByteArray} (h : goodNamesL l = true) : ∀ x ∈ l, namedL x.toList = true := by
  intro x hx
  obtain ⟨i, hi, rfl⟩ := List.getElem_of_mem hx
  have := all_range h hi
  unfold nameOkAt at this
  rw [Bool.and_eq_true] at this
  simpa [List.getD, hi] using this.1
theorem kinds_none {x : List UInt8} (h : namedL x = true) : nameIdx kindsL x = 0 := by
  unfold nameIdx
  rw [if_neg]
  intro hm
  unfold namedL at h
  simp only [Bool.and_eq_true, decide_eq_true_eq, Bool.not_eq_true'] at h
  have : x = [] ∨ x = [98, 111, 111, 108] ∨ x = [105, 110, 116] ∨ x = [116, 101, 120, 116] := by simpa [kindsL] using hm
  rcases this with rfl | rfl | rfl | rfl
  · simp at h
  · exact absurd h.2 (by decide)
  · exact absurd h.2 (by decide)
  · exact absurd h.2 (by decide)
theorem rule_facts {f : FieldM} (h : 1 ≤ f.rule ∧ f.rule ≤ 3) : Ltr (ruleWordM f) ∧ nameIdx rulesL (ruleWordM f).toList = f.rule := by
  have : f.rule = 1 ∨ f.rule = 2 ∨ f.rule = 3 := by omega
  unfold ruleWordM
  rcases this with h | h | h
  all_goals
    rw [h]
    refine ⟨⟨?_, ?_⟩, ?_⟩
    all_goals rw [Lib.toList_data]
    all_goals decide
theorem fldOk {ts : BookM} {f : FieldM} (hg : goodFieldM ts f = true) (hnm : namedL f.name.toList = true) (hid : 1 ≤ f.id ∧ f.id ≤ 30) (hts : ∀ t ∈ ts, namedL t.name.toList = true) : FldOk f := by
  have ho := goodField_out hg
  have hr := rule_facts ho.1
  have hrule : (nameIdx rulesL (ruleWordM f).toList == 0) = false := by rw [hr.2]; simp; omega
  unfold goodFieldM at hg
  split at hg
  · cases hg
  · split at hg
    · rename_i _ h3
      have hty : f.type = ⟨#[]⟩ := ba_ext (by rw [Lib.toList_data ⟨#[]⟩]; simpa using hg)
      have hb : bareF f = f := by unfold bareF; rw [if_neg (by omega)]
      have htw : Ltr (typeWordM f) ∧ nameIdx kindsL (typeWordM f).toList = f.kind := by
        unfold typeWordM
        rw [if_neg (by omega)]
        rcases h3 with h | h | h
        all_goals
          rw [h]
          refine ⟨⟨?_, ?_⟩, ?_⟩
          all_goals rw [Lib.toList_data]
          all_goals decide
      refine ⟨hr.1, htw.1, named_ltr hnm, by omega, hrule, ?_⟩
      rw [htw.2, hr.2, hb]
      have hk0 : (f.kind == 0) = false := by simp; omega
      rw [hk0]
      obtain ⟨a, b, c, d, e⟩ := f
      simp only at hty
      subst hty
      rfl
    · split at hg
      · rename_i _ _ h4
        cases hfd : findM ts f.type with
        | none => rw [hfd] at hg; cases hg
        | some u =>
          have hun : u.name.toList = f.type.toList := by
            have := List.find?_some hfd
            simpa using this
          have hn : namedL f.type.toList = true := by rw [← hun]; exact hts u (findM_mem hfd)
          have htw : typeWordM f = f.type := by unfold typeWordM; rw [if_pos h4]
          have hb : bareF f = { f with kind := 0 } := by unfold bareF; rw [if_pos h4]
          refine ⟨hr.1, by rw [htw]; exact named_ltr hn, named_ltr hnm, by omega, hrule, ?_⟩
          rw [htw, kinds_none hn, hr.2, hb]
          rfl
      · cases hg
theorem good_tyOk {ts : BookM} (h : goodM ts = 0) : ∀ t ∈ ts, TyOk t := by
  obtain ⟨_, hn, ht⟩ := goodM_out h
  intro t hm
  have g := ht t hm
  cases he : t.enum
  · obtain ⟨m1, m2, m3, m4, m5⟩ := g.msg he
    have hi := (risingL_out (goodIds_out m5).1).2
    have hgo := (risingL_out (goodIds_out m5).2)
    have hnm := names_out m4
    refine ⟨named_ltr g.name, fun i hi' => (by rw [m1] at hi'; cases hi'), fun f hf => ?_, fun n hn' => ?_, by rw [m1]; simp; omega⟩
    · exact fldOk (m3 f hf) (hnm f.name (List.mem_map.2 ⟨f, hf, rfl⟩)) (hi f.id (List.mem_map.2 ⟨f, hf, rfl⟩)) (fun u hu => (ht u hu).name)
    · have := hgo.2 n hn'; omega
  · obtain ⟨m1, m2, m3, m4, m5, m6⟩ := g.enum he
    have hi := (risingL_out m6).2
    have hnm := names_out m5
    refine ⟨named_ltr g.name, fun i hi' => ⟨named_ltr (hnm i.name (List.mem_map.2 ⟨i, hi', rfl⟩)), hi i.n (List.mem_map.2 ⟨i, hi', rfl⟩)⟩, fun f hf => (by rw [m1] at hf; cases hf), fun n hn' => (by rw [m2] at hn'; cases hn'), by rw [m1]; simp; omega⟩
/-- What is left of BackP: a good book's text is not too long. -/
def LenP : Prop := ∀ ts : BookM, goodM ts = 0 → (bookB ts).length ≤ 4000
theorem back_of_len (h : LenP) : BackP := fun ts hg =>
  have b := bookP_at ts (good_tyOk hg) (goodM_out hg).1
  ⟨b.1, b.2, h ts hg⟩
end Go.Proofs.YtmghhakebhgckaaGreatDoor

namespace Go.Proofs.YtmghhakebhgckaaGreatDoor
set_option linter.unusedSimpArgs false
set_option linter.unusedVariables false
open Go.RowKit

theorem rise_len : ∀ (l : List Int) (lo hi : Int), l.Pairwise (fun x y => x < y) → (∀ x ∈ l, lo ≤ x ∧ x ≤ hi) → (l.length : Int) ≤ max 0 (hi - lo + 1)
  | [], lo, hi, _, _ => by simp; omega
  | a :: l, lo, hi, hp, hb => by
    rw [List.pairwise_cons] at hp
    have ha := hb a (by simp)
    have ih := rise_len l (a + 1) hi hp.2 (fun x hx => ⟨by have := hp.1 x hx; omega, (hb x (by simp [hx])).2⟩)
    rw [List.length_cons]
    omega
theorem dec_len (m : Nat) : ∀ u, u < 10 ^ (m + 1) → (Lib.decDigits u).length ≤ m + 1 := by
  induction m with
  | zero => intro u hu; rw [dec_lt (by omega)]; simp
  | succ m ih =>
    intro u hu
    by_cases h : u < 10
    · rw [dec_lt h]; simp
    · rw [dec_ge h, List.length_append]
      have : u / 10 < 10 ^ (m + 1) := by
        rw [Nat.div_lt_iff_lt_mul (by omega)]
        rw [Nat.pow_succ] at hu
        exact hu
      have := ih _ this
      simp only [List.length_cons, List.length_nil]
      omega
theorem itoa_len2 {n : Int} (h : 0 ≤ n ∧ n < 100) : (itoaB n).toList.length ≤ 2 := by
  rw [itoaB_list]
  unfold Lib.itoa
  rw [if_neg (by omega)]
  exact dec_len 1 _ (by omega)
theorem itoa_len14 {n : Int} (h : -1099511627776 ≤ n ∧ n ≤ 1099511627776) : (itoaB n).toList.length ≤ 14 := by
  rw [itoaB_list]
  unfold Lib.itoa
  split
  · have := dec_len 12 n.natAbs (by omega)
    rw [List.length_cons]; omega
  · have := dec_len 12 n.toNat (by omega)
    omega
theorem named_len {b : ByteArray} (h : namedL b.toList = true) : b.toList.length ≤ 12 := by
  unfold namedL at h
  simp only [Bool.and_eq_true, decide_eq_true_eq] at h
  exact h.1.1.2
theorem flat_le {α : Type} (f : α → List UInt8) (c : Nat) : ∀ (l : List α), (∀ x ∈ l, (f x).length ≤ c) → (l.flatMap f).length ≤ l.length * c
  | [], _ => by simp
  | a :: l, h => by
    rw [List.flatMap_cons, List.length_append, List.length_cons, Nat.add_mul]
    have := h a (by simp)
    have := flat_le f c l (fun x hx => h x (by simp [hx]))
    omega
theorem rule_len (f : FieldM) (h : 1 ≤ f.rule ∧ f.rule ≤ 3) : (ruleWordM f).toList.length ≤ 5 := by
  have : f.rule = 1 ∨ f.rule = 2 ∨ f.rule = 3 := by omega
  unfold ruleWordM
  rcases this with h | h | h <;> rw [h, Lib.toList_data] <;> decide
theorem word_len {ts : BookM} {f : FieldM} (hg : goodFieldM ts f = true) (hts : ∀ t ∈ ts, namedL t.name.toList = true) : (typeWordM f).toList.length ≤ 12 := by
  unfold goodFieldM at hg
  unfold typeWordM
  split at hg
  · cases hg
  · split at hg
    · rename_i _ h3
      rw [if_neg (by omega)]
      rcases h3 with h | h | h <;> rw [h, Lib.toList_data] <;> decide
    · split at hg
      · rename_i _ _ h4
        rw [if_pos h4]
        cases hfd : findM ts f.type with
        | none => rw [hfd] at hg; cases hg
        | some u =>
          have hun : u.name.toList = f.type.toList := by
            have := List.find?_some hfd
            simpa using this
          rw [← hun]; exact named_len (hts u (findM_mem hfd))
      · cases hg
theorem len_ok : LenP := by
  intro ts hg
  obtain ⟨h4, _, ht⟩ := goodM_out hg
  have key : ∀ t ∈ ts, (typeB t).length ≤ 400 := by
    intro t hm
    have g := ht t hm
    have hnl := named_len g.name
    have hhead : (headB t).length ≤ 23 := by
      unfold headB
      rw [List.length_append, List.length_append]
      cases t.enum
      · simp only [Bool.false_eq_true, if_false, List.length_cons, List.length_nil]; omega
      · simp only [if_true, List.length_cons, List.length_nil]; omega
    unfold typeB
    simp only [List.length_append, List.length_cons, List.length_nil]
    cases he : t.enum
    · obtain ⟨m1, m2, m3, m4, m5⟩ := g.msg he
      have hi := (risingL_out (goodIds_out m5).1).2
      have hgo := (risingL_out (goodIds_out m5).2)
      have hgl := rise_len t.gone 1 30 hgo.1 hgo.2
      have hnm := names_out m4
      have hF := flat_le fieldB 38 t.fields (fun f hf => by
        have h1 := itoa_len2 (n := f.id) (by have := hi f.id (List.mem_map.2 ⟨f, hf, rfl⟩); omega)
        have h2 := rule_len f (goodField_out (m3 f hf)).1
        have h3 := word_len (m3 f hf) (fun u hu => (ht u hu).name)
        have h5 := named_len (hnm f.name (List.mem_map.2 ⟨f, hf, rfl⟩))
        unfold fieldB lineB
        simp only [List.length_append, List.flatMap_cons, List.flatMap_nil, List.length_cons, List.length_nil]
        omega)
      have hG : (goneB t.gone).length ≤ 8 + t.gone.length * 3 := by
        unfold goneB
        split
        · have := flat_le (fun x : ByteArray => 32 :: x.toList) 3 (t.gone.map itoaB) (fun x hx => by
            obtain ⟨n, hn, rfl⟩ := List.mem_map.1 hx
            have := itoa_len2 (n := n) (by have := hgo.2 n hn; omega)
            rw [List.length_cons]; omega)
          unfold lineB
          rw [List.length_map] at this
          have hb : (ByteArray.mk #[103, 111, 110, 101]).toList.length = 4 := by rw [Lib.toList_data]; rfl
          simp only [List.length_append, List.length_cons, List.length_nil, hb]
          omega
        · simp
      have hI : (t.items.flatMap itemB).length = 0 := by rw [m1]; rfl
      omega
    · obtain ⟨m1, m2, m3, m4, m5, m6⟩ := g.enum he
      have hi := (risingL_out m6).2
      have hnm := names_out m5
      have hI := flat_le itemB 31 t.items (fun i hi' => by
        have h1 := itoa_len14 (hi i.n (List.mem_map.2 ⟨i, hi', rfl⟩))
        have h5 := named_len (hnm i.name (List.mem_map.2 ⟨i, hi', rfl⟩))
        unfold itemB lineB
        simp only [List.length_append, List.flatMap_cons, List.flatMap_nil, List.length_cons, List.length_nil]
        omega)
      have hF : (t.fields.flatMap fieldB).length = 0 := by rw [m1]; rfl
      have hG : (goneB t.gone).length = 0 := by rw [m2]; rfl
      omega
  have := flat_le typeB 400 ts key
  unfold bookB
  omega
theorem back_ok : BackP := back_of_len len_ok
theorem size_of_named {b : ByteArray} (h : namedL b.toList = true) : b.size ≤ 12 := by
  have := named_len h
  rwa [size_toList] at this
theorem type_size {ts : BookM} {f : FieldM} (hg : goodFieldM ts f = true) (hts : ∀ t ∈ ts, namedL t.name.toList = true) : f.type.size ≤ 12 := by
  unfold goodFieldM at hg
  rw [← size_toList]
  split at hg
  · cases hg
  · split at hg
    · rw [List.isEmpty_iff.1 hg]; simp
    · split at hg
      · cases hfd : findM ts f.type with
        | none => rw [hfd] at hg; cases hg
        | some u =>
          have hun : u.name.toList = f.type.toList := by
            have := List.find?_some hfd
            simpa using this
          rw [← hun]; exact named_len (hts u (findM_mem hfd))
      · cases hg
/-- A good book is small. -/
theorem good_small {ts : BookM} (h : goodM ts = 0) : ts.Small := by
  obtain ⟨h1, _, h3⟩ := goodM_out h
  refine ⟨by omega, fun t ht => ?_⟩
  have g := h3 t ht
  have hnm := size_of_named g.name
  cases he : t.enum
  · obtain ⟨g1, g2, g3, g4, g5⟩ := g.msg he
    obtain ⟨_, g7⟩ := goodIds_out g5
    obtain ⟨g8, g9⟩ := risingL_out g7
    have hroom := rise_len t.gone 1 30 g8 g9
    refine ⟨by omega, by omega, by omega, by rw [g1]; simp, fun x hx => ?_, fun x hx => by rw [g1] at hx; exact absurd hx List.not_mem_nil⟩
    have hx1 := size_of_named (names_out g4 _ (List.mem_map_of_mem hx))
    have hx2 := type_size (g3 x hx) fun u hu => (h3 u hu).name
    exact ⟨by omega, by omega⟩
  · obtain ⟨g1, g2, g3, g4, g5, g6⟩ := g.enum he
    refine ⟨by omega, by rw [g1]; simp, by rw [g2]; simp, by omega, fun x hx => by rw [g1] at hx; exact absurd hx List.not_mem_nil, fun x hx => ?_⟩
    have hx1 := size_of_named (names_out g5 _ (List.mem_map_of_mem hx))
    omega
end Go.Proofs.YtmghhakebhgckaaGreatDoor

namespace Go.Proofs.YtmghhakebhgckaaGreatDoor
set_option linter.unusedSimpArgs false
set_option linter.unusedVariables false
open Go.RowKit
theorem bookBack_calls (s : SV) (ts : BookM) (w : World) (hs : BookAt w s ts) (hn : ts.Fits) (hl : Laid w) : Calls Tryz.prog 6 #[.agg #[.slice s.a s.len s.cap]] w fun e w' => e = .returned (.bool true) ∧ Ext w w' :=
  bookBack_walk back_ok books_ok s ts w hs hn good_small hl
theorem bookOnce_calls (s : ByteArray) (w : World) (hsz : s.size ≤ 9223372036854775807) (hl : Laid w) : Calls Tryz.prog 7 #[.string s] w fun e w' => e = .returned (.bool true) ∧ Ext w w' :=
  bookOnce_walk back_ok books_ok s w hsz hl
end Go.Proofs.YtmghhakebhgckaaGreatDoor

