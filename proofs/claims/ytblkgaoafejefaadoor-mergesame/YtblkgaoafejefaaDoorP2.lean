import Derived.Test.YtblkgaoafejefaaDoorP1
namespace Go.Proofs.YtblkgaoafejefaaDoor
set_option linter.unusedSimpArgs false
set_option linter.unusedVariables false

/-- Two lists that rise by a key, of the same, are one. -/
theorem rise_key {α : Type} (key : α → α → Prop) (irr : ∀ x, ¬ key x x) (tr : ∀ x y z, key x y → key y z → key x z) : ∀ (l m : List α), l.Pairwise key → m.Pairwise key → (∀ z, z ∈ l ↔ z ∈ m) → l = m
  | [], [], _, _, _ => rfl
  | [], y :: m, _, _, h => by have := (h y).2 (by simp); simp at this
  | x :: l, [], _, _, h => by have := (h x).1 (by simp); simp at this
  | x :: l, y :: m, hl, hm, h => by
    rw [List.pairwise_cons] at hl hm
    have ne : ∀ a b, key a b → a ≠ b := fun a b h e => by subst e; exact irr _ h
    have e : x = y := by
      rcases List.mem_cons.1 ((h x).1 (by simp)) with e | h1
      · exact e
      · rcases List.mem_cons.1 ((h y).2 (by simp)) with e | h2
        · exact e.symm
        · exact absurd rfl (ne _ _ (tr _ _ _ (hl.1 y h2) (hm.1 x h1)))
    subst e
    rw [rise_key key irr tr l m hl.2 hm.2 fun z => ?_]
    constructor
    · intro hz
      rcases List.mem_cons.1 ((h z).1 (by simp [hz])) with e | h1
      · exact absurd e.symm (ne _ _ (hl.1 z hz))
      · exact h1
    · intro hz
      rcases List.mem_cons.1 ((h z).2 (by simp [hz])) with e | h1
      · exact absurd e.symm (ne _ _ (hm.1 z hz))
      · exact h1
theorem filterMap_rise {α β : Type} {lt : β → β → Prop} {k : α → β} {g : β → Option α} (hg : ∀ x y, g x = some y → k y = x) : ∀ l : List β, l.Pairwise lt → (l.filterMap g).Pairwise fun x y => lt (k x) (k y)
  | [], _ => by simp
  | b :: l, h => by
    rw [List.pairwise_cons] at h
    have ih := filterMap_rise hg l h.2
    rw [List.filterMap_cons]
    split
    · exact ih
    · rename_i y hy
      refine List.pairwise_cons.2 ⟨fun z hz => ?_, ih⟩
      obtain ⟨c, hc, hcz⟩ := List.mem_filterMap.1 hz
      rw [hg _ _ hy, hg _ _ hcz]
      exact h.1 c hc
/-- What is found by its key in a list that rises by it, is itself. -/
theorem find_self {α β : Type} [BEq β] [LawfulBEq β] {lt : β → β → Prop} (irr : ∀ x, ¬ lt x x) {k : α → β} : ∀ (l : List α), (l.map k).Pairwise lt → ∀ x ∈ l, l.find? (fun y => k y == k x) = some x
  | [], _, x, hx => by simp at hx
  | a :: l, h, x, hx => by
    rw [List.map_cons, List.pairwise_cons] at h
    rw [List.find?_cons]
    by_cases e : k a = k x
    · have : a = x := by
        rcases List.mem_cons.1 hx with e' | hx'
        · exact e'.symm
        · exact absurd (e ▸ h.1 (k x) (List.mem_map.2 ⟨x, hx', rfl⟩)) (irr _)
      subst this
      simp
    · have : (k a == k x) = false := by simpa using e
      rw [this]
      rcases List.mem_cons.1 hx with e' | hx'
      · exact absurd (by rw [e']) e
      · exact find_self irr l h.2 x hx'
theorem idsTo_rise (k : Nat) : (idsTo k).Pairwise (· < ·) := by
  unfold idsTo
  rw [List.pairwise_map]
  exact List.Pairwise.imp (fun h => by omega) (List.pairwise_lt_range (n := k))
theorem mem_idsTo {k : Nat} {x : Int} : x ∈ idsTo k ↔ 1 ≤ x ∧ x ≤ k := by
  unfold idsTo
  simp only [List.mem_map, List.mem_range]
  constructor
  · rintro ⟨i, hi, rfl⟩; omega
  · rintro ⟨h1, h2⟩; exact ⟨(x - 1).toNat, by omega, by omega⟩
theorem fieldM_id {t : TypeM} {id : Int} {f : FieldM} (h : fieldM t id = some f) : f.id = id := by
  have := List.find?_some h; simpa using this
theorem itemM_n {t : TypeM} {n : Int} {f : ItemM} (h : itemM t n = some f) : f.n = n := by
  have := List.find?_some h; simpa using this
/-- Every thing of three is as one type has it. -/
structure Settles (s : TS) (c : TypeM) : Prop where
  fld : ∀ id, idKept s id = some (fieldM c id)
  gon : ∀ id, idGone s id = c.gone.contains id
  itm : ∀ n, itKept s n = some (itemM c n)
  typ : typeKept s = some (typeIn c)
theorem settles_1 (w c : TypeM) : Settles ⟨w, c, w⟩ c := ⟨fun _ => settle_1 (lawO lawF) _ _, fun _ => by unfold idGone; rw [settle_1 lawB]; rfl, fun _ => settle_1 (lawO lawI) _ _, settle_1 lawBB _ _⟩
theorem settles_2 (w c : TypeM) : Settles ⟨w, c, c⟩ c := ⟨fun _ => settle_2 (lawO lawF) _ _, fun _ => by unfold idGone; rw [settle_2 lawB]; rfl, fun _ => settle_2 (lawO lawI) _ _, settle_2 lawBB _ _⟩
theorem settles_3 (w c : TypeM) : Settles ⟨w, w, c⟩ c := ⟨fun _ => settle_3 (lawO lawF) _ _, fun _ => by unfold idGone; rw [settle_3 lawB]; rfl, fun _ => settle_3 (lawO lawI) _ _, settle_3 lawBB _ _⟩
/-- What a type has that stands in a good book, or is not there. -/
structure GoodT1 (c : TypeM) : Prop where
  fields : (c.fields.map (·.id)).Pairwise (· < ·) ∧ ∀ x ∈ c.fields.map (·.id), 1 ≤ x ∧ x ≤ 30
  gone : c.gone.Pairwise (· < ·) ∧ ∀ x ∈ c.gone, 1 ≤ x ∧ x ≤ 30
  apart : ∀ f ∈ c.fields, f.id ∉ c.gone
  items : (c.items.map (·.n)).Pairwise (· < ·)
  enum : c.enum = true → c.fields = [] ∧ c.gone = []
  msg : c.enum = false → c.items = []
theorem GoodB.one {ts : BookM} (h : GoodB ts) {t : TypeM} (ht : t ∈ ts) : GoodT1 t := ⟨h.fields t ht, h.gone t ht, h.apart t ht, h.items t ht, h.enum t ht, h.msg t ht⟩
theorem goodZ : GoodT1 TypeM.zero := ⟨by simp [TypeM.zero], by simp [TypeM.zero], by simp [TypeM.zero], by simp [TypeM.zero], by simp [TypeM.zero], by simp [TypeM.zero]⟩
theorem GoodB.findZ {ts : BookM} (h : GoodB ts) (n : ByteArray) : GoodT1 (findZ ts n) := by
  unfold YtblkgaoafejefaaDoor.findZ
  cases hf : findM ts n with
  | none => exact goodZ
  | some t => exact h.one (List.mem_of_find?_eq_some hf)
theorem Settles.noflaw {s : TS} {c : TypeM} (h : Settles s c) (g : GoodT1 c) (id : Int) : idFlaw s id = false := by
  unfold idFlaw
  rw [h.fld, h.gon]
  show ((fieldM c id).isSome && c.gone.contains id) = false
  cases hf : fieldM c id with
  | none => rfl
  | some f =>
    have hm := List.mem_of_find?_eq_some hf
    have := g.apart f hm
    rw [fieldM_id hf] at this
    simpa using this
theorem Settles.fields {s : TS} {c : TypeM} (h : Settles s c) (g : GoodT1 c) : fieldsTo s 30 = c.fields := by
  have e : fieldsTo s 30 = (idsTo 30).filterMap (fieldM c) := by
    unfold fieldsTo; congr 1; funext id; rw [h.noflaw g, h.fld]; rfl
  rw [e]
  refine rise_key (fun x y : FieldM => x.id < y.id) (fun x => by omega) (fun x y z => by omega) _ _ (filterMap_rise (fun x y => fieldM_id) _ (idsTo_rise 30)) (by have := g.fields.1; rwa [List.pairwise_map] at this) fun f => ?_
  rw [List.mem_filterMap]
  constructor
  · rintro ⟨id, _, hf⟩; exact List.mem_of_find?_eq_some hf
  · intro hf
    refine ⟨f.id, mem_idsTo.2 ?_, find_self (fun x => Int.lt_irrefl x) _ g.fields.1 f hf⟩
    exact g.fields.2 _ (List.mem_map.2 ⟨f, hf, rfl⟩)
theorem Settles.gone {s : TS} {c : TypeM} (h : Settles s c) (g : GoodT1 c) : goneTo s 30 = c.gone := by
  have e : goneTo s 30 = (idsTo 30).filter fun id => c.gone.contains id := by
    unfold goneTo; congr 1; funext id; rw [h.noflaw g, h.gon]; rfl
  rw [e]
  refine rise_key (fun x y : Int => x < y) (fun x => by omega) (fun x y z => by omega) _ _ (List.Pairwise.filter _ (idsTo_rise 30)) g.gone.1 fun f => ?_
  rw [List.mem_filter, List.contains_iff_mem, mem_idsTo]
  exact ⟨fun h => h.2, fun h => ⟨g.gone.2 f h, h⟩⟩
theorem Settles.items {s : TS} {c : TypeM} (h : Settles s c) (g : GoodT1 c) (hn : ∀ i ∈ c.items, i.n ∈ numbersM s) : itemsOf s (numbersM s) = c.items := by
  have e : itemsOf s (numbersM s) = (numbersM s).filterMap (itemM c) := by
    unfold itemsOf; congr 1; funext id; rw [h.itm]; rfl
  rw [e]
  refine rise_key (fun x y : ItemM => x.n < y.n) (fun x => by omega) (fun x y z => by omega) _ _ (filterMap_rise (fun x y => itemM_n) _ ((rise_unions ordI _).imp fun h => by simpa [ltI] using h)) (by have := g.items; rwa [List.pairwise_map] at this) fun f => ?_
  rw [List.mem_filterMap]
  constructor
  · rintro ⟨id, _, hf⟩; exact List.mem_of_find?_eq_some hf
  · intro hf
    exact ⟨f.n, hn f hf, find_self (fun x => Int.lt_irrefl x) _ g.items f hf⟩
theorem Settles.merged {s : TS} {c : TypeM} {name : ByteArray} (h : Settles s c) (g : GoodT1 c) (hn : ∀ i ∈ c.items, i.n ∈ numbersM s) (hname : c.name.toList ≠ [] → c.name = name) (hz : c.name.toList = [] → c = TypeM.zero) :
    (mergedM name s).2.2 = [] ∧ (mergedM name s).2.1 = (typeIn c).1 ∧ ((typeIn c).1 = true → (mergedM name s).1 = c) := by
  have e0 : flawIds s = [] := by
    unfold flawIds fieldFlawsTo itemFlawsOf
    rw [List.append_eq_nil_iff, List.filter_eq_nil_iff, List.filter_eq_nil_iff]
    exact ⟨fun id _ => by rw [h.noflaw g]; simp, fun n _ => by rw [h.itm]; simp⟩
  have e1 := h.fields g
  have e2 := h.gone g
  have e3 := h.items g hn
  unfold mergedM
  rw [h.typ]
  show (if _ then _ else _) = [] ∧ (typeIn c).1 = (typeIn c).1 ∧ ((typeIn c).1 = true → typeOut name s c.enum = c)
  refine ⟨?_, rfl, fun ht => ?_⟩
  · rw [e0, e1, e2, e3]
    rw [if_neg]
    simp only [List.isEmpty_nil, Bool.true_and, misplacedB]
    by_cases hc : c.name.toList = []
    · rw [hz hc]; simp [typeIn, TypeM.zero]
    · have h1 : (typeIn c).1 = true := by simp [typeIn, hc]
      have h2 : (typeIn c).2 = c.enum := rfl
      cases he : c.enum with
      | true => obtain ⟨a, b⟩ := g.enum he; simp [h1, h2, he, a, b]
      | false => have a := g.msg he; simp [h1, h2, he, a]
  · have hc : c.name.toList ≠ [] := by simpa [typeIn] using ht
    unfold typeOut
    rw [e1, e2, e3, ← hname hc]
theorem find_name' {ts : BookM} {name : ByteArray} {t : TypeM} (h : findM ts name = some t) : t.name = name := by
  have := List.find?_some h
  exact name_ext (by simpa using this)
theorem findZ_name {ts : BookM} (n : ByteArray) (h : (findZ ts n).name.toList ≠ []) : (findZ ts n).name = n := by
  unfold findZ at h ⊢
  cases hf : findM ts n with
  | none => rw [hf] at h; exact absurd (by simp [TypeM.zero, bytes_toList]) h
  | some t => exact find_name' hf
theorem findZ_zero {ts : BookM} (g : GoodB ts) (n : ByteArray) (h : (findZ ts n).name.toList = []) : findZ ts n = TypeM.zero := by
  unfold findZ at h ⊢
  cases hf : findM ts n with
  | none => rfl
  | some t => rw [hf] at h; exact absurd h (g.named t (List.mem_of_find?_eq_some hf))
theorem find_mem {ts : BookM} (g : GoodB ts) {t : TypeM} (ht : t ∈ ts) : findM ts t.name = some t := by
  have := find_self (k := fun t : TypeM => t.name.toList) (fun x => List.lt_irrefl x) ts (by rw [List.pairwise_map]; exact g.names) t ht
  exact this
/-- Where every thing is as one book has it, it comes of it. -/
theorem books_as {was a b c : BookM} (gc : GoodB c) (h0 : goodM was = 0 ∧ goodM a = 0 ∧ goodM b = 0 ∧ goodM c = 0) (hs : ∀ n, Settles (tsOf was a b n) (findZ c n)) (hin : ∀ t ∈ c, t.name ∈ namesM was a b) (hit : ∀ n, ∀ i ∈ (findZ c n).items, i.n ∈ numbersM (tsOf was a b n)) :
    booksM was a b = (c, [], 0) := by
  have hm := fun n => (hs n).merged (gc.findZ n) (hit n) (fun h => findZ_name n h) (fun h => findZ_zero gc n h)
  have e1 : flawsOf was a b (namesM was a b) = [] := by
    unfold flawsOf
    rw [List.flatMap_eq_nil_iff]
    intro n _
    rw [(hm n).1]
    rfl
  have e2 : outOf was a b (namesM was a b) = c := by
    have e : outOf was a b (namesM was a b) = (namesM was a b).filterMap (findM c) := by
      unfold outOf
      congr 1
      funext n
      rw [(hm n).2.1]
      cases hf : findM c n with
      | none => 
        have : findZ c n = TypeM.zero := by unfold findZ; rw [hf]; rfl
        rw [this]; simp [typeIn, TypeM.zero, bytes_toList]
      | some t =>
        have ez : findZ c n = t := by unfold findZ; rw [hf]; rfl
        have ht : (typeIn (findZ c n)).1 = true := by rw [ez]; simp [typeIn, gc.named t (List.mem_of_find?_eq_some hf)]
        rw [ht, if_pos rfl, (hm n).2.2 ht, ez]
    rw [e]
    refine rise_key (fun x y : TypeM => x.name.toList < y.name.toList) (fun x => List.lt_irrefl _) (fun x y z h1 h2 => List.lt_trans h1 h2) _ _ (filterMap_rise (lt := fun x y : ByteArray => x.toList < y.toList) (fun x y => find_name') _ ((rise_unions ordN _).imp fun h => by simpa [ltN] using h)) gc.names fun t => ?_
    rw [List.mem_filterMap]
    constructor
    · rintro ⟨n, _, hf⟩; exact List.mem_of_find?_eq_some hf
    · intro ht; exact ⟨t.name, hin t ht, find_mem gc ht⟩
  unfold booksM
  rw [e1, e2, if_neg (by simp [h0.1, h0.2.1, h0.2.2.1]), if_neg (by simp), if_neg (by simp [h0.2.2.2])]
theorem names_in {was a b : BookM} {n : ByteArray} : n ∈ namesM was a b ↔ n ∈ was.map (·.name) ∨ n ∈ a.map (·.name) ∨ n ∈ b.map (·.name) := by
  unfold namesM
  rw [mem_unions ordN]
  simp only [List.mem_append, or_assoc]
theorem numbers_in {s : TS} {n : Int} : n ∈ numbersM s ↔ n ∈ s.was.items.map (·.n) ∨ n ∈ s.a.items.map (·.n) ∨ n ∈ s.b.items.map (·.n) := by
  unfold numbersM
  rw [mem_unions ordI]
  simp only [List.mem_append, or_assoc]
/-- Whoever changes nothing is not in the way; who has changed the same neither. -/
theorem books_1 {was a : BookM} (ga : GoodB a) (h1 : goodM was = 0) (h2 : goodM a = 0) : booksM was a was = (a, [], 0) :=
  books_as ga ⟨h1, h2, h1, h2⟩ (fun n => settles_1 _ _) (fun t ht => names_in.2 (.inr (.inl (List.mem_map.2 ⟨t, ht, rfl⟩)))) (fun n i hi => numbers_in.2 (.inr (.inl (List.mem_map.2 ⟨i, hi, rfl⟩))))
theorem books_2 {was a : BookM} (ga : GoodB a) (h1 : goodM was = 0) (h2 : goodM a = 0) : booksM was a a = (a, [], 0) :=
  books_as ga ⟨h1, h2, h2, h2⟩ (fun n => settles_2 _ _) (fun t ht => names_in.2 (.inr (.inl (List.mem_map.2 ⟨t, ht, rfl⟩)))) (fun n i hi => numbers_in.2 (.inr (.inl (List.mem_map.2 ⟨i, hi, rfl⟩))))
theorem books_3 {was a : BookM} (ga : GoodB a) (h1 : goodM was = 0) (h2 : goodM a = 0) : booksM was was a = (a, [], 0) :=
  books_as ga ⟨h1, h1, h2, h2⟩ (fun n => settles_3 _ _) (fun t ht => names_in.2 (.inr (.inr (List.mem_map.2 ⟨t, ht, rfl⟩)))) (fun n i hi => numbers_in.2 (.inr (.inr (List.mem_map.2 ⟨i, hi, rfl⟩))))
end Go.Proofs.YtblkgaoafejefaaDoor
