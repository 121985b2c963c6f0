import Derived.Test.YtblkgaoafejefaaDoorP2
namespace Go.Proofs.YtblkgaoafejefaaDoor
set_option linter.unusedSimpArgs false
set_option linter.unusedVariables false

theorem settle_mem {α : Type} {eq : α → α → Bool} {was a b k : α} (hk : settleB eq was a b = some k) : k = a ∨ k = b := by
  unfold settleB at hk
  split at hk
  · exact .inl (Option.some.inj hk).symm
  · split at hk
    · exact .inr (Option.some.inj hk).symm
    · cases hk
theorem idKept_id {s : TS} {id : Int} {f : FieldM} (h : idKept s id = some (some f)) : f.id = id := by
  rcases settle_mem h with e | e
  · exact fieldM_id e.symm
  · exact fieldM_id e.symm
theorem filterMap_as {α β : Type} {f g : α → Option β} : ∀ l : List α, (∀ x ∈ l, f x = g x) → l.filterMap f = l.filterMap g
  | [], _ => rfl
  | a :: l, h => by
    rw [List.filterMap_cons, List.filterMap_cons, h a (by simp), filterMap_as l fun x hx => h x (by simp [hx])]
theorem find_filterMap {α β : Type} [BEq β] [LawfulBEq β] {k : α → β} {g : β → Option α} (hg : ∀ x y, g x = some y → k y = x) (x : β) : ∀ l : List β, (l.filterMap g).find? (fun y => k y == x) = if x ∈ l then g x else none
  | [] => by simp
  | b :: l => by
    have ih := find_filterMap hg x l
    rw [List.filterMap_cons]
    split
    · rename_i hb
      rw [ih]
      by_cases e : x = b
      · subst e; simp [hb]
      · simp [e]
    · rename_i y hy
      rw [List.find?_cons, hg _ _ hy]
      by_cases e : b = x
      · subst e; simp [hy]
      · have e1 : (b == x) = false := by simpa using e
        rw [e1, ih]
        have e2 : ¬ x = b := fun h => e h.symm
        simp [e2]
theorem outOf_find {was a b : BookM} {l : List ByteArray} (name : ByteArray) :
    (name ∈ l → findM (outOf was a b l) name = if (mergedM name (tsOf was a b name)).2.1 then some (mergedM name (tsOf was a b name)).1 else none) ∧ (name ∉ l → findM (outOf was a b l) name = none) := by
  have hg : ∀ x y, (fun n => if (mergedM n (tsOf was a b n)).2.1 then some (mergedM n (tsOf was a b n)).1 else none) x = some y → y.name = x := by
    intro x y h
    simp only at h
    split at h
    · rename_i ht
      have e := Option.some.inj h
      unfold mergedM at ht e
      split at ht
      · cases ht
      · rename_i hk
        rw [hk] at e
        rw [← e]; rfl
    · cases h
  induction l with
  | nil => simp [outOf, findM]
  | cons n l ih =>
    unfold outOf at ih ⊢
    rw [List.filterMap_cons]
    split
    · rename_i hb
      by_cases e : name = n
      · subst e
        refine ⟨fun _ => ?_, fun h => absurd (List.mem_cons_self) h⟩
        by_cases hl : name ∈ l
        · exact ih.1 hl
        · rw [ih.2 hl]; exact hb.symm
      · refine ⟨fun h => ih.1 ?_, fun h => ih.2 ?_⟩
        · exact (List.mem_cons.1 h).resolve_left e
        · exact fun h' => h (List.mem_cons_of_mem _ h')
    · rename_i y hy
      have hn := hg _ _ hy
      unfold findM at ih ⊢
      rw [List.find?_cons, hn]
      by_cases e : n = name
      · subst e
        rw [beq_self_eq_true]
        exact ⟨fun _ => hy.symm, fun h => absurd (List.mem_cons_self) h⟩
      · have e1 : (n.toList == name.toList) = false := by
          cases h : (n.toList == name.toList) with
          | false => rfl
          | true => exact absurd (name_ext (by simpa using h)) e
        rw [e1]
        refine ⟨fun h => ih.1 ?_, fun h => ih.2 ?_⟩
        · exact (List.mem_cons.1 h).resolve_left fun h => e h.symm
        · exact fun h' => h (List.mem_cons_of_mem _ h')
theorem GoodT1.none {c : TypeM} (g : GoodT1 c) {id : Int} (h : ¬ (1 ≤ id ∧ id ≤ 30)) : fieldM c id = none := by
  unfold fieldM
  rw [List.find?_eq_none]
  intro f hf he
  have : f.id = id := by simpa using he
  exact h (this ▸ g.fields.2 _ (List.mem_map.2 ⟨f, hf, rfl⟩))
/-- Each field of what comes of three is as it was settled. -/
theorem books_fields {was a b : BookM} (g1 : GoodB was) (g2 : GoodB a) (g3 : GoodB b) (hf : flawsOf was a b (namesM was a b) = []) (name : ByteArray) (id : Int) :
    idKept (tsOf was a b name) id = some (fieldM (findZ (outOf was a b (namesM was a b)) name) id) := by
  have hz : ∀ i, fieldM TypeM.zero i = none := fun i => rfl
  have hlaw := settle_1 (lawO lawF) (none : Option FieldM) none
  by_cases hin : name ∈ namesM was a b
  · have hm : (mergedM name (tsOf was a b name)).2.2 = [] := by
      unfold flawsOf at hf
      rw [List.flatMap_eq_nil_iff] at hf
      simpa using hf name hin
    have hfind := (outOf_find (was := was) (a := a) (b := b) (l := namesM was a b) name).1 hin
    generalize hs : tsOf was a b name = s at hm hfind ⊢
    have gw : GoodT1 s.was := by rw [← hs]; exact g1.findZ name
    have ga : GoodT1 s.a := by rw [← hs]; exact g2.findZ name
    have gb : GoodT1 s.b := by rw [← hs]; exact g3.findZ name
    have hout : ¬ (1 ≤ id ∧ id ≤ 30) → idKept s id = some none := fun h => by
      unfold idKept; rw [gw.none h, ga.none h, gb.none h]; exact hlaw
    unfold mergedM at hm hfind
    cases hk : typeKept s with
    | none => rw [hk] at hm; cases hm
    | some te =>
      obtain ⟨there, enum⟩ := te
      rw [hk] at hm hfind
      simp only at hm hfind
      split at hm
      · cases hm
      · rename_i hmis
        rw [hm] at hmis
        simp only [List.isEmpty_nil, Bool.true_and, Bool.not_eq_true] at hmis
        have hno : ∀ i ∈ idsTo 30, idFlaw s i = false := by
          unfold flawIds fieldFlawsTo at hm
          rw [List.append_eq_nil_iff, List.filter_eq_nil_iff] at hm
          intro i hi
          simpa using hm.1 i hi
        have hfz : fieldM (typeOut name s enum) id = if id ∈ idsTo 30 then (idKept s id).getD none else none := by
          show (fieldsTo s 30).find? _ = _
          have e : fieldsTo s 30 = (idsTo 30).filterMap fun i => (idKept s i).getD none := by
            unfold fieldsTo
            refine filterMap_as _ fun i hi => ?_
            rw [hno i hi]
            rfl
          rw [e]
          refine find_filterMap (k := fun f : FieldM => f.id) (g := fun i => (idKept s i).getD none) (fun x y hxy => ?_) id (idsTo 30)
          cases hk2 : idKept s x with
          | none => rw [hk2] at hxy; cases hxy
          | some o => rw [hk2] at hxy; simp only [Option.getD_some] at hxy; subst hxy; exact idKept_id hk2
        have hsome : id ∈ idsTo 30 → idKept s id = some ((idKept s id).getD none) := fun hi => by
          have := hno id hi
          unfold idFlaw at this
          cases hk2 : idKept s id with
          | none => rw [hk2] at this; cases this
          | some o => rfl
        cases there with
        | true =>
          rw [if_pos rfl] at hfind
          have : findZ (outOf was a b (namesM was a b)) name = typeOut name s enum := by unfold findZ; rw [hfind]; rfl
          rw [this, hfz]
          by_cases hi : id ∈ idsTo 30
          · rw [if_pos hi]; exact hsome hi
          · rw [if_neg hi]; exact hout fun h => hi (mem_idsTo.2 (by omega))
        | false =>
          simp only [Bool.false_eq_true, if_false] at hfind
          have : findZ (outOf was a b (namesM was a b)) name = TypeM.zero := by unfold findZ; rw [hfind]; rfl
          rw [this, hz]
          by_cases hi : id ∈ idsTo 30
          · have h0 : (fieldsTo s 30).length = 0 := by
              simp only [misplacedB, Bool.not_false, if_true, Bool.or_eq_false_iff, decide_eq_false_iff_not] at hmis
              omega
            have h1 : fieldM (typeOut name s enum) id = none := by
              show (fieldsTo s 30).find? _ = none
              rw [List.length_eq_zero_iff.1 h0]; rfl
            rw [hfz, if_pos hi] at h1
            rw [hsome hi, h1]
          · exact hout fun h => hi (mem_idsTo.2 (by omega))
  · have hfind := (outOf_find (was := was) (a := a) (b := b) (l := namesM was a b) name).2 hin
    have hno : ∀ ts : BookM, name ∉ ts.map (·.name) → findZ ts name = TypeM.zero := fun ts h => by
      unfold findZ
      have : findM ts name = none := by
        unfold findM
        rw [List.find?_eq_none]
        intro t ht he
        exact h (List.mem_map.2 ⟨t, ht, name_ext (by simpa using he)⟩)
      rw [this]; rfl
    rw [names_in] at hin
    have e0 : findZ (outOf was a b (namesM was a b)) name = TypeM.zero := by unfold findZ; rw [hfind]; rfl
    rw [e0, hz]
    unfold idKept tsOf
    rw [hno was (fun h => hin (.inl h)), hno a (fun h => hin (.inr (.inl h))), hno b (fun h => hin (.inr (.inr h)))]
    exact hlaw
theorem books_ok {was a b x : BookM} {l : List (ByteArray × Int)} (h : booksM was a b = (x, l, 0)) : goodM was = 0 ∧ goodM a = 0 ∧ goodM b = 0 ∧ flawsOf was a b (namesM was a b) = [] ∧ x = outOf was a b (namesM was a b) ∧ l = [] ∧ goodM x = 0 := by
  unfold booksM at h
  split at h
  · simp at h
  · rename_i h1
    split at h
    · simp at h
    · rename_i h2
      split at h
      · rename_i h3
        simp only [Prod.mk.injEq] at h
        exact absurd h.2.2 h3
      · rename_i h3
        simp only [Prod.mk.injEq] at h
        refine ⟨?_, ?_, ?_, by simpa using h2, h.1.symm, h.2.1.symm, by rw [← h.1]; simpa using h3⟩
        · exact Classical.byContradiction fun hh => h1 (.inl hh)
        · exact Classical.byContradiction fun hh => h1 (.inr (.inl hh))
        · exact Classical.byContradiction fun hh => h1 (.inr (.inr hh))
end Go.Proofs.YtblkgaoafejefaaDoor
