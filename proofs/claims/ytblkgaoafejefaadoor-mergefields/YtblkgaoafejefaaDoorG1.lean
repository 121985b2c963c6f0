import Derived.Test.YtblkgaoafejefaaDoorW12
import Derived.Sort.Walk0
namespace Go.Proofs.YtblkgaoafejefaaDoor
set_option linter.unusedSimpArgs false
set_option linter.unusedVariables false
open Go.RowKit Go.Sort

theorem all_range {p : Nat → Bool} {n : Nat} (h : (List.range n).all p = true) {k : Nat} (hk : k < n) : p k = true := by
  rw [List.all_eq_true] at h
  exact h k (List.mem_range.2 hk)
/-- What rises from each to the next rises all along. -/
theorem pairwise_next {α : Type} {r : α → α → Prop} (ht : ∀ x y z, r x y → r y z → r x z) (l : List α) (h : ∀ (k : Nat) (x y : α), l[k]? = some x → l[k + 1]? = some y → r x y) : l.Pairwise r := by
  rw [List.pairwise_iff_getElem]
  intro i j hi hj hij
  have key : ∀ d, ∀ (hd : i + 1 + d < l.length), r l[i] l[i + 1 + d] := by
    intro d
    induction d with
    | zero => intro hd; exact h i _ _ (List.getElem?_eq_getElem hi) (List.getElem?_eq_getElem hd)
    | succ d ih => intro hd; exact ht _ _ _ (ih (by omega)) (h (i + 1 + d) _ _ (List.getElem?_eq_getElem (by omega)) (List.getElem?_eq_getElem hd))
  have := key (j - (i + 1)) (by omega)
  have e : i + 1 + (j - (i + 1)) = j := by omega
  simp only [e] at this
  exact this
theorem risingL_out {l : List Int} {lo hi : Int} (h : risingL l lo hi = true) : l.Pairwise (fun x y => x < y) ∧ ∀ x ∈ l, lo ≤ x ∧ x ≤ hi := by
  unfold risingL at h
  refine ⟨pairwise_next (fun x y z h1 h2 => by omega) l fun k x y hx hy => ?_, fun x hx => ?_⟩
  · obtain ⟨h2, rfl⟩ := List.getElem?_eq_some_iff.1 hy
    obtain ⟨h1, rfl⟩ := List.getElem?_eq_some_iff.1 hx
    have := (risesAt_iff h2).1 (all_range h h2)
    rcases this.2.2 with h0 | h0
    · omega
    · simpa using h0
  · obtain ⟨i, hi, rfl⟩ := List.getElem_of_mem hx
    have := (risesAt_iff hi).1 (all_range h hi)
    exact ⟨this.1, this.2.1⟩
/-- What a good type is. -/
structure GoodT (ts : BookM) (t : TypeM) : Prop where
  name : namedL t.name.toList = true
  enum : t.enum = true → t.fields = [] ∧ t.gone = [] ∧ 1 ≤ t.items.length ∧ t.items.length ≤ 6 ∧ goodNamesL (t.items.map (·.name)) = true ∧ risingL (t.items.map (·.n)) (-1099511627776) 1099511627776 = true
  msg : t.enum = false → t.items = [] ∧ t.fields.length ≤ 5 ∧ (∀ f ∈ t.fields, goodFieldM ts f = true) ∧ goodNamesL (t.fields.map (·.name)) = true ∧ goodIdsL (t.fields.map (·.id)) t.gone = true
theorem goodM_out {ts : BookM} (h : goodM ts = 0) : ts.length ≤ 4 ∧ (ts.Pairwise fun x y => ltStr x.name.toList y.name.toList = true) ∧ ∀ t ∈ ts, GoodT ts t := by
  unfold goodM at h
  split at h
  · cases h
  · rename_i h4
    split at h
    · rename_i hall
      have hget : ∀ k (hk : k < ts.length), ts.getD k TypeM.zero = ts[k] := fun k hk => by simp [List.getD, hk]
      refine ⟨by omega, pairwise_next (r := fun x y : TypeM => ltStr x.name.toList y.name.toList = true) (fun x y z h1 h2 => swo_ltStr.trans x.name.toList y.name.toList z.name.toList h1 h2) ts fun k x y hx hy => ?_, fun t ht => ?_⟩
      · obtain ⟨h2, rfl⟩ := List.getElem?_eq_some_iff.1 hy
        obtain ⟨h1, rfl⟩ := List.getElem?_eq_some_iff.1 hx
        have := all_range hall h2
        unfold typeOkAt at this
        simp only [Nat.add_sub_cancel, hget _ h1, hget _ h2, Bool.and_eq_true, Bool.or_eq_true, beq_iff_eq, Nat.add_one_ne_zero, false_or] at this
        have hb := this.1
        rw [bytesLess_eq] at hb
        exact hb
      · obtain ⟨i, hi, rfl⟩ := List.getElem_of_mem ht
        have hok := all_range hall hi
        unfold typeOkAt at hok
        rw [hget _ hi, Bool.and_eq_true] at hok
        have hg := hok.2
        unfold goodTypeM at hg
        rw [Bool.and_eq_true] at hg
        refine ⟨hg.1, fun he => ?_, fun he => ?_⟩
        · have := hg.2
          rw [he, if_pos rfl] at this
          unfold goodEnumM at this
          split at this
          · cases this
          · rename_i h1
            split at this
            · cases this
            · rw [Bool.and_eq_true] at this
              exact ⟨List.length_eq_zero_iff.1 (by omega), List.length_eq_zero_iff.1 (by omega), by omega, by omega, this.1, this.2⟩
        · have := hg.2
          rw [he] at this
          simp only [Bool.false_eq_true, if_false] at this
          unfold goodMessageM at this
          split at this
          · cases this
          · rw [Bool.and_eq_true, Bool.and_eq_true] at this
            refine ⟨List.length_eq_zero_iff.1 (by omega), by omega, fun f hf => ?_, this.2.1, this.2.2⟩
            obtain ⟨j, hj, rfl⟩ := List.getElem_of_mem hf
            have hfo := all_range this.1 hj
            unfold fieldOkAt at hfo
            simpa [List.getD, hj] using hfo
    · cases h
theorem goodIds_out {ids gone : List Int} (h : goodIdsL ids gone = true) : risingL ids 1 30 = true ∧ risingL gone 1 30 = true := by
  unfold goodIdsL at h
  rw [Bool.and_eq_true, Bool.and_eq_true] at h
  exact h.1
theorem goodField_out {ts : BookM} {f : FieldM} (h : goodFieldM ts f = true) : (1 ≤ f.rule ∧ f.rule ≤ 3) ∧ 1 ≤ f.kind ∧ f.kind ≤ 5 := by
  unfold goodFieldM at h
  split at h
  · cases h
  · split at h
    · omega
    · split at h
      · omega
      · cases h
theorem rise_len : ∀ (l : List Int) (lo hi : Int), l.Pairwise (fun x y => x < y) → (∀ x ∈ l, lo ≤ x ∧ x ≤ hi) → (l.length : Int) ≤ max 0 (hi - lo + 1)
  | [], lo, hi, _, _ => by simp; omega
  | a :: l, lo, hi, hp, hb => by
    rw [List.pairwise_cons] at hp
    have ha := hb a (by simp)
    have ih := rise_len l (a + 1) hi hp.2 (fun x hx => ⟨by have := hp.1 x hx; omega, (hb x (by simp [hx])).2⟩)
    rw [List.length_cons]
    omega
theorem named_len {b : ByteArray} (h : namedL b.toList = true) : b.toList.length ≤ 12 := by
  unfold namedL at h
  simp only [Bool.and_eq_true, decide_eq_true_eq] at h
  exact h.1.1.2
theorem size_of_named {b : ByteArray} (h : namedL b.toList = true) : b.size ≤ 12 := by
  have := named_len h
  rwa [size_toList] at this
theorem names_out {l : List ByteArray} (h : goodNamesL l = true) : ∀ x ∈ l, namedL x.toList = true := by
  intro x hx
  obtain ⟨i, hi, rfl⟩ := List.getElem_of_mem hx
  have := all_range h hi
  unfold nameOkAt at this
  rw [Bool.and_eq_true] at this
  simpa [List.getD, hi] using this.1
theorem type_size {ts : BookM} {f : FieldM} (hg : goodFieldM ts f = true) (hts : ∀ t ∈ ts, namedL t.name.toList = true) : f.type.size ≤ 12 := by
  unfold goodFieldM at hg
  rw [← size_toList]
  split at hg
  · cases hg
  · split at hg
    · rw [List.isEmpty_iff.1 hg]; simp
    · split at hg
      · cases hfd : findM ts f.type with
        | none => rw [hfd] at hg; cases hg
        | some u =>
          have hun : u.name.toList = f.type.toList := by
            have := List.find?_some hfd
            simpa using this
          rw [← hun]; exact named_len (hts u (findM_mem hfd))
      · cases hg
/-- A good book is small. -/
theorem good_small {ts : BookM} (h : goodM ts = 0) : ts.Small := by
  obtain ⟨h1, _, h3⟩ := goodM_out h
  refine ⟨by omega, fun t ht => ?_⟩
  have g := h3 t ht
  have hnm := size_of_named g.name
  cases he : t.enum
  · obtain ⟨g1, g2, g3, g4, g5⟩ := g.msg he
    obtain ⟨_, g7⟩ := goodIds_out g5
    obtain ⟨g8, g9⟩ := risingL_out g7
    have hroom := rise_len t.gone 1 30 g8 g9
    refine ⟨by omega, by omega, by omega, by rw [g1]; simp, fun x hx => ?_, fun x hx => by rw [g1] at hx; exact absurd hx List.not_mem_nil⟩
    have hx1 := size_of_named (names_out g4 _ (List.mem_map_of_mem hx))
    have hx2 := type_size (g3 x hx) fun u hu => (h3 u hu).name
    exact ⟨by omega, by omega⟩
  · obtain ⟨g1, g2, g3, g4, g5, g6⟩ := g.enum he
    refine ⟨by omega, by rw [g1]; simp, by rw [g2]; simp, by omega, fun x hx => by rw [g1] at hx; exact absurd hx List.not_mem_nil, fun x hx => ?_⟩
    have hx1 := size_of_named (names_out g5 _ (List.mem_map_of_mem hx))
    omega
end Go.Proofs.YtblkgaoafejefaaDoor
