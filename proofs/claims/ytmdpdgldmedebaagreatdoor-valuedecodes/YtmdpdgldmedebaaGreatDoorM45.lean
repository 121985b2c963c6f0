import Derived.Test.YtmdpdgldmedebaaGreatDoorM44
namespace Go.Proofs.YtmdpdgldmedebaaGreatDoor
set_option linter.unusedSimpArgs false
set_option linter.unusedVariables false
set_option linter.unusedSimpArgs false
set_option linter.unusedVariables false
open Go.RowKit

/-- Those of an id. -/
def ofId (z : List (Int × ValueM)) (i : Int) : List ValueM := (z.filter fun p => p.1 == i).map (·.2)
theorem ofId_snoc (z : List (Int × ValueM)) (a : Int) (x : ValueM) (i : Int) : ofId (z ++ [(a, x)]) i = if a = i then ofId z i ++ [x] else ofId z i := by
  unfold ofId
  rw [List.filter_append, List.map_append]
  by_cases h : a = i
  · rw [if_pos h]; simp [h]
  · rw [if_neg h]; simp [h]
theorem ofId_none {z : List (Int × ValueM)} {i : Int} : ofId z i = [] ↔ (z.map (·.1)).contains i = false := by
  unfold ofId
  rw [List.map_eq_nil_iff, List.filter_eq_nil_iff]
  constructor
  · intro h
    cases hc : (z.map (·.1)).contains i
    · rfl
    · rw [List.contains_iff_mem] at hc
      obtain ⟨p, hp, he⟩ := List.mem_map.1 hc
      exact absurd (by simp [he]) (h p hp)
  · intro h p hp he
    have : p.1 = i := by simpa using he
    have hm : i ∈ z.map (·.1) := List.mem_map.2 ⟨p, hp, this⟩
    rw [← List.contains_iff_mem, h] at hm
    cases hm
/-- What is sorted begins with those of its least id. -/
theorem split_least {z : List (Int × ValueM)} {i : Int} : (z.map (·.1)).Pairwise (· ≤ ·) → (∀ p ∈ z, i ≤ p.1) → z = (z.filter fun p => p.1 == i) ++ z.filter fun p => !(p.1 == i) := by
  induction z with
  | nil => intros; rfl
  | cons p r ih =>
    intro hs hb
    rw [List.map_cons, List.pairwise_cons] at hs
    by_cases h : p.1 = i
    · rw [List.filter_cons_of_pos (by simp [h]), List.filter_cons_of_neg (by simp [h]), List.cons_append, ← ih hs.2 fun q hq => hb q (by simp [hq])]
    · have hgt : ∀ q ∈ r, ¬ q.1 = i := fun q hq => by
        have h1 := hs.1 q.1 (List.mem_map.2 ⟨q, hq, rfl⟩)
        have h2 := hb p (by simp)
        omega
      have e1 : (r.filter fun p => p.1 == i) = [] := List.filter_eq_nil_iff.2 fun q hq => by simp [hgt q hq]
      have e2 : (r.filter fun p => !(p.1 == i)) = r := List.filter_eq_self.2 fun q hq => by simp [hgt q hq]
      rw [List.filter_cons_of_neg (by simp [h]), List.filter_cons_of_pos (by simp [h]), e1, e2]; rfl
theorem by_ids : ∀ {ids : List Int} {z : List (Int × ValueM)}, ids.Pairwise (fun x y => x < y) → (z.map (·.1)).Pairwise (· ≤ ·) → (∀ p ∈ z, p.1 ∈ ids) → z = ids.flatMap fun i => (ofId z i).map fun x => (i, x)
  | [], z, _, _, hm => by
    cases z with
    | nil => rfl
    | cons p r => exact absurd (hm p (by simp)) List.not_mem_nil
  | i :: r, z, hp, hs, hm => by
    rw [List.pairwise_cons] at hp
    have hb : ∀ p ∈ z, i ≤ p.1 := fun p hpz => by
      rcases List.mem_cons.1 (hm p hpz) with h | h
      · omega
      · have := hp.1 _ h; omega
    have hsp := split_least hs hb
    have ih := by_ids (ids := r) (z := z.filter fun p => !(p.1 == i)) hp.2 (hs.sublist ((List.filter_sublist).map _)) fun p hpz => by
      obtain ⟨h1, h2⟩ := List.mem_filter.1 hpz
      rcases List.mem_cons.1 (hm p h1) with h | h
      · exact absurd h (by simpa using h2)
      · exact h
    have e1 : (z.filter fun p => p.1 == i) = (ofId z i).map fun x => (i, x) := by
      unfold ofId
      rw [List.map_map]
      have : ∀ p ∈ (z.filter fun p => p.1 == i), ((fun x => (i, x)) ∘ fun (p : Int × ValueM) => p.2) p = p := fun p hp => by
        have h := (List.mem_filter.1 hp).2
        have h' : p.1 = i := by simpa using h
        simp only [Function.comp]; rw [← h']
      conv => lhs; rw [← List.map_id (z.filter fun p => p.1 == i)]
      exact (List.map_congr_left this).symm
    have e2 : (r.flatMap fun j => (ofId (z.filter fun p => !(p.1 == i)) j).map fun x => (j, x)) = r.flatMap fun j => (ofId z j).map fun x => (j, x) := by
      have hc : ∀ j ∈ r, ofId (z.filter fun p => !(p.1 == i)) j = ofId z j := fun j hj => by
        unfold ofId
        rw [List.filter_filter]
        congr 1
        refine List.filter_congr fun p _ => ?_
        by_cases h : p.1 = j
        · have : j ≠ i := by have := hp.1 j hj; omega
          simp [h, this]
        · simp [h]
      clear ih
      have : ∀ l : List Int, (∀ j ∈ l, ofId (z.filter fun p => !(p.1 == i)) j = ofId z j) → (l.flatMap fun j => (ofId (z.filter fun p => !(p.1 == i)) j).map fun x => (j, x)) = l.flatMap fun j => (ofId z j).map fun x => (j, x) := by
        intro l
        induction l with
        | nil => intro _; rfl
        | cons j l ih => intro h; rw [List.flatMap_cons, List.flatMap_cons, h j (by simp), ih fun k hk => h k (by simp [hk])]
      exact this r hc
    rw [List.flatMap_cons, ← e1, ← e2, ← ih]
    exact hsp
/-- What is told of a field's id at the end. -/
def lastOf (lf : FieldM → ValueM) (z : List (Int × ValueM)) (f : FieldM) : List ValueM := if (ofId z f.id).length = 0 ∧ f.rule = 1 then [lf f] else ofId z f.id
theorem zip_ins {a : List Int} {b : List ValueM} (h : b.length = a.length) (k : Nat) (x : Int) (y : ValueM) : (insAt a k x).zip (insAt b k y) = (a.zip b).take k ++ (x, y) :: (a.zip b).drop k := by
  unfold insAt
  rw [List.zip_append (by simp [h]), List.zip_cons_cons]
  show _ = (List.zipWith Prod.mk a b).take k ++ (x, y) :: (List.zipWith Prod.mk a b).drop k
  rw [List.take_zipWith, List.drop_zipWith]; rfl
theorem fill_tells {lf : FieldM → ValueM} : ∀ {l : List FieldM} {st : List Int × List ValueM}, (l.map (·.id)).Pairwise (fun x y => x < y) → st.1.Pairwise (· ≤ ·) → st.2.length = st.1.length →
    (fillM lf l st).1.Pairwise (· ≤ ·) ∧ (fillM lf l st).2.length = (fillM lf l st).1.length ∧ (∀ a ∈ (fillM lf l st).1, a ∈ st.1 ∨ a ∈ l.map (·.id)) ∧
    (∀ f ∈ l, ofId ((fillM lf l st).1.zip (fillM lf l st).2) f.id = lastOf lf (st.1.zip st.2) f) ∧ ∀ i, i ∉ l.map (·.id) → ofId ((fillM lf l st).1.zip (fillM lf l st).2) i = ofId (st.1.zip st.2) i
  | [], st, _, hs, hl => ⟨hs, hl, fun a ha => .inl ha, fun f hf => (by cases hf), fun i _ => rfl⟩
  | g :: r, st, hp, hs, hl => by
    rw [List.map_cons, List.pairwise_cons] at hp
    have hz1 : (st.1.zip st.2).map (·.1) = st.1 := List.map_fst_zip (by omega)
    have key : (fillStep lf st g).1.Pairwise (· ≤ ·) ∧ (fillStep lf st g).2.length = (fillStep lf st g).1.length ∧ (∀ a ∈ (fillStep lf st g).1, a ∈ st.1 ∨ a = g.id) ∧
        ofId ((fillStep lf st g).1.zip (fillStep lf st g).2) g.id = lastOf lf (st.1.zip st.2) g ∧ ∀ i, i ≠ g.id → ofId ((fillStep lf st g).1.zip (fillStep lf st g).2) i = ofId (st.1.zip st.2) i := by
      by_cases hc : g.rule = 1 ∧ st.1.contains g.id = false
      · have e : fillStep lf st g = (insAt st.1 (st.1.countP (· < g.id)) g.id, insAt st.2 (st.1.countP (· < g.id)) (lf g)) := if_pos hc
        have hno : ofId (st.1.zip st.2) g.id = [] := ofId_none.2 (by rw [hz1]; exact hc.2)
        rw [e]
        have hf : ∀ i, ofId ((insAt st.1 (st.1.countP (· < g.id)) g.id).zip (insAt st.2 (st.1.countP (· < g.id)) (lf g))) i = if g.id = i then [lf g] else ofId (st.1.zip st.2) i := fun i => by
          rw [zip_ins hl]
          generalize st.1.countP (· < g.id) = k
          have hsplit : ofId (st.1.zip st.2) i = ofId ((st.1.zip st.2).take k) i ++ ofId ((st.1.zip st.2).drop k) i := by
            unfold ofId
            rw [← List.map_append, ← List.filter_append, List.take_append_drop]
          have hmid : ofId ((st.1.zip st.2).take k ++ (g.id, lf g) :: (st.1.zip st.2).drop k) i = ofId ((st.1.zip st.2).take k) i ++ ((if g.id = i then [lf g] else []) ++ ofId ((st.1.zip st.2).drop k) i) := by
            unfold ofId
            rw [List.filter_append, List.map_append]
            congr 1
            by_cases h : g.id = i
            · rw [if_pos h, List.filter_cons_of_pos (by simp [h])]; rfl
            · rw [if_neg h, List.filter_cons_of_neg (by simp [h])]; rfl
          rw [hmid]
          by_cases h : g.id = i
          · rw [← h, hno] at hsplit
            have h2 := List.append_eq_nil_iff.1 hsplit.symm
            rw [← h, h2.1, h2.2, if_pos rfl, if_pos rfl]; rfl
          · rw [if_neg h, if_neg h, hsplit]; rfl
        refine ⟨?_, by simp only [insAt, List.length_append, List.length_cons, List.length_take, List.length_drop]; omega, fun a ha => ?_, ?_, fun i hi => ?_⟩
        · exact insAt_sorted hs g.id
        · simp only [insAt] at ha
          rcases List.mem_append.1 ha with h | h
          · exact .inl (List.mem_of_mem_take h)
          · rcases List.mem_cons.1 h with h | h
            · exact .inr h
            · exact .inl (List.mem_of_mem_drop h)
        · rw [hf, if_pos rfl]
          unfold lastOf
          rw [hno, if_pos ⟨rfl, hc.1⟩]
        · rw [hf, if_neg (fun h => hi h.symm)]
      · have e : fillStep lf st g = st := if_neg hc
        rw [e]
        refine ⟨hs, hl, fun a ha => .inl ha, ?_, fun i _ => rfl⟩
        unfold lastOf
        rw [if_neg]
        rintro ⟨h1, h2⟩
        have h3 := ofId_none.1 (List.length_eq_zero_iff.1 h1)
        rw [hz1] at h3
        exact hc ⟨h2, h3⟩
    obtain ⟨k1, k2, k3, k4, k5⟩ := key
    obtain ⟨i1, i2, i3, i4, i5⟩ := fill_tells (lf := lf) (l := r) (st := fillStep lf st g) hp.2 k1 k2
    refine ⟨i1, i2, fun a ha => ?_, fun f hf => ?_, fun i hi => ?_⟩
    · rcases i3 a ha with h | h
      · rcases k3 a h with h | h
        · exact .inl h
        · exact .inr (by simp [h])
      · exact .inr (by simp [h])
    · rcases List.mem_cons.1 hf with rfl | hf
      · show ofId ((fillM lf r (fillStep lf st f)).1.zip (fillM lf r (fillStep lf st f)).2) f.id = _
        rw [i5 f.id (fun h => by have := hp.1 _ h; omega)]
        exact k4
      · show ofId ((fillM lf r (fillStep lf st g)).1.zip (fillM lf r (fillStep lf st g)).2) f.id = _
        rw [i4 f hf]
        unfold lastOf
        rw [k5 f.id (fun h => by have := hp.1 f.id (List.mem_map.2 ⟨f, hf, rfl⟩); omega)]
    · show ofId ((fillM lf r (fillStep lf st g)).1.zip (fillM lf r (fillStep lf st g)).2) i = _
      have h2 : i ≠ g.id := fun h => hi (by simp [h])
      rw [i5 i (fun h => hi (by simp [h])), k5 i h2]
/-- What the document's own answer lays together is what filling in makes. -/
def asmL (lf : FieldM → ValueM) (z : List (Int × ValueM)) (l : List FieldM) : List (Int × ValueM) := l.flatMap fun f => (lastOf lf z f).map fun x => (f.id, x)
theorem asm_fill {lf : FieldM → ValueM} {l : List FieldM} {st : List Int × List ValueM} (hp : (l.map (·.id)).Pairwise (fun x y => x < y)) (hs : st.1.Pairwise (· ≤ ·)) (hl : st.2.length = st.1.length) (hm : ∀ a ∈ st.1, a ∈ l.map (·.id)) :
    (fillM lf l st).1 = (asmL lf (st.1.zip st.2) l).map (·.1) ∧ (fillM lf l st).2 = (asmL lf (st.1.zip st.2) l).map (·.2) := by
  obtain ⟨i1, i2, i3, i4, _⟩ := fill_tells (lf := lf) hp hs hl
  have hz : ((fillM lf l st).1.zip (fillM lf l st).2).map (·.1) = (fillM lf l st).1 := List.map_fst_zip (by omega)
  have hz2 : ((fillM lf l st).1.zip (fillM lf l st).2).map (·.2) = (fillM lf l st).2 := List.map_snd_zip (by omega)
  have e := by_ids (ids := l.map (·.id)) (z := (fillM lf l st).1.zip (fillM lf l st).2) hp (by rw [hz]; exact i1) fun p hpz => by
    have h1 : p.1 ∈ (fillM lf l st).1 := by rw [← hz]; exact List.mem_map.2 ⟨p, hpz, rfl⟩
    rcases i3 _ h1 with h | h
    · exact hm _ h
    · exact h
  have e2 : ((l.map (·.id)).flatMap fun i => (ofId ((fillM lf l st).1.zip (fillM lf l st).2) i).map fun x => (i, x)) = asmL lf (st.1.zip st.2) l := by
    unfold asmL
    rw [List.flatMap_map]
    clear e
    have : ∀ m : List FieldM, (∀ f ∈ m, f ∈ l) → (m.flatMap fun f => (ofId ((fillM lf l st).1.zip (fillM lf l st).2) f.id).map fun x => (f.id, x)) = m.flatMap fun f => (lastOf lf (st.1.zip st.2) f).map fun x => (f.id, x) := by
      intro m
      induction m with
      | nil => intro _; rfl
      | cons f m ih => intro h; rw [List.flatMap_cons, List.flatMap_cons, i4 f (h f (by simp)), ih fun k hk => h k (by simp [hk])]
    exact this l fun f hf => hf
  rw [e2] at e
  exact ⟨by rw [← e, hz], by rw [← e, hz2]⟩
end Go.Proofs.YtmdpdgldmedebaaGreatDoor

namespace Go.Proofs.YtmdpdgldmedebaaGreatDoor
set_option linter.unusedSimpArgs false
set_option linter.unusedVariables false
open Go.RowKit

/-- Where what stands in the rows may lie: none of the rows themselves. -/
def GX (base : Nat) (vals : List Value) (b : Nat) : Prop := base ≤ b ∧ ∀ v ∈ vals, v.ownBlock ≠ some b
/-- Rows of values of the call's own, side by side. -/
structure GRows (k : Nat) (w : World) (base : Nat) (vals : List Value) (ls : List (List ValueM)) : Prop where
  len : vals.length = ls.length
  rows : ∀ (i : Nat) (v : Value) (l : List ValueM), vals[i]? = some v → ls[i]? = some l → VRow k w base (GX base vals) none v l
  apart : ∀ (i j : Nat) (v v' : Value), i ≠ j → vals[i]? = some v → vals[j]? = some v' → v.ownBlock = none ∨ v.ownBlock ≠ v'.ownBlock
theorem GRows.ext {k : Nat} {w w' : World} {base : Nat} {vals : List Value} {ls : List (List ValueM)} (h : GRows k w base vals ls) (he : Ext w w') : GRows k w' base vals ls :=
  ⟨h.len, fun i v l hv hl => (h.rows i v l hv hl).ext he, h.apart⟩
theorem VRow.own_lt {k : Nat} {w : World} {base : Nat} {X : Nat → Prop} {ex : Option Nat} {v : Value} {l : List ValueM} (h : VRow k w base X ex v l) : ∀ b, v.ownBlock = some b → base ≤ b ∧ b < w.heap.size := by
  obtain ⟨css, h1, _, _⟩ := h; exact fun b hb => h1.lt b hb
theorem GRows.lt {k : Nat} {w : World} {base : Nat} {vals : List Value} {ls : List (List ValueM)} (h : GRows k w base vals ls) {v : Value} (hv : v ∈ vals) : ∀ b, v.ownBlock = some b → base ≤ b ∧ b < w.heap.size := by
  obtain ⟨i, hi, rfl⟩ := List.getElem_of_mem hv
  have hl : i < ls.length := by rw [← h.len]; exact hi
  exact (h.rows i vals[i] ls[i] (List.getElem?_eq_getElem hi) (List.getElem?_eq_getElem hl)).own_lt
theorem VRow.toX {k : Nat} {w : World} {base : Nat} {X X' : Nat → Prop} {ex ex' : Option Nat} {v : Value} {l : List ValueM} (h : VRow k w base X ex v l) (hX : ∀ b, X b → v.ownBlock ≠ some b → ex ≠ some b → b < w.heap.size → X' b ∧ ex' ≠ some b) : VRow k w base X' ex' v l := by
  obtain ⟨css, h1, h2, h3⟩ := h
  exact ⟨css, h1, h2, fun i c x hc hx => (h3 i c x hc hx).sub fun b hb => ⟨(hX b hb.1 hb.2.1 hb.2.2.1 hb.2.2.2).1, hb.2.1, (hX b hb.1 hb.2.1 hb.2.2.1 hb.2.2.2).2, hb.2.2.2⟩⟩
/-- One of the rows has grown, or come anew. -/
theorem GRows.turn {k : Nat} {w w' : World} {base : Nat} {vals : List Value} {ls : List (List ValueM)} (h : GRows k w base vals ls) {i : Nat} {v v' : Value} {l' : List ValueM} (hv : vals[i]? = some v)
    (hr : VRow k w' base (GX base vals) none v' l') (hg : w.grownBy w' v.ownBlock) (hw : v'.ownBlock = v.ownBlock ∨ ∃ g', v'.ownBlock = some g' ∧ w.heap.size ≤ g') : GRows k w' base (vals.set i v') (ls.set i l') := by
  have hi : i < vals.length := (List.getElem?_eq_some_iff.1 hv).1
  have hvm : v ∈ vals := List.mem_of_getElem? hv
  refine ⟨by rw [List.length_set, List.length_set]; exact h.len, fun j u m hu hm => ?_, fun a b u u' hab hu hu' => ?_⟩
  · by_cases hj : i = j
    · subst hj
      rw [List.getElem?_set_self hi] at hu
      rw [List.getElem?_set_self (by rw [← h.len]; exact hi)] at hm
      cases hu; cases hm
      refine hr.toX fun b hb h1 h2 _ => ⟨⟨hb.1, fun u hu => ?_⟩, fun e => by cases e⟩
      rcases List.mem_or_eq_of_mem_set hu with h3 | h3
      · exact hb.2 u h3
      · rw [h3]; exact h1
    · rw [List.getElem?_set_ne hj] at hu hm
      have h1 := (h.rows j u m hu hm).toX (X' := GX base vals) (ex' := v.ownBlock) fun b hb _ _ _ => ⟨hb, hb.2 v hvm⟩
      have h2 := VRow.other (ex' := v'.ownBlock) h1 hg (h.apart j i u v (fun e => hj e.symm) hu hv) hw
      refine h2.toX fun b hb _ h4 _ => ⟨⟨hb.1, fun y hy => ?_⟩, fun e => by cases e⟩
      rcases List.mem_or_eq_of_mem_set hy with h5 | h5
      · exact hb.2 y h5
      · rw [h5]; exact h4
  · have lt1 : ∀ {c : Nat} {y : Value}, vals[c]? = some y → ∀ b, y.ownBlock = some b → b < w.heap.size := fun hy b hb => (h.lt (List.mem_of_getElem? hy) b hb).2
    by_cases ha : i = a
    · subst ha
      rw [List.getElem?_set_self hi] at hu
      cases hu
      rw [List.getElem?_set_ne hab] at hu'
      rcases hw with e | ⟨g', e, hge⟩
      · rw [e]; exact h.apart i b v u' hab hv hu'
      · right; rw [e]; intro he
        have := lt1 hu' g' he.symm; omega
    · rw [List.getElem?_set_ne ha] at hu
      by_cases hb : i = b
      · subst hb
        rw [List.getElem?_set_self hi] at hu'
        cases hu'
        rcases hw with e | ⟨g', e, hge⟩
        · rw [e]; exact h.apart a i u v hab hu hv
        · cases ho : u.ownBlock with
          | none => exact .inl rfl
          | some c =>
            right; rw [e]; intro he; cases he
            have := lt1 hu _ ho; omega
      · rw [List.getElem?_set_ne hb] at hu'
        exact h.apart a b u u' hab hu hu'
/-- Nothing at all yet. -/
theorem GRows.start (k : Nat) (w : World) (base n : Nat) : GRows k w base (List.replicate n (.slice none 0 0)) (List.replicate n []) := by
  refine ⟨by simp, fun i v l hv hl => ?_, fun i j v v' _ hv _ => ?_⟩
  · have e1 := (List.mem_replicate.1 (List.mem_of_getElem? hv)).2
    have e2 := (List.mem_replicate.1 (List.mem_of_getElem? hl)).2
    rw [e1, e2]; exact VRow.nil _ _ _ _ _
  · have e1 := (List.mem_replicate.1 (List.mem_of_getElem? hv)).2
    rw [e1]; exact .inl rfl
/-- .. stays where one is written that is none of theirs. -/
theorem GRows.set {k : Nat} {w : World} {base : Nat} {vals : List Value} {ls : List (List ValueM)} (h : GRows k w base vals ls) {p : Addr} (hp : p.block < base) (u : Value) : GRows k (w.setCell p u) base vals ls :=
  ⟨h.len, fun i v l hv hl => (h.rows i v l hv hl).set (fun e => by have := ((h.rows i v l hv hl).own_lt _ e).1; omega) (fun b hb => by have := hb.1; omega) u, h.apart⟩
def zerosV : Value := .agg #[.int .i64 0, .int .i64 0, .string ⟨#[]⟩, .slice none 0 0, .slice none 0 0]
set_option maxHeartbeats 800000 in
theorem no_any (e0 : Int) (w : World) : Calls Tryz.prog 63 #[.int .i64 e0] w fun e w' => e = .returned (.tuple #[.agg #[.int .i64 0, .int .i64 0, .string ⟨#[]⟩, .slice none 0 0, .slice none 0 0], .int .i64 e0]) ∧ Ext w w' := by
  have r0 := heap_alloc_new w (.cells #[.int .i64 0, .int .i64 0, .string ⟨#[]⟩, .slice none 0 0, .slice none 0 0] 28)
  have hz := lt_of_heap r0
  obtain ⟨c0, c1, c2, c3, c4, _⟩ := row5 r0
  go_enter Tryz.func63, Tryz.ntmps63
  go_wp2
  refine bodyPost_ret (v := .tuple #[.agg #[.int .i64 0, .int .i64 0, .string ⟨#[]⟩, .slice none 0 0, .slice none 0 0], .int .i64 e0]) (by simp [results, Tryz.results63, go_sem]) rfl ⟨rfl, ?_⟩
  first | exact (Ext.refl w).alloc _ | exact ((Ext.refl w).alloc _).setCell5 (by simp) _ _ _ _ _
end Go.Proofs.YtmdpdgldmedebaaGreatDoor

namespace Go.Proofs.YtmdpdgldmedebaaGreatDoor
set_option linter.unusedSimpArgs false
set_option linter.unusedVariables false
open Go.RowKit

theorem grownBy_set1 (w : World) (b i : Nat) (v : Value) : w.grownBy (w.setCell ⟨b, i, none⟩ v) (some b) := ⟨rfl, rfl, rfl, by rw [size_setCell]; exact Nat.le_refl _, fun k _ hne => Below.heap_setCell _ _ _ _ (fun e => hne (by rw [e]))⟩
theorem grown_trans {a w w' : World} {row : Option Nat} (h : a.grownBy w row) (k : w.grownBy w' row) : a.grownBy w' row :=
  ⟨k.os.trans h.os, k.tape.trans h.tape, k.output.trans h.output, Nat.le_trans h.size k.size, fun i hi hr => (k.block i (Nat.lt_of_lt_of_le hi h.size) hr).trans (h.block i hi hr)⟩
theorem set5_list (c : List Value) (i : Nat) (a0 a1 a2 a3 a4 : Value) (h : i + 5 ≤ c.length) : ((((c.set i a0).set (i + 1) a1).set (i + 2) a2).set (i + 3) a3).set (i + 4) a4 = c.take i ++ [a0, a1, a2, a3, a4] ++ c.drop (i + 5) := by
  obtain ⟨A, B, rfl, rfl⟩ : ∃ A B, c = A ++ B ∧ A.length = i := ⟨c.take i, c.drop i, by simp, by simp; omega⟩
  rcases B with _ | ⟨b0, _ | ⟨b1, _ | ⟨b2, _ | ⟨b3, _ | ⟨b4, D⟩⟩⟩⟩⟩
  · exfalso; simp only [List.length_append, List.length_nil, List.length_cons] at h; omega
  · exfalso; simp only [List.length_append, List.length_nil, List.length_cons] at h; omega
  · exfalso; simp only [List.length_append, List.length_nil, List.length_cons] at h; omega
  · exfalso; simp only [List.length_append, List.length_nil, List.length_cons] at h; omega
  · exfalso; simp only [List.length_append, List.length_nil, List.length_cons] at h; omega
  · simp [List.set_append, List.take_append, List.drop_append]
/-- The last element of a row of five cells each, written. -/
theorem own_set5 {w : World} {base n g cap : Nat} {e : TypeId} {xs zs : List Value} (h : w.ownsRow base e 5 (.slice (some ⟨g, 0, none⟩) (n + 1) cap) (n + 1) (xs ++ zs)) (hz : zs.length = 5) (hx : xs.length = n * 5) (a0 a1 a2 a3 a4 : Value) :
    (((((w.setCell ⟨g, n * 5, none⟩ a0).setCell ⟨g, n * 5 + 1, none⟩ a1).setCell ⟨g, n * 5 + 2, none⟩ a2).setCell ⟨g, n * 5 + 3, none⟩ a3).setCell ⟨g, n * 5 + 4, none⟩ a4).ownsRow base e 5 (.slice (some ⟨g, 0, none⟩) (n + 1) cap) (n + 1) (xs ++ [a0, a1, a2, a3, a4]) ∧
    w.grownBy (((((w.setCell ⟨g, n * 5, none⟩ a0).setCell ⟨g, n * 5 + 1, none⟩ a1).setCell ⟨g, n * 5 + 2, none⟩ a2).setCell ⟨g, n * 5 + 3, none⟩ a3).setCell ⟨g, n * 5 + 4, none⟩ a4) (some g) := by
  constructor
  · refine ⟨by simp only [List.length_append, hx, List.length_cons, List.length_nil]; omega, ?_⟩
    rcases h.2 with ⟨e, _⟩ | ⟨g', cap', cur, ev, hb, hg, hc, hm, hs, ht⟩
    · cases e
    · simp only [Value.slice.injEq, Option.some.injEq, Addr.mk.injEq] at ev
      obtain ⟨⟨e1, _⟩, _, e2⟩ := ev
      subst e1 e2
      have h1 := heap_setCell_same w g (n * 5) _ e a0 hg
      have h2 := heap_setCell_same _ g (n * 5 + 1) _ e a1 h1
      have h3 := heap_setCell_same _ g (n * 5 + 2) _ e a2 h2
      have h4 := heap_setCell_same _ g (n * 5 + 3) _ e a3 h3
      have h5 := heap_setCell_same _ g (n * 5 + 4) _ e a4 h4
      have hl : n * 5 + 5 ≤ cur.size := by rw [hs]; have : (n + 1) * 5 ≤ cap * 5 := Nat.mul_le_mul_right 5 hc; omega
      refine .inr ⟨g, cap, _, rfl, hb, h5, hc, hm, by simpa using hs, ?_⟩
      have e5 : (((((cur.setIfInBounds (n * 5) a0).setIfInBounds (n * 5 + 1) a1).setIfInBounds (n * 5 + 2) a2).setIfInBounds (n * 5 + 3) a3).setIfInBounds (n * 5 + 4) a4).toList = cur.toList.take (n * 5) ++ [a0, a1, a2, a3, a4] ++ cur.toList.drop (n * 5 + 5) := by
        rw [← set5_list cur.toList (n * 5) a0 a1 a2 a3 a4 (by simpa using hl)]
        simp
      have hxs : cur.toList.take (n * 5) = xs := by
        have := congrArg (List.take (n * 5)) ht
        rw [List.take_take, Nat.min_eq_left (by omega)] at this
        rw [this]
        exact List.take_left' hx
      rw [e5, hxs]
      exact List.take_left' (by simp only [List.length_append, hx, List.length_cons, List.length_nil]; omega)
  · exact grown_trans (grown_trans (grown_trans (grown_trans (grownBy_set1 w g _ _) (grownBy_set1 _ g _ _)) (grownBy_set1 _ g _ _)) (grownBy_set1 _ g _ _)) (grownBy_set1 _ g _ _)
/-- .. of values. -/
theorem VRow.last {k : Nat} {w : World} {base g cap : Nat} {X : Nat → Prop} {ex : Option Nat} {l : List ValueM} {z x : ValueM} (h : VRow k w base X ex (.slice (some ⟨g, 0, none⟩) (l.length + 1) cap) (l ++ [z])) (a0 a1 a2 a3 a4 : Value)
    (hx : ValueAtP (fun b => X b ∧ some g ≠ some b ∧ ex ≠ some b ∧ b < w.heap.size) k w [a0, a1, a2, a3, a4] x) :
    VRow k (((((w.setCell ⟨g, l.length * 5, none⟩ a0).setCell ⟨g, l.length * 5 + 1, none⟩ a1).setCell ⟨g, l.length * 5 + 2, none⟩ a2).setCell ⟨g, l.length * 5 + 3, none⟩ a3).setCell ⟨g, l.length * 5 + 4, none⟩ a4) base X ex (.slice (some ⟨g, 0, none⟩) (l.length + 1) cap) (l ++ [x]) ∧
    w.grownBy (((((w.setCell ⟨g, l.length * 5, none⟩ a0).setCell ⟨g, l.length * 5 + 1, none⟩ a1).setCell ⟨g, l.length * 5 + 2, none⟩ a2).setCell ⟨g, l.length * 5 + 3, none⟩ a3).setCell ⟨g, l.length * 5 + 4, none⟩ a4) (some g) := by
  obtain ⟨css, h1, h2, h3⟩ := h
  rw [List.length_append, List.length_singleton] at h1 h2
  obtain ⟨cs0, cz, rfl⟩ : ∃ cs0 cz, css = cs0 ++ [cz] := by
    rcases List.eq_nil_or_concat css with rfl | ⟨cs0, cz, rfl⟩
    · simp at h2
    · exact ⟨cs0, cz, by simp⟩
  have hl0 : cs0.length = l.length := by simpa using h2
  have h5 : ∀ c ∈ cs0 ++ [cz], c.length = 5 := fun c hc => by
    obtain ⟨i, hi, rfl⟩ := List.getElem_of_mem hc
    exact (h3 i _ ((l ++ [z])[i]'(by simp at hi ⊢; omega)) (List.getElem?_eq_getElem hi) (List.getElem?_eq_getElem _)).len
  have hz5 : cz.length = 5 := h5 cz (by simp)
  have hx5 : (cs0.flatMap fun c => c).length = l.length * 5 := by
    rw [← hl0]
    clear h1 h2 h3 hl0
    induction cs0 with
    | nil => rfl
    | cons c r ih =>
      rw [List.flatMap_cons, List.length_append, h5 c (by simp), List.length_cons, ih fun d hd => h5 d (by rcases List.mem_append.1 hd with h | h; exact List.mem_append_left _ (List.mem_cons_of_mem _ h); exact List.mem_append_right _ h)]; omega
  rw [List.flatMap_append] at h1
  have h1' : w.ownsRow base 28 5 (.slice (some ⟨g, 0, none⟩) (l.length + 1) cap) (l.length + 1) ((cs0.flatMap fun c => c) ++ cz) := by simpa using h1
  obtain ⟨o1, o2⟩ := own_set5 h1' hz5 hx5 a0 a1 a2 a3 a4
  refine ⟨⟨cs0 ++ [[a0, a1, a2, a3, a4]], ?_, by simp [hl0], fun i c y hc hy => ?_⟩, o2⟩
  · rw [List.length_append, List.length_singleton, List.flatMap_append]
    simpa using o1
  · have key : ∀ {c : List Value} {y : ValueM}, ValueAtP (fun b => X b ∧ some g ≠ some b ∧ ex ≠ some b ∧ b < w.heap.size) k w c y → ValueAtP (fun b => X b ∧ some g ≠ some b ∧ ex ≠ some b ∧ b < (((((w.setCell ⟨g, l.length * 5, none⟩ a0).setCell ⟨g, l.length * 5 + 1, none⟩ a1).setCell ⟨g, l.length * 5 + 2, none⟩ a2).setCell ⟨g, l.length * 5 + 3, none⟩ a3).setCell ⟨g, l.length * 5 + 4, none⟩ a4).heap.size) k (((((w.setCell ⟨g, l.length * 5, none⟩ a0).setCell ⟨g, l.length * 5 + 1, none⟩ a1).setCell ⟨g, l.length * 5 + 2, none⟩ a2).setCell ⟨g, l.length * 5 + 3, none⟩ a3).setCell ⟨g, l.length * 5 + 4, none⟩ a4) c y := fun hv => by
      refine (hv.keep fun b ob hb hob => ?_).sub fun b hb => ⟨hb.1, hb.2.1, hb.2.2.1, by have := o2.size; have := hb.2.2.2; omega⟩
      rw [o2.block b hb.2.2.2 (fun e => hb.2.1 e.symm)]; exact hob
    by_cases hi : i < cs0.length
    · rw [List.getElem?_append_left hi] at hc
      rw [List.getElem?_append_left (by omega)] at hy
      exact key (h3 i c y (by rw [List.getElem?_append_left hi]; exact hc) (by rw [List.getElem?_append_left (by omega)]; exact hy))
    · by_cases hi2 : i = cs0.length
      · subst hi2
        rw [List.getElem?_append_right (Nat.le_refl _), Nat.sub_self] at hc
        rw [hl0, List.getElem?_append_right (Nat.le_refl _), Nat.sub_self] at hy
        simp at hc hy
        subst hc hy
        exact key hx
      · rw [List.getElem?_eq_none (by simp; omega)] at hc; cases hc
def GvS (G a P V : Nat) (pid : Int) (gv c0 c1 c2 c3 c4 : Value) (w : World) : Prop := w.cell? ⟨G, a, none⟩ = some gv ∧ w.cell? ⟨P, 0, none⟩ = some (.int .i64 pid) ∧ w.cell? ⟨V, 0, none⟩ = some c0 ∧ w.cell? ⟨V, 1, none⟩ = some c1 ∧ w.cell? ⟨V, 2, none⟩ = some c2 ∧ w.cell? ⟨V, 3, none⟩ = some c3 ∧ w.cell? ⟨V, 4, none⟩ = some c4
theorem GvS.ext {G a P V : Nat} {pid : Int} {gv c0 c1 c2 c3 c4 : Value} {w w' : World} (h : GvS G a P V pid gv c0 c1 c2 c3 c4 w) (he : Ext w w') : GvS G a P V pid gv c0 c1 c2 c3 c4 w' :=
  ⟨he.cell h.1, he.cell h.2.1, he.cell h.2.2.1, he.cell h.2.2.2.1, he.cell h.2.2.2.2.1, he.cell h.2.2.2.2.2.1, he.cell h.2.2.2.2.2.2⟩
theorem GvS.grown {G a P V : Nat} {pid : Int} {gv c0 c1 c2 c3 c4 : Value} {w w' : World} {row : Option Nat} (h : GvS G a P V pid gv c0 c1 c2 c3 c4 w) (hg : w.grownBy w' row) (hG : some G ≠ row) (hP : some P ≠ row) (hV : some V ≠ row) : GvS G a P V pid gv c0 c1 c2 c3 c4 w' :=
  ⟨hg.cell h.1 hG, hg.cell h.2.1 hP, hg.cell h.2.2.1 hV, hg.cell h.2.2.2.1 hV, hg.cell h.2.2.2.2.1 hV, hg.cell h.2.2.2.2.2.1 hV, hg.cell h.2.2.2.2.2.2 hV⟩
theorem VRow.slice_len {k : Nat} {w : World} {base : Nat} {X : Nat → Prop} {ex : Option Nat} {s : SV} {l : List ValueM} (h : VRow k w base X ex (.slice s.a s.len s.cap) l) : s.len = l.length := by
  obtain ⟨css, h1, _⟩ := h
  rcases h1.2 with ⟨e, h0⟩ | ⟨g, cap, cur, e, _⟩
  · simp only [Value.slice.injEq] at e; omega
  · simp only [Value.slice.injEq] at e; exact e.2.1
end Go.Proofs.YtmdpdgldmedebaaGreatDoor

namespace Go.Proofs.YtmdpdgldmedebaaGreatDoor
set_option linter.unusedSimpArgs false
set_option linter.unusedVariables false
open Go.RowKit

/-- What is being laid together: its cells, its two rows. -/
structure OutAt (k TT AA : Nat) (w : World) (ui uL vi vL : Value) (ids : List Int) (l : List ValueM) : Prop where
  cells : w.heap[AA]? = some (.cells #[.int .i64 2, .int .i64 0, .string ⟨#[]⟩, ui, uL] 28 (0, 0))
  ints : w.ownsRow (AA + 1) 3 1 vi ids.length (ids.flatMap encI)
  vals : VRow k w (AA + 1) (fun b => TT + 2 ≤ b ∧ b ≠ AA) vi.ownBlock vL l
theorem OutAt.ext {k TT AA : Nat} {w w' : World} {ui uL vi vL : Value} {ids : List Int} {l : List ValueM} (h : OutAt k TT AA w ui uL vi vL ids l) (he : Ext w w') : OutAt k TT AA w' ui uL vi vL ids l :=
  ⟨he.heap h.cells, owns_ext h.ints he, h.vals.ext he⟩
theorem OutAt.lt1 {k TT AA : Nat} {w : World} {ui uL vi vL : Value} {ids : List Int} {l : List ValueM} (h : OutAt k TT AA w ui uL vi vL ids l) : ∀ b, vi.ownBlock = some b → AA + 1 ≤ b ∧ b < w.heap.size := fun b hb => h.ints.lt b hb
theorem OutAt.lt2 {k TT AA : Nat} {w : World} {ui uL vi vL : Value} {ids : List Int} {l : List ValueM} (h : OutAt k TT AA w ui uL vi vL ids l) : ∀ b, vL.ownBlock = some b → AA + 1 ≤ b ∧ b < w.heap.size := fun b hb => h.vals.own_lt b hb
theorem OutAt.push1 {k TT AA : Nat} {w w' : World} {vi vL v5 : Value} {ids : List Int} {l : List ValueM} {id : Int} (h : OutAt k TT AA w vi vL vi vL ids l) (ho : w'.ownsRow (AA + 1) 3 1 v5 (ids.length + 1) (ids.flatMap encI ++ [.int .i64 id]))
    (hg : w.grownBy w' vi.ownBlock) (hw : v5.ownBlock = vi.ownBlock ∨ ∃ g', v5.ownBlock = some g' ∧ w.heap.size ≤ g') : OutAt k TT AA w' vi vL v5 vL (ids ++ [id]) l := by
  have hA := lt_of_heap h.cells
  refine ⟨?_, ?_, ?_⟩
  · rw [hg.block AA hA (fun e => by have := (h.lt1 _ e.symm).1; omega)]; exact h.cells
  · rw [List.flatMap_append, List.length_append, List.length_singleton]; simpa [encI] using ho
  · obtain ⟨css, hc1, _, _⟩ := h.vals
    exact h.vals.other hg (owns_apart hc1 h.ints (by decide)) hw
theorem OutAt.push2 {k TT AA : Nat} {w w' : World} {vi vL v5 v7 : Value} {ids : List Int} {l : List ValueM} {css : List (List Value)} {c : List Value} {x : ValueM} (h : OutAt k TT AA w vi vL v5 vL ids l) (hT : TT ≤ AA) (hc1 : w.ownsRow (AA + 1) 28 5 vL l.length (css.flatMap fun c => c)) (hcl : css.length = l.length)
    (h3 : ∀ (i : Nat) (c : List Value) (x : ValueM), css[i]? = some c → l[i]? = some x → ValueAtP (fun b => (TT + 2 ≤ b ∧ b ≠ AA) ∧ vL.ownBlock ≠ some b ∧ v5.ownBlock ≠ some b ∧ b < w.heap.size) k w c x)
    (hx : ValueAtP (fun b => (TT + 2 ≤ b ∧ b ≠ AA) ∧ vL.ownBlock ≠ some b ∧ v5.ownBlock ≠ some b ∧ b < w.heap.size) k w c x)
    (ho : w'.ownsRow (AA + 1) 28 5 v7 (l.length + 1) ((css.flatMap fun c => c) ++ c)) (hg : w.grownBy w' vL.ownBlock) (hw : v7.ownBlock = vL.ownBlock ∨ ∃ g', v7.ownBlock = some g' ∧ w.heap.size ≤ g') :
    OutAt k TT AA ((w'.setCell ⟨AA, 3, none⟩ v5).setCell ⟨AA, 4, none⟩ v7) v5 v7 v5 v7 ids (l ++ [x]) := by
  have hA := lt_of_heap h.cells
  have hA' : w'.heap[AA]? = some (.cells #[.int .i64 2, .int .i64 0, .string ⟨#[]⟩, vi, vL] 28 (0, 0)) := by
    rw [hg.block AA hA (fun e => by have := (h.lt2 _ e.symm).1; omega)]; exact h.cells
  have hoi := h.ints.kept hg (owns_apart h.ints hc1 (by decide))
  have hv := VRow.push hcl h3 hx ho hg hw
  have hv7 : ∀ b, v7.ownBlock = some b → AA + 1 ≤ b := fun b hb => (ho.lt b hb).1
  refine ⟨?_, ?_, ?_⟩
  · have h1 := heap_setCell_same w' AA 3 _ 28 v5 hA'
    simp only [List.setIfInBounds_toArray, List.set_cons_succ, List.set_cons_zero] at h1
    have h2 := heap_setCell_same _ AA 4 _ 28 v7 h1
    simpa using h2
  · exact ownsRow_setCell_below (ownsRow_setCell_below hoi (by show AA < AA + 1; omega) _) (by show AA < AA + 1; omega) _
  · exact (hv.set (p := ⟨AA, 3, none⟩) (fun e => by have h := hv7 _ e; simp only at h; omega) (fun b hb => hb.2) v5).set (p := ⟨AA, 4, none⟩) (fun e => by have h := hv7 _ e; simp only at h; omega) (fun b hb => hb.2) v7

/-- What lies apart from it stays. -/
def Stays (Z : Nat → Prop) (ws wx : World) (AA : Nat) (vi vL : Value) : Prop := ws.heap.size ≤ wx.heap.size ∧ ∀ b, Z b → b < ws.heap.size ∧ b ≠ AA ∧ wx.heap[b]? = ws.heap[b]? ∧ vi.ownBlock ≠ some b ∧ vL.ownBlock ≠ some b
theorem Stays.ext {Z : Nat → Prop} {ws wx w' : World} {AA : Nat} {vi vL : Value} (h : Stays Z ws wx AA vi vL) (he : Ext wx w') : Stays Z ws w' AA vi vL :=
  ⟨Nat.le_trans h.1 he.size, fun b hb => by
    obtain ⟨h1, h2, h3, h4⟩ := h.2 b hb
    exact ⟨h1, h2, by rw [he.block b (Nat.lt_of_lt_of_le h1 h.1)]; exact h3, h4⟩⟩
theorem Stays.push1 {Z : Nat → Prop} {ws wx w' : World} {AA : Nat} {vi vL v5 : Value} (h : Stays Z ws wx AA vi vL) (hg : wx.grownBy w' vi.ownBlock) (hw : v5.ownBlock = vi.ownBlock ∨ ∃ g', v5.ownBlock = some g' ∧ wx.heap.size ≤ g') : Stays Z ws w' AA v5 vL :=
  ⟨Nat.le_trans h.1 hg.size, fun b hb => by
    obtain ⟨h1, h2, h3, h4, h5⟩ := h.2 b hb
    have h6 := Nat.lt_of_lt_of_le h1 h.1
    refine ⟨h1, h2, by rw [hg.block b h6 (fun e => h4 e.symm)]; exact h3, ?_, h5⟩
    rcases hw with e | ⟨g', e, hge⟩
    · rw [e]; exact h4
    · rw [e]; intro he; cases he; omega⟩
theorem Stays.push2 {Z : Nat → Prop} {ws wx w' : World} {AA : Nat} {v5 vL v7 : Value} (h : Stays Z ws wx AA v5 vL) (hg : wx.grownBy w' vL.ownBlock) (hw : v7.ownBlock = vL.ownBlock ∨ ∃ g', v7.ownBlock = some g' ∧ wx.heap.size ≤ g') (u u' : Value) : Stays Z ws ((w'.setCell ⟨AA, 3, none⟩ u).setCell ⟨AA, 4, none⟩ u') AA v5 v7 :=
  ⟨by rw [size_setCell, size_setCell]; exact Nat.le_trans h.1 hg.size, fun b hb => by
    obtain ⟨h1, h2, h3, h4, h5⟩ := h.2 b hb
    have h6 := Nat.lt_of_lt_of_le h1 h.1
    refine ⟨h1, h2, ?_, h4, ?_⟩
    · rw [Below.heap_setCell _ _ _ _ h2, Below.heap_setCell _ _ _ _ h2, hg.block b h6 (fun e => h5 e.symm)]; exact h3
    · rcases hw with e | ⟨g', e, hge⟩
      · rw [e]; exact h5
      · rw [e]; intro he; cases he; omega⟩
def OsS (A F X : Nat) (vi vL : Value) (id : Int) (c0 c1 c2 c3 c4 : Value) (w : World) : Prop := w.cell? ⟨A, 3, none⟩ = some vi ∧ w.cell? ⟨A, 4, none⟩ = some vL ∧ w.cell? ⟨F, 0, none⟩ = some (.int .i64 id) ∧ w.cell? ⟨X, 0, none⟩ = some c0 ∧ w.cell? ⟨X, 1, none⟩ = some c1 ∧ w.cell? ⟨X, 2, none⟩ = some c2 ∧ w.cell? ⟨X, 3, none⟩ = some c3 ∧ w.cell? ⟨X, 4, none⟩ = some c4
theorem OsS.ext {A F X : Nat} {vi vL : Value} {id : Int} {c0 c1 c2 c3 c4 : Value} {w w' : World} (h : OsS A F X vi vL id c0 c1 c2 c3 c4 w) (he : Ext w w') : OsS A F X vi vL id c0 c1 c2 c3 c4 w' :=
  ⟨he.cell h.1, he.cell h.2.1, he.cell h.2.2.1, he.cell h.2.2.2.1, he.cell h.2.2.2.2.1, he.cell h.2.2.2.2.2.1, he.cell h.2.2.2.2.2.2.1, he.cell h.2.2.2.2.2.2.2⟩
theorem OsS.grown {A F X : Nat} {vi vL : Value} {id : Int} {c0 c1 c2 c3 c4 : Value} {w w' : World} {row : Option Nat} (h : OsS A F X vi vL id c0 c1 c2 c3 c4 w) (hg : w.grownBy w' row) (hA : some A ≠ row) (hF : some F ≠ row) (hX : some X ≠ row) : OsS A F X vi vL id c0 c1 c2 c3 c4 w' :=
  ⟨hg.cell h.1 hA, hg.cell h.2.1 hA, hg.cell h.2.2.1 hF, hg.cell h.2.2.2.1 hX, hg.cell h.2.2.2.2.1 hX, hg.cell h.2.2.2.2.2.1 hX, hg.cell h.2.2.2.2.2.2.1 hX, hg.cell h.2.2.2.2.2.2.2 hX⟩
theorem fill_len {lf : FieldM → ValueM} : ∀ {l : List FieldM} {st : List Int × List ValueM}, (fillM lf l st).1.length ≤ st.1.length + l.length
  | [], st => Nat.le_refl _
  | g :: r, st => by
    have h : (fillStep lf st g).1.length ≤ st.1.length + 1 := by
      unfold fillStep
      split
      · simp only [insAt, List.length_append, List.length_cons, List.length_take, List.length_drop]; omega
      · omega
    have := fill_len (lf := lf) (l := r) (st := fillStep lf st g)
    show (fillM lf r (fillStep lf st g)).1.length ≤ _
    simp only [List.length_cons]; omega
theorem asm_take {lf : FieldM → ValueM} {z : List (Int × ValueM)} {l : List FieldM} {j : Nat} (h : j < l.length) : asmL lf z (l.take (j + 1)) = asmL lf z (l.take j) ++ (lastOf lf z l[j]).map fun x => (l[j].id, x) := by
  unfold asmL
  rw [List.take_succ_eq_append_getElem h, List.flatMap_append]
  simp
theorem asm_len {lf : FieldM → ValueM} {z : List (Int × ValueM)} (l : List FieldM) (j : Nat) : (asmL lf z (l.take j)).length ≤ (asmL lf z l).length := by
  conv => rhs; rw [← List.take_append_drop j l]
  unfold asmL
  rw [List.flatMap_append, List.length_append]; omega
def Zk (TT AA : Nat) (vi vL : Value) (W : World) (b : Nat) : Prop := TT + 2 ≤ b ∧ b ≠ AA ∧ vi.ownBlock ≠ some b ∧ vL.ownBlock ≠ some b ∧ b < W.heap.size
theorem SliceAt.imp5 {R R' : World → List Value → ValueM → Prop} {w w' : World} {s : SV} {l : List ValueM} (h : SliceAt 5 R w s l) (he : Ext w w') (hR : ∀ cs u, R w cs u → R' w' cs u) : SliceAt 5 R' w' s l :=
  ⟨h.1, fun i u hu => by
    obtain ⟨b, o, cs, h1, h2, h3⟩ := h.2 i u hu
    exact ⟨b, o, cs, h1, he.range h2, hR _ _ h3⟩⟩
/-- As wpAnyX_take, where what waits for the one waits through others. -/
theorem wpAnyX_firstD {P : Program} {ops : Array Oper} {Q : Exit → Act → World → Prop} {S : World → Prop} {B D : Nat → Bool} {i : Nat} {oi : Oper} {v : Value} (hi : ops[i]? = some oi) (hsel : ∀ (j : Nat) (o : Oper) cs b, ops[j]? = some o → o.op ≠ .select cs b)
    (hQ : ∀ c a w, Q (.panic c) (a.put oi.dst v) w → Q (.panic c) a w) (hBi : B i = false)
    (hD : ∀ j oj, ops[j]? = some oj → D j = true → j ≠ i → ∃ e ∈ oj.after, Region.binds .any e = true ∧ D e.on = true) :
    ∀ (fuel : Nat) (listed : Array Bool) (a : Act) (w : World),
      (∀ k, D k = true → listed.getD k true = false) →
      (∀ j oj, ops[j]? = some oj → j ≠ i → D j = false → listed.getD j true = false → oi.apart ops oj = true ∧ B j = false) →
      i ∈ Region.ready .any ops listed → YieldsIf P ops S oi v a → S w →
      wpAnyX P ops Q S B fuel (listed.setIfInBounds i true) (a.put oi.dst v) w → wpAnyX P ops Q S B (fuel + 1) listed a w := by
  intro fuel
  induction fuel with
  | zero =>
    intro listed a w _ _ hr hy hS H
    refine And.intro (fun h => by rw [h] at hr; cases hr) (fun j hj => ?_)
    by_cases hji : j = i
    · subst hji
      exact hy.wpOp hi hS ⟨fun h => (by rw [hBi] at h; cases h), fun _ => ⟨hS, H⟩⟩
    · have := ready_mono hj hji
      rw [H.1] at this
      cases this
  | succ fuel ih =>
    intro listed a w hun hfree hr hy hS H
    refine And.intro (fun h => by rw [h] at hr; cases hr) (fun j hj => ?_)
    by_cases hji : j = i
    · subst hji
      exact hy.wpOp hi hS ⟨fun h => (by rw [hBi] at h; cases h), fun _ => ⟨hS, H⟩⟩
    · have h1 := H.2 j (ready_mono hj hji)
      obtain ⟨hjun, oj, hoj, hall⟩ := mem_ready.1 hj
      have hDj : D j = false := by
        cases hd : D j
        · rfl
        · obtain ⟨e, he, hb, hde⟩ := hD j oj hoj hd hji
          have h1 := hall e he hb
          have h0 := hun _ hde
          rcases Nat.lt_or_ge e.on listed.size with h' | h'
          · simp [h'] at h0 h1; rw [h0] at h1; cases h1
          · simp [Array.getElem?_eq_none h'] at h1
      obtain ⟨hap, hBj⟩ := hfree j oj hoj hji hDj hjun
      have h2 := wpOp_putIf hoj hap (fun cs b => hsel i oi cs b hi) (fun cs b => hsel j oj cs b hoj) hQ hy h1
      refine wpOp_mono (fun a' w' h3 => ⟨fun h => (by rw [hBj] at h; cases h), fun _ => ?_⟩) h2
      obtain ⟨hS', H'⟩ := h3.2.2 hBj
      have hset : ∀ k, j ≠ k → (listed.setIfInBounds j true).getD k true = false → listed.getD k true = false := fun k hjk h => by rw [getD_set_ne true hjk] at h; exact h
      refine ⟨hS', ih (listed.setIfInBounds j true) a' w' (fun k hk => ?_) (fun k ok hk hki hdk hunk => ?_) (ready_mono hr (Ne.symm hji)) h3.1 hS' ?_⟩
      · have hjk : j ≠ k := fun e => by rw [e, hk] at hDj; cases hDj
        rw [getD_set_ne true hjk]; exact hun k hk
      · refine hfree k ok hk hki hdk ?_
        by_cases hjk : j = k
        · subst hjk; exact hjun
        · exact hset k hjk hunk
      · rw [Array.setIfInBounds_comm _ _ hji]; exact H'
def freeD (ops : Array Oper) (B : Nat → Bool) (D : List Nat) (listed : Array Bool) (i : Nat) : Bool :=
  match ops[i]? with
  | none => false
  | some oi => (!B i) && (Region.ready .any ops listed).contains i && D.all (fun k => listed.getD k true == false) && (List.range ops.size).all fun j => j == i || match ops[j]? with
      | some oj => if D.contains j then oj.after.any (fun e => Region.binds .any e && D.contains e.on) else listed.getD j true || (oi.apart ops oj && !B j)
      | none => true
theorem wpAnyX_takeD {P : Program} {ops : Array Oper} {Q : Exit → Act → World → Prop} {S : World → Prop} {B : Nat → Bool} {i : Nat} {oi : Oper} {v : Value} (D : List Nat) {fuel : Nat} {listed : Array Bool} {a : Act} {w : World} (hi : ops[i]? = some oi) (hs : Region.noSelect ops = true) (hf : freeD ops B D listed i = true)
    (hQ : ∀ c a w, Q (.panic c) (a.put oi.dst v) w → Q (.panic c) a w) (hy : YieldsIf P ops S oi v a) (hS : S w)
    (h : wpAnyX P ops Q S B fuel (listed.setIfInBounds i true) (a.put oi.dst v) w) : wpAnyX P ops Q S B (fuel + 1) listed a w := by
  simp only [freeD, hi, Bool.and_eq_true, Bool.not_eq_true', List.all_eq_true, List.mem_range] at hf
  obtain ⟨⟨⟨hB, hr⟩, hun⟩, hall⟩ := hf
  refine wpAnyX_firstD (D := fun k => D.contains k) hi (Region.noSelect_spec hs) hQ hB (fun j oj hj hd hne => ?_) fuel listed a w (fun k hk => ?_) (fun j oj hj hne hd hu => ?_) (by simpa using hr) hy hS h
  · have h1 := hall j (Array.getElem?_eq_some_iff.1 hj).1
    simp only [hj, Bool.or_eq_true, beq_iff_eq, hne, false_or] at h1
    rw [if_pos hd, Array.any_eq_true] at h1
    obtain ⟨k, hk, hb⟩ := h1
    rw [Bool.and_eq_true] at hb
    exact ⟨_, Array.getElem_mem hk, hb.1, hb.2⟩
  · have := hun k (List.contains_iff_mem.1 hk)
    simpa using this
  · have h1 := hall j (Array.getElem?_eq_some_iff.1 hj).1
    simp only [hj, Bool.or_eq_true, beq_iff_eq, hne, false_or] at h1
    rw [if_neg (by rw [hd]; exact Bool.false_ne_true), hu, Bool.false_or, Bool.and_eq_true, Bool.not_eq_true'] at h1
    exact h1
end Go.Proofs.YtmdpdgldmedebaaGreatDoor

