import Derived.Test.YtnppgeiompimaaaGreatDoorM26
namespace Go.Proofs.YtnppgeiompimaaaGreatDoor
set_option linter.unusedSimpArgs false
set_option linter.unusedVariables false
set_option linter.unusedSimpArgs false
set_option linter.unusedVariables false
open Go.RowKit

structure FlawM where
  type : ByteArray
  id : Int
  why : Int
/-- A message of the writer's, and the reader's that reads it; the pair that led there, and by which field. -/
structure PairM where
  a : TypeM
  b : TypeM
  src : Nat
  id : Int
def sameP (p q : PairM) : Bool := (q.a.name.toList == p.a.name.toList) && (q.b.name.toList == p.b.name.toList)
def addP (l : List PairM) (p : PairM) : List PairM := if l.any (sameP p) = true then l else l ++ [p]
def stepP (w r : BookM) (i : Nat) (q : PairM) (l : List PairM) (f : FieldM) : List PairM :=
  match fieldM q.b f.id with
  | none => l
  | some g => if f.kind = 5 ∧ g.kind = 5 then addP l ⟨typeM w f, typeM r g, i, f.id⟩ else l
def expandP (w r : BookM) (i : Nat) (q : PairM) (l : List PairM) : List PairM := q.a.fields.foldl (stepP w r i q) l
def reachF (w r : BookM) : Nat → Nat → List PairM → List PairM
  | 0, _, l => l
  | n + 1, i, l => match l[i]? with
    | none => l
    | some q => reachF w r n (i + 1) (expandP w r i q l)
def reachM (w r : BookM) (first : PairM) : List PairM := reachF w r 17 0 [first]
/-- What led to a pair. -/
def Led (w r : BookM) (l : List PairM) (p : PairM) : Prop := ∃ q f g, l[p.src]? = some q ∧ f ∈ q.a.fields ∧ fieldM q.b f.id = some g ∧ f.kind = 5 ∧ g.kind = 5 ∧ p.a = typeM w f ∧ p.b = typeM r g ∧ p.id = f.id
structure Reach (w r : BookM) (first : PairM) (l : List PairM) : Prop where
  first : l[0]? = some first
  msg : ∀ p ∈ l, Msg w p.a ∧ Msg r p.b
  apart : l.Pairwise fun p q => sameP p q = false
  led : ∀ j p, l[j]? = some p → 0 < j → p.src < j ∧ Led w r l p
def Next (w r : BookM) (l : List PairM) (q : PairM) (f : FieldM) : Prop := ∀ g, fieldM q.b f.id = some g → f.kind = 5 → g.kind = 5 → ∃ p ∈ l, p.a = typeM w f ∧ p.b = typeM r g
theorem msg_same {ts : BookM} {t u : TypeM} (ht : Msg ts t) (hu : Msg ts u) (h : t.name.toList = u.name.toList) : t = u := by
  obtain ⟨n, hn, _⟩ := ht
  obtain ⟨m, hm, _⟩ := hu
  have e1 := find_name hn
  have e2 := find_name hm
  subst e1 e2
  unfold findM at hn hm
  rw [h] at hn
  rw [hn] at hm
  exact Option.some.inj hm
theorem sameP_iff {p q : PairM} : sameP p q = true ↔ q.a.name.toList = p.a.name.toList ∧ q.b.name.toList = p.b.name.toList := by
  unfold sameP; simp
theorem addP_pre (l : List PairM) (p : PairM) : ∃ m, addP l p = l ++ m := by
  unfold addP; split
  · exact ⟨[], by simp⟩
  · exact ⟨[p], rfl⟩
theorem Led.mono {w r : BookM} {l m : List PairM} {p : PairM} (h : Led w r l p) : Led w r (l ++ m) p := by
  obtain ⟨q, f, g, h1, h2⟩ := h
  exact ⟨q, f, g, by rw [List.getElem?_append_left (List.getElem?_eq_some_iff.1 h1).1]; exact h1, h2⟩
theorem reach_add {w r : BookM} (hw : goodM w = 0) (hr : goodM r = 0) {first : PairM} {l : List PairM} (h : Reach w r first l) {i : Nat} {q : PairM} (hq : l[i]? = some q) {f : FieldM} (hf : f ∈ q.a.fields) {g : FieldM} (hg : fieldM q.b f.id = some g) (f5 : f.kind = 5) (g5 : g.kind = 5) :
    Reach w r first (addP l ⟨typeM w f, typeM r g, i, f.id⟩) ∧ ∃ p ∈ addP l ⟨typeM w f, typeM r g, i, f.id⟩, p.a = typeM w f ∧ p.b = typeM r g := by
  obtain ⟨mq1, mq2⟩ := h.msg q (List.mem_of_getElem? hq)
  have m1 : Msg w (typeM w f) := mq1.sub hw hf f5
  have m2 : Msg r (typeM r g) := mq2.sub hr (fieldM_mem hg) g5
  have hil := (List.getElem?_eq_some_iff.1 hq).1
  obtain ⟨p, hp⟩ : ∃ p : PairM, p = ⟨typeM w f, typeM r g, i, f.id⟩ := ⟨_, rfl⟩
  rw [← hp]
  have ea : p.a = typeM w f := by rw [hp]
  have eb : p.b = typeM r g := by rw [hp]
  unfold addP
  split
  · rename_i ha
    rw [List.any_eq_true] at ha
    obtain ⟨x, hx, e⟩ := ha
    rw [sameP_iff] at e
    obtain ⟨x1, x2⟩ := h.msg x hx
    refine ⟨h, x, hx, ?_, ?_⟩
    · exact msg_same x1 m1 (by rw [e.1, ea])
    · exact msg_same x2 m2 (by rw [e.2, eb])
  · rename_i ha
    refine ⟨⟨?_, ?_, ?_, ?_⟩, p, by simp, ea, eb⟩
    · rw [List.getElem?_append_left (by omega)]; exact h.first
    · intro x hx
      rcases List.mem_append.1 hx with hx | hx
      · exact h.msg x hx
      · rw [List.mem_singleton] at hx
        subst hx
        exact ⟨ea ▸ m1, eb ▸ m2⟩
    · rw [List.pairwise_append]
      refine ⟨h.apart, by simp, fun x hx y hy => ?_⟩
      rw [List.mem_singleton] at hy
      subst hy
      cases e : sameP x y with
      | false => rfl
      | true =>
        exfalso
        apply ha
        rw [List.any_eq_true]
        refine ⟨x, hx, ?_⟩
        rw [sameP_iff] at e ⊢
        exact ⟨e.1.symm, e.2.symm⟩
    · intro j x hx hj
      by_cases hjl : j < l.length
      · rw [List.getElem?_append_left hjl] at hx
        obtain ⟨h1, h2⟩ := h.led j x hx hj
        exact ⟨h1, h2.mono⟩
      · have hj2 : j = l.length := by
          have := (List.getElem?_eq_some_iff.1 hx).1
          simp at this; omega
        subst hj2
        rw [List.getElem?_append_right (Nat.le_refl _), Nat.sub_self] at hx
        simp only [List.getElem?_cons_zero, Option.some.injEq] at hx
        subst hx
        rw [hp]
        refine ⟨hil, q, f, g, ?_, hf, hg, f5, g5, rfl, rfl, rfl⟩
        simp only
        rw [List.getElem?_append_left hil]; exact hq
theorem reach_expand {w r : BookM} (hw : goodM w = 0) (hr : goodM r = 0) {first : PairM} {i : Nat} {q : PairM} : ∀ {fs : List FieldM} {l : List PairM}, (∀ f ∈ fs, f ∈ q.a.fields) → Reach w r first l → l[i]? = some q →
    Reach w r first (fs.foldl (stepP w r i q) l) ∧ (∃ m, fs.foldl (stepP w r i q) l = l ++ m) ∧ ∀ f ∈ fs, Next w r (fs.foldl (stepP w r i q) l) q f
  | [], l, _, h, _ => ⟨h, ⟨[], by simp⟩, fun f hf => absurd hf List.not_mem_nil⟩
  | f :: fs, l, hs, h, hq => by
    have hstep : Reach w r first (stepP w r i q l f) ∧ (∃ m, stepP w r i q l f = l ++ m) ∧ Next w r (stepP w r i q l f) q f := by
      unfold stepP
      cases hg : fieldM q.b f.id with
      | none => exact ⟨h, ⟨[], by simp⟩, fun g hg' => by rw [hg] at hg'; cases hg'⟩
      | some g =>
        simp only
        split
        · rename_i h5
          obtain ⟨a1, a2⟩ := reach_add hw hr h hq (hs f (by simp)) hg h5.1 h5.2
          exact ⟨a1, addP_pre _ _, fun g' hg' _ _ => by rw [hg] at hg'; cases hg'; exact a2⟩
        · rename_i h5
          exact ⟨h, ⟨[], by simp⟩, fun g' hg' f5 g5 => by rw [hg] at hg'; cases hg'; exact absurd ⟨f5, g5⟩ h5⟩
    obtain ⟨s1, ⟨m, s2⟩, s3⟩ := hstep
    have hq' : (stepP w r i q l f)[i]? = some q := by rw [s2, List.getElem?_append_left (List.getElem?_eq_some_iff.1 hq).1]; exact hq
    obtain ⟨i1, ⟨m', i2⟩, i3⟩ := reach_expand hw hr (fs := fs) (fun g hg => hs g (by simp [hg])) s1 hq'
    refine ⟨i1, ⟨m ++ m', ?_⟩, fun g hg => ?_⟩
    · show fs.foldl (stepP w r i q) (stepP w r i q l f) = _
      rw [i2, s2, List.append_assoc]
    · rcases List.mem_cons.1 hg with rfl | hg
      · intro g' hg' h1 h2
        obtain ⟨p, hp, e⟩ := s3 g' hg' h1 h2
        refine ⟨p, ?_, e⟩
        show p ∈ fs.foldl (stepP w r i q) (stepP w r i q l g)
        rw [i2]; exact List.mem_append_left _ hp
      · exact i3 g hg
theorem Next.mono {w r : BookM} {l m : List PairM} {q : PairM} {f : FieldM} (h : Next w r l q f) : Next w r (l ++ m) q f := fun g h1 h2 h3 => by
  obtain ⟨p, hp, e⟩ := h g h1 h2 h3
  exact ⟨p, List.mem_append_left _ hp, e⟩
theorem Reach.len {w r : BookM} (hw : goodM w = 0) (hr : goodM r = 0) {first : PairM} {l : List PairM} (h : Reach w r first l) : l.length ≤ 16 := by
  have h1 : (l.map fun p => (p.a.name.toList, p.b.name.toList)).Nodup := by
    unfold List.Nodup
    rw [List.pairwise_map]
    refine h.apart.imp fun {p q} hpq e => ?_
    have : sameP p q = true := by rw [sameP_iff]; simp only [Prod.mk.injEq] at e; exact ⟨e.1.symm, e.2.symm⟩
    rw [hpq] at this; cases this
  have h2 := nodup_len (m := w.flatMap fun x => r.map fun y => (x.name.toList, y.name.toList)) h1 fun x hx => by
    obtain ⟨p, hp, rfl⟩ := List.mem_map.1 hx
    obtain ⟨⟨n, hn, _⟩, ⟨m, hm, _⟩⟩ := h.msg p hp
    exact List.mem_flatMap.2 ⟨p.a, findM_mem hn, List.mem_map.2 ⟨p.b, findM_mem hm, rfl⟩⟩
  have h3 : (w.flatMap fun x => r.map fun y => (x.name.toList, y.name.toList)).length = w.length * r.length := by
    induction w with
    | nil => simp
    | cons x w ih =>
      clear h1 h2
      rw [List.flatMap_cons, List.length_append, List.length_map, List.length_cons, Nat.add_mul]
      have : ∀ v : BookM, (v.flatMap fun x => r.map fun y => (x.name.toList, y.name.toList)).length = v.length * r.length := fun v => by
        induction v with
        | nil => simp
        | cons y v ih => rw [List.flatMap_cons, List.length_append, List.length_map, List.length_cons, Nat.add_mul, ih]; omega
      rw [this]; omega
  have h4 := (goodM_out hw).1
  have h5 := (goodM_out hr).1
  have : w.length * r.length ≤ 4 * 4 := Nat.mul_le_mul h4 h5
  rw [List.length_map] at h2
  omega
theorem reachF_out {w r : BookM} (hw : goodM w = 0) (hr : goodM r = 0) {first : PairM} : ∀ {n i : Nat} {l : List PairM}, n + i = 17 → Reach w r first l → (∀ j q, j < i → l[j]? = some q → ∀ f ∈ q.a.fields, Next w r l q f) →
    Reach w r first (reachF w r n i l) ∧ ∀ q ∈ reachF w r n i l, ∀ f ∈ q.a.fields, Next w r (reachF w r n i l) q f
  | 0, i, l, hn, h, hc => by
    have hl := h.len hw hr
    refine ⟨h, fun q hq f hf => ?_⟩
    obtain ⟨j, hj, e⟩ := List.getElem_of_mem hq
    have hj' : j < l.length := hj
    exact hc j q (by omega) (by rw [← e]; exact List.getElem?_eq_getElem hj) f hf
  | n + 1, i, l, hn, h, hc => by
    unfold reachF
    cases hq : l[i]? with
    | none =>
      have hl : l.length ≤ i := by simpa using hq
      refine ⟨h, fun q hq f hf => ?_⟩
      obtain ⟨j, hj, e⟩ := List.getElem_of_mem hq
      have hj' : j < l.length := hj
      exact hc j q (by omega) (by rw [← e]; exact List.getElem?_eq_getElem hj) f hf
    | some q =>
      simp only
      obtain ⟨e1, ⟨m, e2⟩, e3⟩ := reach_expand hw hr (fs := q.a.fields) (fun f hf => hf) h hq
      have e2' : expandP w r i q l = l ++ m := e2
      refine reachF_out hw hr (by omega) e1 fun j p hj hp f hf => ?_
      by_cases hji : j = i
      · subst hji
        rw [e2', List.getElem?_append_left (List.getElem?_eq_some_iff.1 hq).1, hq] at hp
        cases hp
        exact e3 f hf
      · have hjl : j < l.length := by have := (List.getElem?_eq_some_iff.1 hq).1; omega
        rw [e2', List.getElem?_append_left hjl] at hp
        rw [e2']
        exact (hc j p (by omega) hp f hf).mono
theorem reach_first {w r : BookM} {t u : TypeM} {s : Nat} {d : Int} (ht : Msg w t) (hu : Msg r u) : Reach w r ⟨t, u, s, d⟩ [⟨t, u, s, d⟩] :=
  ⟨rfl, fun p hp => by rw [List.mem_singleton] at hp; subst hp; exact ⟨ht, hu⟩, by simp, fun j p hp hj => by
    have := (List.getElem?_eq_some_iff.1 hp).1
    simp at this; omega⟩
theorem reach_out {w r : BookM} (hw : goodM w = 0) (hr : goodM r = 0) {t u : TypeM} {s : Nat} {d : Int} (ht : Msg w t) (hu : Msg r u) :
    Reach w r ⟨t, u, s, d⟩ (reachM w r ⟨t, u, s, d⟩) ∧ ∀ q ∈ reachM w r ⟨t, u, s, d⟩, ∀ f ∈ q.a.fields, Next w r (reachM w r ⟨t, u, s, d⟩) q f :=
  reachF_out hw hr rfl (reach_first ht hu) fun j q hj => by omega

/-- The flaws of the fields that both of a pair have. -/
def pairFlaws (w r : BookM) (p : PairM) : List FlawM := p.a.fields.flatMap fun f => match fieldM p.b f.id with
  | none => []
  | some g => (whysM w r f g).map fun y => ⟨p.a.name, f.id, y⟩
theorem pairFlaws_none {w r : BookM} {p : PairM} (h : pairFlaws w r p = []) {f : FieldM} (hf : f ∈ p.a.fields) {g : FieldM} (hg : fieldM p.b f.id = some g) : whysM w r f g = [] := by
  unfold pairFlaws at h
  rw [List.flatMap_eq_nil_iff] at h
  have := h f hf
  rw [hg] at this
  simpa using this
/-- No flaw of any pair: all that is written is read. -/
theorem reach_noflaw {w r : BookM} (hw : goodM w = 0) (hr : goodM r = 0) {t u : TypeM} {s : Nat} {d : Int} (ht : Msg w t) (hu : Msg r u) (h : ∀ p ∈ reachM w r ⟨t, u, s, d⟩, pairFlaws w r p = []) :
    NoFlaw w r (fun x y => ∃ p ∈ reachM w r ⟨t, u, s, d⟩, p.a = x ∧ p.b = y) ∧ ∃ p ∈ reachM w r ⟨t, u, s, d⟩, p.a = t ∧ p.b = u := by
  obtain ⟨h1, h2⟩ := reach_out (s := s) (d := d) hw hr ht hu
  refine ⟨⟨?_, ?_⟩, ⟨t, u, s, d⟩, List.mem_of_getElem? h1.first, rfl, rfl⟩
  · rintro x y ⟨p, hp, rfl, rfl⟩ f hf g hg
    exact pairFlaws_none (h p hp) hf hg
  · rintro x y ⟨p, hp, rfl, rfl⟩ f hf g hg f5 g5
    exact h2 p hp f hf g hg f5 g5
theorem sample_has {b : BookM} {f : FieldM} : ∀ n ∈ samplesL b f, hasB b f n = true := by
  intro n hn
  unfold samplesL at hn
  unfold hasB
  split at hn
  · rename_i h1
    rw [if_pos h1]
    simpa using hn
  · rename_i h1
    rw [if_neg h1]
    split at hn
    · rename_i h4
      rw [if_pos h4, List.any_eq_true]
      obtain ⟨i, hi, e⟩ := List.mem_map.1 hn
      exact ⟨i, hi, by simp [e]⟩
    · rename_i h4
      rw [if_neg h4]
theorem whys_self (b : BookM) (f : FieldM) : whysM b b f f = [] := by
  have hs : strangeM b b f f = none := by
    unfold strangeM
    split
    · rfl
    · rw [List.find?_eq_none]
      intro n hn
      simp [sample_has n hn]
  unfold whysM
  rw [hs]
  simp
/-- A book has no flaw with itself. -/
theorem flaws_self {b : BookM} (hb : goodM b = 0) {t : TypeM} {s : Nat} {d : Int} (ht : Msg b t) : ∀ p ∈ reachM b b ⟨t, t, s, d⟩, pairFlaws b b p = [] := by
  obtain ⟨h1, _⟩ := reach_out (s := s) (d := d) hb hb ht ht
  have hself : ∀ (j : Nat) (p : PairM), (reachM b b ⟨t, t, s, d⟩)[j]? = some p → p.a = p.b := by
    intro j
    induction j using Nat.strongRecOn with
    | _ j ih =>
      intro p hp
      by_cases hj : j = 0
      · subst hj
        rw [h1.first] at hp
        cases hp; rfl
      · obtain ⟨hlt, q, f, g, hq, hf, hg, _, _, ea, eb, _⟩ := h1.led j p hp (by omega)
        have e := ih p.src hlt q hq
        have hm := (h1.msg q (List.mem_of_getElem? hq)).1
        rw [← e, hm.find hb hf] at hg
        cases hg
        rw [ea, eb]
  intro p hp
  obtain ⟨j, hj, e⟩ := List.getElem_of_mem hp
  have e' := hself j p (by rw [← e]; exact List.getElem?_eq_getElem hj)
  have hm := (h1.msg p hp).1
  unfold pairFlaws
  rw [List.flatMap_eq_nil_iff]
  intro f hf
  rw [← e', hm.find hb hf]
  simp [whys_self]
end Go.Proofs.YtnppgeiompimaaaGreatDoor

namespace Go.Proofs.YtnppgeiompimaaaGreatDoor
set_option linter.unusedSimpArgs false
set_option linter.unusedVariables false
open Go.RowKit

def leastId (w : BookM) (t : TypeM) (id : Int) : ValueM := match fieldM t id with
  | none => ValueM.zero
  | some f => leastF w (leastV w 4) f
def aroundL (w : BookM) (id : Int) (vs : List ValueM) (l : List FieldM) : List (Int × ValueM) :=
  l.flatMap fun f => if f.id = id then vs.map (fun x => (id, x)) else if f.rule = 1 then [(f.id, leastF w (leastV w 4) f)] else []
/-- The least message that has these values at a field. -/
def aroundM (w : BookM) (t : TypeM) (id : Int) (vs : List ValueM) : ValueM := ⟨2, 0, ⟨#[]⟩, (aroundL w id vs t.fields).map (·.1), (aroundL w id vs t.fields).map (·.2)⟩
def unreadM (w r : BookM) (p : PairM) (x : FlawM) : List ValueM :=
  if x.why = 2 then [leastId w p.a x.id, leastId w p.a x.id]
  else if x.why = 3 then [⟨0, (strangeM w r ((fieldM p.a x.id).getD FieldM.zero) ((fieldM p.b x.id).getD FieldM.zero)).getD 0, ⟨#[]⟩, [], []⟩]
  else [leastId w p.a x.id]
def outwardM (w : BookM) (l : List PairM) : Nat → Nat → ValueM → ValueM
  | 0, _, v => v
  | n + 1, i, v => if i = 0 then v else match l[i]? with
    | none => v
    | some p => match l[p.src]? with
      | none => v
      | some q => outwardM w l n p.src (aroundM w q.a p.id [v])
def witnessIn (w r : BookM) (l : List PairM) : List PairM → Nat → Option ValueM
  | [], _ => none
  | p :: m, i => match pairFlaws w r p with
    | [] => witnessIn w r l m (i + 1)
    | x :: _ => some (outwardM w l 17 i (aroundM w p.a x.id (unreadM w r p x)))

/-! ### It is one of the writer's type -/
theorem around_ids {w : BookM} {id : Int} {vs : List ValueM} {q : Int × ValueM} : ∀ {l : List FieldM}, q ∈ aroundL w id vs l → (∃ f ∈ l, f.id = q.1 ∧ ((f.id = id ∧ q.2 ∈ vs) ∨ (f.id ≠ id ∧ f.rule = 1 ∧ q.2 = leastF w (leastV w 4) f))) := by
  intro l h
  unfold aroundL at h
  obtain ⟨f, hf, h⟩ := List.mem_flatMap.1 h
  refine ⟨f, hf, ?_⟩
  split at h
  · rename_i e
    obtain ⟨x, hx, rfl⟩ := List.mem_map.1 h
    exact ⟨e, .inl ⟨e, hx⟩⟩
  · rename_i e
    split at h
    · rename_i hr
      rw [List.mem_singleton] at h
      subst h
      exact ⟨rfl, .inr ⟨e, hr, rfl⟩⟩
    · cases h
theorem around_sum {w : BookM} {id : Int} {vs : List ValueM} {g : ValueM → Nat} : ∀ {l : List FieldM}, (l.map (·.id)).Pairwise (fun x y => x < y) → sumL g ((aroundL w id vs l).map (·.2)) ≤ sumL g vs + sumL g ((onesL l).map (leastF w (leastV w 4)))
  | [], _ => by simp [aroundL, onesL, sumL]
  | f :: l, h => by
    rw [List.map_cons, List.pairwise_cons] at h
    have hcons : aroundL w id vs (f :: l) = (if f.id = id then vs.map (fun x => (id, x)) else if f.rule = 1 then [(f.id, leastF w (leastV w 4) f)] else []) ++ aroundL w id vs l := by unfold aroundL; rw [List.flatMap_cons]
    have hones : sumL g ((onesL l).map (leastF w (leastV w 4))) ≤ sumL g ((onesL (f :: l)).map (leastF w (leastV w 4))) := by
      unfold onesL
      rw [List.filter_cons]
      split
      · rw [List.map_cons, sumL]; omega
      · omega
    rw [hcons, List.map_append, sumL_append]
    by_cases e : f.id = id
    · rw [if_pos e]
      have hrest : ∀ m : List FieldM, (∀ y ∈ m, y.id ≠ id) → sumL g ((aroundL w id vs m).map (·.2)) = sumL g ((onesL m).map (leastF w (leastV w 4))) := by
        intro m
        induction m with
        | nil => intro _; simp [aroundL, onesL, sumL]
        | cons y m ih =>
          intro hm
          have hy := hm y (by simp)
          have hc : aroundL w id vs (y :: m) = (if y.rule = 1 then [(y.id, leastF w (leastV w 4) y)] else []) ++ aroundL w id vs m := by unfold aroundL; rw [List.flatMap_cons, if_neg hy]
          rw [hc, List.map_append, sumL_append, ih fun z hz => hm z (by simp [hz])]
          unfold onesL
          rw [List.filter_cons]
          by_cases hr : y.rule = 1
          · rw [if_pos hr, if_pos (by simp [hr])]; simp [sumL]
          · rw [if_neg hr, if_neg (by simp [hr])]; simp [sumL]
      rw [hrest l fun y hy => by have := h.1 y.id (List.mem_map_of_mem hy); omega]
      have : (vs.map (fun x => (id, x))).map (·.2) = vs := by rw [List.map_map]; simp [Function.comp_def]
      rw [this]; omega
    · rw [if_neg e]
      have ih := around_sum (w := w) (id := id) (vs := vs) (g := g) (l := l) h.2
      by_cases hr : f.rule = 1
      · rw [if_pos hr]
        unfold onesL at *
        rw [List.filter_cons_of_pos (by simp [hr]), List.map_cons, sumL]
        simp only [List.map_cons, List.map_nil, sumL]
        omega
      · rw [if_neg hr]
        simp only [List.map_nil, sumL]
        omega
theorem ones_cnt {ts : BookM} (hg : goodM ts = 0) {t : TypeM} (ht : Msg ts t) (m : Nat) : sumL (cntM m) ((onesL t.fields).map (leastF ts (leastV ts 4))) ≤ 11 := by
  have h1 := ht.cnt hg (m + 1)
  rw [← least_fuel (ht.le hg)] at h1
  have : 1 + sumL (cntM m) ((onesL t.fields).map (leastF ts (leastV ts 4))) ≤ 12 := h1
  omega
theorem around_cnt {w : BookM} (hw : goodM w = 0) {t : TypeM} (ht : Msg w t) (id : Int) (vs : List ValueM) (m : Nat) : cntM (m + 1) (aroundM w t id vs) ≤ 12 + sumL (cntM m) vs := by
  have h1 := ones_cnt hw ht m
  have h2 := around_sum (w := w) (id := id) (vs := vs) (g := cntM m) (ht.rises hw)
  show 1 + sumL (cntM m) ((aroundL w id vs t.fields).map (·.2)) ≤ _
  omega
theorem zip_pairs (l : List (Int × ValueM)) : (l.map (·.1)).zip (l.map (·.2)) = l := by
  induction l with
  | nil => rfl
  | cons p l ih => rw [List.map_cons, List.map_cons, List.zip_cons_cons, ih]
theorem around_pair {w : BookM} {t : TypeM} {id : Int} {vs : List ValueM} (hm : vs.length ≤ 1 ∨ ∀ f, fieldM t id = some f → f.rule = 3) : ∀ {l : List FieldM}, (l.map (·.id)).Pairwise (fun x y => x < y) → ((aroundL w id vs l).map (·.1)).Pairwise (NxtOk t)
  | [], _ => by simp [aroundL]
  | f :: l, h => by
    rw [List.map_cons, List.pairwise_cons] at h
    have hcons : aroundL w id vs (f :: l) = (if f.id = id then vs.map (fun x => (id, x)) else if f.rule = 1 then [(f.id, leastF w (leastV w 4) f)] else []) ++ aroundL w id vs l := by unfold aroundL; rw [List.flatMap_cons]
    rw [hcons, List.map_append, List.pairwise_append]
    refine ⟨?_, around_pair hm h.2, fun a ha b hb => ?_⟩
    · split
      · rw [List.map_map]
        have : ((fun x : Int × ValueM => x.1) ∘ fun x : ValueM => (id, x)) = fun _ => id := rfl
        rw [this]
        rcases hm with hm | hm
        · cases vs with
          | nil => simp
          | cons v vs => 
            have : vs = [] := List.length_eq_zero_iff.1 (by simp at hm; simpa using hm)
            subst this; simp
        · rw [List.pairwise_map]
          exact List.Pairwise.imp (R := fun _ _ => True) (fun _ => ⟨Int.le_refl _, fun _ f hf => hm f hf⟩) (List.pairwise_of_forall (fun _ _ => trivial))
      · split <;> simp
    · obtain ⟨q, hq, rfl⟩ := List.mem_map.1 hb
      obtain ⟨g, hg, e, _⟩ := around_ids hq
      have hlt := h.1 g.id (List.mem_map_of_mem hg)
      have ha' : a = f.id := by
        obtain ⟨p, hp, rfl⟩ := List.mem_map.1 ha
        split at hp
        · rename_i e'
          obtain ⟨x, _, rfl⟩ := List.mem_map.1 hp
          exact e'.symm
        · split at hp
          · rw [List.mem_singleton] at hp; rw [hp]
          · cases hp
      rw [ha', ← e]
      exact ⟨by omega, fun he => by omega⟩
theorem around_typed {w : BookM} (hw : goodM w = 0) {k : Nat} (hk : 4 ≤ k) {t : TypeM} (ht : Msg w t) {f : FieldM} (hf : f ∈ t.fields) {vs : List ValueM} (hne : vs ≠ []) (hm : vs.length ≤ 1 ∨ f.rule = 3) (hv : ∀ x ∈ vs, OneP w (TypedP w k) t f.id x) : TypedP w (k + 1) t (aroundM w t f.id vs) := by
  have hfind := ht.find hw hf
  refine ⟨rfl, rfl, rfl, by simp [aroundM], around_pair (hm.imp id fun h g hg => by rw [hfind] at hg; cases hg; exact h) (ht.rises hw), fun p hp => ?_, lacks_of fun g hg hr => ?_⟩
  · have hp' : p ∈ aroundL w f.id vs t.fields := by
      have : p ∈ ((aroundL w f.id vs t.fields).map (·.1)).zip ((aroundL w f.id vs t.fields).map (·.2)) := hp
      rwa [zip_pairs] at this
    obtain ⟨g, hg, e, h⟩ := around_ids hp'
    rw [← e]
    rcases h with ⟨h1, h2⟩ | ⟨_, _, h2⟩
    · rw [h1]; exact hv _ h2
    · rw [h2]
      exact (fill_one hw ht g hg).mono fun _ h => h.le hk
  · show g.id ∈ (aroundL w f.id vs t.fields).map (·.1)
    refine List.mem_map.2 ?_
    by_cases e : g.id = f.id
    · cases vs with
      | nil => exact absurd rfl hne
      | cons v vs =>
        refine ⟨(f.id, v), List.mem_flatMap.2 ⟨g, hg, ?_⟩, e.symm⟩
        rw [if_pos e]; simp
    · refine ⟨(g.id, leastF w (leastV w 4) g), List.mem_flatMap.2 ⟨g, hg, ?_⟩, rfl⟩
      rw [if_neg e, if_pos hr]; simp
theorem fits_dep_le : ∀ {k : Nat} {v : ValueM}, Fits k v → depM k v ≤ k
  | 0, _, h => h.elim
  | k + 1, v, h => by
    show 1 + maxL (depM k) v.l ≤ k + 1
    have := maxL_le (f := depM k) (m := k) (l := v.l) fun x hx => fits_dep_le (h x hx)
    omega

/-! ### What is read of what one book writes -/
def ReadE (e : Int) : Prop := e = 0 ∨ e = 4 ∨ e = 5 ∨ e = 6
theorem readL_err {r : BookM} {u : TypeM} {enc : ValueM → List UInt8} {rec : FieldM → ByteArray → Int × ValueM} : ∀ {ids : List Int} {l : List ValueM} {prev : Option Int} {st : List Int × List ValueM},
    (∀ p ∈ ids.zip l, ∀ g, fieldM u p.1 = some g → ReadE (wrongOneN r g (bareM (partV enc p.1 p.2)).kind (bareM (partV enc p.1 p.2)).n (bareM (partV enc p.1 p.2)).s 0 0) ∧ (wrongOneN r g (bareM (partV enc p.1 p.2)).kind (bareM (partV enc p.1 p.2)).n (bareM (partV enc p.1 p.2)).s 0 0 = 0 → g.kind = 5 → ReadE (rec g (partV enc p.1 p.2).s).1)) →
    ids.Pairwise (· ≤ ·) → (∀ q, prev = some q → ∀ b ∈ ids, q ≤ b) → ReadE (readL r rec u prev (List.zipWith (partV enc) ids l) st).1
  | [], _, _, st, _, _, _ => by simp [readL, ReadE]
  | _ :: _, [], _, _, _, _, _ => by simp [readL, ReadE]
  | id :: ids, x :: l, prev, st, hall, hp, hpr => by
    rw [List.pairwise_cons] at hp
    have hone := hall (id, x) (by simp)
    simp only at hone
    have hfell : fellB prev (partV enc id x).id = false := by
      cases prev with
      | none => rfl
      | some q => have := hpr q rfl id (by simp); show decide (id < q) = false; simp; omega
    have he : ReadE (stepE r rec u prev (partV enc id x) st) := by
      unfold stepE
      rw [if_neg (by simp [hfell])]
      rw [show (partV enc id x).id = id from rfl]
      cases hf : fieldM u id with
      | none => exact .inl rfl
      | some g =>
        obtain ⟨h1, h2⟩ := hone g hf
        simp only
        split
        · exact h1
        · rename_i hz
          split
          · exact .inr (.inl rfl)
          · split
            · rename_i h5; exact h2 (by simpa using hz) h5
            · exact .inl rfl
    rw [List.zipWith_cons_cons, readL]
    split
    · exact he
    · exact readL_err (fun p hp => hall p (by simp [hp])) hp.2 fun q hq b hb => by cases hq; exact hp.1 b hb
theorem bare_err {w r : BookM} (hw : goodM w = 0) {t : TypeM} (ht : Msg w t) {f : FieldM} (hf : f ∈ t.fields) {x : ValueM} (h : wrongOneN w f x.kind x.n x.s x.ids.length x.l.length = 0) {enc : ValueM → List UInt8} {id : Int} {g : FieldM} (hgk : 1 ≤ g.kind ∧ g.kind ≤ 5) :
    ReadE (wrongOneN r g (bareM (partV enc id x)).kind (bareM (partV enc id x)).n (bareM (partV enc id x)).s 0 0) ∧ (wrongOneN r g (bareM (partV enc id x)).kind (bareM (partV enc id x)).n (bareM (partV enc id x)).s 0 0 = 0 → (bareM (partV enc id x)).kind = kindN g.kind) ∧ (bareM (partV enc id x)).kind = x.kind ∧ (x.kind = 0 → (bareM (partV enc id x)).n = x.n) ∧ kindN f.kind = x.kind := by
  have hkk : ∀ {k n : Int} {s : ByteArray}, wrongOneN r g k n s 0 0 = 0 → k = kindN g.kind := fun {k n s} h => by
    unfold wrongOneN at h
    split at h
    · cases h
    · rename_i hh; exact Decidable.byContradiction hh
  have key : ReadE (wrongOneN r g (bareM (partV enc id x)).kind (bareM (partV enc id x)).n (bareM (partV enc id x)).s 0 0) ∧ kindN f.kind = x.kind := by
    rcases one_cases hw ht hf h with ⟨k5, k3, k0, hn, hxs, hi, hl⟩ | ⟨k3, k1, hn, hxs, hi, hl⟩ | ⟨k5, k2, hn, hxs⟩
    · have e : bareM (partV enc id x) = ⟨0, x.n, ⟨#[]⟩, [], []⟩ := by
        unfold bareM partV
        simp only
        rw [if_neg (by omega), k0]
      rw [e]
      refine ⟨?_, by rw [k0]; unfold kindN; rw [if_neg k3, if_neg k5]⟩
      unfold wrongOneN
      split
      · exact .inr (.inr (.inl rfl))
      · rename_i hk
        have hk' : (0 : Int) = kindN g.kind := Decidable.byContradiction hk
        rw [if_neg (by unfold oneKindB; simp [bytes_toList])]
        split
        · split
          · exact .inr (.inr (.inr rfl))
          · exact .inl rfl
        · split
          · rw [if_neg (by simp only; omega)]; exact .inl rfl
          · split
            · rename_i h3; unfold kindN at hk'; rw [if_pos h3] at hk'; cases hk'
            · split
              · split
                · exact .inl rfl
                · exact .inr (.inr (.inr rfl))
              · exact .inl rfl
    · have e : bareM (partV enc id x) = ⟨1, 0, x.s, [], []⟩ := by
        unfold bareM partV
        simp only
        rw [if_pos k1, if_neg (by omega), k1, hn]
      rw [e]
      refine ⟨?_, by rw [k1]; unfold kindN; rw [if_pos k3]⟩
      unfold wrongOneN
      split
      · exact .inr (.inr (.inl rfl))
      · rename_i hk
        have hk' : (1 : Int) = kindN g.kind := Decidable.byContradiction hk
        have g3 : g.kind = 3 := by
          rcases kindN_cases hgk with ⟨a, e⟩ | ⟨_, e⟩ | ⟨_, _, e⟩ <;> omega
        rw [if_neg (by unfold oneKindB; simp), if_neg (by omega), if_neg (by omega), if_pos g3, if_pos (text_of k3 h)]
        exact .inl rfl
    · have e : bareM (partV enc id x) = ⟨2, 0, ⟨#[]⟩, [], []⟩ := by
        unfold bareM partV
        rw [k2, hn]; rfl
      rw [e]
      refine ⟨?_, by rw [k2]; unfold kindN; rw [if_neg (by omega), if_pos k5]⟩
      unfold wrongOneN
      split
      · exact .inr (.inr (.inl rfl))
      · rename_i hk
        have hk' : (2 : Int) = kindN g.kind := Decidable.byContradiction hk
        have g5 : g.kind = 5 := by
          rcases kindN_cases hgk with ⟨a, e⟩ | ⟨_, e⟩ | ⟨_, _, e⟩ <;> omega
        rw [if_neg (by rw [one2.2 ⟨rfl, rfl⟩]; simp), if_neg (by omega), if_neg (by omega), if_neg (by omega), if_neg (by omega)]
        exact .inl rfl
  exact ⟨key.1, hkk, rfl, fun _ => rfl, key.2⟩
theorem readF_err {ts : BookM} {rec : FieldM → ByteArray → Int × ValueM} {t : TypeM} {s : ByteArray} (h : decE s.data.toList = 0) : (readF ts rec t s).1 = (readL ts rec t none (decL s.data.toList) ([], [])).1 := by
  unfold readF
  rw [if_neg (by simp [h])]
  split
  · rfl
  · rename_i h1; exact (Decidable.byContradiction h1).symm
/-- What is read of a value that another book writes. -/
theorem read_err {w r : BookM} (hw : goodM w = 0) (hr : goodM r = 0) : ∀ {k K : Nat} {t u : TypeM} {v : ValueM}, Msg w t → Msg r u → Fits K v → TypedP w K t v → cntM K v ≤ 400 → depM K v ≤ k + 1 → ReadE (readM r k u ⟨(encV K v).toArray⟩).1
  | _, 0, _, _, _, _, _, _, h, _, _ => h.elim
  | k, K + 1, t, u, v, ht, hu, hfit, hty, hc, hd => by
    obtain ⟨henc, _⟩ := hty.enc hw ht hfit hc
    obtain ⟨h1, h2, h3, h4, h5, h6, h7⟩ := hty
    obtain ⟨_, _, _, hgood, hlong⟩ := henc
    have hd' : 1 + maxL (depM K) v.l ≤ k + 1 := hd
    have hc' : 1 + sumL (cntM K) v.l ≤ 400 := hc
    obtain ⟨d1, d2⟩ := decR_enc hgood hlong
    have e0 : (⟨(encV (K + 1) v).toArray⟩ : ByteArray).data.toList = (partsV (encV K) v).flatMap partB := by
      show (encV (K + 1) v).toArray.toList = _
      rw [List.toList_toArray]; rfl
    rw [readM_eq, readF_err (by rw [e0]; exact d1), e0, d2]
    refine readL_err (fun p hp g hg => ?_) (h5.imp fun h => h.1) fun q hq => by cases hq
    obtain ⟨f, hf, hwr, hrf⟩ := h6 p hp
    have hgm := fieldM_mem hg
    obtain ⟨b1, b2, b3, _, b5⟩ := bare_err (r := r) (enc := encV K) (id := p.1) hw ht (fieldM_mem hf) hwr (hu.field hr hgm).2.1
    refine ⟨b1, fun hz g5 => ?_⟩
    have hk2 : p.2.kind = 2 := by
      rw [← b3, b2 hz]; unfold kindN; rw [if_neg (by omega), if_pos g5]
    have f5 : f.kind = 5 := by
      rcases one_cases hw ht (fieldM_mem hf) hwr with ⟨_, _, e, _⟩ | ⟨_, e, _⟩ | ⟨e, _⟩
      · omega
      · omega
      · exact e
    have hx := (List.of_mem_zip hp).2
    have m1 := maxL_mem (f := depM K) hx
    have m2 := sumL_mem (f := cntM K) hx
    have m3 : 1 ≤ depM K p.2 := by cases K <;> simp [depM]
    rw [show (partV (encV K) p.1 p.2).s = ⟨(encV K p.2).toArray⟩ by unfold partV; rw [if_pos hk2]]
    cases k with
    | zero => omega
    | succ k => exact read_err hw hr (ht.sub hw (fieldM_mem hf) f5) (hu.sub hr hgm g5) (hfit p.2 hx) (hrf f5) (by omega) (by omega)
theorem readL_all {r : BookM} {u : TypeM} {rec : FieldM → ByteArray → Int × ValueM} : ∀ {ps : List PartM} {prev : Option Int} {st : List Int × List ValueM}, (readL r rec u prev ps st).1 = 0 →
    (∀ p ∈ ps, ∀ g, fieldM u p.id = some g → wrongOneN r g (bareM p).kind (bareM p).n (bareM p).s 0 0 = 0 ∧ (g.kind = 5 → (rec g p.s).1 = 0) ∧ (p.id ∈ st.1 → g.rule = 3)) ∧
    ps.Pairwise fun p q => p.id = q.id → ∀ g, fieldM u q.id = some g → g.rule = 3
  | [], _, _, _ => ⟨fun p hp => absurd hp List.not_mem_nil, List.Pairwise.nil⟩
  | p :: ps, prev, st, h => by
    rw [readL] at h
    split at h
    · rename_i hz; exact absurd h hz
    · rename_i hz
      have hz0 : stepE r rec u prev p st = 0 := Decidable.byContradiction hz
      obtain ⟨i1, i2⟩ := readL_all h
      have hp0 : ∀ g, fieldM u p.id = some g → wrongOneN r g (bareM p).kind (bareM p).n (bareM p).s 0 0 = 0 ∧ (g.kind = 5 → (rec g p.s).1 = 0) ∧ (p.id ∈ st.1 → g.rule = 3) := fun g hg => by
        unfold stepE at hz0
        split at hz0
        · cases hz0
        · rw [hg] at hz0
          simp only at hz0
          split at hz0
          · rename_i h1; exact absurd hz0 h1
          · rename_i h1
            split at hz0
            · cases hz0
            · rename_i h2
              refine ⟨by simpa using h1, fun h5 => by rw [if_pos h5] at hz0; exact hz0, fun hm => ?_⟩
              refine Decidable.byContradiction fun hr => h2 ⟨hr, ?_⟩
              rw [List.contains_iff_mem, fieldM_id hg]; exact hm
      have hst : ∀ a ∈ st.1, a ∈ (stepV rec u p st).1 := fun a ha => by
        unfold stepV
        cases fieldM u p.id with
        | none => exact ha
        | some g => exact List.mem_append_left _ ha
      refine ⟨fun q hq g hg => ?_, List.pairwise_cons.2 ⟨fun q hq e g hg => ?_, i2⟩⟩
      · rcases List.mem_cons.1 hq with rfl | hq
        · exact hp0 g hg
        · obtain ⟨a1, a2, a3⟩ := i1 q hq g hg
          exact ⟨a1, a2, fun hm => a3 (hst _ hm)⟩
      · refine (i1 q hq g hg).2.2 ?_
        unfold stepV
        rw [e, hg]
        simp only
        rw [fieldM_id hg]
        exact List.mem_append_right _ (by simp)
/-- What is read wholly: each part is. -/
theorem read_parts {r : BookM} {k K : Nat} {u : TypeM} {v : ValueM} (henc : EncOk (K + 1) v) (h : (readM r k u ⟨(encV (K + 1) v).toArray⟩).1 = 0) :
    (∀ p ∈ partsV (encV K) v, ∀ g, fieldM u p.id = some g → wrongOneN r g (bareM p).kind (bareM p).n (bareM p).s 0 0 = 0 ∧ (g.kind = 5 → (recM r k g p.s).1 = 0)) ∧ (partsV (encV K) v).Pairwise fun p q => p.id = q.id → ∀ g, fieldM u q.id = some g → g.rule = 3 := by
  obtain ⟨_, _, _, hgood, hlong⟩ := henc
  obtain ⟨d1, d2⟩ := decR_enc hgood hlong
  have e0 : (⟨(encV (K + 1) v).toArray⟩ : ByteArray).data.toList = (partsV (encV K) v).flatMap partB := by
    show (encV (K + 1) v).toArray.toList = _
    rw [List.toList_toArray]; rfl
  rw [readM_eq, readF_err (by rw [e0]; exact d1), e0, d2] at h
  obtain ⟨h1, h2⟩ := readL_all h
  exact ⟨fun p hp g hg => ⟨(h1 p hp g hg).1, (h1 p hp g hg).2.1⟩, h2⟩
theorem parts_around {w : BookM} {t : TypeM} {id : Int} {vs : List ValueM} (enc : ValueM → List UInt8) : partsV enc (aroundM w t id vs) = (aroundL w id vs t.fields).map fun q => partV enc q.1 q.2 := by
  unfold partsV aroundM
  simp only
  generalize aroundL w id vs t.fields = l
  induction l with
  | nil => rfl
  | cons p l ih => rw [List.map_cons, List.map_cons, List.zipWith_cons_cons, ih, List.map_cons]
theorem around_has {w : BookM} {id : Int} {vs : List ValueM} {f : FieldM} {l : List FieldM} (hf : f ∈ l) (e : f.id = id) : (vs.map fun x => (id, x)).Sublist (aroundL w id vs l) := by
  obtain ⟨a, b, rfl⟩ := List.append_of_mem hf
  unfold aroundL
  rw [List.flatMap_append, List.flatMap_cons, if_pos e]
  exact (List.sublist_append_left _ _).trans (List.sublist_append_right _ _)
end Go.Proofs.YtnppgeiompimaaaGreatDoor

namespace Go.Proofs.YtnppgeiompimaaaGreatDoor
set_option linter.unusedSimpArgs false
set_option linter.unusedVariables false
open Go.RowKit

theorem around_cnt_all {w : BookM} (hw : goodM w = 0) {t : TypeM} (ht : Msg w t) (id : Int) {vs : List ValueM} {d : Nat} (h : ∀ m, sumL (cntM m) vs ≤ d) (m : Nat) : cntM m (aroundM w t id vs) ≤ 12 + d := by
  cases m with
  | zero => show 1 ≤ _; omega
  | succ m => have := around_cnt hw ht id vs m; have := h m; omega
theorem least_fits {w : BookM} (hw : goodM w = 0) {t : TypeM} (ht : Msg w t) {f : FieldM} (hf : f ∈ t.fields) {K : Nat} (hK : 5 ≤ K) : Fits K (leastF w (leastV w 4) f) := by
  by_cases h5 : f.kind = 5
  · have e : leastF w (leastV w 4) f = leastV w 4 (typeM w f) := by unfold leastF; rw [if_neg (by omega), if_pos h5]; rfl
    rw [e]
    have hm := ht.sub hw hf h5
    exact ((least_typed hw hm (hm.le hw)).fits hw hm).le hK
  · have e : (leastF w (leastV w 4) f).l = [] := by unfold leastF; split; rfl; first | rfl | rw [if_neg h5]
    cases K with
    | zero => omega
    | succ K => intro x hx; rw [e] at hx; cases hx
theorem around_fits {w : BookM} (hw : goodM w = 0) {t : TypeM} (ht : Msg w t) (id : Int) {vs : List ValueM} {K : Nat} (hK : 5 ≤ K) (h : ∀ x ∈ vs, Fits K x) : Fits (K + 1) (aroundM w t id vs) := by
  intro x hx
  obtain ⟨q, hq, rfl⟩ := List.mem_map.1 (show x ∈ (aroundL w id vs t.fields).map (·.2) from hx)
  obtain ⟨f, hf, _, h1⟩ := around_ids hq
  rcases h1 with ⟨_, h1⟩ | ⟨_, _, h1⟩
  · exact h _ h1
  · rw [h1]; exact least_fits hw ht hf hK
/-- A value of the writer's that the reader refuses. -/
structure Bad (w r : BookM) (K c : Nat) (p : PairM) (v : ValueM) : Prop where
  typed : TypedP w K p.a v
  fits : Fits K v
  cnt : ∀ m, cntM m v ≤ c
  not : ∀ k, (readM r k p.b ⟨(encV K v).toArray⟩).1 ≠ 0
theorem mem_part_around {w : BookM} {t : TypeM} {f : FieldM} (hf : f ∈ t.fields) {vs : List ValueM} {x : ValueM} (hx : x ∈ vs) (enc : ValueM → List UInt8) : partV enc f.id x ∈ partsV enc (aroundM w t f.id vs) := by
  rw [parts_around]
  exact List.mem_map.2 ⟨(f.id, x), (around_has hf rfl).subset (List.mem_map_of_mem hx), rfl⟩
theorem head_flaw {w r : BookM} {p : PairM} {x : FlawM} {m : List FlawM} (h : pairFlaws w r p = x :: m) : ∃ f ∈ p.a.fields, ∃ g, fieldM p.b f.id = some g ∧ x.id = f.id ∧ x.why ∈ whysM w r f g := by
  have hx : x ∈ pairFlaws w r p := by rw [h]; simp
  unfold pairFlaws at hx
  obtain ⟨f, hf, hx⟩ := List.mem_flatMap.1 hx
  refine ⟨f, hf, ?_⟩
  cases hg : fieldM p.b f.id with
  | none => rw [hg] at hx; cases hx
  | some g =>
    rw [hg] at hx
    obtain ⟨y, hy, e⟩ := List.mem_map.1 hx
    rw [← e]
    exact ⟨g, rfl, rfl, hy⟩
theorem whys_cases {w r : BookM} {f g : FieldM} {y : Int} (h : y ∈ whysM w r f g) : (y = 1 ∧ kindN f.kind ≠ kindN g.kind) ∨ (y = 2 ∧ f.rule = 3 ∧ g.rule ≠ 3) ∨ (y = 3 ∧ ∃ n, strangeM w r f g = some n) := by
  unfold whysM at h
  rcases List.mem_append.1 h with h | h
  · rcases List.mem_append.1 h with h | h
    · split at h
      · rename_i hh; rw [List.mem_singleton] at h; exact .inl ⟨h, hh⟩
      · cases h
    · split at h
      · rename_i hh; rw [List.mem_singleton] at h; exact .inr (.inl ⟨h, hh⟩)
      · cases h
  · split at h
    · rename_i hh
      rw [List.mem_singleton] at h
      refine .inr (.inr ⟨h, ?_⟩)
      cases e : strangeM w r f g with
      | none => rw [e] at hh; cases hh
      | some n => exact ⟨n, rfl⟩
    · cases h
theorem strange_some {w r : BookM} {f g : FieldM} {n : Int} (h : strangeM w r f g = some n) : kindN f.kind = 0 ∧ kindN g.kind = 0 ∧ n ∈ samplesL w f ∧ hasB r g n = false := by
  unfold strangeM at h
  split at h
  · cases h
  · rename_i hk
    have h1 := List.mem_of_find?_eq_some h
    have h2 := List.find?_some h
    exact ⟨Decidable.byContradiction fun e => hk (.inl e), Decidable.byContradiction fun e => hk (.inr e), h1, by simpa using h2⟩
theorem least_kind {w : BookM} {f : FieldM} (hw : goodM w = 0) {t : TypeM} (ht : Msg w t) (hf : f ∈ t.fields) : (leastF w (leastV w 4) f).kind = kindN f.kind := by
  unfold leastF
  split
  · rename_i h4; unfold kindN; rw [if_neg (by omega), if_neg (by omega)]
  · split
    · rename_i h5
      have := (least_shape ((ht.sub hw hf h5).le hw)).1
      refine Eq.trans (b := 2) this ?_
      unfold kindN; rw [if_neg (by omega), if_pos h5]
    · rfl
theorem bad_here {w r : BookM} (hw : goodM w = 0) (hr : goodM r = 0) {p : PairM} (ha : Msg w p.a) (hb : Msg r p.b) {x : FlawM} {m : List FlawM} (h : pairFlaws w r p = x :: m) : Bad w r 6 36 p (aroundM w p.a x.id (unreadM w r p x)) := by
  obtain ⟨f, hf, g, hg, hid, hy⟩ := head_flaw h
  have hfa := ha.find hw hf
  have hgm := fieldM_mem hg
  have hgk := (hb.field hr hgm).2.1
  have hl : leastId w p.a x.id = leastF w (leastV w 4) f := by unfold leastId; rw [hid, hfa]
  have hone := fill_one hw ha f hf
  have h5 : ∀ y, OneP w (TypedP w 4) p.a f.id y → OneP w (TypedP w 5) p.a f.id y := fun y hy => hy.mono fun _ h => h.le (by omega)
  have hlc := fill_cnt hw ha
  have hlf : Fits 5 (leastF w (leastV w 4) f) := least_fits hw ha hf (Nat.le_refl _)
  have main : ∀ vs : List ValueM, vs ≠ [] → (vs.length ≤ 1 ∨ f.rule = 3) → (∀ y ∈ vs, OneP w (TypedP w 5) p.a f.id y ∧ Fits 5 y) → (∀ m, sumL (cntM m) vs ≤ 24) →
      ((∃ y ∈ vs, wrongOneN r g (bareM (partV (encV 5) f.id y)).kind (bareM (partV (encV 5) f.id y)).n (bareM (partV (encV 5) f.id y)).s 0 0 ≠ 0) ∨ (∃ y z, vs = [y, z] ∧ g.rule ≠ 3)) → Bad w r 6 36 p (aroundM w p.a f.id vs) := by
    intro vs hne hlen hvs hcnt hbad
    have ht := around_typed hw (k := 5) (by omega) ha hf hne hlen fun y hy => (hvs y hy).1
    have hfit := around_fits hw ha f.id (Nat.le_refl 5) fun y hy => (hvs y hy).2
    have hc := around_cnt_all hw ha f.id hcnt
    refine ⟨ht, hfit, fun m => hc m, fun k hz => ?_⟩
    have henc := (ht.enc hw ha hfit (by have := hc (5 + 1); omega)).1
    obtain ⟨z1, z2⟩ := read_parts henc hz
    rcases hbad with ⟨y, hy, hy2⟩ | ⟨y, z, e, hr3⟩
    · exact hy2 (z1 _ (mem_part_around hf hy _) g hg).1
    · subst e
      rw [parts_around] at z2
      have hs := ((around_has (w := w) (vs := [y, z]) hf rfl).map fun q : Int × ValueM => partV (encV 5) q.1 q.2)
      have := z2.sublist hs
      simp only [List.map_cons, List.map_nil, List.pairwise_cons] at this
      exact hr3 (this.1 (partV (encV 5) f.id z) List.mem_cons_self rfl g hg)
  rw [hid]
  have hwrong1 : ∀ {k n : Int} {s : ByteArray}, k ≠ kindN g.kind → wrongOneN r g k n s 0 0 ≠ 0 := fun hk => by unfold wrongOneN; rw [if_pos hk]; omega
  rcases whys_cases hy with ⟨e, hk⟩ | ⟨e, hk1, hk2⟩ | ⟨e, n, hn⟩
  · have hu : unreadM w r p x = [leastF w (leastV w 4) f] := by unfold unreadM; rw [if_neg (by omega), if_neg (by omega), hl]
    rw [hu]
    refine main _ (by simp) (.inl (by simp)) (fun y hy => ?_) (fun m => by simp only [sumL]; have := hlc m f hf; omega) (.inl ⟨leastF w (leastV w 4) f, List.mem_cons_self, hwrong1 ?_⟩)
    · rw [List.mem_singleton] at hy; subst hy; exact ⟨h5 _ hone, hlf⟩
    · show (leastF w (leastV w 4) f).kind ≠ _
      rw [least_kind hw ha hf]; exact hk
  · have hu : unreadM w r p x = [leastF w (leastV w 4) f, leastF w (leastV w 4) f] := by unfold unreadM; rw [if_pos e, hl]
    rw [hu]
    refine main _ (by simp) (.inr hk1) (fun y hy => ?_) (fun m => by simp only [sumL]; have := hlc m f hf; omega) (.inr ⟨_, _, rfl, hk2⟩)
    have : y = leastF w (leastV w 4) f := by simpa using hy
    subst this; exact ⟨h5 _ hone, hlf⟩
  · obtain ⟨n1, n2, n3, n4⟩ := strange_some hn
    have hu : unreadM w r p x = [⟨0, n, ⟨#[]⟩, [], []⟩] := by
      unfold unreadM
      rw [if_neg (by omega), if_pos e, hid, hfa, hg]
      simp only [Option.getD_some]
      rw [hn]; rfl
    rw [hu]
    have hfk := (ha.field hw hf).2.1
    have hk5 : f.kind ≠ 5 ∧ f.kind ≠ 3 := by
      rcases kindN_cases hfk with ⟨_, e⟩ | ⟨_, e⟩ | ⟨a, b, _⟩
      · omega
      · omega
      · exact ⟨b, a⟩
    refine main _ (by simp) (.inl (by simp)) (fun y hy => ?_) (fun m => by simp only [sumL]; rw [cnt_leaf rfl]; omega) (.inl ⟨⟨0, n, ⟨#[]⟩, [], []⟩, List.mem_cons_self, ?_⟩)
    · rw [List.mem_singleton] at hy
      subst hy
      refine ⟨⟨f, hfa, ?_, fun h => absurd h hk5.1⟩, fun z hz => by cases hz⟩
      unfold wrongOneN
      rw [if_neg (by simp [n1]), if_neg (by unfold oneKindB; simp [bytes_toList])]
      unfold samplesL at n3
      by_cases f1 : f.kind = 1
      · rw [if_pos f1] at n3 ⊢
        have : n = 0 ∨ n = 1 := by simpa using n3
        rw [if_neg]
        show ¬ (n ≠ 0 ∧ n ≠ 1)
        omega
      · rw [if_neg f1] at n3 ⊢
        by_cases f4 : f.kind = 4
        · rw [if_pos f4] at n3
          rw [if_neg (by omega), if_neg (by omega), if_pos f4]
          obtain ⟨i, hi, e⟩ := List.mem_map.1 n3
          refine if_pos ?_
          rw [List.any_eq_true]
          exact ⟨i, hi, by simp [e]⟩
        · rw [if_neg f4] at n3
          have : 0 ≤ n ∧ n ≤ 6 := by simp at n3; omega
          rw [if_pos (by omega), if_neg (by simp only; omega)]
    · show wrongOneN r g 0 n _ 0 0 ≠ 0
      have e0 : (bareM (partV (encV 5) f.id ⟨0, n, ⟨#[]⟩, [], []⟩)).s = ⟨#[]⟩ := rfl
      rw [e0]
      unfold wrongOneN
      rw [if_neg (by simp [n2]), if_neg (by unfold oneKindB; simp [bytes_toList])]
      unfold hasB at n4
      by_cases g1 : g.kind = 1
      · rw [if_pos g1] at n4 ⊢
        have : n ≠ 0 ∧ n ≠ 1 := by simpa using n4
        rw [if_pos this]; omega
      · rw [if_neg g1] at n4 ⊢
        by_cases g4 : g.kind = 4
        · rw [if_pos g4] at n4
          rw [if_neg (by omega), if_neg (by omega), if_pos g4]
          have : ¬ (((findM r g.type).getD TypeM.zero).items.any fun i => i.n == n) = true := by
            rw [show ((findM r g.type).getD TypeM.zero) = typeM r g from rfl, n4]; simp
          rw [if_neg this]; omega
        · rw [if_neg g4] at n4; cases n4
theorem bad_out {w r : BookM} (hw : goodM w = 0) (hr : goodM r = 0) {p q : PairM} {f g : FieldM} (ha : Msg w q.a) (hb : Msg r q.b) (hf : f ∈ q.a.fields) (hg : fieldM q.b f.id = some g) (f5 : f.kind = 5) (g5 : g.kind = 5) (ea : p.a = typeM w f) (eb : p.b = typeM r g) {K c : Nat} (hK : 6 ≤ K) (hc : c + 12 ≤ 400) {v : ValueM} (h : Bad w r K c p v) :
    Bad w r (K + 1) (c + 12) q (aroundM w q.a f.id [v]) := by
  have hfa := ha.find hw hf
  have htv := h.typed
  have hone : OneP w (TypedP w K) q.a f.id v := by
    refine ⟨f, hfa, ?_, fun _ => by rw [← show p.a = (findM w f.type).getD TypeM.zero from ea]; exact htv⟩
    obtain ⟨k2, hn, hs⟩ : v.kind = 2 ∧ v.n = 0 ∧ v.s = ⟨#[]⟩ := by
      cases K with
      | zero => exact htv.elim
      | succ K => exact ⟨htv.1, htv.2.1, htv.2.2.1⟩
    unfold wrongOneN
    rw [k2, hn, hs, if_neg (by unfold kindN; rw [if_neg (by omega), if_pos f5]; simp), if_neg (by rw [one2.2 ⟨rfl, rfl⟩]; simp), if_neg (by omega), if_neg (by omega), if_neg (by omega), if_neg (by omega)]
  have ht := around_typed hw (k := K) (by omega) ha hf (vs := [v]) (by simp) (.inl (by simp)) fun y hy => by rw [List.mem_singleton] at hy; subst hy; exact hone
  have hfit := around_fits hw ha f.id (K := K) (by omega) (vs := [v]) fun y hy => by rw [List.mem_singleton] at hy; subst hy; exact h.fits
  have hcc := around_cnt_all hw ha f.id (vs := [v]) (d := c) fun m => by simp only [sumL]; have := h.cnt m; omega
  refine ⟨ht, hfit, fun m => by have := hcc m; omega, fun k hz => ?_⟩
  have henc := (ht.enc hw ha hfit (by have := hcc (K + 1); omega)).1
  obtain ⟨z1, _⟩ := read_parts henc hz
  obtain ⟨y1, y2⟩ := z1 _ (mem_part_around hf (vs := [v]) (x := v) List.mem_cons_self _) g hg
  have y3 := y2 g5
  have k2 : v.kind = 2 := by
    cases K with
    | zero => exact htv.elim
    | succ K => exact htv.1
  rw [show (partV (encV K) f.id v).s = ⟨(encV K v).toArray⟩ by unfold partV; rw [if_pos k2]] at y3
  cases k with
  | zero => cases y3
  | succ k =>
    have := h.not k
    rw [eb] at this
    exact this y3
theorem bad_outward {w r : BookM} (hw : goodM w = 0) (hr : goodM r = 0) {first : PairM} {l : List PairM} (hl : Reach w r first l) : ∀ {n i K c : Nat} {p : PairM} {v : ValueM}, i < n → l[i]? = some p → 6 ≤ K → c + 12 * i ≤ 400 → Bad w r K c p v →
    ∃ K' c', K' ≤ K + i ∧ c' ≤ 400 ∧ Bad w r K' c' first (outwardM w l n i v)
  | 0, _, _, _, _, _, h, _, _, _, _ => by omega
  | n + 1, i, K, c, p, v, hn, hp, hK, hc, h => by
    unfold outwardM
    by_cases h0 : i = 0
    · subst h0
      rw [if_pos rfl]
      rw [hl.first] at hp
      cases hp
      exact ⟨K, c, by omega, by omega, h⟩
    · obtain ⟨hlt, q, f, g, hq, hf, hg, f5, g5, ea, eb, eid⟩ := hl.led i p hp (by omega)
      obtain ⟨ma, mb⟩ := hl.msg q (List.mem_of_getElem? hq)
      rw [if_neg h0, hp]
      simp only
      rw [hq]
      simp only
      rw [eid]
      obtain ⟨K', c', a1, a2, a3⟩ := bad_outward hw hr hl (n := n) (i := p.src) (K := K + 1) (c := c + 12) (by omega) hq (by omega) (by omega) (bad_out hw hr ma mb hf hg f5 g5 ea eb hK (by omega) h)
      exact ⟨K', c', by omega, a2, a3⟩
/-- Where there is a flaw, there is what cannot be read. -/
theorem witness_bad {w r : BookM} (hw : goodM w = 0) (hr : goodM r = 0) {first : PairM} {l : List PairM} (hl : Reach w r first l) : ∀ {m : List PairM} {i : Nat} {v : ValueM}, (∀ j, m[j]? = l[i + j]?) → witnessIn w r l m i = some v → ∃ K c, K ≤ 22 ∧ c ≤ 400 ∧ Bad w r K c first v
  | [], _, _, _, h => by cases h
  | p :: m, i, v, hm, h => by
    unfold witnessIn at h
    split at h
    · exact witness_bad hw hr hl (m := m) (i := i + 1) (fun j => by have := hm (j + 1); rw [List.getElem?_cons_succ] at this; rw [this]; congr 1; omega) h
    · rename_i x y hx
      have hp : l[i]? = some p := by have := hm 0; simpa using this.symm
      have hi := (List.getElem?_eq_some_iff.1 hp).1
      have := hl.len hw hr
      obtain ⟨ma, mb⟩ := hl.msg p (List.mem_of_getElem? hp)
      obtain ⟨K, c, a1, a2, a3⟩ := bad_outward hw hr hl (n := 17) (i := i) (by omega) hp (Nat.le_refl _) (by omega) (bad_here hw hr ma mb hx)
      cases h
      exact ⟨K, c, by omega, a2, a3⟩
theorem witness_none {w r : BookM} {l : List PairM} : ∀ {m : List PairM} {i : Nat}, witnessIn w r l m i = none ↔ ∀ p ∈ m, pairFlaws w r p = []
  | [], _ => by simp [witnessIn]
  | p :: m, i => by
    unfold witnessIn
    split
    · rename_i h
      rw [witness_none]
      simp [h]
    · rename_i x y h
      constructor
      · intro hh; cases hh
      · intro hh; have := hh p (by simp); rw [h] at this; cases this
theorem Bad.read {w r : BookM} (hw : goodM w = 0) (hr : goodM r = 0) {K c : Nat} {p : PairM} {v : ValueM} (h : Bad w r K c p v) (ha : Msg w p.a) (hb : Msg r p.b) (hK : K ≤ 24) (hc : c ≤ 400) :
    (readM r 23 p.b ⟨(encV K v).toArray⟩).1 = 4 ∨ (readM r 23 p.b ⟨(encV K v).toArray⟩).1 = 5 ∨ (readM r 23 p.b ⟨(encV K v).toArray⟩).1 = 6 := by
  rcases read_err hw hr (k := 23) ha hb h.fits h.typed (by have := h.cnt K; omega) (by have := fits_dep_le h.fits; omega) with e | e
  · exact absurd e (h.not 23)
  · exact e
end Go.Proofs.YtnppgeiompimaaaGreatDoor

