import Derived.Test.YtidcagcdaanijaaDoorH11
namespace Go.Proofs.YtidcagcdaanijaaDoor
set_option linter.unusedSimpArgs false
set_option linter.unusedVariables false
set_option linter.unusedSimpArgs false
set_option linter.unusedVariables false
open Go.RowKit

/-! What Decode makes of bytes, and what a value of a type is: plain functions, nothing of the program. -/
theorem fieldM_id {t : TypeM} {id : Int} {f : FieldM} (h : fieldM t id = some f) : f.id = id := by
  have := List.find?_some h
  simpa using this
theorem fieldM_mem {t : TypeM} {id : Int} {f : FieldM} (h : fieldM t id = some f) : f ∈ t.fields := List.mem_of_find?_eq_some h
/-- A message of a good book. -/
def Msg (ts : BookM) (t : TypeM) : Prop := ∃ name, findM ts name = some t ∧ t.enum = false
theorem Msg.good {ts : BookM} (hg : goodM ts = 0) {t : TypeM} (h : Msg ts t) : GoodT ts t := by
  obtain ⟨name, hf, _⟩ := h
  exact (goodM_out hg).2 t (findM_mem hf)
theorem Msg.field {ts : BookM} (hg : goodM ts = 0) {t : TypeM} (h : Msg ts t) {f : FieldM} (hf : f ∈ t.fields) : goodFieldM ts f = true ∧ (1 ≤ f.kind ∧ f.kind ≤ 5) ∧ 1 ≤ f.id ∧ f.id ≤ 30 := by
  have g := h.good hg
  obtain ⟨_, _, he⟩ := h
  obtain ⟨_, _, h3, _, h5⟩ := g.msg he
  have hk := (goodField_out (h3 f hf)).2
  have hi := (risingL_out (goodIds_out h5).1).2 f.id (List.mem_map_of_mem hf)
  exact ⟨h3 f hf, hk, hi⟩
theorem Msg.rises {ts : BookM} (hg : goodM ts = 0) {t : TypeM} (h : Msg ts t) : (t.fields.map (·.id)).Pairwise (fun x y => x < y) := by
  have g := h.good hg
  obtain ⟨_, _, he⟩ := h
  obtain ⟨_, _, _, _, h5⟩ := g.msg he
  exact (risingL_out (goodIds_out h5).1).1
theorem Msg.len {ts : BookM} (hg : goodM ts = 0) {t : TypeM} (h : Msg ts t) : t.fields.length ≤ 5 := by
  have g := h.good hg
  obtain ⟨_, _, he⟩ := h
  exact (g.msg he).2.1
theorem Msg.sub {ts : BookM} (hg : goodM ts = 0) {t : TypeM} (h : Msg ts t) {f : FieldM} (hf : f ∈ t.fields) (h5 : f.kind = 5) : Msg ts ((findM ts f.type).getD TypeM.zero) := by
  obtain ⟨u, hu, hue⟩ := good_type (h.field hg hf).1 (.inr h5)
  rw [hu]
  exact ⟨f.type, hu, by rw [show (some u).getD TypeM.zero = u from rfl, hue, h5]; rfl⟩
theorem Msg.enum {ts : BookM} (hg : goodM ts = 0) {t : TypeM} (h : Msg ts t) {f : FieldM} (hf : f ∈ t.fields) (h4 : f.kind = 4) : 1 ≤ ((findM ts f.type).getD TypeM.zero).items.length ∧ ∀ i ∈ ((findM ts f.type).getD TypeM.zero).items, -1099511627776 ≤ i.n ∧ i.n ≤ 1099511627776 := by
  obtain ⟨u, hu, hue⟩ := good_type (h.field hg hf).1 (.inl h4)
  have gu := (goodM_out hg).2 u (findM_mem hu)
  rw [hu]
  have he : u.enum = true := by rw [hue, h4]; rfl
  obtain ⟨_, _, h1, _, _, h6⟩ := gu.enum he
  exact ⟨h1, fun i hi => (risingL_out h6).2 i.n (List.mem_map_of_mem hi)⟩
theorem find_of_rises : ∀ {l : List FieldM} {f : FieldM}, (l.map (·.id)).Pairwise (fun x y => x < y) → f ∈ l → l.find? (fun g => g.id == f.id) = some f
  | [], _, _, h => absurd h List.not_mem_nil
  | a :: r, f, hp, h => by
    rw [List.map_cons, List.pairwise_cons] at hp
    rcases List.mem_cons.1 h with rfl | h
    · rw [List.find?_cons_of_pos (by simp)]
    · have hlt := hp.1 f.id (List.mem_map_of_mem h)
      rw [List.find?_cons_of_neg (by simp; omega)]
      exact find_of_rises hp.2 h
theorem Msg.find {ts : BookM} (hg : goodM ts = 0) {t : TypeM} (h : Msg ts t) {f : FieldM} (hf : f ∈ t.fields) : fieldM t f.id = some f := find_of_rises (h.rises hg) hf

/-- How an id may stand behind another one. -/
def NxtOk (t : TypeM) (a b : Int) : Prop := a ≤ b ∧ (a = b → ∀ f, fieldM t b = some f → f.rule = 3)
theorem NxtOk.trans {t : TypeM} {a b c : Int} (h : NxtOk t a b) (k : NxtOk t b c) : NxtOk t a c := ⟨Int.le_trans h.1 k.1, fun e => k.2 (by have := h.1; have := k.1; omega)⟩
/-- One of a field, by its id. -/
def OneP (ts : BookM) (rec : TypeM → ValueM → Prop) (t : TypeM) (id : Int) (x : ValueM) : Prop :=
  ∃ f, fieldM t id = some f ∧ wrongOneN ts f x.kind x.n x.s x.ids.length x.l.length = 0 ∧ (f.kind = 5 → rec ((findM ts f.type).getD TypeM.zero) x)
/-- One of a type. -/
def TypedP (ts : BookM) : Nat → TypeM → ValueM → Prop
  | 0, _, _ => False
  | k + 1, t, v => v.kind = 2 ∧ v.n = 0 ∧ v.s = ⟨#[]⟩ ∧ v.l.length = v.ids.length ∧ v.ids.Pairwise (NxtOk t) ∧ (∀ p ∈ v.ids.zip v.l, OneP ts (TypedP ts k) t p.1 p.2) ∧ lacksB t v.ids = false
theorem OneP.mono {ts : BookM} {r r' : TypeM → ValueM → Prop} {t : TypeM} {id : Int} {x : ValueM} (h : OneP ts r t id x) (hr : ∀ u, r u x → r' u x) : OneP ts r' t id x := by
  obtain ⟨f, h1, h2, h3⟩ := h
  exact ⟨f, h1, h2, fun h5 => hr _ (h3 h5)⟩
theorem TypedP.succ {ts : BookM} : ∀ {k : Nat} {t : TypeM} {v : ValueM}, TypedP ts k t v → TypedP ts (k + 1) t v
  | 0, _, _, h => h.elim
  | _ + 1, _, _, ⟨h1, h2, h3, h4, h5, h6, h7⟩ => ⟨h1, h2, h3, h4, h5, fun p hp => (h6 p hp).mono fun _ h => h.succ, h7⟩
theorem TypedP.le {ts : BookM} {k m : Nat} {t : TypeM} {v : ValueM} (h : TypedP ts k t v) (hm : k ≤ m) : TypedP ts m t v := by
  obtain ⟨d, rfl⟩ := Nat.exists_eq_add_of_le hm
  induction d with
  | zero => exact h
  | succ d ih => exact (ih (by omega)).succ
theorem firstE_zero {p : Nat → Int} : ∀ {n i : Nat}, firstE p i n = 0 ↔ ∀ j, i ≤ j → j < i + n → p j = 0
  | 0, i => by
    rw [firstE]
    exact ⟨fun _ j h1 h2 => by omega, fun _ => rfl⟩
  | n + 1, i => by
    rw [firstE]
    by_cases h : p i = 0
    · rw [if_neg (by simp [h]), firstE_zero]
      refine ⟨fun H j h1 h2 => ?_, fun H j h1 h2 => H j (by omega) (by omega)⟩
      by_cases e : j = i
      · rw [e]; exact h
      · exact H j (by omega) (by omega)
    · rw [if_pos (by simpa using h)]
      exact ⟨fun e => absurd e h, fun H => absurd (H i (Nat.le_refl _) (by omega)) h⟩
theorem one2 {n : Int} {s : ByteArray} {ni nl : Nat} : oneKindB 2 n s ni nl = true ↔ n = 0 ∧ s = ⟨#[]⟩ := by
  unfold oneKindB
  rw [← isEmpty_iff]
  simp
theorem order_zero {t : TypeM} {ids : List Int} {i : Nat} (hi : i < ids.length) {f : FieldM} (hf : fieldM t ids[i] = some f) : orderN f (ids.take i) = 0 ↔ (∀ h : 0 < i, NxtOk t (ids[i - 1]'(by omega)) ids[i]) := by
  have hid := fieldM_id hf
  have hl : (ids.take i).length = i := by rw [List.length_take]; omega
  unfold orderN
  rw [hl]
  by_cases h0 : i = 0
  · rw [if_pos h0]
    exact ⟨fun _ h => by omega, fun _ => rfl⟩
  · rw [if_neg h0]
    have hg : (ids.take i).getD (i - 1) 0 = ids[i - 1]'(by omega) := by
      rw [List.getD_eq_getElem?_getD, List.getElem?_take, if_pos (by omega), List.getElem?_eq_getElem (by omega)]; rfl
    rw [hg, hid]
    unfold NxtOk
    constructor
    · intro H _
      split at H
      · cases H
      · rename_i h1
        split at H
        · cases H
        · rename_i h2
          refine ⟨by omega, fun e g hgf => ?_⟩
          rw [hf] at hgf
          cases hgf
          exact Decidable.byContradiction fun hr => h2 ⟨e, hr⟩
    · intro H
      obtain ⟨h1, h2⟩ := H (by omega)
      rw [if_neg (by omega), if_neg]
      rintro ⟨e, hr⟩
      exact hr (h2 e f hf)
theorem zip_get {ids : List Int} {l : List ValueM} (hl : l.length = ids.length) {P : Int → ValueM → Prop} : (∀ p ∈ ids.zip l, P p.1 p.2) ↔ ∀ i (h : i < ids.length), P ids[i] (l[i]'(by omega)) := by
  constructor
  · intro H i h
    refine H (ids[i], l[i]'(by omega)) ?_
    have : (ids.zip l)[i]? = some (ids[i], l[i]'(by omega)) := by rw [List.getElem?_zip_eq_some]; exact ⟨by simp, by simp⟩
    exact List.mem_of_getElem? this
  · intro H p hp
    obtain ⟨i, hi, rfl⟩ := List.getElem_of_mem hp
    rw [List.getElem_zip]
    exact H i (by rw [List.length_zip] at hi; omega)
theorem wrongAt_zero {ts : BookM} {rec : TypeM → ValueM → Int} {t : TypeM} {v : ValueM} (hl : v.l.length = v.ids.length) {i : Nat} (hi : i < v.ids.length) : wrongAt ts rec t v i = 0 ↔ ∃ f, fieldM t v.ids[i] = some f ∧ orderN f (v.ids.take i) = 0 ∧ wrongOneN ts f (v.l[i]'(by omega)).kind (v.l[i]'(by omega)).n (v.l[i]'(by omega)).s (v.l[i]'(by omega)).ids.length (v.l[i]'(by omega)).l.length = 0 ∧ (f.kind = 5 → rec ((findM ts f.type).getD TypeM.zero) (v.l[i]'(by omega)) = 0) := by
  unfold wrongAt
  rw [show v.ids.getD i 0 = v.ids[i] by simp [List.getD, hi], show v.l.getD i ValueM.zero = v.l[i]'(by omega) by simp [List.getD, show i < v.l.length by omega]]
  cases hf : fieldM t v.ids[i] with
  | none => simp
  | some f =>
    simp only [Option.isSome_some, Bool.true_eq_false, if_false, Option.getD_some]
    constructor
    · intro H
      refine ⟨f, rfl, ?_⟩
      split at H
      · rename_i h; exact absurd H h
      · rename_i h1
        split at H
        · rename_i h; exact absurd H h
        · rename_i h2
          refine ⟨by simpa using h1, by simpa using h2, fun h5 => ?_⟩
          rw [if_neg (by simp [h5])] at H
          exact H
    · rintro ⟨g, hg, h1, h2, h3⟩
      cases hg
      rw [if_neg (by simp [h1]), if_neg (by simp [h2])]
      by_cases h5 : f.kind = 5
      · rw [if_neg (by simp [h5])]; exact h3 h5
      · rw [if_pos h5]
theorem wrong_typed {ts : BookM} : ∀ {k : Nat} {t : TypeM} {v : ValueM}, Fits k v → wrongM ts k t v = 0 → TypedP ts k t v
  | 0, _, _, h, _ => h.elim
  | k + 1, t, v, hfit, h => by
    rw [wrongM] at h
    split at h
    · cases h
    · rename_i hk
      have hk2 : v.kind = 2 := Decidable.byContradiction hk
      split at h
      · cases h
      · rename_i hl
        have hlen : v.l.length = v.ids.length := Decidable.byContradiction fun e => hl (.inl e)
        have hone : oneKindB v.kind v.n v.s v.ids.length v.l.length = true := by
          cases e : oneKindB v.kind v.n v.s v.ids.length v.l.length
          · exact absurd (.inr e) hl
          · rfl
        rw [hk2] at hone
        obtain ⟨hn, hs⟩ := one2.1 hone
        split at h
        · rename_i hf; exact absurd h hf
        · rename_i hf
          have hf0 := firstE_zero.1 (Decidable.byContradiction hf)
          have hlk : lacksB t v.ids = false := by
            cases e : lacksB t v.ids
            · rfl
            · rw [if_pos e] at h; cases h
          have hat : ∀ i (hi : i < v.ids.length), _ := fun i hi => (wrongAt_zero hlen hi).1 (hf0 i (Nat.zero_le _) (by omega))
          refine ⟨hk2, hn, hs, hlen, ?_, ?_, hlk⟩
          · refine pairwise_next (fun a b c h1 h2 => h1.trans h2) v.ids fun i x y hx hy => ?_
            obtain ⟨h2, rfl⟩ := List.getElem?_eq_some_iff.1 hy
            obtain ⟨h1, rfl⟩ := List.getElem?_eq_some_iff.1 hx
            obtain ⟨f, hf, ho, _⟩ := hat (i + 1) h2
            have := (order_zero h2 hf).1 ho (by omega)
            simpa using this
          · rw [zip_get (P := OneP ts (TypedP ts k) t) hlen]
            intro i hi
            obtain ⟨f, hf, _, hw, hr⟩ := hat i hi
            exact ⟨f, hf, hw, fun h5 => wrong_typed (hfit _ (List.getElem_mem _)) (hr h5)⟩
theorem typed_wrong {ts : BookM} : ∀ {k : Nat} {t : TypeM} {v : ValueM}, TypedP ts k t v → wrongM ts k t v = 0
  | 0, _, _, h => h.elim
  | k + 1, t, v, ⟨h1, h2, h3, h4, h5, h6, h7⟩ => by
    rw [zip_get (P := OneP ts (TypedP ts k) t) h4] at h6
    have hz : firstE (wrongAt ts (wrongM ts k) t v) 0 v.ids.length = 0 := firstE_zero.2 fun i _ hi => by
      have hi' : i < v.ids.length := by omega
      obtain ⟨f, hf, hw, hr⟩ := h6 i hi'
      refine (wrongAt_zero h4 hi').2 ⟨f, hf, (order_zero hi' hf).2 fun h0 => ?_, hw, fun h5 => typed_wrong (hr h5)⟩
      exact List.pairwise_iff_getElem.1 h5 (i - 1) i (by omega) hi' (by omega)
    rw [wrongM, if_neg (by simp [h1]), if_neg (by rw [h1, one2.2 ⟨h2, h3⟩]; simp [h4]), if_neg (by simp [hz]), h7]
    simp
theorem TypedP.fits {ts : BookM} (hg : goodM ts = 0) : ∀ {k : Nat} {t : TypeM} {v : ValueM}, Msg ts t → TypedP ts k t v → Fits (k + 1) v
  | 0, _, _, _, h => h.elim
  | k + 1, t, v, ht, ⟨h1, h2, h3, h4, h5, h6, h7⟩ => fun x hx => by
    obtain ⟨i, hi, rfl⟩ := List.getElem_of_mem hx
    rw [zip_get (P := OneP ts (TypedP ts k) t) h4] at h6
    obtain ⟨f, hf, hw, hr⟩ := h6 i (by omega)
    by_cases h5 : f.kind = 5
    · exact TypedP.fits hg (ht.sub hg (fieldM_mem hf) h5) (hr h5)
    · have hk := (ht.field hg (fieldM_mem hf)).2.1
      intro y hy
      unfold wrongOneN at hw
      split at hw
      · cases hw
      · rename_i hkk
        have hkk2 : v.l[i].kind ≠ 2 := by
          have : v.l[i].kind = kindN f.kind := Decidable.byContradiction hkk
          rw [this]; unfold kindN; split <;> simp_all
        split at hw
        · cases hw
        · rename_i ho
          have : oneKindB v.l[i].kind v.l[i].n v.l[i].s v.l[i].ids.length v.l[i].l.length = true := by simpa using ho
          unfold oneKindB at this
          have hl0 : v.l[i].l.length = 0 := by
            simp only [Bool.and_eq_true, Bool.not_eq_true', Bool.and_eq_false_iff, decide_eq_false_iff_not, Bool.or_eq_false_iff] at this
            rcases this.1.1 with h | h
            · exact absurd hkk2 h
            · omega
          rw [List.length_eq_zero_iff.1 hl0] at hy
          cases hy
end Go.Proofs.YtidcagcdaanijaaDoor

namespace Go.Proofs.YtidcagcdaanijaaDoor
set_option linter.unusedSimpArgs false
set_option linter.unusedVariables false
open Go.RowKit

/-! What Encode writes of a value of a type: its bytes can be made. -/
theorem sev_lenZ : ∀ {n u : Nat}, u < 128 ^ (n + 1) → (sev u).length ≤ n + 1
  | 0, u, h => by rw [sev_small (by simpa using h)]; simp
  | n + 1, u, h => by
    by_cases hu : u < 128
    · rw [sev_small hu]; simp
    · rw [sev_large hu, List.length_cons]
      have : u / 128 < 128 ^ (n + 1) := by rw [Nat.div_lt_iff_lt_mul (by omega), ← Nat.pow_succ]; exact h
      have := sev_lenZ this
      omega
theorem kindN_cases {k : Int} (h : 1 ≤ k ∧ k ≤ 5) : (k = 3 ∧ kindN k = 1) ∨ (k = 5 ∧ kindN k = 2) ∨ (k ≠ 3 ∧ k ≠ 5 ∧ kindN k = 0) := by
  unfold kindN
  by_cases h3 : k = 3
  · exact .inl ⟨h3, by rw [if_pos h3]⟩
  · by_cases h5 : k = 5
    · exact .inr (.inl ⟨h5, by rw [if_neg h3, if_pos h5]⟩)
    · exact .inr (.inr ⟨h3, h5, by rw [if_neg h3, if_neg h5]⟩)
/-- What a value is that is one of a field. -/
theorem one_cases {ts : BookM} (hg : goodM ts = 0) {t : TypeM} (ht : Msg ts t) {f : FieldM} (hf : f ∈ t.fields) {x : ValueM} (h : wrongOneN ts f x.kind x.n x.s x.ids.length x.l.length = 0) :
    (f.kind ≠ 5 ∧ f.kind ≠ 3 ∧ x.kind = 0 ∧ (-1099511627776 ≤ x.n ∧ x.n ≤ 1099511627776) ∧ x.s = ⟨#[]⟩ ∧ x.ids = [] ∧ x.l = []) ∨ (f.kind = 3 ∧ x.kind = 1 ∧ x.n = 0 ∧ x.s.size ≤ 40 ∧ x.ids = [] ∧ x.l = []) ∨ (f.kind = 5 ∧ x.kind = 2 ∧ x.n = 0 ∧ x.s = ⟨#[]⟩) := by
  have hk := (ht.field hg hf).2.1
  unfold wrongOneN at h
  split at h
  · cases h
  · rename_i h1
    have e1 : x.kind = kindN f.kind := Decidable.byContradiction h1
    split at h
    · cases h
    · rename_i h2
      have e2 : oneKindB x.kind x.n x.s x.ids.length x.l.length = true := by simpa using h2
      unfold oneKindB at e2
      rw [← isEmpty_iff]
      rcases kindN_cases hk with ⟨k3, kk⟩ | ⟨k5, kk⟩ | ⟨k3, k5, kk⟩
      · refine .inr (.inl ?_)
        rw [e1, kk] at e2
        simp at e2
        rw [if_neg (by omega), if_neg (by omega), if_pos k3] at h
        refine ⟨k3, by rw [e1, kk], e2.2, ?_, e2.1.1, e2.1.2⟩
        split at h
        · rename_i ht
          unfold goodTextB at ht
          rw [Bool.and_eq_true] at ht
          simpa using ht.1
        · cases h
      · refine .inr (.inr ?_)
        rw [e1, kk] at e2
        simp at e2
        exact ⟨k5, by rw [e1, kk], e2.1, by simpa using e2.2⟩
      · refine .inl ?_
        rw [e1, kk] at e2
        simp at e2
        refine ⟨k5, k3, by rw [e1, kk], ?_, by simpa using e2.2, e2.1.1, e2.1.2⟩
        by_cases c1 : f.kind = 1
        · rw [if_pos c1] at h
          split at h
          · cases h
          · rename_i hn
            have : x.n = 0 ∨ x.n = 1 := by omega
            omega
        · rw [if_neg c1] at h
          by_cases c2 : f.kind = 2
          · rw [if_pos c2] at h
            split at h
            · cases h
            · omega
          · rw [if_neg c2, if_neg k3] at h
            have c4 : f.kind = 4 := by omega
            rw [if_pos c4] at h
            split at h
            · rename_i ha
              rw [List.any_eq_true] at ha
              obtain ⟨i, hi, e⟩ := ha
              have := (ht.enum hg hf c4).2 i hi
              have e' : i.n = x.n := by simpa using e
              omega
            · cases h
theorem part_ok {ts : BookM} (hg : goodM ts = 0) {t : TypeM} (ht : Msg ts t) {k : Nat} {id : Int} {x : ValueM} (h : OneP ts (fun _ _ => True) t id x) (hin : x.kind = 2 → (encV k x).length + 42 ≤ 42 * cntM k x) (hc : cntM k x ≤ 400) :
    (partV (encV k) id x).good ∧ (partB (partV (encV k) id x)).length ≤ 42 * cntM k x := by
  obtain ⟨f, hf, hw, _⟩ := h
  have hm := fieldM_mem hf
  have hi := fieldM_id hf
  have hb := (ht.field hg hm).2.2
  have h1 := cnt_pos (k := k) (v := x)
  have hh : ∀ {n : Int} {s : ByteArray} {kd : Int}, 0 ≤ kd → kd ≤ 2 → (sev (headN ⟨id, kd, n, s⟩)).length = 1 := fun h0 h2 => by
    rw [sev_small (by unfold headN; simp only; omega)]; rfl
  rcases one_cases hg ht hm hw with ⟨_, _, k0, hn, hs, _, _⟩ | ⟨_, k1, hn, hs, _, _⟩ | ⟨_, k2, hn, hs⟩
  · have e : partV (encV k) id x = ⟨id, 0, x.n, ⟨#[]⟩⟩ := by unfold partV; rw [if_neg (by omega), k0, hs]
    rw [e]
    refine ⟨⟨by simp only; omega, by simp only; omega, .inl ⟨rfl, hn.1, hn.2, rfl⟩⟩, ?_⟩
    unfold partB
    rw [List.length_append, hh (by omega) (by omega)]
    simp only [if_true]
    have := sev_lenZ (fold_lt hn.1 hn.2)
    omega
  · have e : partV (encV k) id x = ⟨id, 1, 0, x.s⟩ := by unfold partV; rw [if_neg (by omega), k1, hn]
    rw [e]
    refine ⟨⟨by simp only; omega, by simp only; omega, .inr ⟨.inl rfl, rfl, by simp only; omega⟩⟩, ?_⟩
    unfold partB
    rw [List.length_append, hh (by omega) (by omega)]
    simp only [show ¬ (1 : Int) = 0 by omega, if_false, List.length_append, bytes_len]
    rw [sev_small (by omega)]
    simp; omega
  · have e : partV (encV k) id x = ⟨id, 2, 0, ⟨(encV k x).toArray⟩⟩ := by unfold partV; rw [if_pos k2, k2, hn]
    have hl := hin k2
    have hz : (⟨(encV k x).toArray⟩ : ByteArray).size = (encV k x).length := by simp [ByteArray.size]
    rw [e]
    refine ⟨⟨by simp only; omega, by simp only; omega, .inr ⟨.inr rfl, rfl, by simp only; omega⟩⟩, ?_⟩
    unfold partB
    rw [List.length_append, hh (by omega) (by omega)]
    simp only [show ¬ (2 : Int) = 0 by omega, if_false, List.length_append, bytes_len, hz]
    have := sev_lenZ (n := 2) (u := (encV k x).length) (by rw [show (128 : Nat) ^ (2 + 1) = 2097152 by decide]; omega)
    omega
theorem parts_ok {ts : BookM} {t : TypeM} {k : Nat} : ∀ {ids : List Int} {l : List ValueM}, l.length = ids.length → (∀ p ∈ ids.zip l, (partV (encV k) p.1 p.2).good ∧ (partB (partV (encV k) p.1 p.2)).length ≤ 42 * cntM k p.2) →
    (∀ p ∈ List.zipWith (partV (encV k)) ids l, p.good) ∧ ((List.zipWith (partV (encV k)) ids l).flatMap partB).length ≤ 42 * sumL (cntM k) l
  | [], [], _, _ => ⟨fun p hp => by simp at hp, by simp⟩
  | [], _ :: _, h, _ => by simp at h
  | _ :: _, [], h, _ => by simp at h
  | id :: ids, x :: l, h, hall => by
    obtain ⟨i1, i2⟩ := parts_ok (ts := ts) (t := t) (ids := ids) (l := l) (by simpa using h) fun p hp => hall p (by simp [hp])
    obtain ⟨a1, a2⟩ := hall (id, x) (by simp)
    refine ⟨fun p hp => ?_, ?_⟩
    · rw [List.zipWith_cons_cons] at hp
      rcases List.mem_cons.1 hp with rfl | hp
      · exact a1
      · exact i1 p hp
    · rw [List.zipWith_cons_cons, List.flatMap_cons, List.length_append, sumL]
      simp only at a2
      omega
theorem TypedP.enc {ts : BookM} (hg : goodM ts = 0) : ∀ {k : Nat} {t : TypeM} {v : ValueM}, Msg ts t → Fits k v → TypedP ts k t v → cntM k v ≤ 400 → EncOk k v ∧ (encV k v).length + 42 ≤ 42 * cntM k v
  | 0, _, _, _, _, h, _ => h.elim
  | k + 1, t, v, ht, hfit, ⟨h1, h2, h3, h4, h5, h6, h7⟩, hc => by
    have hc' : 1 + sumL (cntM k) v.l ≤ 400 := hc
    have hcx : ∀ x ∈ v.l, cntM k x ≤ 400 := fun x hx => by have := sumL_mem (f := cntM k) hx; omega
    have hsub : ∀ p ∈ v.ids.zip v.l, p.2.kind = 2 → EncOk k p.2 ∧ (encV k p.2).length + 42 ≤ 42 * cntM k p.2 := fun p hp hk2 => by
      obtain ⟨f, hf, hw, hr⟩ := h6 p hp
      have hx := (List.of_mem_zip hp).2
      rcases one_cases hg ht (fieldM_mem hf) hw with ⟨_, _, k0, _⟩ | ⟨_, k1, _⟩ | ⟨k5, _⟩
      · omega
      · omega
      · exact TypedP.enc hg (ht.sub hg (fieldM_mem hf) k5) (hfit p.2 hx) (hr k5) (hcx p.2 hx)
    obtain ⟨g1, g2⟩ := parts_ok (ts := ts) (t := t) (k := k) h4 fun p hp => part_ok hg ht ((h6 p hp).mono fun _ _ => trivial) (fun hk2 => (hsub p hp hk2).2) (hcx p.2 (List.of_mem_zip hp).2)
    refine ⟨⟨h4, ?_, fun x hx hk2 => ?_, g1, ?_⟩, ?_⟩
    · have : v.l.length ≤ sumL (cntM k) v.l := by
        clear hc hc' hcx hsub g1 g2 h6 h4 h5 h7 hfit
        induction v.l with
        | nil => simp
        | cons a r ih => rw [sumL, List.length_cons]; have := cnt_pos (k := k) (v := a); omega
      omega
    · obtain ⟨i, hi, rfl⟩ := List.getElem_of_mem hx
      refine (hsub (v.ids[i]'(by omega), v.l[i]) ?_ hk2).1
      have : (v.ids.zip v.l)[i]? = some (v.ids[i]'(by omega), v.l[i]) := by rw [List.getElem?_zip_eq_some]; exact ⟨by simp, by simp⟩
      exact List.mem_of_getElem? this
    · show ((List.zipWith (partV (encV k)) v.ids v.l).flatMap partB).length ≤ 20000
      omega
    · show ((List.zipWith (partV (encV k)) v.ids v.l).flatMap partB).length + 42 ≤ 42 * (1 + sumL (cntM k) v.l)
      omega
end Go.Proofs.YtidcagcdaanijaaDoor

namespace Go.Proofs.YtidcagcdaanijaaDoor
set_option linter.unusedSimpArgs false
set_option linter.unusedVariables false
open Go.RowKit

/-! What read makes of bytes. -/
def typeM (ts : BookM) (f : FieldM) : TypeM := (findM ts f.type).getD TypeM.zero
/-- What is wrong with a part behind those that were read. -/
def fellB (prev : Option Int) (id : Int) : Bool := match prev with | some q => decide (id < q) | none => false
def stepE (ts : BookM) (rec : FieldM → ByteArray → Int × ValueM) (t : TypeM) (prev : Option Int) (p : PartM) (st : List Int × List ValueM) : Int :=
  if fellB prev p.id = true then 1
  else match fieldM t p.id with
    | none => 0
    | some f => if wrongOneN ts f (bareM p).kind (bareM p).n (bareM p).s 0 0 ≠ 0 then wrongOneN ts f (bareM p).kind (bareM p).n (bareM p).s 0 0
      else if f.rule ≠ 3 ∧ st.1.contains f.id = true then 4
      else if f.kind = 5 then (rec f p.s).1 else 0
def stepV (rec : FieldM → ByteArray → Int × ValueM) (t : TypeM) (p : PartM) (st : List Int × List ValueM) : List Int × List ValueM :=
  match fieldM t p.id with
  | none => st
  | some f => (st.1 ++ [f.id], st.2 ++ [if f.kind = 5 then (rec f p.s).2 else bareM p])
def readL (ts : BookM) (rec : FieldM → ByteArray → Int × ValueM) (t : TypeM) : Option Int → List PartM → List Int × List ValueM → Int × (List Int × List ValueM)
  | _, [], st => (0, st)
  | prev, p :: r, st => if stepE ts rec t prev p st ≠ 0 then (stepE ts rec t prev p st, ([], [])) else readL ts rec t (some p.id) r (stepV rec t p st)
def fillV (ts : BookM) (t : TypeM) (st : List Int × List ValueM) : ValueM := ⟨2, 0, ⟨#[]⟩, (fillM (leastF ts (leastV ts 4)) t.fields st).1, (fillM (leastF ts (leastV ts 4)) t.fields st).2⟩
def readF (ts : BookM) (rec : FieldM → ByteArray → Int × ValueM) (t : TypeM) (s : ByteArray) : Int × ValueM :=
  if decE s.data.toList ≠ 0 then (decE s.data.toList, ValueM.zero)
  else if (readL ts rec t none (decL s.data.toList) ([], [])).1 ≠ 0 then ((readL ts rec t none (decL s.data.toList) ([], [])).1, ValueM.zero)
  else (0, fillV ts t (readL ts rec t none (decL s.data.toList) ([], [])).2)
def noRec : FieldM → ByteArray → Int × ValueM := fun _ _ => (7, ValueM.zero)
def readM (ts : BookM) : Nat → TypeM → ByteArray → Int × ValueM
  | 0, t, s => readF ts noRec t s
  | k + 1, t, s => readF ts (fun f s => readM ts k (typeM ts f) s) t s
def recM (ts : BookM) : Nat → FieldM → ByteArray → Int × ValueM
  | 0 => noRec
  | k + 1 => fun f s => readM ts k (typeM ts f) s
theorem readM_eq (ts : BookM) (k : Nat) (t : TypeM) (s : ByteArray) : readM ts k t s = readF ts (recM ts k) t s := by cases k <;> rfl

theorem decR_enc {ps : List PartM} (hg : ∀ p ∈ ps, p.good) (hl : (ps.flatMap partB).length ≤ 20000) : decE (ps.flatMap partB) = 0 ∧ decL (ps.flatMap partB) = ps :=
  decE_some hl (dec_enc ps _ hg (Nat.le_refl _))

theorem bare_of {ts : BookM} (hg : goodM ts = 0) {t : TypeM} (ht : Msg ts t) {f : FieldM} (hf : f ∈ t.fields) {x : ValueM} {id : Int} {enc : ValueM → List UInt8} (h : wrongOneN ts f x.kind x.n x.s x.ids.length x.l.length = 0) :
    wrongOneN ts f (bareM (partV enc id x)).kind (bareM (partV enc id x)).n (bareM (partV enc id x)).s 0 0 = 0 ∧ (f.kind ≠ 5 → bareM (partV enc id x) = x) ∧ (f.kind = 5 → x.kind = 2) := by
  rcases one_cases hg ht hf h with ⟨k5, k3, k0, hn, hs, hi, hl⟩ | ⟨k3, k1, hn, hs, hi, hl⟩ | ⟨k5, k2, hn, hs⟩
  · have e : bareM (partV enc id x) = x := by
      unfold bareM partV
      obtain ⟨xk, xn, xs, xi, xl⟩ := x
      simp only at *
      subst k0 hs hi hl
      rfl
    exact ⟨by rw [e]; rw [hi, hl] at h; exact h, fun _ => e, fun h5 => absurd h5 k5⟩
  · have e : bareM (partV enc id x) = x := by
      unfold bareM partV
      obtain ⟨xk, xn, xs, xi, xl⟩ := x
      simp only at *
      subst k1 hn hi hl
      rfl
    exact ⟨by rw [e]; rw [hi, hl] at h; exact h, fun _ => e, fun h5 => by omega⟩
  · have e : bareM (partV enc id x) = ⟨2, 0, ⟨#[]⟩, [], []⟩ := by
      unfold bareM partV
      rw [k2, hn]
      rfl
    refine ⟨?_, fun h => absurd k5 h, fun _ => k2⟩
    rw [e]
    unfold wrongOneN
    rw [if_neg (by unfold kindN; rw [if_neg (by omega), if_pos k5]; simp), if_neg (by rw [one2.2 ⟨rfl, rfl⟩]; simp), if_neg (by omega), if_neg (by omega), if_neg (by omega), if_neg (by omega)]
theorem readL_enc {ts : BookM} (hg : goodM ts = 0) {t : TypeM} (ht : Msg ts t) {enc : ValueM → List UInt8} {rec : FieldM → ByteArray → Int × ValueM} : ∀ {ids : List Int} {l : List ValueM} {prev : Option Int} {st : List Int × List ValueM}, l.length = ids.length →
    (∀ p ∈ ids.zip l, ∃ f, fieldM t p.1 = some f ∧ wrongOneN ts f p.2.kind p.2.n p.2.s p.2.ids.length p.2.l.length = 0 ∧ (f.kind = 5 → rec f ⟨(enc p.2).toArray⟩ = (0, p.2))) →
    ids.Pairwise (NxtOk t) → (∀ a ∈ st.1, ∀ b ∈ ids, NxtOk t a b) → (∀ q, prev = some q → ∀ b ∈ ids, q ≤ b) →
    readL ts rec t prev (List.zipWith (partV enc) ids l) st = (0, (st.1 ++ ids, st.2 ++ l))
  | [], [], _, st, _, _, _, _, _ => by simp [readL]
  | [], _ :: _, _, _, h, _, _, _, _ => by simp at h
  | _ :: _, [], _, _, h, _, _, _, _ => by simp at h
  | id :: ids, x :: l, prev, st, h, hall, hp, hst, hpr => by
    rw [List.pairwise_cons] at hp
    obtain ⟨f, hf, hw, hr⟩ := hall (id, x) (by simp)
    simp only at hf hw hr
    have hfm := fieldM_mem hf
    have hfi := fieldM_id hf
    obtain ⟨b1, b2, b3⟩ := bare_of (enc := enc) (id := id) hg ht hfm hw
    have hs5 : f.kind = 5 → (partV enc id x).s = ⟨(enc x).toArray⟩ := fun h5 => by unfold partV; rw [if_pos (b3 h5)]
    have hfell : fellB prev (partV enc id x).id = false := by
      cases prev with
      | none => rfl
      | some q => have := hpr q rfl id (by simp); show decide (id < q) = false; simp; omega
    have e1 : stepE ts rec t prev (partV enc id x) st = 0 := by
      unfold stepE
      rw [if_neg (by simp [hfell]), show fieldM t (partV enc id x).id = some f from hf]
      simp only
      rw [if_neg (by simp [b1]), if_neg]
      · by_cases h5 : f.kind = 5
        · rw [if_pos h5, hs5 h5, hr h5]
        · rw [if_neg h5]
      · rintro ⟨h3, hc⟩
        rw [List.contains_iff_mem, hfi] at hc
        exact h3 ((hst id hc id (by simp)).2 rfl f hf)
    have e2 : stepV rec t (partV enc id x) st = (st.1 ++ [id], st.2 ++ [x]) := by
      unfold stepV
      rw [show fieldM t (partV enc id x).id = some f from hf]
      simp only
      rw [hfi]
      by_cases h5 : f.kind = 5
      · rw [if_pos h5, hs5 h5, hr h5]
      · rw [if_neg h5, b2 h5]
    rw [List.zipWith_cons_cons, readL, if_neg (by simp [e1]), e2]
    rw [readL_enc (ids := ids) (l := l) hg ht (by simpa using h) (fun p hp => hall p (by simp [hp])) hp.2 (fun a ha b hb => ?_) (fun q hq b hb => ?_)]
    · simp
    · rcases List.mem_append.1 ha with ha | ha
      · exact hst a ha b (by simp [hb])
      · rw [List.mem_singleton] at ha
        rw [ha]
        exact hp.1 b hb
    · cases hq
      exact (hp.1 b hb).1
theorem lacks_out {t : TypeM} {ids : List Int} (h : lacksB t ids = false) : ∀ f ∈ t.fields, f.rule = 1 → ids.contains f.id = true := by
  unfold lacksB at h
  intro f hf hr
  obtain ⟨i, hi, rfl⟩ := List.getElem_of_mem hf
  have := all_range (by simpa using h) hi
  unfold hasOneAt at this
  rw [show t.fields.getD i FieldM.zero = t.fields[i] by simp [List.getD, hi], hr] at this
  simpa using this
/-- What is written is read back. -/
theorem read_enc {ts : BookM} (hg : goodM ts = 0) : ∀ {k K : Nat} {t : TypeM} {v : ValueM}, Msg ts t → Fits K v → TypedP ts K t v → cntM K v ≤ 400 → depM K v ≤ k + 1 → readM ts k t ⟨(encV K v).toArray⟩ = (0, v)
  | _, 0, _, _, _, _, h, _, _ => h.elim
  | k, K + 1, t, v, ht, hfit, hty, hc, hd => by
    obtain ⟨henc, _⟩ := hty.enc hg ht hfit hc
    obtain ⟨h1, h2, h3, h4, h5, h6, h7⟩ := hty
    obtain ⟨_, _, _, hgood, hlong⟩ := henc
    have hd' : 1 + maxL (depM K) v.l ≤ k + 1 := hd
    have hc' : 1 + sumL (cntM K) v.l ≤ 400 := hc
    obtain ⟨d1, d2⟩ := decR_enc hgood hlong
    have e0 : (⟨(encV (K + 1) v).toArray⟩ : ByteArray).data.toList = (partsV (encV K) v).flatMap partB := by
      show (encV (K + 1) v).toArray.toList = _
      rw [List.toList_toArray]; rfl
    have hrd : readL ts (recM ts k) t none (partsV (encV K) v) ([], []) = (0, (v.ids, v.l)) := by
      have := readL_enc (enc := encV K) (rec := recM ts k) (ids := v.ids) (l := v.l) (prev := none) (st := ([], [])) hg ht h4 (fun p hp => ?_) h5 (fun a ha => by cases ha) (fun q hq => by cases hq)
      · rw [show partsV (encV K) v = List.zipWith (partV (encV K)) v.ids v.l from rfl, this]
        simp
      · obtain ⟨f, hf, hw, hr⟩ := h6 p hp
        refine ⟨f, hf, hw, fun k5 => ?_⟩
        have hx := (List.of_mem_zip hp).2
        have m1 := maxL_mem (f := depM K) hx
        have m2 := sumL_mem (f := cntM K) hx
        have m3 : 1 ≤ depM K p.2 := by cases K <;> simp [depM]
        cases k with
        | zero => omega
        | succ k => exact read_enc hg (ht.sub hg (fieldM_mem hf) k5) (hfit p.2 hx) (hr k5) (by omega) (by omega)
    rw [readM_eq]
    unfold readF
    rw [e0, d1, d2, hrd, if_neg (by simp), if_neg (by simp)]
    unfold fillV
    rw [fill_all (lacks_out h7)]
    obtain ⟨vk, vn, vs, vi, vl⟩ := v
    simp only at h1 h2 h3
    subst h1 h2 h3
    rfl
end Go.Proofs.YtidcagcdaanijaaDoor

namespace Go.Proofs.YtidcagcdaanijaaDoor
set_option linter.unusedSimpArgs false
set_option linter.unusedVariables false
open Go.RowKit

/-! What is read is one of the type. -/
/-- So far the values stand well. -/
def StOk (ts : BookM) (rec : TypeM → ValueM → Prop) (t : TypeM) (st : List Int × List ValueM) : Prop :=
  st.2.length = st.1.length ∧ st.1.Pairwise (NxtOk t) ∧ ∀ p ∈ st.1.zip st.2, OneP ts rec t p.1 p.2
theorem pw_le {t : TypeM} {l : List Int} (h : l.Pairwise (NxtOk t)) : l.Pairwise (· ≤ ·) := h.imp fun h => h.1
theorem zip_snoc {a : List Int} {b : List ValueM} (h : b.length = a.length) (x : Int) (y : ValueM) : (a ++ [x]).zip (b ++ [y]) = a.zip b ++ [(x, y)] := by
  rw [List.zip_append h.symm]; rfl
theorem readL_ok {ts : BookM} {rec : FieldM → ByteArray → Int × ValueM} {R : TypeM → ValueM → Prop} {t : TypeM}
    (hrec : ∀ f s, f ∈ t.fields → f.kind = 5 → (rec f s).1 = 0 → R (typeM ts f) (rec f s).2 ∧ wrongOneN ts f (rec f s).2.kind (rec f s).2.n (rec f s).2.s (rec f s).2.ids.length (rec f s).2.l.length = 0) :
    ∀ {ps : List PartM} {prev : Option Int} {st : List Int × List ValueM} {r : List Int × List ValueM}, StOk ts R t st → (∀ a ∈ st.1, ∃ q, prev = some q ∧ a ≤ q) → readL ts rec t prev ps st = (0, r) → StOk ts R t r
  | [], _, st, r, h, _, e => by
    simp only [readL, Prod.mk.injEq, true_and] at e
    rw [← e]; exact h
  | p :: ps, prev, st, r, h, hpr, e => by
    rw [readL] at e
    split at e
    · rename_i hz
      exact absurd (congrArg Prod.fst e) hz
    · rename_i hz
      have hz0 : stepE ts rec t prev p st = 0 := Decidable.byContradiction hz
      have hfell : fellB prev p.id = false := by
        cases hb : fellB prev p.id
        · rfl
        · unfold stepE at hz0; rw [if_pos hb] at hz0; cases hz0
      have hq : ∀ q, prev = some q → q ≤ p.id := fun q hq => by
        subst hq
        have : decide (p.id < q) = false := hfell
        simp at this; omega
      unfold stepE at hz0
      rw [if_neg (by simp [hfell])] at hz0
      refine readL_ok hrec (st := stepV rec t p st) ?_ ?_ e
      · cases hf : fieldM t p.id with
        | none => unfold stepV; rw [hf]; exact h
        | some f =>
          rw [hf] at hz0
          simp only at hz0
          have hfi := fieldM_id hf
          split at hz0
          · rename_i hw; exact absurd hz0 hw
          · rename_i hw
            have hw0 := Decidable.byContradiction hw
            split at hz0
            · cases hz0
            · rename_i h3
              unfold stepV
              rw [hf]
              simp only
              obtain ⟨a1, a2, a3⟩ := h
              refine ⟨by simp [a1], ?_, fun q hq2 => ?_⟩
              · rw [List.pairwise_append]
                refine ⟨a2, List.pairwise_singleton _ _, fun a ha b hb => ?_⟩
                rw [List.mem_singleton] at hb
                subst hb
                obtain ⟨q, e1, e2⟩ := hpr a ha
                refine ⟨by rw [hfi]; exact Int.le_trans e2 (hq q e1), fun e g hg => ?_⟩
                rw [hfi, hf] at hg
                cases hg
                refine Decidable.byContradiction fun hr => h3 ⟨hr, ?_⟩
                rw [List.contains_iff_mem, ← e]
                exact ha
              · simp only at hq2
                rw [zip_snoc a1] at hq2
                rcases List.mem_append.1 hq2 with hq2 | hq2
                · exact a3 q hq2
                · rw [List.mem_singleton] at hq2
                  subst hq2
                  refine ⟨f, by rw [hfi]; exact hf, ?_, fun h5 => ?_⟩
                  · simp only
                    by_cases h5 : f.kind = 5
                    · rw [if_pos h5]
                      rw [if_pos h5] at hz0
                      exact (hrec f p.s (fieldM_mem hf) h5 hz0).2
                    · rw [if_neg h5]
                      exact hw0
                  · simp only
                    rw [if_pos h5] at hz0 ⊢
                    exact (hrec f p.s (fieldM_mem hf) h5 hz0).1
      · intro a ha
        refine ⟨p.id, rfl, ?_⟩
        unfold stepV at ha
        cases hf : fieldM t p.id with
        | none =>
          rw [hf] at ha
          obtain ⟨q, e1, e2⟩ := hpr a ha
          exact Int.le_trans e2 (hq q e1)
        | some f =>
          rw [hf] at ha
          rcases List.mem_append.1 ha with ha | ha
          · obtain ⟨q, e1, e2⟩ := hpr a ha
            exact Int.le_trans e2 (hq q e1)
          · rw [List.mem_singleton] at ha
            rw [ha, fieldM_id hf]; omega
theorem zip_insAt {a : List Int} {b : List ValueM} (h : b.length = a.length) (i : Nat) (x : Int) (y : ValueM) : (insAt a i x).zip (insAt b i y) = insAt (a.zip b) i (x, y) := by
  unfold insAt
  rw [List.zip_append (by rw [List.length_take, List.length_take, h])]
  rw [List.zip_cons_cons]
  unfold List.zip
  rw [List.take_zipWith, List.drop_zipWith]
theorem mem_insAt {α : Type} {l : List α} {i : Nat} {x y : α} (h : y ∈ insAt l i x) : y = x ∨ y ∈ l := by
  unfold insAt at h
  rcases List.mem_append.1 h with h | h
  · exact .inr (List.mem_of_mem_take h)
  · rcases List.mem_cons.1 h with h | h
    · exact .inl h
    · exact .inr (List.mem_of_mem_drop h)
theorem fillStep_ok {ts : BookM} {R : TypeM → ValueM → Prop} {t : TypeM} {lf : FieldM → ValueM} {f : FieldM} (hlf : f.rule = 1 → OneP ts R t f.id (lf f)) {st : List Int × List ValueM} (h : StOk ts R t st) : StOk ts R t (fillStep lf st f) ∧ (∀ a ∈ st.1, a ∈ (fillStep lf st f).1) ∧ (f.rule = 1 → f.id ∈ (fillStep lf st f).1) := by
  unfold fillStep
  by_cases hc : f.rule = 1 ∧ st.1.contains f.id = false
  · rw [if_pos hc]
    obtain ⟨a1, a2, a3⟩ := h
    have hci : st.1.countP (· < f.id) ≤ st.1.length := List.countP_le_length
    have hnot : f.id ∉ st.1 := fun hm => by have := hc.2; rw [List.contains_iff_mem.2 hm] at this; cases this
    obtain ⟨c1, c2⟩ := count_take (pw_le a2) f.id
    refine ⟨⟨?_, ?_, ?_⟩, ?_, ?_⟩
    · simp only
      rw [insAt_len _ _ _ hci, insAt_len _ _ _ (by rw [a1]; exact hci), a1]
    · simp only
      have hs : (st.1.take (st.1.countP (· < f.id)) ++ st.1.drop (st.1.countP (· < f.id))).Pairwise (NxtOk t) := by rw [List.take_append_drop]; exact a2
      rw [List.pairwise_append] at hs
      unfold insAt
      rw [List.pairwise_append, List.pairwise_cons]
      refine ⟨hs.1, ⟨fun b hb => ?_, hs.2.1⟩, fun a ha b hb => ?_⟩
      · have h1 := c2 b hb
        have h2 : b ≠ f.id := fun e => hnot (e ▸ List.mem_of_mem_drop hb)
        exact ⟨h1, fun e => absurd e.symm h2⟩
      · rcases List.mem_cons.1 hb with rfl | hb
        · have h1 := c1 a ha
          exact ⟨by omega, fun e => by omega⟩
        · exact hs.2.2 a ha b hb
    · intro p hp
      simp only at hp
      rw [zip_insAt a1] at hp
      rcases mem_insAt hp with rfl | hp
      · exact hlf hc.1
      · exact a3 p hp
    · intro a ha
      unfold insAt
      simp only [List.mem_append, List.mem_cons]
      have : a ∈ st.1.take (st.1.countP (· < f.id)) ++ st.1.drop (st.1.countP (· < f.id)) := by rw [List.take_append_drop]; exact ha
      rcases List.mem_append.1 this with h | h
      · exact .inl h
      · exact .inr (.inr h)
    · intro _
      unfold insAt
      simp
  · rw [if_neg hc]
    refine ⟨h, fun a ha => ha, fun hr => ?_⟩
    have : st.1.contains f.id = true := by
      cases e : st.1.contains f.id
      · exact absurd ⟨hr, e⟩ hc
      · rfl
    exact List.contains_iff_mem.1 this
theorem fill_ok {ts : BookM} {R : TypeM → ValueM → Prop} {t : TypeM} {lf : FieldM → ValueM} : ∀ {l : List FieldM} {st : List Int × List ValueM}, (∀ f ∈ l, f.rule = 1 → OneP ts R t f.id (lf f)) → StOk ts R t st →
    StOk ts R t (fillM lf l st) ∧ (∀ a ∈ st.1, a ∈ (fillM lf l st).1) ∧ ∀ f ∈ l, f.rule = 1 → f.id ∈ (fillM lf l st).1
  | [], st, _, h => ⟨h, fun a ha => ha, fun f hf => absurd hf List.not_mem_nil⟩
  | f :: l, st, hl, h => by
    obtain ⟨b1, b2, b3⟩ := fillStep_ok (hl f (by simp)) h
    obtain ⟨i1, i2, i3⟩ := fill_ok (l := l) (fun g hg => hl g (by simp [hg])) b1
    refine ⟨i1, fun a ha => i2 a (b2 a ha), fun g hg hr => ?_⟩
    rcases List.mem_cons.1 hg with rfl | hg
    · exact i2 _ (b3 hr)
    · exact i3 g hg hr
theorem lacks_of {t : TypeM} {ids : List Int} (h : ∀ f ∈ t.fields, f.rule = 1 → f.id ∈ ids) : lacksB t ids = false := by
  unfold lacksB
  rw [Bool.not_eq_false', List.all_eq_true]
  intro i hi
  rw [List.mem_range] at hi
  unfold hasOneAt
  rw [show t.fields.getD i FieldM.zero = t.fields[i] by simp [List.getD, hi]]
  by_cases hr : t.fields[i].rule = 1
  · rw [List.contains_iff_mem.2 (h _ (List.getElem_mem hi) hr)]; simp
  · simp [hr]
theorem fillV_typed {ts : BookM} {k : Nat} {t : TypeM} {st : List Int × List ValueM} (hl : ∀ f ∈ t.fields, f.rule = 1 → OneP ts (TypedP ts k) t f.id (leastF ts (leastV ts 4) f)) (h : StOk ts (TypedP ts k) t st) : TypedP ts (k + 1) t (fillV ts t st) := by
  obtain ⟨⟨a1, a2, a3⟩, _, i3⟩ := fill_ok hl h
  exact ⟨rfl, rfl, rfl, a1, a2, a3, lacks_of i3⟩

/-! The least. -/
theorem ones_mem {l : List FieldM} {f : FieldM} (h : f ∈ onesL l) : f ∈ l ∧ f.rule = 1 := by
  unfold onesL at h
  rw [List.mem_filter] at h
  exact ⟨h.1, by simpa using h.2⟩
theorem leastF_one {ts : BookM} (hg : goodM ts = 0) {R : TypeM → ValueM → Prop} {t : TypeM} (ht : Msg ts t) {f : FieldM} (hf : f ∈ t.fields) {rec : TypeM → ValueM}
    (hr : f.kind = 5 → R (typeM ts f) (rec (typeM ts f)) ∧ (rec (typeM ts f)).kind = 2 ∧ (rec (typeM ts f)).n = 0 ∧ (rec (typeM ts f)).s = ⟨#[]⟩) : OneP ts R t f.id (leastF ts rec f) := by
  have hk := (ht.field hg hf).2.1
  have hfd := ht.find hg hf
  have hone : ∀ kd : Int, kd = 0 ∨ kd = 1 → ∀ n : Int, (n = 0 ∨ kd = 0) → oneKindB kd n ⟨#[]⟩ 0 0 = true := fun kd h n h2 => by
    unfold oneKindB
    rcases h with rfl | rfl
    · simp
    · rcases h2 with rfl | h2
      · simp
      · omega
  by_cases h4 : f.kind = 4
  · refine ⟨f, hfd, ?_, fun h5 => by omega⟩
    unfold leastF wrongOneN
    rw [if_pos h4]
    simp only [List.length_nil]
    obtain ⟨e1, _⟩ := ht.enum hg hf h4
    rw [if_neg (by unfold kindN; rw [if_neg (by omega), if_neg (by omega)]; simp), if_neg (by rw [hone 0 (.inl rfl) _ (.inr rfl)]; simp), if_neg (by omega), if_neg (by omega), if_neg (by omega), if_pos h4, if_pos]
    rw [List.any_eq_true]
    generalize (findM ts f.type).getD TypeM.zero = u at *
    refine ⟨u.items[0], List.getElem_mem _, ?_⟩
    rw [show u.items.getD 0 ⟨⟨#[]⟩, 0⟩ = u.items[0] by simp [List.getD, show 0 < u.items.length by omega]]
    simp
  · by_cases h5 : f.kind = 5
    · obtain ⟨r1, r2, r3, r4⟩ := hr h5
      have e : leastF ts rec f = rec (typeM ts f) := by unfold leastF; rw [if_neg h4, if_pos h5]; rfl
      rw [e]
      refine ⟨f, hfd, ?_, fun _ => r1⟩
      unfold wrongOneN
      rw [r2, r3, r4, if_neg (by unfold kindN; rw [if_neg (by omega), if_pos h5]; simp), if_neg (by rw [one2.2 ⟨rfl, rfl⟩]; simp), if_neg (by omega), if_neg (by omega), if_neg (by omega), if_neg (by omega)]
    · refine ⟨f, hfd, ?_, fun h => absurd h h5⟩
      unfold leastF wrongOneN
      rw [if_neg h4, if_neg h5]
      simp only [List.length_nil]
      have hkk : kindN f.kind = 0 ∨ kindN f.kind = 1 := by unfold kindN; rw [if_neg h5]; by_cases h3 : f.kind = 3; exact .inr (if_pos h3); exact .inl (if_neg h3)
      rw [if_neg (by simp), if_neg (by rw [hone _ hkk 0 (.inl rfl)]; simp)]
      by_cases c1 : f.kind = 1
      · rw [if_pos c1, if_neg (by simp)]
      · rw [if_neg c1]
        by_cases c2 : f.kind = 2
        · rw [if_pos c2, if_neg (by simp)]
        · rw [if_neg c2, if_pos (show f.kind = 3 by omega), if_pos (by rfl)]
theorem least_shape {ts : BookM} {k : Nat} {t : TypeM} (h : LeOk ts k t) : (leastV ts k t).kind = 2 ∧ (leastV ts k t).n = 0 ∧ (leastV ts k t).s = ⟨#[]⟩ := by
  cases k with
  | zero => exact h.elim
  | succ k => exact ⟨rfl, rfl, rfl⟩
theorem ones_pair {l : List FieldM} (h : (l.map (·.id)).Pairwise (fun x y => x < y)) : ((onesL l).map (·.id)).Pairwise (fun x y => x < y) := by
  unfold onesL
  exact h.sublist (List.filter_sublist.map _)
theorem least_typed {ts : BookM} (hg : goodM ts = 0) : ∀ {k : Nat} {t : TypeM}, Msg ts t → LeOk ts k t → TypedP ts k t (leastV ts k t)
  | 0, _, _, h => h.elim
  | k + 1, t, ht, ⟨_, h⟩ => by
    refine ⟨rfl, rfl, rfl, by simp [leastV], ?_, fun p hp => ?_, ?_⟩
    · show ((onesL t.fields).map (·.id)).Pairwise (NxtOk t)
      exact (ones_pair (ht.rises hg)).imp fun h => ⟨by omega, fun e => by omega⟩
    · have hp' : p ∈ ((onesL t.fields).map (·.id)).zip ((onesL t.fields).map (leastF ts (leastV ts k))) := hp
      rw [List.zip_map'] at hp'
      obtain ⟨f, hf, rfl⟩ := List.mem_map.1 hp'
      obtain ⟨f1, f2⟩ := ones_mem hf
      refine leastF_one hg ht f1 fun h5 => ?_
      have hl := (h f f1 f2).2 h5
      exact ⟨least_typed hg (ht.sub hg f1 h5) hl, least_shape hl⟩
    · refine lacks_of fun f hf hr => ?_
      show f.id ∈ (onesL t.fields).map (·.id)
      exact List.mem_map_of_mem (by unfold onesL; rw [List.mem_filter]; exact ⟨hf, by simp [hr]⟩)
theorem Msg.le {ts : BookM} (hg : goodM ts = 0) {t : TypeM} (h : Msg ts t) : LeOk ts 4 t := by
  obtain ⟨name, hf, he⟩ := h
  exact leOk_type hg hf he
theorem Msg.fill {ts : BookM} (hg : goodM ts = 0) {t : TypeM} (h : Msg ts t) : ∀ f ∈ t.fields, f.rule = 1 → LeF ts (LeOk ts 4) f := fun f hf _ =>
  ⟨fun h4 => (h.enum hg hf h4).1, fun h5 => (h.sub hg hf h5).le hg⟩
theorem fill_one {ts : BookM} (hg : goodM ts = 0) {t : TypeM} (ht : Msg ts t) : ∀ f ∈ t.fields, OneP ts (TypedP ts 4) t f.id (leastF ts (leastV ts 4) f) := fun f hf =>
  leastF_one hg ht hf fun h5 => ⟨least_typed hg (ht.sub hg hf h5) ((ht.sub hg hf h5).le hg), least_shape ((ht.sub hg hf h5).le hg)⟩
/-- What is read is one of the type. -/
theorem read_typed {ts : BookM} (hg : goodM ts = 0) : ∀ {k : Nat} {t : TypeM} {s : ByteArray} {v : ValueM}, Msg ts t → readM ts k t s = (0, v) → TypedP ts (k + 5) t v := by
  intro k
  induction k with
  | zero =>
    intro t s v ht h
    rw [readM_eq] at h
    unfold readF at h
    split at h
    · rename_i h1; exact absurd (congrArg Prod.fst h) h1
    · split at h
      · rename_i h1; exact absurd (congrArg Prod.fst h) h1
      · rename_i h1
        have h0 := Decidable.byContradiction h1
        obtain ⟨r, hr⟩ : ∃ r, r = readL ts (recM ts 0) t none (decL s.data.toList) ([], []) := ⟨_, rfl⟩
        rw [← hr] at h h0
        have hst : StOk ts (TypedP ts 4) t r.2 := readL_ok (rec := recM ts 0) (fun f s _ _ h => by cases h) (ps := decL s.data.toList) (prev := none) (st := ([], [])) ⟨rfl, List.Pairwise.nil, fun p hp => by simp at hp⟩ (fun a ha => by cases ha) (by rw [← hr, ← h0])
        have e := congrArg Prod.snd h
        simp only at e
        rw [← e]
        exact fillV_typed (fun f hf _ => fill_one hg ht f hf) hst
  | succ k ih =>
    intro t s v ht h
    rw [readM_eq] at h
    unfold readF at h
    split at h
    · rename_i h1; exact absurd (congrArg Prod.fst h) h1
    · split at h
      · rename_i h1; exact absurd (congrArg Prod.fst h) h1
      · rename_i h1
        have h0 := Decidable.byContradiction h1
        obtain ⟨r, hr⟩ : ∃ r, r = readL ts (recM ts (k + 1)) t none (decL s.data.toList) ([], []) := ⟨_, rfl⟩
        rw [← hr] at h h0
        have hst : StOk ts (TypedP ts (k + 5)) t r.2 := readL_ok (rec := recM ts (k + 1)) (fun f s hf h5 h => by
            have hty := ih (ht.sub hg hf h5) (show readM ts k (typeM ts f) s = (0, (recM ts (k + 1) f s).2) from Prod.ext h rfl)
            refine ⟨hty, ?_⟩
            obtain ⟨t1, t2, t3, _⟩ := hty
            unfold wrongOneN
            rw [t1, t2, t3, if_neg (by unfold kindN; rw [if_neg (by omega), if_pos h5]; simp), if_neg (by rw [one2.2 ⟨rfl, rfl⟩]; simp), if_neg (by omega), if_neg (by omega), if_neg (by omega), if_neg (by omega)])
          (ps := decL s.data.toList) (prev := none) (st := ([], [])) ⟨rfl, List.Pairwise.nil, fun p hp => by simp at hp⟩ (fun a ha => by cases ha) (by rw [← hr, ← h0])
        have e := congrArg Prod.snd h
        simp only at e
        rw [← e]
        exact fillV_typed (fun f hf _ => (fill_one hg ht f hf).mono fun _ h => h.le (by omega)) hst
end Go.Proofs.YtidcagcdaanijaaDoor

namespace Go.Proofs.YtidcagcdaanijaaDoor
set_option linter.unusedSimpArgs false
set_option linter.unusedVariables false
open Go.RowKit

/-! How large the least is, and what is read. -/
theorem sumL_append {f : ValueM → Nat} : ∀ {a b : List ValueM}, sumL f (a ++ b) = sumL f a + sumL f b
  | [], b => by simp [sumL]
  | x :: a, b => by rw [List.cons_append, sumL, sumL, sumL_append]; omega
theorem sumL_insAt {f : ValueM → Nat} {l : List ValueM} {i : Nat} {x : ValueM} : sumL f (insAt l i x) = sumL f l + f x := by
  have : sumL f l = sumL f (l.take i ++ l.drop i) := by rw [List.take_append_drop]
  rw [this]
  unfold insAt
  rw [sumL_append, sumL_append, sumL]; omega
theorem sumL_le {f g : ValueM → Nat} : ∀ {l : List ValueM}, (∀ x ∈ l, f x ≤ g x) → sumL f l ≤ sumL g l
  | [], _ => Nat.le_refl _
  | x :: r, h => by rw [sumL, sumL]; have := h x (by simp); have := sumL_le (l := r) fun y hy => h y (by simp [hy]); omega
theorem cnt_up : ∀ {m : Nat} {v : ValueM}, cntM m v ≤ cntM (m + 1) v
  | 0, v => by show 1 ≤ 1 + _; omega
  | m + 1, v => by
    show 1 + sumL (cntM m) v.l ≤ 1 + sumL (cntM (m + 1)) v.l
    have := sumL_le (l := v.l) fun x _ => cnt_up (m := m) (v := x)
    omega
theorem cnt_mono {m n : Nat} {v : ValueM} (h : m ≤ n) : cntM m v ≤ cntM n v := by
  obtain ⟨d, rfl⟩ := Nat.exists_eq_add_of_le h
  induction d with
  | zero => exact Nat.le_refl _
  | succ d ih => exact Nat.le_trans (ih (by omega)) cnt_up
theorem cnt_leaf {m : Nat} {v : ValueM} (h : v.l = []) : cntM m v = 1 := by
  cases m with
  | zero => rfl
  | succ m => show 1 + sumL (cntM m) v.l = 1; rw [h]; rfl
def sumF (g : FieldM → Int) : List FieldM → Int
  | [] => 0
  | f :: r => g f + sumF g r
theorem fold_sum {g : FieldM → Int} : ∀ {l : List FieldM} {acc : Int}, leastFold g l acc ≠ 0 → leastFold g l acc = acc + sumF g (onesL l)
  | [], acc, _ => by simp [leastFold, onesL, sumF]
  | f :: r, acc, h => by
    rw [leastFold] at h ⊢
    by_cases hr : (f.rule == 1) = false
    · rw [if_pos hr] at h ⊢
      rw [fold_sum h]
      unfold onesL
      rw [List.filter_cons_of_neg (by simp [hr])]
    · rw [if_neg hr] at h ⊢
      have hr1 : (f.rule == 1) = true := by simpa using hr
      by_cases hz : g f = 0
      · rw [if_pos hz] at h; exact absurd rfl h
      · rw [if_neg hz] at h ⊢
        rw [fold_sum h]
        unfold onesL
        rw [List.filter_cons_of_pos (by simpa using hr1), sumF]; omega
theorem sumL_map {f : ValueM → Nat} {lf : FieldM → ValueM} {g : FieldM → Int} : ∀ {l : List FieldM}, (∀ x ∈ l, (f (lf x) : Int) = g x) → (sumL f (l.map lf) : Int) = sumF g l
  | [], _ => rfl
  | x :: r, h => by
    rw [List.map_cons, sumL, sumF, ← h x (by simp), ← sumL_map (l := r) fun y hy => h y (by simp [hy])]
    omega
theorem cnt_least {ts : BookM} (hg : goodM ts = 0) : ∀ {k m : Nat} {name : ByteArray} {t : TypeM}, k ≤ m → findM ts name = some t → leastM ts k name ≠ 0 → (cntM m (leastV ts k t) : Int) = leastM ts k name
  | 0, _, _, _, _, _, h => absurd rfl h
  | k + 1, 0, _, _, h, _, _ => by omega
  | k + 1, m + 1, name, t, hm, hf, h => by
    unfold leastM at h ⊢
    rw [hf] at h ⊢
    simp only at h ⊢
    split at h
    · exact absurd rfl h
    · rename_i hno
      rw [if_neg hno]
      have hall := leastFold_zero (fun f => if f.kind = 5 then leastM ts k f.type else 1) (fun f => by show 0 ≤ (if f.kind = 5 then leastM ts k f.type else 1); split; exact (leastM_bd ts k f.type).1; omega) t.fields 1 h
      rw [fold_sum h]
      show ((1 + sumL (cntM m) ((onesL t.fields).map (leastF ts (leastV ts k))) : Nat) : Int) = _
      rw [Int.natCast_add, sumL_map (g := fun f => if f.kind = 5 then leastM ts k f.type else 1)]
      · rfl
      · intro f hfm
        obtain ⟨f1, f2⟩ := ones_mem hfm
        have hnz := hall f f1 f2
        by_cases h5 : f.kind = 5
        · rw [if_pos h5] at hnz ⊢
          have hg5 : ∃ u, findM ts f.type = some u := by
            cases hu : findM ts f.type with
            | some u => exact ⟨u, rfl⟩
            | none =>
              cases k with
              | zero => exact absurd rfl hnz
              | succ k => unfold leastM at hnz; rw [hu] at hnz; exact absurd rfl hnz
          obtain ⟨u, hu⟩ := hg5
          have e : leastF ts (leastV ts k) f = leastV ts k u := by unfold leastF; rw [if_neg (by omega), if_pos h5, hu]; rfl
          rw [e]
          exact cnt_least hg (by omega) hu hnz
        · rw [if_neg h5]
          have e : (leastF ts (leastV ts k) f).l = [] := by unfold leastF; split; rfl; first | rfl | rw [if_neg h5]
          rw [cnt_leaf e]; rfl
theorem Msg.cnt {ts : BookM} (hg : goodM ts = 0) {t : TypeM} (h : Msg ts t) (m : Nat) : cntM m (leastV ts 4 t) ≤ 12 := by
  obtain ⟨name, hf, he⟩ := h
  obtain ⟨h1, h2⟩ := goodM_least hg _ (findM_mem hf) he
  rw [find_name hf] at h1 h2
  have := cnt_least hg (k := 4) (m := m + 4) (by omega) hf (by omega)
  have := cnt_mono (m := m) (n := m + 4) (v := leastV ts 4 t) (by omega)
  omega
theorem fill_cnt {ts : BookM} (hg : goodM ts = 0) {t : TypeM} (ht : Msg ts t) (m : Nat) : ∀ f ∈ t.fields, cntM m (leastF ts (leastV ts 4) f) ≤ 12 := fun f hf => by
  by_cases h5 : f.kind = 5
  · have e : leastF ts (leastV ts 4) f = leastV ts 4 (typeM ts f) := by unfold leastF; rw [if_neg (by omega), if_pos h5]; rfl
    rw [e]; exact (ht.sub hg hf h5).cnt hg m
  · have e : (leastF ts (leastV ts 4) f).l = [] := by unfold leastF; split; rfl; first | rfl | rw [if_neg h5]
    rw [cnt_leaf e]; omega
theorem fillM_sum {lf : FieldM → ValueM} {g : ValueM → Nat} : ∀ {l : List FieldM} {st : List Int × List ValueM}, (∀ f ∈ l, g (lf f) ≤ 12) → sumL g (fillM lf l st).2 ≤ sumL g st.2 + 12 * l.length
  | [], st, _ => by show sumL g st.2 ≤ _; omega
  | f :: l, st, h => by
    have ih := fillM_sum (l := l) (st := fillStep lf st f) fun x hx => h x (by simp [hx])
    have h1 := h f (by simp)
    have h2 : sumL g (fillStep lf st f).2 ≤ sumL g st.2 + 12 := by
      unfold fillStep
      split
      · simp only; rw [sumL_insAt]; omega
      · omega
    show sumL g (fillM lf l (fillStep lf st f)).2 ≤ _
    rw [List.length_cons]; omega
theorem partB_len {p : PartM} (h : p.good) : p.s.size + 2 ≤ (partB p).length := by
  unfold partB
  have h1 := sev_ne (headN p)
  rw [List.length_append]
  rcases h.2.2 with ⟨k0, _, _, hs⟩ | ⟨hk, _, _⟩
  · rw [if_pos k0, hs]
    have := sev_ne (foldN p.n)
    have : (⟨#[]⟩ : ByteArray).size = 0 := rfl
    omega
  · rw [if_neg (by omega), List.length_append, bytes_len]
    have := sev_ne p.s.size
    omega
def sumP (g : PartM → Nat) : List PartM → Nat
  | [] => 0
  | p :: r => g p + sumP g r
theorem sumP_len : ∀ {ps : List PartM}, (∀ p ∈ ps, p.good) → sumP (fun p => 31 * p.s.size + 61) ps ≤ 31 * (ps.flatMap partB).length
  | [], _ => by simp [sumP]
  | p :: r, h => by
    have ih := sumP_len (ps := r) fun q hq => h q (by simp [hq])
    have h1 := partB_len (h p (by simp))
    rw [sumP, List.flatMap_cons, List.length_append]; omega
theorem readL_sum {ts : BookM} {rec : FieldM → ByteArray → Int × ValueM} {t : TypeM} {m : Nat} (hrec : ∀ f s, f ∈ t.fields → f.kind = 5 → (rec f s).1 = 0 → cntM m (rec f s).2 ≤ 31 * s.size + 61) :
    ∀ {ps : List PartM} {prev : Option Int} {st r : List Int × List ValueM}, readL ts rec t prev ps st = (0, r) → sumL (cntM m) r.2 ≤ sumL (cntM m) st.2 + sumP (fun p => 31 * p.s.size + 61) ps
  | [], _, st, r, e => by
    simp only [readL, Prod.mk.injEq, true_and] at e
    rw [← e]; omega
  | p :: ps, prev, st, r, e => by
    rw [readL] at e
    split at e
    · rename_i hz; exact absurd (congrArg Prod.fst e) hz
    · rename_i hz
      have hz0 : stepE ts rec t prev p st = 0 := Decidable.byContradiction hz
      have ih := readL_sum hrec e
      have hs : sumL (cntM m) (stepV rec t p st).2 ≤ sumL (cntM m) st.2 + (31 * p.s.size + 61) := by
        unfold stepV
        cases hf : fieldM t p.id with
        | none => simp only; omega
        | some f =>
          simp only
          rw [sumL_append, sumL, sumL]
          by_cases h5 : f.kind = 5
          · rw [if_pos h5]
            have : (rec f p.s).1 = 0 := by
              unfold stepE at hz0
              split at hz0
              · cases hz0
              · rw [hf] at hz0
                simp only at hz0
                split at hz0
                · rename_i hw; exact absurd hz0 hw
                · split at hz0
                  · cases hz0
                  · first | exact hz0 | (rw [if_pos h5] at hz0; exact hz0)
            have := hrec f p.s (fieldM_mem hf) h5 this
            omega
          · rw [if_neg h5, cnt_leaf rfl]; omega
      rw [sumP]; omega
theorem decL_good {l : List UInt8} (h : decE l = 0) : l.length ≤ 20000 ∧ (∀ p ∈ decL l, p.good) ∧ l = (decL l).flatMap partB := by
  have hl : l.length ≤ 20000 := Decidable.byContradiction fun hl => by
    rw [(decE_long (l := l) (by omega)).1] at h; cases h
  refine ⟨hl, ?_⟩
  cases hd : decR l.length l with
  | none => rw [(decE_none hl hd).1] at h; cases h
  | some ps =>
    rw [(decE_some hl hd).2]
    exact enc_dec _ _ _ hd
theorem readF_out {ts : BookM} {rec : FieldM → ByteArray → Int × ValueM} {t : TypeM} {s : ByteArray} {v : ValueM} (h : readF ts rec t s = (0, v)) : decE s.data.toList = 0 ∧ ∃ st, readL ts rec t none (decL s.data.toList) ([], []) = (0, st) ∧ v = fillV ts t st := by
  unfold readF at h
  split at h
  · rename_i h1; exact absurd (congrArg Prod.fst h) h1
  · rename_i h1
    split at h
    · rename_i h2; exact absurd (congrArg Prod.fst h) h2
    · rename_i h2
      refine ⟨Decidable.byContradiction h1, (readL ts rec t none (decL s.data.toList) ([], [])).2, Prod.ext (Decidable.byContradiction h2) rfl, ?_⟩
      exact (congrArg Prod.snd h).symm
theorem read_cnt {ts : BookM} (hg : goodM ts = 0) : ∀ {k m : Nat} {t : TypeM} {s : ByteArray} {v : ValueM}, Msg ts t → readM ts k t s = (0, v) → cntM m v ≤ 31 * s.size + 61 := by
  intro k
  induction k with
  | zero =>
    intro m t s v ht h
    rw [readM_eq] at h
    obtain ⟨h1, st, h2, rfl⟩ := readF_out h
    obtain ⟨d1, d2, d3⟩ := decL_good h1
    cases m with
    | zero => show 1 ≤ _; omega
    | succ m =>
      have a := readL_sum (m := m) (fun f s _ _ h => by cases h) h2
      have b := fillM_sum (lf := leastF ts (leastV ts 4)) (g := cntM m) (st := st) (fill_cnt hg ht m)
      have c := ht.len hg
      have d := sumP_len d2
      rw [← d3, bytes_len] at d
      show 1 + sumL (cntM m) (fillM (leastF ts (leastV ts 4)) t.fields st).2 ≤ _
      simp only [sumL] at a
      omega
  | succ k ih =>
    intro m t s v ht h
    rw [readM_eq] at h
    obtain ⟨h1, st, h2, rfl⟩ := readF_out h
    obtain ⟨d1, d2, d3⟩ := decL_good h1
    cases m with
    | zero => show 1 ≤ _; omega
    | succ m =>
      have a := readL_sum (m := m) (fun f s hf h5 h => ih (ht.sub hg hf h5) (show readM ts k (typeM ts f) s = (0, (recM ts (k + 1) f s).2) from Prod.ext h rfl)) h2
      have b := fillM_sum (lf := leastF ts (leastV ts 4)) (g := cntM m) (st := st) (fill_cnt hg ht m)
      have c := ht.len hg
      have d := sumP_len d2
      rw [← d3, bytes_len] at d
      show 1 + sumL (cntM m) (fillM (leastF ts (leastV ts 4)) t.fields st).2 ≤ _
      simp only [sumL] at a
      omega
theorem read_small {ts : BookM} (hg : goodM ts = 0) {k m : Nat} {t : TypeM} {s : ByteArray} {v : ValueM} (ht : Msg ts t) (h : readM ts k t s = (0, v)) : cntM m v ≤ 1048576 := by
  have h1 := read_cnt (m := m) hg ht h
  rw [readM_eq] at h
  obtain ⟨h0, _⟩ := readF_out h
  have := (decL_good h0).1
  rw [bytes_len] at this
  omega
theorem len_sum {k : Nat} : ∀ (l : List ValueM), l.length ≤ sumL (cntM k) l
  | [] => Nat.le_refl _
  | a :: r => by rw [sumL, List.length_cons]; have := cnt_pos (k := k) (v := a); have := len_sum (k := k) r; omega
theorem TypedP.small {ts : BookM} (hg : goodM ts = 0) : ∀ {K k : Nat} {t : TypeM} {v : ValueM}, Msg ts t → TypedP ts k t v → Fits K v → cntM K v ≤ 1048576 → SmallV K v
  | 0, _, _, _, _, _, h, _ => h.elim
  | K + 1, 0, _, _, _, h, _, _ => h.elim
  | K + 1, k + 1, t, v, ht, ⟨h1, h2, h3, h4, h5, h6, h7⟩, hf, hc => by
    have hc' : 1 + sumL (cntM K) v.l ≤ 1048576 := hc
    have hl := len_sum (k := K) v.l
    refine ⟨by rw [h3]; decide, by omega, by omega, fun x hx => ?_⟩
    have hcx := sumL_mem (f := cntM K) hx
    have hfx := hf x hx
    obtain ⟨i, hi, rfl⟩ := List.getElem_of_mem hx
    rw [zip_get (P := OneP ts (TypedP ts k) t) h4] at h6
    obtain ⟨f, hff, hw, hr⟩ := h6 i (by omega)
    rcases one_cases hg ht (fieldM_mem hff) hw with ⟨_, _, _, _, a, b, c⟩ | ⟨_, _, _, a, b, c⟩ | ⟨k5, _⟩
    · cases K with
      | zero => exact hfx.elim
      | succ K => exact ⟨by rw [a]; decide, by rw [b]; simp, by rw [c]; simp, fun y hy => by rw [c] at hy; cases hy⟩
    · cases K with
      | zero => exact hfx.elim
      | succ K => exact ⟨by omega, by rw [b]; simp, by rw [c]; simp, fun y hy => by rw [c] at hy; cases hy⟩
    · exact TypedP.small hg (ht.sub hg (fieldM_mem hff) k5) (hr k5) hfx (by omega)

/-! Of nothing the least is read. -/
theorem fill_end {lf : FieldM → ValueM} : ∀ {l : List FieldM} {st : List Int × List ValueM}, (l.map (·.id)).Pairwise (fun x y => x < y) → (∀ a ∈ st.1, ∀ f ∈ l, a < f.id) → st.2.length = st.1.length → fillM lf l st = (st.1 ++ (onesL l).map (·.id), st.2 ++ (onesL l).map lf)
  | [], st, _, _, _ => by simp [fillM, onesL]
  | f :: l, st, hp, hlt, hl => by
    rw [List.map_cons, List.pairwise_cons] at hp
    show fillM lf l (fillStep lf st f) = _
    by_cases hr : f.rule = 1
    · have hnc : st.1.contains f.id = false := by
        cases e : st.1.contains f.id
        · rfl
        · have := hlt f.id (List.contains_iff_mem.1 e) f (by simp); omega
      have hcnt : st.1.countP (· < f.id) = st.1.length := by
        rw [List.countP_eq_length]
        intro a ha
        have := hlt a ha f (by simp)
        simpa using this
      have e : fillStep lf st f = (st.1 ++ [f.id], st.2 ++ [lf f]) := by
        unfold fillStep
        rw [if_pos ⟨hr, hnc⟩, hcnt, insAt_end, ← hl, insAt_end]
      have eo : onesL (f :: l) = f :: onesL l := by unfold onesL; rw [List.filter_cons_of_pos (by simp [hr])]
      rw [e, fill_end hp.2 _ (by simp [hl]), eo]
      · simp
      · intro a ha g hg
        rcases List.mem_append.1 ha with ha | ha
        · exact hlt a ha g (by simp [hg])
        · rw [List.mem_singleton] at ha
          rw [ha]
          exact hp.1 g.id (List.mem_map_of_mem hg)
    · have e : fillStep lf st f = st := by unfold fillStep; rw [if_neg (fun h => hr h.1)]
      have eo : onesL (f :: l) = onesL l := by unfold onesL; rw [List.filter_cons_of_neg (by simp [hr])]
      rw [e, fill_end hp.2 (fun a ha g hg => hlt a ha g (by simp [hg])) hl, eo]
theorem least_fuel {ts : BookM} : ∀ {k : Nat} {t : TypeM}, LeOk ts k t → leastV ts (k + 1) t = leastV ts k t
  | 0, _, h => h.elim
  | k + 1, t, ⟨_, h⟩ => by
    show (⟨2, 0, ⟨#[]⟩, (onesL t.fields).map (·.id), (onesL t.fields).map (leastF ts (leastV ts (k + 1)))⟩ : ValueM) = ⟨2, 0, ⟨#[]⟩, (onesL t.fields).map (·.id), (onesL t.fields).map (leastF ts (leastV ts k))⟩
    congr 1
    refine List.map_congr_left fun f hf => ?_
    obtain ⟨f1, f2⟩ := ones_mem hf
    unfold leastF
    split
    · rfl
    · split
      · rename_i h5
        exact least_fuel ((h f f1 f2).2 h5)
      · rfl
theorem read_none {ts : BookM} (hg : goodM ts = 0) {t : TypeM} (ht : Msg ts t) (k : Nat) : readM ts k t ⟨#[]⟩ = (0, leastV ts 4 t) := by
  have d : decE ([] : List UInt8) = 0 ∧ decL ([] : List UInt8) = [] := decE_some (by simp) rfl
  have hd1 : decE (⟨#[]⟩ : ByteArray).data.toList = 0 := d.1
  have hr : readL ts (recM ts k) t none (decL (⟨#[]⟩ : ByteArray).data.toList) ([], []) = (0, ([], [])) := by
    show readL ts (recM ts k) t none (decL []) ([], []) = _
    rw [d.2]; rfl
  rw [readM_eq]
  unfold readF
  rw [hd1, hr, if_neg (by simp), if_neg (by simp)]
  congr 1
  unfold fillV
  rw [fill_end (ht.rises hg) (fun a ha => by cases ha) rfl]
  rw [← least_fuel (ht.le hg)]
  simp [leastV]
end Go.Proofs.YtidcagcdaanijaaDoor

