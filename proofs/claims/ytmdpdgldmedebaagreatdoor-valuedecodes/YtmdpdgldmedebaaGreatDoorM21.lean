import Derived.Test.YtmdpdgldmedebaaGreatDoorM20
namespace Go.Proofs.YtmdpdgldmedebaaGreatDoor
set_option linter.unusedSimpArgs false
set_option linter.unusedVariables false
set_option linter.unusedSimpArgs false
set_option linter.unusedVariables false
open Go.RowKit

/-! What Decode makes of bytes, and what a value of a type is: plain functions, nothing of the program. -/
theorem fieldM_id {t : TypeM} {id : Int} {f : FieldM} (h : fieldM t id = some f) : f.id = id := by
  have := List.find?_some h
  simpa using this
theorem fieldM_mem {t : TypeM} {id : Int} {f : FieldM} (h : fieldM t id = some f) : f ∈ t.fields := List.mem_of_find?_eq_some h
/-- A message of a good book. -/
def Msg (ts : BookM) (t : TypeM) : Prop := ∃ name, findM ts name = some t ∧ t.enum = false
theorem Msg.good {ts : BookM} (hg : goodM ts = 0) {t : TypeM} (h : Msg ts t) : GoodT ts t := by
  obtain ⟨name, hf, _⟩ := h
  exact (goodM_out hg).2 t (findM_mem hf)
theorem Msg.field {ts : BookM} (hg : goodM ts = 0) {t : TypeM} (h : Msg ts t) {f : FieldM} (hf : f ∈ t.fields) : goodFieldM ts f = true ∧ (1 ≤ f.kind ∧ f.kind ≤ 5) ∧ 1 ≤ f.id ∧ f.id ≤ 30 := by
  have g := h.good hg
  obtain ⟨_, _, he⟩ := h
  obtain ⟨_, _, h3, _, h5⟩ := g.msg he
  have hk := (goodField_out (h3 f hf)).2
  have hi := (risingL_out (goodIds_out h5).1).2 f.id (List.mem_map_of_mem hf)
  exact ⟨h3 f hf, hk, hi⟩
theorem Msg.rises {ts : BookM} (hg : goodM ts = 0) {t : TypeM} (h : Msg ts t) : (t.fields.map (·.id)).Pairwise (fun x y => x < y) := by
  have g := h.good hg
  obtain ⟨_, _, he⟩ := h
  obtain ⟨_, _, _, _, h5⟩ := g.msg he
  exact (risingL_out (goodIds_out h5).1).1
theorem Msg.len {ts : BookM} (hg : goodM ts = 0) {t : TypeM} (h : Msg ts t) : t.fields.length ≤ 5 := by
  have g := h.good hg
  obtain ⟨_, _, he⟩ := h
  exact (g.msg he).2.1
theorem Msg.sub {ts : BookM} (hg : goodM ts = 0) {t : TypeM} (h : Msg ts t) {f : FieldM} (hf : f ∈ t.fields) (h5 : f.kind = 5) : Msg ts ((findM ts f.type).getD TypeM.zero) := by
  obtain ⟨u, hu, hue⟩ := good_type (h.field hg hf).1 (.inr h5)
  rw [hu]
  exact ⟨f.type, hu, by rw [show (some u).getD TypeM.zero = u from rfl, hue, h5]; rfl⟩
theorem Msg.enum {ts : BookM} (hg : goodM ts = 0) {t : TypeM} (h : Msg ts t) {f : FieldM} (hf : f ∈ t.fields) (h4 : f.kind = 4) : 1 ≤ ((findM ts f.type).getD TypeM.zero).items.length ∧ ∀ i ∈ ((findM ts f.type).getD TypeM.zero).items, -1099511627776 ≤ i.n ∧ i.n ≤ 1099511627776 := by
  obtain ⟨u, hu, hue⟩ := good_type (h.field hg hf).1 (.inl h4)
  have gu := (goodM_out hg).2 u (findM_mem hu)
  rw [hu]
  have he : u.enum = true := by rw [hue, h4]; rfl
  obtain ⟨_, _, h1, _, _, h6⟩ := gu.enum he
  exact ⟨h1, fun i hi => (risingL_out h6).2 i.n (List.mem_map_of_mem hi)⟩
theorem find_of_rises : ∀ {l : List FieldM} {f : FieldM}, (l.map (·.id)).Pairwise (fun x y => x < y) → f ∈ l → l.find? (fun g => g.id == f.id) = some f
  | [], _, _, h => absurd h List.not_mem_nil
  | a :: r, f, hp, h => by
    rw [List.map_cons, List.pairwise_cons] at hp
    rcases List.mem_cons.1 h with rfl | h
    · rw [List.find?_cons_of_pos (by simp)]
    · have hlt := hp.1 f.id (List.mem_map_of_mem h)
      rw [List.find?_cons_of_neg (by simp; omega)]
      exact find_of_rises hp.2 h
theorem Msg.find {ts : BookM} (hg : goodM ts = 0) {t : TypeM} (h : Msg ts t) {f : FieldM} (hf : f ∈ t.fields) : fieldM t f.id = some f := find_of_rises (h.rises hg) hf

/-- How an id may stand behind another one. -/
def NxtOk (t : TypeM) (a b : Int) : Prop := a ≤ b ∧ (a = b → ∀ f, fieldM t b = some f → f.rule = 3)
theorem NxtOk.trans {t : TypeM} {a b c : Int} (h : NxtOk t a b) (k : NxtOk t b c) : NxtOk t a c := ⟨Int.le_trans h.1 k.1, fun e => k.2 (by have := h.1; have := k.1; omega)⟩
/-- One of a field, by its id. -/
def OneP (ts : BookM) (rec : TypeM → ValueM → Prop) (t : TypeM) (id : Int) (x : ValueM) : Prop :=
  ∃ f, fieldM t id = some f ∧ wrongOneN ts f x.kind x.n x.s x.ids.length x.l.length = 0 ∧ (f.kind = 5 → rec ((findM ts f.type).getD TypeM.zero) x)
/-- One of a type. -/
def TypedP (ts : BookM) : Nat → TypeM → ValueM → Prop
  | 0, _, _ => False
  | k + 1, t, v => v.kind = 2 ∧ v.n = 0 ∧ v.s = ⟨#[]⟩ ∧ v.l.length = v.ids.length ∧ v.ids.Pairwise (NxtOk t) ∧ (∀ p ∈ v.ids.zip v.l, OneP ts (TypedP ts k) t p.1 p.2) ∧ lacksB t v.ids = false
theorem OneP.mono {ts : BookM} {r r' : TypeM → ValueM → Prop} {t : TypeM} {id : Int} {x : ValueM} (h : OneP ts r t id x) (hr : ∀ u, r u x → r' u x) : OneP ts r' t id x := by
  obtain ⟨f, h1, h2, h3⟩ := h
  exact ⟨f, h1, h2, fun h5 => hr _ (h3 h5)⟩
theorem TypedP.succ {ts : BookM} : ∀ {k : Nat} {t : TypeM} {v : ValueM}, TypedP ts k t v → TypedP ts (k + 1) t v
  | 0, _, _, h => h.elim
  | _ + 1, _, _, ⟨h1, h2, h3, h4, h5, h6, h7⟩ => ⟨h1, h2, h3, h4, h5, fun p hp => (h6 p hp).mono fun _ h => h.succ, h7⟩
theorem TypedP.le {ts : BookM} {k m : Nat} {t : TypeM} {v : ValueM} (h : TypedP ts k t v) (hm : k ≤ m) : TypedP ts m t v := by
  obtain ⟨d, rfl⟩ := Nat.exists_eq_add_of_le hm
  induction d with
  | zero => exact h
  | succ d ih => exact (ih (by omega)).succ
theorem firstE_zero {p : Nat → Int} : ∀ {n i : Nat}, firstE p i n = 0 ↔ ∀ j, i ≤ j → j < i + n → p j = 0
  | 0, i => by
    rw [firstE]
    exact ⟨fun _ j h1 h2 => by omega, fun _ => rfl⟩
  | n + 1, i => by
    rw [firstE]
    by_cases h : p i = 0
    · rw [if_neg (by simp [h]), firstE_zero]
      refine ⟨fun H j h1 h2 => ?_, fun H j h1 h2 => H j (by omega) (by omega)⟩
      by_cases e : j = i
      · rw [e]; exact h
      · exact H j (by omega) (by omega)
    · rw [if_pos (by simpa using h)]
      exact ⟨fun e => absurd e h, fun H => absurd (H i (Nat.le_refl _) (by omega)) h⟩
theorem one2 {n : Int} {s : ByteArray} {ni nl : Nat} : oneKindB 2 n s ni nl = true ↔ n = 0 ∧ s = ⟨#[]⟩ := by
  unfold oneKindB
  rw [← isEmpty_iff]
  simp
theorem order_zero {t : TypeM} {ids : List Int} {i : Nat} (hi : i < ids.length) {f : FieldM} (hf : fieldM t ids[i] = some f) : orderN f (ids.take i) = 0 ↔ (∀ h : 0 < i, NxtOk t (ids[i - 1]'(by omega)) ids[i]) := by
  have hid := fieldM_id hf
  have hl : (ids.take i).length = i := by rw [List.length_take]; omega
  unfold orderN
  rw [hl]
  by_cases h0 : i = 0
  · rw [if_pos h0]
    exact ⟨fun _ h => by omega, fun _ => rfl⟩
  · rw [if_neg h0]
    have hg : (ids.take i).getD (i - 1) 0 = ids[i - 1]'(by omega) := by
      rw [List.getD_eq_getElem?_getD, List.getElem?_take, if_pos (by omega), List.getElem?_eq_getElem (by omega)]; rfl
    rw [hg, hid]
    unfold NxtOk
    constructor
    · intro H _
      split at H
      · cases H
      · rename_i h1
        split at H
        · cases H
        · rename_i h2
          refine ⟨by omega, fun e g hgf => ?_⟩
          rw [hf] at hgf
          cases hgf
          exact Decidable.byContradiction fun hr => h2 ⟨e, hr⟩
    · intro H
      obtain ⟨h1, h2⟩ := H (by omega)
      rw [if_neg (by omega), if_neg]
      rintro ⟨e, hr⟩
      exact hr (h2 e f hf)
theorem zip_get {ids : List Int} {l : List ValueM} (hl : l.length = ids.length) {P : Int → ValueM → Prop} : (∀ p ∈ ids.zip l, P p.1 p.2) ↔ ∀ i (h : i < ids.length), P ids[i] (l[i]'(by omega)) := by
  constructor
  · intro H i h
    refine H (ids[i], l[i]'(by omega)) ?_
    have : (ids.zip l)[i]? = some (ids[i], l[i]'(by omega)) := by rw [List.getElem?_zip_eq_some]; exact ⟨by simp, by simp⟩
    exact List.mem_of_getElem? this
  · intro H p hp
    obtain ⟨i, hi, rfl⟩ := List.getElem_of_mem hp
    rw [List.getElem_zip]
    exact H i (by rw [List.length_zip] at hi; omega)
theorem wrongAt_zero {ts : BookM} {rec : TypeM → ValueM → Int} {t : TypeM} {v : ValueM} (hl : v.l.length = v.ids.length) {i : Nat} (hi : i < v.ids.length) : wrongAt ts rec t v i = 0 ↔ ∃ f, fieldM t v.ids[i] = some f ∧ orderN f (v.ids.take i) = 0 ∧ wrongOneN ts f (v.l[i]'(by omega)).kind (v.l[i]'(by omega)).n (v.l[i]'(by omega)).s (v.l[i]'(by omega)).ids.length (v.l[i]'(by omega)).l.length = 0 ∧ (f.kind = 5 → rec ((findM ts f.type).getD TypeM.zero) (v.l[i]'(by omega)) = 0) := by
  unfold wrongAt
  rw [show v.ids.getD i 0 = v.ids[i] by simp [List.getD, hi], show v.l.getD i ValueM.zero = v.l[i]'(by omega) by simp [List.getD, show i < v.l.length by omega]]
  cases hf : fieldM t v.ids[i] with
  | none => simp
  | some f =>
    simp only [Option.isSome_some, Bool.true_eq_false, if_false, Option.getD_some]
    constructor
    · intro H
      refine ⟨f, rfl, ?_⟩
      split at H
      · rename_i h; exact absurd H h
      · rename_i h1
        split at H
        · rename_i h; exact absurd H h
        · rename_i h2
          refine ⟨by simpa using h1, by simpa using h2, fun h5 => ?_⟩
          rw [if_neg (by simp [h5])] at H
          exact H
    · rintro ⟨g, hg, h1, h2, h3⟩
      cases hg
      rw [if_neg (by simp [h1]), if_neg (by simp [h2])]
      by_cases h5 : f.kind = 5
      · rw [if_neg (by simp [h5])]; exact h3 h5
      · rw [if_pos h5]
theorem wrong_typed {ts : BookM} : ∀ {k : Nat} {t : TypeM} {v : ValueM}, Fits k v → wrongM ts k t v = 0 → TypedP ts k t v
  | 0, _, _, h, _ => h.elim
  | k + 1, t, v, hfit, h => by
    rw [wrongM] at h
    split at h
    · cases h
    · rename_i hk
      have hk2 : v.kind = 2 := Decidable.byContradiction hk
      split at h
      · cases h
      · rename_i hl
        have hlen : v.l.length = v.ids.length := Decidable.byContradiction fun e => hl (.inl e)
        have hone : oneKindB v.kind v.n v.s v.ids.length v.l.length = true := by
          cases e : oneKindB v.kind v.n v.s v.ids.length v.l.length
          · exact absurd (.inr e) hl
          · rfl
        rw [hk2] at hone
        obtain ⟨hn, hs⟩ := one2.1 hone
        split at h
        · rename_i hf; exact absurd h hf
        · rename_i hf
          have hf0 := firstE_zero.1 (Decidable.byContradiction hf)
          have hlk : lacksB t v.ids = false := by
            cases e : lacksB t v.ids
            · rfl
            · rw [if_pos e] at h; cases h
          have hat : ∀ i (hi : i < v.ids.length), _ := fun i hi => (wrongAt_zero hlen hi).1 (hf0 i (Nat.zero_le _) (by omega))
          refine ⟨hk2, hn, hs, hlen, ?_, ?_, hlk⟩
          · refine pairwise_next (fun a b c h1 h2 => h1.trans h2) v.ids fun i x y hx hy => ?_
            obtain ⟨h2, rfl⟩ := List.getElem?_eq_some_iff.1 hy
            obtain ⟨h1, rfl⟩ := List.getElem?_eq_some_iff.1 hx
            obtain ⟨f, hf, ho, _⟩ := hat (i + 1) h2
            have := (order_zero h2 hf).1 ho (by omega)
            simpa using this
          · rw [zip_get (P := OneP ts (TypedP ts k) t) hlen]
            intro i hi
            obtain ⟨f, hf, _, hw, hr⟩ := hat i hi
            exact ⟨f, hf, hw, fun h5 => wrong_typed (hfit _ (List.getElem_mem _)) (hr h5)⟩
theorem typed_wrong {ts : BookM} : ∀ {k : Nat} {t : TypeM} {v : ValueM}, TypedP ts k t v → wrongM ts k t v = 0
  | 0, _, _, h => h.elim
  | k + 1, t, v, ⟨h1, h2, h3, h4, h5, h6, h7⟩ => by
    rw [zip_get (P := OneP ts (TypedP ts k) t) h4] at h6
    have hz : firstE (wrongAt ts (wrongM ts k) t v) 0 v.ids.length = 0 := firstE_zero.2 fun i _ hi => by
      have hi' : i < v.ids.length := by omega
      obtain ⟨f, hf, hw, hr⟩ := h6 i hi'
      refine (wrongAt_zero h4 hi').2 ⟨f, hf, (order_zero hi' hf).2 fun h0 => ?_, hw, fun h5 => typed_wrong (hr h5)⟩
      exact List.pairwise_iff_getElem.1 h5 (i - 1) i (by omega) hi' (by omega)
    rw [wrongM, if_neg (by simp [h1]), if_neg (by rw [h1, one2.2 ⟨h2, h3⟩]; simp [h4]), if_neg (by simp [hz]), h7]
    simp
theorem TypedP.fits {ts : BookM} (hg : goodM ts = 0) : ∀ {k : Nat} {t : TypeM} {v : ValueM}, Msg ts t → TypedP ts k t v → Fits (k + 1) v
  | 0, _, _, _, h => h.elim
  | k + 1, t, v, ht, ⟨h1, h2, h3, h4, h5, h6, h7⟩ => fun x hx => by
    obtain ⟨i, hi, rfl⟩ := List.getElem_of_mem hx
    rw [zip_get (P := OneP ts (TypedP ts k) t) h4] at h6
    obtain ⟨f, hf, hw, hr⟩ := h6 i (by omega)
    by_cases h5 : f.kind = 5
    · exact TypedP.fits hg (ht.sub hg (fieldM_mem hf) h5) (hr h5)
    · have hk := (ht.field hg (fieldM_mem hf)).2.1
      intro y hy
      unfold wrongOneN at hw
      split at hw
      · cases hw
      · rename_i hkk
        have hkk2 : v.l[i].kind ≠ 2 := by
          have : v.l[i].kind = kindN f.kind := Decidable.byContradiction hkk
          rw [this]; unfold kindN; split <;> simp_all
        split at hw
        · cases hw
        · rename_i ho
          have : oneKindB v.l[i].kind v.l[i].n v.l[i].s v.l[i].ids.length v.l[i].l.length = true := by simpa using ho
          unfold oneKindB at this
          have hl0 : v.l[i].l.length = 0 := by
            simp only [Bool.and_eq_true, Bool.not_eq_true', Bool.and_eq_false_iff, decide_eq_false_iff_not, Bool.or_eq_false_iff] at this
            rcases this.1.1 with h | h
            · exact absurd hkk2 h
            · omega
          rw [List.length_eq_zero_iff.1 hl0] at hy
          cases hy
end Go.Proofs.YtmdpdgldmedebaaGreatDoor

namespace Go.Proofs.YtmdpdgldmedebaaGreatDoor
set_option linter.unusedSimpArgs false
set_option linter.unusedVariables false
open Go.RowKit

/-! What Encode writes of a value of a type: its bytes can be made. -/
theorem sev_lenZ : ∀ {n u : Nat}, u < 128 ^ (n + 1) → (sev u).length ≤ n + 1
  | 0, u, h => by rw [sev_small (by simpa using h)]; simp
  | n + 1, u, h => by
    by_cases hu : u < 128
    · rw [sev_small hu]; simp
    · rw [sev_large hu, List.length_cons]
      have : u / 128 < 128 ^ (n + 1) := by rw [Nat.div_lt_iff_lt_mul (by omega), ← Nat.pow_succ]; exact h
      have := sev_lenZ this
      omega
theorem kindN_cases {k : Int} (h : 1 ≤ k ∧ k ≤ 5) : (k = 3 ∧ kindN k = 1) ∨ (k = 5 ∧ kindN k = 2) ∨ (k ≠ 3 ∧ k ≠ 5 ∧ kindN k = 0) := by
  unfold kindN
  by_cases h3 : k = 3
  · exact .inl ⟨h3, by rw [if_pos h3]⟩
  · by_cases h5 : k = 5
    · exact .inr (.inl ⟨h5, by rw [if_neg h3, if_pos h5]⟩)
    · exact .inr (.inr ⟨h3, h5, by rw [if_neg h3, if_neg h5]⟩)
/-- What a value is that is one of a field. -/
theorem one_cases {ts : BookM} (hg : goodM ts = 0) {t : TypeM} (ht : Msg ts t) {f : FieldM} (hf : f ∈ t.fields) {x : ValueM} (h : wrongOneN ts f x.kind x.n x.s x.ids.length x.l.length = 0) :
    (f.kind ≠ 5 ∧ f.kind ≠ 3 ∧ x.kind = 0 ∧ (-1099511627776 ≤ x.n ∧ x.n ≤ 1099511627776) ∧ x.s = ⟨#[]⟩ ∧ x.ids = [] ∧ x.l = []) ∨ (f.kind = 3 ∧ x.kind = 1 ∧ x.n = 0 ∧ x.s.size ≤ 40 ∧ x.ids = [] ∧ x.l = []) ∨ (f.kind = 5 ∧ x.kind = 2 ∧ x.n = 0 ∧ x.s = ⟨#[]⟩) := by
  have hk := (ht.field hg hf).2.1
  unfold wrongOneN at h
  split at h
  · cases h
  · rename_i h1
    have e1 : x.kind = kindN f.kind := Decidable.byContradiction h1
    split at h
    · cases h
    · rename_i h2
      have e2 : oneKindB x.kind x.n x.s x.ids.length x.l.length = true := by simpa using h2
      unfold oneKindB at e2
      rw [← isEmpty_iff]
      rcases kindN_cases hk with ⟨k3, kk⟩ | ⟨k5, kk⟩ | ⟨k3, k5, kk⟩
      · refine .inr (.inl ?_)
        rw [e1, kk] at e2
        simp at e2
        rw [if_neg (by omega), if_neg (by omega), if_pos k3] at h
        refine ⟨k3, by rw [e1, kk], e2.2, ?_, e2.1.1, e2.1.2⟩
        split at h
        · rename_i ht
          unfold goodTextB at ht
          rw [Bool.and_eq_true] at ht
          simpa using ht.1
        · cases h
      · refine .inr (.inr ?_)
        rw [e1, kk] at e2
        simp at e2
        exact ⟨k5, by rw [e1, kk], e2.1, by simpa using e2.2⟩
      · refine .inl ?_
        rw [e1, kk] at e2
        simp at e2
        refine ⟨k5, k3, by rw [e1, kk], ?_, by simpa using e2.2, e2.1.1, e2.1.2⟩
        by_cases c1 : f.kind = 1
        · rw [if_pos c1] at h
          split at h
          · cases h
          · rename_i hn
            have : x.n = 0 ∨ x.n = 1 := by omega
            omega
        · rw [if_neg c1] at h
          by_cases c2 : f.kind = 2
          · rw [if_pos c2] at h
            split at h
            · cases h
            · omega
          · rw [if_neg c2, if_neg k3] at h
            have c4 : f.kind = 4 := by omega
            rw [if_pos c4] at h
            split at h
            · rename_i ha
              rw [List.any_eq_true] at ha
              obtain ⟨i, hi, e⟩ := ha
              have := (ht.enum hg hf c4).2 i hi
              have e' : i.n = x.n := by simpa using e
              omega
            · cases h
theorem part_ok {ts : BookM} (hg : goodM ts = 0) {t : TypeM} (ht : Msg ts t) {k : Nat} {id : Int} {x : ValueM} (h : OneP ts (fun _ _ => True) t id x) (hin : x.kind = 2 → (encV k x).length + 42 ≤ 42 * cntM k x) (hc : cntM k x ≤ 400) :
    (partV (encV k) id x).good ∧ (partB (partV (encV k) id x)).length ≤ 42 * cntM k x := by
  obtain ⟨f, hf, hw, _⟩ := h
  have hm := fieldM_mem hf
  have hi := fieldM_id hf
  have hb := (ht.field hg hm).2.2
  have h1 := cnt_pos (k := k) (v := x)
  have hh : ∀ {n : Int} {s : ByteArray} {kd : Int}, 0 ≤ kd → kd ≤ 2 → (sev (headN ⟨id, kd, n, s⟩)).length = 1 := fun h0 h2 => by
    rw [sev_small (by unfold headN; simp only; omega)]; rfl
  rcases one_cases hg ht hm hw with ⟨_, _, k0, hn, hs, _, _⟩ | ⟨_, k1, hn, hs, _, _⟩ | ⟨_, k2, hn, hs⟩
  · have e : partV (encV k) id x = ⟨id, 0, x.n, ⟨#[]⟩⟩ := by unfold partV; rw [if_neg (by omega), k0, hs]
    rw [e]
    refine ⟨⟨by simp only; omega, by simp only; omega, .inl ⟨rfl, hn.1, hn.2, rfl⟩⟩, ?_⟩
    unfold partB
    rw [List.length_append, hh (by omega) (by omega)]
    simp only [if_true]
    have := sev_lenZ (fold_lt hn.1 hn.2)
    omega
  · have e : partV (encV k) id x = ⟨id, 1, 0, x.s⟩ := by unfold partV; rw [if_neg (by omega), k1, hn]
    rw [e]
    refine ⟨⟨by simp only; omega, by simp only; omega, .inr ⟨.inl rfl, rfl, by simp only; omega⟩⟩, ?_⟩
    unfold partB
    rw [List.length_append, hh (by omega) (by omega)]
    simp only [show ¬ (1 : Int) = 0 by omega, if_false, List.length_append, bytes_len]
    rw [sev_small (by omega)]
    simp; omega
  · have e : partV (encV k) id x = ⟨id, 2, 0, ⟨(encV k x).toArray⟩⟩ := by unfold partV; rw [if_pos k2, k2, hn]
    have hl := hin k2
    have hz : (⟨(encV k x).toArray⟩ : ByteArray).size = (encV k x).length := by simp [ByteArray.size]
    rw [e]
    refine ⟨⟨by simp only; omega, by simp only; omega, .inr ⟨.inr rfl, rfl, by simp only; omega⟩⟩, ?_⟩
    unfold partB
    rw [List.length_append, hh (by omega) (by omega)]
    simp only [show ¬ (2 : Int) = 0 by omega, if_false, List.length_append, bytes_len, hz]
    have := sev_lenZ (n := 2) (u := (encV k x).length) (by rw [show (128 : Nat) ^ (2 + 1) = 2097152 by decide]; omega)
    omega
theorem parts_ok {ts : BookM} {t : TypeM} {k : Nat} : ∀ {ids : List Int} {l : List ValueM}, l.length = ids.length → (∀ p ∈ ids.zip l, (partV (encV k) p.1 p.2).good ∧ (partB (partV (encV k) p.1 p.2)).length ≤ 42 * cntM k p.2) →
    (∀ p ∈ List.zipWith (partV (encV k)) ids l, p.good) ∧ ((List.zipWith (partV (encV k)) ids l).flatMap partB).length ≤ 42 * sumL (cntM k) l
  | [], [], _, _ => ⟨fun p hp => by simp at hp, by simp⟩
  | [], _ :: _, h, _ => by simp at h
  | _ :: _, [], h, _ => by simp at h
  | id :: ids, x :: l, h, hall => by
    obtain ⟨i1, i2⟩ := parts_ok (ts := ts) (t := t) (ids := ids) (l := l) (by simpa using h) fun p hp => hall p (by simp [hp])
    obtain ⟨a1, a2⟩ := hall (id, x) (by simp)
    refine ⟨fun p hp => ?_, ?_⟩
    · rw [List.zipWith_cons_cons] at hp
      rcases List.mem_cons.1 hp with rfl | hp
      · exact a1
      · exact i1 p hp
    · rw [List.zipWith_cons_cons, List.flatMap_cons, List.length_append, sumL]
      simp only at a2
      omega
theorem TypedP.enc {ts : BookM} (hg : goodM ts = 0) : ∀ {k : Nat} {t : TypeM} {v : ValueM}, Msg ts t → Fits k v → TypedP ts k t v → cntM k v ≤ 400 → EncOk k v ∧ (encV k v).length + 42 ≤ 42 * cntM k v
  | 0, _, _, _, _, h, _ => h.elim
  | k + 1, t, v, ht, hfit, ⟨h1, h2, h3, h4, h5, h6, h7⟩, hc => by
    have hc' : 1 + sumL (cntM k) v.l ≤ 400 := hc
    have hcx : ∀ x ∈ v.l, cntM k x ≤ 400 := fun x hx => by have := sumL_mem (f := cntM k) hx; omega
    have hsub : ∀ p ∈ v.ids.zip v.l, p.2.kind = 2 → EncOk k p.2 ∧ (encV k p.2).length + 42 ≤ 42 * cntM k p.2 := fun p hp hk2 => by
      obtain ⟨f, hf, hw, hr⟩ := h6 p hp
      have hx := (List.of_mem_zip hp).2
      rcases one_cases hg ht (fieldM_mem hf) hw with ⟨_, _, k0, _⟩ | ⟨_, k1, _⟩ | ⟨k5, _⟩
      · omega
      · omega
      · exact TypedP.enc hg (ht.sub hg (fieldM_mem hf) k5) (hfit p.2 hx) (hr k5) (hcx p.2 hx)
    obtain ⟨g1, g2⟩ := parts_ok (ts := ts) (t := t) (k := k) h4 fun p hp => part_ok hg ht ((h6 p hp).mono fun _ _ => trivial) (fun hk2 => (hsub p hp hk2).2) (hcx p.2 (List.of_mem_zip hp).2)
    refine ⟨⟨h4, ?_, fun x hx hk2 => ?_, g1, ?_⟩, ?_⟩
    · have : v.l.length ≤ sumL (cntM k) v.l := by
        clear hc hc' hcx hsub g1 g2 h6 h4 h5 h7 hfit
        induction v.l with
        | nil => simp
        | cons a r ih => rw [sumL, List.length_cons]; have := cnt_pos (k := k) (v := a); omega
      omega
    · obtain ⟨i, hi, rfl⟩ := List.getElem_of_mem hx
      refine (hsub (v.ids[i]'(by omega), v.l[i]) ?_ hk2).1
      have : (v.ids.zip v.l)[i]? = some (v.ids[i]'(by omega), v.l[i]) := by rw [List.getElem?_zip_eq_some]; exact ⟨by simp, by simp⟩
      exact List.mem_of_getElem? this
    · show ((List.zipWith (partV (encV k)) v.ids v.l).flatMap partB).length ≤ 20000
      omega
    · show ((List.zipWith (partV (encV k)) v.ids v.l).flatMap partB).length + 42 ≤ 42 * (1 + sumL (cntM k) v.l)
      omega
end Go.Proofs.YtmdpdgldmedebaaGreatDoor

namespace Go.Proofs.YtmdpdgldmedebaaGreatDoor
set_option linter.unusedSimpArgs false
set_option linter.unusedVariables false
open Go.RowKit

/-! What read makes of bytes. -/
def typeM (ts : BookM) (f : FieldM) : TypeM := (findM ts f.type).getD TypeM.zero
/-- What is wrong with a part behind those that were read. -/
def fellB (prev : Option Int) (id : Int) : Bool := match prev with | some q => decide (id < q) | none => false
def stepE (ts : BookM) (rec : FieldM → ByteArray → Int × ValueM) (t : TypeM) (prev : Option Int) (p : PartM) (st : List Int × List ValueM) : Int :=
  if fellB prev p.id = true then 1
  else match fieldM t p.id with
    | none => 0
    | some f => if wrongOneN ts f (bareM p).kind (bareM p).n (bareM p).s 0 0 ≠ 0 then wrongOneN ts f (bareM p).kind (bareM p).n (bareM p).s 0 0
      else if f.rule ≠ 3 ∧ st.1.contains f.id = true then 4
      else if f.kind = 5 then (rec f p.s).1 else 0
def stepV (rec : FieldM → ByteArray → Int × ValueM) (t : TypeM) (p : PartM) (st : List Int × List ValueM) : List Int × List ValueM :=
  match fieldM t p.id with
  | none => st
  | some f => (st.1 ++ [f.id], st.2 ++ [if f.kind = 5 then (rec f p.s).2 else bareM p])
def readL (ts : BookM) (rec : FieldM → ByteArray → Int × ValueM) (t : TypeM) : Option Int → List PartM → List Int × List ValueM → Int × (List Int × List ValueM)
  | _, [], st => (0, st)
  | prev, p :: r, st => if stepE ts rec t prev p st ≠ 0 then (stepE ts rec t prev p st, ([], [])) else readL ts rec t (some p.id) r (stepV rec t p st)
def fillV (ts : BookM) (t : TypeM) (st : List Int × List ValueM) : ValueM := ⟨2, 0, ⟨#[]⟩, (fillM (leastF ts (leastV ts 4)) t.fields st).1, (fillM (leastF ts (leastV ts 4)) t.fields st).2⟩
def readF (ts : BookM) (rec : FieldM → ByteArray → Int × ValueM) (t : TypeM) (s : ByteArray) : Int × ValueM :=
  if decE s.data.toList ≠ 0 then (decE s.data.toList, ValueM.zero)
  else if (readL ts rec t none (decL s.data.toList) ([], [])).1 ≠ 0 then ((readL ts rec t none (decL s.data.toList) ([], [])).1, ValueM.zero)
  else (0, fillV ts t (readL ts rec t none (decL s.data.toList) ([], [])).2)
def noRec : FieldM → ByteArray → Int × ValueM := fun _ _ => (7, ValueM.zero)
def readM (ts : BookM) : Nat → TypeM → ByteArray → Int × ValueM
  | 0, t, s => readF ts noRec t s
  | k + 1, t, s => readF ts (fun f s => readM ts k (typeM ts f) s) t s
def recM (ts : BookM) : Nat → FieldM → ByteArray → Int × ValueM
  | 0 => noRec
  | k + 1 => fun f s => readM ts k (typeM ts f) s
theorem readM_eq (ts : BookM) (k : Nat) (t : TypeM) (s : ByteArray) : readM ts k t s = readF ts (recM ts k) t s := by cases k <;> rfl

theorem decR_enc {ps : List PartM} (hg : ∀ p ∈ ps, p.good) (hl : (ps.flatMap partB).length ≤ 20000) : decE (ps.flatMap partB) = 0 ∧ decL (ps.flatMap partB) = ps :=
  decE_some hl (dec_enc ps _ hg (Nat.le_refl _))

theorem bare_of {ts : BookM} (hg : goodM ts = 0) {t : TypeM} (ht : Msg ts t) {f : FieldM} (hf : f ∈ t.fields) {x : ValueM} {id : Int} {enc : ValueM → List UInt8} (h : wrongOneN ts f x.kind x.n x.s x.ids.length x.l.length = 0) :
    wrongOneN ts f (bareM (partV enc id x)).kind (bareM (partV enc id x)).n (bareM (partV enc id x)).s 0 0 = 0 ∧ (f.kind ≠ 5 → bareM (partV enc id x) = x) ∧ (f.kind = 5 → x.kind = 2) := by
  rcases one_cases hg ht hf h with ⟨k5, k3, k0, hn, hs, hi, hl⟩ | ⟨k3, k1, hn, hs, hi, hl⟩ | ⟨k5, k2, hn, hs⟩
  · have e : bareM (partV enc id x) = x := by
      unfold bareM partV
      obtain ⟨xk, xn, xs, xi, xl⟩ := x
      simp only at *
      subst k0 hs hi hl
      rfl
    exact ⟨by rw [e]; rw [hi, hl] at h; exact h, fun _ => e, fun h5 => absurd h5 k5⟩
  · have e : bareM (partV enc id x) = x := by
      unfold bareM partV
      obtain ⟨xk, xn, xs, xi, xl⟩ := x
      simp only at *
      subst k1 hn hi hl
      rfl
    exact ⟨by rw [e]; rw [hi, hl] at h; exact h, fun _ => e, fun h5 => by omega⟩
  · have e : bareM (partV enc id x) = ⟨2, 0, ⟨#[]⟩, [], []⟩ := by
      unfold bareM partV
      rw [k2, hn]
      rfl
    refine ⟨?_, fun h => absurd k5 h, fun _ => k2⟩
    rw [e]
    unfold wrongOneN
    rw [if_neg (by unfold kindN; rw [if_neg (by omega), if_pos k5]; simp), if_neg (by rw [one2.2 ⟨rfl, rfl⟩]; simp), if_neg (by omega), if_neg (by omega), if_neg (by omega), if_neg (by omega)]
theorem readL_enc {ts : BookM} (hg : goodM ts = 0) {t : TypeM} (ht : Msg ts t) {enc : ValueM → List UInt8} {rec : FieldM → ByteArray → Int × ValueM} : ∀ {ids : List Int} {l : List ValueM} {prev : Option Int} {st : List Int × List ValueM}, l.length = ids.length →
    (∀ p ∈ ids.zip l, ∃ f, fieldM t p.1 = some f ∧ wrongOneN ts f p.2.kind p.2.n p.2.s p.2.ids.length p.2.l.length = 0 ∧ (f.kind = 5 → rec f ⟨(enc p.2).toArray⟩ = (0, p.2))) →
    ids.Pairwise (NxtOk t) → (∀ a ∈ st.1, ∀ b ∈ ids, NxtOk t a b) → (∀ q, prev = some q → ∀ b ∈ ids, q ≤ b) →
    readL ts rec t prev (List.zipWith (partV enc) ids l) st = (0, (st.1 ++ ids, st.2 ++ l))
  | [], [], _, st, _, _, _, _, _ => by simp [readL]
  | [], _ :: _, _, _, h, _, _, _, _ => by simp at h
  | _ :: _, [], _, _, h, _, _, _, _ => by simp at h
  | id :: ids, x :: l, prev, st, h, hall, hp, hst, hpr => by
    rw [List.pairwise_cons] at hp
    obtain ⟨f, hf, hw, hr⟩ := hall (id, x) (by simp)
    simp only at hf hw hr
    have hfm := fieldM_mem hf
    have hfi := fieldM_id hf
    obtain ⟨b1, b2, b3⟩ := bare_of (enc := enc) (id := id) hg ht hfm hw
    have hs5 : f.kind = 5 → (partV enc id x).s = ⟨(enc x).toArray⟩ := fun h5 => by unfold partV; rw [if_pos (b3 h5)]
    have hfell : fellB prev (partV enc id x).id = false := by
      cases prev with
      | none => rfl
      | some q => have := hpr q rfl id (by simp); show decide (id < q) = false; simp; omega
    have e1 : stepE ts rec t prev (partV enc id x) st = 0 := by
      unfold stepE
      rw [if_neg (by simp [hfell]), show fieldM t (partV enc id x).id = some f from hf]
      simp only
      rw [if_neg (by simp [b1]), if_neg]
      · by_cases h5 : f.kind = 5
        · rw [if_pos h5, hs5 h5, hr h5]
        · rw [if_neg h5]
      · rintro ⟨h3, hc⟩
        rw [List.contains_iff_mem, hfi] at hc
        exact h3 ((hst id hc id (by simp)).2 rfl f hf)
    have e2 : stepV rec t (partV enc id x) st = (st.1 ++ [id], st.2 ++ [x]) := by
      unfold stepV
      rw [show fieldM t (partV enc id x).id = some f from hf]
      simp only
      rw [hfi]
      by_cases h5 : f.kind = 5
      · rw [if_pos h5, hs5 h5, hr h5]
      · rw [if_neg h5, b2 h5]
    rw [List.zipWith_cons_cons, readL, if_neg (by simp [e1]), e2]
    rw [readL_enc (ids := ids) (l := l) hg ht (by simpa using h) (fun p hp => hall p (by simp [hp])) hp.2 (fun a ha b hb => ?_) (fun q hq b hb => ?_)]
    · simp
    · rcases List.mem_append.1 ha with ha | ha
      · exact hst a ha b (by simp [hb])
      · rw [List.mem_singleton] at ha
        rw [ha]
        exact hp.1 b hb
    · cases hq
      exact (hp.1 b hb).1
theorem lacks_out {t : TypeM} {ids : List Int} (h : lacksB t ids = false) : ∀ f ∈ t.fields, f.rule = 1 → ids.contains f.id = true := by
  unfold lacksB at h
  intro f hf hr
  obtain ⟨i, hi, rfl⟩ := List.getElem_of_mem hf
  have := all_range (by simpa using h) hi
  unfold hasOneAt at this
  rw [show t.fields.getD i FieldM.zero = t.fields[i] by simp [List.getD, hi], hr] at this
  simpa using this
/-- What is written is read back. -/
theorem read_enc {ts : BookM} (hg : goodM ts = 0) : ∀ {k K : Nat} {t : TypeM} {v : ValueM}, Msg ts t → Fits K v → TypedP ts K t v → cntM K v ≤ 400 → depM K v ≤ k + 1 → readM ts k t ⟨(encV K v).toArray⟩ = (0, v)
  | _, 0, _, _, _, _, h, _, _ => h.elim
  | k, K + 1, t, v, ht, hfit, hty, hc, hd => by
    obtain ⟨henc, _⟩ := hty.enc hg ht hfit hc
    obtain ⟨h1, h2, h3, h4, h5, h6, h7⟩ := hty
    obtain ⟨_, _, _, hgood, hlong⟩ := henc
    have hd' : 1 + maxL (depM K) v.l ≤ k + 1 := hd
    have hc' : 1 + sumL (cntM K) v.l ≤ 400 := hc
    obtain ⟨d1, d2⟩ := decR_enc hgood hlong
    have e0 : (⟨(encV (K + 1) v).toArray⟩ : ByteArray).data.toList = (partsV (encV K) v).flatMap partB := by
      show (encV (K + 1) v).toArray.toList = _
      rw [List.toList_toArray]; rfl
    have hrd : readL ts (recM ts k) t none (partsV (encV K) v) ([], []) = (0, (v.ids, v.l)) := by
      have := readL_enc (enc := encV K) (rec := recM ts k) (ids := v.ids) (l := v.l) (prev := none) (st := ([], [])) hg ht h4 (fun p hp => ?_) h5 (fun a ha => by cases ha) (fun q hq => by cases hq)
      · rw [show partsV (encV K) v = List.zipWith (partV (encV K)) v.ids v.l from rfl, this]
        simp
      · obtain ⟨f, hf, hw, hr⟩ := h6 p hp
        refine ⟨f, hf, hw, fun k5 => ?_⟩
        have hx := (List.of_mem_zip hp).2
        have m1 := maxL_mem (f := depM K) hx
        have m2 := sumL_mem (f := cntM K) hx
        have m3 : 1 ≤ depM K p.2 := by cases K <;> simp [depM]
        cases k with
        | zero => omega
        | succ k => exact read_enc hg (ht.sub hg (fieldM_mem hf) k5) (hfit p.2 hx) (hr k5) (by omega) (by omega)
    rw [readM_eq]
    unfold readF
    rw [e0, d1, d2, hrd, if_neg (by simp), if_neg (by simp)]
    unfold fillV
    rw [fill_all (lacks_out h7)]
    obtain ⟨vk, vn, vs, vi, vl⟩ := v
    simp only at h1 h2 h3
    subst h1 h2 h3
    rfl
end Go.Proofs.YtmdpdgldmedebaaGreatDoor

