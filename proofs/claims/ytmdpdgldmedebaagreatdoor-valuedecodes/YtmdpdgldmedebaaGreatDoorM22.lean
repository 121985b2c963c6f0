import Derived.Test.YtmdpdgldmedebaaGreatDoorM21
namespace Go.Proofs.YtmdpdgldmedebaaGreatDoor
set_option linter.unusedSimpArgs false
set_option linter.unusedVariables false
set_option linter.unusedSimpArgs false
set_option linter.unusedVariables false
open Go.RowKit

/-! What is read is one of the type. -/
/-- So far the values stand well. -/
def StOk (ts : BookM) (rec : TypeM → ValueM → Prop) (t : TypeM) (st : List Int × List ValueM) : Prop :=
  st.2.length = st.1.length ∧ st.1.Pairwise (NxtOk t) ∧ ∀ p ∈ st.1.zip st.2, OneP ts rec t p.1 p.2
theorem pw_le {t : TypeM} {l : List Int} (h : l.Pairwise (NxtOk t)) : l.Pairwise (· ≤ ·) := h.imp fun h => h.1
theorem zip_snoc {a : List Int} {b : List ValueM} (h : b.length = a.length) (x : Int) (y : ValueM) : (a ++ [x]).zip (b ++ [y]) = a.zip b ++ [(x, y)] := by
  rw [List.zip_append h.symm]; rfl
theorem readL_ok {ts : BookM} {rec : FieldM → ByteArray → Int × ValueM} {R : TypeM → ValueM → Prop} {t : TypeM}
    (hrec : ∀ f s, f ∈ t.fields → f.kind = 5 → (rec f s).1 = 0 → R (typeM ts f) (rec f s).2 ∧ wrongOneN ts f (rec f s).2.kind (rec f s).2.n (rec f s).2.s (rec f s).2.ids.length (rec f s).2.l.length = 0) :
    ∀ {ps : List PartM} {prev : Option Int} {st : List Int × List ValueM} {r : List Int × List ValueM}, StOk ts R t st → (∀ a ∈ st.1, ∃ q, prev = some q ∧ a ≤ q) → readL ts rec t prev ps st = (0, r) → StOk ts R t r
  | [], _, st, r, h, _, e => by
    simp only [readL, Prod.mk.injEq, true_and] at e
    rw [← e]; exact h
  | p :: ps, prev, st, r, h, hpr, e => by
    rw [readL] at e
    split at e
    · rename_i hz
      exact absurd (congrArg Prod.fst e) hz
    · rename_i hz
      have hz0 : stepE ts rec t prev p st = 0 := Decidable.byContradiction hz
      have hfell : fellB prev p.id = false := by
        cases hb : fellB prev p.id
        · rfl
        · unfold stepE at hz0; rw [if_pos hb] at hz0; cases hz0
      have hq : ∀ q, prev = some q → q ≤ p.id := fun q hq => by
        subst hq
        have : decide (p.id < q) = false := hfell
        simp at this; omega
      unfold stepE at hz0
      rw [if_neg (by simp [hfell])] at hz0
      refine readL_ok hrec (st := stepV rec t p st) ?_ ?_ e
      · cases hf : fieldM t p.id with
        | none => unfold stepV; rw [hf]; exact h
        | some f =>
          rw [hf] at hz0
          simp only at hz0
          have hfi := fieldM_id hf
          split at hz0
          · rename_i hw; exact absurd hz0 hw
          · rename_i hw
            have hw0 := Decidable.byContradiction hw
            split at hz0
            · cases hz0
            · rename_i h3
              unfold stepV
              rw [hf]
              simp only
              obtain ⟨a1, a2, a3⟩ := h
              refine ⟨by simp [a1], ?_, fun q hq2 => ?_⟩
              · rw [List.pairwise_append]
                refine ⟨a2, List.pairwise_singleton _ _, fun a ha b hb => ?_⟩
                rw [List.mem_singleton] at hb
                subst hb
                obtain ⟨q, e1, e2⟩ := hpr a ha
                refine ⟨by rw [hfi]; exact Int.le_trans e2 (hq q e1), fun e g hg => ?_⟩
                rw [hfi, hf] at hg
                cases hg
                refine Decidable.byContradiction fun hr => h3 ⟨hr, ?_⟩
                rw [List.contains_iff_mem, ← e]
                exact ha
              · simp only at hq2
                rw [zip_snoc a1] at hq2
                rcases List.mem_append.1 hq2 with hq2 | hq2
                · exact a3 q hq2
                · rw [List.mem_singleton] at hq2
                  subst hq2
                  refine ⟨f, by rw [hfi]; exact hf, ?_, fun h5 => ?_⟩
                  · simp only
                    by_cases h5 : f.kind = 5
                    · rw [if_pos h5]
                      rw [if_pos h5] at hz0
                      exact (hrec f p.s (fieldM_mem hf) h5 hz0).2
                    · rw [if_neg h5]
                      exact hw0
                  · simp only
                    rw [if_pos h5] at hz0 ⊢
                    exact (hrec f p.s (fieldM_mem hf) h5 hz0).1
      · intro a ha
        refine ⟨p.id, rfl, ?_⟩
        unfold stepV at ha
        cases hf : fieldM t p.id with
        | none =>
          rw [hf] at ha
          obtain ⟨q, e1, e2⟩ := hpr a ha
          exact Int.le_trans e2 (hq q e1)
        | some f =>
          rw [hf] at ha
          rcases List.mem_append.1 ha with ha | ha
          · obtain ⟨q, e1, e2⟩ := hpr a ha
            exact Int.le_trans e2 (hq q e1)
          · rw [List.mem_singleton] at ha
            rw [ha, fieldM_id hf]; omega
theorem zip_insAt {a : List Int} {b : List ValueM} (h : b.length = a.length) (i : Nat) (x : Int) (y : ValueM) : (insAt a i x).zip (insAt b i y) = insAt (a.zip b) i (x, y) := by
  unfold insAt
  rw [List.zip_append (by rw [List.length_take, List.length_take, h])]
  rw [List.zip_cons_cons]
  unfold List.zip
  rw [List.take_zipWith, List.drop_zipWith]
theorem mem_insAt {α : Type} {l : List α} {i : Nat} {x y : α} (h : y ∈ insAt l i x) : y = x ∨ y ∈ l := by
  unfold insAt at h
  rcases List.mem_append.1 h with h | h
  · exact .inr (List.mem_of_mem_take h)
  · rcases List.mem_cons.1 h with h | h
    · exact .inl h
    · exact .inr (List.mem_of_mem_drop h)
theorem fillStep_ok {ts : BookM} {R : TypeM → ValueM → Prop} {t : TypeM} {lf : FieldM → ValueM} {f : FieldM} (hlf : f.rule = 1 → OneP ts R t f.id (lf f)) {st : List Int × List ValueM} (h : StOk ts R t st) : StOk ts R t (fillStep lf st f) ∧ (∀ a ∈ st.1, a ∈ (fillStep lf st f).1) ∧ (f.rule = 1 → f.id ∈ (fillStep lf st f).1) := by
  unfold fillStep
  by_cases hc : f.rule = 1 ∧ st.1.contains f.id = false
  · rw [if_pos hc]
    obtain ⟨a1, a2, a3⟩ := h
    have hci : st.1.countP (· < f.id) ≤ st.1.length := List.countP_le_length
    have hnot : f.id ∉ st.1 := fun hm => by have := hc.2; rw [List.contains_iff_mem.2 hm] at this; cases this
    obtain ⟨c1, c2⟩ := count_take (pw_le a2) f.id
    refine ⟨⟨?_, ?_, ?_⟩, ?_, ?_⟩
    · simp only
      rw [insAt_len _ _ _ hci, insAt_len _ _ _ (by rw [a1]; exact hci), a1]
    · simp only
      have hs : (st.1.take (st.1.countP (· < f.id)) ++ st.1.drop (st.1.countP (· < f.id))).Pairwise (NxtOk t) := by rw [List.take_append_drop]; exact a2
      rw [List.pairwise_append] at hs
      unfold insAt
      rw [List.pairwise_append, List.pairwise_cons]
      refine ⟨hs.1, ⟨fun b hb => ?_, hs.2.1⟩, fun a ha b hb => ?_⟩
      · have h1 := c2 b hb
        have h2 : b ≠ f.id := fun e => hnot (e ▸ List.mem_of_mem_drop hb)
        exact ⟨h1, fun e => absurd e.symm h2⟩
      · rcases List.mem_cons.1 hb with rfl | hb
        · have h1 := c1 a ha
          exact ⟨by omega, fun e => by omega⟩
        · exact hs.2.2 a ha b hb
    · intro p hp
      simp only at hp
      rw [zip_insAt a1] at hp
      rcases mem_insAt hp with rfl | hp
      · exact hlf hc.1
      · exact a3 p hp
    · intro a ha
      unfold insAt
      simp only [List.mem_append, List.mem_cons]
      have : a ∈ st.1.take (st.1.countP (· < f.id)) ++ st.1.drop (st.1.countP (· < f.id)) := by rw [List.take_append_drop]; exact ha
      rcases List.mem_append.1 this with h | h
      · exact .inl h
      · exact .inr (.inr h)
    · intro _
      unfold insAt
      simp
  · rw [if_neg hc]
    refine ⟨h, fun a ha => ha, fun hr => ?_⟩
    have : st.1.contains f.id = true := by
      cases e : st.1.contains f.id
      · exact absurd ⟨hr, e⟩ hc
      · rfl
    exact List.contains_iff_mem.1 this
theorem fill_ok {ts : BookM} {R : TypeM → ValueM → Prop} {t : TypeM} {lf : FieldM → ValueM} : ∀ {l : List FieldM} {st : List Int × List ValueM}, (∀ f ∈ l, f.rule = 1 → OneP ts R t f.id (lf f)) → StOk ts R t st →
    StOk ts R t (fillM lf l st) ∧ (∀ a ∈ st.1, a ∈ (fillM lf l st).1) ∧ ∀ f ∈ l, f.rule = 1 → f.id ∈ (fillM lf l st).1
  | [], st, _, h => ⟨h, fun a ha => ha, fun f hf => absurd hf List.not_mem_nil⟩
  | f :: l, st, hl, h => by
    obtain ⟨b1, b2, b3⟩ := fillStep_ok (hl f (by simp)) h
    obtain ⟨i1, i2, i3⟩ := fill_ok (l := l) (fun g hg => hl g (by simp [hg])) b1
    refine ⟨i1, fun a ha => i2 a (b2 a ha), fun g hg hr => ?_⟩
    rcases List.mem_cons.1 hg with rfl | hg
    · exact i2 _ (b3 hr)
    · exact i3 g hg hr
theorem lacks_of {t : TypeM} {ids : List Int} (h : ∀ f ∈ t.fields, f.rule = 1 → f.id ∈ ids) : lacksB t ids = false := by
  unfold lacksB
  rw [Bool.not_eq_false', List.all_eq_true]
  intro i hi
  rw [List.mem_range] at hi
  unfold hasOneAt
  rw [show t.fields.getD i FieldM.zero = t.fields[i] by simp [List.getD, hi]]
  by_cases hr : t.fields[i].rule = 1
  · rw [List.contains_iff_mem.2 (h _ (List.getElem_mem hi) hr)]; simp
  · simp [hr]
theorem fillV_typed {ts : BookM} {k : Nat} {t : TypeM} {st : List Int × List ValueM} (hl : ∀ f ∈ t.fields, f.rule = 1 → OneP ts (TypedP ts k) t f.id (leastF ts (leastV ts 4) f)) (h : StOk ts (TypedP ts k) t st) : TypedP ts (k + 1) t (fillV ts t st) := by
  obtain ⟨⟨a1, a2, a3⟩, _, i3⟩ := fill_ok hl h
  exact ⟨rfl, rfl, rfl, a1, a2, a3, lacks_of i3⟩

/-! The least. -/
theorem ones_mem {l : List FieldM} {f : FieldM} (h : f ∈ onesL l) : f ∈ l ∧ f.rule = 1 := by
  unfold onesL at h
  rw [List.mem_filter] at h
  exact ⟨h.1, by simpa using h.2⟩
theorem leastF_one {ts : BookM} (hg : goodM ts = 0) {R : TypeM → ValueM → Prop} {t : TypeM} (ht : Msg ts t) {f : FieldM} (hf : f ∈ t.fields) {rec : TypeM → ValueM}
    (hr : f.kind = 5 → R (typeM ts f) (rec (typeM ts f)) ∧ (rec (typeM ts f)).kind = 2 ∧ (rec (typeM ts f)).n = 0 ∧ (rec (typeM ts f)).s = ⟨#[]⟩) : OneP ts R t f.id (leastF ts rec f) := by
  have hk := (ht.field hg hf).2.1
  have hfd := ht.find hg hf
  have hone : ∀ kd : Int, kd = 0 ∨ kd = 1 → ∀ n : Int, (n = 0 ∨ kd = 0) → oneKindB kd n ⟨#[]⟩ 0 0 = true := fun kd h n h2 => by
    unfold oneKindB
    rcases h with rfl | rfl
    · simp
    · rcases h2 with rfl | h2
      · simp
      · omega
  by_cases h4 : f.kind = 4
  · refine ⟨f, hfd, ?_, fun h5 => by omega⟩
    unfold leastF wrongOneN
    rw [if_pos h4]
    simp only [List.length_nil]
    obtain ⟨e1, _⟩ := ht.enum hg hf h4
    rw [if_neg (by unfold kindN; rw [if_neg (by omega), if_neg (by omega)]; simp), if_neg (by rw [hone 0 (.inl rfl) _ (.inr rfl)]; simp), if_neg (by omega), if_neg (by omega), if_neg (by omega), if_pos h4, if_pos]
    rw [List.any_eq_true]
    generalize (findM ts f.type).getD TypeM.zero = u at *
    refine ⟨u.items[0], List.getElem_mem _, ?_⟩
    rw [show u.items.getD 0 ⟨⟨#[]⟩, 0⟩ = u.items[0] by simp [List.getD, show 0 < u.items.length by omega]]
    simp
  · by_cases h5 : f.kind = 5
    · obtain ⟨r1, r2, r3, r4⟩ := hr h5
      have e : leastF ts rec f = rec (typeM ts f) := by unfold leastF; rw [if_neg h4, if_pos h5]; rfl
      rw [e]
      refine ⟨f, hfd, ?_, fun _ => r1⟩
      unfold wrongOneN
      rw [r2, r3, r4, if_neg (by unfold kindN; rw [if_neg (by omega), if_pos h5]; simp), if_neg (by rw [one2.2 ⟨rfl, rfl⟩]; simp), if_neg (by omega), if_neg (by omega), if_neg (by omega), if_neg (by omega)]
    · refine ⟨f, hfd, ?_, fun h => absurd h h5⟩
      unfold leastF wrongOneN
      rw [if_neg h4, if_neg h5]
      simp only [List.length_nil]
      have hkk : kindN f.kind = 0 ∨ kindN f.kind = 1 := by unfold kindN; rw [if_neg h5]; by_cases h3 : f.kind = 3; exact .inr (if_pos h3); exact .inl (if_neg h3)
      rw [if_neg (by simp), if_neg (by rw [hone _ hkk 0 (.inl rfl)]; simp)]
      by_cases c1 : f.kind = 1
      · rw [if_pos c1, if_neg (by simp)]
      · rw [if_neg c1]
        by_cases c2 : f.kind = 2
        · rw [if_pos c2, if_neg (by simp)]
        · rw [if_neg c2, if_pos (show f.kind = 3 by omega), if_pos (by rfl)]
theorem least_shape {ts : BookM} {k : Nat} {t : TypeM} (h : LeOk ts k t) : (leastV ts k t).kind = 2 ∧ (leastV ts k t).n = 0 ∧ (leastV ts k t).s = ⟨#[]⟩ := by
  cases k with
  | zero => exact h.elim
  | succ k => exact ⟨rfl, rfl, rfl⟩
theorem ones_pair {l : List FieldM} (h : (l.map (·.id)).Pairwise (fun x y => x < y)) : ((onesL l).map (·.id)).Pairwise (fun x y => x < y) := by
  unfold onesL
  exact h.sublist (List.filter_sublist.map _)
theorem least_typed {ts : BookM} (hg : goodM ts = 0) : ∀ {k : Nat} {t : TypeM}, Msg ts t → LeOk ts k t → TypedP ts k t (leastV ts k t)
  | 0, _, _, h => h.elim
  | k + 1, t, ht, ⟨_, h⟩ => by
    refine ⟨rfl, rfl, rfl, by simp [leastV], ?_, fun p hp => ?_, ?_⟩
    · show ((onesL t.fields).map (·.id)).Pairwise (NxtOk t)
      exact (ones_pair (ht.rises hg)).imp fun h => ⟨by omega, fun e => by omega⟩
    · have hp' : p ∈ ((onesL t.fields).map (·.id)).zip ((onesL t.fields).map (leastF ts (leastV ts k))) := hp
      rw [List.zip_map'] at hp'
      obtain ⟨f, hf, rfl⟩ := List.mem_map.1 hp'
      obtain ⟨f1, f2⟩ := ones_mem hf
      refine leastF_one hg ht f1 fun h5 => ?_
      have hl := (h f f1 f2).2 h5
      exact ⟨least_typed hg (ht.sub hg f1 h5) hl, least_shape hl⟩
    · refine lacks_of fun f hf hr => ?_
      show f.id ∈ (onesL t.fields).map (·.id)
      exact List.mem_map_of_mem (by unfold onesL; rw [List.mem_filter]; exact ⟨hf, by simp [hr]⟩)
theorem Msg.le {ts : BookM} (hg : goodM ts = 0) {t : TypeM} (h : Msg ts t) : LeOk ts 4 t := by
  obtain ⟨name, hf, he⟩ := h
  exact leOk_type hg hf he
theorem Msg.fill {ts : BookM} (hg : goodM ts = 0) {t : TypeM} (h : Msg ts t) : ∀ f ∈ t.fields, f.rule = 1 → LeF ts (LeOk ts 4) f := fun f hf _ =>
  ⟨fun h4 => (h.enum hg hf h4).1, fun h5 => (h.sub hg hf h5).le hg⟩
theorem fill_one {ts : BookM} (hg : goodM ts = 0) {t : TypeM} (ht : Msg ts t) : ∀ f ∈ t.fields, OneP ts (TypedP ts 4) t f.id (leastF ts (leastV ts 4) f) := fun f hf =>
  leastF_one hg ht hf fun h5 => ⟨least_typed hg (ht.sub hg hf h5) ((ht.sub hg hf h5).le hg), least_shape ((ht.sub hg hf h5).le hg)⟩
/-- What is read is one of the type. -/
theorem read_typed {ts : BookM} (hg : goodM ts = 0) : ∀ {k : Nat} {t : TypeM} {s : ByteArray} {v : ValueM}, Msg ts t → readM ts k t s = (0, v) → TypedP ts (k + 5) t v := by
  intro k
  induction k with
  | zero =>
    intro t s v ht h
    rw [readM_eq] at h
    unfold readF at h
    split at h
    · rename_i h1; exact absurd (congrArg Prod.fst h) h1
    · split at h
      · rename_i h1; exact absurd (congrArg Prod.fst h) h1
      · rename_i h1
        have h0 := Decidable.byContradiction h1
        obtain ⟨r, hr⟩ : ∃ r, r = readL ts (recM ts 0) t none (decL s.data.toList) ([], []) := ⟨_, rfl⟩
        rw [← hr] at h h0
        have hst : StOk ts (TypedP ts 4) t r.2 := readL_ok (rec := recM ts 0) (fun f s _ _ h => by cases h) (ps := decL s.data.toList) (prev := none) (st := ([], [])) ⟨rfl, List.Pairwise.nil, fun p hp => by simp at hp⟩ (fun a ha => by cases ha) (by rw [← hr, ← h0])
        have e := congrArg Prod.snd h
        simp only at e
        rw [← e]
        exact fillV_typed (fun f hf _ => fill_one hg ht f hf) hst
  | succ k ih =>
    intro t s v ht h
    rw [readM_eq] at h
    unfold readF at h
    split at h
    · rename_i h1; exact absurd (congrArg Prod.fst h) h1
    · split at h
      · rename_i h1; exact absurd (congrArg Prod.fst h) h1
      · rename_i h1
        have h0 := Decidable.byContradiction h1
        obtain ⟨r, hr⟩ : ∃ r, r = readL ts (recM ts (k + 1)) t none (decL s.data.toList) ([], []) := ⟨_, rfl⟩
        rw [← hr] at h h0
        have hst : StOk ts (TypedP ts (k + 5)) t r.2 := readL_ok (rec := recM ts (k + 1)) (fun f s hf h5 h => by
            have hty := ih (ht.sub hg hf h5) (show readM ts k (typeM ts f) s = (0, (recM ts (k + 1) f s).2) from Prod.ext h rfl)
            refine ⟨hty, ?_⟩
            obtain ⟨t1, t2, t3, _⟩ := hty
            unfold wrongOneN
            rw [t1, t2, t3, if_neg (by unfold kindN; rw [if_neg (by omega), if_pos h5]; simp), if_neg (by rw [one2.2 ⟨rfl, rfl⟩]; simp), if_neg (by omega), if_neg (by omega), if_neg (by omega), if_neg (by omega)])
          (ps := decL s.data.toList) (prev := none) (st := ([], [])) ⟨rfl, List.Pairwise.nil, fun p hp => by simp at hp⟩ (fun a ha => by cases ha) (by rw [← hr, ← h0])
        have e := congrArg Prod.snd h
        simp only at e
        rw [← e]
        exact fillV_typed (fun f hf _ => (fill_one hg ht f hf).mono fun _ h => h.le (by omega)) hst
end Go.Proofs.YtmdpdgldmedebaaGreatDoor

namespace Go.Proofs.YtmdpdgldmedebaaGreatDoor
set_option linter.unusedSimpArgs false
set_option linter.unusedVariables false
open Go.RowKit

/-! How large the least is, and what is read. -/
theorem sumL_append {f : ValueM → Nat} : ∀ {a b : List ValueM}, sumL f (a ++ b) = sumL f a + sumL f b
  | [], b => by simp [sumL]
  | x :: a, b => by rw [List.cons_append, sumL, sumL, sumL_append]; omega
theorem sumL_insAt {f : ValueM → Nat} {l : List ValueM} {i : Nat} {x : ValueM} : sumL f (insAt l i x) = sumL f l + f x := by
  have : sumL f l = sumL f (l.take i ++ l.drop i) := by rw [List.take_append_drop]
  rw [this]
  unfold insAt
  rw [sumL_append, sumL_append, sumL]; omega
theorem sumL_le {f g : ValueM → Nat} : ∀ {l : List ValueM}, (∀ x ∈ l, f x ≤ g x) → sumL f l ≤ sumL g l
  | [], _ => Nat.le_refl _
  | x :: r, h => by rw [sumL, sumL]; have := h x (by simp); have := sumL_le (l := r) fun y hy => h y (by simp [hy]); omega
theorem cnt_up : ∀ {m : Nat} {v : ValueM}, cntM m v ≤ cntM (m + 1) v
  | 0, v => by show 1 ≤ 1 + _; omega
  | m + 1, v => by
    show 1 + sumL (cntM m) v.l ≤ 1 + sumL (cntM (m + 1)) v.l
    have := sumL_le (l := v.l) fun x _ => cnt_up (m := m) (v := x)
    omega
theorem cnt_mono {m n : Nat} {v : ValueM} (h : m ≤ n) : cntM m v ≤ cntM n v := by
  obtain ⟨d, rfl⟩ := Nat.exists_eq_add_of_le h
  induction d with
  | zero => exact Nat.le_refl _
  | succ d ih => exact Nat.le_trans (ih (by omega)) cnt_up
theorem cnt_leaf {m : Nat} {v : ValueM} (h : v.l = []) : cntM m v = 1 := by
  cases m with
  | zero => rfl
  | succ m => show 1 + sumL (cntM m) v.l = 1; rw [h]; rfl
def sumF (g : FieldM → Int) : List FieldM → Int
  | [] => 0
  | f :: r => g f + sumF g r
theorem fold_sum {g : FieldM → Int} : ∀ {l : List FieldM} {acc : Int}, leastFold g l acc ≠ 0 → leastFold g l acc = acc + sumF g (onesL l)
  | [], acc, _ => by simp [leastFold, onesL, sumF]
  | f :: r, acc, h => by
    rw [leastFold] at h ⊢
    by_cases hr : (f.rule == 1) = false
    · rw [if_pos hr] at h ⊢
      rw [fold_sum h]
      unfold onesL
      rw [List.filter_cons_of_neg (by simp [hr])]
    · rw [if_neg hr] at h ⊢
      have hr1 : (f.rule == 1) = true := by simpa using hr
      by_cases hz : g f = 0
      · rw [if_pos hz] at h; exact absurd rfl h
      · rw [if_neg hz] at h ⊢
        rw [fold_sum h]
        unfold onesL
        rw [List.filter_cons_of_pos (by simpa using hr1), sumF]; omega
theorem sumL_map {f : ValueM → Nat} {lf : FieldM → ValueM} {g : FieldM → Int} : ∀ {l : List FieldM}, (∀ x ∈ l, (f (lf x) : Int) = g x) → (sumL f (l.map lf) : Int) = sumF g l
  | [], _ => rfl
  | x :: r, h => by
    rw [List.map_cons, sumL, sumF, ← h x (by simp), ← sumL_map (l := r) fun y hy => h y (by simp [hy])]
    omega
theorem cnt_least {ts : BookM} (hg : goodM ts = 0) : ∀ {k m : Nat} {name : ByteArray} {t : TypeM}, k ≤ m → findM ts name = some t → leastM ts k name ≠ 0 → (cntM m (leastV ts k t) : Int) = leastM ts k name
  | 0, _, _, _, _, _, h => absurd rfl h
  | k + 1, 0, _, _, h, _, _ => by omega
  | k + 1, m + 1, name, t, hm, hf, h => by
    unfold leastM at h ⊢
    rw [hf] at h ⊢
    simp only at h ⊢
    split at h
    · exact absurd rfl h
    · rename_i hno
      rw [if_neg hno]
      have hall := leastFold_zero (fun f => if f.kind = 5 then leastM ts k f.type else 1) (fun f => by show 0 ≤ (if f.kind = 5 then leastM ts k f.type else 1); split; exact (leastM_bd ts k f.type).1; omega) t.fields 1 h
      rw [fold_sum h]
      show ((1 + sumL (cntM m) ((onesL t.fields).map (leastF ts (leastV ts k))) : Nat) : Int) = _
      rw [Int.natCast_add, sumL_map (g := fun f => if f.kind = 5 then leastM ts k f.type else 1)]
      · rfl
      · intro f hfm
        obtain ⟨f1, f2⟩ := ones_mem hfm
        have hnz := hall f f1 f2
        by_cases h5 : f.kind = 5
        · rw [if_pos h5] at hnz ⊢
          have hg5 : ∃ u, findM ts f.type = some u := by
            cases hu : findM ts f.type with
            | some u => exact ⟨u, rfl⟩
            | none =>
              cases k with
              | zero => exact absurd rfl hnz
              | succ k => unfold leastM at hnz; rw [hu] at hnz; exact absurd rfl hnz
          obtain ⟨u, hu⟩ := hg5
          have e : leastF ts (leastV ts k) f = leastV ts k u := by unfold leastF; rw [if_neg (by omega), if_pos h5, hu]; rfl
          rw [e]
          exact cnt_least hg (by omega) hu hnz
        · rw [if_neg h5]
          have e : (leastF ts (leastV ts k) f).l = [] := by unfold leastF; split; rfl; first | rfl | rw [if_neg h5]
          rw [cnt_leaf e]; rfl
theorem Msg.cnt {ts : BookM} (hg : goodM ts = 0) {t : TypeM} (h : Msg ts t) (m : Nat) : cntM m (leastV ts 4 t) ≤ 12 := by
  obtain ⟨name, hf, he⟩ := h
  obtain ⟨h1, h2⟩ := goodM_least hg _ (findM_mem hf) he
  rw [find_name hf] at h1 h2
  have := cnt_least hg (k := 4) (m := m + 4) (by omega) hf (by omega)
  have := cnt_mono (m := m) (n := m + 4) (v := leastV ts 4 t) (by omega)
  omega
theorem fill_cnt {ts : BookM} (hg : goodM ts = 0) {t : TypeM} (ht : Msg ts t) (m : Nat) : ∀ f ∈ t.fields, cntM m (leastF ts (leastV ts 4) f) ≤ 12 := fun f hf => by
  by_cases h5 : f.kind = 5
  · have e : leastF ts (leastV ts 4) f = leastV ts 4 (typeM ts f) := by unfold leastF; rw [if_neg (by omega), if_pos h5]; rfl
    rw [e]; exact (ht.sub hg hf h5).cnt hg m
  · have e : (leastF ts (leastV ts 4) f).l = [] := by unfold leastF; split; rfl; first | rfl | rw [if_neg h5]
    rw [cnt_leaf e]; omega
theorem fillM_sum {lf : FieldM → ValueM} {g : ValueM → Nat} : ∀ {l : List FieldM} {st : List Int × List ValueM}, (∀ f ∈ l, g (lf f) ≤ 12) → sumL g (fillM lf l st).2 ≤ sumL g st.2 + 12 * l.length
  | [], st, _ => by show sumL g st.2 ≤ _; omega
  | f :: l, st, h => by
    have ih := fillM_sum (l := l) (st := fillStep lf st f) fun x hx => h x (by simp [hx])
    have h1 := h f (by simp)
    have h2 : sumL g (fillStep lf st f).2 ≤ sumL g st.2 + 12 := by
      unfold fillStep
      split
      · simp only; rw [sumL_insAt]; omega
      · omega
    show sumL g (fillM lf l (fillStep lf st f)).2 ≤ _
    rw [List.length_cons]; omega
theorem partB_len {p : PartM} (h : p.good) : p.s.size + 2 ≤ (partB p).length := by
  unfold partB
  have h1 := sev_ne (headN p)
  rw [List.length_append]
  rcases h.2.2 with ⟨k0, _, _, hs⟩ | ⟨hk, _, _⟩
  · rw [if_pos k0, hs]
    have := sev_ne (foldN p.n)
    have : (⟨#[]⟩ : ByteArray).size = 0 := rfl
    omega
  · rw [if_neg (by omega), List.length_append, bytes_len]
    have := sev_ne p.s.size
    omega
def sumP (g : PartM → Nat) : List PartM → Nat
  | [] => 0
  | p :: r => g p + sumP g r
theorem sumP_len : ∀ {ps : List PartM}, (∀ p ∈ ps, p.good) → sumP (fun p => 31 * p.s.size + 61) ps ≤ 31 * (ps.flatMap partB).length
  | [], _ => by simp [sumP]
  | p :: r, h => by
    have ih := sumP_len (ps := r) fun q hq => h q (by simp [hq])
    have h1 := partB_len (h p (by simp))
    rw [sumP, List.flatMap_cons, List.length_append]; omega
theorem readL_sum {ts : BookM} {rec : FieldM → ByteArray → Int × ValueM} {t : TypeM} {m : Nat} (hrec : ∀ f s, f ∈ t.fields → f.kind = 5 → (rec f s).1 = 0 → cntM m (rec f s).2 ≤ 31 * s.size + 61) :
    ∀ {ps : List PartM} {prev : Option Int} {st r : List Int × List ValueM}, readL ts rec t prev ps st = (0, r) → sumL (cntM m) r.2 ≤ sumL (cntM m) st.2 + sumP (fun p => 31 * p.s.size + 61) ps
  | [], _, st, r, e => by
    simp only [readL, Prod.mk.injEq, true_and] at e
    rw [← e]; omega
  | p :: ps, prev, st, r, e => by
    rw [readL] at e
    split at e
    · rename_i hz; exact absurd (congrArg Prod.fst e) hz
    · rename_i hz
      have hz0 : stepE ts rec t prev p st = 0 := Decidable.byContradiction hz
      have ih := readL_sum hrec e
      have hs : sumL (cntM m) (stepV rec t p st).2 ≤ sumL (cntM m) st.2 + (31 * p.s.size + 61) := by
        unfold stepV
        cases hf : fieldM t p.id with
        | none => simp only; omega
        | some f =>
          simp only
          rw [sumL_append, sumL, sumL]
          by_cases h5 : f.kind = 5
          · rw [if_pos h5]
            have : (rec f p.s).1 = 0 := by
              unfold stepE at hz0
              split at hz0
              · cases hz0
              · rw [hf] at hz0
                simp only at hz0
                split at hz0
                · rename_i hw; exact absurd hz0 hw
                · split at hz0
                  · cases hz0
                  · first | exact hz0 | (rw [if_pos h5] at hz0; exact hz0)
            have := hrec f p.s (fieldM_mem hf) h5 this
            omega
          · rw [if_neg h5, cnt_leaf rfl]; omega
      rw [sumP]; omega
theorem decL_good {l : List UInt8} (h : decE l = 0) : l.length ≤ 20000 ∧ (∀ p ∈ decL l, p.good) ∧ l = (decL l).flatMap partB := by
  have hl : l.length ≤ 20000 := Decidable.byContradiction fun hl => by
    rw [(decE_long (l := l) (by omega)).1] at h; cases h
  refine ⟨hl, ?_⟩
  cases hd : decR l.length l with
  | none => rw [(decE_none hl hd).1] at h; cases h
  | some ps =>
    rw [(decE_some hl hd).2]
    exact enc_dec _ _ _ hd
theorem readF_out {ts : BookM} {rec : FieldM → ByteArray → Int × ValueM} {t : TypeM} {s : ByteArray} {v : ValueM} (h : readF ts rec t s = (0, v)) : decE s.data.toList = 0 ∧ ∃ st, readL ts rec t none (decL s.data.toList) ([], []) = (0, st) ∧ v = fillV ts t st := by
  unfold readF at h
  split at h
  · rename_i h1; exact absurd (congrArg Prod.fst h) h1
  · rename_i h1
    split at h
    · rename_i h2; exact absurd (congrArg Prod.fst h) h2
    · rename_i h2
      refine ⟨Decidable.byContradiction h1, (readL ts rec t none (decL s.data.toList) ([], [])).2, Prod.ext (Decidable.byContradiction h2) rfl, ?_⟩
      exact (congrArg Prod.snd h).symm
theorem read_cnt {ts : BookM} (hg : goodM ts = 0) : ∀ {k m : Nat} {t : TypeM} {s : ByteArray} {v : ValueM}, Msg ts t → readM ts k t s = (0, v) → cntM m v ≤ 31 * s.size + 61 := by
  intro k
  induction k with
  | zero =>
    intro m t s v ht h
    rw [readM_eq] at h
    obtain ⟨h1, st, h2, rfl⟩ := readF_out h
    obtain ⟨d1, d2, d3⟩ := decL_good h1
    cases m with
    | zero => show 1 ≤ _; omega
    | succ m =>
      have a := readL_sum (m := m) (fun f s _ _ h => by cases h) h2
      have b := fillM_sum (lf := leastF ts (leastV ts 4)) (g := cntM m) (st := st) (fill_cnt hg ht m)
      have c := ht.len hg
      have d := sumP_len d2
      rw [← d3, bytes_len] at d
      show 1 + sumL (cntM m) (fillM (leastF ts (leastV ts 4)) t.fields st).2 ≤ _
      simp only [sumL] at a
      omega
  | succ k ih =>
    intro m t s v ht h
    rw [readM_eq] at h
    obtain ⟨h1, st, h2, rfl⟩ := readF_out h
    obtain ⟨d1, d2, d3⟩ := decL_good h1
    cases m with
    | zero => show 1 ≤ _; omega
    | succ m =>
      have a := readL_sum (m := m) (fun f s hf h5 h => ih (ht.sub hg hf h5) (show readM ts k (typeM ts f) s = (0, (recM ts (k + 1) f s).2) from Prod.ext h rfl)) h2
      have b := fillM_sum (lf := leastF ts (leastV ts 4)) (g := cntM m) (st := st) (fill_cnt hg ht m)
      have c := ht.len hg
      have d := sumP_len d2
      rw [← d3, bytes_len] at d
      show 1 + sumL (cntM m) (fillM (leastF ts (leastV ts 4)) t.fields st).2 ≤ _
      simp only [sumL] at a
      omega
theorem read_small {ts : BookM} (hg : goodM ts = 0) {k m : Nat} {t : TypeM} {s : ByteArray} {v : ValueM} (ht : Msg ts t) (h : readM ts k t s = (0, v)) : cntM m v ≤ 1048576 := by
  have h1 := read_cnt (m := m) hg ht h
  rw [readM_eq] at h
  obtain ⟨h0, _⟩ := readF_out h
  have := (decL_good h0).1
  rw [bytes_len] at this
  omega
theorem len_sum {k : Nat} : ∀ (l : List ValueM), l.length ≤ sumL (cntM k) l
  | [] => Nat.le_refl _
  | a :: r => by rw [sumL, List.length_cons]; have := cnt_pos (k := k) (v := a); have := len_sum (k := k) r; omega
theorem TypedP.small {ts : BookM} (hg : goodM ts = 0) : ∀ {K k : Nat} {t : TypeM} {v : ValueM}, Msg ts t → TypedP ts k t v → Fits K v → cntM K v ≤ 1048576 → SmallV K v
  | 0, _, _, _, _, _, h, _ => h.elim
  | K + 1, 0, _, _, _, h, _, _ => h.elim
  | K + 1, k + 1, t, v, ht, ⟨h1, h2, h3, h4, h5, h6, h7⟩, hf, hc => by
    have hc' : 1 + sumL (cntM K) v.l ≤ 1048576 := hc
    have hl := len_sum (k := K) v.l
    refine ⟨by rw [h3]; decide, by omega, by omega, fun x hx => ?_⟩
    have hcx := sumL_mem (f := cntM K) hx
    have hfx := hf x hx
    obtain ⟨i, hi, rfl⟩ := List.getElem_of_mem hx
    rw [zip_get (P := OneP ts (TypedP ts k) t) h4] at h6
    obtain ⟨f, hff, hw, hr⟩ := h6 i (by omega)
    rcases one_cases hg ht (fieldM_mem hff) hw with ⟨_, _, _, _, a, b, c⟩ | ⟨_, _, _, a, b, c⟩ | ⟨k5, _⟩
    · cases K with
      | zero => exact hfx.elim
      | succ K => exact ⟨by rw [a]; decide, by rw [b]; simp, by rw [c]; simp, fun y hy => by rw [c] at hy; cases hy⟩
    · cases K with
      | zero => exact hfx.elim
      | succ K => exact ⟨by omega, by rw [b]; simp, by rw [c]; simp, fun y hy => by rw [c] at hy; cases hy⟩
    · exact TypedP.small hg (ht.sub hg (fieldM_mem hff) k5) (hr k5) hfx (by omega)

/-! Of nothing the least is read. -/
theorem fill_end {lf : FieldM → ValueM} : ∀ {l : List FieldM} {st : List Int × List ValueM}, (l.map (·.id)).Pairwise (fun x y => x < y) → (∀ a ∈ st.1, ∀ f ∈ l, a < f.id) → st.2.length = st.1.length → fillM lf l st = (st.1 ++ (onesL l).map (·.id), st.2 ++ (onesL l).map lf)
  | [], st, _, _, _ => by simp [fillM, onesL]
  | f :: l, st, hp, hlt, hl => by
    rw [List.map_cons, List.pairwise_cons] at hp
    show fillM lf l (fillStep lf st f) = _
    by_cases hr : f.rule = 1
    · have hnc : st.1.contains f.id = false := by
        cases e : st.1.contains f.id
        · rfl
        · have := hlt f.id (List.contains_iff_mem.1 e) f (by simp); omega
      have hcnt : st.1.countP (· < f.id) = st.1.length := by
        rw [List.countP_eq_length]
        intro a ha
        have := hlt a ha f (by simp)
        simpa using this
      have e : fillStep lf st f = (st.1 ++ [f.id], st.2 ++ [lf f]) := by
        unfold fillStep
        rw [if_pos ⟨hr, hnc⟩, hcnt, insAt_end, ← hl, insAt_end]
      have eo : onesL (f :: l) = f :: onesL l := by unfold onesL; rw [List.filter_cons_of_pos (by simp [hr])]
      rw [e, fill_end hp.2 _ (by simp [hl]), eo]
      · simp
      · intro a ha g hg
        rcases List.mem_append.1 ha with ha | ha
        · exact hlt a ha g (by simp [hg])
        · rw [List.mem_singleton] at ha
          rw [ha]
          exact hp.1 g.id (List.mem_map_of_mem hg)
    · have e : fillStep lf st f = st := by unfold fillStep; rw [if_neg (fun h => hr h.1)]
      have eo : onesL (f :: l) = onesL l := by unfold onesL; rw [List.filter_cons_of_neg (by simp [hr])]
      rw [e, fill_end hp.2 (fun a ha g hg => hlt a ha g (by simp [hg])) hl, eo]
theorem least_fuel {ts : BookM} : ∀ {k : Nat} {t : TypeM}, LeOk ts k t → leastV ts (k + 1) t = leastV ts k t
  | 0, _, h => h.elim
  | k + 1, t, ⟨_, h⟩ => by
    show (⟨2, 0, ⟨#[]⟩, (onesL t.fields).map (·.id), (onesL t.fields).map (leastF ts (leastV ts (k + 1)))⟩ : ValueM) = ⟨2, 0, ⟨#[]⟩, (onesL t.fields).map (·.id), (onesL t.fields).map (leastF ts (leastV ts k))⟩
    congr 1
    refine List.map_congr_left fun f hf => ?_
    obtain ⟨f1, f2⟩ := ones_mem hf
    unfold leastF
    split
    · rfl
    · split
      · rename_i h5
        exact least_fuel ((h f f1 f2).2 h5)
      · rfl
theorem read_none {ts : BookM} (hg : goodM ts = 0) {t : TypeM} (ht : Msg ts t) (k : Nat) : readM ts k t ⟨#[]⟩ = (0, leastV ts 4 t) := by
  have d : decE ([] : List UInt8) = 0 ∧ decL ([] : List UInt8) = [] := decE_some (by simp) rfl
  have hd1 : decE (⟨#[]⟩ : ByteArray).data.toList = 0 := d.1
  have hr : readL ts (recM ts k) t none (decL (⟨#[]⟩ : ByteArray).data.toList) ([], []) = (0, ([], [])) := by
    show readL ts (recM ts k) t none (decL []) ([], []) = _
    rw [d.2]; rfl
  rw [readM_eq]
  unfold readF
  rw [hd1, hr, if_neg (by simp), if_neg (by simp)]
  congr 1
  unfold fillV
  rw [fill_end (ht.rises hg) (fun a ha => by cases ha) rfl]
  rw [← least_fuel (ht.le hg)]
  simp [leastV]
end Go.Proofs.YtmdpdgldmedebaaGreatDoor

