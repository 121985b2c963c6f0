import Derived.Test.YtnppgeiompimaaaGreatDoorM25
namespace Go.Proofs.YtnppgeiompimaaaGreatDoor
set_option linter.unusedSimpArgs false
set_option linter.unusedVariables false
set_option linter.unusedSimpArgs false
set_option linter.unusedVariables false
open Go.RowKit

/-! Whether what is written by one book is read by another one: plain functions. -/
/-- Whether a field of a reader may have a number. -/
def hasB (r : BookM) (g : FieldM) (n : Int) : Bool :=
  if g.kind = 1 then decide (n = 0) || decide (n = 1) else if g.kind = 4 then (typeM r g).items.any fun i => i.n == n else true
/-- Numbers that a field of a writer may have. -/
def samplesL (w : BookM) (f : FieldM) : List Int :=
  if f.kind = 1 then [0, 1] else if f.kind = 4 then (typeM w f).items.map (·.n) else [0, 1, 2, 3, 4, 5, 6]
def strangeM (w r : BookM) (f g : FieldM) : Option Int :=
  if kindN f.kind ≠ 0 ∨ kindN g.kind ≠ 0 then none else (samplesL w f).find? fun n => !hasB r g n
def whysM (w r : BookM) (f g : FieldM) : List Int :=
  (if kindN f.kind ≠ kindN g.kind then [1] else []) ++ (if f.rule = 3 ∧ g.rule ≠ 3 then [2] else []) ++ (if (strangeM w r f g).isSome = true then [3] else [])
theorem whys_none {w r : BookM} {f g : FieldM} (h : whysM w r f g = []) : kindN f.kind = kindN g.kind ∧ (f.rule = 3 → g.rule = 3) ∧ strangeM w r f g = none := by
  unfold whysM at h
  rw [List.append_eq_nil_iff, List.append_eq_nil_iff] at h
  obtain ⟨⟨h1, h2⟩, h3⟩ := h
  refine ⟨?_, fun e => ?_, ?_⟩
  · exact Decidable.byContradiction fun hn => by rw [if_pos hn] at h1; cases h1
  · exact Decidable.byContradiction fun hn => by rw [if_pos ⟨e, hn⟩] at h2; cases h2
  · cases e : strangeM w r f g with
    | none => rfl
    | some n => rw [e] at h3; cases h3

/-! ### What a reader makes of a value -/
def projOne (w r : BookM) (rec : TypeM → TypeM → ValueM → ValueM) (f g : FieldM) (x : ValueM) : ValueM :=
  if f.kind = 5 then rec (typeM w f) (typeM r g) x else ⟨x.kind, x.n, x.s, [], []⟩
def projField (w r : BookM) (rec : TypeM → TypeM → ValueM → ValueM) (t : TypeM) (g : FieldM) (v : ValueM) : List ValueM :=
  match fieldM t g.id with
  | none => []
  | some f => ((v.ids.zip v.l).filter fun p => p.1 == g.id).map fun p => projOne w r rec f g p.2
def pieceM (lf : FieldM → ValueM) (g : FieldM) (l : List ValueM) : List (Int × ValueM) := l.map (fun x => (g.id, x)) ++ if l.isEmpty && g.rule == 1 then [(g.id, lf g)] else []
def projL (w r : BookM) (rec : TypeM → TypeM → ValueM → ValueM) (t : TypeM) (v : ValueM) (l : List FieldM) : List (Int × ValueM) :=
  l.flatMap fun g => pieceM (leastF r (leastV r 4)) g (projField w r rec t g v)
def projM (w r : BookM) : Nat → TypeM → TypeM → ValueM → ValueM
  | 0, _, _, _ => ValueM.zero
  | k + 1, t, u, v => ⟨2, 0, ⟨#[]⟩, (projL w r (projM w r k) t v u.fields).map (·.1), (projL w r (projM w r k) t v u.fields).map (·.2)⟩

/-- Whether what is less stands in front. -/
theorem fill_front {lf : FieldM → ValueM} : ∀ {fs : List FieldM} {a b : List Int} {x y : List ValueM}, x.length = a.length → (∀ i ∈ a, ∀ f ∈ fs, i < f.id) → fillM lf fs (a ++ b, x ++ y) = (a ++ (fillM lf fs (b, y)).1, x ++ (fillM lf fs (b, y)).2)
  | [], _, _, _, _, _, _ => rfl
  | f :: fs, a, b, x, y, hl, h => by
    have hlt : ∀ i ∈ a, i < f.id := fun i hi => h i hi f (by simp)
    have hno : a.contains f.id = false := by
      cases e : a.contains f.id with
      | false => rfl
      | true => have := hlt _ (List.contains_iff_mem.1 e); omega
    have hc : (a ++ b).contains f.id = b.contains f.id := by
      cases e : b.contains f.id with
      | true => rw [List.contains_iff_mem] at e ⊢; exact List.mem_append_right _ e
      | false =>
        cases e2 : (a ++ b).contains f.id with
        | false => rfl
        | true =>
          rw [List.contains_iff_mem] at e2
          rcases List.mem_append.1 e2 with h1 | h1
          · rw [List.contains_iff_mem.2 h1] at hno; cases hno
          · rw [List.contains_iff_mem.2 h1] at e; cases e
    have hn : (a ++ b).countP (· < f.id) = a.length + b.countP (· < f.id) := by
      rw [List.countP_append, List.countP_eq_length.2 fun i hi => by simpa using hlt i hi]
    have hs : fillStep lf (a ++ b, x ++ y) f = (a ++ (fillStep lf (b, y) f).1, x ++ (fillStep lf (b, y) f).2) := by
      unfold fillStep
      simp only [hc, hn]
      split
      · unfold insAt
        rw [List.take_length_add_append, List.drop_length_add_append, ← hl, List.take_length_add_append, List.drop_length_add_append]
        simp
      · rfl
    show fillM lf fs (fillStep lf (a ++ b, x ++ y) f) = _
    rw [hs, fill_front hl fun i hi g hg => h i hi g (by simp [hg])]
    rfl
def keptOf (g : FieldM) (ks : List (Int × ValueM)) : List ValueM := (ks.filter fun p => p.1 == g.id).map (·.2)
/-- What rises is, for the least of the fields, first that field's. -/
theorem kept_split {i : Int} : ∀ {ks : List (Int × ValueM)}, (ks.map (·.1)).Pairwise (· ≤ ·) → (∀ p ∈ ks, i ≤ p.1) → ks = (ks.filter fun p => p.1 == i) ++ ks.filter fun p => p.1 != i
  | [], _, _ => rfl
  | p :: ks, hp, hle => by
    rw [List.map_cons, List.pairwise_cons] at hp
    have ih := kept_split hp.2 fun q hq => hle q (by simp [hq])
    by_cases e : p.1 = i
    · rw [List.filter_cons_of_pos (by simp [e]), List.filter_cons_of_neg (by simp [e]), List.cons_append, ← ih]
    · have hlt : ∀ q ∈ ks, q.1 ≠ i := fun q hq => by
        have h1 := hp.1 q.1 (List.mem_map_of_mem hq)
        have h2 := hle p (by simp)
        omega
      have e1 : (p :: ks).filter (fun p => p.1 == i) = [] := by
        rw [List.filter_eq_nil_iff]
        intro q hq
        rcases List.mem_cons.1 hq with rfl | hq
        · simpa using e
        · simpa using hlt q hq
      have e2 : (p :: ks).filter (fun p => p.1 != i) = p :: ks := by
        rw [List.filter_eq_self]
        intro q hq
        rcases List.mem_cons.1 hq with rfl | hq
        · simpa using e
        · simpa using hlt q hq
      rw [e1, e2]; rfl
theorem flatMap_same {α β : Type} {f g : α → List β} : ∀ {l : List α}, (∀ x ∈ l, f x = g x) → l.flatMap f = l.flatMap g
  | [], _ => rfl
  | x :: l, h => by rw [List.flatMap_cons, List.flatMap_cons, h x (by simp), flatMap_same fun y hy => h y (by simp [hy])]
theorem fill_pieces {lf : FieldM → ValueM} : ∀ {fs : List FieldM} {ks : List (Int × ValueM)}, (fs.map (·.id)).Pairwise (fun x y => x < y) → (ks.map (·.1)).Pairwise (· ≤ ·) → (∀ p ∈ ks, ∃ f ∈ fs, p.1 = f.id) →
    fillM lf fs (ks.map (·.1), ks.map (·.2)) = ((fs.flatMap fun g => pieceM lf g (keptOf g ks)).map (·.1), (fs.flatMap fun g => pieceM lf g (keptOf g ks)).map (·.2))
  | [], ks, _, _, h => by
    have : ks = [] := by
      cases ks with
      | nil => rfl
      | cons p ks => obtain ⟨f, hf, _⟩ := h p (by simp); cases hf
    subst this; rfl
  | f :: fs, ks, hf, hk, h => by
    rw [List.map_cons, List.pairwise_cons] at hf
    have hle : ∀ p ∈ ks, f.id ≤ p.1 := fun p hp => by
      obtain ⟨g, hg, e⟩ := h p hp
      rcases List.mem_cons.1 hg with rfl | hg
      · omega
      · have := hf.1 g.id (List.mem_map_of_mem hg); omega
    have hsp := kept_split hk hle
    obtain ⟨A, hA⟩ : ∃ A, A = ks.filter fun p => p.1 == f.id := ⟨_, rfl⟩
    obtain ⟨B, hB⟩ : ∃ B, B = ks.filter fun p => p.1 != f.id := ⟨_, rfl⟩
    rw [← hA, ← hB] at hsp
    have hAi : ∀ p ∈ A, p.1 = f.id := fun p hp => by rw [hA, List.mem_filter] at hp; simpa using hp.2
    have hBi : ∀ p ∈ B, p.1 ≠ f.id := fun p hp => by rw [hB, List.mem_filter] at hp; simpa using hp.2
    have hkB : (B.map (·.1)).Pairwise (· ≤ ·) := by rw [hB]; exact hk.sublist (List.filter_sublist.map _)
    have hBf : ∀ p ∈ B, ∃ g ∈ fs, p.1 = g.id := fun p hp => by
      have hp' : p ∈ ks := by rw [hsp]; exact List.mem_append_right _ hp
      obtain ⟨g, hg, e⟩ := h p hp'
      rcases List.mem_cons.1 hg with rfl | hg
      · exact absurd e (hBi p hp)
      · exact ⟨g, hg, e⟩
    have ih := fill_pieces (lf := lf) hf.2 hkB hBf
    have hko : ∀ g ∈ fs, keptOf g ks = keptOf g B := fun g hg => by
      unfold keptOf
      have hA0 : A.filter (fun p => p.1 == g.id) = [] := by
        rw [List.filter_eq_nil_iff]
        intro p hp
        have := hf.1 g.id (List.mem_map_of_mem hg)
        have := hAi p hp
        simp; omega
      rw [hsp, List.filter_append, hA0, List.nil_append]
    have hk1 : keptOf f ks = A.map (·.2) := by unfold keptOf; rw [← hA]
    have hstep : fillStep lf (ks.map (·.1), ks.map (·.2)) f = ((pieceM lf f (keptOf f ks)).map (·.1) ++ B.map (·.1), (pieceM lf f (keptOf f ks)).map (·.2) ++ B.map (·.2)) := by
      rw [hk1, hsp]
      cases hAe : A with
      | nil =>
        have hc : (([] ++ B : List (Int × ValueM)).map (·.1)).contains f.id = false := by
          cases e : (([] ++ B : List (Int × ValueM)).map (·.1)).contains f.id with
          | false => rfl
          | true =>
            rw [List.contains_iff_mem] at e
            obtain ⟨p, hp, e⟩ := List.mem_map.1 e
            exact absurd e (hBi p (by simpa using hp))
        have hc0 : (([] ++ B : List (Int × ValueM)).map (·.1)).countP (· < f.id) = 0 := by
          rw [List.countP_eq_zero]
          intro i hi
          obtain ⟨p, hp, e⟩ := List.mem_map.1 hi
          have := hle p (by rw [hsp, hAe]; exact hp)
          simp; omega
        unfold fillStep
        simp only
        rw [hc, hc0]
        by_cases hr : f.rule = 1
        · rw [if_pos ⟨hr, rfl⟩]
          unfold insAt pieceM
          simp [hr]
        · rw [if_neg (fun hh => hr hh.1)]
          unfold pieceM
          simp [hr]
      | cons p A' =>
        have hpe := hAi p (by rw [hAe]; simp)
        have hc : ((p :: A' ++ B).map (·.1)).contains f.id = true := by
          rw [List.contains_iff_mem]
          exact List.mem_map.2 ⟨p, by simp, hpe⟩
        unfold fillStep
        simp only
        rw [hc, if_neg (fun hh => by cases hh.2)]
        have ha1 : ((p :: A').map (·.2)).map (fun x => (f.id, x)) = p :: A' := by
          rw [List.map_map]
          have : ∀ q ∈ p :: A', ((fun x => (f.id, x)) ∘ fun q : Int × ValueM => q.2) q = q := fun q hq => by
            have := hAi q (by rw [hAe]; exact hq)
            simp only [Function.comp_apply, ← this]
          rw [List.map_congr_left this, List.map_id']
        unfold pieceM
        rw [ha1]
        simp
    show fillM lf fs (fillStep lf (ks.map (·.1), ks.map (·.2)) f) = _
    have hpl : ((pieceM lf f (keptOf f ks)).map (·.2)).length = ((pieceM lf f (keptOf f ks)).map (·.1)).length := by simp
    have hpi : ∀ i ∈ (pieceM lf f (keptOf f ks)).map (·.1), ∀ g ∈ fs, i < g.id := fun i hi g hg => by
      obtain ⟨p, hp, e⟩ := List.mem_map.1 hi
      have : p.1 = f.id := by
        unfold pieceM at hp
        rcases List.mem_append.1 hp with hp | hp
        · obtain ⟨x, _, rfl⟩ := List.mem_map.1 hp; rfl
        · split at hp
          · rw [List.mem_singleton] at hp; rw [hp]
          · cases hp
      have := hf.1 g.id (List.mem_map_of_mem hg)
      omega
    have hfl : (fs.flatMap fun g => pieceM lf g (keptOf g ks)) = fs.flatMap fun g => pieceM lf g (keptOf g B) := by
      exact flatMap_same fun g hg => by rw [hko g hg]
    rw [hstep, fill_front hpl hpi, ih, List.flatMap_cons, hfl, List.map_append, List.map_append]
end Go.Proofs.YtnppgeiompimaaaGreatDoor

namespace Go.Proofs.YtnppgeiompimaaaGreatDoor
set_option linter.unusedSimpArgs false
set_option linter.unusedVariables false
open Go.RowKit

theorem nodup_len {α : Type} [DecidableEq α] : ∀ {l m : List α}, l.Nodup → (∀ x ∈ l, x ∈ m) → l.length ≤ m.length
  | [], _, _, _ => Nat.zero_le _
  | x :: l, m, hn, h => by
    rw [List.nodup_cons] at hn
    have hx := h x (by simp)
    have ih := nodup_len (l := l) (m := m.erase x) hn.2 fun y hy => (List.mem_erase_of_ne (fun e : y = x => hn.1 (by rw [← e]; exact hy))).2 (h y (by simp [hy]))
    rw [List.length_erase_of_mem hx] at ih
    have := List.length_pos_of_mem hx
    rw [List.length_cons]; omega
theorem strange_out {w r : BookM} {f g : FieldM} (h : strangeM w r f g = none) (hf : kindN f.kind = 0) (hg : kindN g.kind = 0) : ∀ n ∈ samplesL w f, hasB r g n = true := by
  unfold strangeM at h
  rw [if_neg (by simp [hf, hg]), List.find?_eq_none] at h
  intro n hn
  simpa using h n hn
theorem text_of {ts : BookM} {f : FieldM} {x : ValueM} (h3 : f.kind = 3) (h : wrongOneN ts f x.kind x.n x.s x.ids.length x.l.length = 0) : goodTextB x.s = true := by
  unfold wrongOneN at h
  split at h
  · cases h
  · split at h
    · cases h
    · rw [if_neg (show ¬ f.kind = 1 by omega), if_neg (show ¬ f.kind = 2 by omega)] at h
      exact Decidable.byContradiction fun hn => by rw [if_neg hn] at h; cases h
theorem num_of {ts : BookM} {f : FieldM} {x : ValueM} (h : wrongOneN ts f x.kind x.n x.s x.ids.length x.l.length = 0) : (f.kind = 1 → x.n = 0 ∨ x.n = 1) ∧ (f.kind = 4 → ((typeM ts f).items.any fun i => i.n == x.n) = true) := by
  unfold wrongOneN at h
  split at h
  · cases h
  · split at h
    · cases h
    · refine ⟨fun h1 => ?_, fun h4 => ?_⟩
      · rw [if_pos h1] at h
        split at h
        · cases h
        · omega
      · rw [if_neg (show ¬ f.kind = 1 by omega), if_neg (show ¬ f.kind = 2 by omega), if_neg (show ¬ f.kind = 3 by omega), if_pos h4] at h
        exact Decidable.byContradiction fun hn => by rw [if_neg (show ¬ (((findM ts f.type).getD TypeM.zero).items.any fun i => i.n == x.n) = true from hn)] at h; cases h
/-- What a field's value is, for a reader's field that may have it. -/
theorem one_read {w r : BookM} (hw : goodM w = 0) (hr : goodM r = 0) {t u : TypeM} (ht : Msg w t) (hu : Msg r u) {f g : FieldM} (hf : f ∈ t.fields) (hg : g ∈ u.fields) (hfg : whysM w r f g = []) {x : ValueM} (h : wrongOneN w f x.kind x.n x.s x.ids.length x.l.length = 0) {enc : ValueM → List UInt8} {id : Int} :
    wrongOneN r g (bareM (partV enc id x)).kind (bareM (partV enc id x)).n (bareM (partV enc id x)).s 0 0 = 0 ∧ (g.kind ≠ 5 → bareM (partV enc id x) = ⟨x.kind, x.n, x.s, [], []⟩) ∧ (g.kind = 5 → x.kind = 2) ∧ (g.kind = 5 ↔ f.kind = 5) := by
  obtain ⟨hk, _, hs⟩ := whys_none hfg
  have hgk := (hu.field hr hg).2.1
  rcases one_cases hw ht hf h with ⟨k5, k3, k0, hn, hxs, hi, hl⟩ | ⟨k3, k1, hn, hxs, hi, hl⟩ | ⟨k5, k2, hn, hxs⟩
  · have hkf : kindN f.kind = 0 := by unfold kindN; rw [if_neg k3, if_neg k5]
    rw [hkf] at hk
    have g35 : g.kind ≠ 3 ∧ g.kind ≠ 5 := by
      rcases kindN_cases hgk with ⟨_, e⟩ | ⟨_, e⟩ | ⟨a, b, _⟩
      · omega
      · omega
      · exact ⟨a, b⟩
    have e : bareM (partV enc id x) = ⟨x.kind, x.n, x.s, [], []⟩ := by
      unfold bareM partV
      simp only
      rw [if_neg (by omega), hxs]
    refine ⟨?_, fun _ => e, fun h => absurd h g35.2, fun h => absurd h g35.2, fun h => absurd h k5⟩
    have hall := strange_out hs hkf hk.symm
    have hnum := num_of h
    have hhas : g.kind ≠ 2 → hasB r g x.n = true := fun g2 => by
      by_cases f1 : f.kind = 1
      · have := hnum.1 f1
        apply hall
        unfold samplesL
        rw [if_pos f1]
        simpa using this
      · by_cases f4 : f.kind = 4
        · have := hnum.2 f4
          apply hall
          unfold samplesL
          rw [if_neg f1, if_pos f4]
          rw [List.any_eq_true] at this
          obtain ⟨i, hi, e⟩ := this
          exact List.mem_map.2 ⟨i, hi, by simpa using e⟩
        · exfalso
          unfold samplesL at hall
          rw [if_neg f1, if_neg f4] at hall
          by_cases g1 : g.kind = 1
          · have := hall 2 (by simp)
            unfold hasB at this
            rw [if_pos g1] at this
            simp at this
          · have g4 : g.kind = 4 := by omega
            have h7 : ∀ n ∈ ([0, 1, 2, 3, 4, 5, 6] : List Int), n ∈ (typeM r g).items.map (·.n) := fun n hn => by
              have := hall n hn
              unfold hasB at this
              rw [if_neg g1, if_pos g4, List.any_eq_true] at this
              obtain ⟨i, hi, e⟩ := this
              exact List.mem_map.2 ⟨i, hi, by simpa using e⟩
            have h8 := nodup_len (by decide) h7
            obtain ⟨y, hy, hye⟩ := good_type (hu.field hr hg).1 (.inl g4)
            have gy := (goodM_out hr).2 y (findM_mem hy)
            have hey : y.enum = true := by rw [hye, g4]; rfl
            have := (gy.enum hey).2.2.2.1
            have e6 : (typeM r g) = y := by unfold typeM; rw [hy]; rfl
            rw [e6] at h8
            simp at h8
            omega
    rw [e]
    unfold wrongOneN
    rw [k0, hxs, if_neg (by simp [hk]), if_neg (by unfold oneKindB; simp [bytes_toList])]
    by_cases g1 : g.kind = 1
    · have := hhas (by omega)
      unfold hasB at this
      rw [if_pos g1] at this ⊢
      have h01 : x.n = 0 ∨ x.n = 1 := by simpa using this
      rw [if_neg]
      show ¬ (x.n ≠ 0 ∧ x.n ≠ 1)
      omega
    · rw [if_neg g1]
      by_cases g2 : g.kind = 2
      · rw [if_pos g2, if_neg (by simp only; omega)]
      · have g4 : g.kind = 4 := by omega
        have := hhas g2
        unfold hasB at this
        rw [if_neg g1, if_pos g4] at this
        rw [if_neg g2, if_neg g35.1, if_pos g4]
        exact if_pos this
  · have hkf : kindN f.kind = 1 := by unfold kindN; rw [if_pos k3]
    rw [hkf] at hk
    have g3 : g.kind = 3 := by
      rcases kindN_cases hgk with ⟨a, e⟩ | ⟨_, e⟩ | ⟨_, _, e⟩ <;> omega
    have e : bareM (partV enc id x) = ⟨x.kind, x.n, x.s, [], []⟩ := by
      unfold bareM partV
      simp only
      rw [if_pos k1, if_neg (by omega)]
    refine ⟨?_, fun _ => e, fun h => by omega, fun h => by omega, fun h => by omega⟩
    have hgt := text_of k3 h
    rw [e]
    unfold wrongOneN
    simp only
    rw [k1, hn, if_neg (by omega), if_neg (by unfold oneKindB; simp), if_neg (by omega), if_neg (by omega), if_pos g3, if_pos hgt]
  · have hkf : kindN f.kind = 2 := by unfold kindN; rw [if_neg (by omega), if_pos k5]
    rw [hkf] at hk
    have g5 : g.kind = 5 := by
      rcases kindN_cases hgk with ⟨a, e⟩ | ⟨_, e⟩ | ⟨_, _, e⟩ <;> omega
    have e : bareM (partV enc id x) = ⟨2, 0, ⟨#[]⟩, [], []⟩ := by
      unfold bareM partV
      rw [k2, hn]
      rfl
    refine ⟨?_, fun h => absurd g5 h, fun _ => k2, fun _ => k5, fun _ => g5⟩
    rw [e]
    unfold wrongOneN
    rw [if_neg (by simp only; omega), if_neg (by rw [one2.2 ⟨rfl, rfl⟩]; simp), if_neg (by omega), if_neg (by omega), if_neg (by omega), if_neg (by omega)]
/-- What a reader keeps of a message's values. -/
def keptL (u : TypeM) (oneV : FieldM → ValueM → ValueM) (l : List (Int × ValueM)) : List (Int × ValueM) := l.filterMap fun p => (fieldM u p.1).map fun g => (p.1, oneV g p.2)
theorem readL_keep {r : BookM} {u : TypeM} {enc : ValueM → List UInt8} {rec : FieldM → ByteArray → Int × ValueM} {oneV : FieldM → ValueM → ValueM} : ∀ {ids : List Int} {l : List ValueM} {prev : Option Int} {st : List Int × List ValueM}, l.length = ids.length →
    (∀ p ∈ ids.zip l, ∀ g, fieldM u p.1 = some g → wrongOneN r g (bareM (partV enc p.1 p.2)).kind (bareM (partV enc p.1 p.2)).n (bareM (partV enc p.1 p.2)).s 0 0 = 0 ∧ (g.kind ≠ 5 → bareM (partV enc p.1 p.2) = oneV g p.2) ∧ (g.kind = 5 → p.2.kind = 2 ∧ rec g ⟨(enc p.2).toArray⟩ = (0, oneV g p.2))) →
    ids.Pairwise (NxtOk u) → (∀ a ∈ st.1, ∀ b ∈ ids, NxtOk u a b) → (∀ q, prev = some q → ∀ b ∈ ids, q ≤ b) →
    readL r rec u prev (List.zipWith (partV enc) ids l) st = (0, (st.1 ++ (keptL u oneV (ids.zip l)).map (·.1), st.2 ++ (keptL u oneV (ids.zip l)).map (·.2)))
  | [], [], _, st, _, _, _, _, _ => by simp [readL, keptL]
  | [], _ :: _, _, _, h, _, _, _, _ => by simp at h
  | _ :: _, [], _, _, h, _, _, _, _ => by simp at h
  | id :: ids, x :: l, prev, st, h, hall, hp, hst, hpr => by
    rw [List.pairwise_cons] at hp
    have hone := hall (id, x) (by simp)
    simp only at hone
    have hfell : fellB prev (partV enc id x).id = false := by
      cases prev with
      | none => rfl
      | some q => have := hpr q rfl id (by simp); show decide (id < q) = false; simp; omega
    have hnext : ∀ st', (∀ a ∈ st'.1, a ∈ st.1 ∨ a = id) → readL r rec u (some id) (List.zipWith (partV enc) ids l) st' = (0, (st'.1 ++ (keptL u oneV (ids.zip l)).map (·.1), st'.2 ++ (keptL u oneV (ids.zip l)).map (·.2))) := fun st' hst' =>
      readL_keep (by simpa using h) (fun p hp => hall p (by simp [hp])) hp.2 (fun a ha b hb => by
        rcases hst' a ha with ha | rfl
        · exact hst a ha b (by simp [hb])
        · exact hp.1 b hb) (fun q hq b hb => by cases hq; exact (hp.1 b hb).1)
    cases hf : fieldM u id with
    | none =>
      have e1 : stepE r rec u prev (partV enc id x) st = 0 := by
        unfold stepE
        rw [if_neg (by simp [hfell]), show fieldM u (partV enc id x).id = none from hf]
      have e2 : stepV rec u (partV enc id x) st = st := by
        unfold stepV
        rw [show fieldM u (partV enc id x).id = none from hf]
      have e3 : keptL u oneV ((id :: ids).zip (x :: l)) = keptL u oneV (ids.zip l) := by
        unfold keptL
        rw [List.zip_cons_cons, List.filterMap_cons, hf]; rfl
      rw [List.zipWith_cons_cons, readL, if_neg (by simp [e1]), e2, e3]
      exact hnext st fun a ha => .inl ha
    | some g =>
      obtain ⟨b1, b2, b3⟩ := hone g hf
      have hfi := fieldM_id hf
      have hs5 : g.kind = 5 → (partV enc id x).s = ⟨(enc x).toArray⟩ := fun h5 => by unfold partV; rw [if_pos (b3 h5).1]
      have e1 : stepE r rec u prev (partV enc id x) st = 0 := by
        unfold stepE
        rw [if_neg (by simp [hfell]), show fieldM u (partV enc id x).id = some g from hf]
        simp only
        rw [if_neg (by simp [b1]), if_neg]
        · by_cases h5 : g.kind = 5
          · rw [if_pos h5, hs5 h5, (b3 h5).2]
          · rw [if_neg h5]
        · rintro ⟨h3, hc⟩
          rw [List.contains_iff_mem, hfi] at hc
          exact h3 ((hst id hc id (by simp)).2 rfl g hf)
      have e2 : stepV rec u (partV enc id x) st = (st.1 ++ [id], st.2 ++ [oneV g x]) := by
        unfold stepV
        rw [show fieldM u (partV enc id x).id = some g from hf]
        simp only
        rw [hfi]
        by_cases h5 : g.kind = 5
        · rw [if_pos h5, hs5 h5, (b3 h5).2]
        · rw [if_neg h5, b2 h5]
      have e3 : keptL u oneV ((id :: ids).zip (x :: l)) = (id, oneV g x) :: keptL u oneV (ids.zip l) := by
        unfold keptL
        rw [List.zip_cons_cons, List.filterMap_cons, hf]; rfl
      rw [List.zipWith_cons_cons, readL, if_neg (by simp [e1]), e2, e3]
      rw [show (partV enc id x).id = id from rfl, hnext _ fun a ha => by
        rcases List.mem_append.1 ha with ha | ha
        · exact .inl ha
        · exact .inr (by simpa using ha)]
      simp
theorem zip_mem_fst {ids : List Int} {l : List ValueM} {p : Int × ValueM} (h : p ∈ ids.zip l) : p.1 ∈ ids := (List.of_mem_zip (a := p.1) (b := p.2) h).1
theorem zip_fst {ids : List Int} {l : List ValueM} (h : l.length = ids.length) : (ids.zip l).map (·.1) = ids := by
  rw [List.map_fst_zip (by omega)]
theorem kept_field {u : TypeM} {oneV : FieldM → ValueM → ValueM} {g : FieldM} (hg : fieldM u g.id = some g) : ∀ {l : List (Int × ValueM)}, keptOf g (keptL u oneV l) = (l.filter fun p => p.1 == g.id).map fun p => oneV g p.2
  | [] => rfl
  | p :: l => by
    have ih := kept_field (oneV := oneV) hg (l := l)
    unfold keptOf keptL at ih ⊢
    rw [List.filterMap_cons]
    by_cases e : p.1 = g.id
    · rw [e, hg]
      simp only [Option.map_some]
      rw [List.filter_cons_of_pos (by simp), List.filter_cons_of_pos (by simp [e]), List.map_cons, List.map_cons, ih]
    · rw [List.filter_cons_of_neg (by simpa using e)]
      cases hf : fieldM u p.1 with
      | none => simp only [Option.map_none]; exact ih
      | some h =>
        simp only [Option.map_some]
        rw [List.filter_cons_of_neg (by simpa using e)]
        exact ih
/-- Types that may be read as each other, with all that they lead to. -/
structure NoFlaw (w r : BookM) (S : TypeM → TypeM → Prop) : Prop where
  whys : ∀ t u, S t u → ∀ f ∈ t.fields, ∀ g, fieldM u f.id = some g → whysM w r f g = []
  next : ∀ t u, S t u → ∀ f ∈ t.fields, ∀ g, fieldM u f.id = some g → f.kind = 5 → g.kind = 5 → S (typeM w f) (typeM r g)
/-- What is written of a value is read as what the reader makes of it. -/
theorem read_proj {w r : BookM} (hw : goodM w = 0) (hr : goodM r = 0) {S : TypeM → TypeM → Prop} (hS : NoFlaw w r S) : ∀ {k K : Nat} {t u : TypeM} {v : ValueM}, Msg w t → Msg r u → S t u → Fits K v → TypedP w K t v → cntM K v ≤ 400 → depM K v ≤ k + 1 → readM r k u ⟨(encV K v).toArray⟩ = (0, projM w r K t u v)
  | _, 0, _, _, _, _, _, _, _, h, _, _ => h.elim
  | k, K + 1, t, u, v, ht, hu, hs, hfit, hty, hc, hd => by
    obtain ⟨henc, _⟩ := hty.enc hw ht hfit hc
    obtain ⟨h1, h2, h3, h4, h5, h6, h7⟩ := hty
    obtain ⟨_, _, _, hgood, hlong⟩ := henc
    have hd' : 1 + maxL (depM K) v.l ≤ k + 1 := hd
    have hc' : 1 + sumL (cntM K) v.l ≤ 400 := hc
    obtain ⟨d1, d2⟩ := decR_enc hgood hlong
    have e0 : (⟨(encV (K + 1) v).toArray⟩ : ByteArray).data.toList = (partsV (encV K) v).flatMap partB := by
      show (encV (K + 1) v).toArray.toList = _
      rw [List.toList_toArray]; rfl
    obtain ⟨oneV, hone⟩ : ∃ oneV : FieldM → ValueM → ValueM, ∀ g x, oneV g x = projOne w r (projM w r K) ((fieldM t g.id).getD FieldM.zero) g x := ⟨_, fun _ _ => rfl⟩
    have hrd : readL r (recM r k) u none (partsV (encV K) v) ([], []) = (0, ((keptL u oneV (v.ids.zip v.l)).map (·.1), (keptL u oneV (v.ids.zip v.l)).map (·.2))) := by
      have := readL_keep (r := r) (u := u) (enc := encV K) (rec := recM r k) (oneV := oneV) (ids := v.ids) (l := v.l) (prev := none) (st := ([], [])) h4 (fun p hp g hg => ?_) ?_ (fun a ha => by cases ha) (fun q hq => by cases hq)
      · rw [show partsV (encV K) v = List.zipWith (partV (encV K)) v.ids v.l from rfl, this]
        simp
      · obtain ⟨f, hf, hwr, hrf⟩ := h6 p hp
        have hfm := fieldM_mem hf
        have hfi := fieldM_id hf
        have hgi := fieldM_id hg
        have hgm := fieldM_mem hg
        have hwy := hS.whys t u hs f hfm g (by rw [hfi]; exact hg)
        obtain ⟨o1, o2, o3, o4⟩ := one_read (enc := encV K) (id := p.1) hw hr ht hu hfm hgm hwy hwr
        have hft : fieldM t g.id = some f := by rw [hgi]; exact hf
        refine ⟨o1, fun h => ?_, fun g5 => ⟨o3 g5, ?_⟩⟩
        · rw [o2 h, hone, hft]
          unfold projOne
          rw [show (some f).getD FieldM.zero = f from rfl, if_neg (fun h' => h (o4.2 h'))]
        · have f5 := o4.1 g5
          have hx := (List.of_mem_zip hp).2
          have m1 := maxL_mem (f := depM K) hx
          have m2 := sumL_mem (f := cntM K) hx
          have m3 : 1 ≤ depM K p.2 := by cases K <;> simp [depM]
          rw [hone, hft]
          unfold projOne
          rw [show (some f).getD FieldM.zero = f from rfl, if_pos f5]
          cases k with
          | zero => omega
          | succ k => exact read_proj hw hr hS (ht.sub hw hfm f5) (hu.sub hr hgm g5) (hS.next t u hs f hfm g (by rw [hfi]; exact hg) f5 g5) (hfit p.2 hx) (hrf f5) (by omega) (by omega)
      · have hmem : ∀ b ∈ v.ids, ∃ f, fieldM t b = some f := fun b hb => by
          obtain ⟨i, hi, rfl⟩ := List.getElem_of_mem hb
          rw [zip_get (P := OneP w (TypedP w K) t) h4] at h6
          obtain ⟨f, hf, _⟩ := h6 i hi
          exact ⟨f, hf⟩
        refine (List.Pairwise.imp_of_mem (fun {a b} ha hb hab => ⟨hab.1, fun e g hg => ?_⟩) h5)
        obtain ⟨f, hf⟩ := hmem b hb
        have hfi := fieldM_id hf
        exact (whys_none (hS.whys t u hs f (fieldM_mem hf) g (by rw [hfi]; exact hg))).2.1 (hab.2 e f hf)
    rw [readM_eq]
    unfold readF
    rw [e0, d1, d2, hrd, if_neg (by simp), if_neg (by simp)]
    unfold fillV
    have hids : v.ids.Pairwise (· ≤ ·) := h5.imp fun h => h.1
    have hkr : ((keptL u oneV (v.ids.zip v.l)).map (·.1)).Pairwise (· ≤ ·) := by
      have : (keptL u oneV (v.ids.zip v.l)).map (·.1) = v.ids.filter fun i => (fieldM u i).isSome := by
        have hz := zip_fst h4
        generalize v.ids.zip v.l = z at hz
        rw [← hz]
        clear hz
        unfold keptL
        induction z with
        | nil => rfl
        | cons p z ih =>
          rw [List.filterMap_cons, List.map_cons]
          cases hf : fieldM u p.1 with
          | none => rw [List.filter_cons_of_neg (by simp [hf])]; exact ih
          | some g => rw [List.filter_cons_of_pos (by simp [hf])]; simp only [Option.map_some, List.map_cons]; rw [ih]
      rw [this]
      exact hids.sublist List.filter_sublist
    rw [fill_pieces (hu.rises hr) hkr fun p hp => by
      unfold keptL at hp
      obtain ⟨q, hq, e⟩ := List.mem_filterMap.1 hp
      cases hf : fieldM u q.1 with
      | none => rw [hf] at e; cases e
      | some g =>
        rw [hf] at e
        simp only [Option.map_some, Option.some.injEq] at e
        refine ⟨g, fieldM_mem hf, ?_⟩
        rw [← e, fieldM_id hf]]
    have hpc : (u.fields.flatMap fun g => pieceM (leastF r (leastV r 4)) g (keptOf g (keptL u oneV (v.ids.zip v.l)))) = projL w r (projM w r K) t v u.fields := by
      unfold projL
      refine flatMap_same fun g hg => ?_
      have hgf := hu.find hr hg
      rw [kept_field hgf]
      congr 1
      unfold projField
      cases hf : fieldM t g.id with
      | none =>
        simp only
        rw [List.map_eq_nil_iff, List.filter_eq_nil_iff]
        intro p hp e
        obtain ⟨f, hf', _⟩ := h6 p hp
        have : p.1 = g.id := by simpa using e
        rw [this, hf] at hf'
        cases hf'
      | some f =>
        simp only
        refine List.map_congr_left fun p hp => ?_
        rw [hone, hf]; rfl
    simp only
    rw [hpc]
    rfl
end Go.Proofs.YtnppgeiompimaaaGreatDoor

