import Derived.Test.YtblkgaoafejefaaDoorReg
import Derived.OrdersHeld
namespace Go.Proofs.YtblkgaoafejefaaDoor
set_option linter.unusedSimpArgs false
set_option linter.unusedVariables false
open Go.RowKit

/-- Whatever order is picked from here on; 'S' holds behind each operation, till one of 'B' has been carried out. -/
def wpAnyX (P : Program) (ops : Array Oper) (Q : Exit → Act → World → Prop) (S : World → Prop) (B : Nat → Bool) : Nat → Array Bool → Act → World → Prop
  | 0, listed, a, w => Region.ready .any ops listed = [] ∧ Q .normal a w
  | fuel + 1, listed, a, w =>
    (Region.ready .any ops listed = [] → Q .normal a w) ∧
    ∀ j ∈ Region.ready .any ops listed, wpOp P ops Q j (fun a' w' => (B j = true → wpAny P .any ops Q fuel (listed.setIfInBounds j true) a' w') ∧ (B j = false → S w' ∧ wpAnyX P ops Q S B fuel (listed.setIfInBounds j true) a' w')) a w

section
variable {P : Program} {ops : Array Oper} {Q : Exit → Act → World → Prop} {S : World → Prop} {B : Nat → Bool}

theorem wpAny_of_X : ∀ (fuel : Nat) (listed : Array Bool) (a : Act) (w : World), wpAnyX P ops Q S B fuel listed a w → wpAny P .any ops Q fuel listed a w
  | 0, _, _, _, h => h
  | fuel + 1, _, _, _, h => ⟨h.1, fun j hj => wpOp_mono (fun a' w' h' => by
      cases hB : B j
      · exact wpAny_of_X fuel _ a' w' (h'.2 hB).2
      · exact h'.1 hB) (h.2 j hj)⟩

/-- An operation that reads only what S holds fast may be taken first, if whatever S need not outlive waits for it. -/
theorem wpAnyX_first {i : Nat} {oi : Oper} {v : Value} (hi : ops[i]? = some oi) (hsel : ∀ (j : Nat) (o : Oper) cs b, ops[j]? = some o → o.op ≠ .select cs b)
    (hQ : ∀ c a w, Q (.panic c) (a.put oi.dst v) w → Q (.panic c) a w) (hBi : B i = false) :
    ∀ (fuel : Nat) (listed : Array Bool) (a : Act) (w : World),
      (∀ j oj, ops[j]? = some oj → j ≠ i → listed.getD j true = false → (∀ e ∈ oj.after, Region.binds .any e = true → e.on ≠ i) → oi.apart ops oj = true ∧ B j = false) →
      i ∈ Region.ready .any ops listed → YieldsIf P ops S oi v a → S w →
      wpAnyX P ops Q S B fuel (listed.setIfInBounds i true) (a.put oi.dst v) w → wpAnyX P ops Q S B (fuel + 1) listed a w := by
  intro fuel
  induction fuel with
  | zero =>
    intro listed a w _ hr hy hS H
    refine And.intro (fun h => by rw [h] at hr; cases hr) (fun j hj => ?_)
    by_cases hji : j = i
    · subst hji
      exact hy.wpOp hi hS ⟨fun h => (by rw [hBi] at h; cases h), fun _ => ⟨hS, H⟩⟩
    · have := ready_mono hj hji
      rw [H.1] at this
      cases this
  | succ fuel ih =>
    intro listed a w hfree hr hy hS H
    refine And.intro (fun h => by rw [h] at hr; cases hr) (fun j hj => ?_)
    by_cases hji : j = i
    · subst hji
      exact hy.wpOp hi hS ⟨fun h => (by rw [hBi] at h; cases h), fun _ => ⟨hS, H⟩⟩
    · have h1 := H.2 j (ready_mono hj hji)
      obtain ⟨hjun, oj, hoj, hall⟩ := mem_ready.1 hj
      have hnot : ∀ e ∈ oj.after, Region.binds .any e = true → e.on ≠ i := fun e he hb heq => by
        have h1 := hall e he hb
        have h0 := (mem_ready.1 hr).1
        rw [heq] at h1
        rcases Nat.lt_or_ge i listed.size with h' | h'
        · simp [h'] at h0 h1; rw [h0] at h1; cases h1
        · simp [Array.getElem?_eq_none h'] at h1
      obtain ⟨hap, hBj⟩ := hfree j oj hoj hji hjun hnot
      have h2 := wpOp_putIf hoj hap (fun cs b => hsel i oi cs b hi) (fun cs b => hsel j oj cs b hoj) hQ hy h1
      refine wpOp_mono (fun a' w' h3 => ⟨fun h => (by rw [hBj] at h; cases h), fun _ => ?_⟩) h2
      obtain ⟨hS', H'⟩ := h3.2.2 hBj
      refine ⟨hS', ih (listed.setIfInBounds j true) a' w' (fun k ok hk hki hun hno => ?_) (ready_mono hr (Ne.symm hji)) h3.1 hS' ?_⟩
      · refine hfree k ok hk hki ?_ hno
        by_cases hjk : j = k
        · subst hjk; exact hjun
        · rw [getD_set_ne true hjk] at hun; exact hun
      · rw [Array.setIfInBounds_comm _ _ hji]; exact H'

/-- The side condition as one Bool. -/
def freeX (ops : Array Oper) (B : Nat → Bool) (listed : Array Bool) (i : Nat) : Bool :=
  match ops[i]? with
  | none => false
  | some oi => (!B i) && (Region.ready .any ops listed).contains i && (List.range ops.size).all fun j => j == i || listed.getD j true || match ops[j]? with
      | some oj => oj.after.any (fun e => Region.binds .any e && e.on == i) || (oi.apart ops oj && !B j)
      | none => true

theorem wpAnyX_take {i : Nat} {oi : Oper} {v : Value} {fuel : Nat} {listed : Array Bool} {a : Act} {w : World} (hi : ops[i]? = some oi) (hs : Region.noSelect ops = true) (hf : freeX ops B listed i = true)
    (hQ : ∀ c a w, Q (.panic c) (a.put oi.dst v) w → Q (.panic c) a w) (hy : YieldsIf P ops S oi v a) (hS : S w)
    (h : wpAnyX P ops Q S B fuel (listed.setIfInBounds i true) (a.put oi.dst v) w) : wpAnyX P ops Q S B (fuel + 1) listed a w := by
  simp only [freeX, hi, Bool.and_eq_true, Bool.not_eq_true', List.all_eq_true, List.mem_range] at hf
  obtain ⟨⟨hB, hr⟩, hall⟩ := hf
  refine wpAnyX_first hi (Region.noSelect_spec hs) hQ hB fuel listed a w (fun j oj hj hne hun hno => ?_) (by simpa using hr) hy hS h
  have h1 := hall j (Array.getElem?_eq_some_iff.1 hj).1
  simp only [hj, Bool.or_eq_true, beq_iff_eq, hne, false_or, hun, Bool.false_eq_true, Bool.and_eq_true, Bool.not_eq_true', Array.any_eq_true] at h1
  rcases h1 with ⟨k, hk, hb⟩ | h1
  · exact absurd hb.2 (hno _ (Array.getElem_mem hk) hb.1)
  · exact h1

/-- The one that may come up now: behind it S is shown. -/
theorem wpAnyX_one {j : Nat} {oj : Oper} {fuel : Nat} {listed : Array Bool} {a : Act} {w : World} (hj : ops[j]? = some oj) (hr : Region.ready .any ops listed = [j]) (hB : B j = false)
    (h : ∀ K : Act → World → Prop, Hid (∀ a' w', S w' → wpAnyX P ops Q S B fuel (listed.setIfInBounds j true) a' w' → K a' w') → wpList P ops (Exit.then K Q) [oj] a w) : wpAnyX P ops Q S B (fuel + 1) listed a w := by
  refine And.intro (fun e => by rw [hr] at e; cases e) (fun i hi => ?_)
  rw [hr] at hi
  obtain rfl : i = j := by simpa using hi
  have h1 := h (fun a' w' => S w' ∧ wpAnyX P ops Q S B fuel (listed.setIfInBounds i true) a' w') (fun _ _ hS hX => ⟨hS, hX⟩)
  unfold wpOp
  simp only [hj]
  unfold wpList at h1
  split
  · rename_i hw
    rw [if_pos hw] at h1
    rcases h1 with h1 | h1
    · refine .inl (wp_then (N := wpList P ops (Exit.then (fun a' w' => S w' ∧ wpAnyX P ops Q S B fuel (listed.setIfInBounds i true) a' w') Q) []) (fun a' w' hh => ⟨fun h => (by rw [hB] at h; cases h), fun _ => hh⟩) h1)
    · exact .inr h1
  · rename_i hw
    rw [if_neg hw] at h1
    exact ⟨fun h => (by rw [hB] at h; cases h), fun _ => h1⟩

/-- From here on each can come up alone: no S any more. -/
def forcedL (ops : Array Oper) : List Nat → Array Bool → Bool
  | [], listed => Region.ready .any ops listed == []
  | i :: is, listed => (Region.ready .any ops listed == [i]) && forcedL ops is (listed.setIfInBounds i true)

theorem wpAny_forcedL (K : Act → World → Prop) (hK : ∀ a w, K a w → Q .normal a w) (is : List Nat) : ∀ (l : List Oper) (listed : Array Bool) (a : Act) (w : World), l.length = is.length → (∀ (j i : Nat), is[j]? = some i → l[j]? = ops[i]?) →
    forcedL ops is listed = true → wpList P ops (Exit.then K Q) l a w → wpAny P .any ops Q is.length listed a w := by
  induction is with
  | nil =>
    intro l listed a w hlen _ hf h
    have : l = [] := List.length_eq_zero_iff.1 (by simpa using hlen)
    subst this
    simp only [forcedL, beq_iff_eq] at hf
    exact ⟨hf, hK _ _ h⟩
  | cons i is ih =>
    intro l listed a w hlen hl hf h
    cases l with
    | nil => simp at hlen
    | cons o l =>
      have h0 : ops[i]? = some o := by simpa using (hl 0 i rfl).symm
      simp only [forcedL, Bool.and_eq_true, beq_iff_eq] at hf
      obtain ⟨hr, hf'⟩ := hf
      rw [List.length_cons]
      refine And.intro (fun e => by rw [hr] at e; cases e) (fun j hj => ?_)
      rw [hr] at hj
      obtain rfl : j = i := by simpa using hj
      have ih' : ∀ a' w', wpList P ops (Exit.then K Q) l a' w' → wpAny P .any ops Q is.length (listed.setIfInBounds j true) a' w' := fun a' w' h' =>
        ih l _ a' w' (by simpa using hlen) (fun m n hm => by have := hl (m + 1) n (by simpa using hm); simpa using this) hf' h'
      unfold wpOp
      simp only [h0]
      unfold wpList at h
      split
      · rename_i hw
        rw [if_pos hw] at h
        rcases h with h | h
        · exact .inl (wp_then (K := K) ih' h)
        · exact .inr h
      · rename_i hw
        rw [if_neg hw] at h
        exact ih' _ _ h

theorem wpAnyX_end (is : List Nat) (l : List Oper) {listed : Array Bool} {a : Act} {w : World} (hlen : l.length = is.length) (hl : ∀ (j i : Nat), is[j]? = some i → l[j]? = ops[i]?) (hf : forcedL ops is listed = true) (hB : ∀ i, is[0]? = some i → B i = true)
    (h : ∀ K : Act → World → Prop, Hid (∀ a' w', Q .normal a' w' → K a' w') → wpList P ops (Exit.then K Q) l a w) : wpAnyX P ops Q S B is.length listed a w := by
  have h1 := wpAny_forcedL (Q := Q) (P := P) (fun a w => Q .normal a w) (fun _ _ h => h) is l listed a w hlen hl hf (h _ (fun _ _ h => h))
  cases is with
  | nil => exact h1
  | cons i is =>
    have hr : Region.ready .any ops listed = [i] := by
      simp only [forcedL, Bool.and_eq_true, beq_iff_eq] at hf; exact hf.1
    refine And.intro h1.1 (fun j hj => wpOp_mono (fun a' w' h' => ⟨fun _ => h', fun hh => ?_⟩) (h1.2 j hj))
    rw [hr] at hj
    obtain rfl : j = i := by simpa using hj
    rw [hB j rfl] at hh
    cases hh

theorem wp_region_X {id : Nat} {a : Act} {w : World} (S : World → Prop) (B : Nat → Bool) (hm : P.follows .mixedOrders = true) (h : wpAnyX P ops Q S B ops.size (Array.replicate ops.size false) a w.drew) : (Code.region id ops true).wp P Q a w :=
  wp_region_any hm (wpAny_of_X _ _ _ _ h)
end

end Go.Proofs.YtblkgaoafejefaaDoor
