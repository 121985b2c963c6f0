import Derived.Test.YtblkgaoafejefaaDoorOwn
import Derived.Deep.QuietTactic
import Derived.BigQuiet
namespace Go.Proofs.YtblkgaoafejefaaDoor
set_option linter.unusedSimpArgs false
set_option linter.unusedVariables false
open Go.RowKit

/-- The first n operations can come up in the order of the text alone. -/
def forcedFrom (ops : Array Oper) : Nat → Nat → Array Bool → Bool
  | 0, _, _ => true
  | n + 1, k, listed => (Region.ready .any ops listed == [k]) && forcedFrom ops n (k + 1) (listed.setIfInBounds k true)

/-- The operations from k on, n of them, are listed. -/
def listTo : Nat → Nat → Array Bool → Array Bool
  | 0, _, listed => listed
  | n + 1, k, listed => listTo n (k + 1) (listed.setIfInBounds k true)

/-- What an operation leaves by: 'normal' is no way out of one operation. -/
theorem wp_then {P : Program} {o : Oper} {a : Act} {w : World} {N N' : Act → World → Prop} {K : Act → World → Prop} {Q : Exit → Act → World → Prop} (hN : ∀ a w, N a w → N' a w) (h : o.wp P a w N (Exit.then K Q)) : o.wp P a w N' Q := by
  unfold Oper.wp at *
  generalize (execOp a.eval o).run P w = r at *
  cases r with
  | ok n w' =>
    cases n <;> simp only [Oper.upon] at h ⊢
    case value => exact hN _ _ h
    case skip => exact hN _ _ h
    case defer => exact hN _ _ h
    case enter =>
      refine h.mono fun e w'' he => ?_
      cases e with
      | returned v => exact hN _ _ he
      | panicked c => exact he
      | outgrown => exact he
    case row => exact h.mono fun v w'' hv => hN _ _ hv
  | halt x w' => cases x <;> simp only [Oper.upon] at h ⊢; exact h

theorem wpAny_forced {P : Program} {ops : Array Oper} {Q : Exit → Act → World → Prop} (K : Act → World → Prop) (fuel : Nat) : ∀ (l : List Oper) (k : Nat) (listed : Array Bool) (a : Act) (w : World), (∀ j, j < l.length → l[j]? = ops[k + j]?) →
    forcedFrom ops l.length k listed = true →
    (∀ a' w', K a' w' → wpAny P .any ops Q fuel (listTo l.length k listed) a' w') →
    wpList P ops (Exit.then K Q) l a w → wpAny P .any ops Q (l.length + fuel) listed a w
  | [], k, listed, a, w, _, _, hK, h => by
    have := hK a w h
    simpa [listTo] using this
  | o :: l, k, listed, a, w, hl, hf, hK, h => by
    have h0 : ops[k]? = some o := by simpa using (hl 0 (by simp)).symm
    simp only [List.length_cons, forcedFrom, Bool.and_eq_true, beq_iff_eq] at hf
    obtain ⟨hr, hf'⟩ := hf
    rw [List.length_cons, show l.length + 1 + fuel = (l.length + fuel) + 1 by omega]
    refine And.intro (fun e => by rw [hr] at e; cases e) (fun i hi => ?_)
    rw [hr] at hi
    obtain rfl : i = k := by simpa using hi
    have ih : ∀ a' w', wpList P ops (Exit.then K Q) l a' w' → wpAny P .any ops Q (l.length + fuel) (listed.setIfInBounds i true) a' w' := fun a' w' h' =>
      wpAny_forced K fuel l (i + 1) _ a' w' (fun j hj => by have := hl (j + 1) (by simp; omega); simpa [Nat.add_assoc, Nat.add_comm 1 j] using this) hf'
        (fun a'' w'' hk => hK a'' w'' hk) h'
    unfold wpOp
    simp only [h0]
    unfold wpList at h
    split
    · rename_i hw
      rw [if_pos hw] at h
      rcases h with h | ⟨h1, h2⟩
      · refine .inl (wp_then (K := K) ih ?_)
        exact h
      · exact .inr ⟨h1, h2⟩
    · rename_i hw
      rw [if_neg hw] at h
      exact ih _ _ h

/-- A REGION THAT DRAWS ITS ORDER, whose first operations can come up in the order of the text alone (they may do what they like), and whose others only read: one walk, in the order of the text. -/
theorem wp_region_prefix {P : Program} {id : Nat} {Q : Exit → Act → World → Prop} {a : Act} {w : World} (l1 l2 : List Oper) {l : List Oper} (hl : l = l1 ++ l2) (hm : P.follows .mixedOrders = true)
    (hs : Region.noSelect l.toArray = true) (hf : forcedFrom l.toArray l1.length 0 (Array.replicate l.toArray.size false) = true)
    (hB : Region.lexFrom .any l.toArray l2.length l1.length (listTo l1.length 0 (Array.replicate l.toArray.size false)) = true)
    (h : ∀ K : Act → World → Prop, Hid (∀ a' w', wpQuiet P l.toArray (fun w'' => ∃ n, w'' = w'.drewN n) (fun a'' => ∀ w'', (∃ n, w'' = w'.drewN n) → Q .normal a'' w'') l2 a' → K a' w') → wpList P l.toArray (Exit.then K Q) l1 a w.drew) : (Code.region id l.toArray true).wp P Q a w := by
  replace h := h (fun a' w' => wpQuiet P l.toArray (fun w'' => ∃ n, w'' = w'.drewN n) (fun a'' => ∀ w'', (∃ n, w'' = w'.drewN n) → Q .normal a'' w'') l2 a') (fun _ _ h => h)
  refine wp_region_any hm ?_
  have hz : l.toArray.size = l1.length + l2.length := by rw [hl]; simp
  rw [hz]
  refine wpAny_forced _ l2.length l1 0 _ a _ (fun j hj => ?_) (by rw [← hz]; exact hf) (fun a' w' hk => ?_) h
  · rw [hl]; simp [List.getElem?_append_left hj]
  · refine wpAny_of_quiet (C := fun w'' => ∃ n, w'' = w'.drewN n) (Q := fun a'' => ∀ w'', (∃ n, w'' = w'.drewN n) → Q .normal a'' w'') (fun _ w'' hw'' h => h w'' hw'') _ _ _ _ ⟨0, rfl⟩ ?_
    exact wpAnyQ_lex hs l2 l1.length _ a' (fun j => by rw [hl]; simp [List.getElem?_append_right]) (by rw [← hz]; exact hB) hk
end Go.Proofs.YtblkgaoafejefaaDoor
