import Derived.Test.YtblkgaoafejefaaDoorReg2
namespace Go.Proofs.YtblkgaoafejefaaDoor
set_option linter.unusedSimpArgs false
set_option linter.unusedVariables false
open Go.RowKit
section
variable {P : Program} {ops : Array Oper} {Q : Exit → Act → World → Prop} {S : World → Prop} {B : Nat → Bool}
theorem wpOp_X {j : Nat} {oj : Oper} {fuel : Nat} {listed : Array Bool} {a : Act} {w : World} (hj : ops[j]? = some oj) (hB : B j = false)
    (h : ∀ K : Act → World → Prop, Hid (∀ a' w', S w' → wpAnyX P ops Q S B fuel (listed.setIfInBounds j true) a' w' → K a' w') → wpList P ops (Exit.then K Q) [oj] a w) :
    wpOp P ops Q j (fun a' w' => (B j = true → wpAny P .any ops Q fuel (listed.setIfInBounds j true) a' w') ∧ (B j = false → S w' ∧ wpAnyX P ops Q S B fuel (listed.setIfInBounds j true) a' w')) a w := by
  have h1 := h (fun a' w' => S w' ∧ wpAnyX P ops Q S B fuel (listed.setIfInBounds j true) a' w') (fun _ _ hS hX => ⟨hS, hX⟩)
  unfold wpOp
  simp only [hj]
  unfold wpList at h1
  split
  · rename_i hw
    rw [if_pos hw] at h1
    rcases h1 with h1 | h1
    · refine .inl (wp_then (N := wpList P ops (Exit.then (fun a' w' => S w' ∧ wpAnyX P ops Q S B fuel (listed.setIfInBounds j true) a' w') Q) []) (fun a' w' hh => ⟨fun h => (by rw [hB] at h; cases h), fun _ => hh⟩) h1)
    · exact .inr h1
  · rename_i hw
    rw [if_neg hw] at h1
    exact ⟨fun h => (by rw [hB] at h; cases h), fun _ => h1⟩
/-- One of two comes up. -/
theorem wpAnyX_two {i j : Nat} {oi oj : Oper} {fuel : Nat} {listed : Array Bool} {a : Act} {w : World} (hi : ops[i]? = some oi) (hj : ops[j]? = some oj) (hr : Region.ready .any ops listed = [i, j]) (hBi : B i = false) (hBj : B j = false)
    (h1 : ∀ K : Act → World → Prop, Hid (∀ a' w', S w' → wpAnyX P ops Q S B fuel (listed.setIfInBounds i true) a' w' → K a' w') → wpList P ops (Exit.then K Q) [oi] a w)
    (h2 : ∀ K : Act → World → Prop, Hid (∀ a' w', S w' → wpAnyX P ops Q S B fuel (listed.setIfInBounds j true) a' w' → K a' w') → wpList P ops (Exit.then K Q) [oj] a w) : wpAnyX P ops Q S B (fuel + 1) listed a w := by
  refine And.intro (fun e => by rw [hr] at e; cases e) (fun k hk => ?_)
  rw [hr] at hk
  simp only [List.mem_cons, List.not_mem_nil, or_false] at hk
  rcases hk with rfl | rfl
  · exact wpOp_X hi hBi h1
  · exact wpOp_X hj hBj h2
end
end Go.Proofs.YtblkgaoafejefaaDoor
