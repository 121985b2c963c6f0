import Derived.Test.YtmdpdgldmedebaaGreatDoorM34
namespace Go.Proofs.YtmdpdgldmedebaaGreatDoor
set_option linter.unusedSimpArgs false
set_option linter.unusedVariables false
set_option linter.unusedSimpArgs false
set_option linter.unusedVariables false
open Go.RowKit
section
variable {P : Program} {ops : Array Oper} {Q : Exit → Act → World → Prop} {S : World → Prop} {B : Nat → Bool}
theorem wpOp_X {j : Nat} {oj : Oper} {fuel : Nat} {listed : Array Bool} {a : Act} {w : World} (hj : ops[j]? = some oj) (hB : B j = false)
    (h : ∀ K : Act → World → Prop, Hid (∀ a' w', S w' → wpAnyX P ops Q S B fuel (listed.setIfInBounds j true) a' w' → K a' w') → wpList P ops (Exit.then K Q) [oj] a w) :
    wpOp P ops Q j (fun a' w' => (B j = true → wpAny P .any ops Q fuel (listed.setIfInBounds j true) a' w') ∧ (B j = false → S w' ∧ wpAnyX P ops Q S B fuel (listed.setIfInBounds j true) a' w')) a w := by
  have h1 := h (fun a' w' => S w' ∧ wpAnyX P ops Q S B fuel (listed.setIfInBounds j true) a' w') (fun _ _ hS hX => ⟨hS, hX⟩)
  unfold wpOp
  simp only [hj]
  unfold wpList at h1
  split
  · rename_i hw
    rw [if_pos hw] at h1
    rcases h1 with h1 | h1
    · refine .inl (wp_then (N := wpList P ops (Exit.then (fun a' w' => S w' ∧ wpAnyX P ops Q S B fuel (listed.setIfInBounds j true) a' w') Q) []) (fun a' w' hh => ⟨fun h => (by rw [hB] at h; cases h), fun _ => hh⟩) h1)
    · exact .inr h1
  · rename_i hw
    rw [if_neg hw] at h1
    exact ⟨fun h => (by rw [hB] at h; cases h), fun _ => h1⟩
/-- One of two comes up. -/
theorem wpAnyX_two {i j : Nat} {oi oj : Oper} {fuel : Nat} {listed : Array Bool} {a : Act} {w : World} (hi : ops[i]? = some oi) (hj : ops[j]? = some oj) (hr : Region.ready .any ops listed = [i, j]) (hBi : B i = false) (hBj : B j = false)
    (h1 : ∀ K : Act → World → Prop, Hid (∀ a' w', S w' → wpAnyX P ops Q S B fuel (listed.setIfInBounds i true) a' w' → K a' w') → wpList P ops (Exit.then K Q) [oi] a w)
    (h2 : ∀ K : Act → World → Prop, Hid (∀ a' w', S w' → wpAnyX P ops Q S B fuel (listed.setIfInBounds j true) a' w' → K a' w') → wpList P ops (Exit.then K Q) [oj] a w) : wpAnyX P ops Q S B (fuel + 1) listed a w := by
  refine And.intro (fun e => by rw [hr] at e; cases e) (fun k hk => ?_)
  rw [hr] at hk
  simp only [List.mem_cons, List.not_mem_nil, or_false] at hk
  rcases hk with rfl | rfl
  · exact wpOp_X hi hBi h1
  · exact wpOp_X hj hBj h2
end
end Go.Proofs.YtmdpdgldmedebaaGreatDoor

namespace Go.Proofs.YtmdpdgldmedebaaGreatDoor
set_option linter.unusedSimpArgs false
set_option linter.unusedVariables false
open Go.RowKit
section
variable {P : Program} {ops : Array Oper} {Q : Exit → Act → World → Prop} {S S' : World → Prop} {B : Nat → Bool}
theorem wpAnyX_mono (h : ∀ w, S' w → S w) : ∀ (fuel : Nat) (listed : Array Bool) (a : Act) (w : World), wpAnyX P ops Q S' B fuel listed a w → wpAnyX P ops Q S B fuel listed a w
  | 0, _, _, _, h1 => h1
  | fuel + 1, _, _, _, h1 => ⟨h1.1, fun j hj => wpOp_mono (fun a' w' h' => ⟨h'.1, fun hB => ⟨h _ (h'.2 hB).1, wpAnyX_mono h fuel _ a' w' (h'.2 hB).2⟩⟩) (h1.2 j hj)⟩
theorem wpAnyX_three {i j k : Nat} {oi oj ok : Oper} {fuel : Nat} {listed : Array Bool} {a : Act} {w : World} (hi : ops[i]? = some oi) (hj : ops[j]? = some oj) (hk : ops[k]? = some ok) (hr : Region.ready .any ops listed = [i, j, k]) (hBi : B i = false) (hBj : B j = false) (hBk : B k = false)
    (h1 : ∀ K : Act → World → Prop, Hid (∀ a' w', S w' → wpAnyX P ops Q S B fuel (listed.setIfInBounds i true) a' w' → K a' w') → wpList P ops (Exit.then K Q) [oi] a w)
    (h2 : ∀ K : Act → World → Prop, Hid (∀ a' w', S w' → wpAnyX P ops Q S B fuel (listed.setIfInBounds j true) a' w' → K a' w') → wpList P ops (Exit.then K Q) [oj] a w)
    (h3 : ∀ K : Act → World → Prop, Hid (∀ a' w', S w' → wpAnyX P ops Q S B fuel (listed.setIfInBounds k true) a' w' → K a' w') → wpList P ops (Exit.then K Q) [ok] a w) : wpAnyX P ops Q S B (fuel + 1) listed a w := by
  refine And.intro (fun e => by rw [hr] at e; cases e) (fun m hm => ?_)
  rw [hr] at hm
  simp only [List.mem_cons, List.not_mem_nil, or_false] at hm
  rcases hm with rfl | rfl | rfl
  · exact wpOp_X hi hBi h1
  · exact wpOp_X hj hBj h2
  · exact wpOp_X hk hBk h3
end
end Go.Proofs.YtmdpdgldmedebaaGreatDoor

namespace Go.Proofs.YtmdpdgldmedebaaGreatDoor
set_option linter.unusedSimpArgs false
set_option linter.unusedVariables false
open Go.RowKit

theorem size_setCell (w : World) (p : Addr) (u : Value) : (w.setCell p u).heap.size = w.heap.size := by simp [World.setCell]
theorem rowN5 {w : World} {g : Nat} {t : TypeId} {c0 c1 c2 c3 c4 : Value} (hb : w.heap[g]? = some (.cells #[c0, c1, c2, c3, c4] t (0, 0))) :
    w.cell? ⟨g, 0, none⟩ = some c0 ∧ w.cell? ⟨g, 1, none⟩ = some c1 ∧ w.cell? ⟨g, 2, none⟩ = some c2 ∧ w.cell? ⟨g, 3, none⟩ = some c3 ∧ w.cell? ⟨g, 4, none⟩ = some c4 ∧ ∀ j, w.frozen? ⟨g, j, none⟩ = false :=
  ⟨cell_of_row w g 0 _ t _ hb, cell_of_row w g 1 _ t _ hb, cell_of_row w g 2 _ t _ hb, cell_of_row w g 3 _ t _ hb, cell_of_row w g 4 _ t _ hb, fun j => frozen_of_row w g j _ t hb⟩
theorem setN5 {w : World} {g : Nat} {t : TypeId} {c0 c1 c2 c3 c4 : Value} (hb : w.heap[g]? = some (.cells #[c0, c1, c2, c3, c4] t (0, 0))) (d0 d1 d2 d3 d4 : Value) :
    ∃ W, W = ((((w.setCell ⟨g, 0, none⟩ d0).setCell ⟨g, 1, none⟩ d1).setCell ⟨g, 2, none⟩ d2).setCell ⟨g, 3, none⟩ d3).setCell ⟨g, 4, none⟩ d4 ∧ W.heap[g]? = some (.cells #[d0, d1, d2, d3, d4] t (0, 0)) ∧ (∀ w0, Ext w0 w → w0.heap.size ≤ g → Ext w0 W) ∧ (∀ b, b ≠ g → W.heap[b]? = w.heap[b]?) ∧ W.heap.size = w.heap.size := by
  have h0 := heap_setCell_same w g 0 _ t d0 hb
  simp only [List.setIfInBounds_toArray, List.set_cons_succ, List.set_cons_zero] at h0
  have h1 := heap_setCell_same _ g 1 _ t d1 h0
  simp only [List.setIfInBounds_toArray, List.set_cons_succ, List.set_cons_zero] at h1
  have h2 := heap_setCell_same _ g 2 _ t d2 h1
  simp only [List.setIfInBounds_toArray, List.set_cons_succ, List.set_cons_zero] at h2
  have h3 := heap_setCell_same _ g 3 _ t d3 h2
  simp only [List.setIfInBounds_toArray, List.set_cons_succ, List.set_cons_zero] at h3
  have h4 := heap_setCell_same _ g 4 _ t d4 h3
  simp only [List.setIfInBounds_toArray, List.set_cons_succ, List.set_cons_zero] at h4
  refine ⟨_, rfl, h4, fun w0 hx hg => ((((hx.setCell hg _).setCell hg _).setCell hg _).setCell hg _).setCell hg _, fun b hb => ?_, ?_⟩
  · rw [Below.heap_setCell _ _ _ _ hb, Below.heap_setCell _ _ _ _ hb, Below.heap_setCell _ _ _ _ hb, Below.heap_setCell _ _ _ _ hb, Below.heap_setCell _ _ _ _ hb]
  · rw [size_setCell, size_setCell, size_setCell, size_setCell, size_setCell]
end Go.Proofs.YtmdpdgldmedebaaGreatDoor

namespace Go.Proofs.YtmdpdgldmedebaaGreatDoor
set_option linter.unusedSimpArgs false
set_option linter.unusedVariables false
open Go.RowKit

def typeF (ts : BookM) (f : FieldM) : TypeM := (findM ts f.type).getD TypeM.zero
/-- What the document's own answer asks of a field that it makes the least of. -/
def LrF (ts : BookM) (rec : TypeM → Prop) (f : FieldM) : Prop :=
  (1 ≤ f.kind ∧ f.kind ≤ 5) ∧ (f.kind = 4 → 0 < (typeF ts f).items.length) ∧ (f.kind ≠ 5 → (typeF ts f).fields = []) ∧ (f.kind = 5 → rec (typeF ts f))
def LeR (ts : BookM) : Nat → TypeM → Prop
  | 0, _ => False
  | k + 1, t => t.fields.length ≤ 1048576 ∧ ∀ f ∈ t.fields, f.rule = 1 → LrF ts (LeR ts k) f
theorem noType {ts : BookM} (hgood : goodM ts = 0) {name : ByteArray} (h : name.toList.isEmpty = true) : (findM ts name).getD TypeM.zero = TypeM.zero := by
  cases hf : findM ts name with
  | none => rfl
  | some u =>
    obtain ⟨_, hall⟩ := goodM_out hgood
    have h1 := (hall u (findM_mem hf)).name
    rw [find_name hf, List.isEmpty_iff.1 h] at h1
    exact absurd h1 (by decide)
theorem goodField_leaf {ts : BookM} {f : FieldM} (hg : goodFieldM ts f = true) (hk : f.kind = 1 ∨ f.kind = 2 ∨ f.kind = 3) : f.type.toList.isEmpty = true := by
  unfold goodFieldM at hg
  split at hg
  · cases hg
  · simpa [if_pos hk] using hg
theorem lrF_leaf {ts : BookM} (hgood : goodM ts = 0) {f : FieldM} (hg : goodFieldM ts f = true) (rec : TypeM → Prop) (h5 : f.kind = 5 → rec (typeF ts f)) : LrF ts rec f := by
  obtain ⟨_, hall⟩ := goodM_out hgood
  obtain ⟨_, k1, k5⟩ := goodField_out hg
  refine ⟨⟨k1, k5⟩, fun h4 => ?_, fun hn => ?_, h5⟩
  · obtain ⟨u, hu, hue⟩ := good_type hg (.inl h4)
    unfold typeF
    rw [hu]
    exact ((hall u (findM_mem hu)).enum (by rw [hue, h4]; rfl)).2.2.1
  · by_cases h4 : f.kind = 4
    · obtain ⟨u, hu, hue⟩ := good_type hg (.inl h4)
      unfold typeF
      rw [hu]
      exact ((hall u (findM_mem hu)).enum (by rw [hue, h4]; rfl)).1
    · unfold typeF
      rw [noType hgood (goodField_leaf hg (by omega))]
      rfl
theorem leR_of {ts : BookM} (hgood : goodM ts = 0) : ∀ (n : Nat) (name : ByteArray) (t : TypeM), findM ts name = some t → leastM ts n name ≠ 0 → LeR ts n t
  | 0, _, _, _, h => absurd rfl h
  | n + 1, name, t, hf, h => by
    obtain ⟨_, hall⟩ := goodM_out hgood
    unfold leastM at h
    rw [hf] at h
    simp only at h
    split at h
    · exact absurd rfl h
    · rename_i hno
      have hen : t.enum = false := by cases he : t.enum <;> simp_all
      have hmsg := (hall t (findM_mem hf)).msg hen
      refine ⟨by omega, fun f hfm hr => lrF_leaf hgood (hmsg.2.2.1 f hfm) _ fun h5 => ?_⟩
      obtain ⟨u, hu, _⟩ := good_type (hmsg.2.2.1 f hfm) (.inr h5)
      unfold typeF
      rw [hu]
      have hnz := leastFold_zero (fun f => if f.kind = 5 then leastM ts n f.type else 1) (fun f => by show 0 ≤ (if f.kind = 5 then leastM ts n f.type else 1); split; exact (leastM_bd ts n f.type).1; omega) t.fields 1 h f hfm hr
      simp only [h5, if_true] at hnz
      exact leR_of hgood n f.type u hu hnz
theorem leR_type {ts : BookM} {name : ByteArray} {t : TypeM} (hg : goodM ts = 0) (hf : findM ts name = some t) (he : t.enum = false) : LeR ts 4 t := by
  have := goodM_least hg _ (findM_mem hf) he
  rw [find_name hf] at this
  exact leR_of hg 4 name _ hf (by omega)
/-- Of a good book each field of each type. -/
theorem lrF_good {ts : BookM} (hg : goodM ts = 0) {t : TypeM} (ht : t ∈ ts) {f : FieldM} (hf : f ∈ t.fields) : LrF ts (LeR ts 4) f := by
  obtain ⟨_, hall⟩ := goodM_out hg
  have hen : t.enum = false := by
    cases he : t.enum
    · rfl
    · rw [((hall t ht).enum he).1] at hf; cases hf
  have hfg := ((hall t ht).msg hen).2.2.1 f hf
  refine lrF_leaf hg hfg _ fun h5 => ?_
  obtain ⟨u, hu, hue⟩ := good_type hfg (.inr h5)
  unfold typeF
  rw [hu]
  exact leR_type hg hu (show u.enum = false by rw [hue, h5]; rfl)
/-- What a message of a good book that is named is. -/
theorem lrF_msg {ts : BookM} {name : ByteArray} (h : msgE ts name = 0) : LrF ts (LeR ts 4) ⟨0, ⟨#[]⟩, name, 5, 0⟩ := by
  obtain ⟨hg, hf, he⟩ := msg_good h
  refine ⟨⟨by show (1 : Int) ≤ 5; decide, by show (5 : Int) ≤ 5; decide⟩, fun h => absurd (show (5 : Int) = 4 from h) (by decide), fun h => absurd rfl h, fun _ => ?_⟩
  show LeR ts 4 ((findM ts name).getD TypeM.zero)
  rw [hf]
  exact leR_type hg hf he
theorem leastF_msg {ts : BookM} {name : ByteArray} (h : msgE ts name = 0) : leastF ts (leastV ts 4) ⟨0, ⟨#[]⟩, name, 5, 0⟩ = leastA ts name := by
  obtain ⟨hg, hf, he⟩ := msg_good h
  unfold leastF leastA
  rw [if_neg (show ¬ ((5 : Int) = 4) by decide), if_pos (show (5 : Int) = 5 from rfl), if_pos h]
  show leastV ts 4 ((findM ts name).getD TypeM.zero) = _
  rw [hf]; rfl
/-- What LeastOf answers. -/
def lofE (ts : BookM) (name : ByteArray) (id : Int) : Int := if msgE ts name ≠ 0 then msgE ts name else if (fieldM (msgT ts name) id).isSome = false then 3 else 0
def lofV (ts : BookM) (name : ByteArray) (id : Int) : ValueM := if lofE ts name id = 0 then leastF ts (leastV ts 4) ((fieldM (msgT ts name) id).getD FieldM.zero) else ValueM.zero
theorem field_mem {t : TypeM} {id : Int} {f : FieldM} (h : fieldM t id = some f) : f ∈ t.fields := List.mem_of_find?_eq_some h
theorem lof_ok {ts : BookM} {name : ByteArray} {id : Int} (h : lofE ts name id = 0) : msgE ts name = 0 ∧ ∃ f, fieldM (msgT ts name) id = some f ∧ f ∈ (msgT ts name).fields := by
  unfold lofE at h
  by_cases hm : msgE ts name = 0
  · refine ⟨hm, ?_⟩
    cases hf : fieldM (msgT ts name) id with
    | none => rw [if_neg (by simp [hm]), hf] at h; exact absurd h (by decide)
    | some f => exact ⟨f, rfl, field_mem hf⟩
  · rw [if_pos hm] at h; exact absurd h hm
end Go.Proofs.YtmdpdgldmedebaaGreatDoor

