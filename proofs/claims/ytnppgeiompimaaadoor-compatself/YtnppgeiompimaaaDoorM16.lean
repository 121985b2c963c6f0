import Derived.Test.YtnppgeiompimaaaDoorM15
namespace Go.Proofs.YtnppgeiompimaaaDoor
set_option linter.unusedSimpArgs false
set_option linter.unusedVariables false
set_option linter.unusedSimpArgs false
set_option linter.unusedVariables false
open Go.RowKit

/-- What slices.Insert does with one, on a row of the call's own. -/
def InsP (F : FuncId) (e : TypeId) (size : Nat) : Prop := ∀ (base : Nat) (w : World) (v : Value) (n : Nat) (xs : List Value) (i g : Nat) (news : List Value), w.ownsRow base e size v n xs → i ≤ n → news.length = size → w.heap[g]? = some (.cells news.toArray e (0, 0)) → v.ownBlock ≠ some g → (∀ u ∈ news, u.oneCell' = true) → n < 1048576 → base ≤ w.heap.size → (∀ u ∈ xs, u.oneCell' = true) →
  Calls Tryd.prog F #[v, .int .i64 i, .slice (some ⟨g, 0, none⟩) 1 1] w fun r w' => ∃ v', r = .returned v' ∧ w'.ownsRow base e size v' (n + 1) (xs.take (i * size) ++ news ++ xs.drop (i * size)) ∧ w.grownBy w' v.ownBlock ∧ (v'.ownBlock = v.ownBlock ∨ ∃ g', v'.ownBlock = some g' ∧ w.heap.size ≤ g')
theorem ints_one (l : List Int) : ∀ u ∈ l.flatMap encI, u.oneCell' = true := by
  intro u hu
  obtain ⟨x, _, hx⟩ := List.mem_flatMap.1 hu
  simp [encI] at hx
  subst hx; rfl
theorem css_one {css : List (List Value)} {l : List ValueM} {S : Nat → Prop} {k : Nat} {w : World} (h2 : css.length = l.length) (h3 : ∀ (i : Nat) (c : List Value) (x : ValueM), css[i]? = some c → l[i]? = some x → ValueAtP S k w c x) : ∀ u ∈ css.flatMap (fun c => c), u.oneCell' = true := by
  intro u hu
  obtain ⟨c, hc, hx⟩ := List.mem_flatMap.1 hu
  obtain ⟨i, hi, rfl⟩ := List.getElem_of_mem hc
  exact (h3 i css[i] (l[i]'(by omega)) (by simp) (by simp)).one u hx
theorem ValueAtP.le {S : Nat → Prop} {k m : Nat} {w : World} {cs : List Value} {v : ValueM} (h : ValueAtP S k w cs v) (hm : k ≤ m) : ValueAtP S m w cs v := by
  obtain ⟨d, rfl⟩ := Nat.exists_eq_add_of_le hm
  induction d with
  | zero => exact h
  | succ d ih => exact (ih (by omega)).up
theorem flat5_take {css : List (List Value)} (h5 : ∀ c ∈ css, c.length = 5) : ∀ i : Nat, (css.flatMap fun c => c).take (i * 5) = (css.take i).flatMap fun c => c := by
  induction css with
  | nil => intro i; simp
  | cons d r ih =>
    intro i
    have hd := h5 d (by simp)
    cases i with
    | zero => simp
    | succ i =>
      rw [List.flatMap_cons, List.take_succ_cons, List.flatMap_cons, List.take_append, hd, List.take_of_length_le (by rw [hd]; omega), show (i + 1) * 5 - 5 = i * 5 by omega, ih (fun c hc => h5 c (by simp [hc]))]
theorem flat5_drop {css : List (List Value)} (h5 : ∀ c ∈ css, c.length = 5) : ∀ i : Nat, (css.flatMap fun c => c).drop (i * 5) = (css.drop i).flatMap fun c => c := by
  induction css with
  | nil => intro i; simp
  | cons d r ih =>
    intro i
    have hd := h5 d (by simp)
    cases i with
    | zero => simp
    | succ i =>
      rw [List.flatMap_cons, List.drop_succ_cons, List.drop_append, hd, List.drop_of_length_le (by rw [hd]; omega), List.nil_append, show (i + 1) * 5 - 5 = i * 5 by omega, ih (fun c hc => h5 c (by simp [hc]))]
theorem insAt_get {α : Type} {l : List α} {i j : Nat} {x y : α} (hi : i ≤ l.length) (h : (insAt l i x)[j]? = some y) : (j < i ∧ l[j]? = some y) ∨ (j = i ∧ y = x) ∨ (i < j ∧ l[j - 1]? = some y) := by
  unfold insAt at h
  have ht : (l.take i).length = i := by rw [List.length_take]; omega
  by_cases h1 : j < i
  · rw [List.getElem?_append_left (by omega), List.getElem?_take, if_pos h1] at h
    exact .inl ⟨h1, h⟩
  · rw [List.getElem?_append_right (by omega), ht] at h
    by_cases h2 : j = i
    · subst h2
      simp at h
      exact .inr (.inl ⟨rfl, h.symm⟩)
    · rw [show j - i = (j - i - 1) + 1 by omega, List.getElem?_cons_succ, List.getElem?_drop, show i + (j - i - 1) = j - 1 by omega] at h
      exact .inr (.inr ⟨by omega, h⟩)
theorem VRow.ins {k : Nat} {w w' : World} {base : Nat} {X : Nat → Prop} {ex : Option Nat} {v v' : Value} {l : List ValueM} {css : List (List Value)} {c : List Value} {x : ValueM} {i : Nat} (hi : i ≤ l.length) (hcl : css.length = l.length)
    (h3 : ∀ (i : Nat) (c : List Value) (x : ValueM), css[i]? = some c → l[i]? = some x → ValueAtP (fun b => X b ∧ v.ownBlock ≠ some b ∧ ex ≠ some b ∧ b < w.heap.size) k w c x)
    (hx : ValueAtP (fun b => X b ∧ v.ownBlock ≠ some b ∧ ex ≠ some b ∧ b < w.heap.size) k w c x)
    (ho : w'.ownsRow base 28 5 v' (l.length + 1) ((css.flatMap fun c => c).take (i * 5) ++ c ++ (css.flatMap fun c => c).drop (i * 5))) (hg : w.grownBy w' v.ownBlock) (hw : v'.ownBlock = v.ownBlock ∨ ∃ g', v'.ownBlock = some g' ∧ w.heap.size ≤ g') : VRow k w' base X ex v' (insAt l i x) := by
  have h5 : ∀ c ∈ css, c.length = 5 := fun c hc => by
    obtain ⟨j, hj, rfl⟩ := List.getElem_of_mem hc
    exact (h3 j css[j] l[j] (List.getElem?_eq_getElem hj) (List.getElem?_eq_getElem (by omega))).len
  have key : ∀ {c : List Value} {x : ValueM}, ValueAtP (fun b => X b ∧ v.ownBlock ≠ some b ∧ ex ≠ some b ∧ b < w.heap.size) k w c x → ValueAtP (fun b => X b ∧ v'.ownBlock ≠ some b ∧ ex ≠ some b ∧ b < w'.heap.size) k w' c x := fun h => by
    refine (h.keep fun b ob hb hob => ?_).sub fun b hb => ⟨hb.1, ?_, hb.2.2.1, by have := hg.size; have := hb.2.2.2; omega⟩
    · rw [hg.block b hb.2.2.2 (fun e => hb.2.1 e.symm)]; exact hob
    · rcases hw with e | ⟨g', e, hge⟩
      · rw [e]; exact hb.2.1
      · rw [e]; intro he; cases he; have := hb.2.2.2; omega
  refine ⟨insAt css i c, ?_, by rw [insAt_len css i c (by omega), insAt_len l i x hi, hcl], fun j c' x' hc hx' => ?_⟩
  · rw [insAt_len l i x hi]
    rw [flat5_take h5, flat5_drop h5] at ho
    unfold insAt
    rw [List.flatMap_append, List.flatMap_cons]
    simpa using ho
  · rcases insAt_get (by omega) hc with ⟨a1, a2⟩ | ⟨a1, a2⟩ | ⟨a1, a2⟩
    · rcases insAt_get hi hx' with ⟨b1, b2⟩ | ⟨b1, b2⟩ | ⟨b1, b2⟩
      · exact key (h3 j c' x' a2 b2)
      · omega
      · omega
    · rcases insAt_get hi hx' with ⟨b1, b2⟩ | ⟨b1, b2⟩ | ⟨b1, b2⟩
      · omega
      · subst a2 b2; exact key hx
      · omega
    · rcases insAt_get hi hx' with ⟨b1, b2⟩ | ⟨b1, b2⟩ | ⟨b1, b2⟩
      · omega
      · omega
      · exact key (h3 (j - 1) c' x' a2 b2)
theorem ints_ins (l : List Int) (i : Nat) (x : Int) : (l.flatMap encI).take (i * 1) ++ [.int .i64 x] ++ (l.flatMap encI).drop (i * 1) = (insAt l i x).flatMap encI := by
  have he : ∀ l : List Int, l.flatMap encI = l.map fun x => Value.int .i64 x := fun l => by
    induction l with
    | nil => rfl
    | cons a r ih => rw [List.flatMap_cons, ih]; rfl
  rw [he, he, Nat.mul_one]
  unfold insAt
  simp
end Go.Proofs.YtnppgeiompimaaaDoor

namespace Go.Proofs.YtnppgeiompimaaaDoor
set_option linter.unusedSimpArgs false
set_option linter.unusedVariables false
open Go.RowKit

theorem fill_take {lf : FieldM → ValueM} {l : List FieldM} {j : Nat} (h : j < l.length) (p : List Int × List ValueM) : fillM lf (l.take (j + 1)) p = fillStep lf (fillM lf (l.take j) p) l[j] := by
  rw [List.take_succ_eq_append_getElem h]
  unfold fillM
  rw [List.foldl_append]; rfl
/-- What the drawn statement of filled reads. -/
def FlS (A c F : Nat) (sb : SV) (vL : Value) (f : FieldM) (w : World) : Prop := LmS A c F sb vL f w

end Go.Proofs.YtnppgeiompimaaaDoor

