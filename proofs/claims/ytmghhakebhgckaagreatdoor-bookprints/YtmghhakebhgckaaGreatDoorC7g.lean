import Derived.Test.YtmghhakebhgckaaGreatDoorC6g
namespace Go.Proofs.YtmghhakebhgckaaGreatDoor
set_option linter.unusedSimpArgs false
set_option linter.unusedVariables false
open Go.RowKit

theorem named_noBlank {b : ByteArray} (h : namedL b.toList = true) : NoBlank b.toList := by
  unfold namedL at h
  simp only [Bool.and_eq_true] at h
  exact letters_noBlank h.1.2
theorem named_size {b : ByteArray} (h : namedL b.toList = true) : b.size ≤ 12 := by
  unfold namedL at h
  simp only [Bool.and_eq_true, decide_eq_true_eq] at h
  rw [← size_toList]; exact h.1.1.2
theorem toList_inj {a b : ByteArray} (h : a.toList = b.toList) : a = b := by
  rw [bytes_toList, bytes_toList] at h; exact bext h

/-- The first k names are names, each once, and stand in the text with blanks between. -/
structure NamesTo (l : List ByteArray) (k : Nat) (used : ByteArray) : Prop where
  text : used.data.toList = spaced ((l.take k).map (·.toList))
  ok : AllTo (nameOkAt l) k
theorem NamesTo.start (l : List ByteArray) : NamesTo l 0 ⟨#[32]⟩ := ⟨rfl, AllTo.zero _⟩
theorem NamesTo.named {l : List ByteArray} {k : Nat} {used : ByteArray} (h : NamesTo l k used) : ∀ x ∈ l.take k, namedL x.toList = true := fun x hx => by
  obtain ⟨i, hi, rfl⟩ := List.getElem_of_mem hx
  have hi' : i < k ∧ i < l.length := by simp at hi; omega
  have := h.ok i hi'.1
  unfold nameOkAt at this
  rw [Bool.and_eq_true] at this
  simpa [List.getD, hi'.2] using this.1
theorem NamesTo.size {l : List ByteArray} {k : Nat} {used : ByteArray} (h : NamesTo l k used) : used.size ≤ 1 + 13 * k := by
  have key : ∀ m : List ByteArray, (∀ x ∈ m, namedL x.toList = true) → (spaced (m.map (·.toList))).length ≤ 1 + 13 * m.length := by
    intro m
    induction m with
    | nil => intro _; decide
    | cons a m ih =>
      intro hm
      have h1 := ih fun x hx => hm x (by simp [hx])
      have h2 := named_size (hm a (by simp))
      unfold spaced at h1 ⊢
      simp only [List.map_cons, List.flatMap_cons, List.length_cons, List.length_append, List.length_nil, size_toList] at h1 ⊢
      omega
  have := key _ h.named
  rw [← h.text, blen] at this
  have h3 : (l.take k).length ≤ k := List.length_take_le _ _
  omega
theorem NamesTo.check {l : List ByteArray} {k : Nat} {used : ByteArray} (h : NamesTo l k used) {x : ByteArray} (hx : namedL x.toList = true) : Lib.contains used.data.toList (32 :: (x.toList ++ [32])) = Lib.containsS (l.take k) x := by
  rw [h.text, contains_spaced _ _ (fun w hw => by
    obtain ⟨y, hy, rfl⟩ := List.mem_map.1 hw
    exact named_noBlank (h.named y hy)) (named_noBlank hx)]
  rw [Bool.eq_iff_iff, Lib.containsS_iff, List.contains_iff_mem, List.mem_map]
  exact ⟨fun ⟨y, hy, e⟩ => toList_inj e ▸ hy, fun h => ⟨x, h, rfl⟩⟩
theorem nameOk_of {l : List ByteArray} {k : Nat} (hk : k < l.length) : nameOkAt l k = (namedL l[k].toList && !Lib.containsS (l.take k) l[k]) := by
  unfold nameOkAt
  simp [List.getD, hk]
theorem NamesTo.next {l : List ByteArray} {k : Nat} {used : ByteArray} (h : NamesTo l k used) (hk : k < l.length) (h1 : namedL l[k].toList = true) (h2 : Lib.containsS (l.take k) l[k] = false) : NamesTo l (k + 1) (used ++ (l[k] ++ ⟨#[32]⟩)) := by
  refine ⟨?_, h.ok.succ (by rw [nameOk_of hk, h1, h2]; rfl)⟩
  rw [ByteArray.data_append, ByteArray.data_append, Array.toList_append, Array.toList_append, h.text, List.take_succ_eq_append_getElem hk]
  unfold spaced
  rw [List.map_append, List.flatMap_append]
  simp only [List.map_cons, List.map_nil, List.flatMap_cons, List.flatMap_nil, List.append_nil, bytes_toList, List.cons_append]
theorem sp_data (x : ByteArray) : (ByteArray.mk #[32] ++ x ++ ByteArray.mk #[32]).data.toList = 32 :: (x.toList ++ [32]) := by
  rw [ByteArray.data_append, ByteArray.data_append, Array.toList_append, Array.toList_append, bytes_toList]; rfl

/-- The first k numbers rise. -/
def RiseTo (l : List Int) (lo hi : Int) (k : Nat) (before : Int) : Prop := AllTo (risesAt lo hi l) k ∧ (k = 0 → before = lo - 1) ∧ (0 < k → l.getD (k - 1) 0 = before ∧ lo ≤ before)
theorem RiseTo.start (l : List Int) (lo hi : Int) : RiseTo l lo hi 0 (lo - 1) := ⟨AllTo.zero _, fun _ => rfl, fun h => by omega⟩
theorem RiseTo.iff {l : List Int} {lo hi : Int} {k : Nat} {before : Int} (h : RiseTo l lo hi k before) (hk : k < l.length) : risesAt lo hi l k = true ↔ (before < l[k] ∧ l[k] ≤ hi) := by
  rw [risesAt_iff hk]
  by_cases h0 : k = 0
  · have := h.2.1 h0
    constructor
    · rintro ⟨a, b, _⟩; exact ⟨by omega, b⟩
    · rintro ⟨a, b⟩; exact ⟨by omega, b, .inl h0⟩
  · obtain ⟨h1, h2⟩ := h.2.2 (by omega)
    have e : l.getD (k - 1) 0 = l[k - 1] := by simp [List.getD, show k - 1 < l.length by omega]
    rw [e] at h1
    constructor
    · rintro ⟨a, b, c⟩; exact ⟨by omega, b⟩
    · rintro ⟨a, b⟩; exact ⟨by omega, b, .inr (by omega)⟩
theorem RiseTo.next {l : List Int} {lo hi : Int} {k : Nat} {before : Int} (h : RiseTo l lo hi k before) (hk : k < l.length) (h1 : before < l[k]) (h2 : l[k] ≤ hi) : RiseTo l lo hi (k + 1) l[k] := by
  have hr := (h.iff hk).2 ⟨h1, h2⟩
  refine ⟨h.1.succ hr, fun h => by omega, fun _ => ⟨by simp [List.getD, hk], ?_⟩⟩
  exact ((risesAt_iff hk).1 hr).1
theorem all_range_of {p : Nat → Bool} {n : Nat} (h : AllTo p n) : (List.range n).all p = true := by
  rw [List.all_eq_true]
  exact fun k hk => h k (List.mem_range.1 hk)
end Go.Proofs.YtmghhakebhgckaaGreatDoor
