import Derived.Test.YtmghhakebhgckaaGreatDoorC5g
namespace Go.Proofs.YtmghhakebhgckaaGreatDoor
set_option linter.unusedSimpArgs false
set_option linter.unusedVariables false
open Go.RowKit

theorem contains_cons (b : UInt8) (l sub : List UInt8) : Lib.contains (b :: l) sub = (sub.isPrefixOf (b :: l) || Lib.contains l sub) := by
  have h := Lib.index_ge l sub
  unfold Lib.contains
  rw [Lib.index]
  cases hp : sub.isPrefixOf (b :: l)
  · by_cases h1 : Lib.index l sub = -1
    · rw [h1]; decide
    · have h2 : (Lib.index l sub == -1) = false := by rw [beq_eq_false_iff_ne]; exact h1
      simp only [Bool.false_eq_true, if_false, h2, Bool.false_or, decide_eq_decide]
      omega
  · simp
theorem contains_nil (c : UInt8) (l : List UInt8) : Lib.contains [] (c :: l) = false := by
  unfold Lib.contains; rw [Lib.index]; rfl

/-- Words, each with a blank behind, and one ahead of all. -/
def spaced (ws : List (List UInt8)) : List UInt8 := 32 :: ws.flatMap fun w => w ++ [32]
def NoBlank (l : List UInt8) : Prop := ∀ c ∈ l, c ≠ 32
theorem prefix_word : ∀ (l w rest : List UInt8), NoBlank l → NoBlank w → (l ++ [32]).isPrefixOf (w ++ 32 :: rest) = (l == w)
  | [], [], rest, _, _ => by simp
  | [], c :: w, rest, _, hw => by
    have := hw c (by simp)
    simp [List.isPrefixOf, this.symm]
  | d :: l, [], rest, hl, _ => by
    have := hl d (by simp)
    simp [List.isPrefixOf, this]
  | d :: l, c :: w, rest, hl, hw => by
    have ih := prefix_word l w rest (fun x hx => hl x (by simp [hx])) (fun x hx => hw x (by simp [hx]))
    simp only [List.cons_append, List.isPrefixOf, ih]
    rfl
theorem contains_past (t : List UInt8) (sub : List UInt8) : ∀ w : List UInt8, NoBlank w → Lib.contains (w ++ t) (32 :: sub) = Lib.contains t (32 :: sub)
  | [], _ => rfl
  | c :: w, hw => by
    have hc := hw c (by simp)
    rw [List.cons_append, contains_cons, contains_past t sub w (fun x hx => hw x (by simp [hx]))]
    simp [List.isPrefixOf, hc.symm]
theorem contains_spaced : ∀ (ws : List (List UInt8)) (l : List UInt8), (∀ w ∈ ws, NoBlank w) → NoBlank l → Lib.contains (spaced ws) (32 :: (l ++ [32])) = ws.contains l
  | [], l, _, _ => by
    unfold spaced
    rw [List.flatMap_nil, contains_cons, contains_nil]
    cases l <;> simp [List.isPrefixOf]
  | w :: ws, l, hws, hl => by
    have hw := hws w (by simp)
    have ih := contains_spaced ws l (fun x hx => hws x (by simp [hx])) hl
    have e : spaced (w :: ws) = 32 :: (w ++ spaced ws) := by unfold spaced; simp
    rw [e, contains_cons, contains_past _ _ w hw, ih]
    have hp : (32 :: (l ++ [32])).isPrefixOf (32 :: (w ++ spaced ws)) = (l == w) := by
      have := prefix_word l w (ws.flatMap fun w => w ++ [32]) hl hw
      simp only [List.isPrefixOf]
      unfold spaced
      rw [this]; simp
    rw [hp, List.contains_cons]
theorem letters_noBlank {l : List UInt8} (h : l.all letterB = true) : NoBlank l := fun c hc e => by
  have := List.all_eq_true.1 h c hc
  rw [e] at this
  exact absurd this (by decide)

/-- The table's variable is there. -/
def MaxAt (w : World) : Prop := ∃ m : Int, w.cell? ⟨3, 0, none⟩ = some (.int .i64 m)
theorem MaxAt.ext {w w' : World} (h : MaxAt w) (hx : Ext w w') : MaxAt w' := let ⟨m, h⟩ := h; ⟨m, hx.cell h⟩
theorem words_spaced : spaced wordsL = [32, 98, 111, 111, 108, 32, 101, 110, 117, 109, 32, 103, 111, 110, 101, 32, 105, 110, 116, 32, 109, 97, 110, 121, 32, 109, 97, 121, 98, 101, 32, 109, 101, 115, 115, 97, 103, 101, 32, 111, 110, 101, 32, 116, 101, 120, 116, 32] := by decide
theorem words_noBlank : ∀ w ∈ wordsL, NoBlank w := by unfold NoBlank; decide

set_option maxHeartbeats 1600000 in
set_option maxRecDepth 4000 in
theorem isName_any (s : ByteArray) (w : World) (hs : s.size ≤ 9223372036854775807) (hm : MaxAt w) :
    Calls Tryz.prog 19 #[.string s] w fun e w' => e = .returned (.bool (namedL s.toList)) ∧ Ext w w' := by
  have hsz := size_toList s
  cases h0 : s.toList.isEmpty
  · have hne : 1 ≤ s.size := by
      rw [← hsz]
      cases hh : s.toList with
      | nil => rw [hh] at h0; cases h0
      | cons c l => simp
    by_cases h12 : 12 < s.size
    · rw [namedL_short (.inr h12)]
      go_enter Tryz.func19, Tryz.ntmps19
      go_wp2
      go_ret
      exact ⟨rfl, Ext.refl _⟩
    · have Ht := hide (trim_any s w hs h0)
      have hN : Hid (namedL s.toList = (s.toList.all letterB && !wordsL.contains s.toList)) := by
        unfold Hid namedL
        rw [hsz]
        simp [hne, show s.size ≤ 12 by omega]
      cases ha : s.toList.all letterB
      · have hN2 : Hid (namedL s.toList = false) := by unfold Hid; rw [unhide hN, ha]; rfl
        rw [ha] at Ht
        go_enter Tryz.func19, Tryz.ntmps19
        go_wp2_with fail
        refine (unhide Ht).mono ?_
        rintro e w1 ⟨t, rfl, ht, hx1⟩
        go_wp2
        go_ret
        exact ⟨by rw [unhide hN2]; rfl, hx1⟩
      · have hN2 : Hid (namedL s.toList = !wordsL.contains s.toList) := by unfold Hid; rw [unhide hN, ha]; rfl
        have hC := hide (contains_spaced wordsL s.toList words_noBlank (letters_noBlank ha))
        rw [words_spaced] at hC
        rw [ha] at Ht
        have hs12 : s.size ≤ 12 := by omega
        go_enter Tryz.func19, Tryz.ntmps19
        go_wp2_with fail
        refine (unhide Ht).mono ?_
        rintro e w1 ⟨t, rfl, ht, hx1⟩
        obtain ⟨m, hm1⟩ := hm.ext hx1
        have h32 : (ByteArray.mk #[32]).size = 1 := rfl
        have hsa : (ByteArray.mk #[32] ++ s).size ≤ 13 := by rw [ByteArray.size_append]; omega
        go_wp2_with fail
        refine (Tryz.strings_Contains _ _ m w1 (by decide) hm1).mono ?_
        rintro e w2 ⟨rfl, rfl⟩
        have hd : (ByteArray.mk #[32] ++ s ++ ByteArray.mk #[32]).data.toList = 32 :: (s.toList ++ [32]) := by
          rw [ByteArray.data_append, ByteArray.data_append, Array.toList_append, Array.toList_append, bytes_toList]; rfl
        rw [hd, unhide hC]
        clear hd
        obtain ⟨wc, hwc⟩ : ∃ wc, wordsL.contains s.toList = wc := ⟨_, rfl⟩
        rw [hwc] at hN2 ⊢
        clear hwc
        go_wp2
        go_ret
        exact ⟨by rw [unhide hN2]; rfl, hx1⟩
  · rw [namedL_short (.inl (by rw [← hsz, List.isEmpty_iff.1 h0]; decide))]
    go_enter Tryz.func19, Tryz.ntmps19
    go_wp2
    go_ret
    exact ⟨rfl, Ext.refl _⟩
end Go.Proofs.YtmghhakebhgckaaGreatDoor
