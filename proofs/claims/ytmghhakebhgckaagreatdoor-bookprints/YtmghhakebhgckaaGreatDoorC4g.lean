import Derived.Test.YtmghhakebhgckaaGreatDoorC3g
import Derived.Lib.AsciiSet
import Derived.Deep.WholeRow
namespace Go.Proofs.YtmghhakebhgckaaGreatDoor
set_option linter.unusedSimpArgs false
set_option linter.unusedVariables false
open Go.RowKit

def strLen : Value → Nat | .string t => t.size | _ => 0
theorem blen (a : ByteArray) : a.data.toList.length = a.size := by rw [Array.length_toList]; rfl
theorem bext {a b : ByteArray} (h : a.data.toList = b.data.toList) : a = b := by
  cases a with | mk a => cases b with | mk b => simp only [ByteArray.mk.injEq]; exact Array.toList_inj.1 h
theorem bextract (s : ByteArray) (i j : Nat) : (s.extract i j).data.toList = (s.data.toList.drop i).take (j - i) := by
  rw [ByteArray.data_extract, Array.toList_extract]
/-- A set of bytes in a row of bools. -/
def SetAt (w : World) (g : Nat) (p : UInt8 → Bool) : Prop := ∀ c : UInt8, w.cell? ⟨g, c.toNat, none⟩ = some (.bool (p c))

theorem snoc_bytes (t : ByteArray) (h : 0 < t.size) : t.data.toList = (t.extract 0 (t.size - 1)).data.toList ++ [t[t.size - 1]'(by omega)] := by
  rw [bextract, List.drop_zero, Nat.sub_zero]
  have hl := blen t
  have e := List.take_succ_eq_append_getElem (l := t.data.toList) (i := t.size - 1) (by omega)
  rw [show t.size - 1 + 1 = t.data.toList.length by omega, List.take_length] at e
  exact e
theorem cons_bytes (t : ByteArray) (h : 0 < t.size) : t.data.toList = t[0] :: (t.extract 1 t.size).data.toList := by
  rw [bextract, List.take_of_length_le (by rw [List.length_drop, blen]; omega)]
  have e := List.drop_eq_getElem_cons (l := t.data.toList) (i := 0) (by rw [blen]; exact h)
  rw [List.drop_zero] at e
  exact e

/-- What is behind is of the set; what is ahead is. -/
def EndsIn (p : UInt8 → Bool) (l m : List UInt8) : Prop := ∃ r, l = m ++ r ∧ r.all p = true
def BeginsIn (p : UInt8 → Bool) (l m : List UInt8) : Prop := ∃ r, l = r ++ m ∧ r.all p = true
theorem EndsIn.snoc {p : UInt8 → Bool} {l m : List UInt8} {c : UInt8} (h : EndsIn p l (m ++ [c])) (hc : p c = true) : EndsIn p l m := by
  obtain ⟨r, h1, h2⟩ := h
  exact ⟨c :: r, by rw [h1]; simp, by simp [hc, h2]⟩
theorem BeginsIn.cons {p : UInt8 → Bool} {l m : List UInt8} {c : UInt8} (h : BeginsIn p l (c :: m)) (hc : p c = true) : BeginsIn p l m := by
  obtain ⟨r, h1, h2⟩ := h
  exact ⟨r ++ [c], by rw [h1]; simp, by simp [hc, h2]⟩
theorem ret_string {a b : ByteArray} (h : a = b) : Ending.returned (.string a) = .returned (.string b) := by rw [h]

set_option maxHeartbeats 1600000 in
theorem trimRight_any (s : ByteArray) (g : Nat) (p : UInt8 → Bool) (w : World) (hs : s.size ≤ 9223372036854775807) (hp : SetAt w g p) :
    Calls Tryz.prog 58 #[.string s, .pointer (some ⟨g, 0, none⟩)] w fun e w' => ∃ t : ByteArray, e = .returned (.string t) ∧ EndsIn p s.data.toList t.data.toList ∧ t.size ≤ 9223372036854775807 ∧ w' = w := by
  have Hp := hide hp
  clear hp
  go_enter Tryz.func58, Tryz.ntmps58
  go_wp2
  go_loop [0] (fun x => ∃ t : ByteArray, x = .string t ∧ EndsIn p s.data.toList t.data.toList ∧ t.size ≤ 9223372036854775807) (fun x => strLen x)
  case atStart => exact ⟨s, rfl, ⟨[], by simp, rfl⟩, hs⟩
  case round =>
    obtain ⟨t, rfl, he, hts⟩ := hrel
    by_cases h0 : 0 < t.size
    · have hsz : (t.extract 0 (t.size - 1)).size = t.size - 1 := by
        rw [← blen, bextract, List.length_take, List.length_drop, blen]; omega
      have Hsn := hide (snoc_bytes t h0)
      have hc := unhide Hp (t[t.size - 1]'(by omega))
      cases hpc : p (t[t.size - 1]'(by omega))
      · rw [hpc] at hc
        go_wp2_with fail
        refine (Tryz.asciiSet_contains g _ _ w hc).mono ?_
        rintro e w1 ⟨rfl, rfl⟩
        go_wp2
        go_ret
        exact ⟨t, rfl, he, hts, rfl⟩
      · rw [hpc] at hc
        have he2 : EndsIn p s.data.toList (t.extract 0 (t.size - 1)).data.toList := by
          rw [unhide Hsn] at he
          exact he.snoc hpc
        clear he
        go_wp2_with fail
        refine (Tryz.asciiSet_contains g _ _ w hc).mono ?_
        rintro e w1 ⟨rfl, rfl⟩
        go_wp2
        go_round
        case rel => exact ⟨_, rfl, he2, by omega⟩
        case measure => simp [strLen]; omega
    · go_wp2
      go_ret
      exact ⟨t, rfl, he, hts, rfl⟩

set_option maxHeartbeats 1600000 in
theorem trimLeft_any (s : ByteArray) (g : Nat) (p : UInt8 → Bool) (w : World) (hs : s.size ≤ 9223372036854775807) (hp : SetAt w g p) :
    Calls Tryz.prog 57 #[.string s, .pointer (some ⟨g, 0, none⟩)] w fun e w' => ∃ t : ByteArray, e = .returned (.string t) ∧ BeginsIn p s.data.toList t.data.toList ∧ (∀ c l, t.data.toList = c :: l → p c = false) ∧ w' = w := by
  have Hp := hide hp
  clear hp
  go_enter Tryz.func57, Tryz.ntmps57
  go_wp2
  go_loop [0] (fun x => ∃ t : ByteArray, x = .string t ∧ BeginsIn p s.data.toList t.data.toList ∧ t.size ≤ 9223372036854775807) (fun x => strLen x)
  case atStart => exact ⟨s, rfl, ⟨[], by simp, rfl⟩, hs⟩
  case round =>
    obtain ⟨t, rfl, he, hts⟩ := hrel
    by_cases h0 : 0 < t.size
    · have hsz : (t.extract 1 t.size).size = t.size - 1 := by
        rw [← blen, bextract, List.length_take, List.length_drop, blen]; omega
      have Hsn := hide (cons_bytes t h0)
      have hc := unhide Hp t[0]
      cases hpc : p t[0]
      · rw [hpc] at hc
        have Hend : Hid (∀ c l, t.data.toList = c :: l → p c = false) := by
          intro c l h
          rw [unhide Hsn] at h
          simp only [List.cons.injEq] at h
          rw [← h.1]; exact hpc
        go_wp2_with fail
        refine (Tryz.asciiSet_contains g _ _ w hc).mono ?_
        rintro e w1 ⟨rfl, rfl⟩
        go_wp2
        go_ret
        exact ⟨t, rfl, he, unhide Hend, rfl⟩
      · rw [hpc] at hc
        have he2 : BeginsIn p s.data.toList (t.extract 1 t.size).data.toList := by
          rw [unhide Hsn] at he
          exact he.cons hpc
        clear he
        go_wp2_with fail
        refine (Tryz.asciiSet_contains g _ _ w hc).mono ?_
        rintro e w1 ⟨rfl, rfl⟩
        go_wp2
        go_round
        case rel => exact ⟨_, rfl, he2, by omega⟩
        case measure => simp [strLen]; omega
    · have Hend : Hid (∀ c l, t.data.toList = c :: l → p c = false) := by
        intro c l h
        have := congrArg List.length h
        rw [blen] at this
        simp at this
        omega
      go_wp2
      go_ret
      exact ⟨t, rfl, he, unhide Hend, rfl⟩
end Go.Proofs.YtmghhakebhgckaaGreatDoor
