import Derived.Test.YtblkgaoafejefaaDoorW3
import Derived.Test.YtblkgaoafejefaaDoorShelf
namespace Go.Proofs.YtblkgaoafejefaaDoor
set_option linter.unusedSimpArgs false
set_option linter.unusedVariables false
open Go.RowKit

theorem bytes_toList (s : ByteArray) : s.toList = s.data.toList := ByteArray.toList_eq s

def LettersTo (s : ByteArray) (k : Nat) : Prop := ∀ j, j < k → ∀ h : j < s.size, letterB s[j] = true
theorem LettersTo.zero (s : ByteArray) : LettersTo s 0 := fun _ h => by omega
theorem LettersTo.succ {s : ByteArray} {k : Nat} (h : LettersTo s k) (hk : k < s.size) (hp : letterB s[k] = true) : LettersTo s (k + 1) := fun j hj hs => by
  by_cases e : j = k
  · subst e; exact hp
  · exact h j (by omega) hs
theorem LettersTo.all {s : ByteArray} {k : Nat} (h : LettersTo s k) (hk : s.size ≤ k) : s.toList.all letterB = true := by
  rw [List.all_eq_true]
  intro x hx
  rw [bytes_toList] at hx
  obtain ⟨j, hj, rfl⟩ := List.getElem_of_mem hx
  have hj' : j < s.size := by simpa using hj
  exact h j (by omega) hj'
theorem not_letters {s : ByteArray} {k : Nat} (hk : k < s.size) (hp : letterB s[k] = false) : s.toList.all letterB = false := by
  rw [List.all_eq_false]
  refine ⟨s[k], ?_, by simp [hp]⟩
  rw [bytes_toList]
  exact List.getElem_mem (by simpa using hk)
theorem size_toList (s : ByteArray) : s.toList.length = s.size := by rw [bytes_toList]; rfl

theorem namedL_short {s : ByteArray} (h : s.size < 1 ∨ 12 < s.size) : namedL s.toList = false := by
  unfold namedL
  rw [size_toList]
  rcases h with h | h
  · simp [show ¬ 1 ≤ s.size by omega]
  · simp [show ¬ s.size ≤ 12 by omega]
theorem namedL_letter {s : ByteArray} {k : Nat} (hk : k < s.size) (hp : letterB s[k] = false) : namedL s.toList = false := by
  unfold namedL
  rw [not_letters hk hp]; simp
theorem namedL_word {s : ByteArray} (h : wordsL.contains s.toList = true) : namedL s.toList = false := by
  unfold namedL
  rw [h]; simp
theorem namedL_yes {s : ByteArray} {k : Nat} (h1 : 1 ≤ s.size) (h2 : s.size ≤ 12) (h : LettersTo s k) (hk : s.size ≤ k) (hw : wordsL.contains s.toList = false) : namedL s.toList = true := by
  unfold namedL
  rw [size_toList, h.all hk, hw]; simp [h1, h2]

/-- The first k words are not s. -/
def NotWords (l : List UInt8) (k : Nat) : Prop := ∀ j, j < k → wordsL[j]? ≠ some l
theorem NotWords.succ {l : List UInt8} {k : Nat} (h : NotWords l k) (hk : wordsL[k]? ≠ some l) : NotWords l (k + 1) := fun j hj => by
  by_cases e : j = k
  · subst e; exact hk
  · exact h j (by omega)
theorem NotWords.no {l : List UInt8} (h : NotWords l 9) : wordsL.contains l = false := by
  rw [Bool.eq_false_iff]
  intro hc
  obtain ⟨j, hj, e⟩ := List.getElem_of_mem (List.contains_iff_mem.1 hc)
  exact h j hj (by rw [List.getElem?_eq_getElem hj, e])
theorem word_in {l : List UInt8} {k : Nat} (h : wordsL[k]? = some l) : wordsL.contains l = true := List.contains_iff_mem.2 (List.mem_of_getElem? h)

theorem word0 (w : World) : Sem.run Tryd.prog (Instr.index 102 (Value.agg #[Value.string { data := #[98, 111, 111, 108] }, Value.string { data := #[101, 110, 117, 109] }, Value.string { data := #[103, 111, 110, 101] }, Value.string { data := #[105, 110, 116] }, Value.string { data := #[109, 97, 110, 121] }, Value.string { data := #[109, 97, 121, 98, 101] }, Value.string { data := #[109, 101, 115, 115, 97, 103, 101] }, Value.string { data := #[111, 110, 101] }, Value.string { data := #[116, 101, 120, 116] }]) (Value.int IntKind.i64 0)) w = .ok (Value.string { data := #[98, 111, 111, 108] }) w := by kernel_rfl
theorem word1 (w : World) : Sem.run Tryd.prog (Instr.index 102 (Value.agg #[Value.string { data := #[98, 111, 111, 108] }, Value.string { data := #[101, 110, 117, 109] }, Value.string { data := #[103, 111, 110, 101] }, Value.string { data := #[105, 110, 116] }, Value.string { data := #[109, 97, 110, 121] }, Value.string { data := #[109, 97, 121, 98, 101] }, Value.string { data := #[109, 101, 115, 115, 97, 103, 101] }, Value.string { data := #[111, 110, 101] }, Value.string { data := #[116, 101, 120, 116] }]) (Value.int IntKind.i64 1)) w = .ok (Value.string { data := #[101, 110, 117, 109] }) w := by kernel_rfl
theorem word2 (w : World) : Sem.run Tryd.prog (Instr.index 102 (Value.agg #[Value.string { data := #[98, 111, 111, 108] }, Value.string { data := #[101, 110, 117, 109] }, Value.string { data := #[103, 111, 110, 101] }, Value.string { data := #[105, 110, 116] }, Value.string { data := #[109, 97, 110, 121] }, Value.string { data := #[109, 97, 121, 98, 101] }, Value.string { data := #[109, 101, 115, 115, 97, 103, 101] }, Value.string { data := #[111, 110, 101] }, Value.string { data := #[116, 101, 120, 116] }]) (Value.int IntKind.i64 2)) w = .ok (Value.string { data := #[103, 111, 110, 101] }) w := by kernel_rfl
theorem word3 (w : World) : Sem.run Tryd.prog (Instr.index 102 (Value.agg #[Value.string { data := #[98, 111, 111, 108] }, Value.string { data := #[101, 110, 117, 109] }, Value.string { data := #[103, 111, 110, 101] }, Value.string { data := #[105, 110, 116] }, Value.string { data := #[109, 97, 110, 121] }, Value.string { data := #[109, 97, 121, 98, 101] }, Value.string { data := #[109, 101, 115, 115, 97, 103, 101] }, Value.string { data := #[111, 110, 101] }, Value.string { data := #[116, 101, 120, 116] }]) (Value.int IntKind.i64 3)) w = .ok (Value.string { data := #[105, 110, 116] }) w := by kernel_rfl
theorem word4 (w : World) : Sem.run Tryd.prog (Instr.index 102 (Value.agg #[Value.string { data := #[98, 111, 111, 108] }, Value.string { data := #[101, 110, 117, 109] }, Value.string { data := #[103, 111, 110, 101] }, Value.string { data := #[105, 110, 116] }, Value.string { data := #[109, 97, 110, 121] }, Value.string { data := #[109, 97, 121, 98, 101] }, Value.string { data := #[109, 101, 115, 115, 97, 103, 101] }, Value.string { data := #[111, 110, 101] }, Value.string { data := #[116, 101, 120, 116] }]) (Value.int IntKind.i64 4)) w = .ok (Value.string { data := #[109, 97, 110, 121] }) w := by kernel_rfl
theorem word5 (w : World) : Sem.run Tryd.prog (Instr.index 102 (Value.agg #[Value.string { data := #[98, 111, 111, 108] }, Value.string { data := #[101, 110, 117, 109] }, Value.string { data := #[103, 111, 110, 101] }, Value.string { data := #[105, 110, 116] }, Value.string { data := #[109, 97, 110, 121] }, Value.string { data := #[109, 97, 121, 98, 101] }, Value.string { data := #[109, 101, 115, 115, 97, 103, 101] }, Value.string { data := #[111, 110, 101] }, Value.string { data := #[116, 101, 120, 116] }]) (Value.int IntKind.i64 5)) w = .ok (Value.string { data := #[109, 97, 121, 98, 101] }) w := by kernel_rfl
theorem word6 (w : World) : Sem.run Tryd.prog (Instr.index 102 (Value.agg #[Value.string { data := #[98, 111, 111, 108] }, Value.string { data := #[101, 110, 117, 109] }, Value.string { data := #[103, 111, 110, 101] }, Value.string { data := #[105, 110, 116] }, Value.string { data := #[109, 97, 110, 121] }, Value.string { data := #[109, 97, 121, 98, 101] }, Value.string { data := #[109, 101, 115, 115, 97, 103, 101] }, Value.string { data := #[111, 110, 101] }, Value.string { data := #[116, 101, 120, 116] }]) (Value.int IntKind.i64 6)) w = .ok (Value.string { data := #[109, 101, 115, 115, 97, 103, 101] }) w := by kernel_rfl
theorem word7 (w : World) : Sem.run Tryd.prog (Instr.index 102 (Value.agg #[Value.string { data := #[98, 111, 111, 108] }, Value.string { data := #[101, 110, 117, 109] }, Value.string { data := #[103, 111, 110, 101] }, Value.string { data := #[105, 110, 116] }, Value.string { data := #[109, 97, 110, 121] }, Value.string { data := #[109, 97, 121, 98, 101] }, Value.string { data := #[109, 101, 115, 115, 97, 103, 101] }, Value.string { data := #[111, 110, 101] }, Value.string { data := #[116, 101, 120, 116] }]) (Value.int IntKind.i64 7)) w = .ok (Value.string { data := #[111, 110, 101] }) w := by kernel_rfl
theorem word8 (w : World) : Sem.run Tryd.prog (Instr.index 102 (Value.agg #[Value.string { data := #[98, 111, 111, 108] }, Value.string { data := #[101, 110, 117, 109] }, Value.string { data := #[103, 111, 110, 101] }, Value.string { data := #[105, 110, 116] }, Value.string { data := #[109, 97, 110, 121] }, Value.string { data := #[109, 97, 121, 98, 101] }, Value.string { data := #[109, 101, 115, 115, 97, 103, 101] }, Value.string { data := #[111, 110, 101] }, Value.string { data := #[116, 101, 120, 116] }]) (Value.int IntKind.i64 8)) w = .ok (Value.string { data := #[116, 101, 120, 116] }) w := by kernel_rfl
theorem word_is {l v : List UInt8} (h : (l == v) = true) (hv : wordsL.contains v = true) : wordsL.contains l = true := by rw [eq_of_beq h]; exact hv
theorem not_word {l v : List UInt8} {k : Nat} (hk : wordsL[k]? = some v) (h : (l == v) = false) : wordsL[k]? ≠ some l := fun e => by
  rw [hk] at e
  cases e
  simp at h
theorem nine (k : Nat) (h : k < 9) : k = 0 ∨ k = 1 ∨ k = 2 ∨ k = 3 ∨ k = 4 ∨ k = 5 ∨ k = 6 ∨ k = 7 ∨ k = 8 := by omega

set_option maxHeartbeats 1600000 in
set_option maxRecDepth 20000 in
theorem named_any (s : ByteArray) (w : World) (hw : WordsAt w) (hn : s.size ≤ 9223372036854775807) :
    Calls Tryd.prog 32 #[.string s] w fun e w' => e = .returned (.bool (namedL s.toList)) ∧ w' = w := by
  by_cases hs : s.size < 1 ∨ 12 < s.size
  · have e := namedL_short hs
    rcases hs with hs | hs
    · go_enter Tryd.func32, Tryd.ntmps32
      go_wp2
      go_ret
      exact ⟨rfl, rfl⟩
    · have hs1 : ¬ s.size < 1 := by omega
      rw [e]
      clear e
      go_enter Tryd.func32, Tryd.ntmps32
      go_wp2
      go_ret
      exact ⟨rfl, rfl⟩
  · have c0 := hw 0 _ rfl
    have c1 : w.cell? ⟨0, 1, none⟩ = some (.string ⟨#[101, 110, 117, 109]⟩) := hw 1 _ rfl
    have c2 : w.cell? ⟨0, 2, none⟩ = some (.string ⟨#[103, 111, 110, 101]⟩) := hw 2 _ rfl
    have c3 : w.cell? ⟨0, 3, none⟩ = some (.string ⟨#[105, 110, 116]⟩) := hw 3 _ rfl
    have c4 : w.cell? ⟨0, 4, none⟩ = some (.string ⟨#[109, 97, 110, 121]⟩) := hw 4 _ rfl
    have c5 : w.cell? ⟨0, 5, none⟩ = some (.string ⟨#[109, 97, 121, 98, 101]⟩) := hw 5 _ rfl
    have c6 : w.cell? ⟨0, 6, none⟩ = some (.string ⟨#[109, 101, 115, 115, 97, 103, 101]⟩) := hw 6 _ rfl
    have c7 : w.cell? ⟨0, 7, none⟩ = some (.string ⟨#[111, 110, 101]⟩) := hw 7 _ rfl
    have c8 : w.cell? ⟨0, 8, none⟩ = some (.string ⟨#[116, 101, 120, 116]⟩) := hw 8 _ rfl
    have hs1 : 1 ≤ s.size := by omega
    have hs2 : s.size ≤ 12 := by omega
    clear hs hw
    go_enter Tryd.func32, Tryd.ntmps32
    go_wp2
    go_loop [16] (fun i => ∃ k : Nat, k ≤ s.size ∧ i = .int .i64 k ∧ LettersTo s k) (fun i => s.size - (intOf i).toNat)
    case atStart => exact ⟨0, by omega, rfl, LettersTo.zero _⟩
    case round =>
      obtain ⟨k, hk, rfl, hne⟩ := hrel
      have Hne : Hid (LettersTo s k) := hne
      clear hne
      by_cases hlt : k < s.size
      · cases hl : letterB s[k]
        · have Hl : Hid (letterB s[k] = false) := hl
          clear hl
          go_wp2_with (go_at_call 52; refine (isLetter_any _ _).mono ?_; rintro e w' ⟨rfl, rfl⟩; rw [Hl.out])
          go_ret
          exact ⟨by rw [namedL_letter hlt Hl.out]; rfl, rfl⟩
        · have Hl : Hid (letterB s[k] = true) := hl
          clear hl
          go_wp2_with (go_at_call 52; refine (isLetter_any _ _).mono ?_; rintro e w' ⟨rfl, rfl⟩; rw [Hl.out])
          exact ⟨⟨k + 1, by omega, by go_num, LettersTo.succ Hne.out hlt Hl.out⟩, by simp [intOf]; omega⟩
      · go_wp2
        go_loop [26] (fun i => ∃ k : Nat, k ≤ 9 ∧ i = .int .i64 k ∧ NotWords s.toList k) (fun i => 9 - (intOf i).toNat)
        case atStart => exact ⟨0, by omega, rfl, fun _ h => by omega⟩
        case round =>
          obtain ⟨j, hj, rfl, hnw⟩ := hrel
          have Hnw : Hid (NotWords s.toList j) := hnw
          clear hnw
          by_cases hlj : j < 9
          · have h9 := nine j hlj
            obtain ⟨z, hz⟩ : ∃ z : Int, (j : Int) = z := ⟨_, rfl⟩
            rw [hz]
            rcases h9 with rfl | rfl | rfl | rfl | rfl | rfl | rfl | rfl | rfl
            all_goals
              simp only [Int.cast_ofNat_Int] at hz
              subst hz
              have i0 := word0
              have i1 := word1
              have i2 := word2
              have i3 := word3
              have i4 := word4
              have i5 := word5
              have i6 := word6
              have i7 := word7
              have i8 := word8
              go_wp2
              · have hww := ‹(s.toList == _) = true›
                go_ret
                exact ⟨by rw [namedL_word (word_is hww (by decide))]; rfl, rfl⟩
              · have hww := ‹(s.toList == _) = false›
                exact ⟨⟨_, by omega, by go_num, NotWords.succ Hnw.out (not_word rfl hww)⟩, by simp [intOf]⟩
          · go_wp2
            go_ret
            obtain rfl : j = 9 := by omega
            exact ⟨by rw [namedL_yes hs1 hs2 Hne.out (by omega) Hnw.out.no]; rfl, rfl⟩
end Go.Proofs.YtblkgaoafejefaaDoor
